/- Flat: the records of sets. -/
import Derived.Test.YtfopfplpfhncfaaGreatRec
namespace Go.Proofs.YtfopfplpfhncfaaGreat
open Go.RowKit

theorem flatP_append (A B : List SetP) : flatP (A ++ B) = flatP A ++ flatP B := List.flatMap_append
theorem flatP_take (L : List SetP) (k : Nat) (s : SetP) (h : L[k]? = some s) : flatP (L.take (k + 1)) = flatP (L.take k) ++ recs s := by
  rw [List.take_add_one, h, flatP_append]
  simp [flatP]
theorem flatP_le (L : List SetP) (k : Nat) : (flatP (L.take k)).length ≤ (flatP L).length := by
  have h : flatP L = flatP (L.take k) ++ flatP (L.drop k) := by rw [← flatP_append, List.take_append_drop]
  rw [h, List.length_append]; omega
theorem flatR_append (A B : List R5) : flatR (A ++ B) = flatR A ++ flatR B := List.flatMap_append

set_option maxRecDepth 100000 in
set_option maxHeartbeats 1600000 in
theorem flat_any (a : Option Addr) (len cap : Nat) (L : List SetP) (w : World) (h : SetsAt w a len L) (hlen : len ≤ 100000) (hsum : (flatP L).length ≤ 100000) :
    Calls Tryz.prog 40 #[.slice a len cap] w fun e w' => ∃ v, e = .returned v ∧ w'.ownsRow w.heap.size 125 5 v (flatP L).length (flatR (flatP L)) ∧ Below w.heap.size w w' := by
  obtain ⟨i0, hi, hz0, hz1, hz2⟩ := info_parts infoRR
  have HR := Lib.hid h
  have HL := Lib.hid h.1
  clear h
  go_enter Tryz.func40, Tryz.ntmps40
  go_wp2_with fail
  go_loopw [3, 8] (fun v i wr => ∃ k m : Nat, k ≤ len ∧ i = .int .i64 k ∧ Hid ((flatP (L.take k)).length = m) ∧ Hid (wr.ownsRow w.heap.size 125 5 v m (flatR (flatP (L.take k)))) ∧ Hid (Below w.heap.size w wr)) (fun _ i _ => len - (intOf i).toNat)
  case atStart => exact ⟨0, 0, Nat.zero_le _, rfl, rfl, World.ownsRow_nil _ _ _ _, Below.refl _ _⟩
  case round =>
    obtain ⟨k, m, hk, rfl, hm, ho, hbw⟩ := hrel
    by_cases hlt : k < len
    · rcases (HR.out.below hbw.out).2 with h9 | ⟨b, o, rfl, hbl, hc⟩
      · omega
      obtain ⟨p, c, hs⟩ := hc k hlt
      have hLk : L[k]? = some (L.getD k ssD) := by
        rw [List.getD_eq_getElem?_getD, List.getElem?_eq_getElem (by have := HL.out; omega)]; rfl
      obtain ⟨s, hss⟩ : ∃ s, L.getD k ssD = s := ⟨_, rfl⟩
      rw [hss] at hs hLk
      obtain ⟨⟨sn, st, sc1⟩, su, sd⟩ := s
      obtain ⟨dl, hdl2⟩ : ∃ x, sd.length = x := ⟨_, rfl⟩
      obtain ⟨c0, c1, c2, c3, c4, hrow, hnil⟩ := hs
      replace c0 : wr.cell? ⟨b, o + k * 5, none⟩ = some (.string sn) := c0
      replace c1 : wr.cell? ⟨b, o + k * 5 + 1, none⟩ = some (.int .i64 st) := c1
      replace c2 : wr.cell? ⟨b, o + k * 5 + 2, none⟩ = some (.int .i64 sc1) := c2
      replace c3 : wr.cell? ⟨b, o + k * 5 + 3, none⟩ = some (.int .i64 su) := c3
      replace c4 : wr.cell? ⟨b, o + k * 5 + 4, none⟩ = some (.slice p sd.length c) := c4
      replace hrow : RowS wr p sd.length sd := hrow
      rw [hdl2] at c4 hrow
      have hft := flatP_take L k _ hLk
      have hlr : (recs ⟨⟨sn, st, sc1⟩, su, sd⟩).length = dl := by rw [recs, List.length_map]; exact hdl2
      have hle := flatP_le L (k + 1)
      rw [hft, List.length_append, hlr, hm.out] at hle
      have HFT := Lib.hid hft
      have HLR := Lib.hid hlr
      have HROW := Lib.hid hrow
      have hb1 := (Below.refl wr.heap.size wr).alloc (Nat.le_refl _) (.cells #[.string sn, .int .i64 st, .int .i64 sc1, .int .i64 su, .slice p dl c] 38)
      have HB1 := Lib.hid hb1
      have HBX := Lib.hid (hbw.out.trans (hb1.mono hbw.out.size))
      have HO1 := Lib.hid (own_below' ho.out hb1)
      have hdlb : dl ≤ 100000 := by omega
      have hmb : m + dl ≤ 1000000 := by omega
      clear hc hss hdl2 hrow hnil hLk hb1 hft hlr hle
      go_wp2_with fail
      refine (records_any sn st sc1 su sd p dl c _ (HROW.out.below HB1.out) hdlb).mono ?_; rintro e w2 ⟨v2, rfl, hown, hb⟩
      obtain ⟨a2, cc2, rfl, hrr, hnn⟩ := rowR_own hown
      have HRR := Lib.hid hrr
      have HNN := Lib.hid hnn
      have HO2 := Lib.hid (own_below' HO1.out hb)
      have HB2 := Lib.hid (HBX.out.trans (hb.mono HBX.out.size))
      clear hb hown hrr hnn c0 c1 c2 c3 c4
      go_wp2_with (at_builtin; refine append_cellsK rfl _ _ 22 125 rfl i0 _ 5 56 Tryz.underlying22 hi hz0 hz1 hz2 rfl (by decide) w.heap.size _ m _ rfl HO2.out a2 dl cc2 (flatR (recs ⟨⟨sn, st, sc1⟩, su, sd⟩)) rfl HNN.out HRR.out.2 (flatR_one _) hmb (by decide) HB2.out.size ?_)
      intro v' w3 hown' hgrow'
      have HO3 := Lib.hid hown'
      have HB3 := Lib.hid (HB2.out.grown hgrow' HB2.out.size (fun k hk => (HO2.out.lt k hk).1))
      clear hown' hgrow'
      go_wp2
      go_roundw
      case rel => exact ⟨k + 1, m + dl, by omega, by go_num, Lib.hid (by rw [HFT.out, List.length_append, hm.out, HLR.out]), Lib.hid (by rw [HFT.out, flatR_append]; exact HO3.out), HB3⟩
      case measure => simp [intOf]; omega
    · have HF := Lib.hid (show wr.ownsRow w.heap.size 125 5 u3 (flatP L).length (flatR (flatP L)) by
        have h1 := ho.out
        have h2 := hm.out
        rw [List.take_of_length_le (by rw [HL.out]; omega)] at h1 h2
        rw [h2]; exact h1)
      clear ho hm
      go_wp2
      go_ret
      exact ⟨_, rfl, HF.out, hbw.out⟩
end Go.Proofs.YtfopfplpfhncfaaGreat
