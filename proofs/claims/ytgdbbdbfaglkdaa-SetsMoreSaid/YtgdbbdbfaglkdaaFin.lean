/- Find: the first set of a key. -/
import Derived.Test.YtgdbbdbfaglkdaaSkE
namespace Go.Proofs.Ytgdbbdbfaglkdaa
open Go.RowKit

/-- The first set of a key. -/
noncomputable def findK (L : List SetP) (k : Ky) : Option SetP := open Classical in L.find? (fun s => decide (s.k = k))
/-- What Find answers. -/
def Found (L : List SetP) (k : Ky) (B : Nat) (e : Ending) (w' : World) : Prop :=
  (∃ s dv, findK L k = some s ∧ e = .returned (.tuple #[.agg #[.string s.k.n, .int .i64 s.k.t, .int .i64 s.k.c, .int .i64 s.ttl, dv], .bool true]) ∧ w'.ownsRow B 9 1 dv s.data.length (sc s.data)) ∨ (findK L k = none ∧ e = .returned (.tuple #[.agg #[.string ⟨#[]⟩, .int .i64 0, .int .i64 0, .int .i64 0, .slice none 0 0], .bool false]))
theorem findK_none {L : List SetP} {k : Ky} {j : Nat} (h : ∀ s ∈ L.take j, s.k ≠ k) (hj : L.length ≤ j) : findK L k = none := by
  rw [List.take_of_length_le hj] at h
  exact List.find?_eq_none.2 fun s hs => by simpa using h s hs
theorem findK_some {L : List SetP} {k : Ky} {j : Nat} {s : SetP} (h : ∀ s ∈ L.take j, s.k ≠ k) (hs : L[j]? = some s) (hk : s.k = k) : findK L k = some s := by
  obtain ⟨hlt, he⟩ := List.getElem?_eq_some_iff.1 hs
  have h1 : L = L.take j ++ s :: L.drop (j + 1) := by
    rw [← he, ← List.drop_eq_getElem_cons hlt, List.take_append_drop]
  have h2 : (L.take j).find? (fun s => open Classical in decide (s.k = k)) = none := List.find?_eq_none.2 fun s hs => by simpa using h s hs
  rw [h1, findK, List.find?_append, h2]
  simp [hk]

set_option maxRecDepth 100000 in
set_option maxHeartbeats 1600000 in
theorem find_any (a : Option Addr) (len cap : Nat) (L : List SetP) (kn : ByteArray) (kt kc : Int) (w : World) (h : SetsAt w a len L) (hlen : len ≤ 100000) (hd : ∀ s ∈ L, s.data.length ≤ 100000) :
    Calls Try.prog 42 #[.slice a len cap, .agg #[.string kn, .int .i64 kt, .int .i64 kc]] w fun e w' => Found L ⟨kn, kt, kc⟩ w.heap.size e w' ∧ Below w.heap.size w w' := by
  have HR := Lib.hid h
  have HD := Lib.hid hd
  have HL := Lib.hid h.1
  have hq1 := (Below.refl w.heap.size w).alloc (Nat.le_refl _) (.cells #[.string kn, .int .i64 kt, .int .i64 kc] 68)
  have hq2 := (Below.refl _ (w.alloc (.cells #[.string kn, .int .i64 kt, .int .i64 kc] 68))).alloc (Nat.le_refl _) (.cells #[.string ⟨#[]⟩, .int .i64 0, .int .i64 0, .int .i64 0, .slice none 0 0] 73)
  have HK := Lib.hid ((kyAt_new w ⟨kn, kt, kc⟩ 68).below hq2)
  have hc := c5_new (w.alloc (.cells #[.string kn, .int .i64 kt, .int .i64 kc] 68)) (.string ⟨#[]⟩) (.int .i64 0) (.int .i64 0) (.int .i64 0) (.slice none 0 0) 73
  rw [World.size_alloc] at hc
  have HC := Lib.hid hc
  have HB := Lib.hid (hq1.trans (hq2.mono hq1.size))
  have HZ := Lib.hid (show w.heap.size + 2 ≤ ((w.alloc (.cells #[.string kn, .int .i64 kt, .int .i64 kc] 68)).alloc (.cells #[.string ⟨#[]⟩, .int .i64 0, .int .i64 0, .int .i64 0, .slice none 0 0] 73)).heap.size by simp [World.size_alloc])
  clear h hd hq1 hq2 hc
  go_enter Try.func42, Try.ntmps42
  go_wp2_with fail
  obtain ⟨w1, hw1⟩ : ∃ x, ((w.alloc (.cells #[.string kn, .int .i64 kt, .int .i64 kc] 68)).alloc (.cells #[.string ⟨#[]⟩, .int .i64 0, .int .i64 0, .int .i64 0, .slice none 0 0] 73)) = x := ⟨_, rfl⟩
  rw [hw1] at HK HC HB HZ ⊢
  clear hw1
  obtain ⟨q2, hq2⟩ : ∃ q, w.heap.size + 1 = q := ⟨_, rfl⟩
  rw [hq2] at HC ⊢
  have HQ2 := Lib.hid hq2
  obtain ⟨q, hq⟩ : ∃ q, w.heap.size = q := ⟨_, rfl⟩
  have HQ := Lib.hid hq
  rw [show (Value.pointer (some { block := w.heap.size, off := 0 })) = Value.pointer (some { block := q, off := 0 }) by rw [hq]]
  replace HK : Hid (KyAt w1 q ⟨kn, kt, kc⟩) := by rw [← hq]; exact HK
  clear hq hq2
  go_loopw [10] (fun i wr => ∃ k : Nat, k ≤ len ∧ i = .int .i64 k ∧ Hid (∀ s ∈ L.take k, s.k ≠ ⟨kn, kt, kc⟩) ∧ Hid (KyAt wr q ⟨kn, kt, kc⟩) ∧ Hid (C5 wr q2 (.string ⟨#[]⟩) (.int .i64 0) (.int .i64 0) (.int .i64 0) (.slice none 0 0)) ∧ Hid (Below w.heap.size w wr) ∧ w.heap.size + 2 ≤ wr.heap.size) (fun i _ => len - (intOf i).toNat)
  case atStart => exact ⟨0, Nat.zero_le _, rfl, (fun s hs => by simp at hs), HK, HC, HB.out, HZ.out⟩
  case round =>
    obtain ⟨k, hk, rfl, hno, hky, hc5, hbw, hsz⟩ := hrel
    clear HK HC HB HZ
    by_cases hlt : k < len
    · rcases (HR.out.below hbw.out).2 with h9 | ⟨b, o, rfl, hbl, hc⟩
      · omega
      obtain ⟨p, c, hs⟩ := hc k hlt
      have hLk : L[k]? = some (L.getD k ssD) := by
        rw [List.getD_eq_getElem?_getD, List.getElem?_eq_getElem (by have := HL.out; omega)]; rfl
      have hdl := HD.out _ (List.mem_of_getElem? hLk)
      obtain ⟨s, hss⟩ : ∃ s, L.getD k ssD = s := ⟨_, rfl⟩
      rw [hss] at hs hLk hdl
      obtain ⟨⟨sn, st, sc1⟩, su, sd⟩ := s
      obtain ⟨dl, hdl2⟩ : ∃ x, sd.length = x := ⟨_, rfl⟩
      obtain ⟨c0, c1, c2, c3, c4, hrow, hnil⟩ := hs
      replace c0 : wr.cell? ⟨b, o + k * 5, none⟩ = some (.string sn) := c0
      replace c1 : wr.cell? ⟨b, o + k * 5 + 1, none⟩ = some (.int .i64 st) := c1
      replace c2 : wr.cell? ⟨b, o + k * 5 + 2, none⟩ = some (.int .i64 sc1) := c2
      replace c3 : wr.cell? ⟨b, o + k * 5 + 3, none⟩ = some (.int .i64 su) := c3
      replace c4 : wr.cell? ⟨b, o + k * 5 + 4, none⟩ = some (.slice p sd.length c) := c4
      replace hrow : RowS wr p sd.length sd := hrow
      replace hnil : p = none → sd.length = 0 ∧ c = 0 := hnil
      replace hdl : sd.length ≤ 100000 := hdl
      rw [hdl2] at c4 hrow hnil hdl
      have HDL := Lib.hid hdl2
      have HROW := Lib.hid hrow
      have HNIL := Lib.hid hnil
      have HLK := Lib.hid hLk
      have hb1 := (Below.refl wr.heap.size wr).alloc (Nat.le_refl _) (.cells #[.string sn, .int .i64 st, .int .i64 sc1, .int .i64 su, .slice p dl c] 73)
      have HB1 := Lib.hid hb1
      have HBX := Lib.hid (hbw.out.trans (hb1.mono hbw.out.size))
      obtain ⟨hqs, p0, p1, p2⟩ := hky.out
      clear hc hss hdl2 hrow hnil hLk hb1
      by_cases hkey : (⟨sn, st, sc1⟩ : Ky) = ⟨kn, kt, kc⟩
      · have hke : ∀ W, (binOp .eql 68 (.agg #[.string sn, .int .i64 st, .int .i64 sc1]) (.agg #[.string kn, .int .i64 kt, .int .i64 kc])).run Try.prog W = .ok (.bool true) W := fun W => by
          rw [key_eql, (key_same ⟨sn, st, sc1⟩ ⟨kn, kt, kc⟩).2 hkey]
        have HF := Lib.hid (findK_some hno.out HLK.out hkey)
        clear hkey
        go_wp2_with fail
        refine (copy_any sn st sc1 su sd p dl c _ (HROW.out.below HB1.out) HNIL.out (by omega)).mono ?_; rintro e w2 ⟨dv, rfl, hown, hb⟩
        have HC2 := Lib.hid ((hc5.out.below HB1.out).below hb)
        have HB2 := Lib.hid (HBX.out.trans (hb.mono HBX.out.size))
        have HO2 := Lib.hid (own_mono4 (base' := w.heap.size + 2) hown (by have := HB1.out.size; omega))
        obtain ⟨a', c', rfl, _⟩ := cells_own hown
        clear hb hown p0 p1 p2 c0 c1 c2 c3 c4 hc5 hky
        have HC3 := Lib.hid (HC2.out.set (.string sn) (.int .i64 st) (.int .i64 sc1) (.int .i64 su) (.slice a' dl c'))
        have HO3 := Lib.hid (own_set5 HO2.out (q := q2) (by have := HQ2.out; omega) (.string sn) (.int .i64 st) (.int .i64 sc1) (.int .i64 su) (.slice a' dl c'))
        have HB3 := Lib.hid (below_set5 HB2.out (q := q2) (by have := HQ2.out; omega) (.string sn) (.int .i64 st) (.int .i64 sc1) (.int .i64 su) (.slice a' dl c'))
        obtain ⟨_, r0, r1, r2, r3, r4, f0, f1, f2, f3, f4⟩ := HC2.out
        go_wp2
        obtain ⟨wz, hwz⟩ : ∃ x, (((((w2.setCell { block := q2, off := 0 } (Value.string sn)).setCell { block := q2, off := 1 } (Value.int IntKind.i64 st)).setCell { block := q2, off := 2 } (Value.int IntKind.i64 sc1)).setCell { block := q2, off := 3 } (Value.int IntKind.i64 su)).setCell { block := q2, off := 4 } (Value.slice a' dl c')) = x := ⟨_, rfl⟩
        rw [hwz] at HC3 HO3 HB3 ⊢
        clear hwz r0 r1 r2 r3 r4 f0 f1 f2 f3 f4 HC2
        obtain ⟨_, z0, z1, z2, z3, z4, _⟩ := HC3.out
        refine bodyPost_ret (v := .tuple #[.agg #[.string sn, .int .i64 st, .int .i64 sc1, .int .i64 su, .slice a' dl c'], .bool true]) (by simp [results, Try.results42, go_sem, z0, z1, z2, z3, z4]) rfl ⟨Or.inl ⟨_, _, HF.out, rfl, ?_⟩, HB3.out⟩
        show wz.ownsRow w.heap.size 9 1 (.slice a' dl c') sd.length (sc sd)
        rw [HDL.out]
        exact own_mono4 HO3.out (by omega)
      · have hke : ∀ W, (binOp .eql 68 (.agg #[.string sn, .int .i64 st, .int .i64 sc1]) (.agg #[.string kn, .int .i64 kt, .int .i64 kc])).run Try.prog W = .ok (.bool false) W := fun W => by
          rw [key_eql, show (sn.toList == kn.toList && (st == kt && sc1 == kc)) = false from Bool.eq_false_iff.2 (fun h => hkey ((key_same ⟨sn, st, sc1⟩ ⟨kn, kt, kc⟩).1 h))]
        have HN := Lib.hid (show ∀ s ∈ L.take (k + 1), s.k ≠ ⟨kn, kt, kc⟩ from fun s hs => by
          rw [List.take_add_one, HLK.out] at hs
          rcases List.mem_append.1 hs with h1 | h1
          · exact hno.out s h1
          · have h2 : s = ⟨⟨sn, st, sc1⟩, su, sd⟩ := by simpa using h1
            rw [h2]; exact hkey)
        have HKY := Lib.hid (hky.out.below HB1.out)
        have HC5 := Lib.hid (hc5.out.below HB1.out)
        have hsz1 := HB1.out.size
        have HS1 := Lib.hid (Nat.le_trans hsz hsz1)
        clear hkey hsz1
        go_wp2
        go_roundw
        case rel => exact ⟨k + 1, by omega, by go_num, HN.out, HKY.out, HC5.out, HBX.out, HS1.out⟩
        case measure => simp [intOf]; omega
    · have HF := Lib.hid (findK_none hno.out (show L.length ≤ k by rw [HL.out]; omega))
      have HC3 := Lib.hid (hc5.out.set (.string ⟨#[]⟩) (.int .i64 0) (.int .i64 0) (.int .i64 0) (.slice none 0 0))
      have HB3 := Lib.hid (below_set5 hbw.out (q := q2) (by have := HQ2.out; omega) (.string ⟨#[]⟩) (.int .i64 0) (.int .i64 0) (.int .i64 0) (.slice none 0 0))
      obtain ⟨_, r0, r1, r2, r3, r4, f0, f1, f2, f3, f4⟩ := hc5.out
      go_wp2
      obtain ⟨wz, hwz⟩ : ∃ x, (((((wr.setCell { block := q2, off := 0 } (Value.string ⟨#[]⟩)).setCell { block := q2, off := 1 } (Value.int IntKind.i64 0)).setCell { block := q2, off := 2 } (Value.int IntKind.i64 0)).setCell { block := q2, off := 3 } (Value.int IntKind.i64 0)).setCell { block := q2, off := 4 } (Value.slice none 0 0)) = x := ⟨_, rfl⟩
      rw [hwz] at HC3 HB3 ⊢
      clear hwz r0 r1 r2 r3 r4 f0 f1 f2 f3 f4
      obtain ⟨_, z0, z1, z2, z3, z4, _⟩ := HC3.out
      refine bodyPost_ret (v := .tuple #[.agg #[.string ⟨#[]⟩, .int .i64 0, .int .i64 0, .int .i64 0, .slice none 0 0], .bool false]) (by simp [results, Try.results42, go_sem, z0, z1, z2, z3, z4]) rfl ⟨Or.inr ⟨HF.out, rfl⟩, HB3.out⟩
end Go.Proofs.Ytgdbbdbfaglkdaa
