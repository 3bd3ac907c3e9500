/- Plains, the document's Find: the data's rows lie where they lay. -/
import Derived.Test.YtfopfplpfhncfaaRFi
import Derived.Test.YtfopfplpfhncfaaPlS
namespace Go.Proofs.Ytfopfplpfhncfaa
open Go.RowKit

/-- A set's cells at w, its data at an older world w0. -/
def SetOld (w w0 : World) (b o : Nat) (s : SetP) (p : Option Addr) (c : Nat) : Prop := w.cell? ⟨b, o, none⟩ = some (.string s.k.n) ∧ w.cell? ⟨b, o + 1, none⟩ = some (.int .i64 s.k.t) ∧ w.cell? ⟨b, o + 2, none⟩ = some (.int .i64 s.k.c) ∧ w.cell? ⟨b, o + 3, none⟩ = some (.int .i64 s.ttl) ∧ w.cell? ⟨b, o + 4, none⟩ = some (.slice p s.data.length c) ∧ RowS w0 p s.data.length s.data ∧ (p = none → s.data.length = 0 ∧ c = 0)
theorem SetOld.below {w w' w0 : World} {b o : Nat} {s : SetP} {p : Option Addr} {c : Nat} (h : SetOld w w0 b o s p c) (hlt : b < w.heap.size) (hb : Below w.heap.size w w') : SetOld w' w0 b o s p c := by
  obtain ⟨h0, h1, h2, h3, h4, h5, h6⟩ := h
  exact ⟨(hb.cell hlt).trans h0, (hb.cell hlt).trans h1, (hb.cell hlt).trans h2, (hb.cell hlt).trans h3, (hb.cell hlt).trans h4, h5, h6⟩
def SetsOld (w w0 : World) (a : Option Addr) (n : Nat) (L : List SetP) : Prop := L.length = n ∧ (n = 0 ∨ ∃ b off, a = some ⟨b, off, none⟩ ∧ b < w.heap.size ∧ ∀ k, k < n → ∃ p c, SetOld w w0 b (off + k * 5) (L.getD k ssD) p c)
theorem SetsOld.below {w w' w0 : World} {a : Option Addr} {n : Nat} {L : List SetP} (h : SetsOld w w0 a n L) (hb : Below w.heap.size w w') : SetsOld w' w0 a n L := by
  refine ⟨h.1, ?_⟩
  rcases h.2 with h0 | ⟨b, off, rfl, hlt, hc⟩
  · exact Or.inl h0
  · exact Or.inr ⟨b, off, rfl, Nat.lt_of_lt_of_le hlt hb.size, fun k hk => by
      obtain ⟨p, c, h⟩ := hc k hk
      exact ⟨p, c, h.below hlt hb⟩⟩
theorem SetsAt.old {w : World} {a : Option Addr} {n : Nat} {L : List SetP} (h : SetsAt w a n L) : SetsOld w w a n L := h
theorem SetsOld.at {w w0 : World} {a : Option Addr} {n : Nat} {L : List SetP} (h : SetsOld w w0 a n L) (hb : Below w0.heap.size w0 w) : SetsAt w a n L := by
  refine ⟨h.1, ?_⟩
  rcases h.2 with h0 | ⟨b, off, rfl, hlt, hc⟩
  · exact Or.inl h0
  · exact Or.inr ⟨b, off, rfl, hlt, fun k hk => by
      obtain ⟨p, c, h1, h2, h3, h4, h5, h6, h7⟩ := hc k hk
      exact ⟨p, c, h1, h2, h3, h4, h5, h6.below hb, h7⟩⟩
theorem SetsOld.old {w w0 w1 : World} {a : Option Addr} {n : Nat} {L : List SetP} (h : SetsOld w w0 a n L) (hb : Below w0.heap.size w0 w1) : SetsOld w w1 a n L := by
  refine ⟨h.1, ?_⟩
  rcases h.2 with h0 | ⟨b, off, rfl, hlt, hc⟩
  · exact Or.inl h0
  · exact Or.inr ⟨b, off, rfl, hlt, fun k hk => by
      obtain ⟨p, c, h1, h2, h3, h4, h5, h6, h7⟩ := hc k hk
      exact ⟨p, c, h1, h2, h3, h4, h5, h6.below hb, h7⟩⟩
theorem setsOld_own {w w0 : World} {B n : Nat} {e : TypeId} {v : Value} {L : List (SetP × Value)} (h : w.ownsRow B e 5 v n (flatS L)) (hd : ∀ p ∈ L, DataAt w0 p) : ∃ a c, v = .slice a n c ∧ SetsOld w w0 a n (L.map Prod.fst) ∧ (a = none → n = 0 ∧ c = 0) := by
  obtain ⟨a, c, e, h1, h2⟩ := cellsK_own h
  have hn : L.length = n := by have := h.1; rw [flatS_len] at this; omega
  refine ⟨a, c, e, ⟨by rw [List.length_map]; exact hn, ?_⟩, h2⟩
  rcases h1.2 with h0 | ⟨b, off, rfl, hlt, hc⟩
  · exact Or.inl (by omega)
  refine Or.inr ⟨b, off, rfl, hlt, fun k hk => ?_⟩
  obtain ⟨p, hp⟩ : ∃ p, L[k]? = some p := ⟨_, List.getElem?_eq_getElem (by omega)⟩
  obtain ⟨da, dc, k1, k2, k3⟩ := hd p (List.mem_of_getElem? hp)
  have hg : ∀ i, i < 5 → ∀ u, (encS p)[i]? = some u → w.cell? ⟨b, off + k * 5 + i, none⟩ = some u := fun i hi u hu => by
    have h4 := hc (k * 5 + i) u (by
      rw [flatS, flatMap_get encS 5 encS_len (by omega), show (k * 5 + i) / 5 = k by omega, show (k * 5 + i) % 5 = i by omega, hp]
      exact hu)
    rw [Nat.add_assoc]; exact h4
  have hgd : (L.map Prod.fst).getD k ssD = p.1 := by
    rw [List.getD_eq_getElem?_getD, List.getElem?_map, hp]; rfl
  rw [hgd]
  exact ⟨da, dc, hg 0 (by omega) _ rfl, hg 1 (by omega) _ rfl, hg 2 (by omega) _ rfl, hg 3 (by omega) _ rfl, by rw [← k1]; exact hg 4 (by omega) _ rfl, k2, k3⟩

set_option maxRecDepth 100000 in
set_option maxHeartbeats 1600000 in
theorem plains_old (a : Option Addr) (len cap : Nat) (L : List SetP) (w w0 : World) (h : SetsOld w w0 a len L) (hlen : len ≤ 100000) :
    Calls Try.prog 15 #[.slice a len cap] w fun e w' => (∃ a' c', e = .returned (.slice a' len c') ∧ SetsOld w' w0 a' len L) ∧ Below w.heap.size w w' := by
  obtain ⟨i0, hi, hz0, hz1, hz2⟩ := info_parts infoRSet
  have HR := Lib.hid h
  have HL := Lib.hid h.1
  clear h
  go_enter Try.func15, Try.ntmps15
  go_wp2_with fail
  go_loopw [3, 4] (fun v i wr => ∃ (k : Nat) (P : List (SetP × Value)), k ≤ len ∧ i = .int .i64 k ∧ Hid (P.map Prod.fst = L.take k ∧ (∀ p ∈ P, DataAt w0 p)) ∧ Hid (wr.ownsRow w.heap.size 37 5 v k (flatS P)) ∧ Hid (Below w.heap.size w wr)) (fun _ i _ => len - (intOf i).toNat)
  case atStart => exact ⟨0, [], Nat.zero_le _, rfl, ⟨rfl, (fun p hp => by cases hp)⟩, World.ownsRow_nil _ _ _ _, Below.refl _ _⟩
  case round =>
    obtain ⟨k, P, hk, rfl, hP, ho, hbw⟩ := hrel
    by_cases hlt : k < len
    · rcases HR.out.2 with h9 | ⟨b, o, rfl, hbl, hc⟩
      · omega
      obtain ⟨p, c, hs⟩ := hc k hlt
      have hLk : L[k]? = some (L.getD k ssD) := by
        rw [List.getD_eq_getElem?_getD, List.getElem?_eq_getElem (by have := HL.out; omega)]; rfl
      obtain ⟨s, hss⟩ : ∃ s, L.getD k ssD = s := ⟨_, rfl⟩
      rw [hss] at hs hLk
      have hrow : RowS w0 p s.data.length s.data := hs.2.2.2.2.2.1
      replace hs := hs.below hbl hbw.out
      obtain ⟨⟨sn, st, sc1⟩, su, sd⟩ := s
      obtain ⟨dl, hdl2⟩ : ∃ x, sd.length = x := ⟨_, rfl⟩
      obtain ⟨c0, c1, c2, c3, c4, -, hnil⟩ := hs
      replace c0 : wr.cell? ⟨b, o + k * 5, none⟩ = some (.string sn) := c0
      replace c1 : wr.cell? ⟨b, o + k * 5 + 1, none⟩ = some (.int .i64 st) := c1
      replace c2 : wr.cell? ⟨b, o + k * 5 + 2, none⟩ = some (.int .i64 sc1) := c2
      replace c3 : wr.cell? ⟨b, o + k * 5 + 3, none⟩ = some (.int .i64 su) := c3
      replace c4 : wr.cell? ⟨b, o + k * 5 + 4, none⟩ = some (.slice p sd.length c) := c4
      replace hrow : RowS w0 p sd.length sd := hrow
      replace hnil : p = none → sd.length = 0 ∧ c = 0 := hnil
      have HDA := Lib.hid (show DataAt w0 (⟨⟨sn, st, sc1⟩, su, sd⟩, .slice p sd.length c) from ⟨p, c, rfl, hrow, hnil⟩)
      rw [hdl2] at c4 HDA
      have HTK := Lib.hid (show (P ++ [((⟨⟨sn, st, sc1⟩, su, sd⟩ : SetP), Value.slice p dl c)]).map Prod.fst = L.take (k + 1) by
        rw [List.map_append, hP.out.1, List.take_add_one, hLk]; rfl)
      clear hc hss hdl2 hrow hnil hLk
      go_wp2_with fail
      refine (plain_any sn st sc1 su p dl c wr).mono ?_; rintro e w2 ⟨rfl, hb⟩
      have HO2 := Lib.hid (own_below' ho.out hb)
      have HB2 := Lib.hid (hbw.out.trans (hb.mono hbw.out.size))
      have HP2 := Lib.hid (show ∀ q ∈ P ++ [((⟨⟨sn, st, sc1⟩, su, sd⟩ : SetP), Value.slice p dl c)], DataAt w0 q from fun q hq => by
        rcases List.mem_append.1 hq with h1 | h1
        · exact hP.out.2 q h1
        · obtain rfl := List.mem_singleton.1 h1; exact HDA.out)
      have HBA := Lib.hid ((Below.refl w2.heap.size w2).alloc (Nat.le_refl _) (.cells #[.string sn, .int .i64 st, .int .i64 sc1, .int .i64 su, .slice p dl c] 37))
      clear hb c0 c1 c2 c3 c4
      go_wp2_with (at_builtin; refine append_cellsK rfl _ _ 40 37 rfl i0 _ 5 64 Try.underlying40 hi hz0 hz1 hz2 rfl (by decide) w.heap.size _ k _ rfl (own_below' HO2.out HBA.out) (some ⟨w2.heap.size, 0, none⟩) 1 1 (encS (⟨⟨sn, st, sc1⟩, su, sd⟩, .slice p dl c)) rfl (fun h => by cases h) (cells_lit w2 #[.string sn, .int .i64 st, .int .i64 sc1, .int .i64 su, .slice p dl c] _) (encS_one _ ⟨_, _, _, rfl⟩) (by omega) (by decide) (by have := HB2.out.size; simp; omega) ?_)
      intro v' w3 hown' hgrow'
      have HO3 := Lib.hid hown'
      have HBT := Lib.hid ((HB2.out.trans (HBA.out.mono HB2.out.size)).grown hgrow' (by have := HB2.out.size; simp; omega) (fun k hk => (HO2.out.lt k hk).1))
      clear hown' hgrow'
      go_wp2
      go_roundw
      case rel => exact ⟨k + 1, P ++ [((⟨⟨sn, st, sc1⟩, su, sd⟩ : SetP), Value.slice p dl c)], by omega, by go_num, ⟨HTK.out, HP2.out⟩, Lib.hid (by rw [flatS_append]; simpa [flatS] using HO3.out), HBT⟩
      case measure => simp [intOf]; omega
    · have hkn : k = len := by omega
      subst hkn
      obtain ⟨a', c', rfl, hsa, _⟩ := setsOld_own ho.out hP.out.2
      rw [hP.out.1, List.take_of_length_le (by rw [HL.out]; exact Nat.le_refl _)] at hsa
      have HS := Lib.hid hsa
      clear ho hP hsa
      go_wp2
      go_ret
      exact ⟨⟨_, _, rfl, HS.out⟩, hbw.out⟩

set_option maxRecDepth 100000 in
set_option maxHeartbeats 1600000 in
theorem rfind_old (a : Option Addr) (len cap : Nat) (L : List SetP) (kn : ByteArray) (kt kc : Int) (w w0 : World) (h : SetsOld w w0 a len L) (hlen : len ≤ 100000) :
    Calls Try.prog 14 #[.slice a len cap, .agg #[.string kn, .int .i64 kt, .int .i64 kc]] w fun e w' => RFound L ⟨kn, kt, kc⟩ w0 e ∧ Below w.heap.size w w' := by
  have HR := Lib.hid h
  have HL := Lib.hid h.1
  have hq1 := (Below.refl w.heap.size w).alloc (Nat.le_refl _) (.cells #[.string kn, .int .i64 kt, .int .i64 kc] 35)
  have hq2 := (Below.refl _ (w.alloc (.cells #[.string kn, .int .i64 kt, .int .i64 kc] 35))).alloc (Nat.le_refl _) (.cells #[.string ⟨#[]⟩, .int .i64 0, .int .i64 0, .int .i64 0, .slice none 0 0] 37)
  have HK := Lib.hid ((kyAt_new w ⟨kn, kt, kc⟩ 35).below hq2)
  have hc := c5_new (w.alloc (.cells #[.string kn, .int .i64 kt, .int .i64 kc] 35)) (.string ⟨#[]⟩) (.int .i64 0) (.int .i64 0) (.int .i64 0) (.slice none 0 0) 37
  rw [World.size_alloc] at hc
  have HC := Lib.hid hc
  have HB := Lib.hid (hq1.trans (hq2.mono hq1.size))
  clear h hq1 hq2 hc
  go_enter Try.func14, Try.ntmps14
  go_wp2_with fail
  obtain ⟨w1, hw1⟩ : ∃ x, ((w.alloc (.cells #[.string kn, .int .i64 kt, .int .i64 kc] 35)).alloc (.cells #[.string ⟨#[]⟩, .int .i64 0, .int .i64 0, .int .i64 0, .slice none 0 0] 37)) = x := ⟨_, rfl⟩
  rw [hw1] at HK HC HB ⊢
  clear hw1
  obtain ⟨q2, hq2⟩ : ∃ q, w.heap.size + 1 = q := ⟨_, rfl⟩
  rw [hq2] at HC ⊢
  have HQ2 := Lib.hid hq2
  obtain ⟨q, hq⟩ : ∃ q, w.heap.size = q := ⟨_, rfl⟩
  have HQ := Lib.hid hq
  rw [show (Value.pointer (some { block := w.heap.size, off := 0 })) = Value.pointer (some { block := q, off := 0 }) by rw [hq]]
  replace HK : Hid (KyAt w1 q ⟨kn, kt, kc⟩) := by rw [← hq]; exact HK
  clear hq hq2
  go_loopw [6] (fun i wr => ∃ k m : Nat, k ≤ len ∧ i = .int .i64 k ∧ Hid (∀ s ∈ L.take k, s.k ≠ ⟨kn, kt, kc⟩) ∧ wr = w1.drewN m) (fun i _ => len - (intOf i).toNat)
  case atStart => exact ⟨0, 0, Nat.zero_le _, rfl, (fun s hs => by simp at hs), rfl⟩
  case round =>
    obtain ⟨k, m, hk, rfl, hno, rfl⟩ := hrel
    by_cases hlt : k < len
    · rcases HR.out.2 with h9 | ⟨b, o, rfl, hbl, hc⟩
      · omega
      obtain ⟨p, c, hs⟩ := hc k hlt
      have hLk : L[k]? = some (L.getD k ssD) := by
        rw [List.getD_eq_getElem?_getD, List.getElem?_eq_getElem (by have := HL.out; omega)]; rfl
      obtain ⟨s, hss⟩ : ∃ s, L.getD k ssD = s := ⟨_, rfl⟩
      rw [hss] at hs hLk
      obtain ⟨⟨sn, st, sc1⟩, su, sd⟩ := s
      obtain ⟨dl, hdl2⟩ : ∃ x, sd.length = x := ⟨_, rfl⟩
      have hrow : RowS w0 p sd.length sd := hs.2.2.2.2.2.1
      obtain ⟨c0, c1, c2, c3, c4, -, -⟩ := hs.below hbl HB.out
      replace c0 : w1.cell? ⟨b, o + k * 5, none⟩ = some (.string sn) := c0
      replace c1 : w1.cell? ⟨b, o + k * 5 + 1, none⟩ = some (.int .i64 st) := c1
      replace c2 : w1.cell? ⟨b, o + k * 5 + 2, none⟩ = some (.int .i64 sc1) := c2
      replace c3 : w1.cell? ⟨b, o + k * 5 + 3, none⟩ = some (.int .i64 su) := c3
      replace c4 : w1.cell? ⟨b, o + k * 5 + 4, none⟩ = some (.slice p sd.length c) := c4
      rw [hdl2] at c4
      have HDL := Lib.hid hdl2
      have HROW := Lib.hid hrow
      have HLK := Lib.hid hLk
      obtain ⟨hqs, p0, p1, p2⟩ := HK.out
      replace p0 : w1.cell? ⟨q, 0, none⟩ = some (.string kn) := p0
      replace p1 : w1.cell? ⟨q, 1, none⟩ = some (.int .i64 kt) := p1
      replace p2 : w1.cell? ⟨q, 2, none⟩ = some (.int .i64 kc) := p2
      have i0 : (0 : Int) ≤ (k : Int) := by omega
      have i2 : (k : Int) < (len : Int) := by omega
      clear hc hss hs hdl2 hrow hLk
      by_cases hkey : (⟨sn, st, sc1⟩ : Ky) = ⟨kn, kt, kc⟩
      · have hke : ∀ W, (binOp .eql 35 (.agg #[.string sn, .int .i64 st, .int .i64 sc1]) (.agg #[.string kn, .int .i64 kt, .int .i64 kc])).run Try.prog W = .ok (.bool true) W := fun W => by
          rw [rkey_eql, (key_same ⟨sn, st, sc1⟩ ⟨kn, kt, kc⟩).2 hkey]
        have HF := Lib.hid (findK_some hno.out HLK.out hkey)
        obtain ⟨_, r0, r1, r2, r3, r4, f0, f1, f2, f3, f4⟩ := HC.out
        clear hkey
        go_wp2_with fail
        go_quiet (fail)
        rename_i nq
        have hbq3 := below_drewN (Below.refl w1.heap.size w1) (m + nq)
        have HC2 := Lib.hid (HC.out.below hbq3)
        have HBQ := Lib.hid (HB.out.trans (hbq3.mono HB.out.size))
        have HC3 := Lib.hid (HC2.out.set (.string sn) (.int .i64 st) (.int .i64 sc1) (.int .i64 su) (.slice p dl c))
        have HB3 := Lib.hid (below_set5 HBQ.out (q := q2) (by have := HQ2.out; omega) (.string sn) (.int .i64 st) (.int .i64 sc1) (.int .i64 su) (.slice p dl c))
        clear hbq3
        go_wp2
        obtain ⟨wz, hwz⟩ : ∃ x, ((((((w1.drewN (m + nq)).setCell { block := q2, off := 0 } (Value.string sn)).setCell { block := q2, off := 1 } (Value.int IntKind.i64 st)).setCell { block := q2, off := 2 } (Value.int IntKind.i64 sc1)).setCell { block := q2, off := 3 } (Value.int IntKind.i64 su)).setCell { block := q2, off := 4 } (Value.slice p dl c)) = x := ⟨_, rfl⟩
        rw [hwz] at HC3 HB3 ⊢
        clear hwz r0 r1 r2 r3 r4 f0 f1 f2 f3 f4 HC2
        obtain ⟨_, z0, z1, z2, z3, z4, _⟩ := HC3.out
        refine bodyPost_ret (v := .tuple #[.agg #[.string sn, .int .i64 st, .int .i64 sc1, .int .i64 su, .slice p dl c], .bool true]) (by simp [results, Try.results14, go_sem, z0, z1, z2, z3, z4]) rfl ⟨Or.inl ⟨_, p, c, HF.out, ?_, ?_⟩, HB3.out⟩
        · show _ = Ending.returned (.tuple #[.agg #[.string sn, .int .i64 st, .int .i64 sc1, .int .i64 su, .slice p sd.length c], .bool true])
          rw [HDL.out]
        · exact HROW.out
      · have hke : ∀ W, (binOp .eql 35 (.agg #[.string sn, .int .i64 st, .int .i64 sc1]) (.agg #[.string kn, .int .i64 kt, .int .i64 kc])).run Try.prog W = .ok (.bool false) W := fun W => by
          rw [rkey_eql, show (sn.toList == kn.toList && (st == kt && sc1 == kc)) = false from Bool.eq_false_iff.2 (fun h => hkey ((key_same ⟨sn, st, sc1⟩ ⟨kn, kt, kc⟩).1 h))]
        have HN := Lib.hid (show ∀ s ∈ L.take (k + 1), s.k ≠ ⟨kn, kt, kc⟩ from fun s hs => by
          rw [List.take_add_one, HLK.out] at hs
          rcases List.mem_append.1 hs with h1 | h1
          · exact hno.out s h1
          · have h2 : s = ⟨⟨sn, st, sc1⟩, su, sd⟩ := by simpa using h1
            rw [h2]; exact hkey)
        clear hkey
        go_wp2_with fail
        go_quiet (fail)
        go_wp2
        rename_i nq
        go_roundw
        case rel => exact ⟨k + 1, m + nq, by omega, by go_num, HN.out, by first | rfl | exact drewN_add _ _ _⟩
        case measure => simp [intOf]; omega
    · have HF := Lib.hid (findK_none hno.out (show L.length ≤ k by rw [HL.out]; omega))
      have hbq := below_drewN (Below.refl w1.heap.size w1) m
      have HC3 := Lib.hid ((HC.out.below hbq).set (.string ⟨#[]⟩) (.int .i64 0) (.int .i64 0) (.int .i64 0) (.slice none 0 0))
      have HB3 := Lib.hid (below_set5 (HB.out.trans (hbq.mono HB.out.size)) (q := q2) (by have := HQ2.out; omega) (.string ⟨#[]⟩) (.int .i64 0) (.int .i64 0) (.int .i64 0) (.slice none 0 0))
      obtain ⟨_, r0, r1, r2, r3, r4, f0, f1, f2, f3, f4⟩ := HC.out
      clear hbq
      go_wp2
      obtain ⟨wz, hwz⟩ : ∃ x, ((((((w1.drewN m).setCell { block := q2, off := 0 } (Value.string ⟨#[]⟩)).setCell { block := q2, off := 1 } (Value.int IntKind.i64 0)).setCell { block := q2, off := 2 } (Value.int IntKind.i64 0)).setCell { block := q2, off := 3 } (Value.int IntKind.i64 0)).setCell { block := q2, off := 4 } (Value.slice none 0 0)) = x := ⟨_, rfl⟩
      rw [hwz] at HC3 HB3 ⊢
      clear hwz r0 r1 r2 r3 r4 f0 f1 f2 f3 f4
      obtain ⟨_, z0, z1, z2, z3, z4, _⟩ := HC3.out
      refine bodyPost_ret (v := .tuple #[.agg #[.string ⟨#[]⟩, .int .i64 0, .int .i64 0, .int .i64 0, .slice none 0 0], .bool false]) (by simp [results, Try.results14, go_sem, z0, z1, z2, z3, z4]) rfl ⟨Or.inr ⟨HF.out, rfl⟩, HB3.out⟩
end Go.Proofs.Ytfopfplpfhncfaa
