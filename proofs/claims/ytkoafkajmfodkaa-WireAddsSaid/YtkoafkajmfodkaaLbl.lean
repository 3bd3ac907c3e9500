/- Contracts of name.Labels, and of the document's (chapter 2), over this seat's translation. -/
import Derived.Test.YtkoafkajmfodkaaStA
import Derived.Test.YtkoafkajmfodkaaMayN
import Derived.OwnWalk
import Derived.Outline
namespace Go.Proofs.Ytkoafkajmfodkaa
open Go.RowKit

/-- Texts as cells. -/
def sc (l : List ByteArray) : List Value := l.map Value.string
theorem sc_oneCell (l : List ByteArray) : ∀ u ∈ sc l, u.oneCell' = true := by
  intro u hu
  simp only [sc, List.mem_map] at hu
  obtain ⟨_, _, rfl⟩ := hu
  rfl
theorem sc_append (l m : List ByteArray) : sc (l ++ m) = sc l ++ sc m := by simp [sc]
theorem infoStr : (Try.prog.info? 9).map (fun i => (i.zero, i.size, i.bytes)) = some (some (.string ⟨#[]⟩), 1, 16) := by kernel_rfl
theorem rowS_of_own {w : World} {B n : Nat} {v : Value} {l : List ByteArray} (h : w.ownsRow B 9 1 v n (sc l)) : ∃ a c, v = .slice a n c ∧ RowS w a n l ∧ (a = none → n = 0 ∧ c = 0) := by
  have hl : l.length = n := by have := h.1; simp only [sc, List.length_map, Nat.mul_one] at this; exact this
  rcases h.2 with ⟨rfl, rfl⟩ | ⟨g, cap, cur, rfl, hb, hg, rest⟩
  · exact ⟨none, 0, rfl, ⟨hl, Or.inl rfl⟩, fun _ => ⟨rfl, rfl⟩⟩
  · refine ⟨_, _, rfl, ⟨hl, Or.inr ⟨g, 0, rfl, (Array.getElem?_eq_some_iff.1 hg).1, fun j hj => ?_⟩⟩, fun h => by cases h⟩
    rw [Nat.zero_add, h.cellAt j (by omega)]
    simp [sc, show j < l.length by omega]
theorem one_str (s : ByteArray) : ∀ u ∈ [Value.string s], u.oneCell' = true := by
  intro u hu
  simp only [List.mem_cons, List.not_mem_nil, or_false] at hu
  subst hu
  rfl
theorem below_appendS {w wr w' : World} {v : Value} {B n : Nat} {xs : List Value} {o : Obj} (hb : Below B w wr) (hB : B ≤ wr.heap.size) (hown : wr.ownsRow B 9 1 v n xs) (hg : (wr.alloc o).grownBy w' v.ownBlock) : Below B w w' :=
  (hb.alloc hB o).grown hg (by simp; omega) (fun k hk => (hown.lt k hk).1)
/-- Some labels laid, the others not yet. -/
def halfL (L : List ByteArray) (k : Nat) : List Value := sc (L.take k) ++ List.replicate (L.length - k) (.string ⟨#[]⟩)
theorem halfL_next (L : List ByteArray) (k : Nat) (hk : k < L.length) : (halfL L k).set k (.string (tx L k)) = halfL L (k + 1) := by
  have e1 : (sc (L.take k)).length = k := by simp [sc]; omega
  rw [halfL, List.set_append_right _ _ (by omega), e1, Nat.sub_self, show L.length - k = (L.length - (k + 1)) + 1 by omega, List.replicate_succ, List.set_cons_zero, halfL, List.take_succ_eq_append_getElem hk, sc_append]
  simp [sc, tx, List.getD_eq_getElem?_getD, List.getElem?_eq_getElem hk]
theorem halfL_at (L : List ByteArray) (k : Nat) (hk : k < L.length) : (halfL L k)[k]? = some (.string ⟨#[]⟩) := by
  have e1 : (sc (L.take k)).length = k := by simp [sc]; omega
  rw [halfL, List.getElem?_append_right (by omega), e1, Nat.sub_self, show L.length - k = (L.length - (k + 1)) + 1 by omega, List.replicate_succ]
  rfl
theorem halfL_end (L : List ByteArray) : halfL L L.length = sc L := by simp [halfL]

theorem rlabels_no (s : ByteArray) (w : World) (h : mayN s = false) (hs : s.size ≤ 1000000) : Calls Try.prog 103 #[.string s] w fun e w' => e = .returned (.slice none 0 0) ∧ w = w' := by
  have HM := Lib.hid h
  clear h
  go_enter Try.func103, Try.ntmps103
  go_wp2_with fail
  refine (rmay_any _ _ hs).mono ?_; rintro e w' ⟨rfl, rfl⟩
  rw [HM.out]
  go_wp2
  go_ret
  exact ⟨rfl, rfl⟩

set_option maxRecDepth 100000 in
theorem rlabels_yes (L : List ByteArray) (w : World) (hL : OkL L) (hz : off L L.length ≤ 254) : Calls Try.prog 103 #[.string (nameB L)] w fun e w' => ∃ a c, e = .returned (.slice a L.length c) ∧ RowS w' a L.length L ∧ Below w.heap.size w w' := by
  have hm := labels_may hL hz
  have hsz := nameB_size L
  obtain ⟨i0, hi, hz0, hz1, hz2⟩ := info_parts infoStr
  have HI := Lib.hid hi
  have HZ0 := Lib.hid hz0
  have HZ1 := Lib.hid hz1
  have HZ2 := Lib.hid hz2
  have hge := off_ge L hL L.length (Nat.le_refl _)
  have HM := Lib.hid hm
  have HL := Lib.hid hL
  obtain ⟨s, hs1⟩ : ∃ s, nameB L = s := ⟨_, rfl⟩
  obtain ⟨n, hn⟩ : ∃ n, L.length = n := ⟨_, rfl⟩
  have HS := Lib.hid hs1
  have HN := Lib.hid hn
  rw [hs1] at HM hsz ⊢
  rw [hn] at hsz hge hz ⊢
  clear hi hz0 hz1 hz2 hm hL hs1 hn
  go_enter Try.func103, Try.ntmps103
  go_wp2_with fail
  refine (rmay_any _ _ (by omega)).mono ?_; rintro e w' ⟨rfl, rfl⟩
  rw [HM.out]
  go_wp2_with fail
  go_loopw [3, 4] (fun v i wr => ∃ k : Nat, k ≤ n ∧ i = .int .i64 (off L k : Nat) ∧ wr.ownsRow w.heap.size 9 1 v k (sc (L.take k)) ∧ Below w.heap.size w wr) (fun _ i _ => s.size - (intOf i).toNat)
  case atStart => exact ⟨0, Nat.zero_le _, rfl, World.ownsRow_nil _ _ _ _, Below.refl _ _⟩
  case round =>
    obtain ⟨k, hk, rfl, ho, hb⟩ := hrel
    obtain ⟨va, vc, rfl⟩ := own_shape ho
    have HO := Lib.hid ho
    have HB := Lib.hid hb
    have hsz2 := hb.size
    clear ho hb
    have hm := off_mono L hk
    by_cases hlt : k < n
    · have hs := off_succ L k
      have hm2 := off_mono L (show k + 1 ≤ n by omega)
      obtain ⟨g1, g2, _⟩ := HL.out k (by rw [HN.out]; exact hlt)
      have hb := name_byte L k (by rw [HN.out]; exact hlt) (by omega)
      have hlab := name_label L k (by rw [HN.out]; exact hlt)
      rw [HS.out] at hb hlab
      have HT := Lib.hid (show sc (L.take k) ++ [Value.string (tx L k)] = sc (L.take (k + 1)) by
        rw [List.take_succ_eq_append_getElem (by rw [HN.out]; exact hlt), sc_append]
        simp [sc, tx, List.getD_eq_getElem?_getD, List.getElem?_eq_getElem (show k < L.length by rw [HN.out]; exact hlt)])
      obtain ⟨a, ha⟩ : ∃ a, off L k = a := ⟨_, rfl⟩
      obtain ⟨a2, ha2⟩ : ∃ a, off L (k + 1) = a := ⟨_, rfl⟩
      obtain ⟨x, hx⟩ : ∃ x, tx L k = x := ⟨_, rfl⟩
      obtain ⟨t, ht⟩ : ∃ t, x.size = t := ⟨_, rfl⟩
      rw [hx] at HT
      simp only [hx, ht, ha, ha2] at hs hm2 hb g1 g2 hm hlab ⊢
      have hlt2 : a < s.size := by omega
      have hg := (byte_get hlt2).trans hb
      have e0 : ((t : Int) != 0) = true := nT (by omega)
      have HA2 := Lib.hid ha2
      have HLAB := Lib.hid hlab
      clear ha ha2 ht hb hx hlab
      go_wp2_with (first | (at_builtin; refine wpList_append_own _ rfl _ _ 72 rfl w.heap.size 9 i0 (.string ⟨#[]⟩) 1 16 Try.underlying72 HI.out HZ0.out HZ1.out HZ2.out rfl (by decide) _ k _ rfl (HO.out.alloc _) ⟨wr.heap.size, 0, none⟩ 1 1 [.string (s.extract (a + 1) (a + 1 + t))] rfl rfl ?c1 ?c2 ?c3 ?c4 ?c5 ?_))
      case c1 => exact cell_one_new _ _ _
      case c2 => exact one_str _
      case c3 => unfold maxLen; omega
      case c4 => omega
      case c5 => simp; omega
      intro v2 w2 hown2 hgrow2 _
      rw [HLAB.out, HT.out] at hown2
      have HO2 := Lib.hid hown2
      have HB2 := Lib.hid (below_appendS HB.out hsz2 HO.out hgrow2)
      clear hown2 hgrow2
      go_wp2
      go_roundw
      case rel => exact ⟨k + 1, by omega, by rw [HA2.out, hs]; go_num, HO2.out, HB2.out⟩
      case measure => simp [intOf]; omega
    · have hkn : k = n := by omega
      subst hkn
      have hb := name_end L
      rw [HS.out, HN.out] at hb
      have hR := HO.out
      rw [show L.take k = L by rw [← HN.out]; exact List.take_length] at hR
      obtain ⟨a, c, hv, hrow, _⟩ := rowS_of_own hR
      injection hv with hv1 hv2 hv3
      subst hv1
      have HR := Lib.hid hrow
      obtain ⟨p, hp⟩ : ∃ p, off L k = p := ⟨_, rfl⟩
      simp only [hp] at hb hsz ⊢
      have hlt2 : p < s.size := by omega
      have hg := (byte_get hlt2).trans hb
      clear hR hrow hb hp
      go_wp2
      go_ret
      exact ⟨_, ⟨_, rfl⟩, HR.out, HB.out⟩
end Go.Proofs.Ytkoafkajmfodkaa
