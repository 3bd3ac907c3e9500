/- slices.DeleteFunc at records, over whatever predicate. -/
import Derived.Test.YtkoafkajmfodkaaDel
import Derived.Test.YtkoafkajmfodkaaRwR
namespace Go.Proofs.Ytkoafkajmfodkaa
open Go.RowKit

def keepR (p : R5 → Bool) (l : List R5) : List R5 := l.filter (fun r => !p r)
/-- How a row stands when j records were looked at, i of them kept. -/
def DelI (p : R5 → Bool) (l : List R5) (j i : Nat) (L : List R5) : Prop := L.length = l.length ∧ L.take i = keepR p (l.take j) ∧ i = (keepR p (l.take j)).length ∧ L.drop j = l.drop j ∧ i < j
theorem keepR_next {p : R5 → Bool} {l : List R5} {j : Nat} {r : R5} (h : l[j]? = some r) : keepR p (l.take (j + 1)) = keepR p (l.take j) ++ (if p r then [] else [r]) := by
  rw [List.take_add_one, h, keepR, keepR, List.filter_append]
  cases hp : p r <;> simp [hp]
theorem DelI.keep {p : R5 → Bool} {l L : List R5} {j i : Nat} {r : R5} (h : DelI p l j i L) (hr : l[j]? = some r) (hp : p r = false) : DelI p l (j + 1) (i + 1) (L.set i r) := by
  obtain ⟨h1, h2, h3, h4, h5⟩ := h
  have hj := (List.getElem?_eq_some_iff.1 hr).1
  refine ⟨by rw [List.length_set, h1], ?_, ?_, ?_, by omega⟩
  · rw [keepR_next hr, hp, List.take_add_one, List.getElem?_set_self (by omega), List.take_set_of_le (by omega), h2]; rfl
  · rw [keepR_next hr, hp, List.length_append, ← h3]; rfl
  · rw [List.drop_set_of_lt (by omega)]
    rw [← List.drop_drop, ← List.drop_drop, h4]
theorem DelI.skip {p : R5 → Bool} {l L : List R5} {j i : Nat} {r : R5} (h : DelI p l j i L) (hr : l[j]? = some r) (hp : p r = true) : DelI p l (j + 1) i L := by
  obtain ⟨h1, h2, h3, h4, h5⟩ := h
  refine ⟨h1, ?_, ?_, ?_, by omega⟩
  · rw [keepR_next hr, hp, h2]; simp
  · rw [keepR_next hr, hp, h3]; simp
  · rw [← List.drop_drop, ← List.drop_drop, h4]
theorem DelI.start {p : R5 → Bool} {l : List R5} {k : Nat} (hk : k < l.length) (h : l.findIdx p = k) : DelI p l (k + 1) k l := by
  have hp : p (l[k]) = true := by
    have := List.findIdx_getElem (p := p) (xs := l) (w := by omega)
    simpa [h] using this
  have hb : ∀ x ∈ l.take k, p x = false := fun x hx => by
    obtain ⟨i, hi⟩ := List.getElem?_of_mem hx
    have hil := (List.getElem?_eq_some_iff.1 hi).1
    rw [List.length_take] at hil
    have hik : i < l.findIdx p := by omega
    have := List.not_of_lt_findIdx hik
    rw [List.getElem?_take_of_lt (by omega), List.getElem?_eq_getElem (by omega)] at hi
    rw [← Option.some.inj hi]
    simpa using this
  have hf : keepR p (l.take (k + 1)) = l.take k := by
    rw [keepR_next (r := l[k]) (List.getElem?_eq_getElem hk), hp]
    simp only [if_true, List.append_nil]
    rw [keepR, List.filter_eq_self]
    intro x hx
    rw [hb x hx]; rfl
  refine ⟨rfl, hf.symm, ?_, rfl, by omega⟩
  rw [hf, List.length_take]; omega
theorem keepR_none {p : R5 → Bool} {l : List R5} (h : l.findIdx p = l.length) : keepR p l = l := by
  rw [keepR, List.filter_eq_self]
  intro x hx
  rw [List.findIdx_eq_length] at h
  rw [h x hx]; rfl
theorem DelI.at {p : R5 → Bool} {l L : List R5} {j i : Nat} (h : DelI p l j i L) : L[j]? = l[j]? := by
  have h4 := congrArg (fun x => x[0]?) h.2.2.2.1
  simpa using h4

set_option maxRecDepth 100000 in
set_option maxHeartbeats 4000000 in
theorem deleteRR (f : FuncId) (p : R5 → Bool) (hf : Tells f p) (B : Nat) (v : Value) (n : Nat) (l : List R5) (w : World) (hown : w.ownsRow B 75 5 v n (flatR l)) (hlen : n ≤ 100000) :
    Calls Try.prog 80 #[v, .func (.func f) #[] #[]] w fun e w' => ∃ v', e = .returned v' ∧ w'.ownsRow B 75 5 v' (keepR p l).length (flatR (keepR p l)) ∧ w.grownBy w' v.ownBlock := by
  obtain ⟨i0, hi, hz0, hz1, hz2⟩ := info_parts infoRR
  have hl : l.length = n := by have := hown.1; rw [flatR_len] at this; omega
  obtain ⟨a, c, rfl, hrow, hnil⟩ := rowR_own hown
  have HF := Lib.hid hf.2
  have eg := hf.1
  have HI := Lib.hid (fun w => indexRR f p hf a n c l w)
  have HO := Lib.hid hown
  have HR := Lib.hid hrow
  have HL := Lib.hid hl
  by_cases hk : l.findIdx p < l.length
  · obtain ⟨k, hkk⟩ : ∃ k, l.findIdx p = k := ⟨_, rfl⟩
    have hs := DelI.start (by omega) hkk
    have hidx : idxP p l = (k : Int) := by rw [idxP, if_pos hk, hkk]
    obtain ⟨g, rfl⟩ : ∃ g, a = some ⟨g, 0, none⟩ := by
      rcases hown.2 with ⟨hv, h0⟩ | ⟨g, cap, cur, hv, _⟩
      · omega
      · injection hv with h1 h2 h3
        exact ⟨g, h1⟩
    have hgB := hown.lt g rfl
    have hav : ∃ β off, (some ⟨g, 0, none⟩ : Option Addr) = some ⟨β, off, none⟩ := ⟨_, _, rfl⟩
    have hnc : n ≤ c := by
      rcases hown.2 with ⟨hv, _⟩ | ⟨g', cap, cur, hv, _, _, hnc, _⟩
      · cases hv
      · injection hv with h1 h2 h3
        subst h3; exact hnc
    have HC := Lib.hid hnc
    have HS := Lib.hid hs
    have HGB := Lib.hid hgB
    have e1 := eF (a := (k : Int)) (b := -1) (by omega)
    have hkn : k < n := by omega
    clear hf hown hrow hnil hs hk hkk hgB hav hnc hl
    go_enter Try.func80, Try.ntmps80
    go_wp2_with fail
    refine (HI.out _ HR.out hlen).mono ?_; rintro e w1 ⟨rfl, hb⟩
    rw [hidx]
    clear hidx
    have HG1 := Lib.hid (bel_grown hb (some g))
    have HO1 := Lib.hid (own_below' HO.out hb)
    clear hb
    go_wp2_with fail
    go_loopw [5, 6] (fun si sj wr => ∃ (i j : Nat) (L : List R5), j ≤ n ∧ si = .int .i64 i ∧ sj = .int .i64 j ∧ Hid (DelI p l j i L) ∧ Hid (wr.ownsRow B 75 5 (.slice (some ⟨g, 0, none⟩) n c) n (flatR L)) ∧ Hid (w.grownBy wr (some g))) (fun _ sj _ => n - (intOf sj).toNat)
    case atStart => exact ⟨k, k + 1, l, by omega, rfl, by go_num, HS, HO1, HG1⟩
    case round =>
      obtain ⟨i, j, L, hj, rfl, rfl, hd, ho, hgr⟩ := hrel
      have hij := hd.out.2.2.2.2
      by_cases hlt : j < n
      · have hjl : j < l.length := by rw [HL.out]; exact hlt
        obtain ⟨r, hr⟩ : ∃ r, l[j]? = some r := ⟨l[j], List.getElem?_eq_getElem hjl⟩
        have hLj : L[j]? = some r := hd.out.at.trans hr
        obtain ⟨c0, c1, c2, c3, c4⟩ := own_at5 ho.out j r hLj
        obtain ⟨⟨rn, rt, rc⟩, ru, rd⟩ := r
        replace c0 : wr.cell? ⟨g, j * 5, none⟩ = some (.string rn) := c0
        replace c1 : wr.cell? ⟨g, j * 5 + 1, none⟩ = some (.int .i64 rt) := c1
        replace c2 : wr.cell? ⟨g, j * 5 + 2, none⟩ = some (.int .i64 rc) := c2
        replace c3 : wr.cell? ⟨g, j * 5 + 3, none⟩ = some (.int .i64 ru) := c3
        replace c4 : wr.cell? ⟨g, j * 5 + 4, none⟩ = some (.string rd) := c4
        have HRK := Lib.hid hr
        have HLl := Lib.hid (show i < L.length by rw [hd.out.1, HL.out]; omega)
        have hba := (Below.refl wr.heap.size wr).alloc (Nat.le_refl _) (.cells #[.string rn, .int .i64 rt, .int .i64 rc, .int .i64 ru, .string rd] 75)
        have HC5 := Lib.hid (c5_new wr (.string rn) (.int .i64 rt) (.int .i64 rc) (.int .i64 ru) (.string rd) 75)
        have HOa := Lib.hid (own_below' ho.out hba)
        have HGa := Lib.hid (hgr.out.trans (bel_grown hba (some g)))
        have hin : i < n := by omega
        clear hr hLj hjl hba ho hgr
        go_wp2_with fail
        refine (HF.out rn rt rc ru rd _).mono ?_; rintro e w2 ⟨rfl, hb⟩
        have HO2 := Lib.hid (own_below' HOa.out hb)
        have HG2 := Lib.hid (HGa.out.trans (bel_grown hb (some g)))
        have HC2 := Lib.hid (HC5.out.below hb)
        obtain ⟨x, hx⟩ : ∃ x, p ⟨⟨rn, rt, rc⟩, ru, rd⟩ = x := ⟨_, rfl⟩
        rw [hx]
        have HX := Lib.hid hx
        clear hx hb c0 c1 c2 c3 c4 HC5 HOa HGa
        cases x with
        | true =>
          have HD := Lib.hid (hd.out.skip HRK.out HX.out)
          clear hd
          go_wp2
          go_roundw
          case rel => exact ⟨i, j + 1, L, by omega, by go_num, by go_num, HD, HO2, HG2⟩
          case measure => simp [intOf]; omega
        | false =>
          have HD := Lib.hid (hd.out.keep HRK.out HX.out)
          clear hd
          obtain ⟨_, p0, p1, p2, p3, p4⟩ := HC2.out
          obtain ⟨v0, v1, v2, v3, v4, y0, y1, y2, y3, y4⟩ := own_cells5 HO2.out i hin
          have f0 := HO2.out.frozenAt (i * 5)
          have f1 := HO2.out.frozenAt (i * 5 + 1)
          have f2 := HO2.out.frozenAt (i * 5 + 2)
          have f3 := HO2.out.frozenAt (i * 5 + 3)
          have f4 := HO2.out.frozenAt (i * 5 + 4)
          have HO3 := Lib.hid (own_set_rr HO2.out i HLl.out ⟨⟨rn, rt, rc⟩, ru, rd⟩)
          have HG3 := Lib.hid (HG2.out.trans (grown_set5 w2 g (i * 5) (.string rn) (.int .i64 rt) (.int .i64 rc) (.int .i64 ru) (.string rd)))
          go_wp2
          go_roundw
          case rel => exact ⟨i + 1, j + 1, L.set i ⟨⟨rn, rt, rc⟩, ru, rd⟩, by omega, by go_num, by go_num, HD, HO3, HG3⟩
          case measure => simp [intOf]; omega
      · have hjn : j = n := by omega
        subst hjn
        obtain ⟨ad, hrun, hdn, hds⟩ := slice_tailK Try.underlying25 hi hz1 (some ⟨g, 0, none⟩) j c i (Or.inr ⟨g, 0, rfl⟩) (by omega) HC.out
        have had := hds hij g 0 rfl
        obtain ⟨wz, hcl, hoz, hgz⟩ := clear_tail ho.out i hij ad had
        have hhd := slice_headK Try.underlying25 hi hz1 (some ⟨g, 0, none⟩) j c i (Or.inr ⟨g, 0, rfl⟩) (by have := HC.out; omega)
        have HGZ := Lib.hid (hgr.out.trans hgz)
        have HF2 := Lib.hid (show wz.ownsRow B 75 5 (.slice (some ⟨g, 0, none⟩) i c) (keepR p l).length (flatR (keepR p l)) by
          obtain ⟨d1, d2, d3, d4, d5⟩ := hd.out
          have hll : l.take j = l := by rw [List.take_of_length_le (by rw [HL.out]; exact Nat.le_refl _)]
          rw [hll] at d2 d3
          have h9 : (flatR L).take (i * 5) = flatR (keepR p l) := by
            rw [← d2]
            have h8 : flatR L = flatR (L.take i) ++ flatR (L.drop i) := by rw [← flatR_app, List.take_append_drop]
            rw [h8, List.take_append_of_le_length (by rw [flatR_len, d2, ← d3]; exact Nat.le_refl _), List.take_of_length_le (by rw [flatR_len, d2, ← d3]; exact Nat.le_refl _)]
          rw [h9] at hoz
          rw [← d3]; exact hoz)
        clear hd ho hgr hds had hdn hoz hgz
        go_wp2
        go_ret
        exact ⟨_, rfl, HF2.out, HGZ.out⟩
  · have hfi : l.findIdx p = l.length := by have := List.findIdx_le_length (p := p) (xs := l); omega
    have hidx : idxP p l = -1 := by rw [idxP, if_neg hk]
    have hkr := keepR_none hfi
    rw [hkr, hl]
    clear hf hown hrow hnil hk hfi hl hkr
    go_enter Try.func80, Try.ntmps80
    go_wp2_with fail
    refine (HI.out _ HR.out hlen).mono ?_; rintro e w1 ⟨rfl, hb⟩
    rw [hidx]
    clear hidx
    have HG1 := Lib.hid (bel_grown hb (Value.slice a n c).ownBlock)
    have HO1 := Lib.hid (own_below' HO.out hb)
    clear hb
    go_wp2
    go_ret
    exact ⟨_, rfl, HO1.out, HG1.out⟩
end Go.Proofs.Ytkoafkajmfodkaa
