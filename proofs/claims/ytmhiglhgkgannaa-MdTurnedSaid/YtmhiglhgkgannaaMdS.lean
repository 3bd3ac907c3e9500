/- slices.IndexFunc, slices.DeleteFunc at records, over md.Sign's predicate. -/
import Derived.Test.YtmhiglhgkgannaaMdE
import Derived.Deep.RegionLaw
import Derived.Deep.AppendLies
import Derived.Deep.DeepCutAuto
import Derived.Shelf.Abstract
namespace Go.Proofs.Ytmhiglhgkgannaa
open Go.RowKit

theorem own_at5M {w : World} {B g n c : Nat} {L : List R5} (h : w.ownsRow B 30 5 (.slice (some ⟨g, 0, none⟩) n c) n (flatR L)) (j : Nat) (r : R5) (hj : L[j]? = some r) : w.cell? ⟨g, j * 5, none⟩ = some (.string r.k.n) ∧ w.cell? ⟨g, j * 5 + 1, none⟩ = some (.int .i64 r.k.t) ∧ w.cell? ⟨g, j * 5 + 2, none⟩ = some (.int .i64 r.k.c) ∧ w.cell? ⟨g, j * 5 + 3, none⟩ = some (.int .i64 r.ttl) ∧ w.cell? ⟨g, j * 5 + 4, none⟩ = some (.string r.d) := own_atM h j r.k.n r.k.t r.k.c r.ttl r.d hj
theorem grown_set5M (w : World) (g o : Nat) (v0 v1 v2 v3 v4 : Value) : w.grownBy (((((w.setCell ⟨g, o, none⟩ v0).setCell ⟨g, o + 1, none⟩ v1).setCell ⟨g, o + 2, none⟩ v2).setCell ⟨g, o + 3, none⟩ v3).setCell ⟨g, o + 4, none⟩ v4) (some g) :=
  ((((grown_cell w g o v0).trans (grown_cell _ g (o + 1) v1)).trans (grown_cell _ g (o + 2) v2)).trans (grown_cell _ g (o + 3) v3)).trans (grown_cell _ g (o + 4) v4)
/-- Where the first of which p holds stands. -/
def idxPM (p : R5 → Bool) (l : List R5) : Int := if l.findIdx p < l.length then (l.findIdx p : Int) else -1
theorem none_tillM {p : R5 → Bool} {l : List R5} {k : Nat} (h : ∀ j r, j < k → l[j]? = some r → p r = false) (hk : k < l.length) (r : R5) (hr : l[k]? = some r) (hp : p r = true) : l.findIdx p = k := by
  have hk2 : l[k] = r := by rw [List.getElem?_eq_getElem hk] at hr; exact Option.some.inj hr
  rw [List.findIdx_eq hk]
  refine ⟨by rw [hk2]; exact hp, fun j hj => ?_⟩
  have := h j (l[j]'(by omega)) hj (List.getElem?_eq_getElem (by omega))
  simpa using this
theorem none_allM {p : R5 → Bool} {l : List R5} (h : ∀ j r, j < l.length → l[j]? = some r → p r = false) : l.findIdx p = l.length := by
  rw [List.findIdx_eq_length]
  intro x hx
  obtain ⟨i, hi⟩ := List.getElem?_of_mem hx
  have hlt := (List.getElem?_eq_some_iff.1 hi).1
  exact h i x hlt hi

set_option maxRecDepth 100000 in
set_option maxHeartbeats 1600000 in
theorem indexRRM (apex : ByteArray) (q : Nat) (a : Option Addr) (n c : Nat) (l : List R5) (w : World) (h : RowR w a n l) (hn : n ≤ 100000) (hq : CN w q [.string apex]) :
    Calls Try.prog 45 #[.slice a n c, .func (.func 26) #[] #[.pointer (some ⟨q, 0, none⟩)]] w fun e w' => e = .returned (.int .i64 (idxPM (isMd apex) l)) ∧ Below w.heap.size w w' := by
  have HR := Lib.hid h
  have HQ := Lib.hid hq
  obtain ⟨p, hp⟩ : ∃ p, isMd apex = p := ⟨_, rfl⟩
  have HF := Lib.hid (show ∀ (rn : ByteArray) (rt rc ru : Int) (rd : ByteArray) wx, CN wx q [.string apex] → Calls Try.prog 26 #[.agg #[.string rn, .int .i64 rt, .int .i64 rc, .int .i64 ru, .string rd], .pointer (some ⟨q, 0, none⟩)] wx fun e w' => e = .returned (.bool (p ⟨⟨rn, rt, rc⟩, ru, rd⟩)) ∧ Below wx.heap.size wx w' from fun rn rt rc ru rd wx hx => by rw [← hp]; exact sign1_any apex rn rt rc ru rd q wx hx)
  rw [hp]
  have HL := Lib.hid h.1
  clear h hq hp
  go_enter Try.func45, Try.ntmps45
  go_wp2_with fail
  go_loopw [8] (fun i wr => ∃ k : Nat, k ≤ n ∧ i = .int .i64 k ∧ Hid (∀ j r, j < k → l[j]? = some r → p r = false) ∧ Hid (Below w.heap.size w wr)) (fun i _ => n - (intOf i).toNat)
  case atStart => exact ⟨0, Nat.zero_le _, rfl, (fun j r hj => absurd hj (by omega)), Below.refl _ _⟩
  case round =>
    obtain ⟨k, hk, rfl, ha, hbw⟩ := hrel
    by_cases hlt : k < n
    · obtain ⟨b, o, r, rfl, hbl, hr, c0, c1, c2, c3, c4⟩ := (HR.out.below hbw.out).at k hlt
      obtain ⟨⟨rn, rt, rc⟩, ru, rd⟩ := r
      replace c0 : wr.cell? ⟨b, o + k * 5, none⟩ = some (.string rn) := c0
      replace c1 : wr.cell? ⟨b, o + k * 5 + 1, none⟩ = some (.int .i64 rt) := c1
      replace c2 : wr.cell? ⟨b, o + k * 5 + 2, none⟩ = some (.int .i64 rc) := c2
      replace c3 : wr.cell? ⟨b, o + k * 5 + 3, none⟩ = some (.int .i64 ru) := c3
      replace c4 : wr.cell? ⟨b, o + k * 5 + 4, none⟩ = some (.string rd) := c4
      have HRK := Lib.hid hr
      clear hr
      go_wp2_with fail
      refine (HF.out rn rt rc ru rd _ (HQ.out.below hbw.out)).mono ?_; rintro e w1 ⟨rfl, hb⟩
      have HB1 := Lib.hid (hbw.out.trans (hb.mono hbw.out.size))
      obtain ⟨x, hx⟩ : ∃ x, p ⟨⟨rn, rt, rc⟩, ru, rd⟩ = x := ⟨_, rfl⟩
      rw [hx]
      have HX := Lib.hid hx
      clear hx hb c0 c1 c2 c3 c4
      cases x with
      | true =>
        go_wp2
        go_ret
        refine ⟨ret_int ?_, HB1.out⟩
        have h1 := none_tillM ha.out (by have := HL.out; omega) _ HRK.out HX.out
        rw [idxPM, h1, if_pos (by have := HL.out; omega)]
      | false =>
        have HA := Lib.hid (show ∀ j r, j < k + 1 → l[j]? = some r → p r = false from fun j r hj hjr => by
          rcases (by omega : j < k ∨ j = k) with h1 | rfl
          · exact ha.out j r h1 hjr
          · rw [HRK.out] at hjr
            rw [← Option.some.inj hjr]; exact HX.out)
        clear ha
        go_wp2
        go_roundw
        case rel => exact ⟨k + 1, by omega, by go_num, HA, HB1⟩
        case measure => simp [intOf]; omega
    · go_wp2
      go_ret
      refine ⟨ret_int ?_, hbw.out⟩
      have h1 := none_allM (p := p) (l := l) (fun j r hj hr => ha.out j r (by have := HL.out; omega) hr)
      rw [idxPM, h1, if_neg (by omega)]
def keepRM (p : R5 → Bool) (l : List R5) : List R5 := l.filter (fun r => !p r)
/-- How a row stands when j records were looked at, i of them kept. -/
def DelIM (p : R5 → Bool) (l : List R5) (j i : Nat) (L : List R5) : Prop := L.length = l.length ∧ L.take i = keepRM p (l.take j) ∧ i = (keepRM p (l.take j)).length ∧ L.drop j = l.drop j ∧ i < j
theorem keepR_nextM {p : R5 → Bool} {l : List R5} {j : Nat} {r : R5} (h : l[j]? = some r) : keepRM p (l.take (j + 1)) = keepRM p (l.take j) ++ (if p r then [] else [r]) := by
  rw [List.take_add_one, h, keepRM, keepRM, List.filter_append]
  cases hp : p r <;> simp [hp]
theorem DelIM.keep {p : R5 → Bool} {l L : List R5} {j i : Nat} {r : R5} (h : DelIM p l j i L) (hr : l[j]? = some r) (hp : p r = false) : DelIM p l (j + 1) (i + 1) (L.set i r) := by
  obtain ⟨h1, h2, h3, h4, h5⟩ := h
  have hj := (List.getElem?_eq_some_iff.1 hr).1
  refine ⟨by rw [List.length_set, h1], ?_, ?_, ?_, by omega⟩
  · rw [keepR_nextM hr, hp, List.take_add_one, List.getElem?_set_self (by omega), List.take_set_of_le (by omega), h2]; rfl
  · rw [keepR_nextM hr, hp, List.length_append, ← h3]; rfl
  · rw [List.drop_set_of_lt (by omega)]
    rw [← List.drop_drop, ← List.drop_drop, h4]
theorem DelIM.skip {p : R5 → Bool} {l L : List R5} {j i : Nat} {r : R5} (h : DelIM p l j i L) (hr : l[j]? = some r) (hp : p r = true) : DelIM p l (j + 1) i L := by
  obtain ⟨h1, h2, h3, h4, h5⟩ := h
  refine ⟨h1, ?_, ?_, ?_, by omega⟩
  · rw [keepR_nextM hr, hp, h2]; simp
  · rw [keepR_nextM hr, hp, h3]; simp
  · rw [← List.drop_drop, ← List.drop_drop, h4]
theorem DelIM.start {p : R5 → Bool} {l : List R5} {k : Nat} (hk : k < l.length) (h : l.findIdx p = k) : DelIM p l (k + 1) k l := by
  have hp : p (l[k]) = true := by
    have := List.findIdx_getElem (p := p) (xs := l) (w := by omega)
    simpa [h] using this
  have hb : ∀ x ∈ l.take k, p x = false := fun x hx => by
    obtain ⟨i, hi⟩ := List.getElem?_of_mem hx
    have hil := (List.getElem?_eq_some_iff.1 hi).1
    rw [List.length_take] at hil
    have hik : i < l.findIdx p := by omega
    have := List.not_of_lt_findIdx hik
    rw [List.getElem?_take_of_lt (by omega), List.getElem?_eq_getElem (by omega)] at hi
    rw [← Option.some.inj hi]
    simpa using this
  have hf : keepRM p (l.take (k + 1)) = l.take k := by
    rw [keepR_nextM (r := l[k]) (List.getElem?_eq_getElem hk), hp]
    simp only [if_true, List.append_nil]
    rw [keepRM, List.filter_eq_self]
    intro x hx
    rw [hb x hx]; rfl
  refine ⟨rfl, hf.symm, ?_, rfl, by omega⟩
  rw [hf, List.length_take]; omega
theorem keepR_noneM {p : R5 → Bool} {l : List R5} (h : l.findIdx p = l.length) : keepRM p l = l := by
  rw [keepRM, List.filter_eq_self]
  intro x hx
  rw [List.findIdx_eq_length] at h
  rw [h x hx]; rfl
theorem DelIM.at {p : R5 → Bool} {l L : List R5} {j i : Nat} (h : DelIM p l j i L) : L[j]? = l[j]? := by
  have h4 := congrArg (fun x => x[0]?) h.2.2.2.1
  simpa using h4

set_option maxRecDepth 100000 in
set_option maxHeartbeats 4000000 in
theorem deleteRRM (apex : ByteArray) (q : Nat) (B : Nat) (v : Value) (n : Nat) (l : List R5) (w : World) (hown : w.ownsRow B 30 5 v n (flatR l)) (hlen : n ≤ 100000) (hq : CN w q [.string apex]) (hqv : ∀ k, v.ownBlock = some k → q ≠ k) :
    Calls Try.prog 24 #[v, .func (.func 26) #[] #[.pointer (some ⟨q, 0, none⟩)]] w fun e w' => ∃ v', e = .returned v' ∧ w'.ownsRow B 30 5 v' (keepRM (isMd apex) l).length (flatR (keepRM (isMd apex) l)) ∧ w.grownBy w' v.ownBlock := by
  obtain ⟨i0, hi, hz0, hz1, hz2⟩ := info_parts infoRR
  have hl : l.length = n := by have := hown.1; rw [flatR_len] at this; omega
  obtain ⟨a, c, rfl, hrow, hnil⟩ := rowR_own hown
  have HQ := Lib.hid hq
  have HQV := Lib.hid hqv
  obtain ⟨p, hp⟩ : ∃ p, isMd apex = p := ⟨_, rfl⟩
  have HF := Lib.hid (show ∀ (rn : ByteArray) (rt rc ru : Int) (rd : ByteArray) wx, CN wx q [.string apex] → Calls Try.prog 26 #[.agg #[.string rn, .int .i64 rt, .int .i64 rc, .int .i64 ru, .string rd], .pointer (some ⟨q, 0, none⟩)] wx fun e w' => e = .returned (.bool (p ⟨⟨rn, rt, rc⟩, ru, rd⟩)) ∧ Below wx.heap.size wx w' from fun rn rt rc ru rd wx hx => by rw [← hp]; exact sign1_any apex rn rt rc ru rd q wx hx)
  have HI := Lib.hid (fun w => indexRRM apex q a n c l w)
  rw [hp] at HI ⊢
  clear hp hq hqv
  have HO := Lib.hid hown
  have HR := Lib.hid hrow
  have HL := Lib.hid hl
  by_cases hk : l.findIdx p < l.length
  · obtain ⟨k, hkk⟩ : ∃ k, l.findIdx p = k := ⟨_, rfl⟩
    have hs := DelIM.start (by omega) hkk
    have hidx : idxPM p l = (k : Int) := by rw [idxPM, if_pos hk, hkk]
    obtain ⟨g, rfl⟩ : ∃ g, a = some ⟨g, 0, none⟩ := by
      rcases hown.2 with ⟨hv, h0⟩ | ⟨g, cap, cur, hv, _⟩
      · omega
      · injection hv with h1 h2 h3
        exact ⟨g, h1⟩
    have hgB := hown.lt g rfl
    have hav : ∃ β off, (some ⟨g, 0, none⟩ : Option Addr) = some ⟨β, off, none⟩ := ⟨_, _, rfl⟩
    have hnc : n ≤ c := by
      rcases hown.2 with ⟨hv, _⟩ | ⟨g', cap, cur, hv, _, _, hnc, _⟩
      · cases hv
      · injection hv with h1 h2 h3
        subst h3; exact hnc
    have HC := Lib.hid hnc
    have HS := Lib.hid hs
    have HGB := Lib.hid hgB
    have e1 := eF (a := (k : Int)) (b := -1) (by omega)
    have hkn : k < n := by omega
    clear hown hrow hnil hs hk hkk hgB hav hnc hl
    go_enter Try.func24, Try.ntmps24
    go_wp2_with fail
    refine (HI.out _ HR.out hlen HQ.out).mono ?_; rintro e w1 ⟨rfl, hb⟩
    rw [hidx]
    clear hidx
    have HG1 := Lib.hid (bel_grownM hb (some g))
    have HO1 := Lib.hid (own_below' HO.out hb)
    clear hb
    go_wp2_with fail
    go_loopw [5, 6] (fun si sj wr => ∃ (i j : Nat) (L : List R5), j ≤ n ∧ si = .int .i64 i ∧ sj = .int .i64 j ∧ Hid (DelIM p l j i L) ∧ Hid (wr.ownsRow B 30 5 (.slice (some ⟨g, 0, none⟩) n c) n (flatR L)) ∧ Hid (w.grownBy wr (some g))) (fun _ sj _ => n - (intOf sj).toNat)
    case atStart => exact ⟨k, k + 1, l, by omega, rfl, by go_num, HS, HO1, HG1⟩
    case round =>
      obtain ⟨i, j, L, hj, rfl, rfl, hd, ho, hgr⟩ := hrel
      have hij := hd.out.2.2.2.2
      by_cases hlt : j < n
      · have hjl : j < l.length := by rw [HL.out]; exact hlt
        obtain ⟨r, hr⟩ : ∃ r, l[j]? = some r := ⟨l[j], List.getElem?_eq_getElem hjl⟩
        have hLj : L[j]? = some r := hd.out.at.trans hr
        obtain ⟨c0, c1, c2, c3, c4⟩ := own_at5M ho.out j r hLj
        obtain ⟨⟨rn, rt, rc⟩, ru, rd⟩ := r
        replace c0 : wr.cell? ⟨g, j * 5, none⟩ = some (.string rn) := c0
        replace c1 : wr.cell? ⟨g, j * 5 + 1, none⟩ = some (.int .i64 rt) := c1
        replace c2 : wr.cell? ⟨g, j * 5 + 2, none⟩ = some (.int .i64 rc) := c2
        replace c3 : wr.cell? ⟨g, j * 5 + 3, none⟩ = some (.int .i64 ru) := c3
        replace c4 : wr.cell? ⟨g, j * 5 + 4, none⟩ = some (.string rd) := c4
        have HRK := Lib.hid hr
        have HLl := Lib.hid (show i < L.length by rw [hd.out.1, HL.out]; omega)
        have hba := (Below.refl wr.heap.size wr).alloc (Nat.le_refl _) (.cells #[.string rn, .int .i64 rt, .int .i64 rc, .int .i64 ru, .string rd] 30)
        have HC5 := Lib.hid (c5_new wr (.string rn) (.int .i64 rt) (.int .i64 rc) (.int .i64 ru) (.string rd) 30)
        have HOa := Lib.hid (own_below' ho.out hba)
        have HQ3 := Lib.hid ((HQ.out.grown hgr.out (fun e => HQV.out g rfl (Option.some.inj e))).below hba)
        have HGa := Lib.hid (hgr.out.trans (bel_grownM hba (some g)))
        have hin : i < n := by omega
        clear hr hLj hjl hba ho hgr
        go_wp2_with fail
        refine (HF.out rn rt rc ru rd _ HQ3.out).mono ?_; rintro e w2 ⟨rfl, hb⟩
        have HO2 := Lib.hid (own_below' HOa.out hb)
        have HG2 := Lib.hid (HGa.out.trans (bel_grownM hb (some g)))
        have HC2 := Lib.hid (HC5.out.below hb)
        obtain ⟨x, hx⟩ : ∃ x, p ⟨⟨rn, rt, rc⟩, ru, rd⟩ = x := ⟨_, rfl⟩
        rw [hx]
        have HX := Lib.hid hx
        clear hx hb c0 c1 c2 c3 c4 HC5 HOa HGa
        cases x with
        | true =>
          have HD := Lib.hid (hd.out.skip HRK.out HX.out)
          clear hd
          go_wp2
          go_roundw
          case rel => exact ⟨i, j + 1, L, by omega, by go_num, by go_num, HD, HO2, HG2⟩
          case measure => simp [intOf]; omega
        | false =>
          have HD := Lib.hid (hd.out.keep HRK.out HX.out)
          clear hd
          obtain ⟨_, p0, p1, p2, p3, p4⟩ := HC2.out
          obtain ⟨v0, v1, v2, v3, v4, y0, y1, y2, y3, y4⟩ := own_cells5 HO2.out i hin
          have f0 := HO2.out.frozenAt (i * 5)
          have f1 := HO2.out.frozenAt (i * 5 + 1)
          have f2 := HO2.out.frozenAt (i * 5 + 2)
          have f3 := HO2.out.frozenAt (i * 5 + 3)
          have f4 := HO2.out.frozenAt (i * 5 + 4)
          have HO3 := Lib.hid (own_set_rr HO2.out i HLl.out ⟨⟨rn, rt, rc⟩, ru, rd⟩)
          have HG3 := Lib.hid (HG2.out.trans (grown_set5M w2 g (i * 5) (.string rn) (.int .i64 rt) (.int .i64 rc) (.int .i64 ru) (.string rd)))
          go_wp2
          go_roundw
          case rel => exact ⟨i + 1, j + 1, L.set i ⟨⟨rn, rt, rc⟩, ru, rd⟩, by omega, by go_num, by go_num, HD, HO3, HG3⟩
          case measure => simp [intOf]; omega
      · have hjn : j = n := by omega
        subst hjn
        obtain ⟨ad, hrun, hdn, hds⟩ := slice_tailKM Try.underlying22 hi hz1 (some ⟨g, 0, none⟩) j c i (Or.inr ⟨g, 0, rfl⟩) (by omega) HC.out
        have had := hds hij g 0 rfl
        obtain ⟨wz, hcl, hoz, hgz⟩ := clear_tailM ho.out i hij ad had
        have hhd := slice_headKM Try.underlying22 hi hz1 (some ⟨g, 0, none⟩) j c i (Or.inr ⟨g, 0, rfl⟩) (by have := HC.out; omega)
        have HGZ := Lib.hid (hgr.out.trans hgz)
        have HF2 := Lib.hid (show wz.ownsRow B 30 5 (.slice (some ⟨g, 0, none⟩) i c) (keepRM p l).length (flatR (keepRM p l)) by
          obtain ⟨d1, d2, d3, d4, d5⟩ := hd.out
          have hll : l.take j = l := by rw [List.take_of_length_le (by rw [HL.out]; exact Nat.le_refl _)]
          rw [hll] at d2 d3
          rw [d2] at hoz
          rw [← d3]; exact hoz)
        clear hd ho hgr hds had hdn hoz hgz
        go_wp2
        go_ret
        exact ⟨_, rfl, HF2.out, HGZ.out⟩
  · have hfi : l.findIdx p = l.length := by have := List.findIdx_le_length (p := p) (xs := l); omega
    have hidx : idxPM p l = -1 := by rw [idxPM, if_neg hk]
    have hkr := keepR_noneM hfi
    rw [hkr, hl]
    clear hown hrow hnil hk hfi hl hkr
    go_enter Try.func24, Try.ntmps24
    go_wp2_with fail
    refine (HI.out _ HR.out hlen HQ.out).mono ?_; rintro e w1 ⟨rfl, hb⟩
    rw [hidx]
    clear hidx
    have HG1 := Lib.hid (bel_grownM hb (Value.slice a n c).ownBlock)
    have HO1 := Lib.hid (own_below' HO.out hb)
    clear hb
    go_wp2
    go_ret
    exact ⟨_, rfl, HO1.out, HG1.out⟩
end Go.Proofs.Ytmhiglhgkgannaa
