/- Plain: a signed zone with more digests' records, with a record more, with a digest turned. -/
import Derived.Test.YtmhiglhgkgannaaMdU
namespace Go.Proofs.Ytmhiglhgkgannaa
open Go.RowKit

/-- The same zone with whatever digests' records. -/
theorem ZnM.withE {apex : ByteArray} {l m : List R5} {x : R5} (h : ZnM apex l x) {E : List R5} (hE : ∀ r ∈ E, isMd apex r = true ∧ mayM r = true) (he : ∀ r, r ∈ m ↔ (r ∈ l ∧ isMd apex r = false) ∨ r ∈ E) : ZnM apex m x ∧ dgL apex m = dgL apex l := by
  have hEs : ∀ r ∈ E, isSoa apex r = false := fun r hr => by
    rw [Bool.eq_false_iff]; intro h9
    have h1 := (isMd_iff.1 (hE r hr).1).2
    have h2 := (isSoa_iff.1 h9).2
    omega
  refine ⟨⟨?_, ⟨h.soa.rise, fun r => ?_⟩, h.ok⟩, ?_⟩
  · refine dgE_ok (dgE_zero h.dg).1 (fun r hr => ?_)
    rcases (he r).1 hr with ⟨h1, _⟩ | h1
    · exact (dgE_zero h.dg).2 r h1
    · exact (hE r h1).2
  · rw [h.soa.mem r]
    constructor
    · rintro ⟨h1, h2⟩
      refine ⟨(he r).2 (Or.inl ⟨h1, ?_⟩), h2⟩
      rw [Bool.eq_false_iff]; intro h9
      have h3 := (isMd_iff.1 h9).2
      have h4 := (isSoa_iff.1 h2).2
      omega
    · rintro ⟨h1, h2⟩
      rcases (he r).1 h1 with ⟨h3, _⟩ | h3
      · exact ⟨h3, h2⟩
      · rw [hEs r h3] at h2; cases h2
  · rw [dgL, dgL, onceF_congr ord_mcmp (p := cntB apex) (q := cntB apex) (l := m) (m := l)]
    intro r
    constructor
    · rintro ⟨h1, h2⟩
      rcases (he r).1 h1 with ⟨h3, _⟩ | h3
      · exact ⟨h3, h2⟩
      · rw [cnt_md (hE r h3).1] at h2; cases h2
    · rintro ⟨h1, h2⟩
      refine ⟨(he r).2 (Or.inl ⟨h1, ?_⟩), h2⟩
      rw [Bool.eq_false_iff]; intro h9
      rw [cnt_md h9] at h2; cases h2
theorem md1_md {apex : ByteArray} {r : R5} (h : isMd1 apex r = true) : isMd apex r = true := by
  rw [isMd1, Bool.and_eq_true, Bool.and_eq_true] at h
  exact h.2.1
theorem ZnM.checkE {apex : ByteArray} {l m : List R5} {x R : R5} (h : ZnM apex l x) {E : List R5} (hE : ∀ r ∈ E, isMd apex r = true ∧ mayM r = true) (he : ∀ r, r ∈ m ↔ (r ∈ l ∧ isMd apex r = false) ∨ r ∈ E) (hR : ∀ r, (r ∈ E ∧ isMd1 apex r = true) ↔ r = R) :
    chkE apex m = if getN R.d 0 4 = getN (soaT x.d) 0 4 then (if R.d.extract 6 R.d.size = bs (shaL (dgL apex l)) then 0 else 5) else 12 := by
  obtain ⟨h1, h2⟩ := h.withE hE he
  have h3 : OnceP mcmp (isMd1 apex) m [R] := ⟨List.pairwise_singleton _ _, fun r => by
    rw [List.mem_singleton]
    constructor
    · rintro rfl
      obtain ⟨g1, g2⟩ := (hR r).2 rfl
      exact ⟨(he _).2 (Or.inr g1), g2⟩
    · rintro ⟨h3, h4⟩
      rcases (he r).1 h3 with ⟨_, h5⟩ | h5
      · rw [md1_md h4] at h5; cases h5
      · exact (hR r).1 ⟨h5, h4⟩⟩
  rw [chk_md1 h1.dg h1.soa h1.ok h3, h2]
/-- Of two of one kind none counts. -/
theorem ZnM.two {apex : ByteArray} {l m : List R5} {x R R2 : R5} (h : ZnM apex l x) {E : List R5} (hE : ∀ r ∈ E, isMd apex r = true ∧ mayM r = true) (he : ∀ r, r ∈ m ↔ (r ∈ l ∧ isMd apex r = false) ∨ r ∈ E) (hR : R ∈ E ∧ isMd1 apex R = true) (hR2 : R2 ∈ E ∧ isMd1 apex R2 = true) (hne : R ≠ R2) : chkE apex m = 6 := by
  obtain ⟨h1, _⟩ := h.withE hE he
  have ho := onceF_ok ord_mcmp (isMd1 apex) m
  refine chk_md0 h1.dg h1.soa h1.ok ho (fun hl => ?_)
  obtain ⟨y, _, _, _, hy⟩ := ho.len hl
  exact hne ((hy R ((he R).2 (Or.inr hR.1)) hR.2).trans (hy R2 ((he R2).2 (Or.inr hR2.1)) hR2.2).symm)
/-- A record's data of another kind: two bytes told by parts. -/
theorem md_other {a b : Int} {D : ByteArray} (ha : fits a 4 = true) (hb : 2 ≤ b ∧ b ≤ 255) (hD : D.size = 48) : mayD 63 (mdData a 1 b D) = true ∧ (mdData a 1 b D).size = 54 ∧ putMdE a 1 b D = 0 ∧ putMdS a 1 b D = mdData a 1 b D ∧ (byteAt (mdData a 1 b D) 5 : Int) = b := by
  have f1 : fits 1 1 = true := by decide
  have f2 : fits b 1 = true := (fits_iff b 1).2 ⟨by decide, by decide, by omega, by have := hb.2; show b < 2 ^ (8 * 1); omega⟩
  have hj : joinOk 1 [1, b] = true := by simp [joinOk, f1, f2]
  have h1 := (put4 a ha).1
  have h2 := join2 1 b hj
  have hz : (mdData a 1 b D).size = 54 := by
    rw [mdData, ByteArray.size_append, ByteArray.size_append, h1, h2.1, hD]
  have hm : mayD 63 (mdData a 1 b D) = true := by
    simp only [mayD, Bool.and_eq_true, decide_eq_true_eq]
    refine ⟨⟨by decide, by omega⟩, ?_⟩
    show mayMdN (mdData a 1 b D) = true
    rw [mayMdN, hz]
    simp
  have hf : (fits a 4 && joinOk 1 [(1 : Int), b]) = true := by rw [ha, hj]; rfl
  have hp := md_put a 1 b D ha hj hm
  rw [getMdV, if_pos hm] at hp
  simp at hp
  exact ⟨hm, hz, by rw [putMdE, if_pos hf, if_pos hm], by rw [putMdS, if_pos hf, if_pos hm], by omega⟩
/-- Data with another end. -/
theorem md_turn {D E : ByteArray} (hD : D.size = 54) (hE : E.size = 54) (h4 : byteAt D 4 = 1) (h5 : byteAt D 5 = 1) (he : ∀ j, j < 6 → byteAt E j = byteAt D j) : mayD 63 E = true ∧ byteAt E 4 = 1 ∧ byteAt E 5 = 1 ∧ getN E 0 4 = getN D 0 4 := by
  have e4 := (he 4 (by omega)).trans h4
  have e5 := (he 5 (by omega)).trans h5
  refine ⟨?_, e4, e5, ?_⟩
  · simp only [mayD, Bool.and_eq_true, decide_eq_true_eq]
    refine ⟨⟨by decide, by omega⟩, ?_⟩
    show mayMdN E = true
    rw [mayMdN, hE]
    simp
  · rw [getN, getN, if_pos (by omega), if_pos (by omega)]
    exact getTo_congr 4 (fun j hj => by
      have := he j (by omega)
      simpa using this)
theorem md1_of {apex : ByteArray} {x : R5} {E : ByteArray} (h1 : mayD 63 E = true) (h2 : byteAt E 4 = 1) (h3 : byteAt E 5 = 1) : isMd1 apex ⟨⟨apex, 63, x.k.c⟩, x.ttl, E⟩ = true := by
  show (mayD 63 E && (isMd apex ⟨⟨apex, 63, x.k.c⟩, x.ttl, E⟩ && (((byteAt E 4 : Int) == 1) && ((byteAt E 5 : Int) == 1)))) = true
  have h4 : isMd apex ⟨⟨apex, 63, x.k.c⟩, x.ttl, E⟩ = true := isMd_iff.2 ⟨rfl, rfl⟩
  rw [h1, h4, h2, h3]; rfl
/-- A record more, neither a SOA nor a ZONEMD. -/
theorem ZnM.more {apex : ByteArray} {l : List R5} {x R : R5} (h : ZnM apex l x) (hR : isMd apex R = true) (hR1 : isMd1 apex R = true) (hm : mayM R = true) {M : R5} (hM : mayM M = true) (h6 : M.k.t ≠ 6) (h63 : M.k.t ≠ 63) :
    let S := keepRM (isMd apex) l ++ [R]
    dgE apex S = 0 ∧ dgE apex (S ++ [M]) = 0 ∧ chkE apex (S ++ [M]) = if getN R.d 0 4 = getN (soaT x.d) 0 4 then (if R.d.extract 6 R.d.size = bs (shaL (dgL apex (S ++ [M]))) then 0 else 5) else 12 := by
  intro S
  have hS : ∀ r, r ∈ S ↔ (r ∈ l ∧ isMd apex r = false) ∨ r = R := fun r => by rw [List.mem_append, keepM_mem, List.mem_singleton]
  obtain ⟨h1, _⟩ := h.with hR hm hS
  have hT : ∀ r, r ∈ S ++ [M] ↔ r ∈ S ∨ r = M := fun r => by rw [List.mem_append, List.mem_singleton]
  have hMs : isSoa apex M = false := by
    rw [Bool.eq_false_iff]; intro h9; exact h6 (isSoa_iff.1 h9).2
  have hMm : isMd1 apex M = false := by
    rw [Bool.eq_false_iff]; intro h9; exact h63 (isMd_iff.1 (md1_md h9)).2
  have h2 : ZnM apex (S ++ [M]) x := by
    refine ⟨dgE_ok (dgE_zero h.dg).1 (fun r hr => ?_), ⟨h.soa.rise, fun r => ?_⟩, h.ok⟩
    · rcases (hT r).1 hr with h3 | rfl
      · exact (dgE_zero h1.dg).2 r h3
      · exact hM
    · rw [h1.soa.mem r, hT r]
      constructor
      · rintro ⟨h3, h4⟩; exact ⟨Or.inl h3, h4⟩
      · rintro ⟨h3 | rfl, h4⟩
        · exact ⟨h3, h4⟩
        · rw [hMs] at h4; cases h4
  have h3 : OnceP mcmp (isMd1 apex) (S ++ [M]) [R] := ⟨List.pairwise_singleton _ _, fun r => by
    rw [List.mem_singleton, hT r, hS r]
    constructor
    · rintro rfl; exact ⟨Or.inl (Or.inr rfl), hR1⟩
    · rintro ⟨(⟨_, h5⟩ | h5) | rfl, h4⟩
      · rw [md1_md h4] at h5; cases h5
      · exact h5
      · rw [hMm] at h4; cases h4⟩
  exact ⟨h1.dg, h2.dg, chk_md1 h2.dg h2.soa h2.ok h3⟩
theorem und_reflV {n : ByteArray} (h : mayN n = true) : undS n n = true := by rw [undS, h, undL_refl]; rfl
/-- If it counts for anything, it was not there, and lies under the apex. -/
theorem dg_more {apex : ByteArray} {l : List R5} {M : R5} (ha : mayN apex = true) (h : dgL apex (l ++ [M]) ≠ dgL apex l) : M ∉ l ∧ undS M.k.n apex = true := by
  have hc : cntB apex M = true := by
    cases hc : cntB apex M with
    | true => rfl
    | false =>
      refine absurd ?_ h
      rw [dgL, dgL, onceF_congr ord_mcmp (p := cntB apex) (q := cntB apex) (l := l ++ [M]) (m := l)]
      intro r
      constructor
      · rintro ⟨h1, h2⟩
        rcases List.mem_append.1 h1 with h3 | h3
        · exact ⟨h3, h2⟩
        · rw [List.mem_singleton.1 h3, hc] at h2; cases h2
      · rintro ⟨h1, h2⟩; exact ⟨List.mem_append.2 (Or.inl h1), h2⟩
  refine ⟨fun hm => h ?_, ?_⟩
  · rw [dgL, dgL, onceF_congr ord_mcmp (p := cntB apex) (q := cntB apex) (l := l ++ [M]) (m := l)]
    intro r
    constructor
    · rintro ⟨h1, h2⟩
      rcases List.mem_append.1 h1 with h3 | h3
      · exact ⟨h3, h2⟩
      · rw [List.mem_singleton.1 h3]; exact ⟨hm, hc⟩
    · rintro ⟨h1, h2⟩; exact ⟨List.mem_append.2 (Or.inl h1), h2⟩
  · by_cases e : M.k.n = apex
    · rw [e]; exact und_reflV ha
    · rw [cntB, if_neg e] at hc; exact hc
end Go.Proofs.Ytmhiglhgkgannaa
