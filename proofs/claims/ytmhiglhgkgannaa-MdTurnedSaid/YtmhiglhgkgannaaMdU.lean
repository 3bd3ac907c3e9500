/- Plain: a signed zone: what Check tells of it. -/
import Derived.Test.YtmhiglhgkgannaaMdT
namespace Go.Proofs.Ytmhiglhgkgannaa
open Go.RowKit

theorem sgnX_get {apex : ByteArray} {l : List R5} {x : R5} (h : sgnX apex l = some x) : OnceP mcmp (isSoa apex) l [x] ∧ soaOk x.d = true := by
  have ho := onceF_ok ord_mcmp (isSoa apex) l
  unfold sgnX at h
  revert h
  generalize onceF mcmp (isSoa apex) l = o at ho
  intro h
  match o, h with
  | [y], h =>
    have h2 : (if soaOk y.d = true then some y else none) = some x := h
    split at h2
    · rename_i h3
      obtain rfl := Option.some.inj h2
      exact ⟨ho, h3⟩
    · cases h2
  | [], h => cases h
  | _ :: _ :: _, h => cases h
theorem keepM_mem {p : R5 → Bool} {l : List R5} {r : R5} : r ∈ keepRM p l ↔ r ∈ l ∧ p r = false := by
  rw [keepRM, List.mem_filter]
  cases p r <;> simp
theorem isMd_iff {apex : ByteArray} {r : R5} : isMd apex r = true ↔ r.k.n = apex ∧ r.k.t = 63 := by
  rw [isMd, Bool.and_eq_true, beq_iff_eq, beq_iff_eq]
  exact ⟨fun h => ⟨str_eqM h.1, h.2⟩, fun h => ⟨by rw [h.1], h.2⟩⟩
theorem isSoa_iff {apex : ByteArray} {r : R5} : isSoa apex r = true ↔ r.k.n = apex ∧ r.k.t = 6 := by
  rw [isSoa, Bool.and_eq_true, beq_iff_eq, beq_iff_eq]
  exact ⟨fun h => ⟨str_eqM h.1, h.2⟩, fun h => ⟨by rw [h.1], h.2⟩⟩
theorem cnt_md {apex : ByteArray} {r : R5} (h : isMd apex r = true) : cntB apex r = false := by
  obtain ⟨h1, h2⟩ := isMd_iff.1 h
  rw [cntB, if_pos h1, h2]; rfl
/-- The data of a digest's record. -/
theorem md_parts {a : Int} {D : ByteArray} (ha : fits a 4 = true) (hD : D.size = 48) : getN (mdData a 1 1 D) 0 4 = a ∧ byteAt (mdData a 1 1 D) 4 = 1 ∧ byteAt (mdData a 1 1 D) 5 = 1 ∧ (mdData a 1 1 D).extract 6 (mdData a 1 1 D).size = D := by
  have hm := (md_ok ha hD).2.1
  have h := md_put a 1 1 D ha (by decide) hm
  rw [getMdV, if_pos hm] at h
  simp at h
  obtain ⟨h1, h2, h3, h4⟩ := h
  exact ⟨h1, by omega, by omega, h4⟩
/-- A zone: its digest and its SOA are there. -/
structure ZnM (apex : ByteArray) (l : List R5) (x : R5) : Prop where
  dg : dgE apex l = 0
  soa : OnceP mcmp (isSoa apex) l [x]
  ok : soaOk x.d = true
theorem ZnM.of {apex : ByteArray} {l : List R5} (h : sgnE apex l = 0) : ∃ x, ZnM apex l x ∧ sgnX apex l = some x ∧ sgnL apex l = keepRM (isMd apex) l ++ [mdRec apex l x] := by
  by_cases h0 : dgE apex l = 0
  · cases hx : sgnX apex l with
    | none => rw [(sgn_no h0 hx).1] at h; cases h
    | some x => exact ⟨x, ⟨h0, (sgnX_get hx).1, (sgnX_get hx).2⟩, rfl, (sgn_yes h0 hx).2⟩
  · rw [(sgn_dg h0).1] at h; exact absurd h h0
theorem ZnM.mem {apex : ByteArray} {l : List R5} {x : R5} (h : ZnM apex l x) : x ∈ l ∧ mayM x = true ∧ x.k.n = apex ∧ x.k.t = 6 ∧ ∀ r ∈ l, isSoa apex r = true → r = x := by
  obtain ⟨h1, h2⟩ := (h.soa.mem x).1 (List.mem_singleton.2 rfl)
  obtain ⟨h3, h4⟩ := isSoa_iff.1 h2
  exact ⟨h1, (dgE_zero h.dg).2 x h1, h3, h4, fun r hr hs => List.mem_singleton.1 ((h.soa.mem r).2 ⟨hr, hs⟩)⟩
/-- A record of a digest beside the SOA's class and time may be. -/
theorem ZnM.may {apex : ByteArray} {l : List R5} {x : R5} (h : ZnM apex l x) {D : ByteArray} (hD : mayD 63 D = true) : mayM ⟨⟨apex, 63, x.k.c⟩, x.ttl, D⟩ = true := by
  obtain ⟨_, h2, _⟩ := mayM_parts h.mem.2.1
  obtain ⟨_, _, h3, h4, _⟩ := mayM_parts h.mem.2.1
  show mayR apex 63 x.k.c x.ttl D = true
  simp only [mayR, Bool.and_eq_true, decide_eq_true_eq]
  exact ⟨by decide, (dgE_zero h.dg).1, h3, h4, hD⟩
/-- The same zone with other digests' records. -/
theorem ZnM.with {apex : ByteArray} {l m : List R5} {x R : R5} (h : ZnM apex l x) (hR : isMd apex R = true) (hm : mayM R = true) (he : ∀ r, r ∈ m ↔ (r ∈ l ∧ isMd apex r = false) ∨ r = R) : ZnM apex m x ∧ dgL apex m = dgL apex l := by
  have hRs : isSoa apex R = false := by
    rw [Bool.eq_false_iff]; intro h9
    have h1 := (isMd_iff.1 hR).2
    have h2 := (isSoa_iff.1 h9).2
    omega
  refine ⟨⟨?_, ⟨h.soa.rise, fun r => ?_⟩, h.ok⟩, ?_⟩
  · refine dgE_ok (dgE_zero h.dg).1 (fun r hr => ?_)
    rcases (he r).1 hr with ⟨h1, _⟩ | rfl
    · exact (dgE_zero h.dg).2 r h1
    · exact hm
  · rw [h.soa.mem r]
    constructor
    · rintro ⟨h1, h2⟩
      refine ⟨(he r).2 (Or.inl ⟨h1, ?_⟩), h2⟩
      rw [Bool.eq_false_iff]; intro h9
      have h3 := (isMd_iff.1 h9).2
      have h4 := (isSoa_iff.1 h2).2
      omega
    · rintro ⟨h1, h2⟩
      rcases (he r).1 h1 with ⟨h3, _⟩ | rfl
      · exact ⟨h3, h2⟩
      · rw [hRs] at h2; cases h2
  · rw [dgL, dgL, onceF_congr ord_mcmp (p := cntB apex) (q := cntB apex) (l := m) (m := l)]
    intro r
    constructor
    · rintro ⟨h1, h2⟩
      rcases (he r).1 h1 with ⟨h3, _⟩ | rfl
      · exact ⟨h3, h2⟩
      · rw [cnt_md hR] at h2; cases h2
    · rintro ⟨h1, h2⟩
      refine ⟨(he r).2 (Or.inl ⟨h1, ?_⟩), h2⟩
      rw [Bool.eq_false_iff]; intro h9
      rw [cnt_md h9] at h2; cases h2
theorem ZnM.check {apex : ByteArray} {l m : List R5} {x R : R5} (h : ZnM apex l x) (hR : isMd apex R = true) (hR1 : isMd1 apex R = true) (hm : mayM R = true) (he : ∀ r, r ∈ m ↔ (r ∈ l ∧ isMd apex r = false) ∨ r = R) :
    chkE apex m = if getN R.d 0 4 = getN (soaT x.d) 0 4 then (if R.d.extract 6 R.d.size = bs (shaL (dgL apex l)) then 0 else 5) else 12 := by
  obtain ⟨h1, h2⟩ := h.with hR hm he
  have h3 : OnceP mcmp (isMd1 apex) m [R] := ⟨List.pairwise_singleton _ _, fun r => by
    rw [List.mem_singleton]
    constructor
    · rintro rfl; exact ⟨(he _).2 (Or.inr rfl), hR1⟩
    · rintro ⟨h3, h4⟩
      rcases (he r).1 h3 with ⟨_, h5⟩ | rfl
      · rw [isMd1, Bool.and_eq_true, Bool.and_eq_true, h5] at h4
        simp at h4
      · rfl⟩
  rw [chk_md1 h1.dg h1.soa h1.ok h3, h2]
theorem ZnM.none {apex : ByteArray} {l m : List R5} {x : R5} (h : ZnM apex l x) (he : ∀ r, r ∈ m ↔ (r ∈ l ∧ isMd apex r = false)) : chkE apex m = 6 := by
  have h1 : ZnM apex m x := by
    refine ⟨dgE_ok (dgE_zero h.dg).1 (fun r hr => (dgE_zero h.dg).2 r ((he r).1 hr).1), ⟨h.soa.rise, fun r => ?_⟩, h.ok⟩
    rw [h.soa.mem r]
    constructor
    · rintro ⟨h1, h2⟩
      refine ⟨(he r).2 ⟨h1, ?_⟩, h2⟩
      rw [Bool.eq_false_iff]; intro h9
      have h3 := (isMd_iff.1 h9).2
      have h4 := (isSoa_iff.1 h2).2
      omega
    · rintro ⟨h1, h2⟩
      exact ⟨((he r).1 h1).1, h2⟩
  have h3 : OnceP mcmp (isMd1 apex) m [] := ⟨List.Pairwise.nil, fun r => by
    constructor
    · intro h3; cases h3
    · rintro ⟨h3, h4⟩
      have h5 := ((he r).1 h3).2
      rw [isMd1, Bool.and_eq_true, Bool.and_eq_true, h5] at h4
      simp at h4⟩
  exact chk_md0 h1.dg h1.soa h1.ok h3 (by decide)
/-- The record that Sign lays. -/
theorem ZnM.mdR {apex : ByteArray} {l : List R5} {x : R5} (h : ZnM apex l x) {a : Int} {DG : ByteArray} (ha : fits a 4 = true) (hD : DG.size = 48) : isMd apex ⟨⟨apex, 63, x.k.c⟩, x.ttl, mdData a 1 1 DG⟩ = true ∧ isMd1 apex ⟨⟨apex, 63, x.k.c⟩, x.ttl, mdData a 1 1 DG⟩ = true ∧ mayM ⟨⟨apex, 63, x.k.c⟩, x.ttl, mdData a 1 1 DG⟩ = true := by
  have h1 : isMd apex ⟨⟨apex, 63, x.k.c⟩, x.ttl, mdData a 1 1 DG⟩ = true := isMd_iff.2 ⟨rfl, rfl⟩
  obtain ⟨_, h3, h4, _⟩ := md_parts ha hD
  refine ⟨h1, ?_, h.may (md_ok ha hD).2.1⟩
  show (mayD 63 (mdData a 1 1 DG) && (_ && (((byteAt (mdData a 1 1 DG) 4 : Int) == 1) && ((byteAt (mdData a 1 1 DG) 5 : Int) == 1)))) = true
  rw [(md_ok ha hD).2.1, h1, h3, h4]; rfl
theorem ZnM.ser {apex : ByteArray} {l : List R5} {x : R5} (h : ZnM apex l x) : fits (getN (soaT x.d) 0 4) 4 = true := soa_fits h.ok
theorem dgB_size (apex : ByteArray) (l : List R5) : (bs (shaL (dgL apex l))).size = 48 := by rw [bs_size, shaL_len]
/-- A list of the signed zone's records, in whatever order: with a record of the digest at its end's data. -/
theorem ZnM.signed {apex : ByteArray} {l m : List R5} {x : R5} (h : ZnM apex l x) {a : Int} {DG : ByteArray} (ha : fits a 4 = true) (hD : DG.size = 48) (he : ∀ r, r ∈ m ↔ r ∈ keepRM (isMd apex) l ++ [⟨⟨apex, 63, x.k.c⟩, x.ttl, mdData a 1 1 DG⟩]) :
    chkE apex m = if a = getN (soaT x.d) 0 4 then (if DG = bs (shaL (dgL apex l)) then 0 else 5) else 12 := by
  obtain ⟨h1, h2, h3⟩ := h.mdR ha hD
  have h4 := h.check h1 h2 h3 (m := m) (fun r => by rw [he r, List.mem_append, keepM_mem, List.mem_singleton])
  obtain ⟨p1, _, _, p4⟩ := md_parts ha hD
  rw [h4]
  show (if getN (mdData a 1 1 DG) 0 4 = getN (soaT x.d) 0 4 then (if (mdData a 1 1 DG).extract 6 (mdData a 1 1 DG).size = bs (shaL (dgL apex l)) then (0 : Int) else 5) else 12) = _
  rw [p1, p4]
theorem ZnM.right {apex : ByteArray} {l m : List R5} {x : R5} (h : ZnM apex l x) (he : ∀ r, r ∈ m ↔ r ∈ keepRM (isMd apex) l ++ [mdRec apex l x]) : chkE apex m = 0 := by
  rw [h.signed h.ser (dgB_size apex l) he, if_pos rfl, if_pos rfl]
theorem mdRec_congr {apex : ByteArray} {l m : List R5} {x : R5} (h : dgL apex m = dgL apex l) : mdRec apex m x = mdRec apex l x := by rw [mdRec, mdRec, h]
/-- Signed again it is the same. -/
theorem ZnM.again {apex : ByteArray} {l : List R5} {x : R5} (h : ZnM apex l x) : sgnE apex (keepRM (isMd apex) l ++ [mdRec apex l x]) = 0 ∧ sgnL apex (keepRM (isMd apex) l ++ [mdRec apex l x]) = keepRM (isMd apex) l ++ [mdRec apex l x] := by
  obtain ⟨h1, h2, h3⟩ := h.mdR h.ser (dgB_size apex l)
  obtain ⟨h4, h5⟩ := h.with (R := mdRec apex l x) h1 h3 (m := keepRM (isMd apex) l ++ [mdRec apex l x]) (fun r => by rw [List.mem_append, keepM_mem, List.mem_singleton])
  obtain ⟨h6, h7⟩ := sgn_yes h4.dg (sgnX_yes h4.soa h4.ok)
  refine ⟨h6, ?_⟩
  rw [h7]
  have e1 : keepRM (isMd apex) (keepRM (isMd apex) l ++ [mdRec apex l x]) = keepRM (isMd apex) l := by
    rw [keepRM, List.filter_append]
    have e2 : List.filter (fun r => !isMd apex r) [mdRec apex l x] = [] := by
      have h9 : isMd apex (mdRec apex l x) = true := h1
      simp [h9]
    have e3 : List.filter (fun r => !isMd apex r) (keepRM (isMd apex) l) = keepRM (isMd apex) l := by
      rw [List.filter_eq_self]
      intro r hr
      rw [(keepM_mem.1 hr).2]; rfl
    rw [e2, e3, List.append_nil]
  rw [e1, mdRec_congr h5]
end Go.Proofs.Ytmhiglhgkgannaa
