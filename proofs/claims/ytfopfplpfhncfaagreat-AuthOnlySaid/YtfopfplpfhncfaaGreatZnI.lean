/- Zones: first and Few of the chapter. -/
import Derived.Test.YtfopfplpfhncfaaGreatZnH
namespace Go.Proofs.YtfopfplpfhncfaaGreat
open Go.RowKit

/-- A zone that New made. -/
structure ZOk (w' : World) (z : Nat) (apex : ByteArray) (l : List R5) (S : List SetP) : Prop where
  name : mayN apex = true
  may : ∀ r ∈ l, mayR5 r = true
  few : l.length ≤ 300
  canon : Canon l S
  sum : sumD S ≤ l.length
  len : S.length ≤ l.length
  whole : wholeB apex S = true
  is : ZnAt w' z apex S
theorem ZOk.below {w w' : World} {z : Nat} {apex : ByteArray} {l : List R5} {S : List SetP} (h : ZOk w z apex l S) (hb : Below w.heap.size w w') : ZOk w' z apex l S := ⟨h.name, h.may, h.few, h.canon, h.sum, h.len, h.whole, h.is.below hb⟩
theorem mayN_sz {a : ByteArray} (h : mayN a = true) : a.size ≤ 255 := by
  rw [mayN, Bool.and_eq_true] at h
  exact (of_decide_eq_true h.1).2
theorem mayR5_n {r : R5} (h : mayR5 r = true) : mayN r.k.n = true := by
  simp only [mayR5, mayR, Bool.and_eq_true] at h
  exact h.2.1
theorem ZOk.apex {w' : World} {z : Nat} {apex : ByteArray} {l : List R5} {S : List SetP} (h : ZOk w' z apex l S) : apex.size ≤ 1000000 := by have := mayN_sz h.name; omega
theorem ZOk.sz {w' : World} {z : Nat} {apex : ByteArray} {l : List R5} {S : List SetP} (h : ZOk w' z apex l S) : SzZ S := h.canon.sz h.sum h.len (by have := h.few; omega) (fun r hr => by have := mayN_sz (mayR5_n (h.may r hr)); omega)
/-- No zone, or one. -/
def NewT (apex : ByteArray) (l : List R5) (w : World) (e : Ending) (w' : World) : Prop :=
  ((∃ x : Int, x ≠ 0 ∧ e = .returned (.tuple #[.pointer none, .int .i64 x])) ∨ ∃ z S, e = .returned (.tuple #[.pointer (some ⟨z, 0, none⟩), .int .i64 0]) ∧ w.heap.size ≤ z ∧ ZOk w' z apex l S) ∧ Below w.heap.size w w'
theorem NewR.two {apex : ByteArray} {l : List R5} {w w' : World} {e : Ending} (h : NewR apex l w e w') : NewT apex l w e w' := by
  obtain ⟨h, hb⟩ := h
  refine ⟨?_, hb⟩
  rcases h with ⟨_, rfl⟩ | ⟨h1, ⟨_, rfl⟩ | ⟨h2, ⟨_, rfl⟩ | ⟨h3, S, hc, hs, hl, ⟨_, rfl⟩ | ⟨hw, z, rfl, hz, hza⟩⟩⟩⟩
  · exact Or.inl ⟨10, by decide, rfl⟩
  · exact Or.inl ⟨4, by decide, rfl⟩
  · exact Or.inl ⟨13, by decide, rfl⟩
  · exact Or.inl ⟨11, by decide, rfl⟩
  · exact Or.inr ⟨z, S, rfl, hz, h1, h2, h3, hc, hs, hl, hw, hza⟩
theorem newR_least {w w' : World} {e : Ending} (h : NewR rootB [r6, r2] w e w') : (∃ z S, e = .returned (.tuple #[.pointer (some ⟨z, 0, none⟩), .int .i64 0]) ∧ ZnAt w' z rootB S ∧ sumD S = 2 ∧ SzZ S) ∧ Below w.heap.size w w' := by
  obtain ⟨h, hb⟩ := h
  refine ⟨?_, hb⟩
  rcases h with ⟨h, _⟩ | ⟨h1, ⟨⟨r, hr, h⟩, _⟩ | ⟨h2, ⟨h, _⟩ | ⟨h3, S, hc, hs, hl, ⟨h, _⟩ | ⟨hw, z, rfl, hz, hza⟩⟩⟩⟩
  · rw [may_root] at h; cases h
  · simp only [List.mem_cons, List.not_mem_nil, or_false] at hr
    rcases hr with rfl | rfl
    · rw [may_r6] at h; cases h
    · rw [may_r2] at h; cases h
  · simp at h
  · rw [(whole_least hc).1] at h; cases h
  · exact ⟨z, S, rfl, hza, (whole_least hc).2, hc.sz hs hl (by simp) (fun r hr => by
      simp only [List.mem_cons, List.not_mem_nil, or_false] at hr
      rcases hr with rfl | rfl <;> decide)⟩
theorem newR_soa {w w' : World} {e : Ending} (h : NewR rootB [r6] w e w') : e = .returned (.tuple #[.pointer none, .int .i64 11]) ∧ Below w.heap.size w w' := by
  obtain ⟨h, hb⟩ := h
  refine ⟨?_, hb⟩
  rcases h with ⟨h, _⟩ | ⟨h1, ⟨⟨r, hr, h⟩, _⟩ | ⟨h2, ⟨h, _⟩ | ⟨h3, S, hc, hs, hl, ⟨h, rfl⟩ | ⟨hw, z, rfl, hz, hza⟩⟩⟩⟩
  · rw [may_root] at h; cases h
  · obtain rfl := List.mem_singleton.1 hr
    rw [may_r6] at h; cases h
  · simp at h
  · rfl
  · rw [whole_soa hc] at hw; cases hw
theorem row_soa {w : World} {g : Nat} (h : RowR w (some ⟨g, 0, none⟩) 2 [r6, r2]) : RowR w (some ⟨g, 0, none⟩) 1 [r6] := by
  refine ⟨rfl, rfl, ?_⟩
  rcases h.2.2 with h0 | ⟨b, o, e, hb, hc⟩
  · cases h0
  · exact Or.inr ⟨b, o, e, hb, fun j u hj => hc j u (by
      show (flatR [r6] ++ flatR [r2])[j]? = some u
      rw [List.getElem?_append_left (List.getElem?_eq_some_iff.1 hj).1]; exact hj)⟩
set_option maxRecDepth 100000 in
set_option maxHeartbeats 1600000 in
theorem first10 (w : World) : Calls Tryz.prog 9 #[] w fun e w' => e = .returned (.bool true) ∧ Below w.heap.size w w' := by
  go_enter Tryz.func9, Tryz.ntmps9
  go_wp2_with fail
  refine (least_any _).mono ?_; rintro e w1 ⟨⟨g, rfl, hrow⟩, hb⟩
  have HB1 := Lib.hid hb
  have HR := Lib.hid hrow
  clear hb hrow
  go_wp2_with fail
  refine (znew_any rootB (some ⟨g, 0, none⟩) 2 2 [r6, r2] w1 HR.out (fun h => by cases h) (by decide) (fun r hr => by
      simp only [List.mem_cons, List.not_mem_nil, or_false] at hr
      rcases hr with rfl | rfl <;> decide) (fun r hr => by
      simp only [List.mem_cons, List.not_mem_nil, or_false] at hr
      rcases hr with rfl | rfl <;> decide) (by decide)).mono ?_; rintro e w2 h
  obtain ⟨⟨z, S, rfl, hz, hs, hsz⟩, hb⟩ := newR_least h
  have HB2 := Lib.hid (HB1.out.trans (hb.mono HB1.out.size))
  have HR2 := Lib.hid (HR.out.below hb)
  have HZ2 := Lib.hid hz
  have HS := Lib.hid hs
  have HSZ := Lib.hid hsz
  clear h hb hz hs hsz HR HB1
  go_wp2_with fail
  refine (znew_any rootB (some ⟨g, 0, none⟩) 1 2 [r6] w2 (row_soa HR2.out) (fun h => by cases h) (by decide) (fun r hr => by
      obtain rfl := List.mem_singleton.1 hr; decide) (fun r hr => by
      obtain rfl := List.mem_singleton.1 hr; decide) (by decide)).mono ?_; rintro e w3 h
  obtain ⟨rfl, hb⟩ := newR_soa h
  have HB3 := Lib.hid (HB2.out.trans (hb.mono HB2.out.size))
  have HZ3 := Lib.hid (HZ2.out.below hb)
  clear h hb HZ2 HR2 HB2
  go_wp2_with fail
  refine (zlen_any z rootB S w3 HZ3.out HSZ.out).mono ?_; rintro e w4 ⟨rfl, hb⟩
  have HB4 := Lib.hid (HB3.out.trans (hb.mono HB3.out.size))
  rw [HS.out]
  clear hb HZ3 HB3
  go_wp2
  go_ret
  exact ⟨rfl, HB4.out⟩
set_option maxRecDepth 100000 in
set_option maxHeartbeats 1600000 in
theorem few10 (a : Option Addr) (len cap : Nat) (l : List R5) (w : World) (h : RowR w a len l) (hlen : len ≤ 9223372036854775807) (hsz : ∀ r ∈ l, SzR r) :
    Calls Tryz.prog 10 #[.slice a len cap] w fun e w' => (e = .returned (.bool false) ∨ e = .returned (.bool true) ∧ len ≤ 310 ∧ ∀ r ∈ l, SmR r) ∧ Below w.heap.size w w' := by
  have HF := Lib.hid (few4 a len cap l w h hlen hsz)
  clear h hsz
  by_cases h1 : len ≤ 310
  · have d1 : decide (len ≤ 310) = true := dT h1
    have d2 : decide ((len : Int) ≤ 310) = true := dT (by omega)
    have HL := Lib.hid h1
    clear h1
    go_enter Tryz.func10, Tryz.ntmps10
    go_wp2_with fail
    refine HF.out.mono ?_; rintro e w1 ⟨h, m, rfl⟩
    have HB := Lib.hid (below_drewN (Below.refl w.heap.size w) m)
    rcases h with rfl | ⟨rfl, -, hs⟩
    · go_wp2
      go_ret
      exact ⟨Or.inl rfl, HB.out⟩
    · have HS := Lib.hid hs
      clear hs
      go_wp2
      go_ret
      exact ⟨Or.inr ⟨rfl, HL.out, HS.out⟩, HB.out⟩
  · have d1 : decide (len ≤ 310) = false := dF h1
    have d2 : decide ((len : Int) ≤ 310) = false := dF (by omega)
    clear h1
    go_enter Tryz.func10, Tryz.ntmps10
    go_wp2
    go_ret
    exact ⟨Or.inl rfl, Below.refl _ _⟩
end Go.Proofs.YtfopfplpfhncfaaGreat
