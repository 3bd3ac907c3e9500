/- Contracts of rdata.Target and Names (chapter 3), over this seat's translation. -/
import Derived.Test.YtgdbbdbfaglkdaaRdH
namespace Go.Proofs.Ytgdbbdbfaglkdaa
open Go.RowKit

def tgB (k : Int) (s : ByteArray) : Bool := mayD k s && decide (k = 2 ∨ k = 5 ∨ k = 15)
def tgS (k : Int) (s : ByteArray) : ByteArray := if tgB k s = true then (if k = 15 then s.extract 2 s.size else s) else ⟨#[]⟩
theorem mayD_15 {s : ByteArray} (h : mayD 15 s = true) : 2 < s.size ∧ mayN (s.extract 2 s.size) = true := by
  simp [mayD, mayK] at h
  exact h.2

set_option maxRecDepth 100000 in
set_option maxHeartbeats 1600000 in
theorem target_any (k : Int) (s : ByteArray) (w : World) (hs : s.size ≤ 1000000) : Calls Try.prog 18 #[.int .i64 k, .string s] w fun e w' => e = .returned (.tuple #[.string (tgS k s), .bool (tgB k s)]) ∧ Below w.heap.size w w' := by
  cases hm : mayD k s
  · have h1 : tgB k s = false := by rw [tgB, hm]; rfl
    have h2 : tgS k s = ⟨#[]⟩ := by rw [tgS, h1]; rfl
    rw [h1, h2]
    have HM := Lib.hid hm
    clear hm h1 h2
    go_enter Try.func18, Try.ntmps18
    go_wp2_with fail
    refine (may_any _ _ _ hs).mono ?_; rintro e w1 ⟨rfl, hb⟩
    have HB := Lib.hid hb; clear hb
    rw [HM.out]
    go_wp2
    go_ret2
    exact ⟨rfl, HB.out⟩
  · have hc : k = 2 ∨ k = 5 ∨ k = 15 ∨ (k ≠ 2 ∧ k ≠ 5 ∧ k ≠ 15) := by omega
    have HM := Lib.hid hm
    rcases hc with rfl | rfl | rfl | ⟨c1, c2, c3⟩
    · have h1 : tgB 2 s = true := by rw [tgB, hm]; rfl
      have h2 : tgS 2 s = s := by rw [tgS, h1]; rfl
      rw [h1, h2]
      clear hm h1 h2
      go_enter Try.func18, Try.ntmps18
      go_wp2_with fail
      refine (may_any _ _ _ hs).mono ?_; rintro e w1 ⟨rfl, hb⟩
      have HB := Lib.hid hb; clear hb
      rw [HM.out]
      go_wp2
      go_ret2
      exact ⟨rfl, HB.out⟩
    · have h1 : tgB 5 s = true := by rw [tgB, hm]; rfl
      have h2 : tgS 5 s = s := by rw [tgS, h1]; rfl
      rw [h1, h2]
      clear hm h1 h2
      go_enter Try.func18, Try.ntmps18
      go_wp2_with fail
      refine (may_any _ _ _ hs).mono ?_; rintro e w1 ⟨rfl, hb⟩
      have HB := Lib.hid hb; clear hb
      rw [HM.out]
      go_wp2
      go_ret2
      exact ⟨rfl, HB.out⟩
    · have h1 : tgB 15 s = true := by rw [tgB, hm]; rfl
      have h2 : tgS 15 s = s.extract 2 s.size := by rw [tgS, h1]; rfl
      have h3 := (mayD_15 hm).1
      rw [h1, h2]
      clear hm h1 h2
      go_enter Try.func18, Try.ntmps18
      go_wp2_with fail
      refine (may_any _ _ _ hs).mono ?_; rintro e w1 ⟨rfl, hb⟩
      have HB := Lib.hid hb; clear hb
      rw [HM.out]
      go_wp2
      go_ret2
      exact ⟨rfl, HB.out⟩
    · have h1 : tgB k s = false := by rw [tgB, dF (p := k = 2 ∨ k = 5 ∨ k = 15) (by omega), Bool.and_false]
      have h2 : tgS k s = ⟨#[]⟩ := by rw [tgS, h1]; rfl
      have e1 := eF c1
      have e2 := eF c2
      have e3 := eF c3
      rw [h1, h2]
      clear hm h1 h2 c1 c2 c3
      go_enter Try.func18, Try.ntmps18
      go_wp2_with fail
      refine (may_any _ _ _ hs).mono ?_; rintro e w1 ⟨rfl, hb⟩
      have HB := Lib.hid hb; clear hb
      rw [HM.out]
      go_wp2
      go_ret2
      exact ⟨rfl, HB.out⟩

def nmL (k : Int) (s : ByteArray) : List ByteArray := if k = 6 then (if soaOk s = true then [soaM s, soaR s] else []) else if tgB k s = true then [tgS k s] else []
theorem rowS_1 (w : World) (s : ByteArray) (t : TypeId) : RowS (w.alloc (.cells #[.string s] t)) (some ⟨w.heap.size, 0, none⟩) 1 [s] := by
  refine ⟨rfl, Or.inr ⟨w.heap.size, 0, rfl, by simp, ?_⟩⟩
  intro j hj
  have : j = 0 := by omega
  subst this
  simp [World.cell?_alloc_at]
theorem rowS_2 (w : World) (s r : ByteArray) (t : TypeId) (b : Nat) (hb : b = w.heap.size) : RowS (w.alloc (.cells #[.string s, .string r] t)) (some ⟨b, 0, none⟩) 2 [s, r] := by
  subst hb
  refine ⟨rfl, Or.inr ⟨w.heap.size, 0, rfl, by simp, ?_⟩⟩
  intro j hj
  rcases (by omega : j = 0 ∨ j = 1) with rfl | rfl <;> simp [World.cell?_alloc_at]

set_option maxRecDepth 100000 in
set_option maxHeartbeats 1600000 in
theorem names_any (k : Int) (s : ByteArray) (w : World) (hs : s.size ≤ 1000000) : Calls Try.prog 25 #[.int .i64 k, .string s] w fun e w' => ∃ a, e = .returned (.slice a (nmL k s).length (nmL k s).length) ∧ RowS w' a (nmL k s).length (nmL k s) ∧ Below w.heap.size w w' := by
  by_cases h6 : k = 6
  · subst h6
    cases hb : soaOk s
    · have hN : nmL 6 s = [] := by rw [nmL, hb]; rfl
      have HV := Lib.hid (show getSoaV s = .tuple #[.agg #[.string ⟨#[]⟩, .string ⟨#[]⟩, .int .i64 0, .int .i64 0, .int .i64 0, .int .i64 0, .int .i64 0], .bool false] by rw [getSoaV, hb]; rfl)
      rw [hN]
      clear hb hN
      go_enter Try.func25, Try.ntmps25
      go_wp2_with fail
      refine (getSoa_any _ _ (by omega)).mono ?_; rintro e w1 ⟨rfl, hb⟩
      have HB := Lib.hid hb; clear hb
      rw [HV.out]
      go_wp2
      go_ret
      exact ⟨_, rfl, ⟨rfl, Or.inl rfl⟩, HB.out.alloc HB.out.size _⟩
    · have hN : nmL 6 s = [soaM s, soaR s] := by rw [nmL, hb]; rfl
      have HV := Lib.hid (show getSoaV s = .tuple #[.agg #[.string (soaM s), .string (soaR s), .int .i64 (getN (soaT s) 0 4), .int .i64 (getN (soaT s) 4 4), .int .i64 (getN (soaT s) 8 4), .int .i64 (getN (soaT s) 12 4), .int .i64 (getN (soaT s) 16 4)], .bool true] by rw [getSoaV, hb]; rfl)
      rw [hN]
      clear hb hN
      go_enter Try.func25, Try.ntmps25
      go_wp2_with fail
      refine (getSoa_any _ _ (by omega)).mono ?_; rintro e w1 ⟨rfl, hb⟩
      have HB := Lib.hid hb; clear hb
      rw [HV.out]
      go_wp2
      go_ret
      have h2 := HB.out.alloc HB.out.size (.cells #[.string (soaM s), .string (soaR s), .int .i64 (getN (soaT s) 0 4), .int .i64 (getN (soaT s) 4 4), .int .i64 (getN (soaT s) 8 4), .int .i64 (getN (soaT s) 12 4), .int .i64 (getN (soaT s) 16 4)] 26)
      exact ⟨_, rfl, rowS_2 _ _ _ _ _ (by simp), h2.alloc h2.size _⟩
  · have e1 := eF h6
    cases hb : tgB k s
    · have hN : nmL k s = [] := by rw [nmL, if_neg h6, hb]; rfl
      rw [hN]
      have HT := Lib.hid hb
      clear hb hN h6
      go_enter Try.func25, Try.ntmps25
      go_wp2_with fail
      refine (target_any _ _ _ (by omega)).mono ?_; rintro e w1 ⟨rfl, hb⟩
      have HB := Lib.hid hb; clear hb
      rw [HT.out]
      go_wp2
      go_ret
      exact ⟨_, rfl, ⟨rfl, Or.inl rfl⟩, HB.out⟩
    · have hN : nmL k s = [tgS k s] := by rw [nmL, if_neg h6, hb]; rfl
      rw [hN]
      have HT := Lib.hid hb
      clear hb hN h6
      go_enter Try.func25, Try.ntmps25
      go_wp2_with fail
      refine (target_any _ _ _ (by omega)).mono ?_; rintro e w1 ⟨rfl, hb⟩
      have HB := Lib.hid hb; clear hb
      rw [HT.out]
      go_wp2
      go_ret
      exact ⟨_, rfl, rowS_1 _ _ _, HB.out.alloc HB.out.size _⟩
end Go.Proofs.Ytgdbbdbfaglkdaa
