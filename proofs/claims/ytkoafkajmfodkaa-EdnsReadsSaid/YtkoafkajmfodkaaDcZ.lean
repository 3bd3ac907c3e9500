/- The document's Size. -/
import Derived.Test.YtkoafkajmfodkaaDcG
namespace Go.Proofs.Ytkoafkajmfodkaa
open Go.RowKit

theorem getF_ok : ∀ (l : List R5), (getF l).2.1 = true → (getF l).2.2 = 0
  | [], h => by simp [getF] at h
  | [r], h => by
    simp only [getF] at h ⊢
    split at h
    · rename_i h1; rw [if_pos h1]
    · simp at h
  | _ :: _ :: _, h => by simp [getF] at h
theorem getO_ok (l : List R5) (h : (getO l).2.1 = true) : (getO l).2.2 = 0 := getF_ok _ h
theorem getMD_any (v : Value) (m : MsgP) (w : World) (h : MsgAt w v m) (hs : m.x.length ≤ 100000) :
    Calls Try.prog 45 #[v] w fun e w' => e = .returned (.tuple #[optV (getO m.x).1, .bool (getO m.x).2.1, .int .i64 (getO m.x).2.2]) ∧ Below w.heap.size w w' := by
  obtain ⟨qa, qc, na, nc, sa, sc, xa, xc, rfl, _, _, _, h4⟩ := h
  exact getD_ex _ _ _ _ _ _ _ _ _ _ _ _ _ _ _ _ _ _ _ _ m.x w h4.1 hs
set_option maxRecDepth 100000 in
set_option maxHeartbeats 4000000 in
theorem sizeMD_any (v : Value) (m : MsgP) (w : World) (l k : Int) (h : MsgAt w v m) (hs : m.x.length ≤ 100000) :
    Calls Try.prog 49 #[v, .int .i64 l, .int .i64 k] w fun e w' => e = .returned (.int .i64 (sizeO m.x l k)) ∧ Below w.heap.size w w' := by
  obtain ⟨qa, qc, na, nc, sa, sc, xa, xc, hv, h1, h2, h3, h4⟩ := h
  obtain ⟨Z, hZ⟩ : ∃ Z, sizeO m.x l k = Z := ⟨_, rfl⟩
  rw [hZ]
  rw [sizeO] at hZ
  obtain ⟨⟨⟨os, ov, orc, od, odt⟩, ok, oe⟩, hg⟩ : ∃ y, getO m.x = y := ⟨_, rfl⟩
  rw [hg] at hZ
  have hoe : ok = true → oe = 0 := fun h => by have := getO_ok m.x (by rw [hg]; exact h); rw [hg] at this; exact this
  have hm : MsgAt w v m := ⟨qa, qc, na, nc, sa, sc, xa, xc, hv, h1, h2, h3, h4⟩
  obtain ⟨mi, mo, mr, b1, b2, b3, b4, b5, Q, A, N, X⟩ := m
  simp only at hv hg hs
  obtain ⟨ql, hql⟩ : ∃ y, Q.length = y := ⟨_, rfl⟩
  obtain ⟨nl, hnl⟩ : ∃ y, A.length = y := ⟨_, rfl⟩
  obtain ⟨sl, hsl⟩ : ∃ y, N.length = y := ⟨_, rfl⟩
  obtain ⟨xl, hxl⟩ : ∃ y, X.length = y := ⟨_, rfl⟩
  rw [hql, hnl, hsl, hxl] at hv
  have hb1 := (Below.refl w.heap.size w).alloc (Nat.le_refl _) (.cells #[.int .i64 mi, .int .i64 mo, .int .i64 mr, .bool b1, .bool b2, .bool b3, .bool b4, .bool b5, .slice qa ql qc, .slice na nl nc, .slice sa sl sc, .slice xa xl xc] 32)
  have HB1 := Lib.hid hb1
  have HM := Lib.hid (hm.below hb1)
  rw [hv] at HM
  have HG := Lib.hid hg
  have HS := Lib.hid hs
  have HZ := Lib.hid hZ
  clear hb1 hm h1 h2 h3 h4 hql hnl hsl hxl hg hs hZ
  subst hv
  go_enter Try.func49, Try.ntmps49
  go_wp2_with fail
  refine (getMD_any _ _ _ HM.out HS.out).mono ?_; rintro e w2 ⟨rfl, hb⟩
  simp only [HG.out, optV]
  have HB2 := Lib.hid (HB1.out.trans (hb.mono HB1.out.size))
  have HB3 := Lib.hid (HB2.out.alloc HB2.out.size (.cells #[.int .i64 os, .int .i64 ov, .int .i64 orc, .bool od, .string odt] 81))
  clear hb
  cases ok with
  | false =>
    clear hoe
    obtain rfl : l = Z := by have := HZ.out; simpa using this
    go_wp2
    go_ret
    exact ⟨rfl, HB3.out⟩
  | true =>
    obtain rfl : oe = 0 := hoe rfl
    clear hoe
    have hz := HZ.out
    rw [if_pos rfl] at hz
    try simp only at hz
    by_cases c1 : os < l
    · rw [if_pos c1] at hz
      by_cases c2 : k < l
      · rw [if_pos c2] at hz
        subst hz
        go_wp2
        go_ret
        exact ⟨rfl, HB3.out⟩
      · rw [if_neg c2] at hz
        subst hz
        go_wp2
        go_ret
        exact ⟨rfl, HB3.out⟩
    · rw [if_neg c1] at hz
      by_cases c2 : k < os
      · rw [if_pos c2] at hz
        subst hz
        go_wp2
        go_ret
        exact ⟨rfl, HB3.out⟩
      · rw [if_neg c2] at hz
        subst hz
        go_wp2
        go_ret
        exact ⟨rfl, HB3.out⟩
end Go.Proofs.Ytkoafkajmfodkaa
