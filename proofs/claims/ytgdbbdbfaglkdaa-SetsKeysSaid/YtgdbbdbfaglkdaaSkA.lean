/- Small contracts of chapter 4: keys as the document's, their order there, may a key be. -/
import Derived.Test.YtgdbbdbfaglkdaaSPl
import Derived.Test.YtgdbbdbfaglkdaaKor
import Derived.Test.YtgdbbdbfaglkdaaSm4
import Derived.Test.YtgdbbdbfaglkdaaCeK
import Derived.Test.YtgdbbdbfaglkdaaAppS
import Derived.Test.YtgdbbdbfaglkdaaClR
import Derived.Deep.DeepCutAuto
import Derived.Deep.AppendLies
import Derived.Deep.RegionLaw
namespace Go.Proofs.Ytgdbbdbfaglkdaa
open Go.RowKit

set_option maxRecDepth 100000 in
theorem keyConv (n : ByteArray) (t c : Int) (w : World) : Calls Try.prog 45 #[.agg #[.string n, .int .i64 t, .int .i64 c]] w fun e w' => e = .returned (.agg #[.string n, .int .i64 t, .int .i64 c]) ∧ Below w.heap.size w w' := by
  go_enter Try.func45, Try.ntmps45
  go_wp2
  refine bodyPost_ret (v := .agg #[.string n, .int .i64 t, .int .i64 c]) (by simp [results, Try.results45, go_sem]) rfl ⟨rfl, ?_⟩
  repeat (first | exact Below.refl _ _ | apply Below.drew | refine Below.alloc ?_ (by simp) _ | refine Below.setCell ?_ (by simp) _)
theorem rnumber (x y : Int) (w : World) : Calls Try.prog 93 #[.int .i64 x, .int .i64 y] w fun e w' => e = .returned (.int .i64 (Lib.compareInt x y)) ∧ w = w' := by
  by_cases h1 : x < y
  · have d1 := dT h1
    have HV := Lib.hid (show Lib.compareInt x y = -1 by unfold Lib.compareInt; rw [if_pos h1])
    go_enter Try.func93, Try.ntmps93
    go_wp2
    go_ret
    exact ⟨ret_int HV.out.symm, rfl⟩
  · have d1 := dF h1
    by_cases h2 : y < x
    · have d2 := dT h2
      have HV := Lib.hid (show Lib.compareInt x y = 1 by unfold Lib.compareInt; rw [if_neg h1, if_pos h2])
      go_enter Try.func93, Try.ntmps93
      go_wp2
      go_ret
      exact ⟨ret_int HV.out.symm, rfl⟩
    · have d2 := dF h2
      have HV := Lib.hid (show Lib.compareInt x y = 0 by unfold Lib.compareInt; rw [if_neg h1, if_neg h2])
      go_enter Try.func93, Try.ntmps93
      go_wp2
      go_ret
      exact ⟨ret_int HV.out.symm, rfl⟩

set_option maxRecDepth 100000 in
set_option maxHeartbeats 1600000 in
theorem rcompareK (a b : Ky) (w : World) (ha : a.n.size ≤ 1000000) (hb : b.n.size ≤ 1000000) : Calls Try.prog 61 #[.agg #[.string a.n, .int .i64 a.t, .int .i64 a.c], .agg #[.string b.n, .int .i64 b.t, .int .i64 b.c]] w fun e w' => e = .returned (.int .i64 (kcmp a b)) ∧ Below w.heap.size w w' := by
  have HV := Lib.hid (show kcmp a b = if cmpS a.n b.n = 0 then (if Lib.compareInt a.c b.c = 0 then Lib.compareInt a.t b.t else Lib.compareInt a.c b.c) else cmpS a.n b.n by rw [kcmp, or3])
  obtain ⟨an, at1, ac⟩ := a
  obtain ⟨bn, bt, bk⟩ := b
  have HC := Lib.hid (fun wx => rcompare_any an bn wx ha hb)
  have H2 := Lib.hid (fun wx => rnumber ac bk wx)
  have H3 := Lib.hid (fun wx => rnumber at1 bt wx)
  obtain ⟨v1, hv1⟩ : ∃ x, cmpS an bn = x := ⟨_, rfl⟩
  obtain ⟨v2, hv2⟩ : ∃ x, Lib.compareInt ac bk = x := ⟨_, rfl⟩
  obtain ⟨v3, hv3⟩ : ∃ x, Lib.compareInt at1 bt = x := ⟨_, rfl⟩
  have hv := HV.out
  simp only at hv
  rw [hv1, hv2, hv3] at hv
  rw [hv1] at HC
  rw [hv2] at H2
  rw [hv3] at H3
  have h1 := (Below.refl w.heap.size w).alloc (Nat.le_refl _) (.cells #[.string an, .int .i64 at1, .int .i64 ac] 76)
  have h2 := (Below.refl _ (w.alloc (.cells #[.string an, .int .i64 at1, .int .i64 ac] 76))).alloc (Nat.le_refl _) (.cells #[.string bn, .int .i64 bt, .int .i64 bk] 76)
  have k1 := (kyAt_new w ⟨an, at1, ac⟩ 76).below h2
  have k2 := kyAt_new (w.alloc (.cells #[.string an, .int .i64 at1, .int .i64 ac] 76)) ⟨bn, bt, bk⟩ 76
  rw [World.size_alloc] at k2
  have HK1 := Lib.hid k1
  have HK2 := Lib.hid k2
  have HB0 := Lib.hid (h1.trans (h2.mono h1.size))
  clear hv1 hv2 hv3 ha hb HV k1 k2 h1 h2
  by_cases e1 : v1 = 0
  · subst e1
    rw [if_pos rfl] at hv
    by_cases e2 : v2 = 0
    · subst e2
      rw [if_pos rfl] at hv
      have HV := Lib.hid hv
      clear hv
      go_enter Try.func61, Try.ntmps61
      go_wp2_with fail
      refine (HC.out _).mono ?_; rintro e w1 ⟨rfl, hb⟩
      obtain ⟨_, p0, p1, p2⟩ := HK1.out.below hb
      obtain ⟨_, p3, p4, p5⟩ := HK2.out.below hb
      have HB := Lib.hid (HB0.out.trans (hb.mono HB0.out.size))
      clear hb
      go_wp2_with fail
      refine (H2.out _).mono ?_; rintro e w' ⟨rfl, rfl⟩
      go_wp2_with fail
      refine (H3.out _).mono ?_; rintro e w' ⟨rfl, rfl⟩
      go_wp2
      go_ret
      exact ⟨ret_int HV.out.symm, HB.out⟩
    · rw [if_neg e2] at hv
      have HV := Lib.hid hv
      have e3 : (v2 == 0) = false := eF e2
      clear hv e2
      go_enter Try.func61, Try.ntmps61
      go_wp2_with fail
      refine (HC.out _).mono ?_; rintro e w1 ⟨rfl, hb⟩
      obtain ⟨_, p0, p1, p2⟩ := HK1.out.below hb
      obtain ⟨_, p3, p4, p5⟩ := HK2.out.below hb
      have HB := Lib.hid (HB0.out.trans (hb.mono HB0.out.size))
      clear hb
      go_wp2_with fail
      refine (H2.out _).mono ?_; rintro e w' ⟨rfl, rfl⟩
      go_wp2
      go_ret
      exact ⟨ret_int HV.out.symm, HB.out⟩
  · rw [if_neg e1] at hv
    have HV := Lib.hid hv
    have e3 : (v1 == 0) = false := eF e1
    clear hv e1
    go_enter Try.func61, Try.ntmps61
    go_wp2_with fail
    refine (HC.out _).mono ?_; rintro e w1 ⟨rfl, hb⟩
    have HB := Lib.hid (HB0.out.trans (hb.mono HB0.out.size))
    clear hb
    go_wp2
    go_ret
    exact ⟨ret_int HV.out.symm, HB.out⟩

def r16 (x : Int) : Bool := decide (0 ≤ x) && decide (x ≤ 65535)
def mayK (k : Ky) : Bool := mayN k.n && (r16 k.c && r16 k.t)
theorem has16_any (x : Int) (w : World) : Calls Try.prog 95 #[.int .i64 x] w fun e w' => e = .returned (.bool (r16 x)) ∧ w = w' := by
  cases h1 : decide (0 ≤ x) <;> cases h2 : decide (x ≤ 65535)
  all_goals
    have HV := Lib.hid (show r16 x = (decide (0 ≤ x) && decide (x ≤ 65535)) from rfl)
    rw [h1, h2] at HV
    go_enter Try.func95, Try.ntmps95
    go_wp2
    go_ret
    exact ⟨ret_bool HV.out.symm, rfl⟩
set_option maxRecDepth 100000 in
set_option maxHeartbeats 1600000 in
theorem kmay_any (k : Ky) (w : World) (hk : k.n.size ≤ 1000000) : Calls Try.prog 63 #[.agg #[.string k.n, .int .i64 k.t, .int .i64 k.c]] w fun e w' => e = .returned (.bool (mayK k)) ∧ Below w.heap.size w w' := by
  obtain ⟨n, t, c⟩ := k
  have HB := Lib.hid ((Below.refl w.heap.size w).alloc (Nat.le_refl _) (.cells #[.string n, .int .i64 t, .int .i64 c] 68))
  have HM := Lib.hid (fun wx => nmay_any n wx hk)
  have H1 := Lib.hid (fun wx => has16_any c wx)
  have H2 := Lib.hid (fun wx => has16_any t wx)
  have hv : mayK ⟨n, t, c⟩ = (mayN n && (r16 c && r16 t)) := rfl
  cases h1 : mayN n <;> cases h2 : r16 c <;> cases h3 : r16 t
  all_goals
    rw [h1, h2, h3] at hv
    rw [h1] at HM
    rw [h2] at H1
    rw [h3] at H2
    have HV := Lib.hid hv
    go_enter Try.func63, Try.ntmps63
    go_wp2_with (first | (go_at_call 73; refine (HM.out _).mono ?_; rintro e w' ⟨rfl, rfl⟩) | (go_at_call 95; first | (with_reducible refine (H1.out _).mono ?_; rintro e w' ⟨rfl, rfl⟩) | (with_reducible refine (H2.out _).mono ?_; rintro e w' ⟨rfl, rfl⟩)))
    go_ret
    exact ⟨ret_bool HV.out.symm, HB.out⟩
set_option maxRecDepth 100000 in
set_option maxHeartbeats 1600000 in
theorem rkmay_any (k : Ky) (w : World) (hk : k.n.size ≤ 1000000) : Calls Try.prog 64 #[.agg #[.string k.n, .int .i64 k.t, .int .i64 k.c]] w fun e w' => e = .returned (.bool (mayK k)) ∧ Below w.heap.size w w' := by
  obtain ⟨n, t, c⟩ := k
  have HB := Lib.hid ((Below.refl w.heap.size w).alloc (Nat.le_refl _) (.cells #[.string n, .int .i64 t, .int .i64 c] 76))
  have HM := Lib.hid (fun wx => rmay_any n wx hk)
  have hv : mayK ⟨n, t, c⟩ = (mayN n && ((decide (0 ≤ c) && decide (c ≤ 65535)) && (decide (0 ≤ t) && decide (t ≤ 65535)))) := rfl
  cases h1 : mayN n <;> cases h2 : decide (0 ≤ c) <;> cases h3 : decide (c ≤ 65535) <;> cases h4 : decide (0 ≤ t) <;> cases h5 : decide (t ≤ 65535)
  all_goals
    rw [h1, h2, h3, h4, h5] at hv
    rw [h1] at HM
    have HV := Lib.hid hv
    go_enter Try.func64, Try.ntmps64
    go_wp2_with (go_at_call 37; refine (HM.out _).mono ?_; rintro e w' ⟨rfl, rfl⟩)
    go_ret
    exact ⟨ret_bool HV.out.symm, HB.out⟩
end Go.Proofs.Ytgdbbdbfaglkdaa
