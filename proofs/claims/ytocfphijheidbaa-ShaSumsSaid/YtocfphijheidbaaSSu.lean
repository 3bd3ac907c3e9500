/- ShaSums: the walk. -/
import Derived.Test.YtocfphijheidbaaShL
import Derived.Test.YtocfphijheidbaaShAA
namespace Go.Proofs.Ytocfphijheidbaa
open Go.RowKit

set_option maxRecDepth 100000 in
set_option maxHeartbeats 8000000 in
theorem walkSums (pa : Option Addr) (la ca : Nat) (A : List (List UInt8)) (w : World) (hA : RowBC w pa la A) (lA : la ≤ 9223372036854775807) (sA : ∀ k, k < la → (A.getD k []).length ≤ 9223372036854775807) :
    Calls Try.prog 3 #[.slice pa la ca] w fun e w' => e = .returned (.bool true) ∧ Below w.heap.size w w' := by
  have HA := Lib.hid hA
  have SA := Lib.hid sA
  clear hA sA
  go_enter Try.func3, Try.ntmps3
  go_wp2_with fail
  refine (first8 _).mono ?_; rintro e w1 ⟨rfl, hb⟩
  have HB := Lib.hid hb; clear hb
  go_wp2_with fail
  refine (few8_any _ _ _ A _ (HA.out.below HB.out).bb lA SA.out).mono ?_; rintro e w' ⟨rfl | ⟨rfl, hl, hs⟩, rfl⟩
  · go_wp2_with fail
    refine (first8 _).mono ?_; rintro e w2 ⟨rfl, hb⟩
    have HB2 := Lib.hid (HB.out.trans (hb.mono HB.out.size)); clear hb
    go_wp2
    go_ret
    exact ⟨rfl, HB2.out⟩
  have CA := Lib.hid (show A.flatten.length ≤ 3000 from hs)
  obtain ⟨F, hF⟩ : ∃ z, A.flatten = z := ⟨_, rfl⟩
  rw [hF] at CA
  have HF := Lib.hid hF
  obtain ⟨nf, hnf⟩ : ∃ z, F.length = z := ⟨_, rfl⟩
  have HNF := Lib.hid hnf
  have hnf3 : nf ≤ 3000 := by rw [← hnf]; exact CA.out
  clear hs SA hF hnf
  go_wp2_with fail
  refine (all_any8 _ la ca A _ (HA.out.below HB.out).bb (by omega) (by rw [HF.out]; have := CA.out; omega)).mono ?_; rintro e w2 ⟨vx, rfl, hx, hb⟩
  rw [HF.out, HNF.out] at hx
  have HX := Lib.hid (ValC.own hx)
  replace HB := Lib.hid (HB.out.trans (hb.mono HB.out.size))
  clear hb
  obtain ⟨ax, cx, rfl⟩ := own_shape hx
  clear hx
  go_wp2_with fail
  refine (sums_any _ la ca A _ (HA.out.below HB.out) (by omega) (by rw [HF.out]; have := CA.out; omega)).mono ?_; rintro e w3 ⟨vs, rfl, hx, hb⟩
  rw [HF.out] at hx
  have HY := Lib.hid (ValC.own hx)
  replace HB := Lib.hid (HB.out.trans (hb.mono HB.out.size))
  replace HX := Lib.hid (HX.out.below hb)
  clear hb
  obtain ⟨ay, cy, rfl⟩ := own_shape48 hx
  clear hx
  go_wp2_with fail
  refine (first8 _).mono ?_; rintro e w4 ⟨rfl, hb⟩
  replace HB := Lib.hid (HB.out.trans (hb.mono HB.out.size))
  replace HX := Lib.hid (HX.out.below hb)
  replace HY := Lib.hid (HY.out.below hb)
  clear hb
  go_wp2_with fail
  refine (rsum_any ax nf cx F _ HX.out.open.2.2.1 HX.out.open.2.2.2 (by omega)).mono ?_; rintro e w5 ⟨vz, rfl, hx, hb⟩
  have HZ := Lib.hid (ValC.own hx)
  replace HB := Lib.hid (HB.out.trans (hb.mono HB.out.size))
  replace HX := Lib.hid (HX.out.below hb)
  replace HY := Lib.hid (HY.out.below hb)
  clear hb
  obtain ⟨az, cz, rfl⟩ := own_shape48 hx
  clear hx
  go_wp2_with fail
  refine (shaL_bytes HY.out HZ.out).mono ?_; rintro e wz ⟨rfl, rfl⟩
  go_wp2_with fail
  refine (all_any8 _ la ca A _ (HA.out.below HB.out).bb (by omega) (by rw [HF.out]; have := CA.out; omega)).mono ?_; rintro e w6 ⟨vt, rfl, hx, hb⟩
  rw [HF.out, HNF.out] at hx
  have HT := Lib.hid (ValC.own hx)
  replace HB := Lib.hid (HB.out.trans (hb.mono HB.out.size))
  replace HX := Lib.hid (HX.out.below hb)
  replace HY := Lib.hid (HY.out.below hb)
  replace HZ := Lib.hid (HZ.out.below hb)
  clear hb
  obtain ⟨at_, ct, rfl⟩ := own_shape hx
  clear hx
  go_wp2_with fail
  refine (bytes_same at_ ax nf ct cx F _ HT.out.open.2.2.1 HX.out.open.2.2.1 HT.out.open.2.2.2 HX.out.open.2.2.2).mono ?_; rintro e wz ⟨rfl, rfl⟩
  go_wp2
  go_ret
  exact ⟨rfl, HB.out⟩
end Go.Proofs.Ytocfphijheidbaa
