/- NumWrites, NumTexts: the walks. -/
import Derived.Test.YtcpihfkhhmggfaaNumE
namespace Go.Proofs.Ytcpihfkhhmggfaa
open Go.RowKit

set_option maxRecDepth 100000 in
set_option maxHeartbeats 1000000 in
theorem walkWrites (n W at' : Int) (a : Option Addr) (len cap : Nat) (l : List Int) (s : ByteArray) (w : World) (h : Row w a len l) (hs : s.size ≤ maxLen) :
    Calls Try.prog 3 #[.int .i64 n, .int .i64 W, .slice a len cap, .string s, .int .i64 at'] w fun e w' => e = .returned (.bool true) ∧ Below w.heap.size w w' := by
  unfold maxLen at hs
  have HR := Lib.hid h
  clear h
  by_cases h1 : s.size ≤ 8000
  · by_cases h2 : len ≤ 500
    · have d1 := dF (p := (8000 : Int) < (s.size : Int)) (by omega)
      have d2 := dF (p := (500 : Int) < (len : Int)) (by omega)
      go_enter Try.func3, Try.ntmps3
      go_wp2_with fail
      refine (nfirst _).mono ?_; rintro e w1 ⟨rfl, hb⟩
      have HB1 := Lib.hid hb; clear hb
      go_wp2_with fail
      refine (put_any _ _ _).mono ?_; rintro e w2 ⟨rfl, hb⟩
      have HB2 := Lib.hid (HB1.out.trans (hb.mono HB1.out.size)); clear hb
      go_wp2_with fail
      refine (rput_any _ _ _).mono ?_; rintro e w3 ⟨rfl, hb⟩
      have HB3 := Lib.hid (HB2.out.trans (hb.mono HB2.out.size)); clear hb
      go_wp2_with fail
      refine (join_any _ _ _ _ l _ (HR.out.below HB3.out) (by omega)).mono ?_; rintro e w4 ⟨rfl, hb⟩
      have HB4 := Lib.hid (HB3.out.trans (hb.mono HB3.out.size)); clear hb
      go_wp2_with fail
      refine (rjoin_any _ _ _ _ l _ (HR.out.below HB4.out) (by omega)).mono ?_; rintro e w5 ⟨rfl, hb⟩
      have HB5 := Lib.hid (HB4.out.trans (hb.mono HB4.out.size)); clear hb
      go_wp2_with fail
      refine (get_any _ _ _ _ (by omega)).mono ?_; rintro e w6 ⟨rfl, rfl⟩
      go_wp2_with fail
      refine (rget_any _ _ _ _ (by omega)).mono ?_; rintro e w7 ⟨rfl, rfl⟩
      go_wp2_with fail
      refine (nfirst _).mono ?_; rintro e w8 ⟨rfl, hb⟩
      have HB8 := Lib.hid (HB5.out.trans (hb.mono HB5.out.size)); clear hb
      go_wp2
      go_ret
      exact ⟨rfl, HB8.out⟩
    · have d1 := dF (p := (8000 : Int) < (s.size : Int)) (by omega)
      have d2 := dT (p := (500 : Int) < (len : Int)) (by omega)
      go_enter Try.func3, Try.ntmps3
      go_wp2_with fail
      refine (nfirst _).mono ?_; rintro e w1 ⟨rfl, hb⟩
      have HB1 := Lib.hid hb; clear hb
      go_wp2_with fail
      refine (nfirst _).mono ?_; rintro e w2 ⟨rfl, hb⟩
      have HB2 := Lib.hid (HB1.out.trans (hb.mono HB1.out.size)); clear hb
      go_wp2
      go_ret
      exact ⟨rfl, HB2.out⟩
  · have d1 := dT (p := (8000 : Int) < (s.size : Int)) (by omega)
    go_enter Try.func3, Try.ntmps3
    go_wp2_with fail
    refine (nfirst _).mono ?_; rintro e w1 ⟨rfl, hb⟩
    have HB1 := Lib.hid hb; clear hb
    go_wp2_with fail
    refine (nfirst _).mono ?_; rintro e w2 ⟨rfl, hb⟩
    have HB2 := Lib.hid (HB1.out.trans (hb.mono HB1.out.size)); clear hb
    go_wp2
    go_ret
    exact ⟨rfl, HB2.out⟩

set_option maxRecDepth 100000 in
set_option maxHeartbeats 1000000 in
theorem walkTexts (s : ByteArray) (w : World) (hs : s.size ≤ maxLen) :
    Calls Try.prog 4 #[.string s] w fun e w' => e = .returned (.bool true) ∧ Below w.heap.size w w' := by
  unfold maxLen at hs
  by_cases h1 : s.size ≤ 8000
  · have d1 := dF (p := (8000 : Int) < (s.size : Int)) (by omega)
    go_enter Try.func4, Try.ntmps4
    go_wp2_with fail
    refine (nfirst _).mono ?_; rintro e w1 ⟨rfl, hb⟩
    have HB1 := Lib.hid hb; clear hb
    go_wp2_with fail
    refine (unhex_any _ _ (by omega)).mono ?_; rintro e w2 ⟨rfl, hb⟩
    have HB2 := Lib.hid (HB1.out.trans (hb.mono HB1.out.size)); clear hb
    go_wp2_with fail
    refine (runhex_any _ _ (by omega)).mono ?_; rintro e w3 ⟨rfl, hb⟩
    have HB3 := Lib.hid (HB2.out.trans (hb.mono HB2.out.size)); clear hb
    go_wp2_with fail
    refine (nfirst _).mono ?_; rintro e w4 ⟨rfl, hb⟩
    have HB4 := Lib.hid (HB3.out.trans (hb.mono HB3.out.size)); clear hb
    go_wp2_with fail
    refine (hex_any _ _ (by omega)).mono ?_; rintro e w5 ⟨rfl, hb⟩
    have HB5 := Lib.hid (HB4.out.trans (hb.mono HB4.out.size)); clear hb
    go_wp2_with fail
    refine (rhex_any _ _ (by omega)).mono ?_; rintro e w6 ⟨rfl, hb⟩
    have HB6 := Lib.hid (HB5.out.trans (hb.mono HB5.out.size)); clear hb
    go_wp2_with fail
    refine (crc_any _ _ (by omega)).mono ?_; rintro e w7 ⟨rfl, rfl⟩
    go_wp2_with fail
    refine (rcrc_any _ _ (by omega)).mono ?_; rintro e w8 ⟨rfl, rfl⟩
    go_wp2
    go_ret
    exact ⟨rfl, HB6.out⟩
  · have d1 := dT (p := (8000 : Int) < (s.size : Int)) (by omega)
    go_enter Try.func4, Try.ntmps4
    go_wp2_with fail
    refine (nfirst _).mono ?_; rintro e w1 ⟨rfl, hb⟩
    have HB1 := Lib.hid hb; clear hb
    go_wp2_with fail
    refine (nfirst _).mono ?_; rintro e w2 ⟨rfl, hb⟩
    have HB2 := Lib.hid (HB1.out.trans (hb.mono HB1.out.size)); clear hb
    go_wp2
    go_ret
    exact ⟨rfl, HB2.out⟩
end Go.Proofs.Ytcpihfkhhmggfaa
