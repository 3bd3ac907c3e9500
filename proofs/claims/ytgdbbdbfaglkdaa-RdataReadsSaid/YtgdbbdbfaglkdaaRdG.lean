/- Contract of rdata.GetSoa (chapter 3), over this seat's translation. -/
import Derived.Test.YtgdbbdbfaglkdaaRdF
namespace Go.Proofs.Ytgdbbdbfaglkdaa
open Go.RowKit

def soaM (s : ByteArray) : ByteArray := head1 s
def soaR (s : ByteArray) : ByteArray := head1 (rest1 s)
def soaT (s : ByteArray) : ByteArray := rest1 (rest1 s)
def getSoaV (s : ByteArray) : Value := if soaOk s = true then .tuple #[.agg #[.string (soaM s), .string (soaR s), .int .i64 (getN (soaT s) 0 4), .int .i64 (getN (soaT s) 4 4), .int .i64 (getN (soaT s) 8 4), .int .i64 (getN (soaT s) 12 4), .int .i64 (getN (soaT s) 16 4)], .bool true] else .tuple #[.agg #[.string ⟨#[]⟩, .string ⟨#[]⟩, .int .i64 0, .int .i64 0, .int .i64 0, .int .i64 0, .int .i64 0], .bool false]

theorem set7_below {B b : Nat} {w wr : World} (h : Below B w wr) (hB : B ≤ b) (v0 v1 v2 v3 v4 v5 v6 : Value) : Below B w (((((((wr.setCell ⟨b, 0, none⟩ v0).setCell ⟨b, 1, none⟩ v1).setCell ⟨b, 2, none⟩ v2).setCell ⟨b, 3, none⟩ v3).setCell ⟨b, 4, none⟩ v4).setCell ⟨b, 5, none⟩ v5).setCell ⟨b, 6, none⟩ v6) :=
  ((((((h.setCell hB _).setCell hB _).setCell hB _).setCell hB _).setCell hB _).setCell hB _).setCell hB _
theorem set5_below {B b : Nat} {w wr : World} (h : Below B w wr) (hB : B ≤ b) (v0 v1 v2 v3 v4 : Value) : Below B w (((((wr.setCell ⟨b, 0, none⟩ v0).setCell ⟨b, 1, none⟩ v1).setCell ⟨b, 2, none⟩ v2).setCell ⟨b, 3, none⟩ v3).setCell ⟨b, 4, none⟩ v4) :=
  ((((h.setCell hB _).setCell hB _).setCell hB _).setCell hB _).setCell hB _

set_option maxRecDepth 100000 in
set_option maxHeartbeats 1600000 in
theorem getSoa_any (s : ByteArray) (w : World) (hs : s.size ≤ 1000000) : Calls Try.prog 14 #[.string s] w fun e w' => e = .returned (getSoaV s) ∧ Below w.heap.size w w' := by
  have hr := rest1_size s
  cases h1 : headOk s
  · have HV := Lib.hid (show getSoaV s = .tuple #[.agg #[.string ⟨#[]⟩, .string ⟨#[]⟩, .int .i64 0, .int .i64 0, .int .i64 0, .int .i64 0, .int .i64 0], .bool false] by rw [getSoaV, soaOk, h1]; rfl)
    have HH := Lib.hid (show headV s = .tuple #[.string ⟨#[]⟩, .string ⟨#[]⟩, .bool false] by rw [headV, h1]; rfl)
    clear h1 hr
    go_enter Try.func14, Try.ntmps14
    go_wp2_with fail
    refine (head_any _ _ hs).mono ?_; rintro e w1 ⟨rfl, n1, rfl⟩
    rw [HH.out]
    go_wp2
    refine bodyPost_ret (v := .tuple #[.agg #[.string ⟨#[]⟩, .string ⟨#[]⟩, .int .i64 0, .int .i64 0, .int .i64 0, .int .i64 0, .int .i64 0], .bool false]) (by simp [results, Try.results14, go_sem]) rfl ⟨by rw [HV.out], ?_⟩
    exact set7_below (below_drewN ((Below.refl _ _).alloc (Nat.le_refl _) _) _) (Nat.le_refl _) _ _ _ _ _ _ _
  · have HH := Lib.hid (show headV s = .tuple #[.string (head1 s), .string (rest1 s), .bool true] by rw [headV, h1]; rfl)
    cases h2 : headOk (rest1 s)
    · have HV := Lib.hid (show getSoaV s = .tuple #[.agg #[.string ⟨#[]⟩, .string ⟨#[]⟩, .int .i64 0, .int .i64 0, .int .i64 0, .int .i64 0, .int .i64 0], .bool false] by rw [getSoaV, soaOk, h1, h2]; rfl)
      have HH2 := Lib.hid (show headV (rest1 s) = .tuple #[.string ⟨#[]⟩, .string ⟨#[]⟩, .bool false] by rw [headV, h2]; rfl)
      have hz : (rest1 s).size ≤ 1000000 := by omega
      obtain ⟨S1, hS1⟩ : ∃ S1, rest1 s = S1 := ⟨_, rfl⟩
      obtain ⟨M, hM⟩ : ∃ M, head1 s = M := ⟨_, rfl⟩
      rw [hS1] at HH HH2 hz
      rw [hM] at HH
      clear h1 h2 hr hS1 hM
      go_enter Try.func14, Try.ntmps14
      go_wp2_with fail
      refine (head_any _ _ hs).mono ?_; rintro e w1 ⟨rfl, n1, rfl⟩
      rw [HH.out]
      go_wp2_with fail
      refine (head_any _ _ hz).mono ?_; rintro e w1 ⟨rfl, n2, rfl⟩
      rw [HH2.out]
      go_wp2
      refine bodyPost_ret (v := .tuple #[.agg #[.string ⟨#[]⟩, .string ⟨#[]⟩, .int .i64 0, .int .i64 0, .int .i64 0, .int .i64 0, .int .i64 0], .bool false]) (by simp [results, Try.results14, go_sem]) rfl ⟨by rw [HV.out], ?_⟩
      exact set7_below (below_drewN ((Below.refl _ _).alloc (Nat.le_refl _) _) _) (Nat.le_refl _) _ _ _ _ _ _ _
    · have HH2 := Lib.hid (show headV (rest1 s) = .tuple #[.string (head1 (rest1 s)), .string (rest1 (rest1 s)), .bool true] by rw [headV, h2]; rfl)
      have hz : (rest1 s).size ≤ 1000000 := by omega
      have hz2 : (rest1 (rest1 s)).size ≤ 1000000 := by rw [rest1_size]; omega
      by_cases h3 : (rest1 (rest1 s)).size = 20
      · have HV := Lib.hid (show getSoaV s = .tuple #[.agg #[.string (head1 s), .string (head1 (rest1 s)), .int .i64 (getN (rest1 (rest1 s)) 0 4), .int .i64 (getN (rest1 (rest1 s)) 4 4), .int .i64 (getN (rest1 (rest1 s)) 8 4), .int .i64 (getN (rest1 (rest1 s)) 12 4), .int .i64 (getN (rest1 (rest1 s)) 16 4)], .bool true] by rw [getSoaV, soaOk, h1, h2, dT h3]; rfl)
        have d : (((rest1 (rest1 s)).size : Int) != 20) = false := nF (by omega)
        obtain ⟨T, hT⟩ : ∃ T, rest1 (rest1 s) = T := ⟨_, rfl⟩
        rw [hT] at HH2 HV hz2 d
        obtain ⟨R, hR⟩ : ∃ R, head1 (rest1 s) = R := ⟨_, rfl⟩
        rw [hR] at HH2 HV
        obtain ⟨S1, hS1⟩ : ∃ S1, rest1 s = S1 := ⟨_, rfl⟩
        obtain ⟨M, hM⟩ : ∃ M, head1 s = M := ⟨_, rfl⟩
        rw [hS1] at HH HH2 hz
        rw [hM] at HH HV
        clear h1 h2 hr hS1 hM hT hR h3
        go_enter Try.func14, Try.ntmps14
        go_wp2_with fail
        refine (head_any _ _ hs).mono ?_; rintro e w1 ⟨rfl, n1, rfl⟩
        rw [HH.out]
        go_wp2_with fail
        refine (head_any _ _ hz).mono ?_; rintro e w1 ⟨rfl, n2, rfl⟩
        rw [HH2.out]
        go_wp2_with fail
        refine wp_loop_rounds 6 ?_
        iterate 6 (rw [rounds_succ]; go_wp2_with (first | (go_at_call 69; refine (get_any T _ _ _ (by omega)).mono ?_; rintro e w' ⟨rfl, rfl⟩)))
        refine bodyPost_ret (v := .tuple #[.agg #[.string M, .string R, .int .i64 (getN T 0 4), .int .i64 (getN T 4 4), .int .i64 (getN T 8 4), .int .i64 (getN T 12 4), .int .i64 (getN T 16 4)], .bool true]) (by simp [results, Try.results14, go_sem]) rfl ⟨by rw [HV.out], ?_⟩
        have h7 := set7_below (below_drewN ((Below.refl w.heap.size w).alloc (Nat.le_refl _) (.cells #[.string ⟨#[]⟩, .string ⟨#[]⟩, .int .i64 0, .int .i64 0, .int .i64 0, .int .i64 0, .int .i64 0] 26)) (n1 + n2)) (Nat.le_refl _) (.string M) (.string R) (.int .i64 (getN T 0 4)) (.int .i64 (getN T 4 4)) (.int .i64 (getN T 8 4)) (.int .i64 (getN T 12 4)) (.int .i64 (getN T 16 4))
        exact h7.alloc h7.size _
      · have HV := Lib.hid (show getSoaV s = .tuple #[.agg #[.string ⟨#[]⟩, .string ⟨#[]⟩, .int .i64 0, .int .i64 0, .int .i64 0, .int .i64 0, .int .i64 0], .bool false] by rw [getSoaV, soaOk, h1, h2, dF h3]; rfl)
        have d : (((rest1 (rest1 s)).size : Int) != 20) = true := nT (by omega)
        obtain ⟨T, hT⟩ : ∃ T, rest1 (rest1 s) = T := ⟨_, rfl⟩
        rw [hT] at HH2 d
        obtain ⟨R, hR⟩ : ∃ R, head1 (rest1 s) = R := ⟨_, rfl⟩
        rw [hR] at HH2
        obtain ⟨S1, hS1⟩ : ∃ S1, rest1 s = S1 := ⟨_, rfl⟩
        obtain ⟨M, hM⟩ : ∃ M, head1 s = M := ⟨_, rfl⟩
        rw [hS1] at HH HH2 hz
        rw [hM] at HH
        clear h1 h2 hr hS1 hM hT hR h3
        go_enter Try.func14, Try.ntmps14
        go_wp2_with fail
        refine (head_any _ _ hs).mono ?_; rintro e w1 ⟨rfl, n1, rfl⟩
        rw [HH.out]
        go_wp2_with fail
        refine (head_any _ _ hz).mono ?_; rintro e w1 ⟨rfl, n2, rfl⟩
        rw [HH2.out]
        go_wp2
        refine bodyPost_ret (v := .tuple #[.agg #[.string ⟨#[]⟩, .string ⟨#[]⟩, .int .i64 0, .int .i64 0, .int .i64 0, .int .i64 0, .int .i64 0], .bool false]) (by simp [results, Try.results14, go_sem]) rfl ⟨by rw [HV.out], ?_⟩
        exact set7_below (below_drewN ((Below.refl _ _).alloc (Nat.le_refl _) _) _) (Nat.le_refl _) _ _ _ _ _ _ _
end Go.Proofs.Ytgdbbdbfaglkdaa
