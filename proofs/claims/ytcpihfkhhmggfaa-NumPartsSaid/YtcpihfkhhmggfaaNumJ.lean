/- NumParts: the walk. -/
import Derived.Test.YtcpihfkhhmggfaaNumE
import Derived.Test.YtcpihfkhhmggfaaAppI
namespace Go.Proofs.Ytcpihfkhhmggfaa
open Go.RowKit

theorem joinTo_app (W : Nat) (a b : List Int) : joinTo W (a ++ b) (a ++ b).length = joinTo W a a.length ++ joinTo W b b.length := by
  have h1 : ∀ k, k ≤ a.length → joinTo W (a ++ b) k = joinTo W a k := by
    intro k hk
    induction k with
    | zero => rfl
    | succ k ih =>
      simp only [joinTo]
      rw [ih (by omega)]
      simp [List.getD_eq_getElem?_getD, List.getElem?_append_left (show k < a.length by omega)]
  have h2 : ∀ k, joinTo W (a ++ b) (a.length + k) = joinTo W a a.length ++ joinTo W b k := by
    intro k
    induction k with
    | zero => simp [h1, joinTo]
    | succ k ih =>
      rw [← Nat.add_assoc]
      simp only [joinTo]
      rw [ih]
      have e : (a ++ b)[a.length + k]? = b[k]? := by rw [List.getElem?_append_right (by omega)]; congr 1; omega
      simp [List.getD_eq_getElem?_getD, e]
  rw [List.length_append, h2]

theorem joinOk_app (W : Int) (a b : List Int) : joinOk W (a ++ b) = (joinOk W a && joinOk W b) := by
  simp only [joinOk, List.all_append]
  cases decide (1 ≤ W ∧ W ≤ 6) <;> simp

theorem joinOk_one (W n : Int) : joinOk W [n] = fits n W := by
  rw [Bool.eq_iff_iff]
  simp only [joinOk, List.all_cons, List.all_nil, Bool.and_true, Bool.and_eq_true, decide_eq_true_eq, fits]
  omega
theorem join_one (W n : Int) : joinL W [n] = putL n W ∧ joinE W [n] = putE n W := by
  rw [joinL, joinE, putL, putE, joinOk_one]
  refine ⟨?_, rfl⟩
  split
  · simp [joinTo]
  · rfl

theorem joinL_len (W : Int) (l : List Int) (h : l.length ≤ 1000) : (bs (joinL W l)).size ≤ 6000 := by
  rw [bs_size, joinL]
  split
  · rename_i h1
    simp only [joinOk, Bool.and_eq_true, decide_eq_true_eq] at h1
    rw [joinTo_length]
    have := Nat.mul_le_mul (show W.toNat ≤ 6 by omega) h
    omega
  · simp

theorem row_lit1 (w : World) (x : Int) (t : TypeId) : Row (w.alloc (.cells #[.int .i64 x] t)) (some ⟨w.heap.size, 0, none⟩) 1 [x] := by
  refine ⟨rfl, Or.inr ⟨w.heap.size, 0, rfl, by simp, ?_⟩⟩
  intro j hj
  have : j = 0 := by omega
  subst this
  simp [World.cell?_alloc_at]

set_option maxRecDepth 100000 in
set_option maxHeartbeats 1000000 in
theorem walkParts0 (W : Int) (a : Option Addr) (la ca : Nat) (A : List Int) (b : Option Addr) (lb cb : Nat) (B : List Int) (w : World) (hA : Row w a la A) (na : a = none → la = 0 ∧ ca = 0) (hB : Row w b lb B) (nb : b = none → lb = 0 ∧ cb = 0) (h1 : la ≤ 500) (h0 : la = 0) (h2 : lb ≤ 500) :
    Calls Try.prog 6 #[.int .i64 W, .slice a la ca, .slice b lb cb] w fun e w' => e = .returned (.bool true) ∧ Below w.heap.size w w' := by
  have d1 := dF (p := (500 : Int) < (la : Int)) (by omega)
  have d2 := dF (p := (500 : Int) < (lb : Int)) (by omega)
  have x6 := joinL_len W A (by rw [hA.1]; omega)
  have y6 := joinL_len W B (by rw [hB.1]; omega)
  have hoa := joinOk_app W A B
  have hEA : joinE W A = if joinOk W A = true then 0 else 1 := rfl
  have hEB : joinE W B = if joinOk W B = true then 0 else 1 := rfl
  have hEC : joinE W (A ++ B) = if joinOk W (A ++ B) = true then 0 else 1 := rfl
  have hZ : joinOk W (A ++ B) = true → bs (joinL W (A ++ B)) = bs (joinL W A) ++ bs (joinL W B) := by
    intro h
    rw [hoa, Bool.and_eq_true] at h
    rw [joinL, joinL, joinL, hoa, h.1, h.2, bs_append]
    simp only [Bool.and_self, if_true]
    rw [joinTo_app]
  have dz : ((la : Int) == 0) = true := eT (by omega)
  clear h0
  have HRA := Lib.hid hA
  have HRB := Lib.hid hB
  have NA := Lib.hid na
  have NB := Lib.hid nb
  clear hA hB na nb
  have hcase : (joinE W A = 0 ∧ joinE W B = 0 ∧ joinE W (A ++ B) = 0 ∧ bs (joinL W (A ++ B)) = bs (joinL W A) ++ bs (joinL W B)) ∨ (joinE W A = 0 ∧ joinE W B = 1 ∧ joinE W (A ++ B) = 1) ∨ (joinE W A = 1 ∧ joinE W (A ++ B) = 1) := by
    rw [hEA, hEB, hEC, hoa]
    cases hj : joinOk W A
    · right; right; simp
    · cases hk : joinOk W B
      · right; left; simp
      · left
        rw [hj, hk] at hoa
        exact ⟨rfl, rfl, rfl, hZ hoa⟩
  clear hoa hEA hEB hEC hZ
  obtain ⟨X, hX⟩ : ∃ X, bs (joinL W A) = X := ⟨_, rfl⟩
  obtain ⟨Y, hY⟩ : ∃ Y, bs (joinL W B) = Y := ⟨_, rfl⟩
  rw [hX] at x6 hcase
  rw [hY] at y6 hcase
  rcases hcase with ⟨e1, e2, e3, e4⟩ | ⟨e1, e2, e3⟩ | ⟨e1, e3⟩
  all_goals
    go_enter Try.func6, Try.ntmps6
    go_wp2_with fail
    refine (nfirst _).mono ?_; rintro e w1 ⟨rfl, hb⟩
    have HB1 := Lib.hid hb; clear hb
    go_wp2_with fail
    refine (join_any _ _ _ _ A _ (HRA.out.below HB1.out) (by omega)).mono ?_; rintro e w2 ⟨rfl, hb⟩
    have HB2 := Lib.hid (HB1.out.trans (hb.mono HB1.out.size)); clear hb
    go_wp2_with fail
    refine (join_any _ _ _ _ B _ (HRB.out.below HB2.out) (by omega)).mono ?_; rintro e w3 ⟨rfl, hb⟩
    have HB3 := Lib.hid (HB2.out.trans (hb.mono HB2.out.size)); clear hb
    have HB3' := Lib.hid (HB3.out.alloc HB3.out.size (.cells #[] 3))
    go_wp2_with (at_builtin; refine append_row rfl _ _ rfl w.heap.size _ 0 [] rfl (World.ownsRow_made w3 #[] 0 HB3.out.size (by decide) rfl) a la ca A rfl NA.out (HRA.out.below (HB3.out.alloc HB3.out.size _)) (by omega) (by have := HB3.out.size; simp; omega) ?_)
    intro v1 w4 hown4 hgrow4
    have HO4 := Lib.hid hown4
    have HB4 := Lib.hid (HB3'.out.grown hgrow4 HB3'.out.size (fun k hk => by simp [Value.ownBlock] at hk; have := HB3.out.size; omega))
    clear hown4 hgrow4
    go_wp2_with (at_builtin; refine append_row rfl _ _ rfl w.heap.size _ la (ic A) rfl HO4.out b lb cb B rfl NB.out (HRB.out.below HB4.out) (by omega) HB4.out.size ?_)
    intro v2 w5 hown5 hgrow5
    rw [← ic_append] at hown5
    have HB5 := Lib.hid (HB4.out.grown hgrow5 HB4.out.size (fun k hk => (HO4.out.lt k hk).1))
    obtain ⟨a5, c5, rfl, _, hrow5⟩ := row_of_own hown5
    have HR5 := Lib.hid hrow5
    clear hown5 hgrow5 hrow5
    go_wp2_with fail
    refine (join_any _ _ _ _ (A ++ B) _ HR5.out (by omega)).mono ?_; rintro e w6 ⟨rfl, hb⟩
    have HB6 := Lib.hid (HB5.out.trans (hb.mono HB5.out.size)); clear hb
    go_wp2_with fail
    refine (nfirst _).mono ?_; rintro e w7 ⟨rfl, hb⟩
    have HB7 := Lib.hid (HB6.out.trans (hb.mono HB6.out.size)); clear hb
    go_wp2
    go_ret
    exact ⟨rfl, HB7.out⟩

set_option maxRecDepth 100000 in
set_option maxHeartbeats 1000000 in
theorem walkParts1 (W : Int) (a : Option Addr) (la ca : Nat) (A : List Int) (b : Option Addr) (lb cb : Nat) (B : List Int) (w : World) (hA : Row w a la A) (na : a = none → la = 0 ∧ ca = 0) (hB : Row w b lb B) (nb : b = none → lb = 0 ∧ cb = 0) (h1 : la ≤ 500) (h0 : 0 < la) (h2 : lb ≤ 500) :
    Calls Try.prog 6 #[.int .i64 W, .slice a la ca, .slice b lb cb] w fun e w' => e = .returned (.bool true) ∧ Below w.heap.size w w' := by
  have d1 := dF (p := (500 : Int) < (la : Int)) (by omega)
  have d2 := dF (p := (500 : Int) < (lb : Int)) (by omega)
  have x6 := joinL_len W A (by rw [hA.1]; omega)
  have y6 := joinL_len W B (by rw [hB.1]; omega)
  have hoa := joinOk_app W A B
  have hEA : joinE W A = if joinOk W A = true then 0 else 1 := rfl
  have hEB : joinE W B = if joinOk W B = true then 0 else 1 := rfl
  have hEC : joinE W (A ++ B) = if joinOk W (A ++ B) = true then 0 else 1 := rfl
  have hZ : joinOk W (A ++ B) = true → bs (joinL W (A ++ B)) = bs (joinL W A) ++ bs (joinL W B) := by
    intro h
    rw [hoa, Bool.and_eq_true] at h
    rw [joinL, joinL, joinL, hoa, h.1, h.2, bs_append]
    simp only [Bool.and_self, if_true]
    rw [joinTo_app]
  have dz : ((la : Int) == 0) = false := eF (by omega)
  have i0 : (0 : Int) < (la : Int) := by omega
  obtain ⟨q, qo, rfl, hql, hqc⟩ : ∃ b off, a = some ⟨b, off, none⟩ ∧ b < w.heap.size ∧ ∀ j, j < la → w.cell? ⟨b, off + j, none⟩ = some (.int .i64 (A.getD j 0)) := by
    rcases hA.2 with h | h
    · omega
    · exact h
  obtain ⟨m, hm⟩ : ∃ m, A.getD 0 0 = m := ⟨_, rfl⟩
  have hcell := hqc 0 h0
  rw [hm, Nat.add_zero] at hcell
  obtain ⟨o1, o2⟩ := join_one W m
  have HC0 := Lib.hid hcell
  clear hqc hm hcell
  have HRA := Lib.hid hA
  have HRB := Lib.hid hB
  have NA := Lib.hid na
  have NB := Lib.hid nb
  clear hA hB na nb
  have hcase : (joinE W A = 0 ∧ joinE W B = 0 ∧ joinE W (A ++ B) = 0 ∧ bs (joinL W (A ++ B)) = bs (joinL W A) ++ bs (joinL W B)) ∨ (joinE W A = 0 ∧ joinE W B = 1 ∧ joinE W (A ++ B) = 1) ∨ (joinE W A = 1 ∧ joinE W (A ++ B) = 1) := by
    rw [hEA, hEB, hEC, hoa]
    cases hj : joinOk W A
    · right; right; simp
    · cases hk : joinOk W B
      · right; left; simp
      · left
        rw [hj, hk] at hoa
        exact ⟨rfl, rfl, rfl, hZ hoa⟩
  clear hoa hEA hEB hEC hZ
  obtain ⟨X, hX⟩ : ∃ X, bs (joinL W A) = X := ⟨_, rfl⟩
  obtain ⟨Y, hY⟩ : ∃ Y, bs (joinL W B) = Y := ⟨_, rfl⟩
  rw [hX] at x6 hcase
  rw [hY] at y6 hcase
  rcases hcase with ⟨e1, e2, e3, e4⟩ | ⟨e1, e2, e3⟩ | ⟨e1, e3⟩
  all_goals
    go_enter Try.func6, Try.ntmps6
    go_wp2_with fail
    refine (nfirst _).mono ?_; rintro e w1 ⟨rfl, hb⟩
    have HB1 := Lib.hid hb; clear hb
    go_wp2_with fail
    refine (join_any _ _ _ _ A _ (HRA.out.below HB1.out) (by omega)).mono ?_; rintro e w2 ⟨rfl, hb⟩
    have HB2 := Lib.hid (HB1.out.trans (hb.mono HB1.out.size)); clear hb
    go_wp2_with fail
    refine (join_any _ _ _ _ B _ (HRB.out.below HB2.out) (by omega)).mono ?_; rintro e w3 ⟨rfl, hb⟩
    have HB3 := Lib.hid (HB2.out.trans (hb.mono HB2.out.size)); clear hb
    have HB3' := Lib.hid (HB3.out.alloc HB3.out.size (.cells #[] 3))
    go_wp2_with (at_builtin; refine append_row rfl _ _ rfl w.heap.size _ 0 [] rfl (World.ownsRow_made w3 #[] 0 HB3.out.size (by decide) rfl) _ la ca A rfl NA.out (HRA.out.below (HB3.out.alloc HB3.out.size _)) (by omega) (by have := HB3.out.size; simp; omega) ?_)
    intro v1 w4 hown4 hgrow4
    have HO4 := Lib.hid hown4
    have HB4 := Lib.hid (HB3'.out.grown hgrow4 HB3'.out.size (fun k hk => by simp [Value.ownBlock] at hk; have := HB3.out.size; omega))
    clear hown4 hgrow4
    go_wp2_with (at_builtin; refine append_row rfl _ _ rfl w.heap.size _ la (ic A) rfl HO4.out b lb cb B rfl NB.out (HRB.out.below HB4.out) (by omega) HB4.out.size ?_)
    intro v2 w5 hown5 hgrow5
    rw [← ic_append] at hown5
    have HB5 := Lib.hid (HB4.out.grown hgrow5 HB4.out.size (fun k hk => (HO4.out.lt k hk).1))
    obtain ⟨a5, c5, rfl, _, hrow5⟩ := row_of_own hown5
    have HR5 := Lib.hid hrow5
    clear hown5 hgrow5 hrow5
    go_wp2_with fail
    refine (join_any _ _ _ _ (A ++ B) _ HR5.out (by omega)).mono ?_; rintro e w6 ⟨rfl, hb⟩
    have HB6 := Lib.hid (HB5.out.trans (hb.mono HB5.out.size)); clear hb
    have hcell6 : w6.cell? ⟨q, qo, none⟩ = some (.int .i64 m) := by rw [HB6.out.cell hql]; exact HC0.out
    go_wp2_with fail
    refine (put_any _ _ _).mono ?_; rintro e w7 ⟨rfl, hb⟩
    have HB7 := Lib.hid (HB6.out.trans (hb.mono HB6.out.size)); clear hb
    clear hcell6
    have hcell7 : w7.cell? ⟨q, qo, none⟩ = some (.int .i64 m) := by rw [HB7.out.cell hql]; exact HC0.out
    go_wp2_with fail
    refine (join_any _ _ _ _ [m] _ (row_lit1 _ _ _) (by omega)).mono ?_; rintro e w8 ⟨rfl, hb⟩
    have HB8 := Lib.hid ((HB7.out.alloc HB7.out.size _).trans (hb.mono (by have := HB7.out.size; simp; omega))); clear hb
    clear hcell7
    go_wp2_with fail
    refine (nfirst _).mono ?_; rintro e w9 ⟨rfl, hb⟩
    have HB9 := Lib.hid (HB8.out.trans (hb.mono HB8.out.size)); clear hb
    go_wp2
    go_ret
    exact ⟨rfl, HB9.out⟩

set_option maxRecDepth 100000 in
theorem walkParts (W : Int) (a : Option Addr) (la ca : Nat) (A : List Int) (b : Option Addr) (lb cb : Nat) (B : List Int) (w : World) (hA : Row w a la A) (na : a = none → la = 0 ∧ ca = 0) (hB : Row w b lb B) (nb : b = none → lb = 0 ∧ cb = 0) :
    Calls Try.prog 6 #[.int .i64 W, .slice a la ca, .slice b lb cb] w fun e w' => e = .returned (.bool true) ∧ Below w.heap.size w w' := by
  by_cases h : la ≤ 500 ∧ lb ≤ 500
  · by_cases h0 : la = 0
    · exact walkParts0 W a la ca A b lb cb B w hA na hB nb h.1 h0 h.2
    · exact walkParts1 W a la ca A b lb cb B w hA na hB nb h.1 (by omega) h.2
  · have hd : decide ((500 : Int) < (la : Int)) = true ∨ decide ((500 : Int) < (la : Int)) = false ∧ decide ((500 : Int) < (lb : Int)) = true := by
      simp only [decide_eq_true_eq, decide_eq_false_iff_not]; omega
    clear h hA hB na nb
    rcases hd with d1 | ⟨d1, d2⟩
    all_goals
      go_enter Try.func6, Try.ntmps6
      go_wp2_with fail
      refine (nfirst _).mono ?_; rintro e w1 ⟨rfl, hb⟩
      have HB1 := Lib.hid hb; clear hb
      go_wp2_with fail
      refine (nfirst _).mono ?_; rintro e w2 ⟨rfl, hb⟩
      have HB2 := Lib.hid (HB1.out.trans (hb.mono HB1.out.size)); clear hb
      go_wp2
      go_ret
      exact ⟨rfl, HB2.out⟩
end Go.Proofs.Ytcpihfkhhmggfaa
