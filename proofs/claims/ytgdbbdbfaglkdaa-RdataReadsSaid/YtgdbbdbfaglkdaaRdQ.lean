/- Plain facts: an SOA, a digest put and got again (chapter 3). -/
import Derived.Test.YtgdbbdbfaglkdaaRdP
import Derived.Test.YtgdbbdbfaglkdaaGetP
namespace Go.Proofs.Ytgdbbdbfaglkdaa
open Go.RowKit

theorem get20 (T : ByteArray) (hz : T.size = 20) : getN T 0 4 = getTo T 0 4 ∧ getN T 4 4 = getTo T 4 4 ∧ getN T 8 4 = getTo T 8 4 ∧ getN T 12 4 = getTo T 12 4 ∧ getN T 16 4 = getTo T 16 4 := by
  refine ⟨?_, ?_, ?_, ?_, ?_⟩ <;> (rw [getN, if_pos (by omega)]; rfl)
theorem join20 (T : ByteArray) (hz : T.size = 20) : bs (joinTo 4 [getTo T 0 4, getTo T 4 4, getTo T 8 4, getTo T 12 4, getTo T 16 4] 5) = T := by
  refine byteAt_ext ?_ ?_
  · rw [bs_size, joinTo_length, hz]
  · intro j hj
    rw [bs_size, joinTo_length] at hj
    have e : j = j / 4 * 4 + j % 4 := by omega
    have hi : j / 4 < 5 := by omega
    have hr : j % 4 < 4 := by omega
    rw [byteAt_bs, e]
    rw [joinTo_at 4 _ 5 _ _ hi hr, ← byteAt_bs]
    rcases (by omega : j / 4 = 0 ∨ j / 4 = 1 ∨ j / 4 = 2 ∨ j / 4 = 3 ∨ j / 4 = 4) with h | h | h | h | h
    all_goals
      rw [h]
      exact put_get4_at T _ _ hr
theorem join20_ok (T : ByteArray) : joinOk 4 [getTo T 0 4, getTo T 4 4, getTo T 8 4, getTo T 12 4, getTo T 16 4] = true := by
  simp [joinOk, getTo4_fits]

theorem head_app (M X : ByteArray) (h : mayN M = true) : headOk (M ++ X) = true ∧ head1 (M ++ X) = M ∧ rest1 (M ++ X) = X := by
  have h1 := mayN_size h
  have h2 := mayN_hN h
  have h3 := hN_pre (pre_add M X) (by omega)
  have hz : (M ++ X).size = M.size + X.size := ByteArray.size_append
  have e : hN (M ++ X) + 1 = M.size := by omega
  have hh : (M ++ X).extract 0 M.size = M := by
    refine byteAt_ext ?_ ?_
    · rw [extract_size _ _ _ (by omega)]; omega
    · intro j hj
      rw [extract_size _ _ _ (by omega)] at hj
      rw [byteAt_extract _ _ _ _ (by omega) (by omega), Nat.zero_add, byteAt_append_left _ _ _ (by omega)]
  refine ⟨?_, ?_, ?_⟩
  · rw [headOk, e, hh, h, dT (p := hN (M ++ X) < (M ++ X).size) (by omega)]; rfl
  · rw [head1, e, hh]
  · rw [rest1, e]
    refine byteAt_ext ?_ ?_
    · rw [extract_size _ _ _ (Nat.le_refl _)]; omega
    · intro j hj
      rw [extract_size _ _ _ (Nat.le_refl _)] at hj
      rw [byteAt_extract _ _ _ _ (Nat.le_refl _) (by omega), byteAt_append_right]
theorem head_join {s : ByteArray} (h : headOk s = true) : head1 s ++ rest1 s = s := by
  have h1 := headOk_lt h
  have z1 : (head1 s).size = hN s + 1 := by rw [head1, extract_size _ _ _ (by omega)]; omega
  have z2 := rest1_size s
  refine byteAt_ext ?_ ?_
  · rw [ByteArray.size_append]; omega
  · intro j hj
    rw [ByteArray.size_append] at hj
    by_cases hlt : j < (head1 s).size
    · rw [byteAt_append_left _ _ _ hlt, head1, byteAt_extract _ _ _ _ (by omega) (by omega), Nat.zero_add]
    · have e : j = (head1 s).size + (j - (head1 s).size) := by omega
      have q := byteAt_append_right (head1 s) (rest1 s) (j - (head1 s).size)
      rw [← e] at q
      have q2 : byteAt (rest1 s) (j - (head1 s).size) = byteAt s (hN s + 1 + (j - (head1 s).size)) := byteAt_extract s (hN s + 1) s.size _ (Nat.le_refl _) (by omega)
      rw [q, q2]
      congr 1
      omega

theorem soaOk_parts {s : ByteArray} (h : soaOk s = true) : headOk s = true ∧ headOk (rest1 s) = true ∧ (soaT s).size = 20 := by
  simp only [soaOk, Bool.and_eq_true, decide_eq_true_eq] at h
  exact ⟨h.1.1, h.1.2, h.2⟩
theorem soaOk_size {s : ByteArray} (h : soaOk s = true) : s.size ≤ 530 := by
  obtain ⟨h1, h2, h3⟩ := soaOk_parts h
  have z1 := congrArg ByteArray.size (head_join h1)
  have z2 := congrArg ByteArray.size (head_join h2)
  have m1 := mayN_size (headOk_may h1)
  have m2 := mayN_size (headOk_may h2)
  rw [ByteArray.size_append] at z1 z2
  have : (rest1 (rest1 s)).size = 20 := h3
  omega
theorem mayD_6 (s : ByteArray) : mayD 6 s = soaOk s := by
  cases h : soaOk s
  · have : mayK 6 s = false := h
    rw [mayD, this, Bool.and_false]
  · have hz := soaOk_size h
    rw [mayD_is (by omega) (by omega)]
    exact h

/-- F1: what is put is got. -/
theorem soa_put (M R : ByteArray) (a b c d f : Int) (h1 : mayN M = true) (h2 : mayN R = true) (h3 : joinOk 4 [a, b, c, d, f] = true) :
    soaOk (M ++ R ++ bs (joinL 4 [a, b, c, d, f])) = true ∧ getSoaV (M ++ R ++ bs (joinL 4 [a, b, c, d, f])) = .tuple #[.agg #[.string M, .string R, .int .i64 a, .int .i64 b, .int .i64 c, .int .i64 d, .int .i64 f], .bool true] := by
  have hL : joinL 4 [a, b, c, d, f] = joinTo 4 [a, b, c, d, f] 5 := by rw [joinL, if_pos h3]; rfl
  have hz : (bs (joinTo 4 [a, b, c, d, f] 5)).size = 20 := by rw [bs_size, joinTo_length]
  have hf : AllFit 4 [a, b, c, d, f] [a, b, c, d, f].length := by
    simp only [joinOk, Bool.and_eq_true, decide_eq_true_eq, List.all_eq_true] at h3
    intro j hj
    rw [List.getD_eq_getElem?_getD, List.getElem?_eq_getElem hj]
    exact h3.2 _ (List.getElem_mem hj)
  have g0 : getN (bs (joinTo 4 [a, b, c, d, f] 5)) 0 4 = a := (get_join 4 [a, b, c, d, f] 0 (by simp) (by omega) (by omega) hf).1
  have g1 : getN (bs (joinTo 4 [a, b, c, d, f] 5)) 4 4 = b := (get_join 4 [a, b, c, d, f] 1 (by simp) (by omega) (by omega) hf).1
  have g2 : getN (bs (joinTo 4 [a, b, c, d, f] 5)) 8 4 = c := (get_join 4 [a, b, c, d, f] 2 (by simp) (by omega) (by omega) hf).1
  have g3 : getN (bs (joinTo 4 [a, b, c, d, f] 5)) 12 4 = d := (get_join 4 [a, b, c, d, f] 3 (by simp) (by omega) (by omega) hf).1
  have g4 : getN (bs (joinTo 4 [a, b, c, d, f] 5)) 16 4 = f := (get_join 4 [a, b, c, d, f] 4 (by simp) (by omega) (by omega) hf).1
  rw [hL]
  obtain ⟨T, hT⟩ : ∃ T, bs (joinTo 4 [a, b, c, d, f] 5) = T := ⟨_, rfl⟩
  rw [hT] at hz g0 g1 g2 g3 g4 ⊢
  rw [ByteArray.append_assoc]
  obtain ⟨k1, k2, k3⟩ := head_app M (R ++ T) h1
  obtain ⟨j1, j2, j3⟩ := head_app R T h2
  have hok : soaOk (M ++ (R ++ T)) = true := by rw [soaOk, k1, k3, j1, j3, dT hz]; rfl
  refine ⟨hok, ?_⟩
  have e1 : soaM (M ++ (R ++ T)) = M := k2
  have e2 : soaR (M ++ (R ++ T)) = R := by rw [soaR, k3, j2]
  have e3 : soaT (M ++ (R ++ T)) = T := by rw [soaT, k3, j3]
  rw [getSoaV, if_pos hok, e1, e2, e3, g0, g1, g2, g3, g4]

/-- F5: what is got is put again the same. -/
theorem soa_back {s : ByteArray} (h : soaOk s = true) :
    putSoaE (soaM s) (soaR s) [getN (soaT s) 0 4, getN (soaT s) 4 4, getN (soaT s) 8 4, getN (soaT s) 12 4, getN (soaT s) 16 4] = 0 ∧ putSoaS (soaM s) (soaR s) [getN (soaT s) 0 4, getN (soaT s) 4 4, getN (soaT s) 8 4, getN (soaT s) 12 4, getN (soaT s) 16 4] = s := by
  obtain ⟨h1, h2, h3⟩ := soaOk_parts h
  obtain ⟨g0, g1, g2, g3, g4⟩ := get20 _ h3
  have hm : (mayN (soaM s) && mayN (soaR s)) = true := by
    rw [Bool.and_eq_true]; exact ⟨headOk_may h1, headOk_may h2⟩
  rw [g0, g1, g2, g3, g4]
  have hj := join20_ok (soaT s)
  refine ⟨by rw [putSoaE, if_pos hm, joinE, if_pos hj], ?_⟩
  rw [putSoaS, if_pos hm, if_pos hj, joinL, if_pos hj]
  have := join20 _ h3
  show soaM s ++ soaR s ++ bs (joinTo 4 [getTo (soaT s) 0 4, getTo (soaT s) 4 4, getTo (soaT s) 8 4, getTo (soaT s) 12 4, getTo (soaT s) 16 4] 5) = s
  rw [this, ByteArray.append_assoc]
  have e1 := head_join h2
  have e2 := head_join h1
  show head1 s ++ (head1 (rest1 s) ++ rest1 (rest1 s)) = s
  rw [e1, e2]

def getMdV (s : ByteArray) : Value := if mayD 63 s = true then .tuple #[.agg #[.int .i64 (getN s 0 4), .int .i64 (byteAt s 4 : Int), .int .i64 (byteAt s 5 : Int), .string (s.extract 6 s.size)], .bool true] else .tuple #[.agg #[.int .i64 0, .int .i64 0, .int .i64 0, .string ⟨#[]⟩], .bool false]
theorem mayD_63 {s : ByteArray} (h : mayD 63 s = true) : 18 ≤ s.size ∧ s.size ≤ 1000 := by
  simp [mayD, mayK, mayMdN] at h
  omega

theorem join2 (b c : Int) (h : joinOk 1 [b, c] = true) : (bs (joinL 1 [b, c])).size = 2 ∧ (byteAt (bs (joinL 1 [b, c])) 0 : Int) = b ∧ (byteAt (bs (joinL 1 [b, c])) 1 : Int) = c := by
  have hf : AllFit 1 [b, c] [b, c].length := by
    simp only [joinOk, Bool.and_eq_true, decide_eq_true_eq, List.all_eq_true] at h
    intro j hj
    rw [List.getD_eq_getElem?_getD, List.getElem?_eq_getElem hj]
    exact h.2 _ (List.getElem_mem hj)
  have hL : joinL 1 [b, c] = joinTo 1 [b, c] [b, c].length := by rw [joinL, if_pos h]; rfl
  rw [hL]
  exact ⟨by rw [bs_size, joinTo_length]; rfl, join1_at [b, c] hf 0 (by simp), join1_at [b, c] hf 1 (by simp)⟩
theorem put4 (a : Int) (h : fits a 4 = true) : (bs (putL a 4)).size = 4 ∧ getTo (bs (putL a 4)) 0 4 = a := by
  have hf := (fits_iff a 4).1 h
  have hL : putL a 4 = putTo a 4 4 := by rw [putL, if_pos h]; rfl
  rw [hL]
  refine ⟨by rw [bs_size, putTo_length], ?_⟩
  have := getTo_put (bs (putTo a 4 4)) 0 4 a hf.2.2.1 hf.2.2.2 (fun j hj => by
    rw [byteAt_bs, Nat.zero_add, putTo_at _ _ _ hj, by8_toNat]) 4 (Nat.le_refl _)
  rw [this]
  simp
theorem getTo_congr {s t : ByteArray} {A B : Nat} : ∀ k, (∀ j, j < k → byteAt s (A + j) = byteAt t (B + j)) → getTo s A k = getTo t B k := by
  intro k
  induction k with
  | zero => intro _; rfl
  | succ k ih => intro h; simp only [getTo]; rw [ih fun j hj => h j (by omega), h k (by omega)]

/-- F2. -/
theorem md_put (a b c : Int) (D : ByteArray) (h1 : fits a 4 = true) (h2 : joinOk 1 [b, c] = true) (h3 : mayD 63 (mdData a b c D) = true) :
    getMdV (mdData a b c D) = .tuple #[.agg #[.int .i64 a, .int .i64 b, .int .i64 c, .string D], .bool true] := by
  obtain ⟨p1, p2⟩ := put4 a h1
  obtain ⟨j1, j2, j3⟩ := join2 b c h2
  rw [getMdV, if_pos h3]
  have hd : mdData a b c D = bs (putL a 4) ++ bs (joinL 1 [b, c]) ++ D := rfl
  obtain ⟨P, hP⟩ : ∃ P, bs (putL a 4) = P := ⟨_, rfl⟩
  obtain ⟨J, hJ⟩ : ∃ J, bs (joinL 1 [b, c]) = J := ⟨_, rfl⟩
  rw [hP] at hd p1 p2
  rw [hJ] at hd j1 j2 j3
  rw [hd]
  have hz : (P ++ J ++ D).size = 6 + D.size := by rw [ByteArray.size_append, ByteArray.size_append]; omega
  have hzp : (P ++ J).size = 6 := by rw [ByteArray.size_append]; omega
  have e0 : getN (P ++ J ++ D) 0 4 = a := by
    rw [getN, if_pos (by omega), ← p2]
    refine getTo_congr 4 ?_
    intro j hj
    rw [byteAt_append_left _ _ _ (by rw [hzp]; show 0 + j < 6; omega), byteAt_append_left _ _ _ (by show 0 + j < P.size; omega)]
    rfl
  have e4 : (byteAt (P ++ J ++ D) 4 : Int) = b := by
    rw [byteAt_append_left _ _ _ (by omega)]
    have := byteAt_append_right P J 0
    rw [p1] at this
    rw [← j2]
    exact congrArg _ this
  have e5 : (byteAt (P ++ J ++ D) 5 : Int) = c := by
    rw [byteAt_append_left _ _ _ (by omega)]
    have := byteAt_append_right P J 1
    rw [p1] at this
    rw [← j3]
    exact congrArg _ this
  have e6 : (P ++ J ++ D).extract 6 (P ++ J ++ D).size = D := by
    refine byteAt_ext ?_ ?_
    · rw [extract_size _ _ _ (Nat.le_refl _)]; omega
    · intro j hj
      rw [extract_size _ _ _ (Nat.le_refl _)] at hj
      rw [byteAt_extract _ _ _ _ (Nat.le_refl _) (by omega), ← hzp, byteAt_append_right]
  rw [e0, e4, e5, e6]

/-- F6. -/
theorem md_back {s : ByteArray} (h : mayD 63 s = true) : putMdE (getN s 0 4) (byteAt s 4) (byteAt s 5) (s.extract 6 s.size) = 0 ∧ putMdS (getN s 0 4) (byteAt s 4) (byteAt s 5) (s.extract 6 s.size) = s := by
  have hz := mayD_63 h
  have l4 := byteAt_lt s 4
  have l5 := byteAt_lt s 5
  have e0 : getN s 0 4 = getTo s 0 4 := by rw [getN, if_pos (by omega)]; rfl
  have f1 : fits (getN s 0 4) 4 = true := by rw [e0]; exact getTo4_fits s 0
  have f2 : joinOk 1 [(byteAt s 4 : Int), (byteAt s 5 : Int)] = true := by
    have k4 := (fits_iff (byteAt s 4 : Int) 1).2 ⟨by decide, by decide, by omega, by omega⟩
    have k5 := (fits_iff (byteAt s 5 : Int) 1).2 ⟨by decide, by decide, by omega, by omega⟩
    have k4' : fits (byteAt s 4 : Int) 1 = true := k4
    have k5' : fits (byteAt s 5 : Int) 1 = true := k5
    simp [joinOk, k4', k5']
  obtain ⟨j1, j2, j3⟩ := join2 _ _ f2
  have p1 := (put4 _ f1).1
  have hd : mdData (getN s 0 4) (byteAt s 4) (byteAt s 5) (s.extract 6 s.size) = s := by
    unfold mdData
    have pz : ∀ j, j < 4 → byteAt (bs (putL (getN s 0 4) 4)) j = byteAt s j := by
      intro j hj
      have hL : putL (getN s 0 4) 4 = putTo (getTo s 0 4) 4 4 := by rw [putL, if_pos f1, e0]; rfl
      rw [hL, put_get4_at s 0 j hj, Nat.zero_add]
    obtain ⟨P, hP⟩ : ∃ P, bs (putL (getN s 0 4) 4) = P := ⟨_, rfl⟩
    obtain ⟨J, hJ⟩ : ∃ J, bs (joinL 1 [(byteAt s 4 : Int), (byteAt s 5 : Int)]) = J := ⟨_, rfl⟩
    rw [hP] at p1 pz ⊢
    rw [hJ] at j1 j2 j3 ⊢
    have hzp : (P ++ J).size = 6 := by rw [ByteArray.size_append]; omega
    have hze : (s.extract 6 s.size).size = s.size - 6 := extract_size _ _ _ (Nat.le_refl _)
    refine byteAt_ext ?_ ?_
    · rw [ByteArray.size_append]; omega
    · intro j hj
      rw [ByteArray.size_append] at hj
      by_cases h6 : j < 6
      · rw [byteAt_append_left _ _ _ (by omega)]
        by_cases h4 : j < 4
        · rw [byteAt_append_left _ _ _ (by omega)]
          exact pz j h4
        · have q0 := byteAt_append_right P J 0
          have q1 := byteAt_append_right P J 1
          rw [p1] at q0 q1
          rcases (by omega : j = 4 ∨ j = 5) with rfl | rfl
          · have : byteAt (P ++ J) 4 = byteAt J 0 := q0
            rw [this]; omega
          · have : byteAt (P ++ J) 5 = byteAt J 1 := q1
            rw [this]; omega
      · have e : j = (P ++ J).size + (j - 6) := by omega
        have q := byteAt_append_right (P ++ J) (s.extract 6 s.size) (j - 6)
        rw [← e] at q
        have q2 := byteAt_extract s 6 s.size (j - 6) (Nat.le_refl _) (by omega)
        rw [q, q2]
        congr 1
        omega
  have hf : (fits (getN s 0 4) 4 && joinOk 1 [(byteAt s 4 : Int), (byteAt s 5 : Int)]) = true := by rw [f1, f2]; rfl
  refine ⟨by rw [putMdE, if_pos hf, hd, if_pos h], by rw [putMdS, if_pos hf, hd, if_pos h]⟩
end Go.Proofs.Ytgdbbdbfaglkdaa
