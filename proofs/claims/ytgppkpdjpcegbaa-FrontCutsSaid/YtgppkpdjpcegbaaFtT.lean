/- Plain: how long a reply of addresses of the question's own name is. -/
import Derived.Test.YtgppkpdjpcegbaaFtQ
namespace Go.Proofs.Ytgppkpdjpcegbaa
open Go.RowKit

theorem j2_len {l : List Int} (h : ∀ x ∈ l, 0 ≤ x ∧ x < 65536) : (joinL 2 l).length = 2 * l.length := by
  rw [joinL2 h]
  clear h
  induction l with
  | nil => rfl
  | cons a l ih => rw [List.flatMap_cons, List.length_append, ih, List.length_cons]; show 2 + _ = _; omega
theorem j4_len {n : Int} (h : 0 ≤ n ∧ n < 4294967296) : (joinL 4 [n]).length = 4 := by rw [joinL4 h]; rfl
def f00 : Pls := fun _ => none
theorem first_name {n : ByteArray} (h : mayN n = true) (X : List UInt8) (hx : X.length = 12) : (wNm f00 X (labs n)).1.length = 12 + n.size ∧ (labs n ≠ [] → (wNm f00 X (labs n)).2 (labs n) = some 12) := by
  obtain ⟨h1, h2, h3⟩ := labs_spec h
  have hs : n.size = off (labs n) (labs n).length + 1 := by
    have h4 := congrArg ByteArray.size h3
    rw [nameB_size] at h4
    exact h4
  constructor
  · have h5 := wNm_len [] (labs n) f00 X (fun k hk => rfl) (Or.inl rfl)
    rw [List.append_nil, if_pos rfl, hx] at h5
    have h6 : off (labs n) (labs n).length = (txtTo (labs n) (labs n).length).length := rfl
    omega
  · intro hne
    have h6 : off (labs n) (labs n).length = (txtTo (labs n) (labs n).length).length := rfl
    have h5 := (wNm_pls (labs n) f00 X (fun k hk => rfl) (by rw [hx]; omega)).1 0 (List.length_pos_iff.2 hne)
    rw [List.drop_zero, hx] at h5
    exact h5
theorem root_labs {n : ByteArray} (h : mayN n = true) : labs n = [] ↔ n = ⟨#[0]⟩ := by
  constructor
  · intro e
    have h3 := (labs_spec h).2.2
    rw [e] at h3
    rw [h3]
    decide +kernel
  · intro e
    rw [e]
    exact labs_root
theorem nmL_1 (d : ByteArray) : nmL 1 d = [] := by
  have h : tgB 1 d = false := by rw [tgB, decide_eq_false (by decide), Bool.and_false]
  rw [nmL, if_neg (by decide), h]
  rfl
theorem wDat_1 (f : Pls) (X : List UInt8) (d : ByteArray) : wDat f X 1 d = (X ++ d.data.toList, f) := by
  rw [wDat, nmL_1]
  rfl
/-- What an address of a name takes. -/
theorem rec_len (f : Pls) (X : List UInt8) (n : ByteArray) (c : Int) (d : ByteArray) (k : Nat) (hc : 0 ≤ c ∧ c < 65536) (hd : d.size = 4) (hw : wNm f X (labs n) = ((wNm f X (labs n)).1, f)) (hk : (wNm f X (labs n)).1.length = X.length + k) :
    (wRec f X ⟨⟨n, 1, c⟩, 5, d⟩).1.length = X.length + k + 14 ∧ (wRec f X ⟨⟨n, 1, c⟩, 5, d⟩).2 = f := by
  have h2 := j2_len (l := [1, c]) (by intro x hx; simp at hx; rcases hx with rfl | rfl <;> omega)
  have h4 := j4_len (n := 5) (by omega)
  have e4 : rec4 f X ⟨⟨n, 1, c⟩, 5, d⟩ = (rec2 f X ⟨⟨n, 1, c⟩, 5, d⟩ ++ joinL 2 [0] ++ d.data.toList, f) := by
    have e5 : (wNm f X (labs n)).2 = f := by rw [hw]
    show wDat (wNm f X (labs n)).2 (rec2 f X ⟨⟨n, 1, c⟩, 5, d⟩ ++ joinL 2 [0]) 1 d = _
    rw [wDat_1, e5]
  have hl : d.data.toList.length = 4 := by rw [size_data]; exact hd
  refine ⟨?_, by show (rec4 f X _).2 = f; rw [e4]⟩
  show (setLen _ _).length = _
  rw [setLen_length, e4]
  show (rec2 f X ⟨⟨n, 1, c⟩, 5, d⟩ ++ joinL 2 [0] ++ d.data.toList).length = _
  rw [List.length_append, List.length_append, zeros2, rec2, List.length_append, List.length_append]
  show (wNm f X (labs n)).1.length + (joinL 2 [1, c]).length + (joinL 4 [5]).length + 2 + d.data.toList.length = _
  rw [hk, h2, h4, hl]
  show X.length + k + 2 * 2 + 4 + 2 + 4 = _
  omega
/-- The addresses of a name. -/
def cutsA (n : ByteArray) (D : List ByteArray) : List R5 := D.map fun d => ⟨⟨n, 1, 1⟩, 5, d⟩
theorem fold_len (n : ByteArray) (f : Pls) (k : Nat) (hw : ∀ X, wNm f X (labs n) = ((wNm f X (labs n)).1, f) ∧ (wNm f X (labs n)).1.length = X.length + k) : ∀ (D : List ByteArray) (X : List UInt8), (∀ d ∈ D, d.size = 4) →
    ((cutsA n D).foldl wR (X, f)).1.length = X.length + (k + 14) * D.length ∧ ((cutsA n D).foldl wR (X, f)).2 = f
  | [], X, _ => ⟨rfl, rfl⟩
  | d :: D, X, h => by
    have h1 := rec_len f X n 1 d k (by omega) (h d (List.mem_cons_self ..)) (hw X).1 (hw X).2
    have e : (cutsA n (d :: D)).foldl wR (X, f) = (cutsA n D).foldl wR ((wRec f X ⟨⟨n, 1, 1⟩, 5, d⟩).1, f) := by
      show (cutsA n D).foldl wR (wRec f X ⟨⟨n, 1, 1⟩, 5, d⟩) = _
      congr 1
      exact Prod.ext rfl h1.2
    obtain ⟨h2, h3⟩ := fold_len n f k hw D (wRec f X ⟨⟨n, 1, 1⟩, 5, d⟩).1 (fun x hx => h x (List.mem_cons_of_mem _ hx))
    rw [e]
    refine ⟨?_, h3⟩
    rw [h2, h1.1, List.length_cons, Nat.mul_add]
    omega
theorem opt_len (f : Pls) (X : List UInt8) : (wRec f X (putR (optW 0))).1.length = X.length + 11 := by
  have hp : putE (optW 0) = 0 := rfl
  have ht := ttlO_rng hp
  have h1 := j2_len (l := [41, 1232]) (by intro x hx; simp at hx; rcases hx with rfl | rfl <;> omega)
  have h2 := j4_len (n := ttlO (optW 0)) (by omega)
  rw [putR_ok hp, wRec]
  show (setLen _ _).length = _
  rw [setLen_length, rec4]
  show (wDat _ _ 41 ⟨#[]⟩).1.length = _
  rw [wDat_opt, List.length_append, zeros2, rec2, List.length_append, List.length_append]
  show (wNm f X (labs ⟨#[0]⟩)).1.length + (joinL 2 [41, 1232]).length + (joinL 4 [ttlO (optW 0)]).length + 2 = _
  rw [labs_root, wNm, List.length_append, h1, h2]
  simp only [List.length_cons, List.length_nil]
def longN (n : ByteArray) (k : Nat) (ed : Bool) : Nat := (if n = ⟨#[0]⟩ then 17 + 15 * k else 16 + n.size + 16 * k) + (if ed then 11 else 0)
/-- How long the whole message is. -/
theorem rep_len {q : Ky} {id : Int} {rd ed : Bool} {D : List ByteArray} (hm : mayP (repM q id 0 rd ed false (cutsA q.n D)) = true) (hD : ∀ d ∈ D, d.size = 4) : (encY2 (repM q id 0 rd ed false (cutsA q.n D))).length = longN q.n D.length ed := by
  obtain ⟨hh, hlen, hq, -, -, -⟩ := mayM_parts hm
  have hk : mayK q = true := by have h : [q].all mayK = true := hq; simpa using h
  obtain ⟨hn, ht, hc⟩ : mayN q.n = true ∧ inR q.t 65535 = true ∧ inR q.c 65535 = true := by
    have h : (mayN q.n && (inR q.t 65535 && inR q.c 65535)) = true := hk
    simpa [and_assoc] using h
  have ht := inR_t ht
  have hc := inR_t hc
  have hid := inR_t (mayP_in hm).1
  have hl3 : 1 + (cutsA q.n D).length + 0 + (repM q id 0 rd ed false (cutsA q.n D)).x.length ≤ 300 := hlen
  have hfl := flag_rng (o := 0) (r := 0) rfl true false false rd true
  obtain ⟨X0, hX0⟩ : ∃ x, encX0 id 0 0 true false false rd true [q] (cutsA q.n D) [] (repM q id 0 rd ed false (cutsA q.n D)).x = x := ⟨_, rfl⟩
  have hx12 : X0.length = 12 := by
    rw [← hX0, encX0, j2_len]
    · rfl
    · intro x hx
      simp only [List.mem_cons, List.not_mem_nil, or_false] at hx
      rcases hx with h | h | h | h | h | h
      · rw [h]
        have h : (repM q id 0 rd ed false (cutsA q.n D)).i = id := rfl
        rw [h] at hid
        omega
      · rw [h]
        exact ⟨hfl.1, by have := hfl.2; omega⟩
      · rw [h]
        show (0 : Int) ≤ ((1 : Nat) : Int) ∧ ((1 : Nat) : Int) < 65536
        omega
      · rw [h]; omega
      · rw [h]
        show (0 : Int) ≤ ((0 : Nat) : Int) ∧ ((0 : Nat) : Int) < 65536
        omega
      · rw [h]; omega
  obtain ⟨f, hf⟩ : ∃ x, (wNm f00 X0 (labs q.n)).2 = x := ⟨_, rfl⟩
  obtain ⟨h1, h2⟩ := first_name hn X0 hx12
  have hjq := j2_len (l := [q.t, q.c]) (by intro x hx; simp at hx; rcases hx with rfl | rfl <;> omega)
  obtain ⟨X1, hX1⟩ : ∃ x, (wNm f00 X0 (labs q.n)).1 ++ joinL 2 [q.t, q.c] = x := ⟨_, rfl⟩
  have hx1 : X1.length = 16 + q.n.size := by
    rw [← hX1, List.length_append, h1, hjq]
    simp only [List.length_cons, List.length_nil]
    omega
  have hw : ∀ X, wNm f X (labs q.n) = ((wNm f X (labs q.n)).1, f) ∧ (wNm f X (labs q.n)).1.length = X.length + (if q.n = ⟨#[0]⟩ then 1 else 2) := by
    intro X
    by_cases hr : q.n = ⟨#[0]⟩
    · rw [(root_labs hn).2 hr, if_pos hr, wNm]
      exact ⟨rfl, by simp⟩
    · have hne : labs q.n ≠ [] := fun e => hr ((root_labs hn).1 e)
      have h3 := h2 hne
      rw [hf] at h3
      cases hL : labs q.n with
      | nil => exact absurd hL hne
      | cons s L =>
        rw [hL] at h3
        rw [wNm_yes h3, if_neg hr, List.length_append]
        exact ⟨rfl, by rw [place_len (by decide)]⟩
  obtain ⟨g1, g2⟩ := fold_len q.n f _ hw D X1 hD
  have e : encY2 (repM q id 0 rd ed false (cutsA q.n D)) = ((cutsA q.n D ++ ([] ++ (repM q id 0 rd ed false (cutsA q.n D)).x)).foldl wR (X1, f)).1 := by
    show ((cutsA q.n D ++ ([] ++ (repM q id 0 rd ed false (cutsA q.n D)).x)).foldl wR (wQ (encX0 id 0 0 true false false rd true [q] (cutsA q.n D) [] (repM q id 0 rd ed false (cutsA q.n D)).x, f00) q)).1 = _
    rw [hX0, wQ]
    show ((cutsA q.n D ++ ([] ++ (repM q id 0 rd ed false (cutsA q.n D)).x)).foldl wR ((wNm f00 X0 (labs q.n)).1 ++ joinL 2 [q.t, q.c], (wNm f00 X0 (labs q.n)).2)).1 = _
    rw [hX1, hf]
  rw [e, List.nil_append, List.foldl_append]
  have hz : (if q.n = ⟨#[0]⟩ then 17 + 15 * D.length else 16 + q.n.size + 16 * D.length) = X1.length + ((if q.n = ⟨#[0]⟩ then 1 else 2) + 14) * D.length := by
    rw [hx1]
    by_cases hr : q.n = ⟨#[0]⟩
    · rw [if_pos hr, if_pos hr]
      have : q.n.size = 1 := by rw [hr]; rfl
      omega
    · rw [if_neg hr, if_neg hr]
  rw [longN, hz, ← g1]
  cases ed
  · rfl
  · show (wRec _ _ (putR (optW 0))).1.length = _
    rw [opt_len]
    rfl
theorem may_addr {n d : ByteArray} (hn : mayN n = true) (hd : d.size = 4) : mayRr ⟨⟨n, 1, 1⟩, 5, d⟩ = true := by
  have h1 : mayD 1 d = true := by
    rw [mayD_is (by omega) (by omega), mayKR, if_pos rfl, hd]
    rfl
  show mayR n 1 1 5 d = true
  simp [mayR, hn, h1]
theorem flat_cuts (n : ByteArray) (D : List ByteArray) : flatP [⟨⟨n, 1, 1⟩, 5, D⟩] = cutsA n D := by
  show recs ⟨⟨n, 1, 1⟩, 5, D⟩ ++ [] = _
  rw [List.append_nil]; rfl
theorem cuts_may {q : Ky} {id : Int} {rd ed : Bool} {D : List ByteArray} (hD : ∀ d ∈ D, d.size = 4) (hl : D.length ≤ 200) (h : mayP (repM q id 0 rd ed true []) = true) : mayP (repM q id 0 rd ed false (cutsA q.n D)) = true := by
  have h0 : (headM id 0 0 && (decide (1 + 0 + 0 + (repM q id 0 rd ed true []).x.length ≤ 300) && ([q].all mayK && ((repM q id 0 rd ed true []).x.all mayX && (([] : List R5).all mayRr && ([] : List R5).all mayRr))))) = true := h
  simp only [Bool.and_eq_true] at h0
  obtain ⟨h1, h2, h3, h4, -⟩ := h0
  have hk : mayK q = true := by simpa using h3
  have hn : mayN q.n = true := by
    have h5 : (mayN q.n && (inR q.t 65535 && inR q.c 65535)) = true := hk
    simp only [Bool.and_eq_true] at h5
    exact h5.1
  have hA : (cutsA q.n D).all mayRr = true := by
    rw [List.all_eq_true]
    intro r hr
    rw [cutsA, List.mem_map] at hr
    obtain ⟨d, hd, rfl⟩ := hr
    exact may_addr hn (hD d hd)
  have hx : (repM q id 0 rd ed false (cutsA q.n D)).x.length ≤ 1 := by
    show (if ed = true then [putR (optW 0)] else []).length ≤ 1
    cases ed <;> decide
  have hc : (cutsA q.n D).length = D.length := List.length_map ..
  show (headM id 0 0 && (decide (1 + (cutsA q.n D).length + 0 + (repM q id 0 rd ed false (cutsA q.n D)).x.length ≤ 300) && ([q].all mayK && ((repM q id 0 rd ed false (cutsA q.n D)).x.all mayX && ((cutsA q.n D).all mayRr && ([] : List R5).all mayRr))))) = true
  rw [h1, decide_eq_true (by omega), h3, show (repM q id 0 rd ed false (cutsA q.n D)).x.all mayX = true from h4, hA]
  rfl
theorem cuts_back {q : Ky} {id : Int} {rd ed tc : Bool} {A : List R5} (h : mayP (repM q id 0 rd ed tc A) = true) : mayP (repM q id 0 rd ed true []) = true := by
  have h0 : (headM id 0 0 && (decide (1 + A.length + 0 + (repM q id 0 rd ed true []).x.length ≤ 300) && ([q].all mayK && ((repM q id 0 rd ed true []).x.all mayX && (A.all mayRr && ([] : List R5).all mayRr))))) = true := h
  simp only [Bool.and_eq_true, decide_eq_true_eq] at h0
  obtain ⟨h1, h2, h3, h4, -⟩ := h0
  show (headM id 0 0 && (decide (1 + 0 + 0 + (repM q id 0 rd ed true []).x.length ≤ 300) && ([q].all mayK && ((repM q id 0 rd ed true []).x.all mayX && (([] : List R5).all mayRr && ([] : List R5).all mayRr))))) = true
  rw [h1, decide_eq_true (by omega), h3, h4]
  rfl
theorem cuts_no {q : Ky} {id sz : Int} {rd ed : Bool} {A : List R5} (h : mayP (repM q id 0 rd ed true []) = false) : replyL q id 0 sz rd ed A = [] := by
  have h2 : encL2 (repM q id 0 rd ed false A) sz = [] := enc_nil (fun e => by have := cuts_back (enc_zero e).1; rw [h] at this; cases this)
  have h3 : encL2 (repM q id 0 rd ed true []) sz = [] := enc_nil (fun e => by have := (enc_zero e).1; rw [h] at this; cases this)
  rw [replyL, h2, h3]; rfl
theorem cuts_long {q : Ky} {id sz : Int} {rd ed : Bool} {D : List ByteArray} (hD : ∀ d ∈ D, d.size = 4) (hl : D.length ≤ 200) (h : mayP (repM q id 0 rd ed true []) = true) (hs : 300 ≤ sz) (hz : sz < (longN q.n D.length ed : Int)) : decP (bs (replyL q id 0 sz rd ed (cutsA q.n D))) = some (fromP (repM q id 0 rd ed true [])) ∧ ((replyL q id 0 sz rd ed (cutsA q.n D)).length : Int) ≤ sz ∧ (replyL q id 0 sz rd ed (cutsA q.n D)).length ≤ 16000 := by
  have hm := cuts_may hD hl h
  have h2 : encL2 (repM q id 0 rd ed false (cutsA q.n D)) sz = [] := enc_nil (fun e => by
    have h3 := (enc_zero e).2.2.2.1
    rw [rep_len hm hD] at h3
    omega)
  have hl2 := cut_len h
  have h3 := enc_fit h (most := sz) (by omega) (by omega)
  have e : replyL q id 0 sz rd ed (cutsA q.n D) = encL2 (repM q id 0 rd ed true []) sz := by rw [replyL, h2]; rfl
  rw [e]
  exact ⟨enc_back h3.1, by rw [h3.2]; omega, by rw [h3.2]; omega⟩
theorem cuts_fit {q : Ky} {id sz : Int} {rd ed : Bool} {D : List ByteArray} (hD : ∀ d ∈ D, d.size = 4) (hl : D.length ≤ 200) (h : mayP (repM q id 0 rd ed true []) = true) (hs : sz ≤ 16000) (hz : ¬ sz < (longN q.n D.length ed : Int)) : decP (bs (replyL q id 0 sz rd ed (cutsA q.n D))) = some (fromP (repM q id 0 rd ed false (cutsA q.n D))) ∧ (replyL q id 0 sz rd ed (cutsA q.n D)).length = longN q.n D.length ed ∧ longN q.n D.length ed ≤ 16000 := by
  have hm := cuts_may hD hl h
  have hr := rep_len hm hD
  have h3 := enc_fit hm (most := sz) (by rw [hr]; omega) (by rw [hr]; omega)
  have h12 := (enc_zero h3.1).2.2.1
  have e : replyL q id 0 sz rd ed (cutsA q.n D) = encL2 (repM q id 0 rd ed false (cutsA q.n D)) sz := by rw [replyL, if_pos (by rw [h3.2]; omega)]
  rw [e]
  exact ⟨enc_back h3.1, by rw [h3.2]; exact hr, by omega⟩
end Go.Proofs.Ytgppkpdjpcegbaa
