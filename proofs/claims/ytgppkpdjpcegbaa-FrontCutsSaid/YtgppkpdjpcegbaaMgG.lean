/- Texts that others rest on, one behind the other: RtA, RtB, RtC. -/
import Derived.Test.YtgppkpdjpcegbaaWnP
import Derived.Test.YtgppkpdjpcegbaaMgE
import Derived.Test.YtgppkpdjpcegbaaDeE
import Derived.Test.YtgppkpdjpcegbaaEcG
import Derived.Test.YtgppkpdjpcegbaaMgM
section
namespace Go.Proofs.Ytgppkpdjpcegbaa
open Go.RowKit

/-- T stands at place A of Y. -/
def At (Y : List UInt8) (A : Nat) (T : List UInt8) : Prop := ∃ P R, Y = P ++ (T ++ R) ∧ P.length = A
theorem At.app {Y T U : List UInt8} {A : Nat} (h : At Y A (T ++ U)) : At Y A T ∧ At Y (A + T.length) U := by
  obtain ⟨P, R, rfl, rfl⟩ := h
  exact ⟨⟨P, U ++ R, by simp, rfl⟩, ⟨P ++ T, R, by simp, by simp⟩⟩
theorem At.left {Y T U : List UInt8} {A : Nat} (h : At Y A (T ++ U)) : At Y A T := h.app.1
theorem At.right {Y T U : List UInt8} {A : Nat} (h : At Y A (T ++ U)) : At Y (A + T.length) U := h.app.2
theorem At.le {Y T : List UInt8} {A : Nat} (h : At Y A T) : A + T.length ≤ Y.length := by
  obtain ⟨P, R, rfl, rfl⟩ := h
  simp only [List.length_append]; omega
theorem At.byte {Y T : List UInt8} {b : UInt8} {A : Nat} (h : At Y A (b :: T)) : byteAt (bs Y) A = b.toNat := by
  obtain ⟨P, R, rfl, rfl⟩ := h
  rw [byteAt_bs, List.getD_eq_getElem?_getD, List.getElem?_append_right (Nat.le_refl _), Nat.sub_self]
  rfl
theorem At.ext {Y T : List UInt8} {A : Nat} (h : At Y A T) : (bs Y).extract A (A + T.length) = bs T := by
  obtain ⟨P, R, rfl, rfl⟩ := h
  apply ba_eq
  rw [extract_toList]
  show List.take _ (List.drop _ (P ++ (T ++ R))) = T
  rw [List.drop_left, Nat.add_sub_cancel_left, List.take_left]
theorem At.whole (Y : List UInt8) : At Y 0 Y := ⟨[], [], by simp, rfl⟩
/-- A name with places told, as it stands in Y from A on: its labels and the place behind it. -/
inductive NmR (Y : List UInt8) : Nat → Nat → List ByteArray → Nat → Prop
  | fin (A H : Nat) : At Y A [0] → NmR Y A H [] (A + 1)
  | lab (A H : Nat) (x : ByteArray) (L : List ByteArray) (e : Nat) : 1 ≤ x.size → x.size ≤ 63 → At Y A (UInt8.ofNat x.size :: x.data.toList) → NmR Y (A + 1 + x.size) H L e → NmR Y A H (x :: L) e
  | ptr (A H p : Nat) (L : List ByteArray) (e : Nat) : p < 16384 → p < H → At Y A (joinL 2 [(49152 : Int) + p]) → NmR Y p p L e → NmR Y A H L (A + 2)
theorem NmR.mono {Y : List UInt8} {A H e : Nat} {L : List ByteArray} (h : NmR Y A H L e) : ∀ H', H ≤ H' → NmR Y A H' L e := by
  induction h with
  | fin A H h => intro H' _; exact .fin A H' h
  | lab A H x L e h1 h2 h3 _ ih => intro H' hH; exact .lab A H' x L e h1 h2 h3 (ih H' hH)
  | ptr A H p L e h1 h2 h3 h4 _ => intro H' hH; exact .ptr A H' p L e h1 (by omega) h3 h4
theorem NmR.pos {Y : List UInt8} {A H e : Nat} {L : List ByteArray} (h : NmR Y A H L e) : A < e ∧ e ≤ Y.length := by
  induction h with
  | fin A H h => have := h.le; simp at this; omega
  | lab A H x L e h1 h2 h3 _ ih => omega
  | ptr A H p L e h1 h2 h3 h4 _ => have := h3.le; rw [place_len h1] at this; omega
def p2 (n : Int) : List UInt8 := [by8 (n / 256), by8 n]
def p4 (n : Int) : List UInt8 := [by8 (n / 16777216), by8 (n / 65536), by8 (n / 256), by8 n]
theorem putTo2 (n : Int) : putTo n 2 2 = p2 n := by
  simp [putTo, List.range_succ, p2]
theorem putTo4 (n : Int) : putTo n 4 4 = p4 n := by
  simp [putTo, List.range_succ, p4]
theorem joinTo_map (W : Nat) (l : List Int) : ∀ k, k ≤ l.length → joinTo W l k = (l.take k).flatMap fun n => putTo n W W
  | 0, _ => by simp [joinTo]
  | k + 1, h => by
    rw [joinTo, joinTo_map W l k (by omega), List.take_add_one, List.flatMap_append, List.getElem?_eq_getElem (by omega), List.getD_eq_getElem?_getD, List.getElem?_eq_getElem (by omega)]
    simp
theorem fits2 {n : Int} (h : 0 ≤ n ∧ n < 65536) : fits n 2 = true := by
  have e : (2 : Int) ^ (8 * (2 : Int).toNat) = 65536 := by decide
  simp only [fits, decide_eq_true_eq]
  rw [e]
  omega
theorem fits4 {n : Int} (h : 0 ≤ n ∧ n < 4294967296) : fits n 4 = true := by
  have e : (2 : Int) ^ (8 * (4 : Int).toNat) = 4294967296 := by decide
  simp only [fits, decide_eq_true_eq]
  rw [e]
  omega
theorem joinL2 {l : List Int} (h : ∀ x ∈ l, 0 ≤ x ∧ x < 65536) : joinL 2 l = l.flatMap p2 := by
  have hj : joinOk 2 l = true := by
    simp only [joinOk, Bool.and_eq_true, decide_eq_true_eq, List.all_eq_true]
    exact ⟨by omega, fun x hx => fits2 (h x hx)⟩
  rw [joinL, if_pos hj, joinTo_map _ _ _ (Nat.le_refl _), List.take_length]
  congr 1
  funext n
  exact putTo2 n
theorem joinL4 {n : Int} (h : 0 ≤ n ∧ n < 4294967296) : joinL 4 [n] = p4 n := by
  have hj : joinOk 4 [n] = true := by
    simp only [joinOk, Bool.and_eq_true, decide_eq_true_eq, List.all_eq_true]
    exact ⟨by omega, fun x hx => by rw [List.mem_singleton.1 hx]; exact fits4 h⟩
  rw [joinL, if_pos hj, joinTo_map _ _ _ (Nat.le_refl _), List.take_length]
  show putTo n 4 4 ++ [] = _
  rw [putTo4, List.append_nil]
theorem get2 {Y : List UInt8} {A : Nat} {n : Int} (h : At Y A (p2 n)) (hn : 0 ≤ n ∧ n < 65536) : getTo (bs Y) A 2 = n ∧ A + 2 ≤ Y.length := by
  have hl := h.le
  have h0 := h.byte
  have h1 := (At.right (T := [_]) h).byte
  have e0 := by8_toNat (n / 256)
  have e1 := by8_toNat n
  simp only [p2, List.length_cons, List.length_nil] at hl h1
  simp only [getTo, Nat.add_zero]
  rw [h0, h1]
  omega
theorem get4 {Y : List UInt8} {A : Nat} {n : Int} (h : At Y A (p4 n)) (hn : 0 ≤ n ∧ n < 4294967296) : getTo (bs Y) A 4 = n ∧ A + 4 ≤ Y.length := by
  have hl := h.le
  have h0 := h.byte
  have h1 := (At.right (T := [_]) h).byte
  have h2 := (At.right (T := [_, _]) h).byte
  have h3 := (At.right (T := [_, _, _]) h).byte
  have e0 := by8_toNat (n / 16777216)
  have e1 := by8_toNat (n / 65536)
  have e2 := by8_toNat (n / 256)
  have e3 := by8_toNat n
  simp only [p4, List.length_cons, List.length_nil] at hl h1 h2 h3
  simp only [getTo, Nat.add_zero]
  rw [h0, h1, h2, h3]
  omega
theorem num2_back {Y : List UInt8} {A : Nat} {n : Int} (h : At Y A (p2 n)) (hn : 0 ≤ n ∧ n < 65536) : numP (bs Y) 2 A = some (n, A + 2) := by
  obtain ⟨g1, g2⟩ := get2 h hn
  rw [numP, if_pos (by rw [bs_size]; exact g2), g1]
theorem num4_back {Y : List UInt8} {A : Nat} {n : Int} (h : At Y A (p4 n)) (hn : 0 ≤ n ∧ n < 4294967296) : numP (bs Y) 4 A = some (n, A + 4) := by
  obtain ⟨g1, g2⟩ := get4 h hn
  rw [numP, if_pos (by rw [bs_size]; exact g2), g1]
theorem ptr_at {Y : List UInt8} {A p : Nat} (h : p < 16384) (ha : At Y A (joinL 2 [(49152 : Int) + p])) : 63 < byteAt (bs Y) A ∧ getTo (bs Y) A 2 = 49152 + p ∧ A + 2 ≤ Y.length := by
  rw [joinL2 (fun x hx => by rw [List.mem_singleton.1 hx]; omega)] at ha
  have ha' : At Y A (p2 (49152 + p)) := ha
  obtain ⟨g1, g2⟩ := get2 ha' (by omega)
  refine ⟨?_, g1, g2⟩
  have h0 := ha'.byte
  have e0 := by8_toNat (((49152 : Int) + p) / 256)
  rw [h0]
  omega
theorem NmR.get {Y : List UInt8} {A H e : Nat} {L : List ByteArray} (h : NmR Y A H L e) : ∀ (B : List UInt8) (nx : Nat), B.length + (txtTo L L.length).length ≤ 254 → nmG (bs Y) A H B nx = some (B ++ txtTo L L.length, if nx = 0 then e else nx) := by
  induction h with
  | fin A H h =>
    intro B nx hz
    have hl := h.le
    have hb := h.byte
    simp at hl
    rw [nmG_end (by rw [bs_size]; omega) (by rw [hb]; rfl) (by omega)]
    simp [txtTo]
  | lab A H x L e h1 h2 h3 _ ih =>
    intro B nx hz
    have hl := h3.le
    have hb := h3.byte
    have he := h3.ext
    have hx : (UInt8.ofNat x.size).toNat = x.size := UInt8.toNat_ofNat_of_lt' (by show x.size < 256; omega)
    rw [hx] at hb
    rw [List.length_cons, size_data] at hl he
    rw [List.length_cons, txtTo_cons] at hz ⊢
    rw [List.length_cons, List.length_append, size_data] at hz
    rw [nmG_lab (by rw [bs_size]; omega) (by omega) (by omega) (by rw [bs_size]; omega), hb, show A + 1 + x.size = A + (x.size + 1) by omega, he]
    rw [show A + (x.size + 1) = A + 1 + x.size by omega, ih _ nx (by
      show (B ++ (UInt8.ofNat x.size :: x.data.toList)).length + _ ≤ 254
      rw [List.length_append, List.length_cons, size_data]; omega)]
    show some ((B ++ (UInt8.ofNat x.size :: x.data.toList)) ++ _, _) = _
    simp
  | ptr A H p L e h1 h2 h3 h4 ih =>
    intro B nx hz
    obtain ⟨k1, k2, k3⟩ := ptr_at h1 h3
    have hp := h4.pos
    rw [nmG_go (by rw [bs_size]; omega) (by omega) (by rw [bs_size]; omega) (by rw [k2]; omega), k2]
    rw [show ((49152 : Int) + p - 49152).toNat = p by omega, ih _ _ hz]
    congr 2
    by_cases hn : nx = 0
    · rw [if_pos hn]
      exact if_neg (by omega)
    · rw [if_neg hn, if_neg hn]
/-- What is laid down for a name: it depends on the row's length alone. -/
def nmT : Pls → Nat → List ByteArray → List UInt8 × Pls
  | f, _, [] => ([0], f)
  | f, n, s :: L => match f (s :: L) with
    | some p => (joinL 2 [(49152 : Int) + p], f)
    | none => let r := nmT (putPl f (s :: L) n) (n + (s.size + 1)) L
      (UInt8.ofNat s.size :: (s.data.toList ++ r.1), r.2)
theorem nmT_yes {f : Pls} {n : Nat} {s : ByteArray} {L : List ByteArray} {p : Nat} (h : f (s :: L) = some p) : nmT f n (s :: L) = (joinL 2 [(49152 : Int) + p], f) := by rw [nmT, h]
theorem nmT_no {f : Pls} {n : Nat} {s : ByteArray} {L : List ByteArray} (h : f (s :: L) = none) : nmT f n (s :: L) = (UInt8.ofNat s.size :: (s.data.toList ++ (nmT (putPl f (s :: L) n) (n + (s.size + 1)) L).1), (nmT (putPl f (s :: L) n) (n + (s.size + 1)) L).2) := by rw [nmT, h]
theorem wNm_T : ∀ (L : List ByteArray) (f : Pls) (X : List UInt8), wNm f X L = (X ++ (nmT f X.length L).1, (nmT f X.length L).2)
  | [], f, X => rfl
  | s :: L, f, X => by
    cases h : f (s :: L) with
    | some p => rw [wNm_yes h, nmT_yes h]
    | none =>
      rw [wNm_no h, nmT_no h, wNm_T L]
      have e : (X ++ (UInt8.ofNat s.size :: s.data.toList)).length = X.length + (s.size + 1) := by rw [List.length_append, List.length_cons, size_data]
      rw [e]
      simp
/-- The places kept tell what stands there. -/
def Told2 (Y : List UInt8) (f : Pls) (n : Nat) : Prop := ∀ M p, f M = some p → p < 16384 ∧ p < n ∧ ∃ e, NmR Y p p M e
theorem nmT_R (Y : List UInt8) : ∀ (L : List ByteArray) (f : Pls) (A H : Nat), H ≤ A → (∀ x ∈ L, 1 ≤ x.size ∧ x.size ≤ 63) → At Y A (nmT f A L).1 → (∀ M p, f M = some p → M.length ≤ L.length → p < 16384 ∧ p < H ∧ ∃ e, NmR Y p p M e) →
    NmR Y A H L (A + (nmT f A L).1.length) ∧ ∀ M p, (nmT f A L).2 M = some p → f M = some p ∨ (p < 16384 ∧ p < A + (nmT f A L).1.length ∧ ∃ e, NmR Y p p M e)
  | [], f, A, H, hH, _, ha, _ => ⟨.fin A H ha, fun M p h => Or.inl h⟩
  | s :: L, f, A, H, hH, hx, ha, hf => by
    cases h : f (s :: L) with
    | some p =>
      rw [nmT_yes h] at ha ⊢
      obtain ⟨h1, h2, e, h3⟩ := hf _ p h (Nat.le_refl _)
      refine ⟨?_, fun M q hq => Or.inl hq⟩
      rw [place_len h1]
      exact .ptr A H p _ e h1 h2 ha h3
    | none =>
      rw [nmT_no h] at ha ⊢
      obtain ⟨x1, x2⟩ := hx s (List.mem_cons_self ..)
      dsimp only at ha ⊢
      rw [← List.cons_append] at ha
      have ha1 := ha.left
      have ha2 := ha.right
      rw [List.length_cons, size_data] at ha2
      obtain ⟨g1, g2⟩ := nmT_R Y L (putPl f (s :: L) A) (A + (s.size + 1)) H (by omega) (fun x hh => hx x (List.mem_cons_of_mem _ hh)) ha2 (fun M p hp hM => by
        rw [putPl_other _ _ (fun e => by rw [e, List.length_cons] at hM; omega)] at hp
        exact hf M p hp (by simp only [List.length_cons]; omega))
      have hlen : A + (UInt8.ofNat s.size :: (s.data.toList ++ (nmT (putPl f (s :: L) A) (A + (s.size + 1)) L).1)).length = A + (s.size + 1) + (nmT (putPl f (s :: L) A) (A + (s.size + 1)) L).1.length := by
        rw [List.length_cons, List.length_append, size_data]; omega
      have hl2 := g1.pos
      have hR : NmR Y A H (s :: L) (A + (UInt8.ofNat s.size :: (s.data.toList ++ (nmT (putPl f (s :: L) A) (A + (s.size + 1)) L).1)).length) := by
        rw [hlen]
        exact .lab A H s L _ x1 x2 ha1 (by rw [show A + 1 + s.size = A + (s.size + 1) by omega]; exact g1)
      refine ⟨hR, fun M p hp => ?_⟩
      rcases g2 M p hp with k | ⟨k1, k2, k3⟩
      · unfold putPl at k
        split at k
        · rename_i hA
          unfold setPl at k
          split at k
          · rename_i hM
            injection k with k
            subst k
            subst hM
            exact Or.inr ⟨hA, by rw [hlen]; omega, _, hR.mono A hH⟩
          · exact Or.inl k
        · exact Or.inl k
      · exact Or.inr ⟨k1, by rw [hlen]; exact k2, k3⟩
/-- A name of a row is read again; the places stay true. -/
theorem name_back {Y : List UInt8} {f : Pls} {A : Nat} {n : ByteArray} (hn : mayN n = true) (ha : At Y A (nmT f A (labs n)).1) (hf : Told2 Y f A) :
    nameP (bs Y) A = some (n, A + (nmT f A (labs n)).1.length) ∧ Told2 Y (nmT f A (labs n)).2 (A + (nmT f A (labs n)).1.length) := by
  obtain ⟨l1, l2, l3⟩ := labs_spec hn
  obtain ⟨g1, g2⟩ := nmT_R Y (labs n) f A A (Nat.le_refl _) (fun x hx => by
    obtain ⟨k, hk, rfl⟩ := List.getElem_of_mem hx
    have := l1 k hk
    have e : tx (labs n) k = (labs n)[k] := by unfold tx; rw [List.getD_eq_getElem?_getD, List.getElem?_eq_getElem hk]; rfl
    rw [e] at this
    exact ⟨this.1, this.2.1⟩) ha (fun M p hp _ => hf M p hp)
  refine ⟨?_, fun M p hp => ?_⟩
  · unfold nameP
    rw [g1.get [] 0 (by rw [List.length_nil, Nat.zero_add]; exact l2)]
    have e : lowS (nameB (labs n)) = n := by
      have hL : (labs n).map lowS = labs n := by
        refine List.ext_getElem (by simp) (fun k h1 h2 => ?_)
        rw [List.getElem_map]
        have := (l1 k h2).2.2
        have e : tx (labs n) k = (labs n)[k] := by unfold tx; rw [List.getD_eq_getElem?_getD, List.getElem?_eq_getElem h2]; rfl
        rw [e] at this
        exact lowS_no this
      rw [low_name (fun j hj => (l1 j hj).2.1), hL, ← l3]
    show some (lowS (bs (([] ++ txtTo (labs n) (labs n).length) ++ [0])), _) = _
    rw [List.nil_append]
    have e2 : lowS (bs (txtTo (labs n) (labs n).length ++ [0])) = n := e
    rw [e2]
    rfl
  · rcases g2 M p hp with h | h
    · obtain ⟨k1, k2, k3⟩ := hf M p h
      exact ⟨k1, by omega, k3⟩
    · exact h
end Go.Proofs.Ytgppkpdjpcegbaa
end

section
namespace Go.Proofs.Ytgppkpdjpcegbaa
open Go.RowKit

theorem snoc_ind {α : Type} {P : List α → Prop} (h0 : P []) (h1 : ∀ l x, P l → P (l ++ [x])) (l : List α) : P l := by
  rw [← List.reverse_reverse l]
  induction l.reverse with
  | nil => exact h0
  | cons x t ih => rw [List.reverse_cons]; exact h1 _ _ ih
theorem ext_join (s : ByteArray) (a : Nat) : s.extract 0 a ++ s.extract a s.size = s := by
  apply ba_eq
  rw [ByteArray.data_append, Array.toList_append, extract_toList, extract_toList, List.drop_zero, Nat.sub_zero, ← size_data s]
  rw [show (s.data.toList.drop a).take (s.data.toList.length - a) = s.data.toList.drop a from List.take_of_length_le (by rw [List.length_drop]; omega)]
  exact List.take_append_drop a _
theorem take_back {Y : List UInt8} {A : Nat} {d : ByteArray} (h : At Y A d.data.toList) : takeP (bs Y) d.size A = some (d, A + d.size) := by
  have hl := h.le
  have he := h.ext
  rw [size_data] at hl he
  rw [takeP, if_pos (by rw [bs_size]; exact hl), he]
  rfl
/-- What a writer lays down, a reader reads. -/
def Back {α : Type} (wr : List UInt8 × Pls → List UInt8 × Pls) (p : List UInt8 → Nat → Option (α × Nat)) (x : α) (f : Pls) (n : Nat) (T : List UInt8) (f' : Pls) : Prop :=
  (∀ X, X.length = n → wr (X, f) = (X ++ T, f')) ∧ ∀ Y, At Y n T → Told2 Y f n → p Y n = some (x, n + T.length) ∧ Told2 Y f' (n + T.length)
theorem back_name {f : Pls} {n : Nat} {s : ByteArray} (h : mayN s = true) : Back (fun a => wNm a.2 a.1 (labs s)) (fun Y a => nameP (bs Y) a) s f n (nmT f n (labs s)).1 (nmT f n (labs s)).2 :=
  ⟨fun X hX => by subst hX; exact wNm_T _ _ _, fun Y ha hf => name_back h ha hf⟩
/-- Data: the row behind, as it stands. -/
theorem ext_end (t : ByteArray) : (t.extract t.size t.size).data.toList = [] := by rw [extract_toList, Nat.sub_self, List.take_zero]
theorem wDat_one {f : Pls} {X : List UInt8} {k : Int} {s a : ByteArray} (h : nmL k s = [a]) (ha : datR k s = a) : wDat f X k s = wNm f (datX X k s) (labs a) := by
  rw [wDat, h, ha]
  simp only [List.foldl_cons, List.foldl_nil, wD1, ext_end, List.append_nil]
theorem wDat_two {f : Pls} {X : List UInt8} {k : Int} {s a b c : ByteArray} (h : nmL k s = [a, b]) (h1 : (datR k s).extract a.size (datR k s).size = c) : wDat f X k s = ((wNm (wNm f (datX X k s) (labs a)).2 (wNm f (datX X k s) (labs a)).1 (labs b)).1 ++ (c.extract b.size c.size).data.toList, (wNm (wNm f (datX X k s) (labs a)).2 (wNm f (datX X k s) (labs a)).1 (labs b)).2) := by
  rw [wDat, h]
  simp only [List.foldl_cons, List.foldl_nil, wD1, h1]
theorem dat_name {f : Pls} {X : List UInt8} {k : Int} {s : ByteArray} (hk : k = 2 ∨ k = 5) (hm : mayD k s = true) : wDat f X k s = wNm f X (labs s) := by
  have hn : nmL k s = [s] := by
    have ht : tgB k s = true := by simp only [tgB, hm, Bool.true_and, decide_eq_true_eq]; omega
    rw [nmL, if_neg (by omega), if_pos ht, tgS, if_pos ht, if_neg (by omega)]
  have hx : datX X k s = X := by rw [datX, if_neg (by omega)]
  have hr : datR k s = s := by rw [datR, if_neg (by omega)]
  rw [wDat_one hn hr, hx]
theorem dat_mx {f : Pls} {X : List UInt8} {s : ByteArray} (hm : mayD 15 s = true) : wDat f X 15 s = wNm f (X ++ (s.extract 0 2).data.toList) (labs (s.extract 2 s.size)) := by
  have hn : nmL 15 s = [s.extract 2 s.size] := by
    have ht : tgB 15 s = true := by rw [tgB, hm]; rfl
    rw [nmL, if_neg (by omega), if_pos ht, tgS, if_pos ht, if_pos rfl]
  rw [wDat_one hn (by rw [datR, if_pos rfl]), datX, if_pos rfl]
theorem dat_soa {f : Pls} {X : List UInt8} {s : ByteArray} (hm : soaOk s = true) : wDat f X 6 s = ((wNm (wNm f X (labs (soaM s))).2 (wNm f X (labs (soaM s))).1 (labs (soaR s))).1 ++ (rest1 (rest1 s)).data.toList, (wNm (wNm f X (labs (soaM s))).2 (wNm f X (labs (soaM s))).1 (labs (soaR s))).2) := by
  have hn : nmL 6 s = [soaM s, soaR s] := by rw [nmL, if_pos rfl, if_pos hm]
  simp only [soaOk, Bool.and_eq_true, decide_eq_true_eq] at hm
  obtain ⟨a1, a2, a3⟩ := headOk_head hm.1.1
  obtain ⟨b1, b2, b3⟩ := headOk_head hm.1.2
  have hr : datR 6 s = s := by rw [datR, if_neg (by omega)]
  have hx : datX X 6 s = X := by rw [datX, if_neg (by omega)]
  rw [wDat_two hn (c := rest1 s) (by rw [hr]; exact a3), hx]
  have b3' : (rest1 s).extract (soaR s).size (rest1 s).size = rest1 (rest1 s) := b3
  rw [b3']
theorem dat_else {f : Pls} {X : List UInt8} {k : Int} {s : ByteArray} (h2 : k ≠ 2) (h5 : k ≠ 5) (h6 : k ≠ 6) (h15 : k ≠ 15) : wDat f X k s = (X ++ s.data.toList, f) := by
  have hn : nmL k s = [] := by
    rw [nmL, if_neg h6, if_neg (fun e => by simp only [tgB, Bool.and_eq_true, decide_eq_true_eq] at e; omega)]
  rw [wDat, hn, datX, datR, if_neg h15, if_neg h15]
  rfl
set_option maxHeartbeats 1600000 in
theorem back_data (f : Pls) (n : Nat) (k : Int) (s : ByteArray) (h : mayD k s = true ∨ k = 41) : ∃ T f', (∀ X, X.length = n → wDat f X k s = (X ++ T, f')) ∧ ∀ Y, At Y n T → Told2 Y f n → dataP (bs Y) k (n + T.length) n = some (s, n + T.length) ∧ Told2 Y f' (n + T.length) := by
  have hclose : ∀ (Y T : List UInt8), innP (bs Y) k (n + T.length) n = some (s, n + T.length) → dataP (bs Y) k (n + T.length) n = some (s, n + T.length) := fun Y T e => by
    rw [dataP, e, Option.bind_some, if_pos rfl]
  by_cases hk : k = 2 ∨ k = 5
  · have hm : mayD k s = true := h.elim id (fun e => by omega)
    have hN : mayN s = true := by
      have := hm
      simp only [mayD, Bool.and_eq_true] at this
      have h3 := this.2
      unfold mayKR at h3
      rw [if_neg (by omega), if_neg (by omega), if_pos hk] at h3
      exact h3
    obtain ⟨b1, b2⟩ := back_name (f := f) (n := n) hN
    refine ⟨_, _, fun X hX => by rw [dat_name hk hm]; exact b1 X hX, fun Y ha hf => ?_⟩
    obtain ⟨c1, c2⟩ := b2 Y ha hf
    exact ⟨hclose _ _ (by rw [innP, if_pos hk]; exact c1), c2⟩
  · by_cases h15 : k = 15
    · subst h15
      have hm : mayD 15 s = true := h.elim id (fun e => by omega)
      obtain ⟨m1, m2⟩ := mayD_15 hm
      have hz : (s.extract 0 2).data.toList.length = 2 := by rw [size_data, extract_size _ _ _ (by omega)]
      obtain ⟨b1, b2⟩ := back_name (f := f) (n := n + 2) m2
      refine ⟨(s.extract 0 2).data.toList ++ (nmT f (n + 2) (labs (s.extract 2 s.size))).1, (nmT f (n + 2) (labs (s.extract 2 s.size))).2, fun X hX => ?_, fun Y ha hf => ?_⟩
      · rw [dat_mx hm, ← List.append_assoc]
        exact b1 _ (by rw [List.length_append, hz, hX])
      · have hl : n + ((s.extract 0 2).data.toList ++ (nmT f (n + 2) (labs (s.extract 2 s.size))).1).length = n + 2 + (nmT f (n + 2) (labs (s.extract 2 s.size))).1.length := by rw [List.length_append, hz]; omega
        have ha1 := take_back ha.left
        have ha2 := ha.right
        rw [hz] at ha2
        rw [show (s.extract 0 2).size = 2 by rw [← size_data, hz]] at ha1
        obtain ⟨c1, c2⟩ := b2 Y ha2 (fun M p hp => by obtain ⟨k1, k2, k3⟩ := hf M p hp; exact ⟨k1, by omega, k3⟩)
        refine ⟨hclose _ _ ?_, by rw [hl]; exact c2⟩
        have c1' : nameP (bs Y) (n + 2) = _ := c1
        rw [innP, if_neg hk, if_pos rfl, ha1, Option.bind_some]
        show Option.map _ (nameP (bs Y) (n + 2)) = _
        rw [c1', Option.map_some, hl, ext_join]
    · by_cases h6 : k = 6
      · subst h6
        have hm : mayD 6 s = true := h.elim id (fun e => by omega)
        have hs : soaOk s = true := by simp [mayD, mayKR] at hm; exact hm.2
        have hs2 := hs
        simp only [soaOk, Bool.and_eq_true, decide_eq_true_eq] at hs2
        obtain ⟨a1, a2, a3⟩ := headOk_head hs2.1.1
        obtain ⟨d1, d2, d3⟩ := headOk_head hs2.1.2
        obtain ⟨b1, b2⟩ := back_name (f := f) (n := n) (s := soaM s) a1
        obtain ⟨N1, hN1⟩ : ∃ x, (nmT f n (labs (soaM s))).1 = x := ⟨_, rfl⟩
        obtain ⟨f1, hf1⟩ : ∃ x, (nmT f n (labs (soaM s))).2 = x := ⟨_, rfl⟩
        rw [hN1, hf1] at b1 b2
        obtain ⟨e1, e2⟩ := back_name (f := f1) (n := n + N1.length) (s := soaR s) d1
        obtain ⟨N2, hN2⟩ : ∃ x, (nmT f1 (n + N1.length) (labs (soaR s))).1 = x := ⟨_, rfl⟩
        obtain ⟨f2, hf2⟩ : ∃ x, (nmT f1 (n + N1.length) (labs (soaR s))).2 = x := ⟨_, rfl⟩
        rw [hN2, hf2] at e1 e2
        have b1' : ∀ X : List UInt8, X.length = n → wNm f X (labs (soaM s)) = (X ++ N1, f1) := b1
        have e1' : ∀ X : List UInt8, X.length = n + N1.length → wNm f1 X (labs (soaR s)) = (X ++ N2, f2) := e1
        have hz : (rest1 (rest1 s)).data.toList.length = 20 := by rw [size_data]; exact hs2.2
        refine ⟨N1 ++ (N2 ++ (rest1 (rest1 s)).data.toList), f2, fun X hX => ?_, fun Y ha hf => ?_⟩
        · rw [dat_soa hs, b1' X hX, e1' _ (by rw [List.length_append, hX])]
          simp
        · have hl : n + (N1 ++ (N2 ++ (rest1 (rest1 s)).data.toList)).length = n + N1.length + N2.length + 20 := by rw [List.length_append, List.length_append, hz]; omega
          obtain ⟨c1, c2⟩ := b2 Y ha.left hf
          obtain ⟨g1, g2⟩ := e2 Y ha.right.left c2
          have t1 := take_back ha.right.right
          rw [show (rest1 (rest1 s)).size = 20 from hs2.2] at t1
          refine ⟨hclose _ _ ?_, fun M p hp => ?_⟩
          · have c1' : nameP (bs Y) n = some (soaM s, n + N1.length) := c1
            have g1' : nameP (bs Y) (n + N1.length) = some (soaR s, n + N1.length + N2.length) := g1
            rw [innP, if_neg hk, if_neg h15, if_pos rfl, c1', Option.bind_some]
            show (Option.map _ (nameP (bs Y) (n + N1.length))).bind _ = _
            rw [g1', Option.map_some, Option.bind_some]
            show Option.map _ (takeP (bs Y) 20 (n + N1.length + N2.length)) = _
            rw [t1, Option.map_some, hl]
            have j1 : soaM s ++ rest1 s = s := ext_join s _
            have j2 : soaR s ++ rest1 (rest1 s) = rest1 s := ext_join (rest1 s) _
            have j3 : soaM s ++ soaR s ++ rest1 (rest1 s) = s := by rw [ByteArray.append_assoc, j2, j1]
            rw [j3]
          · obtain ⟨k1, k2, k3⟩ := g2 M p hp
            exact ⟨k1, by rw [hl]; omega, k3⟩
      · refine ⟨s.data.toList, f, fun X hX => dat_else (by omega) (by omega) h6 h15, fun Y ha hf => ⟨hclose _ _ ?_, fun M p hp => ?_⟩⟩
        · rw [innP, if_neg hk, if_neg h15, if_neg h6, Nat.add_sub_cancel_left, size_data]
          exact take_back ha
        · obtain ⟨k1, k2, k3⟩ := hf M p hp
          exact ⟨k1, by omega, k3⟩
theorem told_le {Y : List UInt8} {f : Pls} {n m : Nat} (h : Told2 Y f n) (hm : n ≤ m) : Told2 Y f m := fun M p hp => by
  obtain ⟨k1, k2, k3⟩ := h M p hp
  exact ⟨k1, by omega, k3⟩
theorem back_q (f : Pls) (n : Nat) (q : Ky) (h : mayK q = true) : ∃ T f', Back (fun a => wQ a q) (fun Y a => qP (bs Y) a) q f n T f' := by
  simp only [mayK, inR, Bool.and_eq_true, decide_eq_true_eq] at h
  obtain ⟨h1, ⟨h2, h3⟩, h4, h5⟩ := h
  obtain ⟨b1, b2⟩ := back_name (f := f) (n := n) h1
  obtain ⟨N1, hN1⟩ : ∃ x, (nmT f n (labs q.n)).1 = x := ⟨_, rfl⟩
  obtain ⟨f1, hf1⟩ : ∃ x, (nmT f n (labs q.n)).2 = x := ⟨_, rfl⟩
  rw [hN1, hf1] at b1 b2
  have b1' : ∀ X : List UInt8, X.length = n → wNm f X (labs q.n) = (X ++ N1, f1) := b1
  refine ⟨N1 ++ (p2 q.t ++ p2 q.c), f1, fun X hX => ?_, fun Y ha hf => ?_⟩
  · show wQ (X, f) q = _
    rw [wQ]
    show ((wNm f X (labs q.n)).1 ++ _, (wNm f X (labs q.n)).2) = _
    rw [b1' X hX, joinL2 (fun x hx => by
      simp only [List.mem_cons, List.not_mem_nil, or_false] at hx
      rcases hx with rfl | rfl <;> omega)]
    simp
  · obtain ⟨c1, c2⟩ := b2 Y ha.left hf
    have c1' : nameP (bs Y) n = some (q.n, n + N1.length) := c1
    have t1 := num2_back ha.right.left (by omega)
    have t2 := num2_back ha.right.right (by omega)
    have hl : n + (N1 ++ (p2 q.t ++ p2 q.c)).length = n + N1.length + 2 + 2 := by simp [p2]; omega
    have t2' : numP (bs Y) 2 (n + N1.length + 2) = some (q.c, n + N1.length + 2 + 2) := t2
    refine ⟨?_, told_le c2 (by omega)⟩
    show qP (bs Y) n = _
    simp only [qP, c1', t1, t2', Option.bind_some, Option.map_some, hl]
/-- The numbers of a record. -/
def RecNm (r : R5) : Prop := (0 ≤ r.k.t ∧ r.k.t < 65536) ∧ (0 ≤ r.k.c ∧ r.k.c < 65536) ∧ 0 ≤ r.ttl ∧ r.ttl < 4294967296
theorem recNm_X {r : R5} (h : mayX r = true) : RecNm r := by
  simp only [mayX, mayRr, mayO, mayR, mayD, inR, Bool.or_eq_true, Bool.and_eq_true, decide_eq_true_eq] at h
  unfold RecNm
  omega
theorem setLen_app (X T : List UInt8) (hT : T.length < 65536) : setLen (X ++ ([0, 0] ++ T)) X.length = X ++ (p2 (T.length : Int) ++ T) := by
  have e : (X ++ ([0, 0] ++ T)).length - X.length - 2 = T.length := by simp only [List.length_append, List.length_cons, List.length_nil]; omega
  rw [setLen, e, List.set_append_right _ _ (Nat.le_refl _), List.set_append_right _ _ (by omega), Nat.sub_self, show X.length + 1 - X.length = 1 by omega]
  show X ++ UInt8.ofNat (T.length / 256) :: UInt8.ofNat T.length :: T = X ++ (by8 ((T.length : Int) / 256) :: by8 (T.length : Int) :: T)
  have h1 : by8 ((T.length : Int) / 256) = UInt8.ofNat (T.length / 256) := by
    apply UInt8.toNat_inj.1
    have := by8_toNat ((T.length : Int) / 256)
    rw [UInt8.toNat_ofNat']
    omega
  have h2 : by8 (T.length : Int) = UInt8.ofNat T.length := by
    apply UInt8.toNat_inj.1
    have := by8_toNat (T.length : Int)
    rw [UInt8.toNat_ofNat']
    omega
  rw [h1, h2]
set_option maxHeartbeats 1600000 in
theorem back_rec (f : Pls) (n : Nat) (r : R5) (h : RecOk r) (hr : RecNm r) : ∃ T f', Back (fun a => wR a r) (fun Y a => recP (bs Y) a) r f n T f' := by
  obtain ⟨h1, h2, h3, h4⟩ := h
  obtain ⟨r1, r2, r3⟩ := hr
  obtain ⟨b1, b2⟩ := back_name (f := f) (n := n) h1
  obtain ⟨N1, hN1⟩ : ∃ x, (nmT f n (labs r.k.n)).1 = x := ⟨_, rfl⟩
  obtain ⟨f1, hf1⟩ : ∃ x, (nmT f n (labs r.k.n)).2 = x := ⟨_, rfl⟩
  rw [hN1, hf1] at b1 b2
  have b1' : ∀ X : List UInt8, X.length = n → wNm f X (labs r.k.n) = (X ++ N1, f1) := b1
  obtain ⟨T, f2, d1, d2⟩ := back_data f1 (n + N1.length + 8 + 2) r.k.t r.d h3
  have hT : T.length < 65536 := by
    have hx := d1 (List.replicate (n + N1.length + 8 + 2) 0) (by simp)
    have hy := wDat_le f1 (List.replicate (n + N1.length + 8 + 2) 0) h2 h3 h4
    rw [hx, List.length_append] at hy
    omega
  have hrec2 : ∀ X : List UInt8, X.length = n → rec2 f X r = X ++ (N1 ++ (p2 r.k.t ++ (p2 r.k.c ++ p4 r.ttl))) := fun X hX => by
    rw [rec2, b1' X hX, joinL4 r3, joinL2 (fun x hx => by
      simp only [List.mem_cons, List.not_mem_nil, or_false] at hx
      rcases hx with rfl | rfl
      · exact r1
      · exact r2)]
    simp
  refine ⟨N1 ++ (p2 r.k.t ++ (p2 r.k.c ++ (p4 r.ttl ++ (p2 (T.length : Int) ++ T)))), f2, fun X hX => ?_, fun Y ha hf => ?_⟩
  · show wRec f X r = _
    have e2 := hrec2 X hX
    have e4 : rec4 f X r = (rec2 f X r ++ ([0, 0] ++ T), f2) := by
      rw [rec4, b1' X hX, zeros2, d1 _ (by rw [e2]; simp [p2, p4, hX]; omega), List.append_assoc]
    rw [wRec, e4]
    show (setLen (rec2 f X r ++ ([0, 0] ++ T)) (rec2 f X r).length, f2) = _
    rw [setLen_app _ _ hT, e2]
    simp
  · obtain ⟨c1, c2⟩ := b2 Y ha.left hf
    have c1' : nameP (bs Y) n = some (r.k.n, n + N1.length) := c1
    have t1 := num2_back ha.right.left r1
    have t2 : numP (bs Y) 2 (n + N1.length + 2) = _ := num2_back ha.right.right.left r2
    have t3 : numP (bs Y) 4 (n + N1.length + 2 + 2) = _ := num4_back ha.right.right.right.left r3
    have t4 : numP (bs Y) 2 (n + N1.length + 2 + 2 + 4) = _ := num2_back ha.right.right.right.right.left (by omega)
    have ha5 : At Y (n + N1.length + 2 + 2 + 4 + 2) T := ha.right.right.right.right.right
    have hl : n + (N1 ++ (p2 r.k.t ++ (p2 r.k.c ++ (p4 r.ttl ++ (p2 (T.length : Int) ++ T))))).length = n + N1.length + 8 + 2 + T.length := by simp [p2, p4]; omega
    have hle := ha5.le
    rw [show n + N1.length + 2 + 2 + 4 + 2 = n + N1.length + 8 + 2 by omega] at ha5 hle
    obtain ⟨g1, g2⟩ := d2 Y ha5 (told_le c2 (by omega))
    refine ⟨?_, by rw [hl]; exact g2⟩
    show recP (bs Y) n = _
    rw [recP]
    have hh : hdP (bs Y) n = some (((((r.k.n, r.k.t), r.k.c), r.ttl), (T.length : Int)), n + N1.length + 8 + 2) := by
      simp only [hdP, c1', t1, t2, t3, t4, Option.bind_some, Option.map_some]
    rw [hh, Option.bind_some, recF]
    show (if n + N1.length + 8 + 2 + ((T.length : Int)).toNat ≤ _ then _ else _) = _
    rw [Int.toNat_natCast, if_pos (by rw [bs_size]; exact hle)]
    show Option.map _ (dataP (bs Y) r.k.t (n + N1.length + 8 + 2 + T.length) (n + N1.length + 8 + 2)) = _
    rw [g1, Option.map_some, hl]
theorem back_many {α : Type} {wr : List UInt8 × Pls → α → List UInt8 × Pls} {p : List UInt8 → Nat → Option (α × Nat)} (f : Pls) (n : Nat) (l : List α) : (∀ x ∈ l, ∀ f n, ∃ T f', Back (fun a => wr a x) p x f n T f') → ∃ T f', Back (fun a => l.foldl wr a) (fun Y a => manyP (p Y) l.length a) l f n T f' := by
  refine snoc_ind (P := fun l => (∀ x ∈ l, ∀ f n, ∃ T f', Back (fun a => wr a x) p x f n T f') → ∃ T f', Back (fun a => l.foldl wr a) (fun Y a => manyP (p Y) l.length a) l f n T f') ?_ ?_ l
  · intro _
    exact ⟨[], f, fun X _ => by simp, fun Y ha hf => ⟨rfl, hf⟩⟩
  · intro l x ih h
    obtain ⟨T1, f1, a1, a2⟩ := ih (fun y hy => h y (List.mem_append_left _ hy))
    obtain ⟨T2, f2, b1, b2⟩ := h x (by simp) f1 (n + T1.length)
    refine ⟨T1 ++ T2, f2, fun X hX => ?_, fun Y ha hf => ?_⟩
    · show (l ++ [x]).foldl wr (X, f) = _
      rw [List.foldl_append]
      have e1 : l.foldl wr (X, f) = (X ++ T1, f1) := a1 X hX
      rw [e1]
      have e2 : wr (X ++ T1, f1) x = (X ++ T1 ++ T2, f2) := b1 _ (by rw [List.length_append, hX])
      show wr (X ++ T1, f1) x = _
      rw [e2, List.append_assoc]
    · obtain ⟨c1, c2⟩ := a2 Y ha.left hf
      obtain ⟨d1, d2⟩ := b2 Y ha.right c2
      have hl : n + (T1 ++ T2).length = n + T1.length + T2.length := by rw [List.length_append, Nat.add_assoc]
      rw [hl]
      refine ⟨?_, d2⟩
      show manyP (p Y) (l ++ [x]).length n = _
      rw [List.length_append]
      show manyP (p Y) (l.length + 1) n = _
      have c1' : manyP (p Y) l.length n = some (l, n + T1.length) := c1
      rw [manyP, c1', Option.bind_some]
      show Option.map _ (p Y (n + T1.length)) = _
      rw [d1, Option.map_some]
theorem back_rr (last : Bool) {r : R5} (h : okP last r = true) (f : Pls) (n : Nat) : ∃ T f', Back (fun a => wR a r) (fun Y a => rrP (bs Y) last a) r f n T f' := by
  have hx : mayX r = true := by
    unfold okP at h
    unfold mayX
    cases h1 : mayRr r
    · rw [h1] at h
      simp only [Bool.false_or, Bool.and_eq_true] at h ⊢
      exact h.2
    · rfl
  obtain ⟨T, f', a1, a2⟩ := back_rec f n r (rec_okX hx) (recNm_X hx)
  refine ⟨T, f', a1, fun Y ha hf => ?_⟩
  obtain ⟨c1, c2⟩ := a2 Y ha hf
  refine ⟨?_, c2⟩
  have c1' : recP (bs Y) n = some (r, n + T.length) := c1
  show rrP (bs Y) last n = _
  rw [rrP, c1', Option.bind_some, rrF, if_pos h]
set_option maxHeartbeats 1600000 in
/-- A message that was laid down is read again. -/
theorem msg_back {mi mo mr : Int} {b1 b2 b3 b4 b5 : Bool} {Q : List Ky} {A N X : List R5} (h : mayM mi mo mr Q A N X = true) :
    12 ≤ (encXG mi mo mr b1 b2 b3 b4 b5 Q A N X).length ∧ ∀ R, msgP (bs (encXG mi mo mr b1 b2 b3 b4 b5 Q A N X ++ R)) = some (⟨⟨mi, mo, mr, b1, b2, b3, b4, b5⟩, Q, A, N, X⟩, (encXG mi mo mr b1 b2 b3 b4 b5 Q A N X).length) := by
  obtain ⟨p1, p2', p3, p4', p5, p6⟩ := mayM_parts h
  have hO : okF mo mr = true := by
    simp only [headM, Bool.and_eq_true] at p1
    simp only [okF, Bool.and_eq_true]
    exact p1.2
  obtain ⟨v1, v2⟩ := flag_rng hO b1 b2 b3 b4 b5
  have hi : 0 ≤ mi ∧ mi < 65536 := by
    simp only [headM, inR, Bool.and_eq_true, decide_eq_true_eq] at p1
    omega
  obtain ⟨V, hV⟩ : ∃ x, flagV mo mr b1 b2 b3 b4 b5 = x := ⟨_, rfl⟩
  obtain ⟨u1, u2, u3, u4, u5, u6, u7, -⟩ := unf hO b1 b2 b3 b4 b5 V hV
  rw [hV] at v1 v2
  have h0 : encX0 mi mo mr b1 b2 b3 b4 b5 Q A N X = p2 mi ++ (p2 V ++ (p2 Q.length ++ (p2 A.length ++ (p2 N.length ++ p2 X.length)))) := by
    rw [encX0, hV, joinL2 (fun x hx => by
      simp only [List.mem_cons, List.not_mem_nil, or_false] at hx
      rcases hx with rfl | rfl | rfl | rfl | rfl | rfl <;> omega)]
    simp
  obtain ⟨TQ, f1, q1, q2⟩ := back_many (wr := wQ) (p := fun Y a => qP (bs Y) a) (fun _ => none) 12 Q (fun x hx f n => back_q f n x (List.all_eq_true.1 p3 x hx))
  obtain ⟨TA, f2, a1, a2⟩ := back_many (wr := wR) (p := fun Y a => rrP (bs Y) false a) f1 (12 + TQ.length) A (fun x hx f n => back_rr false (by have := List.all_eq_true.1 p5 x hx; rw [okP, this]; rfl) f n)
  obtain ⟨TN, f3, n1, n2⟩ := back_many (wr := wR) (p := fun Y a => rrP (bs Y) false a) f2 (12 + TQ.length + TA.length) N (fun x hx f n => back_rr false (by have := List.all_eq_true.1 p6 x hx; rw [okP, this]; rfl) f n)
  obtain ⟨TX, f4, x1, x2⟩ := back_many (wr := wR) (p := fun Y a => rrP (bs Y) true a) f3 (12 + TQ.length + TA.length + TN.length) X (fun x hx f n => back_rr true (by have := List.all_eq_true.1 p4' x hx; rw [mayX] at this; rw [okP]; simpa using this) f n)
  have hz0 : (encX0 mi mo mr b1 b2 b3 b4 b5 Q A N X).length = 12 := by rw [h0]; simp [p2]
  have hE : encXG mi mo mr b1 b2 b3 b4 b5 Q A N X = encX0 mi mo mr b1 b2 b3 b4 b5 Q A N X ++ (TQ ++ (TA ++ (TN ++ TX))) := by
    have e1 : Q.foldl wQ (encX0 mi mo mr b1 b2 b3 b4 b5 Q A N X, fun _ => none) = (encX0 mi mo mr b1 b2 b3 b4 b5 Q A N X ++ TQ, f1) := q1 _ hz0
    have e2 : A.foldl wR (encX0 mi mo mr b1 b2 b3 b4 b5 Q A N X ++ TQ, f1) = _ := a1 _ (by rw [List.length_append, hz0])
    have e3 : N.foldl wR (encX0 mi mo mr b1 b2 b3 b4 b5 Q A N X ++ TQ ++ TA, f2) = _ := n1 _ (by rw [List.length_append, List.length_append, hz0])
    have e4 : X.foldl wR (encX0 mi mo mr b1 b2 b3 b4 b5 Q A N X ++ TQ ++ TA ++ TN, f3) = _ := x1 _ (by rw [List.length_append, List.length_append, List.length_append, hz0])
    rw [encXG, e1, List.foldl_append, List.foldl_append, e2, e3, e4]
    simp
  refine ⟨by rw [hE, List.length_append]; omega, fun R => ?_⟩
  obtain ⟨Y, hY⟩ : ∃ x, encXG mi mo mr b1 b2 b3 b4 b5 Q A N X ++ R = x := ⟨_, rfl⟩
  rw [hY]
  have ha : At Y 0 (encXG mi mo mr b1 b2 b3 b4 b5 Q A N X) := ⟨[], R, by rw [← hY]; rfl, rfl⟩
  have hlen : (encXG mi mo mr b1 b2 b3 b4 b5 Q A N X).length = 12 + TQ.length + TA.length + TN.length + TX.length := by rw [hE]; simp only [List.length_append, hz0]; omega
  rw [hlen]
  rw [hE, h0] at ha
  have hb : At Y 12 (TQ ++ (TA ++ (TN ++ TX))) := ha.right
  have hT0 : Told2 Y (fun _ => none) 12 := fun M p hp => by cases hp
  obtain ⟨c1, hT1⟩ := q2 Y hb.left hT0
  obtain ⟨c2, hT2⟩ := a2 Y hb.right.left hT1
  obtain ⟨c3, hT3⟩ := n2 Y hb.right.right.left hT2
  obtain ⟨c4, _⟩ := x2 Y hb.right.right.right hT3
  have t0 : numP (bs Y) 2 0 = some (mi, 2) := num2_back ha.left.left hi
  have t1 : numP (bs Y) 2 2 = some (V, 4) := num2_back ha.left.right.left (by omega)
  have t2 : numP (bs Y) 2 4 = some ((Q.length : Int), 6) := num2_back ha.left.right.right.left (by omega)
  have t3 : numP (bs Y) 2 6 = some ((A.length : Int), 8) := num2_back ha.left.right.right.right.left (by omega)
  have t4 : numP (bs Y) 2 8 = some ((N.length : Int), 10) := num2_back ha.left.right.right.right.right.left (by omega)
  have t5 : numP (bs Y) 2 10 = some ((X.length : Int), 12) := num2_back ha.left.right.right.right.right.right (by omega)
  have hh : hd6P (bs Y) = some ((((((mi, V), (Q.length : Int)), (A.length : Int)), (N.length : Int)), (X.length : Int)), 12) := by
    simp only [hd6P, t0, t1, t2, t3, t4, t5, Option.bind_some, Option.map_some]
  rw [msgP, hh, Option.bind_some, msgF]
  simp only [Int.toNat_natCast]
  rw [if_neg (by omega), restP]
  have c1' : manyP (qP (bs Y)) Q.length 12 = some (Q, 12 + TQ.length) := c1
  have c2' : manyP (rrP (bs Y) false) A.length (12 + TQ.length) = some (A, 12 + TQ.length + TA.length) := c2
  have c3' : manyP (rrP (bs Y) false) N.length (12 + TQ.length + TA.length) = some (N, 12 + TQ.length + TA.length + TN.length) := c3
  have c4' : manyP (rrP (bs Y) true) X.length (12 + TQ.length + TA.length + TN.length) = some (X, 12 + TQ.length + TA.length + TN.length + TX.length) := c4
  have hU : unH mi V = ⟨mi, mo, mr, b1, b2, b3, b4, b5⟩ := by rw [unH, u1, u2, u3, u4, u5, u6, u7]
  simp only [c1', c2', c3', c4', Option.bind_some, Option.map_some, hU]
end Go.Proofs.Ytgppkpdjpcegbaa
end

section
namespace Go.Proofs.Ytgppkpdjpcegbaa
open Go.RowKit

theorem byte_pre (P R : List UInt8) {i : Nat} (h : i < P.length) : byteAt (bs (P ++ R)) i = byteAt (bs P) i := by
  rw [byteAt_bs, byteAt_bs, List.getD_eq_getElem?_getD, List.getD_eq_getElem?_getD, List.getElem?_append_left h]
theorem ext_pre (P R : List UInt8) {a b : Nat} (h : b ≤ P.length) : (bs (P ++ R)).extract a b = (bs P).extract a b := by
  apply ba_eq
  rw [extract_toList, extract_toList]
  show ((P ++ R).drop a).take (b - a) = (P.drop a).take (b - a)
  by_cases ha : a ≤ P.length
  · rw [List.drop_append_of_le_length ha, List.take_append_of_le_length (by rw [List.length_drop]; omega)]
  · rw [show b - a = 0 by omega, List.take_zero, List.take_zero]
theorem get_pre (P R : List UInt8) (a : Nat) : ∀ k, a + k ≤ P.length → getTo (bs (P ++ R)) a k = getTo (bs P) a k
  | 0, _ => rfl
  | k + 1, h => by
    rw [getTo, getTo, get_pre P R a k (by omega), byte_pre P R (by omega)]
theorem nmG_pre (P R : List UInt8) (A H : Nat) (B : List UInt8) (nx : Nat) (r : List UInt8 × Nat) (h : nmG (bs P) A H B nx = some r) : nmG (bs (P ++ R)) A H B nx = some r := by
  have hs : (bs P).size = P.length := bs_size P
  have ht : (bs (P ++ R)).size = P.length + R.length := by rw [bs_size, List.length_append]
  by_cases h1 : A < (bs P).size
  · have hb := byte_pre P R (i := A) (by omega)
    by_cases h0 : byteAt (bs P) A = 0
    · by_cases h2 : 255 ≤ B.length
      · rw [nmG_long h1 h0 h2] at h; cases h
      · rw [nmG_end h1 h0 h2] at h
        rw [nmG_end (by omega) (by omega) h2]
        exact h
    · by_cases h3 : byteAt (bs P) A ≤ 63
      · by_cases h2 : (bs P).size < A + 1 + byteAt (bs P) A ∨ 255 < B.length
        · rw [nmG_brk h1 h0 h3 h2] at h; cases h
        · rw [nmG_lab h1 h0 h3 h2] at h
          rw [nmG_lab (by omega) (by omega) (by omega) (by omega), hb, ext_pre P R (by omega)]
          exact nmG_pre P R _ _ _ _ r h
      · by_cases h2 : (bs P).size < A + 2
        · rw [nmG_short h1 h3 h2] at h; cases h
        · have hg := get_pre P R A 2 (by omega)
          by_cases hp : (getTo (bs P) A 2 - 49152).toNat < H ∧ 49152 ≤ getTo (bs P) A 2
          · rw [nmG_go h1 h3 h2 hp] at h
            rw [nmG_go (by omega) (by omega) (by omega) (by rw [hg]; exact hp), hg]
            exact nmG_pre P R _ _ _ _ r h
          · rw [nmG_far h1 h3 h2 hp] at h; cases h
  · rw [nmG_out h1] at h; cases h
termination_by (H, (bs P).size - A)
decreasing_by
  · exact Prod.Lex.right _ (by omega)
  · exact Prod.Lex.left _ _ hp.1
theorem nmG_may (s : ByteArray) (A H : Nat) (B : List UInt8) (nx : Nat) (r : List UInt8 × Nat) (hB : LabB B) (h : nmG s A H B nx = some r) : LabB r.1 ∧ r.1.length ≤ 254 := by
  by_cases h1 : A < s.size
  · by_cases h0 : byteAt s A = 0
    · by_cases h2 : 255 ≤ B.length
      · rw [nmG_long h1 h0 h2] at h; cases h
      · rw [nmG_end h1 h0 h2] at h
        injection h with h
        subst h
        exact ⟨hB, by show B.length ≤ 254; omega⟩
    · by_cases h3 : byteAt s A ≤ 63
      · by_cases h2 : s.size < A + 1 + byteAt s A ∨ 255 < B.length
        · rw [nmG_brk h1 h0 h3 h2] at h; cases h
        · rw [nmG_lab h1 h0 h3 h2] at h
          exact nmG_may s _ _ _ _ r (hB.step rfl (by omega) (by omega)) h
      · by_cases h2 : s.size < A + 2
        · rw [nmG_short h1 h3 h2] at h; cases h
        · by_cases hp : (getTo s A 2 - 49152).toNat < H ∧ 49152 ≤ getTo s A 2
          · rw [nmG_go h1 h3 h2 hp] at h
            exact nmG_may s _ _ _ _ r hB h
          · rw [nmG_far h1 h3 h2 hp] at h; cases h
  · rw [nmG_out h1] at h; cases h
termination_by (H, s.size - A)
decreasing_by
  · exact Prod.Lex.right _ (by omega)
  · exact Prod.Lex.left _ _ hp.1
theorem nameP_may {s : ByteArray} {a : Nat} {r : ByteArray × Nat} (h : nameP s a = some r) : mayN r.1 = true := by
  unfold nameP at h
  cases hg : nmG s a a [] 0 with
  | none => rw [hg] at h; cases h
  | some x =>
    rw [hg] at h
    injection h with h
    subst h
    obtain ⟨h1, h2⟩ := nmG_may s a a [] 0 x LabB.nil hg
    exact h1.may h2
/-- A parse that what stands behind leaves as it is. -/
def Keeps {α : Type} (P R : List UInt8) (p : List UInt8 → Option (α × Nat)) : Prop := ∀ r, p P = some r → p (P ++ R) = some r
theorem keeps_num (P R : List UInt8) (w a : Nat) : Keeps P R (fun Y => numP (bs Y) w a) := by
  intro r h
  show numP (bs (P ++ R)) w a = _
  have h' : numP (bs P) w a = some r := h
  unfold numP at h' ⊢
  rw [bs_size] at h' ⊢
  split at h'
  · rename_i hl
    rw [if_pos (by rw [List.length_append]; omega), get_pre P R a w hl]
    exact h'
  · cases h'
theorem keeps_take (P R : List UInt8) (n a : Nat) : Keeps P R (fun Y => takeP (bs Y) n a) := by
  intro r h
  show takeP (bs (P ++ R)) n a = _
  have h' : takeP (bs P) n a = some r := h
  unfold takeP at h' ⊢
  rw [bs_size] at h' ⊢
  split at h'
  · rename_i hl
    rw [if_pos (by rw [List.length_append]; omega), ext_pre P R hl]
    exact h'
  · cases h'
theorem keeps_name (P R : List UInt8) (a : Nat) : Keeps P R (fun Y => nameP (bs Y) a) := by
  intro r h
  show nameP (bs (P ++ R)) a = _
  have h' : nameP (bs P) a = some r := h
  unfold nameP at h' ⊢
  cases hg : nmG (bs P) a a [] 0 with
  | none => rw [hg] at h'; cases h'
  | some x =>
    rw [hg] at h'
    rw [nmG_pre P R a a [] 0 x hg]
    exact h'
theorem keeps_bind {α β : Type} {P R : List UInt8} {p : List UInt8 → Option (α × Nat)} {f : List UInt8 → α × Nat → Option (β × Nat)} (hp : Keeps P R p) (hf : ∀ x, Keeps P R (fun Y => f Y x)) : Keeps P R (fun Y => (p Y).bind (f Y)) := by
  intro r h
  have h' : (p P).bind (f P) = some r := h
  show (p (P ++ R)).bind (f (P ++ R)) = some r
  cases hx : p P with
  | none => rw [hx] at h'; cases h'
  | some x =>
    rw [hx, Option.bind_some] at h'
    rw [hp x hx, Option.bind_some]
    exact hf x r h'
theorem keeps_map {α β : Type} {P R : List UInt8} {p : List UInt8 → Option (α × Nat)} (g : α × Nat → β × Nat) (hp : Keeps P R p) : Keeps P R (fun Y => (p Y).map g) := by
  intro r h
  have h' : (p P).map g = some r := h
  show (p (P ++ R)).map g = some r
  cases hx : p P with
  | none => rw [hx] at h'; cases h'
  | some x =>
    rw [hx] at h'
    rw [hp x hx]
    exact h'
theorem keeps_const {α : Type} {P R : List UInt8} (o : Option (α × Nat)) : Keeps P R (fun _ => o) := fun _ h => h
theorem keeps_ite {α : Type} {P R : List UInt8} {c : Prop} [Decidable c] {p q : List UInt8 → Option (α × Nat)} (hp : Keeps P R p) (hq : Keeps P R q) : Keeps P R (fun Y => if c then p Y else q Y) := by
  intro r h
  by_cases hc : c
  · have h' : p P = some r := by simpa only [if_pos hc] using h
    show (if c then p (P ++ R) else q (P ++ R)) = some r
    rw [if_pos hc]; exact hp r h'
  · have h' : q P = some r := by simpa only [if_neg hc] using h
    show (if c then p (P ++ R) else q (P ++ R)) = some r
    rw [if_neg hc]; exact hq r h'
theorem keeps_data (P R : List UInt8) (k : Int) (E a : Nat) : Keeps P R (fun Y => dataP (bs Y) k E a) := by
  refine keeps_bind (p := fun Y => innP (bs Y) k E a) (f := fun _ r => if r.2 = E then some r else none) ?_ (fun x => keeps_const _)
  refine keeps_ite (keeps_name P R a) (keeps_ite ?_ (keeps_ite ?_ (keeps_take P R _ a)))
  · exact keeps_bind (f := fun Y x => (nameP (bs Y) x.2).map fun y => (x.1 ++ y.1, y.2)) (keeps_take P R 2 a) (fun x => keeps_map _ (keeps_name P R x.2))
  · refine keeps_bind (f := fun Y x => (takeP (bs Y) 20 x.2).map fun y => (x.1 ++ y.1, y.2)) ?_ (fun x => keeps_map _ (keeps_take P R 20 x.2))
    exact keeps_bind (f := fun Y x => (nameP (bs Y) x.2).map fun y => (x.1 ++ y.1, y.2)) (keeps_name P R a) (fun x => keeps_map _ (keeps_name P R x.2))
theorem keeps_seqN {α : Type} {P R : List UInt8} {p : List UInt8 → Option (α × Nat)} (w : Nat) (hp : Keeps P R p) : Keeps P R (fun Y => (p Y).bind fun x => (numP (bs Y) w x.2).map fun y => ((x.1, y.1), y.2)) :=
  keeps_bind (f := fun Y x => (numP (bs Y) w x.2).map fun y => ((x.1, y.1), y.2)) hp (fun x => keeps_map _ (keeps_num P R w x.2))
theorem keeps_rec (P R : List UInt8) (a : Nat) : Keeps P R (fun Y => recP (bs Y) a) := by
  refine keeps_bind (p := fun Y => hdP (bs Y) a) (f := fun Y x => recF (bs Y) x) ?_ (fun x => ?_)
  · exact keeps_seqN 2 (keeps_seqN 4 (keeps_seqN 2 (keeps_seqN 2 (keeps_name P R a))))
  · intro r h
    have h' : recF (bs P) x = some r := h
    show recF (bs (P ++ R)) x = some r
    unfold recF at h' ⊢
    rw [bs_size] at h' ⊢
    split at h'
    · rw [if_pos (by rw [List.length_append]; omega)]
      exact keeps_map _ (keeps_data P R _ _ _) r h'
    · cases h'
theorem keeps_rr (P R : List UInt8) (last : Bool) (a : Nat) : Keeps P R (fun Y => rrP (bs Y) last a) :=
  keeps_bind (f := fun _ x => rrF last x) (keeps_rec P R a) (fun _ => keeps_const _)
theorem keeps_q (P R : List UInt8) (a : Nat) : Keeps P R (fun Y => qP (bs Y) a) :=
  keeps_map _ (keeps_seqN 2 (keeps_seqN 2 (keeps_name P R a)))
theorem keeps_many {α : Type} {P R : List UInt8} {p : List UInt8 → Nat → Option (α × Nat)} (hp : ∀ a, Keeps P R (fun Y => p Y a)) (a : Nat) : ∀ n, Keeps P R (fun Y => manyP (p Y) n a)
  | 0 => keeps_const _
  | n + 1 => by
    intro r h
    exact keeps_bind (p := fun Y => manyP (p Y) n a) (f := fun Y l => (p Y l.2).map fun x => (l.1 ++ [x.1], x.2)) (keeps_many hp a n) (fun l => keeps_map (fun x => (l.1 ++ [x.1], x.2)) (hp l.2)) r h
theorem keeps_seqM {α β : Type} {P R : List UInt8} {p : List UInt8 → Option (α × Nat)} {q : List UInt8 → Nat → Option (β × Nat)} (hp : Keeps P R p) (hq : ∀ a, Keeps P R (fun Y => q Y a)) : Keeps P R (fun Y => (p Y).bind fun x => (q Y x.2).map fun y => ((x.1, y.1), y.2)) :=
  keeps_bind (f := fun Y x => (q Y x.2).map fun y => ((x.1, y.1), y.2)) hp (fun x => keeps_map _ (hq x.2))
theorem keeps_msg (P R : List UInt8) : Keeps P R (fun Y => msgP (bs Y)) := by
  refine keeps_bind (p := fun Y => hd6P (bs Y)) (f := fun Y x => msgF (bs Y) x) ?_ (fun x => ?_)
  · exact keeps_seqN 2 (keeps_seqN 2 (keeps_seqN 2 (keeps_seqN 2 (keeps_seqN 2 (keeps_num P R 2 0)))))
  · refine keeps_ite (keeps_const _) ?_
    refine keeps_map _ ?_
    refine keeps_seqM (q := fun Y a => manyP (rrP (bs Y) true) _ a) ?_ (fun a => keeps_many (p := fun Y => rrP (bs Y) true) (keeps_rr P R true) a _)
    refine keeps_seqM (q := fun Y a => manyP (rrP (bs Y) false) _ a) ?_ (fun a => keeps_many (p := fun Y => rrP (bs Y) false) (keeps_rr P R false) a _)
    refine keeps_seqM (q := fun Y a => manyP (rrP (bs Y) false) _ a) ?_ (fun a => keeps_many (p := fun Y => rrP (bs Y) false) (keeps_rr P R false) a _)
    exact keeps_many (p := fun Y => qP (bs Y)) (keeps_q P R) _ _
/-- Cut off, it is none. -/
theorem dec_cut {Y : List UInt8} {M : MsgD} (h : msgP (bs Y) = some (M, Y.length)) {k : Nat} (hk : k < Y.length) : decP (bs (Y.take k)) = none := by
  unfold decP
  split
  · rfl
  · cases hp : msgP (bs (Y.take k)) with
    | none => rfl
    | some r =>
      have := keeps_msg (Y.take k) (Y.drop k) r hp
      rw [List.take_append_drop] at this
      have this : msgP (bs Y) = some r := this
      rw [h] at this
      injection this with this
      subst this
      rw [Option.bind_some, if_neg (by rw [bs_size, List.length_take]; show ¬ Y.length = _; omega)]
/-- With a byte more it is none. -/
theorem dec_more {Y R : List UInt8} {M : MsgD} (h : msgP (bs (Y ++ R)) = some (M, Y.length)) (hR : R ≠ []) : decP (bs (Y ++ R)) = none := by
  unfold decP
  split
  · rfl
  · rw [h, Option.bind_some, if_neg]
    rw [bs_size, List.length_append]
    have := List.length_pos_iff.2 hR
    show ¬ Y.length = _
    omega
theorem num_rng {s : ByteArray} {w a : Nat} {r : Int × Nat} (h : numP s w a = some r) : 0 ≤ r.1 ∧ r.1 < 256 ^ w := by
  unfold numP at h
  split at h
  · injection h with h
    subst h
    exact getTo_bd s a w
  · cases h
theorem seq_some {α β γ : Type} {p : Option (α × Nat)} {f : Nat → Option (β × Nat)} {g : α → β → γ} {r : γ × Nat} (h : (p.bind fun x => (f x.2).map fun y => (g x.1 y.1, y.2)) = some r) : ∃ x y, p = some x ∧ f x.2 = some y ∧ r = (g x.1 y.1, y.2) := by
  cases p with
  | none => cases h
  | some x =>
    rw [Option.bind_some] at h
    cases hf : f x.2 with
    | none => rw [hf] at h; cases h
    | some y =>
      rw [hf] at h
      injection h with h
      exact ⟨x, y, rfl, hf, h.symm⟩
theorem many_all {α : Type} {p : Nat → Option (α × Nat)} {ok : α → Bool} (hp : ∀ a r, p a = some r → ok r.1 = true) (a : Nat) : ∀ n r, manyP p n a = some r → r.1.length = n ∧ r.1.all ok = true
  | 0, r, h => by
    injection h with h
    subst h
    exact ⟨rfl, rfl⟩
  | n + 1, r, h => by
    rw [manyP] at h
    obtain ⟨x, y, h1, h2, rfl⟩ := seq_some (g := fun (l : List α) z => l ++ [z]) h
    obtain ⟨k1, k2⟩ := many_all hp a n x h1
    refine ⟨by simp [k1], ?_⟩
    simp only [List.all_append, Bool.and_eq_true, List.all_cons, List.all_nil, and_true]
    exact ⟨k2, hp _ _ h2⟩
theorem q_may {s : ByteArray} (a : Nat) (r : Ky × Nat) (h : qP s a = some r) : mayK r.1 = true := by
  unfold qP at h
  rw [Option.map_eq_some_iff] at h
  obtain ⟨z, hz, rfl⟩ := h
  obtain ⟨x, y, h1, h2, rfl⟩ := seq_some (g := fun a b => (a, b)) hz
  obtain ⟨u, v, h3, h4, rfl⟩ := seq_some (g := fun a b => (a, b)) h1
  have k1 := nameP_may h3
  have k2 := num_rng h4
  have k3 := num_rng h2
  simp only [mayK, inR, Bool.and_eq_true, decide_eq_true_eq]
  exact ⟨k1, by omega, by omega⟩
theorem rr_may {s : ByteArray} {last : Bool} (a : Nat) (r : R5 × Nat) (h : rrP s last a = some r) : okP last r.1 = true := by
  unfold rrP at h
  cases hp : recP s a with
  | none => rw [hp] at h; cases h
  | some x =>
    rw [hp, Option.bind_some, rrF] at h
    split at h
    · injection h with h
      subst h
      assumption
    · cases h
/-- What is read may be. -/
theorem msg_may {s : ByteArray} {M : MsgD} {a : Nat} (h : msgP s = some (M, a)) : mayM M.h.i M.h.o M.h.r M.q M.a M.n M.x = true := by
  unfold msgP at h
  cases hp : hd6P s with
  | none => rw [hp] at h; cases h
  | some z =>
    rw [hp, Option.bind_some] at h
    unfold hd6P at hp
    obtain ⟨x5, y5, h5, k5, e5⟩ := seq_some (g := fun a b => (a, b)) hp
    obtain ⟨x4, y4, h4, k4, e4⟩ := seq_some (g := fun a b => (a, b)) h5
    obtain ⟨x3, y3, h3, k3, e3⟩ := seq_some (g := fun a b => (a, b)) h4
    obtain ⟨x2, y2, h2, k2, e2⟩ := seq_some (g := fun a b => (a, b)) h3
    obtain ⟨x1, y1, h1, k1, e1⟩ := seq_some (g := fun a b => (a, b)) h2
    subst e5
    subst e4
    subst e3
    subst e2
    subst e1
    have r0 := num_rng h1
    have r1 := num_rng k1
    unfold msgF at h
    dsimp only at h
    split at h
    · cases h
    · rename_i hlim
      unfold restP at h
      rw [Option.map_eq_some_iff] at h
      obtain ⟨w, hw, e⟩ := h
      obtain ⟨t3, u3, g3, m3, rfl⟩ := seq_some (g := fun a b => (a, b)) hw
      obtain ⟨t2, u2, g2, m2, rfl⟩ := seq_some (g := fun a b => (a, b)) g3
      obtain ⟨t1, u1, g1, m1, rfl⟩ := seq_some (g := fun a b => (a, b)) g2
      obtain ⟨l0, a0⟩ := many_all (ok := mayK) q_may _ _ _ g1
      obtain ⟨l1, a1⟩ := many_all (ok := mayRr) (fun a r h => by have := rr_may (last := false) a r h; simpa [okP] using this) _ _ _ m1
      obtain ⟨l2, a2⟩ := many_all (ok := mayRr) (fun a r h => by have := rr_may (last := false) a r h; simpa [okP] using this) _ _ _ m2
      obtain ⟨l3, a3⟩ := many_all (ok := mayX) (fun a r h => by have := rr_may (last := true) a r h; simpa [okP, mayX] using this) _ _ _ m3
      injection e with e _
      subst e
      have hF := (ref_flag y1.1 (inR16 r1)).1
      simp only [mayM, headM, Bool.and_eq_true, decide_eq_true_eq]
      refine ⟨⟨inR16 r0, ?_⟩, ?_, a0, a3, a1, a2⟩
      · simpa [okF, unH] using hF
      · show t1.1.length + u1.1.length + u2.1.length + u3.1.length ≤ 300
        omega
end Go.Proofs.Ytgppkpdjpcegbaa
end
