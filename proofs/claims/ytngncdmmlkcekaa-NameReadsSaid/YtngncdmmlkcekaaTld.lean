/- Plain facts: what is told of labels is read as them; small letters and great ones are read alike. -/
import Derived.Test.YtngncdmmlkcekaaWr
import Derived.Test.YtngncdmmlkcekaaParP
import Derived.Test.YtngncdmmlkcekaaPa
namespace Go.Proofs.Ytngncdmmlkcekaa
open Go.RowKit

/-- A byte's telling: it is read as the byte, whatever stands behind. -/
def Told (c : Nat) (u : List UInt8) : Prop := u ≠ [] ∧ (∀ r, byteAt (bs (u ++ r)) 0 ≠ 46) ∧ ∀ r, readV (bs (u ++ r)) = (c, u.length)
/-- A byte told by its digits. -/
def digs (c : Nat) : List UInt8 := [92, UInt8.ofNat (48 + c / 100), UInt8.ofNat (48 + c / 10 % 10), UInt8.ofNat (48 + c % 10)]
theorem u8n {n : Nat} (h : n < 256) : (UInt8.ofNat n).toNat = n := UInt8.toNat_ofNat_of_lt' h
theorem told_digs (c : Nat) (h : c < 256) : Told c (digs c) := by
  refine ⟨by simp [digs], fun r => by simp [digs, byteAt_bs], fun r => ?_⟩
  have hz : (bs (digs c ++ r)).size = 4 + r.length := by rw [bs_size]; simp [digs]; omega
  have h0 : byteAt (bs (digs c ++ r)) 0 = 92 := rfl
  have h1 : byteAt (bs (digs c ++ r)) 1 = 48 + c / 100 := u8n (by omega)
  have h2 : byteAt (bs (digs c ++ r)) 2 = 48 + c / 10 % 10 := u8n (by omega)
  have h3 : byteAt (bs (digs c ++ r)) 3 = 48 + c % 10 := u8n (by omega)
  rw [readV, h0, h1, h2, h3, hz, if_neg (by omega), if_neg (by omega), if_neg (by omega), if_pos (by simp [digOk]; omega), if_pos (by omega)]
  have : 100 * (48 + c / 100 - 48) + 10 * (48 + c / 10 % 10 - 48) + (48 + c % 10 - 48) = c := by omega
  rw [this]; rfl
theorem told_tell (c : Nat) (h : c < 256) : Told c (tell c) := by
  unfold tell
  by_cases c1 : plainN c = true
  · rw [if_pos c1]
    have c2 := c1
    simp only [plainN, decide_eq_true_eq] at c2
    have h0 : ∀ r, byteAt (bs ([UInt8.ofNat c] ++ r)) 0 = c := fun r => u8n h
    refine ⟨by simp, fun r => by rw [h0]; omega, fun r => ?_⟩
    rw [readV, h0, if_pos (by omega), if_pos c1]; rfl
  · rw [if_neg c1]
    by_cases c2 : c = 46 ∨ c = 92
    · rw [if_pos c2]
      have h0 : ∀ r, byteAt (bs ([92, UInt8.ofNat c] ++ r)) 0 = 92 := fun r => rfl
      have h1 : ∀ r, byteAt (bs ([92, UInt8.ofNat c] ++ r)) 1 = c := fun r => u8n h
      refine ⟨by simp, fun r => by rw [h0]; omega, fun r => ?_⟩
      have hz : (bs ([92, UInt8.ofNat c] ++ r)).size = 2 + r.length := by rw [bs_size]; simp; omega
      rw [readV, h0, h1, hz, if_neg (by omega), if_pos ⟨by omega, c2⟩]; rfl
    · rw [if_neg c2]; exact told_digs c h

/-- Bytes told one behind the other. -/
def tells (T : Nat → List UInt8) (m : List UInt8) : List UInt8 := m.flatMap fun b => T b.toNat
/-- Labels told, each with its point. -/
def prints (T : Nat → List UInt8) (M : List ByteArray) : List UInt8 := M.flatMap fun s => tells T s.data.toList ++ [46]
theorem tells_cons (T : Nat → List UInt8) (b : UInt8) (m : List UInt8) : tells T (b :: m) = T b.toNat ++ tells T m := rfl
theorem prints_cons (T : Nat → List UInt8) (s : ByteArray) (M : List ByteArray) : prints T (s :: M) = tells T s.data.toList ++ (46 :: prints T M) := by
  show (tells T s.data.toList ++ [46]) ++ prints T M = _
  rw [List.append_assoc]; rfl
theorem prints_append (T : Nat → List UInt8) (A B : List ByteArray) : prints T (A ++ B) = prints T A ++ prints T B := by simp [prints]

theorem ext_of {s : ByteArray} {k : Nat} {u : List UInt8} (h : s.data.toList.drop k = u) : s.extract k s.size = bs u := by
  apply ba_eq
  rw [extract_toList, h, List.take_of_length_le]
  · rfl
  · rw [← h, List.length_drop, size_data]; omega
theorem lt_of {s : ByteArray} {k : Nat} {u : List UInt8} (h : s.data.toList.drop k = u) (hu : u ≠ []) : k < s.size := by
  have h1 := congrArg List.length h
  rw [List.length_drop, size_data] at h1
  have : 0 < u.length := List.length_pos_iff.2 hu
  omega
theorem at_of {s : ByteArray} {k : Nat} {u : List UInt8} (h : s.data.toList.drop k = u) : byteAt s k = byteAt (bs u) 0 := by
  have := byteAt_drop s k 0
  rw [Nat.add_zero, h] at this
  exact this
theorem run_tell {s : ByteArray} {l : List ByteArray} {b u r : List UInt8} {c k : Nat} (h : s.data.toList.drop k = u ++ r) (hu : Told c u) : pRun s s.size l b k = pRun s s.size l (b ++ [UInt8.ofNat c]) (k + u.length) := by
  have hne : u ++ r ≠ [] := fun e => hu.1 (List.append_eq_nil_iff.1 e).1
  have hlen : ¬ u.length = 0 := fun e => hu.1 (List.eq_nil_of_length_eq_zero e)
  rw [pRun_step, if_pos (lt_of h hne), at_of h, if_neg (hu.2.1 r), ext_of h, hu.2.2 r, if_neg hlen]
theorem run_dot {s : ByteArray} {l : List ByteArray} {b r : List UInt8} {k : Nat} (h : s.data.toList.drop k = 46 :: r) (hb : b ≠ []) : pRun s s.size l b k = pRun s s.size (l ++ [bs b]) [] (k + 1) := by
  have h46 : byteAt (bs (46 :: r)) 0 = 46 := rfl
  rw [pRun_step, if_pos (lt_of h (by simp)), at_of h, if_pos h46, if_neg hb]
theorem run_end {s : ByteArray} {l : List ByteArray} {b : List UInt8} {k : Nat} (h : s.data.toList.drop k = []) : pRun s s.size l b k = pEnd l b := by
  have h1 := congrArg List.length h
  rw [List.length_drop, size_data] at h1
  have h2 : ¬ k < s.size := by simp at h1; omega
  rw [pRun_step, if_neg h2]
theorem drop_next {s : ByteArray} {k : Nat} {u r : List UInt8} (h : s.data.toList.drop k = u ++ r) : s.data.toList.drop (k + u.length) = r := by
  rw [← List.drop_drop, h, List.drop_left]
theorem run_tells {T : Nat → List UInt8} (hT : ∀ c, c < 256 → Told c (T c)) {s : ByteArray} {l : List ByteArray} (m : List UInt8) : ∀ (b r : List UInt8) (k : Nat), s.data.toList.drop k = tells T m ++ r → pRun s s.size l b k = pRun s s.size l (b ++ m) (k + (tells T m).length) := by
  induction m with
  | nil => intro b r k _; rw [List.append_nil]; rfl
  | cons x m ih =>
    intro b r k h
    rw [tells_cons, List.append_assoc] at h
    rw [run_tell h (hT x.toNat x.toNat_lt), ih _ r _ (drop_next h), tells_cons, List.length_append, Nat.add_assoc, List.append_assoc, UInt8.ofNat_toNat]
    rfl
theorem run_prints {T : Nat → List UInt8} (hT : ∀ c, c < 256 → Told c (T c)) {s : ByteArray} (M : List ByteArray) : ∀ (l : List ByteArray) (r : List UInt8) (k : Nat), (∀ x ∈ M, x.size ≠ 0) → s.data.toList.drop k = prints T M ++ r → pRun s s.size l [] k = pRun s s.size (l ++ M) [] (k + (prints T M).length) := by
  induction M with
  | nil => intro l r k _ _; rw [List.append_nil]; rfl
  | cons x M ih =>
    intro l r k hM h
    rw [prints_cons, List.append_assoc] at h
    have hx : x.data.toList ≠ [] := fun e => hM x (by simp) (by rw [← size_data, e]; rfl)
    have h2 := drop_next h
    rw [List.cons_append] at h2
    have h3 : s.data.toList.drop (k + (tells T x.data.toList).length + 1) = prints T M ++ r := by
      rw [← List.drop_drop, h2]; rfl
    rw [run_tells hT x.data.toList [] _ k h, List.nil_append, run_dot h2 hx, ih _ r _ (fun y hy => hM y (by simp [hy])) h3, bs_of, prints_cons, List.length_append, List.length_cons]
    have e1 : l ++ [x] ++ M = l ++ x :: M := by simp
    have e2 : k + (tells T x.data.toList).length + 1 + (prints T M).length = k + ((tells T x.data.toList).length + ((prints T M).length + 1)) := by omega
    rw [e1, e2]
/-- What is told of labels is read as them. -/
theorem parse_prints {T : Nat → List UInt8} (hT : ∀ c, c < 256 → Told c (T c)) {L : List ByteArray} (hL : L ≠ []) (hne : ∀ x ∈ L, x.size ≠ 0) : parseL (bs (prints T L)) = some L := by
  have h0 : (bs (prints T L)).data.toList.drop 0 = prints T L ++ [] := by rw [List.append_nil]; rfl
  have hE : (bs (prints T L)).data.toList.drop (prints T L).length = [] := List.drop_length
  rw [parseL, run_prints hT L [] [] 0 hne h0, Nat.zero_add, List.nil_append, run_end hE, pEnd, if_pos rfl, if_neg hL]
/-- Likewise without the last point. -/
theorem parse_prints' {T : Nat → List UInt8} (hT : ∀ c, c < 256 → Told c (T c)) {M : List ByteArray} {x : ByteArray} (hne : ∀ y ∈ M ++ [x], y.size ≠ 0) : parseL (bs (prints T M ++ tells T x.data.toList)) = some (M ++ [x]) := by
  have h0 : (bs (prints T M ++ tells T x.data.toList)).data.toList.drop 0 = prints T M ++ tells T x.data.toList := rfl
  have h1 := drop_next h0
  rw [Nat.zero_add] at h1
  have h2 : (bs (prints T M ++ tells T x.data.toList)).data.toList.drop (prints T M).length = tells T x.data.toList ++ [] := by rw [List.append_nil]; exact h1
  have hx : ¬ x.data.toList = [] := fun e => hne x (by simp) (by rw [← size_data, e]; rfl)
  rw [parseL, run_prints hT M [] _ 0 (fun y hy => hne y (by simp [hy])) h0, Nat.zero_add, List.nil_append, run_tells hT x.data.toList [] [] _ h2, List.nil_append, run_end (drop_next h2), pEnd, if_neg hx, bs_of]
theorem tells_first {T : Nat → List UInt8} (hT : ∀ c, c < 256 → Told c (T c)) {m r : List UInt8} (hm : m ≠ []) : isDot (bs (tells T m ++ r)) = false := by
  cases m with
  | nil => exact absurd rfl hm
  | cons b m =>
    have h := (hT b.toNat b.toNat_lt).2.1 (tells T m ++ r)
    rw [tells_cons, List.append_assoc]
    rw [isDot, bs_toList, beq_eq_false_iff_ne]
    intro e
    rw [e] at h
    exact h rfl
theorem prints_dot {T : Nat → List UInt8} (hT : ∀ c, c < 256 → Told c (T c)) {M : List ByteArray} {r : List UInt8} (hne : ∀ x ∈ M, x.size ≠ 0) (hM : M ≠ []) : isDot (bs (prints T M ++ r)) = false := by
  cases M with
  | nil => exact absurd rfl hM
  | cons x M =>
    have hx : x.data.toList ≠ [] := fun e => hne x (by simp) (by rw [← size_data, e]; rfl)
    rw [prints_cons, List.append_assoc]
    exact tells_first hT hx

/-! Labels that may be, joined -/
theorem okL_mem {L : List ByteArray} (h : OkL L) : ∀ x ∈ L, x.size ≠ 0 := by
  intro x hx
  obtain ⟨k, hk, e⟩ := List.mem_iff_getElem.1 hx
  have := (h k hk).1
  have e2 : tx L k = x := by rw [tx, List.getD_eq_getElem?_getD, List.getElem?_eq_getElem hk, e]; rfl
  rw [e2] at this; omega
theorem okL_scan {L : List ByteArray} (h : OkL L) : jScan L = 0 := by
  induction L with
  | nil => rfl
  | cons s L ih =>
    obtain ⟨h1, h2, _⟩ := h 0 (by simp)
    rw [tx_cons_zero] at h1 h2
    rw [jScan, if_neg (by omega), if_neg (by omega)]
    exact ih (okL_tail h)
theorem okL_low {L : List ByteArray} (h : OkL L) : L.map lowS = L := by
  induction L with
  | nil => rfl
  | cons s L ih =>
    obtain ⟨_, _, h3⟩ := h 0 (by simp)
    rw [tx_cons_zero] at h3
    rw [List.map_cons, lowS_no h3, ih (okL_tail h)]
theorem okL_join {L : List ByteArray} (h : OkL L) (hz : off L L.length ≤ 254) : joinE2 L = 0 ∧ joinS2 L = nameB L := by
  have e : joinE2 L = 0 := by rw [joinE2, if_pos (okL_scan h), if_neg (by omega)]
  exact ⟨e, by rw [joinS2, if_pos e, low_name (fun j hj => (h j hj).2.1), okL_low h]⟩
theorem name_lower {L : List ByteArray} (h : OkL L) : lowS (nameB L) = nameB L := by rw [low_name (fun j hj => (h j hj).2.1), okL_low h]
theorem parse_of {s : ByteArray} {L : List ByteArray} (hd : isDot s = false) (hp : parseL s = some L) (h : OkL L) (hz : off L L.length ≤ 254) : parseE s = 0 ∧ parseS s = nameB L := by
  obtain ⟨h1, h2⟩ := okL_join h hz
  constructor
  · rw [parseE, hd, hp]; exact h1
  · rw [parseS, hd, hp]; exact h2

/-! Small letters and great ones -/
def lowN (n : Nat) : Nat := (low1 (UInt8.ofNat n)).toNat
theorem lowN_eq {n : Nat} (h : n < 256) : lowN n = if great n = true then n + 32 else n := by
  have e : (UInt8.ofNat n).toNat = n := u8n h
  rw [lowN]
  cases g : great n
  · rw [low1_no (by rw [e]; exact g), e]; rfl
  · rw [low1_yes (by rw [e]; exact g), e]; rfl
theorem lowN_is {n : Nat} (h : n < 256) : (lowN n = 92 ↔ n = 92) ∧ (lowN n = 46 ↔ n = 46) ∧ plainN (lowN n) = plainN n ∧ digOk (lowN n) = digOk n ∧ (digOk n = true → lowN n = n) ∧ lowN n < 256 := by
  rw [lowN_eq h]
  cases g : great n
  · simp [h]
  · simp only [great, decide_eq_true_eq] at g
    simp only [if_true]
    refine ⟨by omega, by omega, ?_, ?_, ?_, by omega⟩
    · rw [Bool.eq_iff_iff]; simp only [plainN, decide_eq_true_eq]; omega
    · rw [Bool.eq_iff_iff]; simp only [digOk, decide_eq_true_eq]; omega
    · simp only [digOk, decide_eq_true_eq]; omega
theorem byteAt_low (s : ByteArray) (i : Nat) : byteAt (lowS s) i = lowN (byteAt s i) := by
  rw [lowS, byteAt_bs, lowN, byteAt, UInt8.ofNat_toNat, List.getD_eq_getElem?_getD, List.getElem?_map, List.getD_eq_getElem?_getD]
  cases s.data.toList[i]? <;> rfl
theorem low_twice (b : UInt8) : low1 (low1 b) = low1 b := low1_no (great_low b)
theorem readV_low (s : ByteArray) : (readV (lowS s)).2 = (readV s).2 ∧ low1 (UInt8.ofNat (readV (lowS s)).1) = low1 (UInt8.ofNat (readV s).1) := by
  have l0 := lowN_is (byteAt_lt s 0)
  have l1 := lowN_is (byteAt_lt s 1)
  have l2 := lowN_is (byteAt_lt s 2)
  have l3 := lowN_is (byteAt_lt s 3)
  by_cases c0 : byteAt s 0 = 92
  · have d0 : ¬ byteAt s 0 ≠ 92 := fun h => h c0
    have d1 : ¬ byteAt (lowS s) 0 ≠ 92 := by rw [byteAt_low]; exact fun h => h (l0.1.2 c0)
    by_cases c1 : 1 < s.size ∧ (byteAt s 1 = 46 ∨ byteAt s 1 = 92)
    · have e1 : byteAt (lowS s) 1 = byteAt s 1 := by
        rw [byteAt_low]
        rcases c1.2 with h | h <;> (rw [h]; rfl)
      have c2 : 1 < (lowS s).size ∧ (byteAt (lowS s) 1 = 46 ∨ byteAt (lowS s) 1 = 92) := by rw [lowS_size, e1]; exact c1
      have r1 : readV s = (byteAt s 1, 2) := by rw [readV, if_neg d0, if_pos c1]
      have r2 : readV (lowS s) = (byteAt s 1, 2) := by rw [readV, if_neg d1, if_pos c2, e1]
      rw [r1, r2]; exact ⟨rfl, rfl⟩
    · have c1' : ¬ (1 < (lowS s).size ∧ (byteAt (lowS s) 1 = 46 ∨ byteAt (lowS s) 1 = 92)) := by rw [lowS_size, byteAt_low, l1.2.1, l1.1]; exact c1
      by_cases c2 : s.size < 4
      · have r1 : readV s = (0, 0) := by rw [readV, if_neg d0, if_neg c1, if_pos c2]
        have r2 : readV (lowS s) = (0, 0) := by rw [readV, if_neg d1, if_neg c1', if_pos (by rw [lowS_size]; exact c2)]
        rw [r1, r2]; exact ⟨rfl, rfl⟩
      · have c2' : ¬ (lowS s).size < 4 := by rw [lowS_size]; exact c2
        by_cases c3 : (digOk (byteAt s 1) && digOk (byteAt s 2) && digOk (byteAt s 3)) = true
        · have c4 := c3
          simp only [Bool.and_eq_true] at c4
          have e1 : byteAt (lowS s) 1 = byteAt s 1 := by rw [byteAt_low]; exact l1.2.2.2.2.1 c4.1.1
          have e2 : byteAt (lowS s) 2 = byteAt s 2 := by rw [byteAt_low]; exact l2.2.2.2.2.1 c4.1.2
          have e3 : byteAt (lowS s) 3 = byteAt s 3 := by rw [byteAt_low]; exact l3.2.2.2.2.1 c4.2
          have r : readV (lowS s) = readV s := by
            rw [readV, if_neg d1, if_neg c1', if_neg c2', e1, e2, e3, readV, if_neg d0, if_neg c1, if_neg c2]
          rw [r]; exact ⟨rfl, rfl⟩
        · have c3' : ¬ (digOk (byteAt (lowS s) 1) && digOk (byteAt (lowS s) 2) && digOk (byteAt (lowS s) 3)) = true := by
            rw [byteAt_low, byteAt_low, byteAt_low, l1.2.2.2.1, l2.2.2.2.1, l3.2.2.2.1]; exact c3
          have r1 : readV s = (0, 0) := by rw [readV, if_neg d0, if_neg c1, if_neg c2, if_neg c3]
          have r2 : readV (lowS s) = (0, 0) := by rw [readV, if_neg d1, if_neg c1', if_neg c2', if_neg c3']
          rw [r1, r2]; exact ⟨rfl, rfl⟩
  · have d1 : byteAt (lowS s) 0 ≠ 92 := by rw [byteAt_low]; exact fun h => c0 (l0.1.1 h)
    by_cases c1 : plainN (byteAt s 0) = true
    · have c1' : plainN (byteAt (lowS s) 0) = true := by rw [byteAt_low, l0.2.2.1]; exact c1
      have r1 : readV s = (byteAt s 0, 1) := by rw [readV, if_pos c0, if_pos c1]
      have r2 : readV (lowS s) = (lowN (byteAt s 0), 1) := by rw [readV, if_pos d1, if_pos c1', byteAt_low]
      rw [r1, r2]
      refine ⟨rfl, ?_⟩
      show low1 (UInt8.ofNat (lowN (byteAt s 0))) = _
      rw [lowN, UInt8.ofNat_toNat, low_twice]
    · have c1' : ¬ plainN (byteAt (lowS s) 0) = true := by rw [byteAt_low, l0.2.2.1]; exact c1
      have r1 : readV s = (0, 0) := by rw [readV, if_pos c0, if_neg c1]
      have r2 : readV (lowS s) = (0, 0) := by rw [readV, if_pos d1, if_neg c1']
      rw [r1, r2]; exact ⟨rfl, rfl⟩
theorem low_extract (s : ByteArray) (k : Nat) : (lowS s).extract k (lowS s).size = lowS (s.extract k s.size) := by
  have h : (lowS s).data.toList.drop k = (s.data.toList.drop k).map low1 := by
    show (s.data.toList.map low1).drop k = _
    rw [List.map_drop]
  rw [ext_of h, ext_of (s := s) (k := k) rfl]
  rfl
theorem pRun_low (s : ByteArray) : ∀ (f : Nat) (l l' : List ByteArray) (b b' : List UInt8) (k : Nat), l'.map lowS = l.map lowS → b'.map low1 = b.map low1 → (pRun (lowS s) f l' b' k).map (List.map lowS) = (pRun s f l b k).map (List.map lowS) := by
  have hE : ∀ (l l' : List ByteArray) (b b' : List UInt8), l'.map lowS = l.map lowS → b'.map low1 = b.map low1 → (pEnd l' b').map (List.map lowS) = (pEnd l b).map (List.map lowS) := by
    intro l l' b b' hl hb
    have e1 : b' = [] ↔ b = [] := by rw [← List.map_eq_nil_iff (f := low1) (l := b'), hb, List.map_eq_nil_iff]
    have e2 : l' = [] ↔ l = [] := by rw [← List.map_eq_nil_iff (f := lowS) (l := l'), hl, List.map_eq_nil_iff]
    rw [pEnd, pEnd]
    by_cases c1 : b = []
    · have c1' : b' = [] := e1.2 c1
      rw [if_pos c1, if_pos c1']
      by_cases c2 : l = []
      · have c2' : l' = [] := e2.2 c2
        rw [if_pos c2, if_pos c2']
      · have c2' : ¬ l' = [] := fun h => c2 (e2.1 h)
        rw [if_neg c2, if_neg c2', Option.map_some, Option.map_some, hl]
    · have c1' : ¬ b' = [] := fun h => c1 (e1.1 h)
      rw [if_neg c1, if_neg c1', Option.map_some, Option.map_some, List.map_append, List.map_append, hl]
      have : lowS (bs b') = lowS (bs b) := congrArg bs hb
      rw [List.map_cons, List.map_cons, this]
  intro f
  induction f with
  | zero => intro l l' b b' k hl hb; exact hE l l' b b' hl hb
  | succ f ih =>
    intro l l' b b' k hl hb
    have e1 : b' = [] ↔ b = [] := by rw [← List.map_eq_nil_iff (f := low1) (l := b'), hb, List.map_eq_nil_iff]
    rw [pRun, pRun, lowS_size]
    by_cases c1 : k < s.size
    · rw [if_pos c1, if_pos c1]
      have hn := lowN_is (byteAt_lt s k)
      by_cases c2 : byteAt s k = 46
      · have c2' : byteAt (lowS s) k = 46 := by rw [byteAt_low]; exact hn.2.1.2 c2
        rw [if_pos c2, if_pos c2']
        by_cases c3 : b = []
        · have c3' : b' = [] := e1.2 c3
          rw [if_pos c3, if_pos c3']
        · have c3' : ¬ b' = [] := fun h => c3 (e1.1 h)
          rw [if_neg c3, if_neg c3']
          refine ih _ _ _ _ _ ?_ rfl
          have : lowS (bs b') = lowS (bs b) := congrArg bs hb
          rw [List.map_append, List.map_append, hl, List.map_cons, List.map_cons, this]
      · have hx := low_extract s k
        rw [lowS_size] at hx
        have c2' : ¬ byteAt (lowS s) k = 46 := by rw [byteAt_low]; exact fun h => c2 (hn.2.1.1 h)
        rw [if_neg c2, if_neg c2', hx]
        obtain ⟨r1, r2⟩ := readV_low (s.extract k s.size)
        by_cases c4 : (readV (s.extract k s.size)).2 = 0
        · have c4' : (readV (lowS (s.extract k s.size))).2 = 0 := by rw [r1]; exact c4
          rw [if_pos c4, if_pos c4']
        · have c4' : ¬ (readV (lowS (s.extract k s.size))).2 = 0 := by rw [r1]; exact c4
          rw [if_neg c4, if_neg c4', r1]
          refine ih _ _ _ _ _ hl ?_
          rw [List.map_append, List.map_append, hb, List.map_cons, List.map_cons, r2]
    · rw [if_neg c1, if_neg c1]; exact hE l l' b b' hl hb
theorem parseL_low (s : ByteArray) : (parseL (lowS s)).map (List.map lowS) = (parseL s).map (List.map lowS) := by
  rw [parseL, lowS_size]
  exact pRun_low s s.size [] [] [] [] 0 rfl rfl
theorem jScan_low (L : List ByteArray) : jScan (L.map lowS) = jScan L := by
  induction L with
  | nil => rfl
  | cons s L ih => rw [List.map_cons, jScan, jScan, lowS_size, ih]
theorem off_low (L : List ByteArray) : off (L.map lowS) (L.map lowS).length = off L L.length := by
  rw [List.length_map]
  have : ∀ k, k ≤ L.length → (txtTo (L.map lowS) k).length = (txtTo L k).length := by
    intro k
    induction k with
    | zero => intro _; rfl
    | succ k ih =>
      intro h
      have e : tx (L.map lowS) k = lowS (tx L k) := by
        rw [tx, tx, List.getD_eq_getElem?_getD, List.getD_eq_getElem?_getD, List.getElem?_map, List.getElem?_eq_getElem (show k < L.length by omega)]
        rfl
      rw [txtTo_len, txtTo_len, ih (by omega), e, lowS_size]
  exact this _ (Nat.le_refl _)
theorem joinE_low (L : List ByteArray) : joinE2 (L.map lowS) = joinE2 L := by rw [joinE2, joinE2, jScan_low, off_low]
theorem joinS_is (L : List ByteArray) : joinS2 L = if joinE2 L = 0 then nameB (L.map lowS) else ⟨#[]⟩ := by
  by_cases h : joinE2 L = 0
  · obtain ⟨h1, _, h3⟩ := join_ok h
    rw [if_pos h, h3, low_name (fun j hj => (jScan_all h1 j hj).2)]
  · rw [if_neg h, joinS2, if_neg h]
theorem join_alike {L M : List ByteArray} (h : L.map lowS = M.map lowS) : joinE2 L = joinE2 M ∧ joinS2 L = joinS2 M := by
  have e : joinE2 L = joinE2 M := by rw [← joinE_low L, h, joinE_low]
  exact ⟨e, by rw [joinS_is, joinS_is, e, h]⟩
theorem isDot_low (s : ByteArray) : isDot (lowS s) = isDot s := by
  rw [isDot, isDot, Bool.eq_iff_iff, beq_iff_eq, beq_iff_eq, Lib.toList_data, Lib.toList_data]
  show s.data.toList.map low1 = [46] ↔ s.data.toList = [46]
  constructor
  · intro h
    obtain ⟨b, hb⟩ : ∃ b, s.data.toList = [b] := by
      have := congrArg List.length h
      rw [List.length_map] at this
      match hs : s.data.toList, this with
      | [b], _ => exact ⟨b, rfl⟩
    rw [hb] at h ⊢
    have h2 : low1 b = 46 := (List.cons.inj h).1
    have h3 : lowN b.toNat = 46 := by rw [lowN, UInt8.ofNat_toNat, h2]; rfl
    have h4 := (lowN_is b.toNat_lt).2.1.1 h3
    have h5 : b = 46 := UInt8.toNat_inj.1 h4
    rw [h5]
  · intro h; rw [h]; rfl
/-- Great letters and small ones are read alike. -/
theorem parse_low (s : ByteArray) : parseE (lowS s) = parseE s ∧ parseS (lowS s) = parseS s := by
  have hd := isDot_low s
  have hp := parseL_low s
  rw [parseE, parseE, parseS, parseS, hd]
  cases h : isDot s
  · cases h1 : parseL s with
    | none =>
      rw [h1] at hp
      cases h2 : parseL (lowS s) with
      | none => exact ⟨rfl, rfl⟩
      | some M => rw [h2] at hp; simp at hp
    | some L =>
      rw [h1] at hp
      cases h2 : parseL (lowS s) with
      | none => rw [h2] at hp; simp at hp
      | some M =>
        rw [h2] at hp
        have h3 : M.map lowS = L.map lowS := by simpa using hp
        exact join_alike h3
  · exact ⟨rfl, rfl⟩
theorem parse_may (s : ByteArray) (h : parseE s = 0) : mayN (parseS s) = true := by
  rw [parseE] at h
  rw [parseS]
  cases hd : isDot s
  · rw [hd] at h
    cases h1 : parseL s with
    | none => rw [h1] at h; exact absurd h (by decide)
    | some L =>
      rw [h1] at h
      have h2 : joinE2 L = 0 := h
      obtain ⟨j1, j2, _⟩ := join_ok h2
      show mayN (joinS2 L) = true
      rw [joinS_is, if_pos h2]
      exact labels_may (low_ok (jScan_all j1)) (by rw [off_low]; exact j2)
  · rfl
theorem parse_no (s : ByteArray) (h : parseE s ≠ 0) : parseS s = ⟨#[]⟩ := by
  rw [parseE] at h
  rw [parseS]
  cases hd : isDot s
  · rw [hd] at h
    cases h1 : parseL s with
    | none => rw [h1] at h; rfl
    | some L =>
      rw [h1] at h
      have h2 : joinE2 L ≠ 0 := h
      show joinS2 L = _
      rw [joinS2, if_neg h2]
  · rw [hd] at h; exact absurd rfl h
end Go.Proofs.Ytngncdmmlkcekaa
