/- Texts that others rest on, one behind the other: Ord, Cmp, Par, Labs, Und, CpN, Un2, Com, TreP. -/
import Derived.Test.YthfnphcefkdgbaaMgA
import Derived.Lib.Bytealg
import Derived.Lib.Small
import Derived.Lib.Strings
import Derived.Deep.RegionHeld3
import Derived.Lib.Walk
section
namespace Go.Proofs.Ythfnphcefkdgbaa
open Go.RowKit

def cmpB (a b : ByteArray) : Int := Lib.compareBytes a.data.toList b.data.toList
/-- Labels from the end, one behind the other. -/
def cmpLab : List ByteArray → List ByteArray → Int
  | [], [] => 0
  | [], _ :: _ => -1
  | _ :: _, [] => 1
  | a :: x, b :: y => if cmpB a b = 0 then cmpLab x y else cmpB a b
def cmpN (L M : List ByteArray) : Int := cmpLab L.reverse M.reverse
theorem take_rev (L : List ByteArray) (k : Nat) (hk : k < L.length) : (L.take (k + 1)).reverse = tx L k :: (L.take k).reverse := by
  rw [List.take_succ_eq_append_getElem hk, List.reverse_append, List.reverse_singleton, List.singleton_append, tx, List.getD_eq_getElem?_getD, List.getElem?_eq_getElem hk]
  rfl
theorem cmp_step (L M : List ByteArray) (i j : Nat) (hi : i < L.length) (hj : j < M.length) : cmpLab (L.take (i + 1)).reverse (M.take (j + 1)).reverse = if cmpB (tx L i) (tx M j) = 0 then cmpLab (L.take i).reverse (M.take j).reverse else cmpB (tx L i) (tx M j) := by
  rw [take_rev L i hi, take_rev M j hj]; rfl
theorem cmp_end (L M : List ByteArray) (i j : Nat) (hi : i ≤ L.length) (hj : j ≤ M.length) (h : i = 0 ∨ j = 0) : cmpLab (L.take i).reverse (M.take j).reverse = Lib.compareInt i j := by
  cases i with
  | zero =>
    cases j with
    | zero => rfl
    | succ j => rw [take_rev M j (by omega)]; simp only [List.take_zero, List.reverse_nil, cmpLab, Lib.compareInt]; rw [if_pos (by omega)]
  | succ i =>
    have : j = 0 := by omega
    subst this
    rw [take_rev L i (by omega)]
    simp only [List.take_zero, List.reverse_nil, cmpLab, Lib.compareInt]
    rw [if_neg (by omega), if_pos (by omega)]
theorem cmpN_all (L M : List ByteArray) : cmpN L M = cmpLab (L.take L.length).reverse (M.take M.length).reverse := by rw [List.take_length, List.take_length]; rfl

/-- Are the last labels of L those of M? -/
def undL (L M : List ByteArray) : Bool := decide (M.length ≤ L.length ∧ L.drop (L.length - M.length) = M)
theorem undL_iff (L M : List ByteArray) : undL L M = true ↔ ∃ k, k ≤ L.length ∧ L.drop k = M := by
  unfold undL
  rw [decide_eq_true_eq]
  constructor
  · rintro ⟨_, h2⟩
    exact ⟨_, by omega, h2⟩
  · rintro ⟨k, hk, rfl⟩
    rw [List.length_drop]
    refine ⟨by omega, ?_⟩
    rw [show L.length - (L.length - k) = k by omega]
theorem undL_refl (L : List ByteArray) : undL L L = true := (undL_iff L L).2 ⟨0, by omega, rfl⟩
theorem undL_nil (L : List ByteArray) : undL L [] = true := (undL_iff L []).2 ⟨L.length, by omega, by simp⟩
theorem undL_tail {L : List ByteArray} {a : ByteArray} {M : List ByteArray} (h : undL L (a :: M) = true) : undL L M = true := by
  obtain ⟨k, hk, h⟩ := (undL_iff _ _).1 h
  refine (undL_iff _ _).2 ⟨k + 1, ?_, ?_⟩
  · have := congrArg List.length h
    simp at this
    omega
  · rw [← List.drop_drop, h]
    rfl
theorem undL_drop {L M : List ByteArray} (h : undL L M = true) (k : Nat) : undL L (M.drop k) = true := by
  obtain ⟨j, hj, rfl⟩ := (undL_iff _ _).1 h
  rw [List.drop_drop]
  by_cases h : j + k ≤ L.length
  · exact (undL_iff _ _).2 ⟨_, h, rfl⟩
  · rw [List.drop_eq_nil_of_le (by omega)]; exact undL_nil L

/-- The longest end of L that all are under. -/
def comN : List ByteArray → List (List ByteArray) → List ByteArray
  | [], _ => []
  | a :: L, Ms => if Ms.all (fun M => undL M (a :: L)) = true then a :: L else comN L Ms
theorem comN_yes {L : List ByteArray} {Ms : List (List ByteArray)} (h : Ms.all (fun M => undL M L) = true) : comN L Ms = L := by
  cases L with
  | nil => rfl
  | cons a L => rw [comN, if_pos h]
theorem comN_no {L : List ByteArray} {Ms : List (List ByteArray)} (h : Ms.all (fun M => undL M L) = false) : comN L Ms = comN L.tail Ms := by
  cases L with
  | nil => rfl
  | cons a L => rw [comN, h]; rfl
theorem comN_drop (L : List ByteArray) (Ms : List (List ByteArray)) : ∃ k, k ≤ L.length ∧ comN L Ms = L.drop k ∧ Ms.all (fun M => undL M (L.drop k)) = true := by
  induction L with
  | nil => exact ⟨0, by simp, rfl, by simp only [List.drop_nil, List.all_eq_true]; intro M _; exact undL_nil M⟩
  | cons a L ih =>
    cases h : Ms.all (fun M => undL M (a :: L))
    · obtain ⟨k, hk, h1, h2⟩ := ih
      exact ⟨k + 1, by simp; omega, by rw [comN_no h]; exact h1, h2⟩
    · exact ⟨0, by simp, comN_yes h, h⟩
theorem comN_nil (L : List ByteArray) : comN L [] = L := comN_yes rfl
/-- One more. -/
theorem comN_more (L : List ByteArray) (A : List (List ByteArray)) (M : List ByteArray) : comN L (A ++ [M]) = comN (comN L A) [M] := by
  induction L with
  | nil => rfl
  | cons a L ih =>
    cases h : A.all (fun M => undL M (a :: L))
    · have h2 : (A ++ [M]).all (fun M => undL M (a :: L)) = false := by rw [List.all_append, h]; rfl
      rw [comN_no h, comN_no h2]
      exact ih
    · rw [comN_yes h]
      cases h3 : undL M (a :: L)
      · have h2 : (A ++ [M]).all (fun M => undL M (a :: L)) = false := by rw [List.all_append, h]; simp [h3]
        have h4 : [M].all (fun M => undL M (a :: L)) = false := by simp [h3]
        rw [comN_no h2, comN_no h4]
        -- all that were under the longer one are under the shorter
        have key : ∀ N : List ByteArray, A.all (fun M => undL M N) = true → comN N (A ++ [M]) = comN N [M] := by
          intro N
          induction N with
          | nil => intro _; rfl
          | cons b N ihN =>
            intro hN
            have hN2 : A.all (fun M => undL M N) = true := by
              rw [List.all_eq_true] at hN ⊢
              intro x hx
              exact undL_tail (hN x hx)
            cases h5 : undL M (b :: N)
            · rw [comN_no (show (A ++ [M]).all (fun M => undL M (b :: N)) = false by rw [List.all_append, hN]; simp [h5]), comN_no (show [M].all (fun M => undL M (b :: N)) = false by simp [h5])]
              exact ihN hN2
            · rw [comN_yes (show (A ++ [M]).all (fun M => undL M (b :: N)) = true by rw [List.all_append, hN]; simp [h5]), comN_yes (show [M].all (fun M => undL M (b :: N)) = true by simp [h5])]
        apply key
        rw [List.all_eq_true] at h ⊢
        intro x hx
        exact undL_tail (h x hx)
      · have h2 : (A ++ [M]).all (fun M => undL M (a :: L)) = true := by rw [List.all_append, h]; simp [h3]
        have h4 : [M].all (fun M => undL M (a :: L)) = true := by simp [h3]
        rw [comN_yes h2, comN_yes h4]
end Go.Proofs.Ythfnphcefkdgbaa
end

section
namespace Go.Proofs.Ythfnphcefkdgbaa
open Go.RowKit

set_option maxHeartbeats 1000000 in
set_option maxRecDepth 100000 in
theorem cmpStr_any (a b : ByteArray) (w : World) :
    Calls Try.prog 125 #[.string a, .string b] w fun e w' => e = .returned (.int .i64 (Lib.compareBytes a.data.toList b.data.toList)) ∧ w' = w := by
  go_enter Try.func125, Try.ntmps125
  go_wp2
  rw [run_callFunc_extern Try.func136 (by kernel_rfl) (by kernel_rfl) (by kernel_rfl) (e := Extern.BytealgCompare.compare) (by kernel_rfl), Lib.run_compareString]
  simp only [Result.andThen]
  rw [Oper.upon_value]
  go_wp2
  go_ret
  exact ⟨rfl, rfl⟩

theorem scompare_any (a b : ByteArray) (w : World) :
    Calls Try.prog 109 #[.string a, .string b] w fun e w' => e = .returned (.int .i64 (Lib.compareBytes a.data.toList b.data.toList)) ∧ w' = w := by
  go_enter Try.func109, Try.ntmps109
  go_wp2_with (go_at_call 125; refine (cmpStr_any _ _ _).mono ?_; rintro e w' ⟨rfl, rfl⟩)
  go_ret
  exact ⟨rfl, rfl⟩

theorem icompare_any (x y : Int) (w : World) :
    Calls Try.prog 80 #[.int .i64 x, .int .i64 y] w fun e w' => e = .returned (.int .i64 (Lib.compareInt x y)) ∧ w' = w := by
  go_enter Try.func80, Try.ntmps80
  go_wp2
  all_goals (go_ret; refine ⟨?_, rfl⟩; unfold Lib.compareInt; (repeat' split) <;> first | rfl | (exfalso; omega))

theorem cmpB_ways : ∀ (x y : List UInt8), (Op.bytesLess x y = true ∧ Lib.compareBytes x y = -1) ∨ (Op.bytesLess x y = false ∧ (!x == y) = true ∧ Lib.compareBytes x y = 1) ∨ (Op.bytesLess x y = false ∧ (!x == y) = false ∧ Lib.compareBytes x y = 0)
  | [], [] => by simp [Op.bytesLess, Lib.compareBytes]
  | [], _ :: _ => by simp [Op.bytesLess, Lib.compareBytes]
  | _ :: _, [] => by simp [Op.bytesLess, Lib.compareBytes]
  | a :: x, b :: y => by
    have ih := cmpB_ways x y
    by_cases h1 : a < b
    · left; simp [Op.bytesLess, Lib.compareBytes, h1]
    · by_cases h2 : b < a
      · right; left
        have hne : ¬ a = b := fun h => by subst h; exact h1 h2
        simp [Op.bytesLess, Lib.compareBytes, h1, h2, hne]
      · have e : a = b := by
          have k1 : ¬ a.toNat < b.toNat := fun h => h1 (UInt8.lt_iff_toNat_lt.2 h)
          have k2 : ¬ b.toNat < a.toNat := fun h => h2 (UInt8.lt_iff_toNat_lt.2 h)
          exact UInt8.toNat_inj.1 (by omega)
        subst e
        simpa [Op.bytesLess, Lib.compareBytes] using ih
end Go.Proofs.Ythfnphcefkdgbaa
end

section
namespace Go.Proofs.Ythfnphcefkdgbaa
open Go.RowKit

def parS : List ByteArray → ByteArray
  | [] => ⟨#[]⟩
  | _ :: M => nameB M
def parB : List ByteArray → Bool
  | [] => false
  | _ :: _ => true
theorem root_toList (L : List ByteArray) (hL : OkL L) : ((nameB L).toList == [0]) = L.isEmpty := by
  rw [Lib.toList_data]
  show (nameL L == [0]) = _
  cases L with
  | nil => rfl
  | cons s L =>
    obtain ⟨g1, g2, _⟩ := hL 0 (by simp)
    rw [tx_cons_zero] at g1 g2
    show _ = false
    rw [beq_eq_false_iff_ne]
    intro h
    rw [nameL_cons] at h
    have h0 : UInt8.ofNat s.size = 0 := (List.cons.inj h).1
    have := congrArg UInt8.toNat h0
    rw [UInt8.toNat_ofNat_of_lt' (by have : UInt8.size = 256 := rfl; omega)] at this
    have h9 : (0 : UInt8).toNat = 0 := rfl
    omega

set_option maxRecDepth 100000 in
theorem parent_yes (L : List ByteArray) (w : World) (hL : OkL L) (hz : off L L.length ≤ 254) : Calls Try.prog 62 #[.string (nameB L)] w fun e w' => e = .returned (.tuple #[.string (parS L), .bool (parB L)]) ∧ w = w' := by
  have hr := root_toList L hL
  have hm := labels_may hL hz
  have hsz := nameB_size L
  cases L with
  | nil =>
    have hr' : ((nameB []).toList == [0]) = true := hr
    obtain ⟨s, hs⟩ : ∃ s, nameB [] = s := ⟨_, rfl⟩
    rw [hs] at hr' ⊢
    clear hr hm hsz hz hL hs
    go_enter Try.func62, Try.ntmps62
    go_wp2
    go_ret2
    exact ⟨rfl, rfl⟩
  | cons t M =>
    have hr' : ((nameB (t :: M)).toList == [0]) = false := hr
    have hb := name_byte (t :: M) 0 (by simp) (by obtain ⟨_, g, _⟩ := hL 0 (by simp); omega)
    have hx := name_suffix (t :: M) 1 (by simp)
    have ho : off (t :: M) 1 = 1 + t.size := by rw [off_succ, tx_cons_zero, off_zero, Nat.zero_add]
    have hm1 := off_mono (t :: M) (show 1 ≤ (t :: M).length by simp)
    rw [tx_cons_zero, off_zero] at hb
    rw [ho] at hx hm1
    have hx' : (nameB (t :: M)).extract (1 + t.size) (nameB (t :: M)).size = nameB M := hx
    obtain ⟨s, hs⟩ : ∃ s, nameB (t :: M) = s := ⟨_, rfl⟩
    obtain ⟨k, hk⟩ : ∃ k, t.size = k := ⟨_, rfl⟩
    obtain ⟨z, hzz⟩ : ∃ z, off (t :: M) (t :: M).length = z := ⟨_, rfl⟩
    rw [hzz] at hm1 hz hsz
    rw [hk] at hb hx' hm1
    rw [hs] at hr' hb hx' hm hsz
    rw [hsz] at hx'
    have HM := Lib.hid hm
    have HX := Lib.hid hx'
    have hlt : 0 < s.size := by omega
    have hg := (byte_get hlt).trans hb
    show Calls Try.prog _ _ _ fun e w' => e = .returned (.tuple #[.string (nameB M), .bool true]) ∧ w = w'
    rw [hs]
    clear hr hm hx hx' hzz hk hs ho hb hL
    go_enter Try.func62, Try.ntmps62
    go_wp2_with (first | (go_at_call 61; refine (nmay_any _ _ (by omega)).mono ?_; rintro e w' ⟨rfl, rfl⟩; rw [HM.out]))
    go_ret2
    rw [HX.out]
    exact ⟨rfl, rfl⟩
theorem parent_no (s : ByteArray) (w : World) (h : mayN s = false) (hs : s.size ≤ 1000000) : Calls Try.prog 62 #[.string s] w fun e w' => e = .returned (.tuple #[.string ⟨#[]⟩, .bool false]) ∧ w = w' := by
  have HM := Lib.hid h
  clear h
  cases hr : s.toList == [0]
  all_goals
    go_enter Try.func62, Try.ntmps62
    go_wp2_with (first | (go_at_call 61; refine (nmay_any _ _ (by omega)).mono ?_; rintro e w' ⟨rfl, rfl⟩; rw [HM.out]))
    go_ret2
    exact ⟨rfl, rfl⟩
set_option maxRecDepth 100000 in
theorem rparent_yes (L : List ByteArray) (w : World) (hL : OkL L) (hz : off L L.length ≤ 254) : Calls Try.prog 29 #[.string (nameB L)] w fun e w' => e = .returned (.tuple #[.string (parS L), .bool (parB L)]) ∧ w = w' := by
  have hr := root_toList L hL
  have hm := labels_may hL hz
  have hsz := nameB_size L
  cases L with
  | nil =>
    have hr' : ((nameB []).toList == [0]) = true := hr
    obtain ⟨s, hs⟩ : ∃ s, nameB [] = s := ⟨_, rfl⟩
    rw [hs] at hr' hm hsz ⊢
    have HM := Lib.hid hm
    have hs2 : s.size ≤ 1000000 := by rw [hsz]; decide
    clear hr hm hsz hz hL hs
    go_enter Try.func29, Try.ntmps29
    go_wp2_with (first | (go_at_call 25; refine (rmay_any _ _ (by omega)).mono ?_; rintro e w' ⟨rfl, rfl⟩; rw [HM.out]))
    go_ret2
    exact ⟨rfl, rfl⟩
  | cons t M =>
    have hr' : ((nameB (t :: M)).toList == [0]) = false := hr
    have hb := name_byte (t :: M) 0 (by simp) (by obtain ⟨_, g, _⟩ := hL 0 (by simp); omega)
    have hx := name_suffix (t :: M) 1 (by simp)
    have ho : off (t :: M) 1 = 1 + t.size := by rw [off_succ, tx_cons_zero, off_zero, Nat.zero_add]
    have hm1 := off_mono (t :: M) (show 1 ≤ (t :: M).length by simp)
    rw [tx_cons_zero, off_zero] at hb
    rw [ho] at hx hm1
    have hx' : (nameB (t :: M)).extract (1 + t.size) (nameB (t :: M)).size = nameB M := hx
    obtain ⟨s, hs⟩ : ∃ s, nameB (t :: M) = s := ⟨_, rfl⟩
    obtain ⟨k, hk⟩ : ∃ k, t.size = k := ⟨_, rfl⟩
    obtain ⟨z, hzz⟩ : ∃ z, off (t :: M) (t :: M).length = z := ⟨_, rfl⟩
    rw [hzz] at hm1 hz hsz
    rw [hk] at hb hx' hm1
    rw [hs] at hr' hb hx' hm hsz
    rw [hsz] at hx'
    have HM := Lib.hid hm
    have HX := Lib.hid hx'
    have hlt : 0 < s.size := by omega
    have hg := (byte_get hlt).trans hb
    show Calls Try.prog _ _ _ fun e w' => e = .returned (.tuple #[.string (nameB M), .bool true]) ∧ w = w'
    rw [hs]
    clear hr hm hx hx' hzz hk hs ho hb hL
    go_enter Try.func29, Try.ntmps29
    go_wp2_with (first | (go_at_call 25; refine (rmay_any _ _ (by omega)).mono ?_; rintro e w' ⟨rfl, rfl⟩; rw [HM.out]))
    go_ret2
    rw [HX.out]
    exact ⟨rfl, rfl⟩
theorem rparent_no (s : ByteArray) (w : World) (h : mayN s = false) (hs : s.size ≤ 1000000) : Calls Try.prog 29 #[.string s] w fun e w' => e = .returned (.tuple #[.string ⟨#[]⟩, .bool false]) ∧ w = w' := by
  have HM := Lib.hid h
  clear h
  go_enter Try.func29, Try.ntmps29
  go_wp2_with (first | (go_at_call 25; refine (rmay_any _ _ (by omega)).mono ?_; rintro e w' ⟨rfl, rfl⟩; rw [HM.out]))
  go_ret2
  exact ⟨rfl, rfl⟩
end Go.Proofs.Ythfnphcefkdgbaa
end

section
namespace Go.Proofs.Ythfnphcefkdgbaa
open Go.RowKit

/-- The labels of a name. -/
noncomputable def labs (s : ByteArray) : List ByteArray := if h : mayN s = true then Classical.choose (may_labels h) else []
theorem labs_spec {s : ByteArray} (h : mayN s = true) : OkL (labs s) ∧ off (labs s) (labs s).length ≤ 254 ∧ s = nameB (labs s) := by
  have h2 := Classical.choose_spec (may_labels h)
  rw [labs, dif_pos h]
  exact h2
theorem labs_no {s : ByteArray} (h : mayN s = false) : labs s = [] := by rw [labs, dif_neg (by rw [h]; simp)]
theorem labs_name {L : List ByteArray} (hL : OkL L) (hz : off L L.length ≤ 254) : labs (nameB L) = L := by
  obtain ⟨h1, h2, h3⟩ := labs_spec (labels_may hL hz)
  exact nameB_inj h1 hL h3.symm
theorem labs_eq {s : ByteArray} {L : List ByteArray} (hL : OkL L) (hz : off L L.length ≤ 254) (h : s = nameB L) : labs s = L := by rw [h]; exact labs_name hL hz
/-- The order of any two texts. -/
noncomputable def cmpS (a b : ByteArray) : Int := if mayN a = true then (if mayN b = true then cmpN (labs a) (labs b) else -1) else if mayN b = true then 1 else cmpB a b
noncomputable def undS (a b : ByteArray) : Bool := mayN a && mayN b && undL (labs a) (labs b)
end Go.Proofs.Ythfnphcefkdgbaa
end

section
namespace Go.Proofs.Ythfnphcefkdgbaa
open Go.RowKit

theorem hasSuffix_any (s p : ByteArray) (w : World) (hs : s.size ≤ 9223372036854775807) :
    Calls Try.prog 117 #[.string s, .string p] w fun e w' => e = .returned (.bool (Lib.hasSuffix s.data.toList p.data.toList)) ∧ w' = w := by
  rw [← Lib.hasSuffix_raw]
  have hlo : p.size ≤ s.size → ((s.size : Int) - (p.size : Int) + 9223372036854775808) % 18446744073709551616 - 9223372036854775808 = ((s.size - p.size : Nat) : Int) := fun _ => by omega
  go_enter Try.func117, Try.ntmps117
  go_wp2
  · have h : p.size ≤ s.size := by assumption
    go_ret
    refine ⟨?_, rfl⟩
    show Ending.returned (Value.bool ((s.extract (s.size - p.size) s.size).toList == p.toList)) = _
    simp [h]
  · have h : ¬ p.size ≤ s.size := by assumption
    go_ret
    refine ⟨?_, rfl⟩
    show Ending.returned (Value.bool false) = _
    simp [h]

theorem nameL_length (L : List ByteArray) : (nameL L).length = off L L.length + 1 := by rw [nameL]; simp [off]
theorem off_lt (L : List ByteArray) (hL : OkL L) {i j : Nat} (h : i < j) (hj : j ≤ L.length) : off L i < off L j := by
  have h1 := off_succ L i
  obtain ⟨g, _, _⟩ := hL i (by omega)
  have h2 := off_mono L (show i + 1 ≤ j by omega)
  omega
theorem drop_ok {L : List ByteArray} (hL : OkL L) (k : Nat) : OkL (L.drop k) := by
  intro j hj
  have e : tx (L.drop k) j = tx L (k + j) := by rw [tx, tx, List.getD_eq_getElem?_getD, List.getD_eq_getElem?_getD, List.getElem?_drop]
  rw [e]
  exact hL _ (by rw [List.length_drop] at hj; omega)
/-- Under by bytes: an end of the bytes that begins where a label begins. -/
theorem und_suffix {L M : List ByteArray} (h : undL L M = true) : Lib.hasSuffix (nameL L) (nameL M) = true := by
  obtain ⟨k, hk, rfl⟩ := (undL_iff _ _).1 h
  have := name_drop L k hk
  show (nameL (L.drop k)).isSuffixOf (nameL L) = true
  rw [List.isSuffixOf_iff_suffix, ← this]
  exact List.drop_suffix _ _
theorem suffix_drop {L M : List ByteArray} (h : Lib.hasSuffix (nameL L) (nameL M) = true) : (nameL M).length ≤ (nameL L).length ∧ (nameL L).drop ((nameL L).length - (nameL M).length) = nameL M := by
  have h1 : nameL M <:+ nameL L := List.isSuffixOf_iff_suffix.1 h
  obtain ⟨t, ht⟩ := h1
  refine ⟨by rw [← ht]; simp, ?_⟩
  rw [← ht]
  simp
theorem suffix_und {L M : List ByteArray} (hL : OkL L) (hM : OkL M) (h : Lib.hasSuffix (nameL L) (nameL M) = true) {k : Nat} (hk : k ≤ L.length) (he : off L k + off M M.length = off L L.length) : undL L M = true := by
  obtain ⟨h1, h2⟩ := suffix_drop h
  refine (undL_iff _ _).2 ⟨k, hk, ?_⟩
  have h3 := name_drop L k hk
  rw [nameL_length, nameL_length, show off L L.length + 1 - (off M M.length + 1) = off L k by omega] at h2
  have h4 : nameL (L.drop k) = nameL M := h3.symm.trans h2
  exact nameL_inj (drop_ok hL k) hM h4
theorem und_off {L M : List ByteArray} (h : undL L M = true) : ∃ k, k ≤ L.length ∧ off L k + off M M.length = off L L.length := by
  obtain ⟨k, hk, rfl⟩ := (undL_iff _ _).1 h
  refine ⟨k, hk, ?_⟩
  have h3 := congrArg List.length (name_drop L k hk)
  rw [nameL_length, List.length_drop] at h3
  have h4 : (nameB L).data.toList.length = off L L.length + 1 := by rw [size_data, nameB_size]
  have := off_mono L hk
  omega

set_option maxRecDepth 100000 in
set_option maxHeartbeats 800000 in
theorem under_yy (L M : List ByteArray) (w : World) (hL : OkL L) (hM : OkL M) (hz : off L L.length ≤ 254) (hy : off M M.length ≤ 254) : Calls Try.prog 95 #[.string (nameB L), .string (nameB M)] w fun e w' => e = .returned (.bool (undL L M)) ∧ w = w' := by
  have hm1 := labels_may hL hz
  have hm2 := labels_may hM hy
  have hs1 := nameB_size L
  have hs2 := nameB_size M
  have hsf : Lib.hasSuffix (nameB L).data.toList (nameB M).data.toList = Lib.hasSuffix (nameL L) (nameL M) := rfl
  cases hf : Lib.hasSuffix (nameL L) (nameL M)
  · have hu : undL L M = false := by
      cases h : undL L M
      · rfl
      · rw [und_suffix h] at hf; cases hf
    rw [hf] at hsf
    rw [hu]
    obtain ⟨a, ha⟩ : ∃ s, nameB L = s := ⟨_, rfl⟩
    obtain ⟨b, hb⟩ : ∃ s, nameB M = s := ⟨_, rfl⟩
    rw [ha] at hm1 hs1 hsf
    rw [hb] at hm2 hs2 hsf
    rw [ha, hb]
    have HM1 := Lib.hid hm1
    have HM2 := Lib.hid hm2
    have HSF := Lib.hid hsf
    clear hm1 hm2 hsf hf hu hL hM ha hb
    go_enter Try.func95, Try.ntmps95
    go_wp2_with fail
    refine (nmay_any _ _ (by omega)).mono ?_; rintro e w' ⟨rfl, rfl⟩
    rw [HM1.out]
    go_wp2_with fail
    refine (nmay_any _ _ (by omega)).mono ?_; rintro e w' ⟨rfl, rfl⟩
    rw [HM2.out]
    go_wp2_with fail
    refine (hasSuffix_any _ _ _ (by omega)).mono ?_; rintro e w' ⟨rfl, rfl⟩
    rw [HSF.out]
    go_wp2
    go_ret
    exact ⟨rfl, rfl⟩
  · rw [hf] at hsf
    have hle := (suffix_drop hf).1
    rw [nameL_length, nameL_length] at hle
    have hfin : ∀ k, k ≤ L.length → off L L.length - off M M.length ≤ off L k → (∀ j, j < k → off L j < off L L.length - off M M.length) → undL L M = decide (off L k = off L L.length - off M M.length) := by
      intro k hk h1 h2
      by_cases e : off L k = off L L.length - off M M.length
      · rw [dT e]
        exact suffix_und hL hM hf hk (by omega)
      · rw [dF e]
        cases h : undL L M
        · rfl
        · obtain ⟨j, hj, h3⟩ := und_off h
          exfalso
          by_cases hjk : j < k
          · have := h2 j hjk; omega
          · have hjk' : j = k ∨ k < j := by omega
            rcases hjk' with rfl | hjk'
            · omega
            · have := off_lt L hL hjk' hj
              omega
    have hoffp := fun (k : Nat) (h1 : k < L.length) => name_byte L k h1 (by obtain ⟨_, g, _⟩ := hL k h1; omega)
    have hoffl := fun (k : Nat) (h1 : k < L.length) => off_lt L hL (show k < k + 1 by omega) h1
    obtain ⟨a, ha⟩ : ∃ s, nameB L = s := ⟨_, rfl⟩
    obtain ⟨b, hb⟩ : ∃ s, nameB M = s := ⟨_, rfl⟩
    obtain ⟨n, hn⟩ : ∃ n, L.length = n := ⟨_, rfl⟩
    obtain ⟨d, hd⟩ : ∃ d, off L L.length - off M M.length = d := ⟨_, rfl⟩
    have hs12 : a.size = d + b.size := by rw [← ha, ← hb, hs1, hs2]; omega
    have hsa : a.size ≤ 255 := by rw [← ha, hs1]; omega
    have hb0 : 0 < b.size := by rw [← hb, hs2]; omega
    have hdn : d ≤ off L n := by rw [← hd, ← hn]; omega
    have hsn : a.size = off L n + 1 := by rw [← ha, hs1, hn]
    rw [hd, hn] at hfin
    rw [hn, ha] at hoffp
    rw [hn] at hoffl
    rw [ha, hb] at hsf ⊢
    rw [ha] at hm1
    rw [hb] at hm2
    have HM1 := Lib.hid hm1
    have HM2 := Lib.hid hm2
    have HSF := Lib.hid hsf
    have HF := Lib.hid hfin
    have HP := Lib.hid hoffp
    have HO := Lib.hid hoffl
    clear hm1 hm2 hsf hf hL hM ha hb hs1 hs2 hz hy hle hfin hoffp hoffl hd hn
    go_enter Try.func95, Try.ntmps95
    go_wp2_with fail
    refine (nmay_any _ _ (by omega)).mono ?_; rintro e w' ⟨rfl, rfl⟩
    rw [HM1.out]
    go_wp2_with fail
    refine (nmay_any _ _ (by omega)).mono ?_; rintro e w' ⟨rfl, rfl⟩
    rw [HM2.out]
    go_wp2_with fail
    refine (hasSuffix_any _ _ _ (by omega)).mono ?_; rintro e w' ⟨rfl, rfl⟩
    rw [HSF.out]
    go_wp2_with fail
    go_loop [5] (fun x => ∃ k : Nat, k ≤ n ∧ x = .int .i64 (off L k : Nat) ∧ ∀ j, j < k → off L j < d) (fun x => a.size - (intOf x).toNat)
    case atStart => exact ⟨0, Nat.zero_le _, rfl, fun j hj => absurd hj (by omega)⟩
    case round =>
      obtain ⟨k, hk, rfl, hj⟩ := hrel
      have HJ := Lib.hid hj
      clear hj
      by_cases hlt : off L k < d
      · have hkn : k < n := by
          by_cases e : k = n
          · subst e; omega
          · omega
        have hb := HP.out k hkn
        have hs := off_succ L k
        have hm := off_mono L (show k + 1 ≤ n by omega)
        have HJ2 := Lib.hid (show ∀ j, j < k + 1 → off L j < d by
          intro j hj
          by_cases e : j = k
          · subst e; exact hlt
          · exact HJ.out j (by omega))
        obtain ⟨p, hp⟩ : ∃ p, off L k = p := ⟨_, rfl⟩
        obtain ⟨t, ht⟩ : ∃ t, (tx L k).size = t := ⟨_, rfl⟩
        obtain ⟨p2, hp2⟩ : ∃ p, off L (k + 1) = p := ⟨_, rfl⟩
        rw [hp] at hlt
        simp only [hp, ht, hp2] at hb hs hm ⊢
        have hlt2 : p < a.size := by omega
        have hg := (byte_get hlt2).trans hb
        have HP2 := Lib.hid hp2
        have hbl := byteAt_lt a p
        rw [hb] at hbl
        have t1 : (p : Int) < (a.size : Int) - (b.size : Int) := by omega
        clear hp ht hp2 hb
        go_wp2
        go_round
        case rel => exact ⟨k + 1, by omega, by rw [HP2.out, hs]; go_num, HJ2.out⟩
        case measure => simp [intOf]; omega
      · have hv := HF.out k hk (by omega) HJ.out
        have HV := Lib.hid hv
        obtain ⟨p, hp⟩ : ∃ p, off L k = p := ⟨_, rfl⟩
        rw [hp] at HV hlt
        simp only [hp]
        have t1 : ¬ (p : Int) < (a.size : Int) - (b.size : Int) := by omega
        clear hv hp
        go_wp2
        go_ret
        refine ⟨ret_bool ?_, rfl⟩
        rw [HV.out, Bool.eq_iff_iff]
        simp
        omega
end Go.Proofs.Ythfnphcefkdgbaa
end

section
namespace Go.Proofs.Ythfnphcefkdgbaa
open Go.RowKit

theorem drewN_add (w : World) (a b : Nat) : (w.drewN a).drewN b = w.drewN (a + b) := by
  induction b with
  | zero => rfl
  | succ b ih => exact congrArg World.drew ih
theorem label_quiet (L : List ByteArray) (k : Nat) (w : World) (q : Nat) (hL : OkL L) (hk : k < L.length) (hz : off L L.length ≤ 254) (n : Nat) : Calls Try.prog 111 #[.string (nameB L), .int .u8 (off L k : Nat)] (w.drewN (q + n)) fun e w' => e = .returned (.string (tx L k)) ∧ ∃ m, w' = w.drewN (q + m) :=
  (label_any L k (w.drewN (q + n)) hL hk hz).mono fun _ _ ⟨h1, h2⟩ => ⟨h1, n, h2.symm⟩
theorem scompare_quiet (a b : ByteArray) (w : World) (q n : Nat) : Calls Try.prog 109 #[.string a, .string b] (w.drewN (q + n)) fun e w' => e = .returned (.int .i64 (cmpB a b)) ∧ ∃ m, w' = w.drewN (q + m) :=
  (scompare_any a b (w.drewN (q + n))).mono fun _ _ ⟨h1, h2⟩ => ⟨h1, n, h2⟩

set_option maxRecDepth 100000 in
set_option maxHeartbeats 800000 in
theorem compare_yy (L M : List ByteArray) (w : World) (hL : OkL L) (hM : OkL M) (hz : off L L.length ≤ 254) (hy : off M M.length ≤ 254) : Calls Try.prog 79 #[.string (nameB L), .string (nameB M)] w fun e w' => e = .returned (.int .i64 (cmpN L M)) ∧ Below w.heap.size w w' := by
  have hm1 := labels_may hL hz
  have hm2 := labels_may hM hy
  have hs1 := nameB_size L
  have hs2 := nameB_size M
  have hg1 := off_ge L hL L.length (Nat.le_refl _)
  have hg2 := off_ge M hM M.length (Nat.le_refl _)
  have HM1 := Lib.hid hm1
  have HM2 := Lib.hid hm2
  have HL := Lib.hid hL
  have HMM := Lib.hid hM
  obtain ⟨a, ha⟩ : ∃ s, nameB L = s := ⟨_, rfl⟩
  obtain ⟨b, hb⟩ : ∃ s, nameB M = s := ⟨_, rfl⟩
  obtain ⟨n, hn⟩ : ∃ n, L.length = n := ⟨_, rfl⟩
  obtain ⟨m, hm⟩ : ∃ n, M.length = n := ⟨_, rfl⟩
  have hcm := cmpN_all L M
  rw [hn, hm] at hcm
  have HCM := Lib.hid hcm
  have HA := Lib.hid ha
  have HB := Lib.hid hb
  have HN := Lib.hid hn
  have HMn := Lib.hid hm
  rw [ha] at HM1 hs1
  rw [hb] at HM2 hs2
  rw [ha, hb]
  rw [hn] at hz hg1 hs1
  rw [hm] at hy hg2 hs2
  clear hm1 hm2 hL hM ha hb hn hm hcm
  go_enter Try.func79, Try.ntmps79
  go_wp2_with fail
  refine (nmay_any _ _ (by omega)).mono ?_; rintro e w' ⟨rfl, rfl⟩
  rw [HM1.out]
  go_wp2_with fail
  refine (nmay_any _ _ (by omega)).mono ?_; rintro e w' ⟨rfl, rfl⟩
  rw [HM2.out]
  go_wp2_with fail
  have hst := starts_any L w HL.out (by rw [HN.out]; exact hz)
  rw [HA.out, HN.out] at hst
  refine hst.mono ?_; rintro e w1 ⟨rfl, hb⟩
  obtain ⟨w2, hsto, ha2, hb2⟩ := store_arr (arr_new w1) (stF L n) (hb.alloc hb.size (.cells Try.zeroCells165 165)) hb.size
  have HA2 := Lib.hid ha2
  have HB2 := Lib.hid hb2
  clear hb hst ha2 hb2
  go_wp2_with fail
  have hst := starts_any M w2 HMM.out (by rw [HMn.out]; exact hy)
  rw [HB.out, HMn.out] at hst
  refine hst.mono ?_; rintro e w3 ⟨rfl, hb⟩
  have hb23 := HB2.out.trans (hb.mono HB2.out.size)
  clear hsto
  obtain ⟨w4, hsto, ha4, hb4⟩ := store_arr (arr_new w3) (stF M m) (hb23.alloc hb23.size (.cells Try.zeroCells165 165)) hb23.size
  obtain ⟨w5, hsto5, _, hb5⟩ := store_arr (arr_new w3) (stF M m) ((Below.refl w3.heap.size w3).alloc (Nat.le_refl _) (.cells Try.zeroCells165 165)) (Nat.le_refl _)
  have e45 : w5 = w4 := by
    rw [hsto] at hsto5
    injection hsto5 with _ h
    exact h.symm
  subst e45
  have HA4 := Lib.hid ha4
  have HB4 := Lib.hid hb4
  have HA24 := Lib.hid ((HA2.out.below hb).below hb5)
  clear hst hb hb23 ha4 hb4 hb5 hsto5 HA2 HB2
  go_wp2_with fail
  obtain ⟨q1, hq⟩ : ∃ q, w1.heap.size = q := ⟨_, rfl⟩
  obtain ⟨q2, hq2⟩ : ∃ q, w3.heap.size = q := ⟨_, rfl⟩
  rw [hq] at HA24
  rw [hq2] at HA4
  rw [hq, hq2]
  clear hsto hq hq2
  go_loopw [8, 10] (fun x y wr => ∃ i j q : Nat, i ≤ n ∧ j ≤ m ∧ x = .int .i64 i ∧ y = .int .i64 j ∧ wr = w5.drewN q ∧ Hid (cmpN L M = cmpLab (L.take i).reverse (M.take j).reverse)) (fun x _ _ => (intOf x).toNat)
  case atStart => exact ⟨n, m, 0, Nat.le_refl _, Nat.le_refl _, rfl, rfl, rfl, HCM.out⟩
  case round =>
    obtain ⟨i, j, q, hi, hj, rfl, rfl, rfl, hc⟩ := hrel
    by_cases h0 : i = 0 ∨ j = 0
    · have hce := cmp_end L M i j (by rw [HN.out]; exact hi) (by rw [HMn.out]; exact hj) h0
      have HV := Lib.hid (hc.out.trans hce)
      have hd : decide (0 < i) = false ∨ decide (0 < i) = true ∧ decide (0 < j) = false := by
        simp only [decide_eq_true_eq, decide_eq_false_iff_not]; omega
      clear hc hce h0
      rcases hd with d1 | ⟨d1, d2⟩
      all_goals
        go_wp2_with (go_at_call 80; refine (icompare_any _ _ _).mono ?_; rintro e w' ⟨rfl, rfl⟩)
        go_returns
        exact ⟨ret_int HV.out.symm, below_drewN HB4.out q⟩
    · obtain ⟨i', rfl⟩ : ∃ i', i = i' + 1 := ⟨i - 1, by omega⟩
      obtain ⟨j', rfl⟩ : ∃ j', j = j' + 1 := ⟨j - 1, by omega⟩
      have hce := cmp_step L M i' j' (by rw [HN.out]; exact hi) (by rw [HMn.out]; exact hj)
      have c1 := (HA24.out i' (by omega)).1
      have c2 := (HA4.out j' (by omega)).1
      rw [stF, if_pos (by omega)] at c1 c2
      have hl1 := label_quiet L i' w5 q HL.out (by rw [HN.out]; exact hi) (by rw [HN.out]; exact hz)
      have hl2 := label_quiet M j' w5 q HMM.out (by rw [HMn.out]; exact hj) (by rw [HMn.out]; exact hy)
      rw [HA.out] at hl1
      rw [HB.out] at hl2
      obtain ⟨x, hx⟩ : ∃ x, tx L i' = x := ⟨_, rfl⟩
      obtain ⟨y, hy⟩ : ∃ x, tx M j' = x := ⟨_, rfl⟩
      rw [hx, hy] at hce
      rw [hx] at hl1
      rw [hy] at hl2
      obtain ⟨p1, hp1⟩ : ∃ p, off L i' = p := ⟨_, rfl⟩
      obtain ⟨p2, hp2⟩ : ∃ p, off M j' = p := ⟨_, rfl⟩
      rw [hp1] at c1 hl1
      rw [hp2] at c2 hl2
      have HL1 := Lib.hid hl1
      have HL2 := Lib.hid hl2
      have i1 : (i' : Int) < 127 := by omega
      have i2 : (j' : Int) < 127 := by omega
      clear hx hy hp1 hp2 hl1 hl2 h0
      obtain ⟨v, hv⟩ : ∃ v, cmpB x y = v := ⟨_, rfl⟩
      have hsq := scompare_quiet x y w5 q
      rw [hv] at hsq hce
      have HSQ := Lib.hid hsq
      clear hsq hv
      by_cases hv0 : v = 0
      · subst hv0
        rw [if_pos rfl] at hce
        have HV := Lib.hid (hc.out.trans hce)
        clear hc hce
        go_wp2_with fail
        go_quiet (first | (go_at_call 111; first | (with_reducible exact HL1.out _) | (with_reducible exact HL2.out _)) | (go_at_call 109; exact HSQ.out _))
        go_wp2
        go_roundw
        case rel => exact ⟨i', j', _, by omega, by omega, by go_num, by go_num, rfl, HV.out⟩
        case measure => simp [intOf]
      · rw [if_neg hv0] at hce
        have HV := Lib.hid (hc.out.trans hce)
        have e0 : (v != 0) = true := nT hv0
        clear hc hce hv0
        go_wp2_with fail
        go_quiet (first | (go_at_call 111; first | (with_reducible exact HL1.out _) | (with_reducible exact HL2.out _)) | (go_at_call 109; exact HSQ.out _))
        go_wp2
        go_returns
        exact ⟨ret_int HV.out.symm, below_drewN HB4.out _⟩

set_option maxRecDepth 100000 in
theorem compare_any (a b : ByteArray) (w : World) (ha : a.size ≤ 1000000) (hb : b.size ≤ 1000000) : Calls Try.prog 79 #[.string a, .string b] w fun e w' => e = .returned (.int .i64 (cmpS a b)) ∧ Below w.heap.size w w' := by
  cases h1 : mayN a
  · cases h2 : mayN b
    · have HV := Lib.hid (show cmpS a b = cmpB a b by rw [cmpS, h1, h2]; rfl)
      have H1 := Lib.hid h1
      have H2 := Lib.hid h2
      clear h1 h2
      go_enter Try.func79, Try.ntmps79
      go_wp2_with fail
      refine (nmay_any _ _ ha).mono ?_; rintro e w' ⟨rfl, rfl⟩
      rw [H1.out]
      go_wp2_with fail
      refine (nmay_any _ _ hb).mono ?_; rintro e w' ⟨rfl, rfl⟩
      rw [H2.out]
      go_wp2_with fail
      refine (scompare_any _ _ _).mono ?_; rintro e w' ⟨rfl, rfl⟩
      go_wp2
      go_ret
      exact ⟨ret_int HV.out.symm, Below.refl _ _⟩
    · have HV := Lib.hid (show cmpS a b = 1 by rw [cmpS, h1, h2]; rfl)
      have H1 := Lib.hid h1
      have H2 := Lib.hid h2
      clear h1 h2
      go_enter Try.func79, Try.ntmps79
      go_wp2_with fail
      refine (nmay_any _ _ ha).mono ?_; rintro e w' ⟨rfl, rfl⟩
      rw [H1.out]
      go_wp2_with fail
      refine (nmay_any _ _ hb).mono ?_; rintro e w' ⟨rfl, rfl⟩
      rw [H2.out]
      go_wp2
      go_ret
      exact ⟨ret_int HV.out.symm, Below.refl _ _⟩
  · cases h2 : mayN b
    · have HV := Lib.hid (show cmpS a b = -1 by rw [cmpS, h1, h2]; rfl)
      have H1 := Lib.hid h1
      have H2 := Lib.hid h2
      clear h1 h2
      go_enter Try.func79, Try.ntmps79
      go_wp2_with fail
      refine (nmay_any _ _ ha).mono ?_; rintro e w' ⟨rfl, rfl⟩
      rw [H1.out]
      go_wp2_with fail
      refine (nmay_any _ _ hb).mono ?_; rintro e w' ⟨rfl, rfl⟩
      rw [H2.out]
      go_wp2
      go_ret
      exact ⟨ret_int HV.out.symm, Below.refl _ _⟩
    · obtain ⟨k1, k2, k3⟩ := labs_spec h1
      obtain ⟨g1, g2, g3⟩ := labs_spec h2
      have hc := compare_yy (labs a) (labs b) w k1 g1 k2 g2
      rw [← k3, ← g3] at hc
      rw [show cmpS a b = cmpN (labs a) (labs b) by rw [cmpS, h1, h2]; rfl]
      exact hc

theorem wraps_i64 (n : Int) (h₀ : 0 ≤ n) (h₁ : n < 2 ^ 62) : IntKind.i64.wrap n = n := by rw [IntKind.wrap_i64]; omega
end Go.Proofs.Ythfnphcefkdgbaa
end

section
namespace Go.Proofs.Ythfnphcefkdgbaa
open Go.RowKit

theorem toList_inj {s t : ByteArray} (h : s.toList = t.toList) : s = t := ba_eq (by rw [← Lib.toList_data, ← Lib.toList_data]; exact h)
set_option maxRecDepth 100000 in
theorem under_any (a b : ByteArray) (w : World) (ha : a.size ≤ 1000000) (hb : b.size ≤ 1000000) : Calls Try.prog 95 #[.string a, .string b] w fun e w' => e = .returned (.bool (undS a b)) ∧ w = w' := by
  cases h1 : mayN a
  · have HV := Lib.hid (show undS a b = false by rw [undS, h1]; rfl)
    have H1 := Lib.hid h1
    clear h1
    go_enter Try.func95, Try.ntmps95
    go_wp2_with fail
    refine (nmay_any _ _ ha).mono ?_; rintro e w' ⟨rfl, rfl⟩
    rw [H1.out]
    go_wp2
    go_ret
    exact ⟨ret_bool HV.out.symm, rfl⟩
  · cases h2 : mayN b
    · have HV := Lib.hid (show undS a b = false by rw [undS, h1, h2]; rfl)
      have H1 := Lib.hid h1
      have H2 := Lib.hid h2
      clear h1 h2
      go_enter Try.func95, Try.ntmps95
      go_wp2_with fail
      refine (nmay_any _ _ ha).mono ?_; rintro e w' ⟨rfl, rfl⟩
      rw [H1.out]
      go_wp2_with fail
      refine (nmay_any _ _ hb).mono ?_; rintro e w' ⟨rfl, rfl⟩
      rw [H2.out]
      go_wp2
      go_ret
      exact ⟨ret_bool HV.out.symm, rfl⟩
    · obtain ⟨k1, k2, k3⟩ := labs_spec h1
      obtain ⟨g1, g2, g3⟩ := labs_spec h2
      have hc := under_yy (labs a) (labs b) w k1 g1 k2 g2
      rw [← k3, ← g3] at hc
      rw [show undS a b = undL (labs a) (labs b) by rw [undS, h1, h2]; rfl]
      exact hc
theorem undL_all (L M : List ByteArray) (h : M.length ≤ L.length) : undL L M = true ↔ ∀ j, j < M.length → tx L (L.length - (j + 1)) = tx M (M.length - (j + 1)) := by
  unfold undL
  rw [decide_eq_true_eq]
  constructor
  · rintro ⟨_, h2⟩ j hj
    have e : tx M (M.length - (j + 1)) = tx L (L.length - M.length + (M.length - (j + 1))) := by
      conv => lhs; rw [← h2]
      rw [tx, tx, List.getD_eq_getElem?_getD, List.getD_eq_getElem?_getD, List.getElem?_drop, List.length_drop]
      congr 3; omega
    rw [e]; congr 1; omega
  · intro h2
    refine ⟨h, List.ext_getElem (by rw [List.length_drop]; omega) ?_⟩
    intro i h3 h4
    have h5 := h2 (M.length - (i + 1)) (by omega)
    rw [show M.length - (M.length - (i + 1) + 1) = i by omega, show L.length - (M.length - (i + 1) + 1) = L.length - M.length + i by omega] at h5
    rw [tx, tx, List.getD_eq_getElem?_getD, List.getD_eq_getElem?_getD, List.getElem?_eq_getElem h4, List.getElem?_eq_getElem (by omega)] at h5
    rw [List.getElem_drop]
    exact h5

set_option maxRecDepth 100000 in
set_option maxHeartbeats 800000 in
theorem runder_yy (L M : List ByteArray) (w : World) (hL : OkL L) (hM : OkL M) (hz : off L L.length ≤ 254) (hy : off M M.length ≤ 254) : Calls Try.prog 27 #[.string (nameB L), .string (nameB M)] w fun e w' => e = .returned (.bool (undL L M)) ∧ Below w.heap.size w w' := by
  have hm1 := labels_may hL hz
  have hm2 := labels_may hM hy
  have hs1 := nameB_size L
  have hs2 := nameB_size M
  have hg1 := off_ge L hL L.length (Nat.le_refl _)
  have hg2 := off_ge M hM M.length (Nat.le_refl _)
  have hl1 := rlabels_yes L w hL hz
  have hl2 := fun w => rlabels_yes M w hM hy
  have hall := undL_all L M
  have hfew : L.length < M.length → undL L M = false := fun h => by unfold undL; exact dF (by omega)
  have HM1 := Lib.hid hm1
  have HM2 := Lib.hid hm2
  obtain ⟨a, ha⟩ : ∃ s, nameB L = s := ⟨_, rfl⟩
  obtain ⟨b, hb⟩ : ∃ s, nameB M = s := ⟨_, rfl⟩
  obtain ⟨n, hn⟩ : ∃ n, L.length = n := ⟨_, rfl⟩
  obtain ⟨m, hm⟩ : ∃ n, M.length = n := ⟨_, rfl⟩
  rw [hn, hm] at hall hfew
  have HN := Lib.hid hn
  have HMn := Lib.hid hm
  rw [ha] at HM1 hs1 hl1
  rw [hb] at HM2 hs2
  rw [ha, hb]
  rw [hn] at hz hg1 hs1 hl1
  rw [hm] at hy hg2 hs2
  rw [hb, hm] at hl2
  have HL1 := Lib.hid hl1
  have HL2 := Lib.hid hl2
  have HALL := Lib.hid hall
  have HFEW := Lib.hid hfew
  clear hm1 hm2 hL hM ha hb hn hm hl1 hl2 hall hfew
  go_enter Try.func27, Try.ntmps27
  go_wp2_with fail
  refine (rmay_any _ _ (by omega)).mono ?_; rintro e w' ⟨rfl, rfl⟩
  rw [HM1.out]
  go_wp2_with fail
  refine (rmay_any _ _ (by omega)).mono ?_; rintro e w' ⟨rfl, rfl⟩
  rw [HM2.out]
  go_wp2_with fail
  refine HL1.out.mono ?_; rintro e w1 ⟨va, ca, rfl, hr1, hb1⟩
  have HR1 := Lib.hid hr1
  have HB1 := Lib.hid hb1
  clear hr1 hb1
  go_wp2_with fail
  refine (HL2.out w1).mono ?_; rintro e w2 ⟨vb, cb, rfl, hr2, hb2⟩
  have HR2 := Lib.hid hr2
  have HR12 := Lib.hid (HR1.out.below hb2)
  have HB2 := Lib.hid (HB1.out.trans (hb2.mono HB1.out.size))
  clear hr2 hb2 HR1 HB1
  by_cases hnm : n < m
  · have HV := Lib.hid (HFEW.out hnm)
    have d1 := dT hnm
    clear hnm
    go_wp2
    go_ret
    exact ⟨ret_bool HV.out.symm, HB2.out⟩
  · have HAL := Lib.hid (HALL.out (by omega))
    have d1 := dF hnm
    go_wp2_with fail
    go_loopw [7] (fun x wr => ∃ k q : Nat, k ≤ m ∧ x = .int .i64 ((k : Int) + 1) ∧ wr = w2.drewN q ∧ Hid (∀ j, j < k → tx L (n - (j + 1)) = tx M (m - (j + 1)))) (fun x _ => m + 1 - (intOf x).toNat)
    case atStart => exact ⟨0, 0, Nat.zero_le _, rfl, rfl, fun j hj => absurd hj (by omega)⟩
    case round =>
      obtain ⟨k, q, hk2, rfl, rfl, hj⟩ := hrel
      by_cases h0 : k = m
      · subst h0
        have HV := Lib.hid (HAL.out.2 hj.out)
        go_wp2
        go_returns
        exact ⟨ret_bool HV.out.symm, below_drewN HB2.out q⟩
      · rcases HR12.out.2 with h9 | ⟨b1, o1, rfl, _, hc1⟩
        · omega
        rcases HR2.out.2 with h9 | ⟨b2, o2, rfl, _, hc2⟩
        · omega
        have g1 := hc1 (n - (k + 1)) (by omega)
        have g2 := hc2 (m - (k + 1)) (by omega)
        obtain ⟨x, hx⟩ : ∃ x, tx L (n - (k + 1)) = x := ⟨_, rfl⟩
        obtain ⟨y, hy9⟩ : ∃ x, tx M (m - (k + 1)) = x := ⟨_, rfl⟩
        have k1 : w2.cell? ⟨b1, o1 + (n - (k + 1)), none⟩ = some (.string x) := by rw [← hx]; exact g1
        have k2 : w2.cell? ⟨b2, o2 + (m - (k + 1)), none⟩ = some (.string y) := by rw [← hy9]; exact g2
        have p1 : n - (k + 1) < n := by omega
        have p2 : m - (k + 1) < m := by omega
        have w1 : IntKind.i64.wrap ((n : Int) - ((k : Int) + 1)) = ((n - (k + 1) : Nat) : Int) := by rw [wraps_i64 _ (by omega) (by omega)]; omega
        have w2' : IntKind.i64.wrap ((m : Int) - ((k : Int) + 1)) = ((m - (k + 1) : Nat) : Int) := by rw [wraps_i64 _ (by omega) (by omega)]; omega
        have HX := Lib.hid hx
        have HY := Lib.hid hy9
        obtain ⟨r1, hr1⟩ : ∃ r, n - (k + 1) = r := ⟨_, rfl⟩
        obtain ⟨r2, hr2⟩ : ∃ r, m - (k + 1) = r := ⟨_, rfl⟩
        rw [hr1] at k1 p1 w1
        rw [hr2] at k2 p2 w2'
        have i1 : (r1 : Int) < (n : Int) := by omega
        have i2 : (r2 : Int) < (m : Int) := by omega
        have HK := Lib.hid (show k < m by omega)
        have d2 := dT (p := (k : Int) + 1 ≤ (m : Int)) (by omega)
        clear hc1 hc2 g1 g2 hx hy9 h0 hr1 hr2
        by_cases e : x = y
        · subst e
          have HJ := Lib.hid (show ∀ j, j < k + 1 → tx L (n - (j + 1)) = tx M (m - (j + 1)) by
            intro j hj9
            by_cases ej : j = k
            · subst ej; exact HX.out.trans HY.out.symm
            · exact hj.out j (by omega))
          clear hj
          go_wp2_with fail
          go_quiet (fail)
          go_wp2
          go_roundw
          case rel => exact ⟨k + 1, _, by have := HK.out; omega, by go_num, rfl, HJ.out⟩
          case measure => have := HK.out; simp [intOf]; omega
        · have eb : (x.toList == y.toList) = false := by
            rw [beq_eq_false_iff_ne]
            intro h
            exact e (toList_inj h)
          have HV := Lib.hid (show undL L M = false by
            cases h : undL L M
            · rfl
            · exact absurd (HX.out.symm.trans (((HAL.out.1 h) k HK.out).trans HY.out)) e)
          clear e hj
          go_wp2_with fail
          go_quiet (fail)
          go_wp2
          go_returns
          exact ⟨ret_bool HV.out.symm, by first | exact below_drewN HB2.out _ | exact below_drewN (below_drewN HB2.out _) _⟩

set_option maxRecDepth 100000 in
theorem runder_any (a b : ByteArray) (w : World) (ha : a.size ≤ 1000000) (hb : b.size ≤ 1000000) : Calls Try.prog 27 #[.string a, .string b] w fun e w' => e = .returned (.bool (undS a b)) ∧ Below w.heap.size w w' := by
  cases h1 : mayN a
  · have HV := Lib.hid (show undS a b = false by rw [undS, h1]; rfl)
    have H1 := Lib.hid h1
    clear h1
    go_enter Try.func27, Try.ntmps27
    go_wp2_with fail
    refine (rmay_any _ _ ha).mono ?_; rintro e w' ⟨rfl, rfl⟩
    rw [H1.out]
    go_wp2
    go_ret
    exact ⟨ret_bool HV.out.symm, Below.refl _ _⟩
  · cases h2 : mayN b
    · have HV := Lib.hid (show undS a b = false by rw [undS, h1, h2]; rfl)
      have H1 := Lib.hid h1
      have H2 := Lib.hid h2
      clear h1 h2
      go_enter Try.func27, Try.ntmps27
      go_wp2_with fail
      refine (rmay_any _ _ ha).mono ?_; rintro e w' ⟨rfl, rfl⟩
      rw [H1.out]
      go_wp2_with fail
      refine (rmay_any _ _ hb).mono ?_; rintro e w' ⟨rfl, rfl⟩
      rw [H2.out]
      go_wp2
      go_ret
      exact ⟨ret_bool HV.out.symm, Below.refl _ _⟩
    · obtain ⟨k1, k2, k3⟩ := labs_spec h1
      obtain ⟨g1, g2, g3⟩ := labs_spec h2
      have hc := runder_yy (labs a) (labs b) w k1 g1 k2 g2
      rw [← k3, ← g3] at hc
      rw [show undS a b = undL (labs a) (labs b) by rw [undS, h1, h2]; rfl]
      exact hc
end Go.Proofs.Ythfnphcefkdgbaa
end

section
namespace Go.Proofs.Ythfnphcefkdgbaa
open Go.RowKit

noncomputable def comS (n : ByteArray) (ms : List ByteArray) : ByteArray := if (mayN n && ms.all mayN) = true then nameB (comN (labs n) (ms.map labs)) else ⟨#[]⟩
theorem off_drop (L : List ByteArray) (k : Nat) (hk : k ≤ L.length) : off (L.drop k) (L.drop k).length ≤ off L L.length := by
  have h := congrArg List.length (name_drop L k hk)
  rw [nameL_length, List.length_drop, size_data, nameB_size] at h
  omega
theorem comN_ok {L : List ByteArray} (hL : OkL L) (hz : off L L.length ≤ 254) (Ms : List (List ByteArray)) : OkL (comN L Ms) ∧ off (comN L Ms) (comN L Ms).length ≤ 254 := by
  obtain ⟨k, hk, h1, _⟩ := comN_drop L Ms
  rw [h1]
  exact ⟨drop_ok hL k, Nat.le_trans (off_drop L k hk) hz⟩
theorem tail_ok {L : List ByteArray} (hL : OkL L) (hz : off L L.length ≤ 254) (h : L ≠ []) : OkL L.tail ∧ off L.tail L.tail.length ≤ 254 ∧ parS L = nameB L.tail ∧ (nameB L.tail).size < (nameB L).size := by
  cases L with
  | nil => exact absurd rfl h
  | cons s L =>
    have h1 := off_drop (s :: L) 1 (by simp)
    refine ⟨okL_tail hL, Nat.le_trans h1 hz, rfl, ?_⟩
    have e1 : (nameB L).size = (nameL L).length := by rw [nameB, bs_size]
    have e2 : (nameB (s :: L)).size = (nameL (s :: L)).length := by rw [nameB, bs_size]
    show (nameB L).size < _
    rw [e1, e2, nameL_cons]
    simp; omega

end Go.Proofs.Ythfnphcefkdgbaa
end

section
namespace Go.Proofs.Ythfnphcefkdgbaa
open Go.RowKit

structure IsOrd {α : Type} (f : α → α → Int) : Prop where
  rng : ∀ a b, f a b = -1 ∨ f a b = 0 ∨ f a b = 1
  anti : ∀ a b, f b a = - f a b
  zero : ∀ a b, f a b = 0 ↔ a = b
  trans : ∀ a b c, f a b ≤ 0 → f b c ≤ 0 → f a c ≤ 0

theorem ord_bytes : IsOrd Lib.compareBytes where
  rng := by
    intro a
    induction a with
    | nil => intro b; cases b <;> simp [Lib.compareBytes]
    | cons x a ih =>
      intro b
      cases b with
      | nil => simp [Lib.compareBytes]
      | cons y b =>
        simp only [Lib.compareBytes]
        split
        · exact Or.inl rfl
        · split
          · exact Or.inr (Or.inr rfl)
          · exact ih b
  anti := by
    intro a
    induction a with
    | nil => intro b; cases b <;> simp [Lib.compareBytes]
    | cons x a ih =>
      intro b
      cases b with
      | nil => simp [Lib.compareBytes]
      | cons y b =>
        simp only [Lib.compareBytes]
        by_cases h1 : x < y
        · have h2 : ¬ y < x := fun h => UInt8.lt_irrefl x (UInt8.lt_trans h1 h)
          rw [if_neg h2, if_pos h1, if_pos h1]; rfl
        · by_cases h2 : y < x
          · rw [if_pos h2, if_neg h1, if_pos h2]
          · rw [if_neg h2, if_neg h1, if_neg h1, if_neg h2]; exact ih b
  zero := by
    intro a
    induction a with
    | nil => intro b; cases b <;> simp [Lib.compareBytes]
    | cons x a ih =>
      intro b
      cases b with
      | nil => simp [Lib.compareBytes]
      | cons y b =>
        simp only [Lib.compareBytes]
        by_cases h1 : x < y
        · rw [if_pos h1]
          constructor
          · intro h; cases h
          · intro h
            obtain ⟨rfl, _⟩ := List.cons.inj h
            exact absurd h1 (UInt8.lt_irrefl x)
        · rw [if_neg h1]
          by_cases h2 : y < x
          · rw [if_pos h2]
            constructor
            · intro h; cases h
            · intro h
              obtain ⟨rfl, _⟩ := List.cons.inj h
              exact absurd h2 (UInt8.lt_irrefl x)
          · rw [if_neg h2, ih b]
            have e : x = y := by
              have k1 : ¬ x.toNat < y.toNat := fun h => h1 (UInt8.lt_iff_toNat_lt.2 h)
              have k2 : ¬ y.toNat < x.toNat := fun h => h2 (UInt8.lt_iff_toNat_lt.2 h)
              exact UInt8.toNat_inj.1 (by omega)
            subst e
            simp
  trans := by
    intro a
    induction a with
    | nil => intro b c _ _; cases c <;> simp [Lib.compareBytes]
    | cons x a ih =>
      intro b c h1 h2
      cases b with
      | nil => simp [Lib.compareBytes] at h1
      | cons y b =>
        cases c with
        | nil => simp [Lib.compareBytes] at h2
        | cons z c =>
          simp only [Lib.compareBytes] at h1 h2 ⊢
          have n1 := @UInt8.lt_iff_toNat_lt x y
          have n2 := @UInt8.lt_iff_toNat_lt y x
          have n3 := @UInt8.lt_iff_toNat_lt y z
          have n4 := @UInt8.lt_iff_toNat_lt z y
          have n5 := @UInt8.lt_iff_toNat_lt x z
          have n6 := @UInt8.lt_iff_toNat_lt z x
          by_cases c1 : x < z
          · rw [if_pos c1]; decide
          · rw [if_neg c1]
            by_cases k1 : x < y
            · by_cases k3 : y < z
              · exact absurd (UInt8.lt_trans k1 k3) c1
              · rw [if_neg k3] at h2
                by_cases k4 : z < y
                · rw [if_pos k4] at h2; exact absurd h2 (by decide)
                · exfalso; apply c1; rw [n5]; rw [n1] at k1; rw [n3] at k3; rw [n4] at k4; omega
            · rw [if_neg k1] at h1
              by_cases k2 : y < x
              · rw [if_pos k2] at h1; exact absurd h1 (by decide)
              · rw [if_neg k2] at h1
                by_cases k3 : y < z
                · exfalso; apply c1; rw [n5]; rw [n1] at k1; rw [n2] at k2; rw [n3] at k3; omega
                · rw [if_neg k3] at h2
                  by_cases k4 : z < y
                  · rw [if_pos k4] at h2; exact absurd h2 (by decide)
                  · rw [if_neg k4] at h2
                    have c2 : ¬ z < x := by rw [n6]; rw [n1] at k1; rw [n2] at k2; rw [n3] at k3; rw [n4] at k4; omega
                    rw [if_neg c2]
                    exact ih b c h1 h2

theorem ord_cmpB : IsOrd cmpB where
  rng a b := ord_bytes.rng _ _
  anti a b := ord_bytes.anti _ _
  zero a b := (ord_bytes.zero _ _).trans ⟨ba_eq, fun h => by rw [h]⟩
  trans a b c := ord_bytes.trans _ _ _

theorem ord_cmpLab : IsOrd cmpLab where
  rng := by
    intro a
    induction a with
    | nil => intro b; cases b <;> simp [cmpLab]
    | cons x a ih =>
      intro b
      cases b with
      | nil => simp [cmpLab]
      | cons y b =>
        simp only [cmpLab]
        split
        · exact ih b
        · exact ord_cmpB.rng x y
  anti := by
    intro a
    induction a with
    | nil => intro b; cases b <;> simp [cmpLab]
    | cons x a ih =>
      intro b
      cases b with
      | nil => simp [cmpLab]
      | cons y b =>
        simp only [cmpLab]
        have h := ord_cmpB.anti x y
        by_cases h1 : cmpB x y = 0
        · rw [if_pos h1, if_pos (by omega)]; exact ih b
        · rw [if_neg h1, if_neg (by omega)]; exact h
  zero := by
    intro a
    induction a with
    | nil => intro b; cases b <;> simp [cmpLab]
    | cons x a ih =>
      intro b
      cases b with
      | nil => simp [cmpLab]
      | cons y b =>
        simp only [cmpLab]
        have h := ord_cmpB.zero x y
        by_cases h1 : cmpB x y = 0
        · rw [if_pos h1, ih b, h.1 h1]; simp
        · rw [if_neg h1]
          constructor
          · intro h2; exact absurd h2 h1
          · intro h2; exact absurd (h.2 (List.cons.inj h2).1) h1
  trans := by
    intro a
    induction a with
    | nil => intro b c _ _; cases c <;> simp [cmpLab]
    | cons x a ih =>
      intro b c h1 h2
      cases b with
      | nil => simp [cmpLab] at h1
      | cons y b =>
        cases c with
        | nil => simp [cmpLab] at h2
        | cons z c =>
          simp only [cmpLab] at h1 h2 ⊢
          have t1 := ord_cmpB.trans x y z
          by_cases k1 : cmpB x y = 0
          · rw [if_pos k1] at h1
            have e1 := (ord_cmpB.zero x y).1 k1
            subst e1
            by_cases k2 : cmpB x z = 0
            · rw [if_pos k2] at h2
              rw [if_pos k2]
              exact ih b c h1 h2
            · rw [if_neg k2] at h2
              rw [if_neg k2]
              exact h2
          · rw [if_neg k1] at h1
            by_cases k2 : cmpB y z = 0
            · have e2 := (ord_cmpB.zero y z).1 k2
              subst e2
              rw [if_neg k1]
              exact h1
            · rw [if_neg k2] at h2
              have h3 := t1 h1 h2
              by_cases k3 : cmpB x z = 0
              · have e3 := (ord_cmpB.zero x z).1 k3
                subst e3
                have := ord_cmpB.anti x y
                omega
              · rw [if_neg k3]; exact h3

theorem ord_cmpS : IsOrd cmpS where
  rng a b := by
    unfold cmpS
    split
    · split
      · exact ord_cmpLab.rng _ _
      · exact Or.inl rfl
    · split
      · exact Or.inr (Or.inr rfl)
      · exact ord_cmpB.rng _ _
  anti a b := by
    unfold cmpS
    cases h1 : mayN a <;> cases h2 : mayN b <;> simp
    · exact ord_cmpB.anti a b
    · exact ord_cmpLab.anti _ _
  zero a b := by
    unfold cmpS
    cases h1 : mayN a <;> cases h2 : mayN b <;> simp
    · exact ord_cmpB.zero a b
    · rintro rfl; rw [h1] at h2; cases h2
    · rintro rfl; rw [h1] at h2; cases h2
    · rw [cmpN, ord_cmpLab.zero, List.reverse_inj]
      obtain ⟨_, _, k1⟩ := labs_spec h1
      obtain ⟨_, _, k2⟩ := labs_spec h2
      constructor
      · intro h; rw [k1, k2, h]
      · intro h; rw [h]
  trans a b c := by
    unfold cmpS
    cases h1 : mayN a <;> cases h2 : mayN b <;> cases h3 : mayN c <;> simp
    · exact ord_cmpB.trans a b c
    · exact ord_cmpLab.trans _ _ _
theorem cmpS_ge (a b c : ByteArray) (h1 : 0 ≤ cmpS a b) (h2 : 0 ≤ cmpS b c) : 0 ≤ cmpS a c := by
  have := ord_cmpS.trans c b a (by rw [ord_cmpS.anti b c]; omega) (by rw [ord_cmpS.anti a b]; omega)
  rw [ord_cmpS.anti a c] at this
  omega

/-- What is under comes behind. -/
theorem und_cmp {L M : List ByteArray} (h : undL L M = true) : 0 ≤ cmpN L M := by
  obtain ⟨k, _, rfl⟩ := (undL_iff _ _).1 h
  have e : L.reverse = (L.drop k).reverse ++ (L.take k).reverse := by rw [← List.reverse_append, List.take_append_drop]
  rw [cmpN, e]
  have key : ∀ x y : List ByteArray, 0 ≤ cmpLab (x ++ y) x := by
    intro x
    induction x with
    | nil => intro y; cases y <;> simp [cmpLab]
    | cons a x ih => intro y; simp only [List.cons_append, cmpLab]; rw [if_pos ((ord_cmpB.zero a a).2 rfl)]; exact ih y
  exact key _ _

/-- The longest that both are under. -/
theorem comN_most {L M D : List ByteArray} (h1 : undL L D = true) (h2 : undL M D = true) : D.length ≤ (comN L [M]).length := by
  induction L with
  | nil =>
    obtain ⟨k, _, rfl⟩ := (undL_iff _ _).1 h1
    simp
  | cons a L ih =>
    cases h : undL M (a :: L)
    · rw [comN_no (by simp [h])]
      obtain ⟨k, hk, rfl⟩ := (undL_iff _ _).1 h1
      cases k with
      | zero => rw [List.drop_zero] at h2; rw [h2] at h; cases h
      | succ k => exact ih ((undL_iff _ _).2 ⟨k, by simpa using hk, rfl⟩)
    · rw [comN_yes (by simp [h])]
      obtain ⟨k, _, rfl⟩ := (undL_iff _ _).1 h1
      simp
theorem comN_und (L M : List ByteArray) : undL L (comN L [M]) = true ∧ undL M (comN L [M]) = true := by
  obtain ⟨k, hk, h1, h2⟩ := comN_drop L [M]
  rw [h1]
  exact ⟨(undL_iff _ _).2 ⟨k, hk, rfl⟩, by simpa using h2⟩
theorem und_len {L A B : List ByteArray} (h1 : undL L A = true) (h2 : undL L B = true) (h : A.length = B.length) : A = B := by
  obtain ⟨j, hj, rfl⟩ := (undL_iff _ _).1 h1
  obtain ⟨k, hk, rfl⟩ := (undL_iff _ _).1 h2
  rw [List.length_drop, List.length_drop] at h
  rw [show j = k by omega]
theorem comN_sym (L M : List ByteArray) : comN L [M] = comN M [L] := by
  obtain ⟨a1, a2⟩ := comN_und L M
  obtain ⟨b1, b2⟩ := comN_und M L
  have h1 := comN_most a2 a1
  have h2 := comN_most b2 b1
  exact und_len a1 b2 (by omega)
theorem comN_is (L M : List ByteArray) : undL L M = true ↔ comN L [M] = M := by
  obtain ⟨a1, a2⟩ := comN_und L M
  constructor
  · intro h
    have h1 := comN_most h (undL_refl M)
    obtain ⟨k, hk, h2⟩ := (undL_iff _ _).1 a2
    have h3 := congrArg List.length h2
    rw [List.length_drop] at h3
    exact und_len a2 (undL_refl M) (by omega)
  · intro h; rw [h] at a1; exact a1
end Go.Proofs.Ythfnphcefkdgbaa
end
