/- Contracts of package num's Join (chapter 1), and of its document's answer, over this seat's translation. -/
import Derived.Test.YtkoafkajmfodkaaNum5
import Derived.Test.YtkoafkajmfodkaaMgA
namespace Go.Proofs.Ytkoafkajmfodkaa
open Go.RowKit

theorem own_below {w w' : World} {base : Nat} {e : TypeId} {size : Nat} {v : Value} {n : Nat} {xs : List Value} (h : w.ownsRow base e size v n xs) (hb : Below w.heap.size w w') : w'.ownsRow base e size v n xs :=
  h.kept (row := none) ⟨hb.os, hb.tape, hb.output, hb.size, fun k hk _ => hb.block k hk⟩ (by cases hv : v.ownBlock with
    | none => exact Or.inl rfl
    | some x => exact Or.inr (by simp))

/-- The bytes of the first k numbers. -/
def joinTo (W : Nat) (l : List Int) : Nat → List UInt8
  | 0 => []
  | k + 1 => joinTo W l k ++ putTo (l.getD k 0) W W
theorem joinTo_length (W : Nat) (l : List Int) (k : Nat) : (joinTo W l k).length = W * k := by
  induction k with
  | zero => rfl
  | succ k ih => simp only [joinTo, List.length_append, ih, putTo_length]; rw [Nat.mul_succ]
def AllFit (W : Int) (l : List Int) (k : Nat) : Prop := ∀ j, j < k → fits (l.getD j 0) W = true
theorem allFit_next {W : Int} {l : List Int} {k : Nat} (h : AllFit W l k) (h1 : fits (l.getD k 0) W = true) : AllFit W l (k + 1) := by
  intro j hj
  by_cases e : j = k
  · subst e; exact h1
  · exact h j (by omega)
def joinOk (W : Int) (l : List Int) : Bool := decide (1 ≤ W ∧ W ≤ 6) && l.all fun n => fits n W
def joinL (W : Int) (l : List Int) : List UInt8 := if joinOk W l = true then joinTo W.toNat l l.length else []
def joinE (W : Int) (l : List Int) : Int := if joinOk W l = true then 0 else 1
theorem join_yes {W : Int} {l : List Int} (hW : 1 ≤ W ∧ W ≤ 6) (h : AllFit W l l.length) : joinOk W l = true := by
  simp only [joinOk, Bool.and_eq_true, decide_eq_true_eq, List.all_eq_true]
  refine ⟨hW, fun n hn => ?_⟩
  obtain ⟨j, hj, rfl⟩ := List.getElem_of_mem hn
  have := h j hj
  rwa [List.getD_eq_getElem?_getD, List.getElem?_eq_getElem hj] at this
theorem join_no {W : Int} {l : List Int} {k : Nat} (hk : k < l.length) (h : fits (l.getD k 0) W = false) : joinOk W l = false := by
  cases hj : joinOk W l with
  | false => rfl
  | true =>
    simp only [joinOk, Bool.and_eq_true, decide_eq_true_eq, List.all_eq_true] at hj
    have := hj.2 l[k] (List.getElem_mem hk)
    rw [List.getD_eq_getElem?_getD, List.getElem?_eq_getElem hk] at h
    simp only [Option.getD_some] at h
    rw [h] at this
    exact absurd this (by simp)
theorem join_nW {W : Int} {l : List Int} (hW : ¬ (1 ≤ W ∧ W ≤ 6)) : joinOk W l = false := by
  simp only [joinOk, Bool.and_eq_false_iff, decide_eq_false_iff_not]
  exact Or.inl hW

theorem joinTo_bc (W : Nat) (l : List Int) (k : Nat) (n : Int) (hn : l.getD k 0 = n) : bc (joinTo W l k) ++ Lib.strCells (bs (putTo n W W)) = bc (joinTo W l (k + 1)) := by
  subst hn
  rw [strCells_bs, ← bc_append]
  rfl

set_option maxRecDepth 100000 in
set_option maxHeartbeats 800000 in
theorem join_some (W : Nat) (a : Option Addr) (len cap : Nat) (l : List Int) (w : World) (h1 : 1 ≤ W) (h2 : W ≤ 6) (h : Row w a len l) (hlen : len ≤ 100000) :
    Calls Try.prog 84 #[.int .i64 W, .slice a len cap] w fun e w' => e = .returned (.tuple #[.string (bs (joinL W l)), .int .i64 (joinE W l)]) ∧ Below w.heap.size w w' := by
  obtain ⟨i0, hi, hz0, hz1, hz2⟩ := info_parts infoU8
  have HI := Lib.hid hi
  have HZ0 := Lib.hid hz0
  have HZ1 := Lib.hid hz1
  have HZ2 := Lib.hid hz2
  have HR := Lib.hid h
  clear hi hz0 hz1 hz2 h
  have d : decide ((1 : Int) ≤ (W : Int) ∧ (W : Int) ≤ 6) = true := dT (by omega)
  have hwl : W * len ≤ 600000 := by
    have := Nat.mul_le_mul h2 hlen
    omega
  have hwl2 : (W : Int) * (len : Int) ≤ 600000 := by rw [← Int.natCast_mul]; omega
  have hwl3 : 0 ≤ (W : Int) * (len : Int) := Int.mul_nonneg (by omega) (by omega)
  go_enter Try.func84, Try.ntmps84
  go_wp2_with (first | (go_at_call 105; refine (mayWidth_any _ _).mono ?_; rintro e w' ⟨rfl, rfl⟩) | (at_make; refine wpList_make_own _ rfl _ _ 35 rfl w.heap.size 5 i0 (.int .u8 0) 1 Try.underlying35 HI.out HZ0.out HZ1.out .i64 .i64 _ (W * len) rfl rfl ?b1 ?b2 ?b3 (Nat.le_refl _) ?_))
  case b1 => first | rfl | simp
  case b2 => rw [HZ2.out]; omega
  case b3 => unfold maxLen; omega
  intro w1 hown hgrow
  have HO1 := Lib.hid hown
  have HG1 := Lib.hid hgrow
  clear hown hgrow
  go_wp2
  go_loopw [6, 21] (fun v i wr => ∃ k : Nat, k ≤ len ∧ i = .int .i64 k ∧ AllFit W l k ∧ wr.ownsRow w.heap.size 5 1 v (W * k) (bc (joinTo W l k)) ∧ Below w.heap.size w wr) (fun _ i _ => len - (intOf i).toNat)
  case atStart => exact ⟨0, Nat.zero_le _, rfl, fun j hj => absurd hj (by omega), HO1.out, (Below.refl _ _).grown HG1.out (Nat.le_refl _) (by simp)⟩
  case round =>
    obtain ⟨k, hk, rfl, hfit, hown1, hbel⟩ := hrel
    have HF := Lib.hid hfit
    have HO := Lib.hid hown1
    have HBL := Lib.hid hbel
    have hsz := hbel.size
    clear hown1 hbel hfit
    by_cases hlt : k < len
    · rcases HR.out.2 with h0 | ⟨b, off, rfl, hbl, hc⟩
      · omega
      · obtain ⟨n, hn⟩ : ∃ n, l.getD k 0 = n := ⟨_, rfl⟩
        have hcell : wr.cell? ⟨b, off + k, none⟩ = some (.int .i64 n) := by rw [HBL.out.cell hbl, ← hn]; exact hc k hlt
        have HN := Lib.hid hn
        have hWk : W * k ≤ 600000 := by
          have := Nat.mul_le_mul h2 (Nat.le_of_lt hlt)
          omega
        clear hc hn
        cases hf : fits n W
        · have e1 : putE_n n W = 1 := by simp [putE_n, hf]
          have e2 := join_no (W := W) (l := l) (by rw [HR.out.1]; exact hlt) (by rw [HN.out]; exact hf)
          have E2 := Lib.hid e2
          clear e2
          go_wp2_with (go_at_call 106; refine (put_any _ _ _).mono ?_; rintro e w' ⟨rfl, hb⟩; have HB3 := Lib.hid hb; clear hb)
          go_ret2
          rw [joinL, joinE, E2.out]
          exact ⟨rfl, HBL.out.trans (HB3.out.mono hsz)⟩
        · have e1 : putE_n n W = 0 := by simp [putE_n, hf]
          have e3 : putL n W = putTo n W W := by simp [putL, hf]
          have HF1 := Lib.hid (allFit_next HF.out (by rw [HN.out]; exact hf))
          go_wp2_with (first | (go_at_call 106; refine (put_any _ _ _).mono ?_; rintro e w3 ⟨rfl, hb⟩; have HB3 := Lib.hid hb; have HO3 := Lib.hid (own_below HO.out hb); have HBL3 := Lib.hid (HBL.out.trans (hb.mono hsz)); clear hb) | (at_builtin; refine Lib.wpList_append_own_string _ rfl _ _ 35 9 rfl w.heap.size 5 i0 Try.underlying35 Try.underlying9 HI.out HZ0.out HZ1.out HZ2.out _ (W * k) _ rfl HO3.out (bs (putTo n W W)) rfl ?c1 ?c2 ?c3 ?_))
          case c1 => rw [bs_size, putTo_length]; unfold maxLen; omega
          case c2 => rw [bs_size, putTo_length]; omega
          case c3 => exact Nat.le_trans hsz HB3.out.size
          intro v' w' hown' hgrow _
          rw [joinTo_bc W l k n HN.out, bs_size, putTo_length, show W * k + W = W * (k + 1) from (Nat.mul_succ _ _).symm] at hown'
          have HO4 := Lib.hid hown'
          have HBL4 := Lib.hid (HBL3.out.grown hgrow (Nat.le_trans hsz HB3.out.size) (fun j hj => (HO3.out.lt j hj).1))
          clear hown' hgrow
          go_wp2
          go_roundw
          case rel => exact ⟨k + 1, by omega, by go_num, HF1.out, HO4.out, HBL4.out⟩
          case measure => simp [intOf]; omega
    · have hkl : k = len := by omega
      subst hkl
      have hconv := conv_own HO.out
      have hl : l.length = k := HR.out.1
      have hj := join_yes (W := W) (l := l) (by omega) (by rw [hl]; exact HF.out)
      have HJ := Lib.hid hj
      have HL := Lib.hid hl
      clear hj hl
      go_wp2
      go_ret2
      rw [joinL, joinE, HJ.out]
      refine ⟨?_, HBL.out⟩
      simp [HL.out]

theorem join_any (W : Int) (a : Option Addr) (len cap : Nat) (l : List Int) (w : World) (h : Row w a len l) (hlen : len ≤ 100000) :
    Calls Try.prog 84 #[.int .i64 W, .slice a len cap] w fun e w' => e = .returned (.tuple #[.string (bs (joinL W l)), .int .i64 (joinE W l)]) ∧ Below w.heap.size w w' := by
  by_cases hW : 1 ≤ W ∧ W ≤ 6
  · obtain ⟨K, rfl⟩ := Int.eq_ofNat_of_zero_le (show 0 ≤ W by omega)
    exact join_some K a len cap l w (by omega) (by omega) h hlen
  · have d : decide (1 ≤ W ∧ W ≤ 6) = false := dF hW
    rw [joinL, joinE, join_nW hW]
    clear hW
    go_enter Try.func84, Try.ntmps84
    go_wp2_with (first | (go_at_call 105; refine (mayWidth_any _ _).mono ?_; rintro e w' ⟨rfl, rfl⟩))
    go_ret2
    exact ⟨rfl, Below.refl _ _⟩

theorem row_lit2 (w : World) (x y : Int) (t : TypeId) : Row (w.alloc (.cells #[.int .i64 x, .int .i64 y] t)) (some ⟨w.heap.size, 0, none⟩) 2 [x, y] := by
  refine ⟨rfl, Or.inr ⟨w.heap.size, 0, rfl, by simp, ?_⟩⟩
  intro j hj
  rcases (by omega : j = 0 ∨ j = 1) with rfl | rfl <;> simp [World.cell?_alloc_at]

end Go.Proofs.Ytkoafkajmfodkaa
