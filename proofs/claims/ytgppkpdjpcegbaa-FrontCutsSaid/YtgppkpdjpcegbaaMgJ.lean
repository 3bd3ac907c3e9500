/- Texts that others rest on, one behind the other: DcC, Pln5, DcP, DcG, DcZ, DcS, WAe. -/
import Derived.Test.YtgppkpdjpcegbaaMgI
import Derived.Test.YtgppkpdjpcegbaaMgA
import Derived.Deep.RegionHeld3
import Derived.Test.YtgppkpdjpcegbaaFix
import Derived.IntWalk
import Derived.Test.YtgppkpdjpcegbaaLst
import Derived.Test.YtgppkpdjpcegbaaMgC
section
namespace Go.Proofs.Ytgppkpdjpcegbaa
open Go.RowKit

end Go.Proofs.Ytgppkpdjpcegbaa
end

section
namespace Go.Proofs.Ytgppkpdjpcegbaa
open Go.RowKit

end Go.Proofs.Ytgppkpdjpcegbaa
end

section
namespace Go.Proofs.Ytgppkpdjpcegbaa
open Go.RowKit

theorem or_zero (x : Int) (h0 : 0 ≤ x) (h : x < 9223372036854775808) : bits .or .i64 x 0 = x := by
  obtain ⟨n, rfl⟩ := Int.eq_ofNat_of_zero_le h0
  have := or_shift 0 n 0 (by decide) (by omega)
  simpa using this
end Go.Proofs.Ytgppkpdjpcegbaa
end

section
namespace Go.Proofs.Ytgppkpdjpcegbaa
open Go.RowKit

theorem mask1 (n : Int) : bits .and .i64 n 1 = n % 2 := by
  have hm : (BitVec.ofInt 64 1).toNat = 2 ^ 1 - 1 := by decide
  have key : (BitVec.ofInt 64 n &&& BitVec.ofInt 64 1).toNat = (n % ((2 ^ 64 : Nat) : Int)).toNat % 2 ^ 1 := by
    rw [BitVec.toNat_and, BitVec.toNat_ofInt, hm, Nat.and_two_pow_sub_one_eq_mod]
  show IntKind.i64.wrap ((BitVec.ofInt 64 n &&& BitVec.ofInt 64 1).toNat : Nat) = n % 2
  rw [key, IntKind.wrap_i64]
  omega
theorem and15 (x : Nat) : x &&& 32768 = if x / 32768 % 2 = 1 then 32768 else 0 := by
  have h1 : (x &&& 32768) % 2 ^ 16 = (x % 2 ^ 16) &&& (32768 % 2 ^ 16) := Nat.and_mod_two_pow
  have h2 : x &&& 32768 ≤ 32768 := Nat.and_le_right
  have h3 : x &&& 32768 = 2 ^ 15 * (x / 2 ^ 15 &&& 1) := by
    have h4 := Nat.shiftRight_and_distrib (a := x) (b := 32768) (i := 15)
    have h5 : (x &&& 32768) % 2 ^ 15 = (x % 2 ^ 15) &&& (32768 % 2 ^ 15) := Nat.and_mod_two_pow
    rw [Nat.shiftRight_eq_div_pow, Nat.shiftRight_eq_div_pow, Nat.shiftRight_eq_div_pow] at h4
    have h6 : (32768 : Nat) / 2 ^ 15 = 1 := by decide
    have h7 : (x % 2 ^ 15) &&& (32768 % 2 ^ 15) = 0 := by
      rw [show (32768 : Nat) % 2 ^ 15 = 0 by decide, Nat.and_zero]
    rw [h6] at h4
    rw [h7] at h5
    omega
  rw [h3, Nat.and_one_is_mod]
  have : (2 : Nat) ^ 15 = 32768 := by decide
  rw [this]
  split <;> omega
theorem do_bit (t : Int) : (bits .and .i64 (t / 32768) 1 == 1) = doT t := by
  have hm : (BitVec.ofInt 64 32768).toNat = 32768 := by decide
  have h2 : bits .and .i64 t 32768 = if t / 32768 % 2 = 1 then 32768 else 0 := by
    show IntKind.i64.wrap ((BitVec.ofInt 64 t &&& BitVec.ofInt 64 32768).toNat : Nat) = _
    rw [BitVec.toNat_and, BitVec.toNat_ofInt, hm, and15, IntKind.wrap_i64]
    split <;> split <;> omega
  rw [doT, mask1, h2]
  by_cases h : t / 32768 % 2 = 1
  · rw [if_pos h, h]; rfl
  · rw [if_neg h, show (t / 32768 % 2 == 1) = false by simpa using h]; rfl
theorem cell_far5 (w : World) {g q : Nat} (h : q ≠ g) (d0 d1 d2 d3 d4 : Value) {j : Nat} : (((((w.setCell ⟨q, 0, none⟩ d0).setCell ⟨q, 1, none⟩ d1).setCell ⟨q, 2, none⟩ d2).setCell ⟨q, 3, none⟩ d3).setCell ⟨q, 4, none⟩ d4).cell? ⟨g, j, none⟩ = w.cell? ⟨g, j, none⟩ := by
  rw [World.cell?_setCell_far _ _ _ _ h, World.cell?_setCell_far _ _ _ _ h, World.cell?_setCell_far _ _ _ _ h, World.cell?_setCell_far _ _ _ _ h, World.cell?_setCell_far _ _ _ _ h]

end Go.Proofs.Ytgppkpdjpcegbaa
end

section
namespace Go.Proofs.Ytgppkpdjpcegbaa
open Go.RowKit

theorem getF_ok : ∀ (l : List R5), (getF l).2.1 = true → (getF l).2.2 = 0
  | [], h => by simp [getF] at h
  | [r], h => by
    simp only [getF] at h ⊢
    split at h
    · rename_i h1; rw [if_pos h1]
    · simp at h
  | _ :: _ :: _, h => by simp [getF] at h
theorem getO_ok (l : List R5) (h : (getO l).2.1 = true) : (getO l).2.2 = 0 := getF_ok _ h
end Go.Proofs.Ytgppkpdjpcegbaa
end

section
namespace Go.Proofs.Ytgppkpdjpcegbaa
open Go.RowKit

set_option maxRecDepth 100000 in
set_option maxHeartbeats 1600000 in
theorem rrsD (a b : Option Addr) (n m ca cb : Nat) (L M : List R5) (w : World) (ha : RowR w a n L) (hb : RowR w b m M) (hn : n ≤ 100000) (hm : m ≤ 100000) :
    Calls Try.prog 14 #[.slice a n ca, .slice b m cb] w fun e w' => e = .returned (.bool (decide (L = M))) ∧ Below w.heap.size w w' := by
  have HRA := Lib.hid ha
  have HRB := Lib.hid hb
  have HLA := Lib.hid ha.1
  have HLB := Lib.hid hb.1
  clear ha hb
  by_cases hnm : n = m
  · subst hnm
    have e0 : ((n : Int) != (n : Int)) = false := nF rfl
    go_enter Try.func14, Try.ntmps14
    go_wp2_with fail
    go_loopw [5] (fun i wr => ∃ k q : Nat, k ≤ n ∧ i = .int .i64 k ∧ Hid (L.take k = M.take k) ∧ wr = w.drewN q) (fun i _ => n - (intOf i).toNat)
    case atStart => exact ⟨0, 0, Nat.zero_le _, rfl, rfl, rfl⟩
    case round =>
      obtain ⟨k, q, hk, rfl, hall, rfl⟩ := hrel
      by_cases hlt : k < n
      · obtain ⟨b1, o1, r1, rfl, hb1, hr1, x0, x1, x2, x3, x4⟩ := HRA.out.at k hlt
        obtain ⟨b2, o2, r2, rfl, hb2, hr2, y0, y1, y2, y3, y4⟩ := HRB.out.at k hlt
        obtain ⟨⟨an, at1, ac⟩, au, ad⟩ := r1
        obtain ⟨⟨bn, bt1, bc⟩, bu, bd⟩ := r2
        have HR1 := Lib.hid hr1
        have HR2 := Lib.hid hr2
        have i1 : (0 : Int) ≤ (k : Int) := by omega
        have i2 : (k : Int) < (n : Int) := by omega
        clear hr1 hr2
        replace x0 : w.cell? ⟨b1, o1 + k * 5, none⟩ = some (.string an) := x0
        replace x1 : w.cell? ⟨b1, o1 + k * 5 + 1, none⟩ = some (.int .i64 at1) := x1
        replace x2 : w.cell? ⟨b1, o1 + k * 5 + 2, none⟩ = some (.int .i64 ac) := x2
        replace x3 : w.cell? ⟨b1, o1 + k * 5 + 3, none⟩ = some (.int .i64 au) := x3
        replace x4 : w.cell? ⟨b1, o1 + k * 5 + 4, none⟩ = some (.string ad) := x4
        replace y0 : w.cell? ⟨b2, o2 + k * 5, none⟩ = some (.string bn) := y0
        replace y1 : w.cell? ⟨b2, o2 + k * 5 + 1, none⟩ = some (.int .i64 bt1) := y1
        replace y2 : w.cell? ⟨b2, o2 + k * 5 + 2, none⟩ = some (.int .i64 bc) := y2
        replace y3 : w.cell? ⟨b2, o2 + k * 5 + 3, none⟩ = some (.int .i64 bu) := y3
        replace y4 : w.cell? ⟨b2, o2 + k * 5 + 4, none⟩ = some (.string bd) := y4
        by_cases hs : (⟨⟨an, at1, ac⟩, au, ad⟩ : R5) = ⟨⟨bn, bt1, bc⟩, bu, bd⟩
        · have hke : ∀ W, (binOp .neq 77 (.agg #[.string an, .int .i64 at1, .int .i64 ac, .int .i64 au, .string ad]) (.agg #[.string bn, .int .i64 bt1, .int .i64 bc, .int .i64 bu, .string bd])).run Try.prog W = .ok (.bool false) W := fun W => by
            rw [rr_neq, (rr_same an bn at1 bt1 ac bc au bu ad bd).2 hs]; rfl
          have HN := Lib.hid (show L.take (k + 1) = M.take (k + 1) by
            rw [List.take_add_one, List.take_add_one, hall.out, HR1.out, HR2.out, hs])
          clear hs
          go_wp2_with fail
          go_quiet (fail)
          go_wp2
          rename_i nq
          go_roundw
          case rel => exact ⟨k + 1, q + nq, by omega, by go_num, HN, by first | rfl | exact drewN_add _ _ _⟩
          case measure => simp [intOf]; omega
        · have hke : ∀ W, (binOp .neq 77 (.agg #[.string an, .int .i64 at1, .int .i64 ac, .int .i64 au, .string ad]) (.agg #[.string bn, .int .i64 bt1, .int .i64 bc, .int .i64 bu, .string bd])).run Try.prog W = .ok (.bool true) W := fun W => by
            rw [rr_neq, Bool.eq_false_iff.2 (fun h => hs ((rr_same an bn at1 bt1 ac bc au bu ad bd).1 h))]; rfl
          have HF := Lib.hid (show ¬ L = M from fun h => by
            have h1 := HR1.out
            rw [h, HR2.out] at h1
            exact hs (Option.some.inj h1).symm)
          clear hs
          go_wp2_with fail
          go_quiet (fail)
          go_wp2
          rename_i nq
          have HB := Lib.hid (below_drewN (below_drewN (Below.refl w.heap.size w) q) nq)
          go_ret
          exact ⟨ret_bool (dF HF.out).symm, HB.out⟩
      · have hkn : k = n := by omega
        have HF := Lib.hid (show L = M by
          have h1 := hall.out
          rw [List.take_of_length_le (by rw [HLA.out]; omega), List.take_of_length_le (by rw [HLB.out]; omega)] at h1
          exact h1)
        have HB := Lib.hid (below_drewN (Below.refl w.heap.size w) q)
        subst hkn
        go_wp2
        go_ret
        exact ⟨ret_bool (dT HF.out).symm, HB.out⟩
  · have e0 : ((n : Int) != (m : Int)) = true := nT (by omega)
    have HF := Lib.hid (show ¬ L = M from fun h => hnm (by rw [← HLA.out, ← HLB.out, h]))
    go_enter Try.func14, Try.ntmps14
    go_wp2
    go_ret
    exact ⟨ret_bool (dF HF.out).symm, Below.refl _ _⟩

end Go.Proofs.Ytgppkpdjpcegbaa
end

section
namespace Go.Proofs.Ytgppkpdjpcegbaa
open Go.RowKit

theorem MsgAt.open2 {w : World} {v : Value} {m : MsgP} (h : MsgAt w v m) : ∃ (mi mo mr : Int) (b1 b2 b3 b4 b5 : Bool) (qa na sa xa : Option Addr) (ql qc nl nc sl sc xl xc : Nat), v = .agg #[.int .i64 mi, .int .i64 mo, .int .i64 mr, .bool b1, .bool b2, .bool b3, .bool b4, .bool b5, .slice qa ql qc, .slice na nl nc, .slice sa sl sc, .slice xa xl xc] ∧ m.q.length = ql ∧ m.a.length = nl ∧ m.n.length = sl ∧ m.x.length = xl ∧ RowQ w qa ql m.q ∧ RowR w na nl m.a ∧ RowR w sa sl m.n ∧ RowR w xa xl m.x ∧ (qa = none → ql = 0 ∧ qc = 0) ∧ (na = none → nl = 0 ∧ nc = 0) ∧ (sa = none → sl = 0 ∧ sc = 0) ∧ (xa = none → xl = 0 ∧ xc = 0) := by
  obtain ⟨qa, qc, na, nc, sa, sc, xa, xc, rfl, h1, h2, h3, h4⟩ := h
  exact ⟨_, _, _, _, _, _, _, _, qa, na, sa, xa, _, qc, _, nc, _, sc, _, xc, rfl, rfl, rfl, rfl, rfl, h1.1, h2.1, h3.1, h4.1, h1.2, h2.2, h3.2, h4.2⟩
/-- A message whose sections are copies, in its block. -/
def CpC (w2 : World) (mi mo mr : Int) (b1 b2 b3 b4 b5 : Bool) (qa : Option Addr) (ql qc nl sl xl : Nat) (A N X : List R5) (v : Value) (wx : World) : Prop := ∃ (q3 : Nat) (na3 sa3 xa3 : Option Addr) (nc3 sc3 xc3 : Nat), v = .pointer (some ⟨q3, 0, none⟩) ∧ w2.heap.size ≤ q3 ∧ CN wx q3 [.int .i64 mi, .int .i64 mo, .int .i64 mr, .bool b1, .bool b2, .bool b3, .bool b4, .bool b5, .slice qa ql qc, .slice na3 nl nc3, .slice sa3 sl sc3, .slice xa3 xl xc3] ∧ TB wx q3 37 ∧ wx.ownsRow w2.heap.size 77 5 (.slice na3 nl nc3) nl (flatR A) ∧ wx.ownsRow w2.heap.size 77 5 (.slice sa3 sl sc3) sl (flatR N) ∧ wx.ownsRow w2.heap.size 77 5 (.slice xa3 xl xc3) xl (flatR X) ∧ Below w2.heap.size w2 wx

theorem msgAt_mk {w : World} {mi mo mr : Int} {b1 b2 b3 b4 b5 : Bool} {qa na sa xa : Option Addr} {ql qc nl nc sl sc xl xc : Nat} {Q : List Ky} {A N X : List R5} (h1 : RowQ w qa ql Q) (n1 : qa = none → ql = 0 ∧ qc = 0) (h2 : RowR w na nl A) (n2 : na = none → nl = 0 ∧ nc = 0) (h3 : RowR w sa sl N) (n3 : sa = none → sl = 0 ∧ sc = 0) (h4 : RowR w xa xl X) (n4 : xa = none → xl = 0 ∧ xc = 0) : MsgAt w (.agg #[.int .i64 mi, .int .i64 mo, .int .i64 mr, .bool b1, .bool b2, .bool b3, .bool b4, .bool b5, .slice qa ql qc, .slice na nl nc, .slice sa sl sc, .slice xa xl xc]) ⟨mi, mo, mr, b1, b2, b3, b4, b5, Q, A, N, X⟩ := by
  have e1 := h1.1
  have e2 := h2.1
  have e3 := h3.1
  have e4 := h4.1
  subst e1 e2 e3 e4
  exact ⟨qa, qc, na, nc, sa, sc, xa, xc, rfl, ⟨h1, n1⟩, ⟨h2, n2⟩, ⟨h3, n3⟩, h4, n4⟩
theorem tb_ne {w : World} {q q' : Nat} {T T' : TypeId} (h : TB w q T) (h' : TB w q' T') (hne : T ≠ T') : q ≠ q' := by
  rintro rfl
  obtain ⟨c, h⟩ := h
  obtain ⟨c', h'⟩ := h'
  rw [h] at h'
  injection h' with h'
  injection h' with _ h'
  exact hne h'
theorem own_apart {w w' : World} {B n size : Nat} {e : TypeId} {v : Value} {xs : List Value} {row : Option Nat} (h : w.ownsRow B e size v n xs) (hg : w.grownBy w' row) (hne : ∀ k, v.ownBlock = some k → row ≠ some k) : w'.ownsRow B e size v n xs :=
  h.kept hg (by
    cases hv : v.ownBlock with
    | none => exact Or.inl rfl
    | some k => exact Or.inr (fun e2 => hne k hv (by first | exact e2 | exact e2.symm)))
set_option maxRecDepth 100000 in
set_option maxHeartbeats 4000000 in
theorem add0 (q : Nat) (s : Int) (la : Option Addr) (ll lc : Nat) (w : World) (h1 : s ≠ 1) (h2 : s ≠ 2) (h3 : s ≠ 3) :
    Calls Try.prog 42 #[.pointer (some ⟨q, 0, none⟩), .int .i64 s, .slice la ll lc] w fun e w' => e = .returned (.bool false) ∧ w = w' := by
  have d1 := eF h1
  have d2 := eF h2
  have d3 := eF h3
  clear h1 h2 h3
  go_enter Try.func42, Try.ntmps42
  go_wp2
  go_ret
  exact ⟨rfl, rfl⟩
end Go.Proofs.Ytgppkpdjpcegbaa
end
