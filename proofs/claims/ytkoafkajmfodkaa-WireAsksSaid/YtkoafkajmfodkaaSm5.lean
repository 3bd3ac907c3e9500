/- wire.Same: slices.Equal of records and of questions; headers. -/
import Derived.Test.YtkoafkajmfodkaaFs6
import Derived.Laws.StructEq
import Derived.BigQuiet
import Derived.Deep.QuietTactic
namespace Go.Proofs.Ytkoafkajmfodkaa
open Go.RowKit

theorem toList_inj5 {s t : ByteArray} (h : s.toList = t.toList) : s = t := by
  have h2 : s.data.toList = t.data.toList := (bs_toList s.data.toList).symm.trans (Eq.trans h (bs_toList t.data.toList))
  exact ByteArray.ext (Array.toList_inj.1 h2)
theorem rr_equal (an bn : ByteArray) (at1 bt : Int) (ac bc : Int) (au bu : Int) (ad bd : ByteArray) (W : World) : (Op.equalIn 10000 75 (.agg #[.string an, .int .i64 at1, .int .i64 ac, .int .i64 au, .string ad]) (.agg #[.string bn, .int .i64 bt, .int .i64 bc, .int .i64 bu, .string bd])).run Try.prog W = .ok (an.toList == bn.toList && (at1 == bt && (ac == bc && (au == bu && (ad.toList == bd.toList))))) W := by
  have u3 := Try.underlying3
  have a3 := Try.isAgg3
  have z3 := Try.sizeOf3
  have u9 := Try.underlying9
  have a9 := Try.isAgg9
  have z9 := Try.sizeOf9
  have hS : Try.prog.underlying 75 = some (.struct (Try.prog.fieldsOf 75)) := by
    simp [Program.fieldsOf, Try.underlying75]
  rw [show (10000 : Nat) = 9999 + 1 from rfl, run_equalIn_agg W 9999 75 _ _ hS (by kernel_rfl)]
  simp only [Program.fieldsOf, Try.underlying75]
  go_simp
  by_cases h0 : an.toList = bn.toList <;> by_cases h1 : at1 = bt <;> by_cases h2 : ac = bc <;> by_cases h3 : au = bu <;> by_cases h4 : ad.toList = bd.toList <;> simp [h0, h1, h2, h3, h4]
theorem rr_neq (an bn : ByteArray) (at1 bt : Int) (ac bc : Int) (au bu : Int) (ad bd : ByteArray) (W : World) : (binOp .neq 75 (.agg #[.string an, .int .i64 at1, .int .i64 ac, .int .i64 au, .string ad]) (.agg #[.string bn, .int .i64 bt, .int .i64 bc, .int .i64 bu, .string bd])).run Try.prog W = .ok (.bool (!(an.toList == bn.toList && (at1 == bt && (ac == bc && (au == bu && (ad.toList == bd.toList))))))) W := by
  rw [run_neq_struct, rr_equal]; rfl
theorem rr_eql (an bn : ByteArray) (at1 bt : Int) (ac bc : Int) (au bu : Int) (ad bd : ByteArray) (W : World) : (binOp .eql 75 (.agg #[.string an, .int .i64 at1, .int .i64 ac, .int .i64 au, .string ad]) (.agg #[.string bn, .int .i64 bt, .int .i64 bc, .int .i64 bu, .string bd])).run Try.prog W = .ok (.bool (an.toList == bn.toList && (at1 == bt && (ac == bc && (au == bu && (ad.toList == bd.toList)))))) W := by
  rw [run_eql_struct, rr_equal]; rfl
theorem rr_same (an bn : ByteArray) (at1 bt ac bc au bu : Int) (ad bd : ByteArray) : (an.toList == bn.toList && (at1 == bt && (ac == bc && (au == bu && (ad.toList == bd.toList))))) = true ↔ (⟨⟨an, at1, ac⟩, au, ad⟩ : R5) = ⟨⟨bn, bt, bc⟩, bu, bd⟩ := by
  have h0 : ∀ x y : ByteArray, x.toList = y.toList ↔ x = y := fun x y => ⟨toList_inj5, fun h => by rw [h]⟩
  simp only [Bool.and_eq_true, beq_iff_eq, h0, R5.mk.injEq, Ky.mk.injEq]
  constructor
  · rintro ⟨h1, h2, h3, h4, h5⟩; exact ⟨⟨h1, h2, h3⟩, h4, h5⟩
  · rintro ⟨⟨h1, h2, h3⟩, h4, h5⟩; exact ⟨h1, h2, h3, h4, h5⟩
theorem qq_equal (an bn : ByteArray) (at1 bt : Int) (ac bc : Int) (W : World) : (Op.equalIn 10000 70 (.agg #[.string an, .int .i64 at1, .int .i64 ac]) (.agg #[.string bn, .int .i64 bt, .int .i64 bc])).run Try.prog W = .ok (an.toList == bn.toList && (at1 == bt && (ac == bc))) W := by
  have u3 := Try.underlying3
  have a3 := Try.isAgg3
  have z3 := Try.sizeOf3
  have u9 := Try.underlying9
  have a9 := Try.isAgg9
  have z9 := Try.sizeOf9
  have hS : Try.prog.underlying 70 = some (.struct (Try.prog.fieldsOf 70)) := by
    simp [Program.fieldsOf, Try.underlying70]
  rw [show (10000 : Nat) = 9999 + 1 from rfl, run_equalIn_agg W 9999 70 _ _ hS (by kernel_rfl)]
  simp only [Program.fieldsOf, Try.underlying70]
  go_simp
  by_cases h0 : an.toList = bn.toList <;> by_cases h1 : at1 = bt <;> by_cases h2 : ac = bc <;> simp [h0, h1, h2]
theorem qq_neq (an bn : ByteArray) (at1 bt : Int) (ac bc : Int) (W : World) : (binOp .neq 70 (.agg #[.string an, .int .i64 at1, .int .i64 ac]) (.agg #[.string bn, .int .i64 bt, .int .i64 bc])).run Try.prog W = .ok (.bool (!(an.toList == bn.toList && (at1 == bt && (ac == bc))))) W := by
  rw [run_neq_struct, qq_equal]; rfl
theorem qq_eql (an bn : ByteArray) (at1 bt : Int) (ac bc : Int) (W : World) : (binOp .eql 70 (.agg #[.string an, .int .i64 at1, .int .i64 ac]) (.agg #[.string bn, .int .i64 bt, .int .i64 bc])).run Try.prog W = .ok (.bool (an.toList == bn.toList && (at1 == bt && (ac == bc)))) W := by
  rw [run_eql_struct, qq_equal]; rfl
theorem qq_same (an bn : ByteArray) (at1 bt ac bc : Int) : (an.toList == bn.toList && (at1 == bt && (ac == bc))) = true ↔ (⟨an, at1, ac⟩ : Ky) = ⟨bn, bt, bc⟩ := by
  have h0 : ∀ x y : ByteArray, x.toList = y.toList ↔ x = y := fun x y => ⟨toList_inj5, fun h => by rw [h]⟩
  simp only [Bool.and_eq_true, beq_iff_eq, h0, Ky.mk.injEq]
instance decKy : DecidableEq Ky := fun a b => decidable_of_iff ((a.n.toList == b.n.toList && (a.t == b.t && a.c == b.c)) = true) (qq_same a.n b.n a.t b.t a.c b.c)
instance decR5 : DecidableEq R5 := fun a b => decidable_of_iff ((a.k.n.toList == b.k.n.toList && (a.k.t == b.k.t && (a.k.c == b.k.c && (a.ttl == b.ttl && a.d.toList == b.d.toList)))) = true) (rr_same a.k.n b.k.n a.k.t b.k.t a.k.c b.k.c a.ttl b.ttl a.d b.d)
theorem hd_equal (ai bi : Int) (ao bo : Int) (ar br : Int) (p1 q1 : Bool) (p2 q2 : Bool) (p3 q3 : Bool) (p4 q4 : Bool) (p5 q5 : Bool) (W : World) : (Op.equalIn 10000 23 (.agg #[.int .i64 ai, .int .i64 ao, .int .i64 ar, .bool p1, .bool p2, .bool p3, .bool p4, .bool p5]) (.agg #[.int .i64 bi, .int .i64 bo, .int .i64 br, .bool q1, .bool q2, .bool q3, .bool q4, .bool q5])).run Try.prog W = .ok (ai == bi && (ao == bo && (ar == br && (p1 == q1 && (p2 == q2 && (p3 == q3 && (p4 == q4 && (p5 == q5)))))))) W := by
  have u3 := Try.underlying3
  have a3 := Try.isAgg3
  have z3 := Try.sizeOf3
  have u4 := Try.underlying4
  have a4 := Try.isAgg4
  have z4 := Try.sizeOf4
  have hS : Try.prog.underlying 23 = some (.struct (Try.prog.fieldsOf 23)) := by
    simp [Program.fieldsOf, Try.underlying23]
  rw [show (10000 : Nat) = 9999 + 1 from rfl, run_equalIn_agg W 9999 23 _ _ hS (by kernel_rfl)]
  simp only [Program.fieldsOf, Try.underlying23]
  go_simp
  by_cases h0 : ai = bi <;> by_cases h1 : ao = bo <;> by_cases h2 : ar = br <;> by_cases h3 : p1 = q1 <;> by_cases h4 : p2 = q2 <;> by_cases h5 : p3 = q3 <;> by_cases h6 : p4 = q4 <;> by_cases h7 : p5 = q5 <;> simp [h0, h1, h2, h3, h4, h5, h6, h7]
theorem hd_neq (ai bi : Int) (ao bo : Int) (ar br : Int) (p1 q1 : Bool) (p2 q2 : Bool) (p3 q3 : Bool) (p4 q4 : Bool) (p5 q5 : Bool) (W : World) : (binOp .neq 23 (.agg #[.int .i64 ai, .int .i64 ao, .int .i64 ar, .bool p1, .bool p2, .bool p3, .bool p4, .bool p5]) (.agg #[.int .i64 bi, .int .i64 bo, .int .i64 br, .bool q1, .bool q2, .bool q3, .bool q4, .bool q5])).run Try.prog W = .ok (.bool (!(ai == bi && (ao == bo && (ar == br && (p1 == q1 && (p2 == q2 && (p3 == q3 && (p4 == q4 && (p5 == q5)))))))))) W := by
  rw [run_neq_struct, hd_equal]; rfl
theorem hd_eql (ai bi : Int) (ao bo : Int) (ar br : Int) (p1 q1 : Bool) (p2 q2 : Bool) (p3 q3 : Bool) (p4 q4 : Bool) (p5 q5 : Bool) (W : World) : (binOp .eql 23 (.agg #[.int .i64 ai, .int .i64 ao, .int .i64 ar, .bool p1, .bool p2, .bool p3, .bool p4, .bool p5]) (.agg #[.int .i64 bi, .int .i64 bo, .int .i64 br, .bool q1, .bool q2, .bool q3, .bool q4, .bool q5])).run Try.prog W = .ok (.bool (ai == bi && (ao == bo && (ar == br && (p1 == q1 && (p2 == q2 && (p3 == q3 && (p4 == q4 && (p5 == q5))))))))) W := by
  rw [run_eql_struct, hd_equal]; rfl
theorem op_equal (az bz : Int) (av bv : Int) (ar br : Int) (p1 q1 : Bool) (ad bd : ByteArray) (W : World) : (Op.equalIn 10000 80 (.agg #[.int .i64 az, .int .i64 av, .int .i64 ar, .bool p1, .string ad]) (.agg #[.int .i64 bz, .int .i64 bv, .int .i64 br, .bool q1, .string bd])).run Try.prog W = .ok (az == bz && (av == bv && (ar == br && (p1 == q1 && (ad.toList == bd.toList))))) W := by
  have u3 := Try.underlying3
  have a3 := Try.isAgg3
  have z3 := Try.sizeOf3
  have u9 := Try.underlying9
  have a9 := Try.isAgg9
  have z9 := Try.sizeOf9
  have u4 := Try.underlying4
  have a4 := Try.isAgg4
  have z4 := Try.sizeOf4
  have hS : Try.prog.underlying 80 = some (.struct (Try.prog.fieldsOf 80)) := by
    simp [Program.fieldsOf, Try.underlying80]
  rw [show (10000 : Nat) = 9999 + 1 from rfl, run_equalIn_agg W 9999 80 _ _ hS (by kernel_rfl)]
  simp only [Program.fieldsOf, Try.underlying80]
  go_simp
  by_cases h0 : az = bz <;> by_cases h1 : av = bv <;> by_cases h2 : ar = br <;> by_cases h3 : p1 = q1 <;> by_cases h4 : ad.toList = bd.toList <;> simp [h0, h1, h2, h3, h4]
theorem op_neq (az bz : Int) (av bv : Int) (ar br : Int) (p1 q1 : Bool) (ad bd : ByteArray) (W : World) : (binOp .neq 80 (.agg #[.int .i64 az, .int .i64 av, .int .i64 ar, .bool p1, .string ad]) (.agg #[.int .i64 bz, .int .i64 bv, .int .i64 br, .bool q1, .string bd])).run Try.prog W = .ok (.bool (!(az == bz && (av == bv && (ar == br && (p1 == q1 && (ad.toList == bd.toList))))))) W := by
  rw [run_neq_struct, op_equal]; rfl
theorem op_eql (az bz : Int) (av bv : Int) (ar br : Int) (p1 q1 : Bool) (ad bd : ByteArray) (W : World) : (binOp .eql 80 (.agg #[.int .i64 az, .int .i64 av, .int .i64 ar, .bool p1, .string ad]) (.agg #[.int .i64 bz, .int .i64 bv, .int .i64 br, .bool q1, .string bd])).run Try.prog W = .ok (.bool (az == bz && (av == bv && (ar == br && (p1 == q1 && (ad.toList == bd.toList)))))) W := by
  rw [run_eql_struct, op_equal]; rfl

set_option maxRecDepth 100000 in
set_option maxHeartbeats 1600000 in
theorem eqRR (a b : Option Addr) (n m ca cb : Nat) (L M : List R5) (w : World) (ha : RowR w a n L) (hb : RowR w b m M) (hn : n ≤ 100000) (hm : m ≤ 100000) :
    Calls Try.prog 74 #[.slice a n ca, .slice b m cb] w fun e w' => e = .returned (.bool (decide (L = M))) ∧ Below w.heap.size w w' := by
  have HRA := Lib.hid ha
  have HRB := Lib.hid hb
  have HLA := Lib.hid ha.1
  have HLB := Lib.hid hb.1
  clear ha hb
  by_cases hnm : n = m
  · subst hnm
    have e0 : ((n : Int) != (n : Int)) = false := nF rfl
    go_enter Try.func74, Try.ntmps74
    go_wp2_with fail
    go_loopw [13] (fun i wr => ∃ k q : Nat, k ≤ n ∧ i = .int .i64 k ∧ Hid (L.take k = M.take k) ∧ wr = w.drewN q) (fun i _ => n - (intOf i).toNat)
    case atStart => exact ⟨0, 0, Nat.zero_le _, rfl, rfl, rfl⟩
    case round =>
      obtain ⟨k, q, hk, rfl, hall, rfl⟩ := hrel
      by_cases hlt : k < n
      · obtain ⟨b1, o1, r1, rfl, hb1, hr1, x0, x1, x2, x3, x4⟩ := HRA.out.at k hlt
        obtain ⟨b2, o2, r2, rfl, hb2, hr2, y0, y1, y2, y3, y4⟩ := HRB.out.at k hlt
        obtain ⟨⟨an, at1, ac⟩, au, ad⟩ := r1
        obtain ⟨⟨bn, bt1, bc⟩, bu, bd⟩ := r2
        have HR1 := Lib.hid hr1
        have HR2 := Lib.hid hr2
        have i1 : (0 : Int) ≤ (k : Int) := by omega
        have i2 : (k : Int) < (n : Int) := by omega
        clear hr1 hr2
        replace x0 : w.cell? ⟨b1, o1 + k * 5, none⟩ = some (.string an) := x0
        replace x1 : w.cell? ⟨b1, o1 + k * 5 + 1, none⟩ = some (.int .i64 at1) := x1
        replace x2 : w.cell? ⟨b1, o1 + k * 5 + 2, none⟩ = some (.int .i64 ac) := x2
        replace x3 : w.cell? ⟨b1, o1 + k * 5 + 3, none⟩ = some (.int .i64 au) := x3
        replace x4 : w.cell? ⟨b1, o1 + k * 5 + 4, none⟩ = some (.string ad) := x4
        replace y0 : w.cell? ⟨b2, o2 + k * 5, none⟩ = some (.string bn) := y0
        replace y1 : w.cell? ⟨b2, o2 + k * 5 + 1, none⟩ = some (.int .i64 bt1) := y1
        replace y2 : w.cell? ⟨b2, o2 + k * 5 + 2, none⟩ = some (.int .i64 bc) := y2
        replace y3 : w.cell? ⟨b2, o2 + k * 5 + 3, none⟩ = some (.int .i64 bu) := y3
        replace y4 : w.cell? ⟨b2, o2 + k * 5 + 4, none⟩ = some (.string bd) := y4
        by_cases hs : (⟨⟨an, at1, ac⟩, au, ad⟩ : R5) = ⟨⟨bn, bt1, bc⟩, bu, bd⟩
        · have hke : ∀ W, (binOp .neq 75 (.agg #[.string an, .int .i64 at1, .int .i64 ac, .int .i64 au, .string ad]) (.agg #[.string bn, .int .i64 bt1, .int .i64 bc, .int .i64 bu, .string bd])).run Try.prog W = .ok (.bool false) W := fun W => by
            rw [rr_neq, (rr_same an bn at1 bt1 ac bc au bu ad bd).2 hs]; rfl
          have HN := Lib.hid (show L.take (k + 1) = M.take (k + 1) by
            rw [List.take_add_one, List.take_add_one, hall.out, HR1.out, HR2.out, hs])
          clear hs
          go_wp2_with fail
          go_quiet (fail)
          go_wp2
          rename_i nq
          go_roundw
          case rel => exact ⟨k + 1, q + nq, by omega, by go_num, HN, by first | rfl | exact drewN_add _ _ _⟩
          case measure => simp [intOf]; omega
        · have hke : ∀ W, (binOp .neq 75 (.agg #[.string an, .int .i64 at1, .int .i64 ac, .int .i64 au, .string ad]) (.agg #[.string bn, .int .i64 bt1, .int .i64 bc, .int .i64 bu, .string bd])).run Try.prog W = .ok (.bool true) W := fun W => by
            rw [rr_neq, Bool.eq_false_iff.2 (fun h => hs ((rr_same an bn at1 bt1 ac bc au bu ad bd).1 h))]; rfl
          have HF := Lib.hid (show ¬ L = M from fun h => by
            have h1 := HR1.out
            rw [h, HR2.out] at h1
            exact hs (Option.some.inj h1).symm)
          clear hs
          go_wp2_with fail
          go_quiet (fail)
          go_wp2
          rename_i nq
          have HB := Lib.hid (below_drewN (below_drewN (Below.refl w.heap.size w) q) nq)
          go_ret
          exact ⟨ret_bool (dF HF.out).symm, HB.out⟩
      · have hkn : k = n := by omega
        have HF := Lib.hid (show L = M by
          have h1 := hall.out
          rw [List.take_of_length_le (by rw [HLA.out]; omega), List.take_of_length_le (by rw [HLB.out]; omega)] at h1
          exact h1)
        have HB := Lib.hid (below_drewN (Below.refl w.heap.size w) q)
        subst hkn
        go_wp2
        go_ret
        exact ⟨ret_bool (dT HF.out).symm, HB.out⟩
  · have e0 : ((n : Int) != (m : Int)) = true := nT (by omega)
    have HF := Lib.hid (show ¬ L = M from fun h => hnm (by rw [← HLA.out, ← HLB.out, h]))
    go_enter Try.func74, Try.ntmps74
    go_wp2
    go_ret
    exact ⟨ret_bool (dF HF.out).symm, Below.refl _ _⟩

set_option maxRecDepth 100000 in
set_option maxHeartbeats 1600000 in
theorem eqQQ (a b : Option Addr) (n m ca cb : Nat) (L M : List Ky) (w : World) (ha : RowQ w a n L) (hb : RowQ w b m M) (hn : n ≤ 100000) (hm : m ≤ 100000) :
    Calls Try.prog 73 #[.slice a n ca, .slice b m cb] w fun e w' => e = .returned (.bool (decide (L = M))) ∧ Below w.heap.size w w' := by
  have HRA := Lib.hid ha
  have HRB := Lib.hid hb
  have HLA := Lib.hid ha.1
  have HLB := Lib.hid hb.1
  clear ha hb
  by_cases hnm : n = m
  · subst hnm
    have e0 : ((n : Int) != (n : Int)) = false := nF rfl
    go_enter Try.func73, Try.ntmps73
    go_wp2_with fail
    go_loopw [13] (fun i wr => ∃ k q : Nat, k ≤ n ∧ i = .int .i64 k ∧ Hid (L.take k = M.take k) ∧ wr = w.drewN q) (fun i _ => n - (intOf i).toNat)
    case atStart => exact ⟨0, 0, Nat.zero_le _, rfl, rfl, rfl⟩
    case round =>
      obtain ⟨k, q, hk, rfl, hall, rfl⟩ := hrel
      by_cases hlt : k < n
      · obtain ⟨b1, o1, r1, rfl, hb1, hr1, x0, x1, x2⟩ := HRA.out.at k hlt
        obtain ⟨b2, o2, r2, rfl, hb2, hr2, y0, y1, y2⟩ := HRB.out.at k hlt
        obtain ⟨an, at1, ac⟩ := r1
        obtain ⟨bn, bt1, bc⟩ := r2
        have HR1 := Lib.hid hr1
        have HR2 := Lib.hid hr2
        have i1 : (0 : Int) ≤ (k : Int) := by omega
        have i2 : (k : Int) < (n : Int) := by omega
        clear hr1 hr2
        replace x0 : w.cell? ⟨b1, o1 + k * 3, none⟩ = some (.string an) := x0
        replace x1 : w.cell? ⟨b1, o1 + k * 3 + 1, none⟩ = some (.int .i64 at1) := x1
        replace x2 : w.cell? ⟨b1, o1 + k * 3 + 2, none⟩ = some (.int .i64 ac) := x2
        replace y0 : w.cell? ⟨b2, o2 + k * 3, none⟩ = some (.string bn) := y0
        replace y1 : w.cell? ⟨b2, o2 + k * 3 + 1, none⟩ = some (.int .i64 bt1) := y1
        replace y2 : w.cell? ⟨b2, o2 + k * 3 + 2, none⟩ = some (.int .i64 bc) := y2
        by_cases hs : (⟨an, at1, ac⟩ : Ky) = ⟨bn, bt1, bc⟩
        · have hke : ∀ W, (binOp .neq 70 (.agg #[.string an, .int .i64 at1, .int .i64 ac]) (.agg #[.string bn, .int .i64 bt1, .int .i64 bc])).run Try.prog W = .ok (.bool false) W := fun W => by
            rw [qq_neq, (qq_same an bn at1 bt1 ac bc).2 hs]; rfl
          have HN := Lib.hid (show L.take (k + 1) = M.take (k + 1) by
            rw [List.take_add_one, List.take_add_one, hall.out, HR1.out, HR2.out, hs])
          clear hs
          go_wp2_with fail
          go_quiet (fail)
          go_wp2
          rename_i nq
          go_roundw
          case rel => exact ⟨k + 1, q + nq, by omega, by go_num, HN, by first | rfl | exact drewN_add _ _ _⟩
          case measure => simp [intOf]; omega
        · have hke : ∀ W, (binOp .neq 70 (.agg #[.string an, .int .i64 at1, .int .i64 ac]) (.agg #[.string bn, .int .i64 bt1, .int .i64 bc])).run Try.prog W = .ok (.bool true) W := fun W => by
            rw [qq_neq, Bool.eq_false_iff.2 (fun h => hs ((qq_same an bn at1 bt1 ac bc).1 h))]; rfl
          have HF := Lib.hid (show ¬ L = M from fun h => by
            have h1 := HR1.out
            rw [h, HR2.out] at h1
            exact hs (Option.some.inj h1).symm)
          clear hs
          go_wp2_with fail
          go_quiet (fail)
          go_wp2
          rename_i nq
          have HB := Lib.hid (below_drewN (below_drewN (Below.refl w.heap.size w) q) nq)
          go_ret
          exact ⟨ret_bool (dF HF.out).symm, HB.out⟩
      · have hkn : k = n := by omega
        have HF := Lib.hid (show L = M by
          have h1 := hall.out
          rw [List.take_of_length_le (by rw [HLA.out]; omega), List.take_of_length_le (by rw [HLB.out]; omega)] at h1
          exact h1)
        have HB := Lib.hid (below_drewN (Below.refl w.heap.size w) q)
        subst hkn
        go_wp2
        go_ret
        exact ⟨ret_bool (dT HF.out).symm, HB.out⟩
  · have e0 : ((n : Int) != (m : Int)) = true := nT (by omega)
    have HF := Lib.hid (show ¬ L = M from fun h => hnm (by rw [← HLA.out, ← HLB.out, h]))
    go_enter Try.func73, Try.ntmps73
    go_wp2
    go_ret
    exact ⟨ret_bool (dF HF.out).symm, Below.refl _ _⟩
theorem hd_same (ai bi ao bo ar br : Int) (p1 q1 p2 q2 p3 q3 p4 q4 p5 q5 : Bool) : (ai == bi && (ao == bo && (ar == br && (p1 == q1 && (p2 == q2 && (p3 == q3 && (p4 == q4 && (p5 == q5)))))))) = true ↔ (ai = bi ∧ ao = bo ∧ ar = br ∧ p1 = q1 ∧ p2 = q2 ∧ p3 = q3 ∧ p4 = q4 ∧ p5 = q5) := by
  simp only [Bool.and_eq_true, beq_iff_eq]
end Go.Proofs.Ytkoafkajmfodkaa
