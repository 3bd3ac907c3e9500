/- Rows of records alike (out of RFi). -/
import Derived.Test.YtmhiglhgkgannaaSBa
import Derived.Laws.StructEq
namespace Go.Proofs.Ytmhiglhgkgannaa
open Go.RowKit

theorem rr_equal (an : ByteArray) (at1 ac au : Int) (ad bn : ByteArray) (bt bc bu : Int) (bd : ByteArray) (W : World) : (Op.equalIn 10000 30 (.agg #[.string an, .int .i64 at1, .int .i64 ac, .int .i64 au, .string ad]) (.agg #[.string bn, .int .i64 bt, .int .i64 bc, .int .i64 bu, .string bd])).run Try.prog W = .ok (an.toList == bn.toList && (at1 == bt && (ac == bc && (au == bu && ad.toList == bd.toList)))) W := by
  have u3 := Try.underlying3
  have a3 := Try.isAgg3
  have z3 := Try.sizeOf3
  have u9 := Try.underlying9
  have a9 := Try.isAgg9
  have z9 := Try.sizeOf9
  have hS : Try.prog.underlying 30 = some (.struct (Try.prog.fieldsOf 30)) := by
    simp [Program.fieldsOf, Try.underlying30]
  rw [show (10000 : Nat) = 9999 + 1 from rfl, run_equalIn_agg W 9999 30 _ _ hS (by kernel_rfl)]
  simp only [Program.fieldsOf, Try.underlying30]
  go_simp
  by_cases h1 : an.toList = bn.toList <;> by_cases h2 : at1 = bt <;> by_cases h3 : ac = bc <;> by_cases h4 : au = bu <;> by_cases h5 : ad.toList = bd.toList <;> simp [h1, h2, h3, h4, h5]
theorem rr_neq (an : ByteArray) (at1 ac au : Int) (ad bn : ByteArray) (bt bc bu : Int) (bd : ByteArray) (W : World) : (binOp .neq 30 (.agg #[.string an, .int .i64 at1, .int .i64 ac, .int .i64 au, .string ad]) (.agg #[.string bn, .int .i64 bt, .int .i64 bc, .int .i64 bu, .string bd])).run Try.prog W = .ok (.bool (!(an.toList == bn.toList && (at1 == bt && (ac == bc && (au == bu && ad.toList == bd.toList)))))) W := by
  rw [run_neq_struct, rr_equal]; rfl
theorem rr_same (an : ByteArray) (at1 ac au : Int) (ad bn : ByteArray) (bt bc bu : Int) (bd : ByteArray) : (an.toList == bn.toList && (at1 == bt && (ac == bc && (au == bu && ad.toList == bd.toList)))) = true ↔ (⟨⟨an, at1, ac⟩, au, ad⟩ : R5) = ⟨⟨bn, bt, bc⟩, bu, bd⟩ := by
  have h0 : ∀ x y : ByteArray, x.toList = y.toList ↔ x = y := fun x y => ⟨toList_inj4, fun h => by rw [h]⟩
  simp only [Bool.and_eq_true, beq_iff_eq, h0, R5.mk.injEq, Ky.mk.injEq]
  constructor
  · rintro ⟨h1, h2, h3, h4, h5⟩; exact ⟨⟨h1, h2, h3⟩, h4, h5⟩
  · rintro ⟨⟨h1, h2, h3⟩, h4, h5⟩; exact ⟨h1, h2, h3, h4, h5⟩

set_option maxRecDepth 100000 in
set_option maxHeartbeats 1600000 in
theorem rrs_any (a b : Option Addr) (n m ca cb : Nat) (L M : List R5) (w : World) (ha : RowR w a n L) (hb : RowR w b m M) (hn : n ≤ 100000) (hm : m ≤ 100000) :
    Calls Try.prog 15 #[.slice a n ca, .slice b m cb] w fun e w' => (∃ x : Bool, e = .returned (.bool x) ∧ (x = true ↔ L = M)) ∧ Below w.heap.size w w' := by
  have HRA := Lib.hid ha
  have HRB := Lib.hid hb
  have HLA := Lib.hid ha.1
  have HLB := Lib.hid hb.1
  clear ha hb
  by_cases hnm : n = m
  · subst hnm
    have e0 : ((n : Int) != (n : Int)) = false := nF rfl
    go_enter Try.func15, Try.ntmps15
    go_wp2_with fail
    go_loopw [5] (fun i wr => ∃ k q : Nat, k ≤ n ∧ i = .int .i64 k ∧ Hid (L.take k = M.take k) ∧ wr = w.drewN q) (fun i _ => n - (intOf i).toNat)
    case atStart => exact ⟨0, 0, Nat.zero_le _, rfl, rfl, rfl⟩
    case round =>
      obtain ⟨k, q, hk, rfl, hall, rfl⟩ := hrel
      by_cases hlt : k < n
      · obtain ⟨b1, o1, r1, rfl, hb1, hr1, x0, x1, x2, x3, x4⟩ := HRA.out.at k hlt
        obtain ⟨b2, o2, r2, rfl, hb2, hr2, y0, y1, y2, y3, y4⟩ := HRB.out.at k hlt
        obtain ⟨⟨an, at1, ac⟩, au, ad⟩ := r1
        obtain ⟨⟨bn, bt, bc⟩, bu, bd⟩ := r2
        have HR1 := Lib.hid hr1
        have HR2 := Lib.hid hr2
        have i1 : (0 : Int) ≤ (k : Int) := by omega
        have i2 : (k : Int) < (n : Int) := by omega
        clear hr1 hr2
        replace x0 : w.cell? ⟨b1, o1 + k * 5, none⟩ = some (.string an) := x0
        replace x1 : w.cell? ⟨b1, o1 + k * 5 + 1, none⟩ = some (.int .i64 at1) := x1
        replace x2 : w.cell? ⟨b1, o1 + k * 5 + 2, none⟩ = some (.int .i64 ac) := x2
        replace x3 : w.cell? ⟨b1, o1 + k * 5 + 3, none⟩ = some (.int .i64 au) := x3
        replace x4 : w.cell? ⟨b1, o1 + k * 5 + 4, none⟩ = some (.string ad) := x4
        replace y0 : w.cell? ⟨b2, o2 + k * 5, none⟩ = some (.string bn) := y0
        replace y1 : w.cell? ⟨b2, o2 + k * 5 + 1, none⟩ = some (.int .i64 bt) := y1
        replace y2 : w.cell? ⟨b2, o2 + k * 5 + 2, none⟩ = some (.int .i64 bc) := y2
        replace y3 : w.cell? ⟨b2, o2 + k * 5 + 3, none⟩ = some (.int .i64 bu) := y3
        replace y4 : w.cell? ⟨b2, o2 + k * 5 + 4, none⟩ = some (.string bd) := y4
        by_cases hs : (⟨⟨an, at1, ac⟩, au, ad⟩ : R5) = ⟨⟨bn, bt, bc⟩, bu, bd⟩
        · have hke : ∀ W, (binOp .neq 30 (.agg #[.string an, .int .i64 at1, .int .i64 ac, .int .i64 au, .string ad]) (.agg #[.string bn, .int .i64 bt, .int .i64 bc, .int .i64 bu, .string bd])).run Try.prog W = .ok (.bool false) W := fun W => by
            rw [rr_neq, (rr_same an at1 ac au ad bn bt bc bu bd).2 hs]; rfl
          have HN := Lib.hid (show L.take (k + 1) = M.take (k + 1) by
            rw [List.take_add_one, List.take_add_one, hall.out, HR1.out, HR2.out, hs])
          clear hs
          go_wp2_with fail
          go_quiet (fail)
          go_wp2
          rename_i nq
          go_roundw
          case rel => exact ⟨k + 1, q + nq, by omega, by go_num, HN, by first | rfl | exact drewN_add _ _ _⟩
          case measure => simp [intOf]; omega
        · have hke : ∀ W, (binOp .neq 30 (.agg #[.string an, .int .i64 at1, .int .i64 ac, .int .i64 au, .string ad]) (.agg #[.string bn, .int .i64 bt, .int .i64 bc, .int .i64 bu, .string bd])).run Try.prog W = .ok (.bool true) W := fun W => by
            rw [rr_neq, Bool.eq_false_iff.2 (fun h => hs ((rr_same an at1 ac au ad bn bt bc bu bd).1 h))]; rfl
          have HF := Lib.hid (show ¬ L = M from fun h => by
            have h1 := HR1.out
            rw [h, HR2.out] at h1
            exact hs (Option.some.inj h1).symm)
          clear hs
          go_wp2_with fail
          go_quiet (fail)
          go_wp2
          rename_i nq
          have HB := Lib.hid (below_drewN (below_drewN (Below.refl w.heap.size w) q) nq)
          go_ret
          exact ⟨⟨false, rfl, ⟨(fun h => by cases h), fun h => absurd h HF.out⟩⟩, HB.out⟩
      · have hkn : k = n := by omega
        have HF := Lib.hid (show L = M by
          have h1 := hall.out
          rw [List.take_of_length_le (by rw [HLA.out]; omega), List.take_of_length_le (by rw [HLB.out]; omega)] at h1
          exact h1)
        have HB := Lib.hid (below_drewN (Below.refl w.heap.size w) q)
        subst hkn
        go_wp2
        go_ret
        exact ⟨⟨true, rfl, ⟨fun _ => HF.out, fun _ => rfl⟩⟩, HB.out⟩
  · have e0 : ((n : Int) != (m : Int)) = true := nT (by omega)
    have HF := Lib.hid (show ¬ L = M from fun h => hnm (by rw [← HLA.out, ← HLB.out, h]))
    go_enter Try.func15, Try.ntmps15
    go_wp2_with fail
    go_ret
    exact ⟨⟨false, rfl, ⟨(fun h => by cases h), fun h => absurd h HF.out⟩⟩, Below.refl _ _⟩
end Go.Proofs.Ytmhiglhgkgannaa
