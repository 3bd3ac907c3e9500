/- Texts that others rest on, one behind the other: Fm5, Fs6, Sm5, SaM, Fg5, Ma5, En5, Ec5, Bt6. -/
import Derived.Test.YtgppkpdjpcegbaaWth
import Derived.Laws.StructEq
import Derived.BigQuiet
import Derived.Deep.QuietTactic
import Derived.Test.YtgppkpdjpcegbaaMgC
import Derived.Test.YtgppkpdjpcegbaaMgA
section
namespace Go.Proofs.Ytgppkpdjpcegbaa
open Go.RowKit

def SzM (m : MsgP) : Prop := (m.q.length ≤ 9223372036854775807 ∧ ∀ k ∈ m.q, k.n.size ≤ 9223372036854775807) ∧ (m.a.length ≤ 9223372036854775807 ∧ ∀ r ∈ m.a, SzR r) ∧ (m.n.length ≤ 9223372036854775807 ∧ ∀ r ∈ m.n, SzR r) ∧ (m.x.length ≤ 9223372036854775807 ∧ ∀ r ∈ m.x, SzR r)
def SmallM (m : MsgP) : Prop := (m.q.length ≤ 310 ∧ ∀ k ∈ m.q, k.n.size ≤ 60000) ∧ (m.a.length ≤ 400 ∧ ∀ r ∈ m.a, SmR r) ∧ (m.n.length ≤ 400 ∧ ∀ r ∈ m.n, SmR r) ∧ (m.x.length ≤ 400 ∧ ∀ r ∈ m.x, SmR r)
theorem SmallM.sm {m : MsgP} (h : SmallM m) : SmM m := ⟨by have := h.1.1; omega, by have := h.2.1.1; omega, by have := h.2.2.1.1; omega, by have := h.2.2.2.1; omega⟩
theorem withM_any (v : Value) (m : MsgP) (la : Option Addr) (n lc : Nat) (L : List OptP) (w : World) (h : MsgAt w v m) (hs : SmallM m) (hl : RowO w la n L) (hln : n ≤ 1000) (hlz : ∀ o ∈ L, o.data.size ≤ 9223372036854775807) :
    Calls Try.prog 19 #[v, .slice la n lc] w fun e w' => ((withE L = 0 ∧ ∃ v', e = .returned (.tuple #[v', .int .i64 0]) ∧ MsgOwn w' w.heap.size v' { m with x := keepR optB m.x ++ L.map putR }) ∨ (withE L ≠ 0 ∧ e = .returned (.tuple #[.agg #[.int .i64 0, .int .i64 0, .int .i64 0, .bool false, .bool false, .bool false, .bool false, .bool false, .slice none 0 0, .slice none 0 0, .slice none 0 0, .slice none 0 0], .int .i64 (withE L)]))) ∧ Below w.heap.size w w' := by
  obtain ⟨qa, qc, na, nc, sa, sc, xa, xc, rfl, h1, h2, h3, h4⟩ := h
  exact with_ex _ _ _ _ _ _ _ _ _ _ _ _ _ _ _ _ _ _ _ _ m.q m.a m.n m.x la n lc L w h1.1 h1.2 h2.1 h2.2 h3.1 h3.2 h4.1 h4.2 (by have := hs.1.1; omega) (by have := hs.2.1.1; omega) (by have := hs.2.2.1.1; omega) (by have := hs.2.2.2.1; omega) hl hln hlz
end Go.Proofs.Ytgppkpdjpcegbaa
end

section
namespace Go.Proofs.Ytgppkpdjpcegbaa
open Go.RowKit

theorem MsgAt.cells {w : World} {v : Value} {m : MsgP} (h : MsgAt w v m) : ∃ (mi mo mr : Int) (b1 b2 b3 b4 b5 : Bool) (qa na sa xa : Option Addr) (ql qc nl nc sl sc xl xc : Nat), v = .agg #[.int .i64 mi, .int .i64 mo, .int .i64 mr, .bool b1, .bool b2, .bool b3, .bool b4, .bool b5, .slice qa ql qc, .slice na nl nc, .slice sa sl sc, .slice xa xl xc] := by
  obtain ⟨qa, qc, na, nc, sa, sc, xa, xc, rfl, _⟩ := h
  exact ⟨_, _, _, _, _, _, _, _, qa, na, sa, xa, _, qc, _, nc, _, sc, _, xc, rfl⟩
theorem keepR_app (p : R5 → Bool) (A B : List R5) : keepR p (A ++ B) = keepR p A ++ keepR p B := List.filter_append _ _
theorem keep_two (X : List R5) : keepR optN (keepR optB X) = [] := by
  rw [keepR, keepR, List.filter_filter, List.filter_eq_nil_iff]
  intro r _
  simp [optN, optB]
theorem keep_bb (X : List R5) : keepR optB (keepR optB X) = keepR optB X := by
  rw [keepR, keepR, List.filter_filter]
  congr 1
  funext r
  simp
theorem putR_ok {o : OptP} (h : putE o = 0) : putR o = ⟨⟨⟨#[0]⟩, 41, o.size⟩, ttlO o, o.data⟩ := by rw [putR, if_pos h]
theorem keepN_put {o : OptP} (h : putE o = 0) : keepR optN [putR o] = [putR o] := by rw [putR_ok h]; rfl
theorem getO_none (X : List R5) : getO (keepR optB X) = (opt0, false, 0) := by rw [getO, keep_two]; rfl
theorem root_list : (⟨#[0]⟩ : ByteArray).toList = [0] := by decide +kernel
theorem getO_one (X : List R5) {o : OptP} (h : putE o = 0) : getO (keepR optB X ++ [putR o]) = (optOf (putR o), true, 0) := by
  rw [getO, keepR_app, keep_two, keepN_put h, List.nil_append, getF, if_pos (by rw [putR_ok h]; exact root_list)]
theorem getO_two (X : List R5) {o p : OptP} (h : putE o = 0) (h2 : putE p = 0) : getO (keepR optB X ++ [putR o, putR p]) = (opt0, false, 7) := by
  rw [getO, show keepR optB X ++ [putR o, putR p] = (keepR optB X ++ [putR o]) ++ [putR p] by simp, keepR_app, keepR_app, keep_two, keepN_put h, keepN_put h2]
  rfl
theorem sizeO_none (X : List R5) (l k : Int) : sizeO (keepR optB X) l k = l := by rw [sizeO, getO_none]; rfl
theorem sizeO_two (X : List R5) {o p : OptP} (h : putE o = 0) (h2 : putE p = 0) (l k : Int) : sizeO (keepR optB X ++ [putR o, putR p]) l k = l := by rw [sizeO, getO_two X h h2]; rfl
theorem sizeO_one (X : List R5) {o : OptP} (h : putE o = 0) (l k : Int) : sizeO (keepR optB X ++ [putR o]) l k = if k < (if o.size < l then l else o.size) then k else (if o.size < l then l else o.size) := by
  rw [sizeO, getO_one X h, if_pos rfl]
  show (if k < (if (optOf (putR o)).size < l then l else (optOf (putR o)).size) then k else (if (optOf (putR o)).size < l then l else (optOf (putR o)).size)) = _
  rw [putR_ok h]; rfl
theorem sizeO_rng (X : List R5) {l k : Int} (h : l ≤ k) : l ≤ sizeO X l k ∧ sizeO X l k ≤ k := by
  rw [sizeO]
  split
  · split <;> split <;> omega
  · omega
theorem putE_size {s : Int} {d : Bool} (h1 : 0 ≤ s) (h2 : s ≤ 65535) : putE ⟨s, 0, 0, d, ⟨#[]⟩⟩ = 0 := by
  have e : inR s 65535 = true := by simp [inR, h1, h2]
  rw [putE]
  simp only [e]
  rfl
theorem rowO_lit1 (w : World) (s : Int) (d : Bool) : RowO (w.alloc (.cells #[.int .i64 s, .int .i64 0, .int .i64 0, .bool d, .string ⟨#[]⟩] 42)) (some ⟨w.heap.size, 0, none⟩) 1 [⟨s, 0, 0, d, ⟨#[]⟩⟩] :=
  ⟨rfl, cells_lit w #[.int .i64 s, .int .i64 0, .int .i64 0, .bool d, .string ⟨#[]⟩] 42⟩
theorem rowO_lit2 (w : World) (s : Int) : RowO (w.alloc (.cells #[.int .i64 s, .int .i64 0, .int .i64 0, .bool false, .string ⟨#[]⟩, .int .i64 0, .int .i64 0, .int .i64 0, .bool false, .string ⟨#[]⟩] 42)) (some ⟨w.heap.size, 0, none⟩) 2 [⟨s, 0, 0, false, ⟨#[]⟩⟩, opt0] :=
  ⟨rfl, cells_lit w #[.int .i64 s, .int .i64 0, .int .i64 0, .bool false, .string ⟨#[]⟩, .int .i64 0, .int .i64 0, .int .i64 0, .bool false, .string ⟨#[]⟩] 42⟩
theorem small_ask (i : Int) : SmallM (askM i []) := ⟨⟨by simp [askM], by simp [askM]⟩, ⟨by simp [askM], by simp [askM]⟩, ⟨by simp [askM], by simp [askM]⟩, ⟨by simp [askM], by simp [askM]⟩⟩
theorem rowQ_nil (w : World) : RowQ w none 0 [] := ⟨rfl, rfl, Or.inl rfl⟩
def o900 : OptP := ⟨900, 0, 0, true, ⟨#[]⟩⟩
theorem put900 : putE o900 = 0 := putE_size (by decide) (by decide)
theorem get900 : getO [putR o900] = (optOf (putR o900), true, 0) := getO_one [] put900
theorem do900 : (optOf (putR o900)).d = true := by rw [putR_ok put900]; decide +kernel
theorem sz900 : (optOf (putR o900)).size = 900 := by rw [putR_ok put900]; rfl
theorem size900 : sizeO [putR o900] 512 1232 = 900 := (sizeO_one [] put900 512 1232).trans (by decide)

end Go.Proofs.Ytgppkpdjpcegbaa
end

section
namespace Go.Proofs.Ytgppkpdjpcegbaa
open Go.RowKit

theorem toList_inj5 {s t : ByteArray} (h : s.toList = t.toList) : s = t := by
  have h2 : s.data.toList = t.data.toList := (bs_toList s.data.toList).symm.trans (Eq.trans h (bs_toList t.data.toList))
  exact ByteArray.ext (Array.toList_inj.1 h2)
theorem rr_equal (an bn : ByteArray) (at1 bt : Int) (ac bc : Int) (au bu : Int) (ad bd : ByteArray) (W : World) : (Op.equalIn 10000 77 (.agg #[.string an, .int .i64 at1, .int .i64 ac, .int .i64 au, .string ad]) (.agg #[.string bn, .int .i64 bt, .int .i64 bc, .int .i64 bu, .string bd])).run Try.prog W = .ok (an.toList == bn.toList && (at1 == bt && (ac == bc && (au == bu && (ad.toList == bd.toList))))) W := by
  have u3 := Try.underlying3
  have a3 := Try.isAgg3
  have z3 := Try.sizeOf3
  have u9 := Try.underlying9
  have a9 := Try.isAgg9
  have z9 := Try.sizeOf9
  have hS : Try.prog.underlying 77 = some (.struct (Try.prog.fieldsOf 77)) := by
    simp [Program.fieldsOf, Try.underlying77]
  rw [show (10000 : Nat) = 9999 + 1 from rfl, run_equalIn_agg W 9999 77 _ _ hS (by kernel_rfl)]
  simp only [Program.fieldsOf, Try.underlying77]
  go_simp
  by_cases h0 : an.toList = bn.toList <;> by_cases h1 : at1 = bt <;> by_cases h2 : ac = bc <;> by_cases h3 : au = bu <;> by_cases h4 : ad.toList = bd.toList <;> simp [h0, h1, h2, h3, h4]
theorem rr_neq (an bn : ByteArray) (at1 bt : Int) (ac bc : Int) (au bu : Int) (ad bd : ByteArray) (W : World) : (binOp .neq 77 (.agg #[.string an, .int .i64 at1, .int .i64 ac, .int .i64 au, .string ad]) (.agg #[.string bn, .int .i64 bt, .int .i64 bc, .int .i64 bu, .string bd])).run Try.prog W = .ok (.bool (!(an.toList == bn.toList && (at1 == bt && (ac == bc && (au == bu && (ad.toList == bd.toList))))))) W := by
  rw [run_neq_struct, rr_equal]; rfl
theorem rr_eql (an bn : ByteArray) (at1 bt : Int) (ac bc : Int) (au bu : Int) (ad bd : ByteArray) (W : World) : (binOp .eql 77 (.agg #[.string an, .int .i64 at1, .int .i64 ac, .int .i64 au, .string ad]) (.agg #[.string bn, .int .i64 bt, .int .i64 bc, .int .i64 bu, .string bd])).run Try.prog W = .ok (.bool (an.toList == bn.toList && (at1 == bt && (ac == bc && (au == bu && (ad.toList == bd.toList)))))) W := by
  rw [run_eql_struct, rr_equal]; rfl
theorem rr_same (an bn : ByteArray) (at1 bt ac bc au bu : Int) (ad bd : ByteArray) : (an.toList == bn.toList && (at1 == bt && (ac == bc && (au == bu && (ad.toList == bd.toList))))) = true ↔ (⟨⟨an, at1, ac⟩, au, ad⟩ : R5) = ⟨⟨bn, bt, bc⟩, bu, bd⟩ := by
  have h0 : ∀ x y : ByteArray, x.toList = y.toList ↔ x = y := fun x y => ⟨toList_inj5, fun h => by rw [h]⟩
  simp only [Bool.and_eq_true, beq_iff_eq, h0, R5.mk.injEq, Ky.mk.injEq]
  constructor
  · rintro ⟨h1, h2, h3, h4, h5⟩; exact ⟨⟨h1, h2, h3⟩, h4, h5⟩
  · rintro ⟨⟨h1, h2, h3⟩, h4, h5⟩; exact ⟨h1, h2, h3, h4, h5⟩
theorem qq_equal (an bn : ByteArray) (at1 bt : Int) (ac bc : Int) (W : World) : (Op.equalIn 10000 27 (.agg #[.string an, .int .i64 at1, .int .i64 ac]) (.agg #[.string bn, .int .i64 bt, .int .i64 bc])).run Try.prog W = .ok (an.toList == bn.toList && (at1 == bt && (ac == bc))) W := by
  have u3 := Try.underlying3
  have a3 := Try.isAgg3
  have z3 := Try.sizeOf3
  have u9 := Try.underlying9
  have a9 := Try.isAgg9
  have z9 := Try.sizeOf9
  have hS : Try.prog.underlying 27 = some (.struct (Try.prog.fieldsOf 27)) := by
    simp [Program.fieldsOf, Try.underlying27]
  rw [show (10000 : Nat) = 9999 + 1 from rfl, run_equalIn_agg W 9999 27 _ _ hS (by kernel_rfl)]
  simp only [Program.fieldsOf, Try.underlying27]
  go_simp
  by_cases h0 : an.toList = bn.toList <;> by_cases h1 : at1 = bt <;> by_cases h2 : ac = bc <;> simp [h0, h1, h2]
theorem qq_neq (an bn : ByteArray) (at1 bt : Int) (ac bc : Int) (W : World) : (binOp .neq 27 (.agg #[.string an, .int .i64 at1, .int .i64 ac]) (.agg #[.string bn, .int .i64 bt, .int .i64 bc])).run Try.prog W = .ok (.bool (!(an.toList == bn.toList && (at1 == bt && (ac == bc))))) W := by
  rw [run_neq_struct, qq_equal]; rfl
theorem qq_eql (an bn : ByteArray) (at1 bt : Int) (ac bc : Int) (W : World) : (binOp .eql 27 (.agg #[.string an, .int .i64 at1, .int .i64 ac]) (.agg #[.string bn, .int .i64 bt, .int .i64 bc])).run Try.prog W = .ok (.bool (an.toList == bn.toList && (at1 == bt && (ac == bc)))) W := by
  rw [run_eql_struct, qq_equal]; rfl
theorem qq_same (an bn : ByteArray) (at1 bt ac bc : Int) : (an.toList == bn.toList && (at1 == bt && (ac == bc))) = true ↔ (⟨an, at1, ac⟩ : Ky) = ⟨bn, bt, bc⟩ := by
  have h0 : ∀ x y : ByteArray, x.toList = y.toList ↔ x = y := fun x y => ⟨toList_inj5, fun h => by rw [h]⟩
  simp only [Bool.and_eq_true, beq_iff_eq, h0, Ky.mk.injEq]
instance decKy : DecidableEq Ky := fun a b => decidable_of_iff ((a.n.toList == b.n.toList && (a.t == b.t && a.c == b.c)) = true) (qq_same a.n b.n a.t b.t a.c b.c)
instance decR5 : DecidableEq R5 := fun a b => decidable_of_iff ((a.k.n.toList == b.k.n.toList && (a.k.t == b.k.t && (a.k.c == b.k.c && (a.ttl == b.ttl && a.d.toList == b.d.toList)))) = true) (rr_same a.k.n b.k.n a.k.t b.k.t a.k.c b.k.c a.ttl b.ttl a.d b.d)
theorem hd_equal (ai bi : Int) (ao bo : Int) (ar br : Int) (p1 q1 : Bool) (p2 q2 : Bool) (p3 q3 : Bool) (p4 q4 : Bool) (p5 q5 : Bool) (W : World) : (Op.equalIn 10000 33 (.agg #[.int .i64 ai, .int .i64 ao, .int .i64 ar, .bool p1, .bool p2, .bool p3, .bool p4, .bool p5]) (.agg #[.int .i64 bi, .int .i64 bo, .int .i64 br, .bool q1, .bool q2, .bool q3, .bool q4, .bool q5])).run Try.prog W = .ok (ai == bi && (ao == bo && (ar == br && (p1 == q1 && (p2 == q2 && (p3 == q3 && (p4 == q4 && (p5 == q5)))))))) W := by
  have u3 := Try.underlying3
  have a3 := Try.isAgg3
  have z3 := Try.sizeOf3
  have u4 := Try.underlying4
  have a4 := Try.isAgg4
  have z4 := Try.sizeOf4
  have hS : Try.prog.underlying 33 = some (.struct (Try.prog.fieldsOf 33)) := by
    simp [Program.fieldsOf, Try.underlying33]
  rw [show (10000 : Nat) = 9999 + 1 from rfl, run_equalIn_agg W 9999 33 _ _ hS (by kernel_rfl)]
  simp only [Program.fieldsOf, Try.underlying33]
  go_simp
  by_cases h0 : ai = bi <;> by_cases h1 : ao = bo <;> by_cases h2 : ar = br <;> by_cases h3 : p1 = q1 <;> by_cases h4 : p2 = q2 <;> by_cases h5 : p3 = q3 <;> by_cases h6 : p4 = q4 <;> by_cases h7 : p5 = q5 <;> simp [h0, h1, h2, h3, h4, h5, h6, h7]
theorem hd_neq (ai bi : Int) (ao bo : Int) (ar br : Int) (p1 q1 : Bool) (p2 q2 : Bool) (p3 q3 : Bool) (p4 q4 : Bool) (p5 q5 : Bool) (W : World) : (binOp .neq 33 (.agg #[.int .i64 ai, .int .i64 ao, .int .i64 ar, .bool p1, .bool p2, .bool p3, .bool p4, .bool p5]) (.agg #[.int .i64 bi, .int .i64 bo, .int .i64 br, .bool q1, .bool q2, .bool q3, .bool q4, .bool q5])).run Try.prog W = .ok (.bool (!(ai == bi && (ao == bo && (ar == br && (p1 == q1 && (p2 == q2 && (p3 == q3 && (p4 == q4 && (p5 == q5)))))))))) W := by
  rw [run_neq_struct, hd_equal]; rfl
theorem hd_eql (ai bi : Int) (ao bo : Int) (ar br : Int) (p1 q1 : Bool) (p2 q2 : Bool) (p3 q3 : Bool) (p4 q4 : Bool) (p5 q5 : Bool) (W : World) : (binOp .eql 33 (.agg #[.int .i64 ai, .int .i64 ao, .int .i64 ar, .bool p1, .bool p2, .bool p3, .bool p4, .bool p5]) (.agg #[.int .i64 bi, .int .i64 bo, .int .i64 br, .bool q1, .bool q2, .bool q3, .bool q4, .bool q5])).run Try.prog W = .ok (.bool (ai == bi && (ao == bo && (ar == br && (p1 == q1 && (p2 == q2 && (p3 == q3 && (p4 == q4 && (p5 == q5))))))))) W := by
  rw [run_eql_struct, hd_equal]; rfl
theorem op_equal (az bz : Int) (av bv : Int) (ar br : Int) (p1 q1 : Bool) (ad bd : ByteArray) (W : World) : (Op.equalIn 10000 42 (.agg #[.int .i64 az, .int .i64 av, .int .i64 ar, .bool p1, .string ad]) (.agg #[.int .i64 bz, .int .i64 bv, .int .i64 br, .bool q1, .string bd])).run Try.prog W = .ok (az == bz && (av == bv && (ar == br && (p1 == q1 && (ad.toList == bd.toList))))) W := by
  have u3 := Try.underlying3
  have a3 := Try.isAgg3
  have z3 := Try.sizeOf3
  have u9 := Try.underlying9
  have a9 := Try.isAgg9
  have z9 := Try.sizeOf9
  have u4 := Try.underlying4
  have a4 := Try.isAgg4
  have z4 := Try.sizeOf4
  have hS : Try.prog.underlying 42 = some (.struct (Try.prog.fieldsOf 42)) := by
    simp [Program.fieldsOf, Try.underlying42]
  rw [show (10000 : Nat) = 9999 + 1 from rfl, run_equalIn_agg W 9999 42 _ _ hS (by kernel_rfl)]
  simp only [Program.fieldsOf, Try.underlying42]
  go_simp
  by_cases h0 : az = bz <;> by_cases h1 : av = bv <;> by_cases h2 : ar = br <;> by_cases h3 : p1 = q1 <;> by_cases h4 : ad.toList = bd.toList <;> simp [h0, h1, h2, h3, h4]
theorem op_neq (az bz : Int) (av bv : Int) (ar br : Int) (p1 q1 : Bool) (ad bd : ByteArray) (W : World) : (binOp .neq 42 (.agg #[.int .i64 az, .int .i64 av, .int .i64 ar, .bool p1, .string ad]) (.agg #[.int .i64 bz, .int .i64 bv, .int .i64 br, .bool q1, .string bd])).run Try.prog W = .ok (.bool (!(az == bz && (av == bv && (ar == br && (p1 == q1 && (ad.toList == bd.toList))))))) W := by
  rw [run_neq_struct, op_equal]; rfl
theorem op_eql (az bz : Int) (av bv : Int) (ar br : Int) (p1 q1 : Bool) (ad bd : ByteArray) (W : World) : (binOp .eql 42 (.agg #[.int .i64 az, .int .i64 av, .int .i64 ar, .bool p1, .string ad]) (.agg #[.int .i64 bz, .int .i64 bv, .int .i64 br, .bool q1, .string bd])).run Try.prog W = .ok (.bool (az == bz && (av == bv && (ar == br && (p1 == q1 && (ad.toList == bd.toList)))))) W := by
  rw [run_eql_struct, op_equal]; rfl

theorem hd_same (ai bi ao bo ar br : Int) (p1 q1 p2 q2 p3 q3 p4 q4 p5 q5 : Bool) : (ai == bi && (ao == bo && (ar == br && (p1 == q1 && (p2 == q2 && (p3 == q3 && (p4 == q4 && (p5 == q5)))))))) = true ↔ (ai = bi ∧ ao = bo ∧ ar = br ∧ p1 = q1 ∧ p2 = q2 ∧ p3 = q3 ∧ p4 = q4 ∧ p5 = q5) := by
  simp only [Bool.and_eq_true, beq_iff_eq]
end Go.Proofs.Ytgppkpdjpcegbaa
end

section
namespace Go.Proofs.Ytgppkpdjpcegbaa
open Go.RowKit

def sameB (m k : MsgP) : Bool := (m.i == k.i && (m.o == k.o && (m.r == k.r && (m.b1 == k.b1 && (m.b2 == k.b2 && (m.b3 == k.b3 && (m.b4 == k.b4 && (m.b5 == k.b5)))))))) && (decide (m.q = k.q) && (decide (m.a = k.a) && (decide (m.n = k.n) && decide (m.x = k.x))))
theorem sameB_iff (m k : MsgP) : sameB m k = true ↔ m = k := by
  obtain ⟨mi, mo, mr, m1, m2, m3, m4, m5, mq, ma, mn, mx⟩ := m
  obtain ⟨ki, ko, kr, k1, k2, k3, k4, k5, kq, ka, kn, kx⟩ := k
  simp only [sameB, Bool.and_eq_true, beq_iff_eq, decide_eq_true_eq, MsgP.mk.injEq]
  constructor
  · rintro ⟨⟨h1, h2, h3, h4, h5, h6, h7, h8⟩, h9, h10, h11, h12⟩
    exact ⟨h1, h2, h3, h4, h5, h6, h7, h8, h9, h10, h11, h12⟩
  · rintro ⟨h1, h2, h3, h4, h5, h6, h7, h8, h9, h10, h11, h12⟩
    exact ⟨⟨h1, h2, h3, h4, h5, h6, h7, h8⟩, h9, h10, h11, h12⟩
end Go.Proofs.Ytgppkpdjpcegbaa
end

section
namespace Go.Proofs.Ytgppkpdjpcegbaa
open Go.RowKit

set_option maxRecDepth 100000 in
theorem wfits_any (x m : Int) (w : World) : Calls Try.prog 52 #[.int .i64 x, .int .i64 m] w fun e w' => e = .returned (.bool (inR x m)) ∧ w = w' := by
  by_cases h1 : 0 ≤ x
  · have d1 := dT (p := 0 ≤ x) h1
    go_enter Try.func52, Try.ntmps52
    go_wp2
    go_ret
    exact ⟨ret_bool (by rw [inR, d1]; simp), rfl⟩
  · have d1 := dF (p := 0 ≤ x) h1
    go_enter Try.func52, Try.ntmps52
    go_wp2
    go_ret
    exact ⟨ret_bool (by rw [inR, d1]; rfl), rfl⟩
def FL (b1 b2 b3 b4 b5 : Bool) : List (Bool × Int) := [(b1, 32768), (b2, 1024), (b3, 512), (b4, 256), (b5, 128)]
def stepF (n : Int) (f : Bool × Int) : Int := if f.1 then bits .or .i64 n f.2 else n
/-- The flags of a header. -/
def flagV (o r : Int) (b1 b2 b3 b4 b5 : Bool) : Int := (FL b1 b2 b3 b4 b5).foldl stepF (bits .or .i64 (o * 2048) r)
def okF (o r : Int) : Bool := inR o 15 && inR r 15
theorem foldl_next {l : List (Bool × Int)} {k : Nat} {f : Bool × Int} (z : Int) (h : l[k]? = some f) : (l.take (k + 1)).foldl stepF z = stepF ((l.take k).foldl stepF z) f := by
  rw [List.take_add_one, h, List.foldl_append]; rfl
set_option maxRecDepth 100000 in
set_option maxHeartbeats 4000000 in
theorem flags_any (i o r : Int) (b1 b2 b3 b4 b5 : Bool) (w : World) :
    Calls Try.prog 35 #[.agg #[.int .i64 i, .int .i64 o, .int .i64 r, .bool b1, .bool b2, .bool b3, .bool b4, .bool b5]] w fun e w' => e = .returned (.tuple #[.int .i64 (if okF o r then flagV o r b1 b2 b3 b4 b5 else 0), .int .i64 (if okF o r then 0 else 1)]) ∧ Below w.heap.size w w' := by
  have hb1 := (Below.refl w.heap.size w).alloc (Nat.le_refl _) (.cells #[.int .i64 i, .int .i64 o, .int .i64 r, .bool b1, .bool b2, .bool b3, .bool b4, .bool b5] 33)
  cases h1 : inR o 15 with
  | false =>
    rw [show okF o r = false by rw [okF, h1]; rfl]
    simp only [Bool.false_eq_true, if_false]
    have HB := Lib.hid hb1
    clear hb1
    go_enter Try.func35, Try.ntmps35
    go_wp2_with fail
    refine (wfits_any _ _ _).mono ?_; rintro e w1 ⟨rfl, rfl⟩
    rw [h1]
    go_wp2
    go_ret2
    exact ⟨rfl, HB.out⟩
  | true =>
  cases h2 : inR r 15 with
  | false =>
    rw [show okF o r = false by rw [okF, h2]; simp]
    simp only [Bool.false_eq_true, if_false]
    have HB := Lib.hid hb1
    clear hb1
    go_enter Try.func35, Try.ntmps35
    go_wp2_with fail
    refine (wfits_any _ _ _).mono ?_; rintro e w1 ⟨rfl, rfl⟩
    rw [h1]
    go_wp2_with fail
    refine (wfits_any _ _ _).mono ?_; rintro e w1 ⟨rfl, rfl⟩
    rw [h2]
    go_wp2
    go_ret2
    exact ⟨rfl, HB.out⟩
  | true =>
  rw [show okF o r = true by rw [okF, h1, h2]; rfl]
  simp only [if_true]
  obtain ⟨o1, o2⟩ := inR_t h1
  obtain ⟨V, hV⟩ : ∃ x, flagV o r b1 b2 b3 b4 b5 = x := ⟨_, rfl⟩
  rw [hV]
  have HV := Lib.hid hV
  clear hV
  have hb2 := (Below.refl _ (w.alloc (.cells #[.int .i64 i, .int .i64 o, .int .i64 r, .bool b1, .bool b2, .bool b3, .bool b4, .bool b5] 33))).alloc (Nat.le_refl _) (.cells #[.bool b1, .int .i64 32768, .bool b2, .int .i64 1024, .bool b3, .int .i64 512, .bool b4, .int .i64 256, .bool b5, .int .i64 128] 109)
  have hbw := hb1.trans (hb2.mono hb1.size)
  have c2 := CN.new (w.alloc (.cells #[.int .i64 i, .int .i64 o, .int .i64 r, .bool b1, .bool b2, .bool b3, .bool b4, .bool b5] 33)) #[.bool b1, .int .i64 32768, .bool b2, .int .i64 1024, .bool b3, .int .i64 512, .bool b4, .int .i64 256, .bool b5, .int .i64 128] 109
  rw [World.size_alloc] at c2
  have HB2 := Lib.hid hbw
  have C2 := Lib.hid c2
  clear hb1 hb2 hbw c2
  obtain ⟨r1, r2⟩ := inR_t h2
  go_enter Try.func35, Try.ntmps35
  go_wp2_with fail
  refine (wfits_any _ _ _).mono ?_; rintro e w1 ⟨rfl, rfl⟩
  rw [h1]
  go_wp2_with fail
  refine (wfits_any _ _ _).mono ?_; rintro e w1 ⟨rfl, rfl⟩
  rw [h2]
  go_wp2_with fail
  clear h1 h2
  obtain ⟨w2, hw2⟩ : ∃ x, (w.alloc (.cells #[.int .i64 i, .int .i64 o, .int .i64 r, .bool b1, .bool b2, .bool b3, .bool b4, .bool b5] 33)).alloc (.cells #[.bool b1, .int .i64 32768, .bool b2, .int .i64 1024, .bool b3, .int .i64 512, .bool b4, .int .i64 256, .bool b5, .int .i64 128] 109) = x := ⟨_, rfl⟩
  obtain ⟨g, hg⟩ : ∃ x, w.heap.size + 1 = x := ⟨_, rfl⟩
  rw [hw2] at HB2 C2 ⊢
  rw [hg] at C2 ⊢
  clear hw2 hg
  go_loopw [4, 40] (fun n i wr => ∃ (k : Nat) (x : Int), k ≤ 5 ∧ i = .int .i64 k ∧ n = .int .i64 x ∧ Hid (((FL b1 b2 b3 b4 b5).take k).foldl stepF (bits .or .i64 (o * 2048) r) = x) ∧ Hid (Below w2.heap.size w2 wr)) (fun _ i _ => 5 - (intOf i).toNat)
  case atStart => exact ⟨0, _, by omega, rfl, rfl, Lib.hid rfl, Lib.hid (Below.refl _ _)⟩
  case round =>
    obtain ⟨k, x, hk, rfl, rfl, HX, HW⟩ := hrel
    by_cases hlt : k < 5
    · obtain ⟨b, z, hf, c0, c1⟩ : ∃ b z, (FL b1 b2 b3 b4 b5)[k]? = some (b, z) ∧ wr.cell? ⟨g, k * 2, none⟩ = some (.bool b) ∧ wr.cell? ⟨g, k * 2 + 1, none⟩ = some (.int .i64 z) := by
        obtain ⟨-, hc⟩ := C2.out.below HW.out
        have : k = 0 ∨ k = 1 ∨ k = 2 ∨ k = 3 ∨ k = 4 := by omega
        rcases this with rfl | rfl | rfl | rfl | rfl
        · exact ⟨_, _, rfl, (hc 0 _ rfl).1, (hc 1 _ rfl).1⟩
        · exact ⟨_, _, rfl, (hc 2 _ rfl).1, (hc 3 _ rfl).1⟩
        · exact ⟨_, _, rfl, (hc 4 _ rfl).1, (hc 5 _ rfl).1⟩
        · exact ⟨_, _, rfl, (hc 6 _ rfl).1, (hc 7 _ rfl).1⟩
        · exact ⟨_, _, rfl, (hc 8 _ rfl).1, (hc 9 _ rfl).1⟩
      have HN := Lib.hid (foldl_next (bits .or .i64 (o * 2048) r) hf)
      have HAL := Lib.hid (HW.out.alloc HW.out.size (.cells #[.bool b, .int .i64 z] 109))
      have i1 : (0 : Int) ≤ (k : Int) := by omega
      have i2 : (k : Int) < 5 := by omega
      clear hf
      cases b with
      | true =>
        go_wp2
        go_roundw
        case rel => exact ⟨k + 1, _, by omega, by go_num, rfl, Lib.hid (by rw [HN.out, HX.out]; rfl), HAL⟩
        case measure => simp [intOf]; omega
      | false =>
        go_wp2
        go_roundw
        case rel => exact ⟨k + 1, _, by omega, by go_num, rfl, Lib.hid (by rw [HN.out, HX.out]; rfl), HAL⟩
        case measure => simp [intOf]; omega
    · obtain rfl : k = 5 := by omega
      have HF := Lib.hid (show x = V by rw [← HX.out, ← HV.out]; rfl)
      have HBZ := Lib.hid (HB2.out.trans (HW.out.mono HB2.out.size))
      clear hlt hk
      go_wp2
      go_ret2
      exact ⟨by rw [HF.out]; rfl, HBZ.out⟩
set_option maxRecDepth 100000 in
set_option maxHeartbeats 4000000 in
theorem unflag_no (i f : Int) (w : World) (h : (inR i 65535 && inR f 65535) = false) :
    Calls Try.prog 44 #[.int .i64 i, .int .i64 f] w fun e w' => e = .returned (.tuple #[.agg #[.int .i64 0, .int .i64 0, .int .i64 0, .bool false, .bool false, .bool false, .bool false, .bool false], .int .i64 1]) ∧ Below w.heap.size w w' := by
  cases h1 : inR i 65535 with
  | false =>
    clear h
    go_enter Try.func44, Try.ntmps44
    go_wp2_with fail
    refine (wfits_any _ _ _).mono ?_; rintro e w1 ⟨rfl, rfl⟩
    rw [h1]
    go_wp2
    refine bodyPost_ret (v := .tuple #[.agg #[.int .i64 0, .int .i64 0, .int .i64 0, .bool false, .bool false, .bool false, .bool false, .bool false], .int .i64 1]) (by simp [results, Try.results44, go_sem]) rfl ⟨rfl, ?_⟩
    repeat (first | exact Below.refl _ _ | refine Below.alloc ?_ (by simp) _ | refine Below.setCell ?_ (by simp) _)
  | true =>
    have h2 : inR f 65535 = false := by rw [h1] at h; simpa using h
    clear h
    go_enter Try.func44, Try.ntmps44
    go_wp2_with fail
    refine (wfits_any _ _ _).mono ?_; rintro e w1 ⟨rfl, rfl⟩
    rw [h1]
    go_wp2_with fail
    refine (wfits_any _ _ _).mono ?_; rintro e w1 ⟨rfl, rfl⟩
    rw [h2]
    go_wp2
    refine bodyPost_ret (v := .tuple #[.agg #[.int .i64 0, .int .i64 0, .int .i64 0, .bool false, .bool false, .bool false, .bool false, .bool false], .int .i64 1]) (by simp [results, Try.results44, go_sem]) rfl ⟨rfl, ?_⟩
    repeat (first | exact Below.refl _ _ | refine Below.alloc ?_ (by simp) _ | refine Below.setCell ?_ (by simp) _)
set_option maxRecDepth 100000 in
set_option maxHeartbeats 4000000 in
theorem unflag_yes (i f : Int) (w : World) (h1 : inR i 65535 = true) (h2 : inR f 65535 = true) :
    Calls Try.prog 44 #[.int .i64 i, .int .i64 f] w fun e w' => e = .returned (.tuple #[.agg #[.int .i64 i, .int .i64 (bits .and .i64 (f / 2048) 15), .int .i64 (bits .and .i64 f 15), .bool (bits .and .i64 f 32768 != 0), .bool (bits .and .i64 f 1024 != 0), .bool (bits .and .i64 f 512 != 0), .bool (bits .and .i64 f 256 != 0), .bool (bits .and .i64 f 128 != 0)], .int .i64 0]) ∧ Below w.heap.size w w' := by
  go_enter Try.func44, Try.ntmps44
  go_wp2_with fail
  refine (wfits_any _ _ _).mono ?_; rintro e w1 ⟨rfl, rfl⟩
  rw [h1]
  go_wp2_with fail
  refine (wfits_any _ _ _).mono ?_; rintro e w1 ⟨rfl, rfl⟩
  rw [h2]
  clear h1 h2
  go_wp2
  refine bodyPost_ret (v := .tuple #[.agg #[.int .i64 i, .int .i64 (bits .and .i64 (f / 2048) 15), .int .i64 (bits .and .i64 f 15), .bool (bits .and .i64 f 32768 != 0), .bool (bits .and .i64 f 1024 != 0), .bool (bits .and .i64 f 512 != 0), .bool (bits .and .i64 f 256 != 0), .bool (bits .and .i64 f 128 != 0)], .int .i64 0]) (by simp [results, Try.results44, go_sem]) rfl ⟨rfl, ?_⟩
  repeat (first | exact Below.refl _ _ | refine Below.alloc ?_ (by simp) _ | refine Below.setCell ?_ (by simp) _)
end Go.Proofs.Ytgppkpdjpcegbaa
end

section
namespace Go.Proofs.Ytgppkpdjpcegbaa
open Go.RowKit

theorem may_root : mayN ⟨#[0]⟩ = true := by decide +kernel
set_option maxRecDepth 100000 in
set_option maxHeartbeats 2000000 in
theorem mayAsk0 (w : World) : Calls Try.prog 53 #[.agg #[.string ⟨#[0]⟩, .int .i64 2, .int .i64 1]] w fun e w' => e = .returned (.bool true) ∧ Below w.heap.size w w' := by
  have HB := Lib.hid ((Below.refl w.heap.size w).alloc (Nat.le_refl _) (.cells #[.string ⟨#[0]⟩, .int .i64 2, .int .i64 1] 27))
  go_enter Try.func53, Try.ntmps53
  go_wp2_with fail
  refine (nmay_any ⟨#[0]⟩ _ (by decide)).mono ?_; rintro e w1 ⟨rfl, rfl⟩
  rw [may_root]
  go_wp2_with fail
  refine (wfits_any _ _ _).mono ?_; rintro e w1 ⟨rfl, rfl⟩
  rw [show inR 2 65535 = true by decide]
  go_wp2_with fail
  refine (wfits_any _ _ _).mono ?_; rintro e w1 ⟨rfl, rfl⟩
  rw [show inR 1 65535 = true by decide]
  go_wp2
  go_ret
  exact ⟨rfl, HB.out⟩
set_option maxRecDepth 100000 in
set_option maxHeartbeats 2000000 in
theorem mayAll0 (w : World) : Calls Try.prog 56 #[.slice none 0 0] w fun e w' => e = .returned (.bool true) ∧ w = w' := by
  go_enter Try.func56, Try.ntmps56
  go_wp2_with fail
  go_loopw [7] (fun i wr => i = .int .i64 0 ∧ w = wr) (fun _ _ => 0)
  case atStart => exact ⟨rfl, rfl⟩
  case round =>
    obtain ⟨rfl, rfl⟩ := hrel
    go_wp2
    go_ret
    exact ⟨rfl, rfl⟩
set_option maxRecDepth 100000 in
set_option maxHeartbeats 4000000 in
theorem may0 (qa : Option Addr) (qc : Nat) (w : World) (hq : RowQ w qa 1 [⟨⟨#[0]⟩, 2, 1⟩]) :
    Calls Try.prog 34 #[.agg #[.int .i64 1, .int .i64 0, .int .i64 0, .bool false, .bool false, .bool false, .bool false, .bool false, .slice qa 1 qc, .slice none 0 0, .slice none 0 0, .slice none 0 0]] w fun e w' => e = .returned (.bool true) ∧ Below w.heap.size w w' := by
  have hb1 := (Below.refl w.heap.size w).alloc (Nat.le_refl _) (.cells #[.int .i64 1, .int .i64 0, .int .i64 0, .bool false, .bool false, .bool false, .bool false, .bool false, .slice qa 1 qc, .slice none 0 0, .slice none 0 0, .slice none 0 0] 37)
  have HC := Lib.hid (CN.new w #[.int .i64 1, .int .i64 0, .int .i64 0, .bool false, .bool false, .bool false, .bool false, .bool false, .slice qa 1 qc, .slice none 0 0, .slice none 0 0, .slice none 0 0] 37)
  have HQ := Lib.hid (hq.below hb1)
  have HB := Lib.hid hb1
  clear hb1 hq
  go_enter Try.func34, Try.ntmps34
  go_wp2_with fail
  refine (wfits_any _ _ _).mono ?_; rintro e w1 ⟨rfl, rfl⟩
  rw [show inR 1 65535 = true by decide]
  go_wp2_with fail
  refine (wfits_any _ _ _).mono ?_; rintro e w1 ⟨rfl, rfl⟩
  rw [show inR 0 15 = true by decide]
  go_wp2_with fail
  refine (wfits_any _ _ _).mono ?_; rintro e w1 ⟨rfl, rfl⟩
  rw [show inR 0 15 = true by decide]
  go_wp2_with fail
  obtain ⟨w1, hw1⟩ : ∃ x, w.alloc (.cells #[.int .i64 1, .int .i64 0, .int .i64 0, .bool false, .bool false, .bool false, .bool false, .bool false, .slice qa 1 qc, .slice none 0 0, .slice none 0 0, .slice none 0 0] 37) = x := ⟨_, rfl⟩
  obtain ⟨q, hq⟩ : ∃ x, w.heap.size = x := ⟨_, rfl⟩
  rw [hw1] at HC HQ HB ⊢
  rw [hq] at HC
  rw [show (Value.pointer (some { block := w.heap.size, off := 0 })) = Value.pointer (some { block := q, off := 0 }) by rw [hq]]
  clear hw1 hq
  go_loopw [45] (fun i wr => ∃ k : Nat, k ≤ 1 ∧ i = .int .i64 k ∧ Hid (Below w1.heap.size w1 wr)) (fun i _ => 1 - (intOf i).toNat)
  case atStart => exact ⟨0, by omega, rfl, Lib.hid (Below.refl _ _)⟩
  case round =>
    obtain ⟨k, hk, rfl, HW⟩ := hrel
    by_cases hlt : k < 1
    · obtain rfl : k = 0 := by omega
      obtain ⟨b, o, r, rfl, hbl, hr, c0, c1, c2⟩ := (HQ.out.below HW.out).at 0 (by omega)
      obtain rfl : (⟨⟨#[0]⟩, 2, 1⟩ : Ky) = r := by simpa using hr
      simp only [Nat.zero_mul, Nat.add_zero] at c0 c1 c2
      have hba := (Below.refl _ _ : Below wr.heap.size wr wr).alloc (Nat.le_refl _) (.cells #[.string ⟨#[0]⟩, .int .i64 2, .int .i64 1] 27)
      have HW2 := Lib.hid (HW.out.trans (hba.mono HW.out.size))
      clear hr hba hlt hk hbl
      go_wp2_with fail
      refine (mayAsk0 _).mono ?_; rintro e w3 ⟨rfl, hb⟩
      have HW3 := Lib.hid (HW2.out.trans (hb.mono HW2.out.size))
      clear hb c0 c1 c2
      go_wp2
      go_roundw
      case rel => exact ⟨1, by omega, by go_num, HW3⟩
      case measure => simp [intOf]
    · obtain rfl : k = 1 := by omega
      have HC2 := Lib.hid (HC.out.below HW.out)
      have HB2 := Lib.hid (HB.out.trans (HW.out.mono HB.out.size))
      clear hlt hk
      obtain ⟨y0, y1, y2, y3, y4, y5, y6, y7, y8, y9, y10, y11, -⟩ := HC2.out.u12
      go_wp2_with fail
      go_loopw [56] (fun i wx => i = .int .i64 0 ∧ wr = wx) (fun _ _ => 0)
      case atStart => exact ⟨rfl, rfl⟩
      case round =>
        obtain ⟨rfl, rfl⟩ := hrel
        go_wp2_with fail
        refine (mayAll0 _).mono ?_; rintro e w4 ⟨rfl, rfl⟩
        go_wp2_with fail
        refine (mayAll0 _).mono ?_; rintro e w4 ⟨rfl, rfl⟩
        go_wp2
        go_ret
        exact ⟨rfl, HB2.out⟩
end Go.Proofs.Ytgppkpdjpcegbaa
end

section
namespace Go.Proofs.Ytgppkpdjpcegbaa
open Go.RowKit

set_option maxRecDepth 100000 in
set_option maxHeartbeats 4000000 in
theorem numbers_any (q : Nat) (W : Int) (la : Option Addr) (n c : Nat) (l : List Int) (bv mv : Value) (X : List UInt8) (m B : Nat) (w : World) (hr : Row w la n l) (hn : n ≤ 100000) (hc : CN w q [bv, mv]) (ht : TB w q 85) (ho : w.ownsRow B 5 1 bv m (bc X)) (hB : B ≤ q) (hm : m + (joinL W l).length ≤ 1000000) :
    Calls Try.prog 36 #[.pointer (some ⟨q, 0, none⟩), .int .i64 W, .slice la n c] w fun e w' => e = .returned (.tuple #[]) ∧ ∃ bv', CN w' q [bv', mv] ∧ TB w' q 85 ∧ w'.ownsRow B 5 1 bv' (m + (joinL W l).length) (bc (X ++ joinL W l)) ∧ Below B w w' ∧ ∀ k, k < w.heap.size → k ≠ q → bv.ownBlock ≠ some k → w'.heap[k]? = w.heap[k]? := by
  obtain ⟨i0, hi, hz0, hz1, hz2⟩ := info_parts infoU8
  have HI := Lib.hid hi
  have HZ0 := Lib.hid hz0
  have HZ1 := Lib.hid hz1
  have HZ2 := Lib.hid hz2
  have HC := Lib.hid hc
  have HT := Lib.hid ht
  have HO := Lib.hid ho
  have HBS := Lib.hid (show B ≤ w.heap.size from Nat.le_trans hB (Nat.le_of_lt hc.1))
  have HB := Lib.hid (Below.refl B w)
  clear hi hz0 hz1 hz2 hc ht ho
  go_enter Try.func36, Try.ntmps36
  go_wp2_with fail
  refine (join_any W la n c l _ hr hn).mono ?_; rintro e w1 ⟨rfl, hb⟩
  replace HC := Lib.hid (HC.out.below hb)
  replace HT := Lib.hid (HT.out.below hb)
  replace HO := Lib.hid (own_below' HO.out hb)
  replace HB := Lib.hid (HB.out.trans (hb.mono HBS.out))
  replace HBS := Lib.hid (Nat.le_trans HBS.out hb.size)
  have HK0 := Lib.hid (fun k (hk : k < w.heap.size) => hb.block k hk)
  have HS0 := Lib.hid hb.size
  clear hb hr
  have c0 := (HC.out.2 0 _ rfl).1
  have f0 := (HC.out.2 0 _ rfl).2
  go_wp2_with (at_builtin; refine Lib.wpList_append_own_string _ rfl _ _ 22 9 rfl B 5 i0 Try.underlying22 Try.underlying9 HI.out HZ0.out HZ1.out HZ2.out _ m _ rfl HO.out (bs (joinL W l)) rfl ?c1 ?c2 ?c3 ?_)
  case c1 => rw [bs_size]; unfold maxLen; omega
  case c2 => rw [bs_size]; omega
  case c3 => exact HBS.out
  intro bv' w2 hown hgrow _
  rw [bs_size, strCells_bs, ← bc_append] at hown
  obtain ⟨sa, sc, rfl, -⟩ := cellsK_own hown
  have hne := own_ne HO.out HT.out (by decide)
  have hg := HB.out.grown hgrow HBS.out (fun k hk => (HO.out.lt k hk).1)
  have HC2 := Lib.hid (HC.out.grown hgrow (fun e => hne e.symm))
  have HT2 := Lib.hid (HT.out.grown hgrow hne)
  have HCZ := Lib.hid (HC2.out.set 0 (by simp) (.slice sa (m + (joinL W l).length) sc))
  have HTZ := Lib.hid (HT2.out.set 0 (.slice sa (m + (joinL W l).length) sc))
  have HOZ := Lib.hid (own_keeps hown HT2.out (by decide) (grown_cell w2 q 0 (.slice sa (m + (joinL W l).length) sc)))
  have HBZ := Lib.hid (hg.setCell hB (.slice sa (m + (joinL W l).length) sc) (p := ⟨q, 0, none⟩))
  have c0' := (HC2.out.2 0 _ rfl).1
  have f0' := (HC2.out.2 0 _ rfl).2
  have HKP := Lib.hid (fun k (hk : k < w.heap.size) (hq : k ≠ q) (hv : bv.ownBlock ≠ some k) => (heap_setCell_other w2 ⟨q, 0, none⟩ k (.slice sa (m + (joinL W l).length) sc) hq).trans ((hgrow.block k (Nat.lt_of_lt_of_le hk HS0.out) (fun e => hv e.symm)).trans (by first | exact HK0.out k hk | rfl)))
  clear c0 f0 hown hgrow hne hg
  go_wp2
  refine bodyPost_end (v := .tuple #[]) (by simp [results, Try.results36, go_sem]) rfl ⟨rfl, .slice sa (m + (joinL W l).length) sc, HCZ.out, HTZ.out, HOZ.out, HBZ.out, HKP.out⟩

set_option maxRecDepth 100000 in
set_option maxHeartbeats 4000000 in
theorem nameRoot (q : Nat)  (bv mv : Value) (X : List UInt8) (m B : Nat) (w : World)  (hc : CN w q [bv, mv]) (ht : TB w q 85) (ho : w.ownsRow B 5 1 bv m (bc X)) (hB : B ≤ q) (hm : m + 1 ≤ 1000000) :
    Calls Try.prog 37 #[.pointer (some ⟨q, 0, none⟩), .string ⟨#[0]⟩] w fun e w' => e = .returned (.tuple #[]) ∧ ∃ bv', CN w' q [bv', mv] ∧ TB w' q 85 ∧ w'.ownsRow B 5 1 bv' (m + 1) (bc (X ++ [0])) ∧ Below B w w' ∧ ∀ k, k < w.heap.size → k ≠ q → bv.ownBlock ≠ some k → w'.heap[k]? = w.heap[k]? := by
  obtain ⟨i0, hi, hz0, hz1, hz2⟩ := info_parts infoU8
  have HI := Lib.hid hi
  have HZ0 := Lib.hid hz0
  have HZ1 := Lib.hid hz1
  have HZ2 := Lib.hid hz2
  have HC := Lib.hid hc
  have HT := Lib.hid ht
  have HO := Lib.hid ho
  have HBS := Lib.hid (show B ≤ w.heap.size from Nat.le_trans hB (Nat.le_of_lt hc.1))
  have HB := Lib.hid (Below.refl B w)
  clear hi hz0 hz1 hz2 hc ht ho
  go_enter Try.func37, Try.ntmps37
  go_wp2_with fail
  go_loopw [1] (fun s wx => s = .string ⟨#[0]⟩ ∧ w = wx) (fun _ _ => 0)
  case atStart => exact ⟨rfl, rfl⟩
  case round =>
  obtain ⟨rfl, rfl⟩ := hrel
  have HK0 := Lib.hid (show ∀ k, k < w.heap.size → w.heap[k]? = w.heap[k]? from fun _ _ => rfl)
  have HS0 := Lib.hid (Nat.le_refl w.heap.size)
  have c0 := (HC.out.2 0 _ rfl).1
  have f0 := (HC.out.2 0 _ rfl).2
  go_wp2_with (at_builtin; refine Lib.wpList_append_own_string _ rfl _ _ 22 9 rfl B 5 i0 Try.underlying22 Try.underlying9 HI.out HZ0.out HZ1.out HZ2.out _ m _ rfl HO.out ⟨#[0]⟩ rfl ?c1 ?c2 ?c3 ?_)
  case c1 => first | omega | (show m + 1 ≤ _; unfold maxLen; omega)
  case c2 => first | omega | (show m + 1 ≤ _; omega)
  case c3 => exact HBS.out
  intro bv' w2 hown hgrow _
  rw [strCells_bc, ← bc_append] at hown
  obtain ⟨sa, sc, rfl, -⟩ := cellsK_own hown
  have hne := own_ne HO.out HT.out (by decide)
  have hg := HB.out.grown hgrow HBS.out (fun k hk => (HO.out.lt k hk).1)
  have HC2 := Lib.hid (HC.out.grown hgrow (fun e => hne e.symm))
  have HT2 := Lib.hid (HT.out.grown hgrow hne)
  have HCZ := Lib.hid (HC2.out.set 0 (by simp) (.slice sa (m + 1) sc))
  have HTZ := Lib.hid (HT2.out.set 0 (.slice sa (m + 1) sc))
  have HOZ := Lib.hid (own_keeps hown HT2.out (by decide) (grown_cell w2 q 0 (.slice sa (m + 1) sc)))
  have HBZ := Lib.hid (hg.setCell hB (.slice sa (m + 1) sc) (p := ⟨q, 0, none⟩))
  have c0' := (HC2.out.2 0 _ rfl).1
  have f0' := (HC2.out.2 0 _ rfl).2
  have HKP := Lib.hid (fun k (hk : k < w.heap.size) (hq : k ≠ q) (hv : bv.ownBlock ≠ some k) => (heap_setCell_other w2 ⟨q, 0, none⟩ k (.slice sa (m + 1) sc) hq).trans ((hgrow.block k (Nat.lt_of_lt_of_le hk HS0.out) (fun e => hv e.symm)).trans (by first | exact HK0.out k hk | rfl)))
  clear c0 f0 hown hgrow hne hg
  go_wp2
  refine bodyPost_end (v := .tuple #[]) (by simp [results, Try.results37, go_sem]) rfl ⟨rfl, .slice sa (m + 1) sc, HCZ.out, HTZ.out, HOZ.out, HBZ.out, HKP.out⟩
end Go.Proofs.Ytgppkpdjpcegbaa
end

section
namespace Go.Proofs.Ytgppkpdjpcegbaa
open Go.RowKit

theorem rowRR3 (w : World) {na sa xa : Option Addr} {nl nc sl sc xl xc : Nat} {A N X : List R5} (ha : RowR w na nl A) (han : na = none → nl = 0 ∧ nc = 0) (hn : RowR w sa sl N) (hnn : sa = none → sl = 0 ∧ sc = 0) (hx : RowR w xa xl X) (hxn : xa = none → xl = 0 ∧ xc = 0) : RowRR (w.alloc (.cells #[.slice na nl nc, .slice sa sl sc, .slice xa xl xc] 35)) (some ⟨w.heap.size, 0, none⟩) 3 [A, N, X] := by
  have hba := (Below.refl w.heap.size w).alloc (Nat.le_refl _) (.cells #[.slice na nl nc, .slice sa sl sc, .slice xa xl xc] 35)
  refine ⟨_, cells_lit w #[.slice na nl nc, .slice sa sl sc, .slice xa xl xc] 35, rfl, fun j u hj => ?_⟩
  match j, hj with
  | 0, hj =>
    obtain rfl : Value.slice na nl nc = u := by simpa using hj
    exact ⟨A, rfl, na, nc, by rw [ha.1], by rw [ha.1]; exact ha.below hba, by rw [ha.1]; exact han⟩
  | 1, hj =>
    obtain rfl : Value.slice sa sl sc = u := by simpa using hj
    exact ⟨N, rfl, sa, sc, by rw [hn.1], by rw [hn.1]; exact hn.below hba, by rw [hn.1]; exact hnn⟩
  | 2, hj =>
    obtain rfl : Value.slice xa xl xc = u := by simpa using hj
    exact ⟨X, rfl, xa, xc, by rw [hx.1], by rw [hx.1]; exact hx.below hba, by rw [hx.1]; exact hxn⟩
  | j + 3, hj => simp at hj
set_option maxRecDepth 100000 in
set_option maxHeartbeats 4000000 in
theorem all_ex (mi mo mr : Int) (b1 b2 b3 b4 b5 : Bool) (qa na sa xa : Option Addr) (ql qc nl nc sl sc xl xc : Nat) (A N X : List R5) (w : World) (ha : RowR w na nl A) (han : na = none → nl = 0 ∧ nc = 0) (hn : RowR w sa sl N) (hnn : sa = none → sl = 0 ∧ sc = 0) (hx : RowR w xa xl X) (hxn : xa = none → xl = 0 ∧ xc = 0) (hs : nl + sl + xl ≤ 100000) :
    Calls Try.prog 38 #[.agg #[.int .i64 mi, .int .i64 mo, .int .i64 mr, .bool b1, .bool b2, .bool b3, .bool b4, .bool b5, .slice qa ql qc, .slice na nl nc, .slice sa sl sc, .slice xa xl xc]] w fun e w' => ∃ v, e = .returned v ∧ w'.ownsRow w.heap.size 77 5 v (nl + sl + xl) (flatR (A ++ (N ++ X))) ∧ Below w.heap.size w w' := by
  have hb1 := (Below.refl w.heap.size w).alloc (Nat.le_refl _) (.cells #[.int .i64 mi, .int .i64 mo, .int .i64 mr, .bool b1, .bool b2, .bool b3, .bool b4, .bool b5, .slice qa ql qc, .slice na nl nc, .slice sa sl sc, .slice xa xl xc] 37)
  obtain ⟨w1, hw1⟩ : ∃ x, w.alloc (.cells #[.int .i64 mi, .int .i64 mo, .int .i64 mr, .bool b1, .bool b2, .bool b3, .bool b4, .bool b5, .slice qa ql qc, .slice na nl nc, .slice sa sl sc, .slice xa xl xc] 37) = x := ⟨_, rfl⟩
  rw [hw1] at hb1
  have HRR := Lib.hid (rowRR3 w1 (ha.below hb1) han (hn.below hb1) hnn (hx.below hb1) hxn)
  have hb2 := (Below.refl _ w1).alloc (Nat.le_refl _) (.cells #[.slice na nl nc, .slice sa sl sc, .slice xa xl xc] 35)
  obtain ⟨w2, hw2⟩ : ∃ x, w1.alloc (.cells #[.slice na nl nc, .slice sa sl sc, .slice xa xl xc] 35) = x := ⟨_, rfl⟩
  rw [hw2] at hb2 HRR
  have HB := Lib.hid (hb1.trans (hb2.mono hb1.size))
  obtain ⟨M, hM⟩ : ∃ x, [A, N, X] = x := ⟨_, rfl⟩
  rw [hM] at HRR
  have HS := Lib.hid (show M.flatten.length = nl + sl + xl by rw [← hM]; simp [ha.1, hn.1, hx.1]; omega)
  have HF := Lib.hid (show M.flatten = A ++ (N ++ X) by rw [← hM]; simp)
  obtain ⟨g, hg⟩ : ∃ x, w1.heap.size = x := ⟨_, rfl⟩
  rw [hg] at HRR
  have HG := Lib.hid (show w.heap.size + 1 = g by rw [← hg, ← hw1, World.size_alloc])
  have HW1 := Lib.hid hw1
  have HW2 := Lib.hid hw2
  clear ha han hn hnn hx hxn hb1 hb2 hM hg hw1 hw2
  go_enter Try.func38, Try.ntmps38
  go_wp2_with fail
  rw [HW1.out, HW2.out, HG.out]
  refine (concatRR (some ⟨g, 0, none⟩) 3 3 M w2 HRR.out (by omega) (by rw [HS.out]; exact hs)).mono ?_; rintro e w3 ⟨v, rfl, ho, hb⟩
  rw [HF.out] at ho
  have hl : (A ++ (N ++ X)).length = nl + sl + xl := by rw [← HF.out, HS.out]
  rw [hl] at ho
  have HO := Lib.hid (own_mono4 ho HB.out.size)
  have HB2 := Lib.hid (HB.out.trans (hb.mono HB.out.size))
  obtain ⟨a2, c2, rfl, -⟩ := rowR_own ho
  clear ho hb hl
  go_wp2
  go_ret
  exact ⟨_, rfl, HO.out, HB2.out⟩
theorem rowI_lit (w : World) (l : List Int) (T : TypeId) : Row (w.alloc (.cells (l.map (Value.int .i64)).toArray T)) (some ⟨w.heap.size, 0, none⟩) l.length l := by
  refine ⟨rfl, Or.inr ⟨w.heap.size, 0, rfl, by simp, fun j hj => ?_⟩⟩
  have h := (CN.new w (l.map (Value.int .i64)).toArray T).2 j (.int .i64 (l.getD j 0)) (by
    simp only [List.getElem?_map]
    rw [List.getElem?_eq_getElem hj, List.getD_eq_getElem?_getD, List.getElem?_eq_getElem hj]; rfl)
  rw [Nat.zero_add]
  exact h.1
theorem rowR_nil (w : World) : RowR w none 0 [] := ⟨rfl, rfl, Or.inl rfl⟩

set_option maxRecDepth 100000 in
set_option maxHeartbeats 8000000 in
theorem encode0 (qa : Option Addr) (qc : Nat) (w : World) (hq : RowQ w qa 1 [⟨⟨#[0]⟩, 2, 1⟩]) :
    Calls Try.prog 16 #[.agg #[.int .i64 1, .int .i64 0, .int .i64 0, .bool false, .bool false, .bool false, .bool false, .bool false, .slice qa 1 qc, .slice none 0 0, .slice none 0 0, .slice none 0 0], .int .i64 100] w fun e w' => ∃ v, e = .returned (.tuple #[v, .int .i64 0]) ∧ w'.ownsRow w.heap.size 5 1 v 17 (bc [0, 1, 0, 0, 0, 1, 0, 0, 0, 0, 0, 0, 0, 0, 2, 0, 1]) ∧ Below w.heap.size w w' := by
  have hb1 := (Below.refl w.heap.size w).alloc (Nat.le_refl _) (.cells #[.int .i64 1, .int .i64 0, .int .i64 0, .bool false, .bool false, .bool false, .bool false, .bool false, .slice qa 1 qc, .slice none 0 0, .slice none 0 0, .slice none 0 0] 37)
  have HC := Lib.hid (CN.new w #[.int .i64 1, .int .i64 0, .int .i64 0, .bool false, .bool false, .bool false, .bool false, .bool false, .slice qa 1 qc, .slice none 0 0, .slice none 0 0, .slice none 0 0] 37)
  have HQ := Lib.hid (hq.below hb1)
  have HB := Lib.hid hb1
  clear hb1 hq
  have hmm := @run_makeMap Try.prog
  go_enter Try.func16, Try.ntmps16
  go_wp2_with fail
  refine (may0 qa qc _ HQ.out).mono ?_; rintro e w2 ⟨rfl, hb⟩
  obtain ⟨q, hq⟩ : ∃ x, w.heap.size = x := ⟨_, rfl⟩
  rw [hq] at HC
  rw [show (Value.pointer (some { block := w.heap.size, off := 0 })) = Value.pointer (some { block := q, off := 0 }) by rw [hq]]
  replace HC := Lib.hid (HC.out.below hb)
  replace HQ := Lib.hid (HQ.out.below hb)
  replace HB := Lib.hid (HB.out.trans (hb.mono HB.out.size))
  clear hb hq
  go_upto_region 4 with (fail)
  have hb3 := ((Below.refl _ _ : Below w2.heap.size w2 w2).alloc (Nat.le_refl _) (.map #[] 0)).alloc (by simp) (.cells #[.slice none 0 0, .map (some w2.heap.size)] 85)
  have c6 := CN.new (w2.alloc (.map #[] 0)) #[.slice none 0 0, .map (some w2.heap.size)] 85
  have t6 := TB.new (w2.alloc (.map #[] 0)) #[.slice none 0 0, .map (some w2.heap.size)] 85
  rw [World.size_alloc] at c6 t6
  obtain ⟨w3, hw3⟩ : ∃ x, (w2.alloc (.map #[] 0)).alloc (.cells #[.slice none 0 0, .map (some w2.heap.size)] 85) = x := ⟨_, rfl⟩
  obtain ⟨mv, hmv⟩ : ∃ x, Value.map (some w2.heap.size) = x := ⟨_, rfl⟩
  obtain ⟨q6, hq6⟩ : ∃ x, w2.heap.size + 1 = x := ⟨_, rfl⟩
  rw [hw3] at hb3 c6 t6 ⊢
  rw [hmv] at c6 ⊢
  rw [hq6] at c6 t6 ⊢
  have HW := Lib.hid hb3
  have H6 := Lib.hid c6
  have T6 := Lib.hid t6
  have HO := Lib.hid (show w3.ownsRow w2.heap.size 5 1 (.slice none 0 0) 0 (bc []) from ⟨rfl, Or.inl ⟨rfl, rfl⟩⟩)
  have HQ6 := Lib.hid (show w2.heap.size ≤ q6 by omega)
  clear hb3 c6 t6 hw3 hmv hq6 hmm
  obtain ⟨y0, y1, y2, y3, y4, y5, y6, y7, y8, y9, y10, y11, -⟩ := (HC.out.below HW.out).u12
  go_wp2_with fail
  refine (flags_any _ _ _ _ _ _ _ _ _).mono ?_; rintro e w4 ⟨rfl, hb⟩
  rw [show (if okF 0 0 = true then flagV 0 0 false false false false false else 0) = 0 by decide +kernel, show (if okF 0 0 = true then (0 : Int) else 1) = 0 by decide +kernel]
  clear y0 y1 y2 y3 y4 y5 y6 y7 y8 y9 y10 y11
  replace H6 := Lib.hid (H6.out.below hb)
  replace T6 := Lib.hid (T6.out.below hb)
  replace HO := Lib.hid (own_below' HO.out hb)
  replace HW := Lib.hid (HW.out.trans (hb.mono HW.out.size))
  clear hb
  obtain ⟨y0, y1, y2, y3, y4, y5, y6, y7, y8, y9, y10, y11, -⟩ := (HC.out.below HW.out).u12
  have hba := (Below.refl _ _ : Below w4.heap.size w4 w4).alloc (Nat.le_refl _) (.cells #[.int .i64 1, .int .i64 0, .int .i64 1, .int .i64 0, .int .i64 0, .int .i64 0] 3)
  have HR := Lib.hid (rowI_lit w4 [1, 0, 1, 0, 0, 0] 3)
  replace H6 := Lib.hid (H6.out.below hba)
  replace T6 := Lib.hid (T6.out.below hba)
  replace HO := Lib.hid (own_below' HO.out hba)
  replace HW := Lib.hid (HW.out.trans (hba.mono HW.out.size))
  obtain ⟨w5, hw5⟩ : ∃ x, w4.alloc (.cells #[.int .i64 1, .int .i64 0, .int .i64 1, .int .i64 0, .int .i64 0, .int .i64 0] 3) = x := ⟨_, rfl⟩
  obtain ⟨g5, hg5⟩ : ∃ x, w4.heap.size = x := ⟨_, rfl⟩
  have HR' := HR.out
  simp only [List.map_cons, List.map_nil, List.length_cons, List.length_nil] at HR'
  rw [hw5, hg5] at HR'
  rw [hw5] at H6 T6 HO HW
  replace HR := Lib.hid HR'
  have HW5 := Lib.hid hw5
  have HG5 := Lib.hid hg5
  clear HR' hba hw5 hg5
  go_wp2_with fail
  rw [HW5.out, HG5.out]
  clear HW5 HG5 y0 y1 y2 y3 y4 y5 y6 y7 y8 y9 y10 y11
  refine (numbers_any q6 2 (some ⟨g5, 0, none⟩) 6 6 [1, 0, 1, 0, 0, 0] (.slice none 0 0) mv [] 0 w2.heap.size w5 HR.out (by decide) H6.out T6.out HO.out HQ6.out (by decide +kernel)).mono ?_; rintro e w6 ⟨rfl, bv, h6, t6, ho, hb, -⟩
  rw [show joinL 2 [1, 0, 1, 0, 0, 0] = [0, 1, 0, 0, 0, 1, 0, 0, 0, 0, 0, 0] by decide +kernel] at ho
  replace HW := Lib.hid (HW.out.trans hb)
  have HO6 := Lib.hid (show w6.ownsRow w2.heap.size 5 1 bv 12 (bc [0, 1, 0, 0, 0, 1, 0, 0, 0, 0, 0, 0]) from ho)
  have HC6 := Lib.hid h6
  have HT6 := Lib.hid t6
  clear HO H6 T6 HR h6 t6 ho hb
  obtain ⟨y0, y1, y2, y3, y4, y5, y6, y7, y8, y9, y10, y11, -⟩ := (HC.out.below HW.out).u12
  go_wp2_with fail
  clear y0 y1 y2 y3 y4 y5 y6 y7 y8 y9 y10 y11
  go_loopw [45] (fun i wr => ∃ (k m : Nat) (X : List UInt8) (bv : Value), i = .int .i64 k ∧ (k = 0 ∧ m = 12 ∧ X = [0, 1, 0, 0, 0, 1, 0, 0, 0, 0, 0, 0] ∨ k = 1 ∧ m = 17 ∧ X = [0, 1, 0, 0, 0, 1, 0, 0, 0, 0, 0, 0, 0, 0, 2, 0, 1]) ∧ Hid (CN wr q6 [bv, mv]) ∧ Hid (TB wr q6 85) ∧ Hid (wr.ownsRow w2.heap.size 5 1 bv m (bc X)) ∧ Hid (Below w2.heap.size w2 wr)) (fun i _ => 1 - (intOf i).toNat)
  case atStart => exact ⟨0, 12, _, bv, rfl, Or.inl ⟨rfl, rfl, rfl⟩, HC6, HT6, HO6, HW⟩
  case round =>
    obtain ⟨k, m, X, bv, rfl, hcase, H6, T6, HO, HW⟩ := hrel
    rcases hcase with ⟨rfl, rfl, rfl⟩ | ⟨rfl, rfl, rfl⟩
    · obtain ⟨b, o, r, rfl, hbl, hr, c0, c1, c2⟩ := (HQ.out.below HW.out).at 0 (by omega)
      obtain rfl : (⟨⟨#[0]⟩, 2, 1⟩ : Ky) = r := by simpa using hr
      simp only [Nat.zero_mul, Nat.add_zero] at c0 c1 c2
      have hB7 := HW.out.size
      have hba := (Below.refl _ _ : Below wr.heap.size wr wr).alloc (Nat.le_refl _) (.cells #[.string ⟨#[0]⟩, .int .i64 2, .int .i64 1] 27)
      have HE := Lib.hid (CN.new wr #[.string ⟨#[0]⟩, .int .i64 2, .int .i64 1] 27)
      replace H6 := Lib.hid (H6.out.below hba)
      replace T6 := Lib.hid (T6.out.below hba)
      replace HO := Lib.hid (own_below' HO.out hba)
      replace HW := Lib.hid (HW.out.trans (hba.mono HW.out.size))
      obtain ⟨w7, hw7⟩ : ∃ x, wr.alloc (.cells #[.string ⟨#[0]⟩, .int .i64 2, .int .i64 1] 27) = x := ⟨_, rfl⟩
      obtain ⟨g7, hg7⟩ : ∃ x, wr.heap.size = x := ⟨_, rfl⟩
      have HT7 := Lib.hid (TB.new wr #[.string ⟨#[0]⟩, .int .i64 2, .int .i64 1] 27)
      rw [hw7] at H6 T6 HO HW HE HT7
      rw [hg7] at HE hB7 HT7
      have HW7 := Lib.hid hw7
      have HG7 := Lib.hid hg7
      clear hr hba hbl hw7 hg7 hB7
      go_upto_region 9 with (fail)
      rw [HW7.out, HG7.out]
      clear HW7 HG7 c0 c1 c2
      have c0 := (HE.out.2 0 _ rfl).1
      go_wp2_with fail
      refine (nameRoot q6 bv mv _ 12 w2.heap.size w7 H6.out T6.out HO.out HQ6.out (by decide)).mono ?_; rintro e w8 ⟨rfl, bv8, h6, t6, ho, hb, hkp⟩
      have he8 : w8.heap[g7]? = w7.heap[g7]? := hkp g7 HE.out.1 (fun e => by
        obtain ⟨c1, h1⟩ := HT7.out
        obtain ⟨c2, h2⟩ := T6.out
        rw [e, h2] at h1
        injection h1 with h1
        injection h1 with _ h1
        exact absurd h1 (by decide)) (own_ne HO.out HT7.out (by decide))
      have HE8 := Lib.hid (show w8.cell? ⟨g7, 1, none⟩ = some (.int .i64 2) ∧ w8.cell? ⟨g7, 2, none⟩ = some (.int .i64 1) from ⟨(World.cell?_of_block (a := ⟨g7, 1, none⟩) he8).trans (HE.out.2 1 _ rfl).1, (World.cell?_of_block (a := ⟨g7, 2, none⟩) he8).trans (HE.out.2 2 _ rfl).1⟩)
      replace HW := Lib.hid (HW.out.trans hb)
      replace HO := Lib.hid (show w8.ownsRow w2.heap.size 5 1 bv8 13 (bc [0, 1, 0, 0, 0, 1, 0, 0, 0, 0, 0, 0, 0]) from ho)
      replace H6 := Lib.hid h6
      replace T6 := Lib.hid t6
      clear h6 t6 ho hb c0 hkp he8 HE HT7
      have hba := (Below.refl _ _ : Below w8.heap.size w8 w8).alloc (Nat.le_refl _) (.cells #[.int .i64 2, .int .i64 1] 3)
      have HR := (rowI_lit w8 [2, 1] 3)
      simp only [List.map_cons, List.map_nil, List.length_cons, List.length_nil] at HR
      replace H6 := Lib.hid (H6.out.below hba)
      replace T6 := Lib.hid (T6.out.below hba)
      replace HO := Lib.hid (own_below' HO.out hba)
      replace HW := Lib.hid (HW.out.trans (hba.mono HW.out.size))
      obtain ⟨w9, hw9⟩ : ∃ x, w8.alloc (.cells #[.int .i64 2, .int .i64 1] 3) = x := ⟨_, rfl⟩
      obtain ⟨g9, hg9⟩ : ∃ x, w8.heap.size = x := ⟨_, rfl⟩
      rw [hw9, hg9] at HR
      rw [hw9] at H6 T6 HO HW
      replace HR := Lib.hid HR
      have HW9 := Lib.hid hw9
      have HG9 := Lib.hid hg9
      obtain ⟨c1, c2⟩ := HE8.out
      clear hba hw9 hg9
      go_wp2_with fail
      rw [HW9.out, HG9.out]
      clear HW9 HG9 c1 c2
      refine (numbers_any q6 2 (some ⟨g9, 0, none⟩) 2 2 [2, 1] bv8 mv _ 13 w2.heap.size w9 HR.out (by decide) H6.out T6.out HO.out HQ6.out (by decide +kernel)).mono ?_; rintro e w10 ⟨rfl, bv10, h6, t6, ho, hb, -⟩
      rw [show joinL 2 [2, 1] = [0, 2, 0, 1] by decide +kernel] at ho
      replace HW := Lib.hid (HW.out.trans hb)
      replace HO := Lib.hid (show w10.ownsRow w2.heap.size 5 1 bv10 17 (bc [0, 1, 0, 0, 0, 1, 0, 0, 0, 0, 0, 0, 0, 0, 2, 0, 1]) from ho)
      replace H6 := Lib.hid h6
      replace T6 := Lib.hid t6
      clear h6 t6 ho hb HR
      go_wp2
      go_roundw
      case rel => exact ⟨1, 17, _, bv10, by go_num, Or.inr ⟨rfl, rfl, rfl⟩, H6, T6, HO, HW⟩
      case measure => simp [intOf]
    · obtain ⟨y0, y1, y2, y3, y4, y5, y6, y7, y8, y9, y10, y11, -⟩ := (HC.out.below HW.out).u12
      obtain ⟨sa, sc, rfl, -⟩ := cellsK_own HO.out
      go_wp2_with fail
      refine (all_ex _ _ _ _ _ _ _ _ _ _ _ _ _ _ _ _ _ _ _ _ [] [] [] wr (rowR_nil _) (fun _ => ⟨rfl, rfl⟩) (rowR_nil _) (fun _ => ⟨rfl, rfl⟩) (rowR_nil _) (fun _ => ⟨rfl, rfl⟩) (by decide)).mono ?_; rintro e w9 ⟨v9, rfl, ho, hb⟩
      clear y0 y1 y2 y3 y4 y5 y6 y7 y8 y9 y10 y11
      obtain ⟨a9, c9, rfl, -⟩ := rowR_own ho
      replace H6 := Lib.hid (H6.out.below hb)
      replace HO := Lib.hid (own_below' HO.out hb)
      replace HW := Lib.hid (HW.out.trans (hb.mono HW.out.size))
      have HBZ := Lib.hid (HB.out.trans (HW.out.mono HB.out.size))
      have HSZ := Lib.hid HB.out.size
      clear ho hb
      obtain ⟨z0, z1⟩ : w9.cell? ⟨q6, 0, none⟩ = some (.slice sa 17 sc) ∧ w9.cell? ⟨q6, 1, none⟩ = some mv := ⟨(H6.out.2 0 _ rfl).1, (H6.out.2 1 _ rfl).1⟩
      go_wp2_with fail
      go_loopw [62] (fun i wx => i = .int .i64 0 ∧ w9 = wx) (fun _ _ => 0)
      case atStart => exact ⟨rfl, rfl⟩
      case round =>
        obtain ⟨rfl, rfl⟩ := hrel
        go_wp2
        go_ret2
        exact ⟨_, rfl, own_mono4 HO.out HSZ.out, HBZ.out⟩
end Go.Proofs.Ytgppkpdjpcegbaa
end

section
namespace Go.Proofs.Ytgppkpdjpcegbaa
open Go.RowKit

theorem ofInt_u64' (x : Nat) (h : x < 18446744073709551616) : (BitVec.ofInt 64 (x : Int)).toNat = x := by
  rw [BitVec.toNat_ofInt]; omega
theorem or_shift (i x y : Nat) (hy : y < 2 ^ i) (h : 2 ^ i * x + y < 9223372036854775808) : bits .or .i64 ((2 ^ i * x : Nat) : Int) ((y : Nat) : Int) = ((2 ^ i * x + y : Nat) : Int) := by
  show IntKind.i64.wrap ((BitVec.ofInt 64 (((2 ^ i * x : Nat) : Int)) ||| BitVec.ofInt 64 ((y : Nat) : Int)).toNat : Int) = _
  have h1 := Nat.two_pow_add_eq_or_of_lt (i := i) (b := y) hy x
  rw [BitVec.toNat_or, ofInt_u64' (2 ^ i * x) (by omega), ofInt_u64' y (by omega), ← h1]
  rw [IntKind.wrap_i64]; omega
theorem mask8 (n : Int) : bits .and .i64 n 255 = n % 256 := by
  have hm : (BitVec.ofInt 64 255).toNat = 2 ^ 8 - 1 := by decide
  have key : (BitVec.ofInt 64 n &&& BitVec.ofInt 64 255).toNat = (n % ((2 ^ 64 : Nat) : Int)).toNat % 2 ^ 8 := by
    rw [BitVec.toNat_and, BitVec.toNat_ofInt, hm, Nat.and_two_pow_sub_one_eq_mod]
  show IntKind.i64.wrap ((BitVec.ofInt 64 n &&& BitVec.ofInt 64 255).toNat : Nat) = n % 256
  rw [key, IntKind.wrap_i64]
  omega
theorem bit15 (t c : Nat) (h : t < 9223372036854775808) (hc : t % 65536 = c) (hcc : c = 0 ∨ c = 32768) : bits .and .i64 (t : Int) 32768 = (c : Int) := by
  have hm : (BitVec.ofInt 64 32768).toNat = 32768 := by decide
  have k1 : t &&& 32768 = c := by
    have h1 : (t &&& 32768) % 2 ^ 16 = (t % 2 ^ 16) &&& (32768 % 2 ^ 16) := Nat.and_mod_two_pow
    have h2 : t &&& 32768 ≤ 32768 := Nat.and_le_right
    have h3 : t % 2 ^ 16 = c := hc
    rw [Nat.mod_eq_of_lt (by omega), h3] at h1
    rw [h1]
    rcases hcc with rfl | rfl <;> decide
  show IntKind.i64.wrap ((BitVec.ofInt 64 (t : Int) &&& BitVec.ofInt 64 32768).toNat : Nat) = _
  rw [BitVec.toNat_and, hm, ofInt_u64' t (by omega), k1]
  rw [IntKind.wrap_i64]; omega
theorem putE_rng {o : OptP} (h : putE o = 0) : (0 ≤ o.size ∧ o.size ≤ 65535) ∧ (0 ≤ o.ver ∧ o.ver ≤ 255) ∧ (0 ≤ o.rc ∧ o.rc ≤ 255) ∧ o.data.size ≤ 1000 := by
  unfold putE at h
  split at h
  · rename_i h1
    simp only [Bool.and_eq_true] at h1
    split at h
    · omega
    · exact ⟨inR_t h1.1, inR_t h1.2.1, inR_t h1.2.2, by omega⟩
  · omega
theorem ttlO_val {o : OptP} (h : putE o = 0) : ttlO o = o.rc * 16777216 + o.ver * 65536 + (if o.d then 32768 else 0) := by
  obtain ⟨_, ⟨v0, v1⟩, ⟨r0, r1⟩, _⟩ := putE_rng h
  obtain ⟨v, hv⟩ : ∃ v : Nat, o.ver = (v : Int) := ⟨o.ver.toNat, by omega⟩
  obtain ⟨r, hr⟩ : ∃ r : Nat, o.rc = (r : Int) := ⟨o.rc.toNat, by omega⟩
  have e1 : bits .or .i64 (o.rc * 16777216) (o.ver * 65536) = ((16777216 * r + 65536 * v : Nat) : Int) := by
    have := or_shift 24 r (65536 * v) (by omega) (by omega)
    rw [hv, hr, show (r : Int) * 16777216 = ((2 ^ 24 * r : Nat) : Int) by omega, show (v : Int) * 65536 = ((65536 * v : Nat) : Int) by omega, this]
  unfold ttlO
  rw [e1]
  split
  · have := or_shift 16 (256 * r + v) 32768 (by decide) (by omega)
    rw [show 16777216 * r + 65536 * v = 2 ^ 16 * (256 * r + v) by omega]
    refine Eq.trans this ?_
    omega
  · omega
theorem ttlO_rng {o : OptP} (h : putE o = 0) : 0 ≤ ttlO o ∧ ttlO o ≤ 4294967295 := by
  obtain ⟨_, ⟨v0, v1⟩, ⟨r0, r1⟩, _⟩ := putE_rng h
  rw [ttlO_val h]
  split <;> omega
/-- What Put has made is told as it was. -/
theorem optOf_put {o : OptP} (h : putE o = 0) : optOf (putR o) = o := by
  obtain ⟨_, ⟨v0, v1⟩, ⟨r0, r1⟩, _⟩ := putE_rng h
  have hr := ttlO_rng h
  have hv := ttlO_val h
  obtain ⟨t, ht⟩ : ∃ t : Nat, ttlO o = (t : Int) := ⟨(ttlO o).toNat, by omega⟩
  rw [putR_ok h]
  obtain ⟨sz, ver, rc, d, data⟩ := o
  simp only at *
  simp only [optOf, verT, rcT, doT, mask8, ht, OptP.mk.injEq, true_and, and_true]
  rw [ht] at hv
  cases d
  · simp only [Bool.false_eq_true, if_false] at hv
    refine ⟨by omega, by omega, ?_⟩
    rw [bit15 t 0 (by omega) (by omega) (Or.inl rfl)]; rfl
  · simp only [if_true] at hv
    refine ⟨by omega, by omega, ?_⟩
    rw [bit15 t 32768 (by omega) (by omega) (Or.inr rfl)]; rfl
end Go.Proofs.Ytgppkpdjpcegbaa
end
