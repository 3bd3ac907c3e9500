/- Texts that others rest on, one behind the other: TcA, TcB, TcC, TcD. -/
import Derived.Test.YtocfphijheidbaaMgY
import Derived.Test.YtocfphijheidbaaLst
section
namespace Go.Proofs.Ytocfphijheidbaa
open Go.RowKit

def RTb (w : World) (q : Nat) (wv : Value) (s : TbP) : Prop := DC w q [wv, .int .i64 s.x, .int .i64 s.most] ∧ w.ownsRow 0 84 9 wv s.ws.length (flatW s.ws)
def RTs (w : World) (bs : List Nat) (q : Nat) (s : TbP) : Prop := ∃ wv, RTb w q wv s ∧ (q ∈ bs ∧ ∀ g, wv.ownBlock = some g → g ∈ bs ∧ g ≠ q) ∧ ∀ b ∈ bs, b < w.heap.size
theorem RTs.frm {w w' : World} {cs bs : List Nat} {q : Nat} {s : TbP} (h : RTs w cs q s) (g : Frm w w' bs) (hd : ∀ b ∈ cs, b ∉ bs) : RTs w' cs q s := by
  obtain ⟨wv, ⟨h1, h2⟩, ⟨a1, a2⟩, a3⟩ := h
  have hk : ∀ b ∈ cs, w'.heap[b]? = w.heap[b]? := fun b hb => g.block b (a3 b hb) (hd b hb)
  exact ⟨wv, ⟨h1.kept (hk q a1), own_kept h2 (fun b hb => hk b (a2 b hb).1)⟩, ⟨a1, a2⟩, fun b hb => Nat.lt_of_lt_of_le (a3 b hb) g.size⟩
theorem RTs.below {w w' : World} {cs : List Nat} {q : Nat} {s : TbP} (h : RTs w cs q s) (g : Below w.heap.size w w') : RTs w' cs q s := h.frm (frm_below g) (fun _ _ h => by simp at h)
theorem RTs.lt {w : World} {cs : List Nat} {q : Nat} {s : TbP} (h : RTs w cs q s) : ∀ b ∈ cs, b < w.heap.size := by
  obtain ⟨_, _, _, h2⟩ := h
  exact h2
theorem RTs.q {w : World} {cs : List Nat} {q : Nat} {s : TbP} (h : RTs w cs q s) : q ∈ cs := h.choose_spec.2.1.1
theorem RTs.setX {w : World} {bs : List Nat} {q : Nat} {s : TbP} (h : RTs w bs q s) (y : Int) : RTs (w.setCell ⟨q, 1, none⟩ (.int .i64 y)) bs q { s with x := y } := by
  obtain ⟨wv, ⟨h1, h2⟩, ⟨a1, a2⟩, a3⟩ := h
  exact ⟨wv, ⟨h1.set 1 (by simp) _, own_kept h2 (fun g hg => Below.heap_setCell _ _ _ _ (a2 g hg).2)⟩, ⟨a1, a2⟩, fun b hb => by simpa using a3 b hb⟩
theorem RTs.parts {w : World} {bs : List Nat} {q : Nat} {s : TbP} (h : RTs w bs q s) : ∃ a c, w.cell? ⟨q, 0, none⟩ = some (.slice a s.ws.length c) ∧ w.cell? ⟨q, 1, none⟩ = some (.int .i64 s.x) ∧ w.cell? ⟨q, 2, none⟩ = some (.int .i64 s.most) ∧ w.frozen? ⟨q, 0, none⟩ = false ∧ w.frozen? ⟨q, 1, none⟩ = false ∧ w.ownsRow 0 84 9 (.slice a s.ws.length c) s.ws.length (flatW s.ws) := by
  obtain ⟨wv, ⟨h1, h2⟩, -, -⟩ := h
  obtain ⟨a, c, rfl, -, -⟩ := cellsK_own h2
  exact ⟨a, c, (h1 0 _ rfl).1, (h1 1 _ rfl).1, (h1 2 _ rfl).1, (h1 0 _ rfl).2, (h1 1 _ rfl).2, h2⟩
theorem mask32 (n : Int) : bits .and .i64 n 4294967295 = n % 4294967296 := by
  have hm : (BitVec.ofInt 64 4294967295).toNat = 2 ^ 32 - 1 := by decide
  have key : (BitVec.ofInt 64 n &&& BitVec.ofInt 64 4294967295).toNat = (n % ((2 ^ 64 : Nat) : Int)).toNat % 2 ^ 32 := by
    rw [BitVec.toNat_and, BitVec.toNat_ofInt, hm, Nat.and_two_pow_sub_one_eq_mod]
  show IntKind.i64.wrap ((BitVec.ofInt 64 n &&& BitVec.ofInt 64 4294967295).toNat : Nat) = n % 4294967296
  rw [key, IntKind.wrap_i64]
  omega
set_option maxRecDepth 100000 in
theorem newR_yes (seed most : Int) (w : World) (h : 0 ≤ seed ∧ 1 ≤ most ∧ most ≤ 1000) : Calls Try.prog 42 #[.int .i64 seed, .int .i64 most] w fun e w' => ∃ q, e = .returned (.tuple #[.pointer (some ⟨q, 0, none⟩), .int .i64 0]) ∧ RTs w' [q] q ⟨most, seed % 4294967296, []⟩ ∧ w.heap.size ≤ q ∧ Below w.heap.size w w' := by
  have d1 : decide (seed < 0) = false := dF (by omega)
  have d2 : decide (most < 1) = false := dF (by omega)
  have d3 : decide (1000 < most) = false := dF (by omega)
  have wm : bits .and .i64 seed 4294967295 = seed % 4294967296 := mask32 seed
  have HB := Lib.hid ((Below.refl w.heap.size w).alloc (Nat.le_refl _) (.cells #[.slice none 0 0, .int .i64 (seed % 4294967296), .int .i64 most] 90))
  have HT := Lib.hid (show RTs (w.alloc (.cells #[.slice none 0 0, .int .i64 (seed % 4294967296), .int .i64 most] 90)) [w.heap.size] w.heap.size ⟨most, seed % 4294967296, []⟩ from
    ⟨.slice none 0 0, ⟨fun j c hj => by rw [World.cell?_alloc_new, World.frozen?_alloc_new, ← hj]; exact ⟨by simp, rfl⟩, World.ownsRow_nil _ _ _ _⟩, ⟨by simp, fun g hg => by cases hg⟩, fun b hb => by rw [World.size_alloc]; simp at hb; omega⟩)
  clear h
  go_enter Try.func42, Try.ntmps42
  go_wp2
  go_ret2
  exact ⟨_, rfl, HT.out, Nat.le_refl _, HB.out⟩
set_option maxRecDepth 100000 in
theorem newR_no (seed most : Int) (w : World) (h : seed < 0 ∨ most < 1 ∨ 1000 < most) : Calls Try.prog 42 #[.int .i64 seed, .int .i64 most] w fun e w' => e = .returned (.tuple #[.pointer none, .int .i64 1]) ∧ w = w' := by
  have hd : decide (seed < 0) = true ∨ (decide (seed < 0) = false ∧ decide (most < 1) = true) ∨ (decide (seed < 0) = false ∧ decide (most < 1) = false ∧ decide (1000 < most) = true) := by
    simp only [decide_eq_true_eq, decide_eq_false_iff_not]
    omega
  clear h
  rcases hd with d1 | ⟨d1, d2⟩ | ⟨d1, d2, d3⟩
  all_goals
    go_enter Try.func42, Try.ntmps42
    go_wp2
    go_ret2
    exact ⟨rfl, rfl⟩
set_option maxRecDepth 100000 in
theorem drawR_any (x : Int) (w : World) (hx : 0 ≤ x ∧ x < 4294967296) : Calls Try.prog 100 #[.int .i64 x] w fun e w' => e = .returned (.int .i64 (nxD x)) ∧ w = w' := by
  have w1 : IntKind.i64.wrap (x * 69069) = x * 69069 := by rw [IntKind.wrap_i64]; omega
  have w2 : IntKind.i64.wrap (x * 69069 + 1) = x * 69069 + 1 := by rw [IntKind.wrap_i64]; omega
  have w3 : bits .and .i64 (x * 69069 + 1) 4294967295 = nxD x := mask32 _
  clear hx
  go_enter Try.func100, Try.ntmps100
  go_wp2
  go_ret
  exact ⟨rfl, rfl⟩
set_option maxRecDepth 100000 in
theorem drawT_any (q : Nat) (x : Int) (w : World) (hx : 0 ≤ x ∧ x < 4294967296) (hc : w.cell? ⟨q, 1, none⟩ = some (.int .i64 x)) (hf : w.frozen? ⟨q, 1, none⟩ = false) :
    Calls Try.prog 81 #[.pointer (some ⟨q, 0, none⟩)] w fun e w' => e = .returned (.int .i64 (nxD x)) ∧ w' = w.setCell ⟨q, 1, none⟩ (.int .i64 (nxD x)) := by
  have HX := Lib.hid hx
  clear hx
  go_enter Try.func81, Try.ntmps81
  go_wp2_with fail
  refine (drawR_any x w HX.out).mono ?_; rintro e w2 ⟨rfl, rfl⟩
  go_wp2
  go_ret
  exact ⟨rfl, rfl⟩
set_option maxRecDepth 100000 in
theorem timeR_any (now : Int) (w : World) : Calls Try.prog 80 #[.int .i64 now] w fun e w' => e = .returned (.bool (decide (0 ≤ now ∧ now ≤ 1099511627776))) ∧ w = w' := by
  have hd : (decide (0 ≤ now) = true ∧ decide (now ≤ 1099511627776) = true ∧ decide (0 ≤ now ∧ now ≤ 1099511627776) = true) ∨ (decide (0 ≤ now) = true ∧ decide (now ≤ 1099511627776) = false ∧ decide (0 ≤ now ∧ now ≤ 1099511627776) = false) ∨ (decide (0 ≤ now) = false ∧ decide (0 ≤ now ∧ now ≤ 1099511627776) = false) := by
    simp only [decide_eq_true_eq, decide_eq_false_iff_not]
    omega
  obtain ⟨z, hz⟩ : ∃ z, decide (0 ≤ now ∧ now ≤ 1099511627776) = z := ⟨_, rfl⟩
  rw [hz] at hd ⊢
  clear hz
  rcases hd with ⟨d1, d2, rfl⟩ | ⟨d1, d2, rfl⟩ | ⟨d1, rfl⟩
  all_goals
    go_enter Try.func80, Try.ntmps80
    go_wp2
    go_ret
    exact ⟨rfl, rfl⟩
theorem mkD_eql (a b : MkP) (W : World) : (binOp .eql 82 (.agg #[.int .i64 a.id, .int .i64 a.port, .string a.tx, .bool a.tcp]) (.agg #[.int .i64 b.id, .int .i64 b.port, .string b.tx, .bool b.tcp])).run Try.prog W = .ok (.bool (sameM a b)) W := by
  have u3 := Try.underlying3
  have a3 := Try.isAgg3
  have z3 := Try.sizeOf3
  have u9 := Try.underlying9
  have a9 := Try.isAgg9
  have z9 := Try.sizeOf9
  have u4 := Try.underlying4
  have a4 := Try.isAgg4
  have z4 := Try.sizeOf4
  have hS : Try.prog.underlying 82 = some (.struct (Try.prog.fieldsOf 82)) := by
    simp [Program.fieldsOf, Try.underlying82]
  rw [run_eql_struct, show (10000 : Nat) = 9999 + 1 from rfl, run_equalIn_agg W 9999 82 _ _ hS (by kernel_rfl)]
  simp only [Program.fieldsOf, Try.underlying82]
  unfold sameM
  go_simp
  by_cases h0 : a.id = b.id <;> by_cases h1 : a.port = b.port <;> by_cases h2 : a.tx.toList = b.tx.toList <;> by_cases h3 : a.tcp = b.tcp <;> simp [h0, h1, h2, h3]
theorem taken_till {l : List WtP} {k : Nat} {m : MkP} {r : WtP} (h : l[k]? = some r) : takenB (l.take (k + 1)) m = (takenB (l.take k) m || sameM r.m m) := by
  rw [take_more h]
  simp [takenB]
set_option maxRecDepth 100000 in
set_option maxHeartbeats 4000000 in
theorem has_any (bs : List Nat) (q : Nat) (s : TbP) (ki kp : Int) (kx : ByteArray) (kt : Bool) (w : World) (h : RTs w bs q s) (hn : s.ws.length ≤ 10000) :
    Calls Try.prog 82 #[.pointer (some ⟨q, 0, none⟩), .agg #[.int .i64 ki, .int .i64 kp, .string kx, .bool kt]] w fun e w' => e = .returned (.bool (takenB s.ws ⟨ki, kp, kx, kt⟩)) ∧ Below w.heap.size w w' := by
  have hb1 := (Below.refl w.heap.size w).alloc (Nat.le_refl _) (.cells #[.int .i64 ki, .int .i64 kp, .string kx, .bool kt] 82)
  have m1 := HeldT.new w #[.int .i64 ki, .int .i64 kp, .string kx, .bool kt] 82
  have HB := Lib.hid hb1
  have HT := Lib.hid (h.below hb1)
  obtain ⟨w1, hw1⟩ : ∃ z, w.alloc (.cells #[.int .i64 ki, .int .i64 kp, .string kx, .bool kt] 82) = z := ⟨_, rfl⟩
  obtain ⟨gk, hgk⟩ : ∃ z, w.heap.size = z := ⟨_, rfl⟩
  rw [hw1] at m1 HB HT
  rw [hgk] at m1
  have HM := Lib.hid m1
  have HW1 := Lib.hid hw1
  have HGK := Lib.hid hgk
  clear hb1 m1 hw1 hgk h
  obtain ⟨l, hl⟩ : ∃ z, s.ws = z := ⟨_, rfl⟩
  have HL := Lib.hid hl
  obtain ⟨n, hln⟩ : ∃ z, l.length = z := ⟨_, rfl⟩
  rw [hl] at hn
  rw [hln] at hn
  have HN := Lib.hid hln
  rw [hl]
  clear hl hln
  go_enter Try.func82, Try.ntmps82
  go_upto_region 1 with (fail)
  rw [HW1.out, HGK.out]
  clear HW1 HGK
  go_wp2_with fail
  go_loopw [5] (fun i wr => ∃ k : Nat, k ≤ n ∧ i = .int .i64 k ∧ Hid (takenB (l.take k) ⟨ki, kp, kx, kt⟩ = false) ∧ Hid (Below w1.heap.size w1 wr)) (fun i _ => n - (intOf i).toNat)
  case atStart => exact ⟨0, Nat.zero_le _, rfl, Lib.hid rfl, Lib.hid (Below.refl _ _)⟩
  case round =>
    obtain ⟨k, hk, rfl, HA, HBK⟩ := hrel
    obtain ⟨a, c, c0, -, -, -, -, hrow⟩ := (HT.out.below HBK.out).parts
    rw [HL.out, HN.out] at c0 hrow
    by_cases hlt : k < n
    · obtain ⟨gb, c', e, -, -⟩ := own_shp' hrow (by omega)
      injection e with e1 _ e3
      subst e1
      subst e3
      obtain ⟨r, hr⟩ : ∃ s, l[k]? = some s := ⟨_, List.getElem?_eq_getElem (by have := HN.out; omega)⟩
      obtain ⟨f0, f1, f2, f3, -⟩ := row_cellsW hrow hr
      have hta := taken_till (m := ⟨ki, kp, kx, kt⟩) hr
      rw [HA.out, Bool.false_or] at hta
      have hty := fun h => taken_yes (k := ⟨ki, kp, kx, kt⟩) hr h
      obtain ⟨⟨mi, mp, mx, mt⟩, _, _, _⟩ := r
      have hm := HM.out.below HBK.out
      have m0 := (hm.1 0 _ rfl).1
      have m1 := (hm.1 1 _ rfl).1
      have m2 := (hm.1 2 _ rfl).1
      have m3 := (hm.1 3 _ rfl).1
      obtain ⟨ok, hok⟩ : ∃ z, sameM ⟨mi, mp, mx, mt⟩ ⟨ki, kp, kx, kt⟩ = z := ⟨_, rfl⟩
      have he := fun W => mkD_eql ⟨mi, mp, mx, mt⟩ ⟨ki, kp, kx, kt⟩ W
      rw [hok] at he
      have HTA := Lib.hid (show takenB (l.take (k + 1)) ⟨ki, kp, kx, kt⟩ = ok from hta.trans hok)
      have HTY := Lib.hid (show ok = true → takenB l ⟨ki, kp, kx, kt⟩ = true from fun h => hty (hok.trans h))
      have i1 : (0 : Int) ≤ (k : Int) := by omega
      have i2 : (k : Int) < (n : Int) := by omega
      have d0 : decide (k < n) = true := dT hlt
      have HLT := Lib.hid hlt
      clear hta hty hm hr hok hrow hlt hk
      cases ok
      · go_wp2_with fail
        go_quiet (fail)
        rename_i nq
        have HB9 := Lib.hid (below_drewN HBK.out nq)
        clear c0 f0 f1 f2 f3 m0 m1 m2 m3
        go_wp2
        go_roundw
        case rel => exact ⟨k + 1, HLT.out, by go_num, HTA, HB9⟩
        case measure =>
          simp only [intOf]
          have := HLT.out
          omega
      · have HYY := Lib.hid (show takenB l ⟨ki, kp, kx, kt⟩ = true from HTY.out rfl)
        clear HTY
        go_wp2_with fail
        go_quiet (fail)
        rename_i nq
        have HB9 := Lib.hid (HB.out.trans ((below_drewN HBK.out nq).mono HB.out.size))
        clear c0 f0 f1 f2 f3 m0 m1 m2 m3
        go_wp2
        go_ret
        exact ⟨by rw [HYY.out]; rfl, HB9.out⟩
    · have d0 : decide (k < n) = false := dF hlt
      obtain rfl : k = n := by omega
      have HFA := Lib.hid (show takenB l ⟨ki, kp, kx, kt⟩ = false from by have := HA.out; rwa [List.take_of_length_le (by rw [HN.out]; exact Nat.le_refl _)] at this)
      have HB9 := Lib.hid (HB.out.trans (HBK.out.mono HB.out.size))
      clear hlt hk hrow
      go_wp2
      go_ret
      exact ⟨by rw [HFA.out]; rfl, HB9.out⟩
end Go.Proofs.Ytocfphijheidbaa
end

section
namespace Go.Proofs.Ytocfphijheidbaa
open Go.RowKit

theorem infoWd : (Try.prog.info? 84).map (fun i => (i.zero, i.size, i.bytes)) = some (some zWt, 9, 88) := by kernel_rfl
/-- Two rows of Waits, apart from each other. -/
structure PrR (B : Nat) (w : World) (v5 v6 : Value) (A C : List WtP) : Prop where
  a : w.ownsRow 0 84 9 v5 A.length (flatW A)
  c : w.ownsRow 0 84 9 v6 C.length (flatW C)
  ba : ∀ g, v5.ownBlock = some g → B ≤ g
  bc : ∀ g, v6.ownBlock = some g → B ≤ g
  ne : ∀ g, v5.ownBlock = some g → v6.ownBlock ≠ some g
theorem PrR.below {B : Nat} {w w' : World} {v5 v6 : Value} {A C : List WtP} (h : PrR B w v5 v6 A C) (hb : Below w.heap.size w w') : PrR B w' v5 v6 A C :=
  ⟨own_below' h.a hb, own_below' h.c hb, h.ba, h.bc, h.ne⟩
theorem PrR.more5 {B : Nat} {w w' : World} {v5 v6 v' : Value} {A C : List WtP} {r : WtP} (h : PrR B w v5 v6 A C) (hB : B ≤ w.heap.size) (h1 : w'.ownsRow 0 84 9 v' (A.length + 1) (flatW A ++ encW r)) (h2 : w.grownBy w' v5.ownBlock) (h3 : ∀ g, v'.ownBlock = some g → v5.ownBlock = some g ∨ w.heap.size ≤ g) : PrR B w' v' v6 (A ++ [r]) C := by
  refine ⟨by rw [List.length_append, List.length_singleton, flatW_app, flatW_one1]; exact h1, h.c.kept h2 ?_, fun g hg => ?_, h.bc, fun g hg e => ?_⟩
  · cases e : v6.ownBlock with
    | none => exact Or.inl rfl
    | some g => exact Or.inr (fun e2 => h.ne g e2.symm e)
  · rcases h3 g hg with h4 | h4
    · exact h.ba g h4
    · exact Nat.le_trans hB h4
  · rcases h3 g hg with h4 | h4
    · exact h.ne g h4 e
    · have := (h.c.lt g e).2; omega
theorem PrR.more6 {B : Nat} {w w' : World} {v5 v6 v' : Value} {A C : List WtP} {r : WtP} (h : PrR B w v5 v6 A C) (hB : B ≤ w.heap.size) (h1 : w'.ownsRow 0 84 9 v' (C.length + 1) (flatW C ++ encW r)) (h2 : w.grownBy w' v6.ownBlock) (h3 : ∀ g, v'.ownBlock = some g → v6.ownBlock = some g ∨ w.heap.size ≤ g) : PrR B w' v5 v' A (C ++ [r]) := by
  refine ⟨h.a.kept h2 ?_, by rw [List.length_append, List.length_singleton, flatW_app, flatW_one1]; exact h1, h.ba, fun g hg => ?_, fun g hg e => ?_⟩
  · cases e : v5.ownBlock with
    | none => exact Or.inl rfl
    | some g => exact Or.inr (fun e2 => h.ne g e e2.symm)
  · rcases h3 g hg with h4 | h4
    · exact h.bc g h4
    · exact Nat.le_trans hB h4
  · rcases h3 g e with h4 | h4
    · exact h.ne g hg h4
    · have := (h.a.lt g hg).2; omega
theorem partR_end {w wr : World} {bs : List Nat} {q : Nat} {s : TbP} {A C : List WtP} {v5 v6 : Value} (h : RTs w bs q s) (hb : Below w.heap.size w wr) (hp : PrR w.heap.size wr v5 v6 A C) : (wr.setCell ⟨q, 0, none⟩ v6).ownsRow w.heap.size 84 9 v5 A.length (flatW A) ∧ (∃ cs, RTs (wr.setCell ⟨q, 0, none⟩ v6) cs q { s with ws := C } ∧ (∀ g ∈ cs, g ∈ bs ∨ w.heap.size ≤ g) ∧ ∀ g, v5.ownBlock = some g → g ∉ cs) ∧ Frm w (wr.setCell ⟨q, 0, none⟩ v6) [q] := by
  have hq := h.lt q h.choose_spec.2.1.1
  have hk : ∀ g, g ≠ q → (wr.setCell ⟨q, 0, none⟩ v6).heap[g]? = wr.heap[g]? := fun g hg => Below.heap_setCell _ _ _ _ hg
  obtain ⟨wv, ⟨h1, -⟩, ⟨a1, -⟩, -⟩ := h.below hb
  have hpa : ∀ g, v5.ownBlock = some g → g ≠ q := fun g hg e => by have := hp.ba g hg; omega
  have hpc : ∀ g, v6.ownBlock = some g → g ≠ q := fun g hg e => by have := hp.bc g hg; omega
  have h5 := own_kept hp.a (fun g hg => hk g (hpa g hg))
  have h6 := own_kept hp.c (fun g hg => hk g (hpc g hg))
  have hmm : ∀ x, x ∈ q :: v6.ownBlock.toList ↔ x = q ∨ v6.ownBlock = some x := by
    intro x
    simp [Option.mem_toList]
  refine ⟨⟨h5.1, ?_⟩, ⟨q :: v6.ownBlock.toList, ⟨v6, ⟨h1.set 0 (by simp) _, h6⟩, ⟨(hmm _).2 (Or.inl rfl), fun g hg => ⟨(hmm _).2 (Or.inr hg), hpc g hg⟩⟩, fun b hx => ?_⟩, fun g hg => ?_, fun g hg e => ?_⟩, ((Frm.refl w [q]).below hb (Nat.le_refl _)).set q 0 (Or.inl (by simp)) _⟩
  · rcases h5.2 with e | ⟨g, cap, cur, e, _, e3⟩
    · exact Or.inl e
    · exact Or.inr ⟨g, cap, cur, e, hp.ba g (by rw [e]; rfl), e3⟩
  · rw [show (wr.setCell ⟨q, 0, none⟩ v6).heap.size = wr.heap.size by simp]
    rcases (hmm b).1 hx with rfl | e
    · exact Nat.lt_of_lt_of_le hq hb.size
    · exact (hp.c.lt b e).2
  · rcases (hmm g).1 hg with rfl | e
    · exact Or.inl h.choose_spec.2.1.1
    · exact Or.inr (hp.bc g e)
  · rcases (hmm g).1 e with h7 | h7
    · exact hpa g hg h7
    · exact hp.ne g hg h7
set_option maxRecDepth 100000 in
set_option maxHeartbeats 4000000 in
theorem expireR_any (bs : List Nat) (q : Nat) (s : TbP) (now : Int) (w : World) (h : RTs w bs q s) (hn : s.ws.length ≤ 10000) :
    Calls Try.prog 53 #[.pointer (some ⟨q, 0, none⟩), .int .i64 now] w fun e w' => ∃ v, e = .returned v ∧ w'.ownsRow w.heap.size 84 9 v (s.ws.filter (fun x => decide (x.until_ ≤ now))).length (flatW (s.ws.filter (fun x => decide (x.until_ ≤ now)))) ∧ (∃ cs, RTs w' cs q { s with ws := s.ws.filter (fun x => !decide (x.until_ ≤ now)) } ∧ (∀ g ∈ cs, g ∈ bs ∨ w.heap.size ≤ g) ∧ ∀ g, v.ownBlock = some g → g ∉ cs) ∧ Frm w w' [q] := by
  have HT := Lib.hid h
  have HNN := Lib.hid hn
  obtain ⟨i0, hi, hz0, hz1, hz2⟩ := info_parts infoWd
  have HI := Lib.hid hi
  have HZ0 := Lib.hid hz0
  have HZ1 := Lib.hid hz1
  have HZ2 := Lib.hid hz2
  obtain ⟨l, hl⟩ : ∃ z, s.ws = z := ⟨_, rfl⟩
  have HWS := Lib.hid hl
  obtain ⟨n, hln⟩ : ∃ z, l.length = z := ⟨_, rfl⟩
  have HL := Lib.hid hln
  have hn2 : n ≤ 10000 := by rw [← hln, ← hl]; exact hn
  clear hi hz0 hz1 hz2 h hn hl hln
  go_enter Try.func53, Try.ntmps53
  go_wp2_with fail
  go_loopw [5, 6, 7] (fun v5 v6 i wr => ∃ k : Nat, k ≤ n ∧ i = .int .i64 k ∧ Hid (PrR w.heap.size wr v5 v6 ((l.take k).filter (fun x => decide (x.until_ ≤ now))) ((l.take k).filter (fun x => !(fun x => decide (x.until_ ≤ now)) x))) ∧ Hid (Below w.heap.size w wr)) (fun _ _ i _ => n - (intOf i).toNat)
  case atStart => exact ⟨0, Nat.zero_le _, rfl, Lib.hid ⟨World.ownsRow_nil _ _ _ _, World.ownsRow_nil _ _ _ _, (fun g hg => by cases hg), (fun g hg => by cases hg), (fun g hg => by cases hg)⟩, Lib.hid (Below.refl _ _)⟩
  case round =>
    obtain ⟨k, hk, rfl, HP, HB⟩ := hrel
    obtain ⟨a, c, c0, -, -, f9, -, hrow⟩ := (HT.out.below HB.out).parts
    rw [HWS.out, HL.out] at c0 hrow
    by_cases hlt : k < n
    · clear f9
      obtain ⟨gb, c', e, -, -⟩ := own_shp' hrow (by omega)
      injection e with e1 _ e3
      subst e1
      subst e3
      obtain ⟨x, hs⟩ : ∃ s, l[k]? = some s := ⟨_, List.getElem?_eq_getElem (by have := HL.out; omega)⟩
      have HS := Lib.hid hs
      obtain ⟨f0, f1, f2, f3, f4, f5, f6, f7, f8⟩ := row_cellsW hrow hs
      obtain ⟨⟨mi, mp, mx, mt⟩, ⟨mn, my, mc⟩, mj, mu⟩ := x
      have i1 : (0 : Int) ≤ (k : Int) := by omega
      have i2 : (k : Int) < (n : Int) := by omega
      have d0 : decide (k < n) = true := dT hlt
      have HLT := Lib.hid hlt
      clear hs hrow hlt hk
      obtain ⟨A, hA⟩ : ∃ z, (l.take k).filter (fun x => decide (x.until_ ≤ now)) = z := ⟨_, rfl⟩
      obtain ⟨C, hC⟩ : ∃ z, (l.take k).filter (fun x => !(fun x => decide (x.until_ ≤ now)) x) = z := ⟨_, rfl⟩
      have hp := HP.out
      rw [hA, hC] at hp
      replace HP := Lib.hid hp
      have HAE := Lib.hid hA
      have HCE := Lib.hid hC
      have hal := (Below.refl wr.heap.size wr).alloc (Nat.le_refl _) (.cells #[.int .i64 mi, .int .i64 mp, .string mx, .bool mt, .string mn, .int .i64 my, .int .i64 mc, .int .i64 mj, .int .i64 mu] 84)
      have HPA := Lib.hid (HP.out.below hal)
      have HBA := Lib.hid (HB.out.trans (hal.mono HB.out.size))
      have HCA := Lib.hid (show CellsAt (wr.alloc (.cells #[.int .i64 mi, .int .i64 mp, .string mx, .bool mt, .string mn, .int .i64 my, .int .i64 mc, .int .i64 mj, .int .i64 mu] 84)) (some ⟨wr.heap.size, 0, none⟩) (1 * 9) (encW ⟨⟨mi, mp, mx, mt⟩, ⟨mn, my, mc⟩, mj, mu⟩) from cells_lit wr #[.int .i64 mi, .int .i64 mp, .string mx, .bool mt, .string mn, .int .i64 my, .int .i64 mc, .int .i64 mj, .int .i64 mu] 84)
      obtain ⟨a5, c5, rfl, -, -⟩ := cellsK_own HPA.out.a
      obtain ⟨a6, c6, rfl, -, -⟩ := cellsK_own HPA.out.c
      have HLA := Lib.hid (show A.length ≤ 10000 ∧ C.length ≤ 10000 from by rw [← hA, ← hC]; exact ⟨Nat.le_trans (filt_len l _ k) (by have := HLT.out; omega), Nat.le_trans (filt_len l _ k) (by have := HLT.out; omega)⟩)
      clear hA hC hal hp
      obtain ⟨ok, hok⟩ : ∃ z, decide (mu ≤ now) = z := ⟨_, rfl⟩
      have HOK := Lib.hid hok
      have hok' := hok
      clear hok
      cases ok
      · go_wp2_with (refine wpList_append_fr rfl (.tmp 37) (.tmp 45) 88 84 rfl i0 zWt 9 88 Try.underlying88 HI.out HZ0.out HZ1.out HZ2.out rfl (by decide) (.slice a6 C.length c6) C.length (flatW C) rfl HPA.out.c ⟨wr.heap.size, 0, none⟩ 1 1 (encW ⟨⟨mi, mp, mx, mt⟩, ⟨mn, my, mc⟩, mj, mu⟩) rfl HCA.out (encW_one _) (by have := HLA.out; omega) (by decide) ?_)
        intro v' w3 g1 g2 g3
        have HP3 := Lib.hid (HPA.out.more6 HBA.out.size g1 g2 (by rw [World.size_alloc]; exact g3))
        have HB3 := Lib.hid (HBA.out.grown g2 HBA.out.size (fun j hj => HPA.out.bc j hj))
        clear g1 g2 g3 f0 f1 f2 f3 f4 f5 f6 f7 f8 c0
        go_wp2
        go_roundw
        case rel => exact ⟨k + 1, HLT.out, by go_num, Lib.hid (by
          obtain ⟨y1, y2⟩ := filt_no (p := (fun x => decide (x.until_ ≤ now))) HS.out HOK.out
          rw [y1, y2, HAE.out, HCE.out]
          exact HP3.out), HB3⟩
        case measure =>
          simp only [intOf]
          have := HLT.out
          omega
      · go_wp2_with (refine wpList_append_fr rfl (.tmp 27) (.tmp 35) 88 84 rfl i0 zWt 9 88 Try.underlying88 HI.out HZ0.out HZ1.out HZ2.out rfl (by decide) (.slice a5 A.length c5) A.length (flatW A) rfl HPA.out.a ⟨wr.heap.size, 0, none⟩ 1 1 (encW ⟨⟨mi, mp, mx, mt⟩, ⟨mn, my, mc⟩, mj, mu⟩) rfl HCA.out (encW_one _) (by have := HLA.out; omega) (by decide) ?_)
        intro v' w3 g1 g2 g3
        have HP3 := Lib.hid (HPA.out.more5 HBA.out.size g1 g2 (by rw [World.size_alloc]; exact g3))
        have HB3 := Lib.hid (HBA.out.grown g2 HBA.out.size (fun j hj => HPA.out.ba j hj))
        clear g1 g2 g3 f0 f1 f2 f3 f4 f5 f6 f7 f8 c0
        go_wp2
        go_roundw
        case rel => exact ⟨k + 1, HLT.out, by go_num, Lib.hid (by
          obtain ⟨y1, y2⟩ := filt_yes (p := (fun x => decide (x.until_ ≤ now))) HS.out HOK.out
          rw [y1, y2, HAE.out, HCE.out]
          exact HP3.out), HB3⟩
        case measure =>
          simp only [intOf]
          have := HLT.out
          omega
    · have d0 : decide (k < n) = false := dF hlt
      have hkn : k = n := by omega
      subst hkn
      have HPE := Lib.hid (show PrR w.heap.size wr u5 u6 (s.ws.filter (fun x => decide (x.until_ ≤ now))) (s.ws.filter (fun x => !(fun x => decide (x.until_ ≤ now)) x)) from by
        have h1 := HP.out
        rw [List.take_of_length_le (by rw [HL.out]; exact Nat.le_refl _)] at h1
        rw [HWS.out]
        exact h1)
      have HEND := Lib.hid (partR_end HT.out HB.out HPE.out)
      obtain ⟨a6, c6, e6, -, -⟩ := cellsK_own HPE.out.c
      subst e6
      clear hrow hlt hk
      go_wp2
      go_ret
      exact ⟨_, rfl, HEND.out⟩
theorem mem_more {J : List Int} {k : Nat} {j x : Int} (h : J[k]? = some j) : decide (x ∈ J.take (k + 1)) = (decide (x ∈ J.take k) || (j == x)) := by
  obtain ⟨h1, h2⟩ := List.getElem?_eq_some_iff.1 h
  rw [List.take_succ_eq_append_getElem h1, h2]
  by_cases h3 : x ∈ J.take k <;> by_cases h4 : j = x <;> simp [h3, h4]
  rw [Bool.eq_iff_iff, decide_eq_true_eq, beq_iff_eq]
  exact eq_comm
set_option maxRecDepth 100000 in
set_option maxHeartbeats 4000000 in
theorem dropR_any (bs : List Nat) (q : Nat) (s : TbP) (ja : Option Addr) (jn jc : Nat) (J : List Int) (w : World) (h : RTs w bs q s) (hn : s.ws.length ≤ 10000) (hJ : Row w ja jn J) (hjn : jn ≤ 1000000) :
    Calls Try.prog 55 #[.pointer (some ⟨q, 0, none⟩), .slice ja jn jc] w fun e w' => e = .returned (.int .i64 ((s.ws.filter (fun x => decide (x.job ∈ J))).length : Int)) ∧ (∃ cs, RTs w' cs q { s with ws := s.ws.filter (fun x => !decide (x.job ∈ J)) } ∧ ∀ g ∈ cs, g ∈ bs ∨ w.heap.size ≤ g) ∧ Frm w w' [q] := by
  have HT := Lib.hid h
  have HNN := Lib.hid hn
  obtain ⟨i0, hi, hz0, hz1, hz2⟩ := info_parts infoWd
  have HI := Lib.hid hi
  have HZ0 := Lib.hid hz0
  have HZ1 := Lib.hid hz1
  have HZ2 := Lib.hid hz2
  obtain ⟨l, hl⟩ : ∃ z, s.ws = z := ⟨_, rfl⟩
  have HWS := Lib.hid hl
  obtain ⟨n, hln⟩ : ∃ z, l.length = z := ⟨_, rfl⟩
  have HL := Lib.hid hln
  have hn2 : n ≤ 10000 := by rw [← hln, ← hl]; exact hn
  clear hi hz0 hz1 hz2 h hn hl hln
  have HJ := Lib.hid hJ
  clear hJ
  go_enter Try.func55, Try.ntmps55
  go_wp2_with fail
  go_loopw [5, 6] (fun v6 i wr => ∃ k : Nat, k ≤ n ∧ i = .int .i64 k ∧ Hid (PrR w.heap.size wr (.slice none 0 0) v6 [] ((l.take k).filter (fun x => !(fun x => decide (x.job ∈ J)) x))) ∧ Hid (Below w.heap.size w wr)) (fun _ i _ => n - (intOf i).toNat)
  case atStart => exact ⟨0, Nat.zero_le _, rfl, Lib.hid ⟨World.ownsRow_nil _ _ _ _, World.ownsRow_nil _ _ _ _, (fun g hg => by cases hg), (fun g hg => by cases hg), (fun g hg => by cases hg)⟩, Lib.hid (Below.refl _ _)⟩
  case round =>
    obtain ⟨k, hk, rfl, HP, HB⟩ := hrel
    obtain ⟨a, c, c0, -, -, f9, -, hrow⟩ := (HT.out.below HB.out).parts
    rw [HWS.out, HL.out] at c0 hrow
    by_cases hlt : k < n
    · clear f9
      obtain ⟨gb, c', e, -, -⟩ := own_shp' hrow (by omega)
      injection e with e1 _ e3
      subst e1
      subst e3
      obtain ⟨x, hs⟩ : ∃ s, l[k]? = some s := ⟨_, List.getElem?_eq_getElem (by have := HL.out; omega)⟩
      have HS := Lib.hid hs
      obtain ⟨f0, f1, f2, f3, f4, f5, f6, f7, f8⟩ := row_cellsW hrow hs
      obtain ⟨⟨mi, mp, mx, mt⟩, ⟨mn, my, mc⟩, mj, mu⟩ := x
      have i1 : (0 : Int) ≤ (k : Int) := by omega
      have i2 : (k : Int) < (n : Int) := by omega
      have d0 : decide (k < n) = true := dT hlt
      have HLT := Lib.hid hlt
      clear hs hrow hlt hk
      clear f0 f1 f2 f3 f4 f5 f6 f8
      have HC0 := Lib.hid c0
      have HF7 := Lib.hid f7
      clear c0 f7
      have C0 := HC0.out
      go_wp2_with fail
      clear C0
      go_loopw [7, 8] (fun gv i wx => ∃ j m : Nat, j ≤ jn ∧ i = .int .i64 j ∧ gv = .bool (decide (mj ∈ J.take j)) ∧ wx = wr.drewN m) (fun _ i _ => jn - (intOf i).toNat)
      case atStart => exact ⟨0, 0, Nat.zero_le _, rfl, rfl, rfl⟩
      case round =>
        obtain ⟨j, m, hj, rfl, rfl, rfl⟩ := hrel
        by_cases hjl : j < jn
        · rcases HJ.out.2 with h0 | ⟨jb, jo, rfl, hjb, hjc⟩
          · omega
          obtain ⟨jv, hjv⟩ : ∃ z, J[j]? = some z := ⟨_, List.getElem?_eq_getElem (by rw [HJ.out.1]; exact hjl)⟩
          have cj := cell_later HB.out (hjc j hjl)
          rw [show J.getD j 0 = jv from by rw [List.getD_eq_getElem?_getD, hjv]; rfl] at cj
          have hmm := mem_more (x := mj) hjv
          obtain ⟨G, hG⟩ : ∃ z, decide (mj ∈ J.take j) = z := ⟨_, rfl⟩
          rw [hG] at hmm ⊢
          have HMM := Lib.hid hmm
          have c0 := HC0.out
          have f7 := HF7.out
          have e1 : decide (j < jn) = true := dT hjl
          have j1 : (0 : Int) ≤ (j : Int) := by omega
          have j2 : (j : Int) < (jn : Int) := by omega
          have HJL := Lib.hid hjl
          clear hmm hG hjb hjc hjv hj hjl
          obtain ⟨ee, hee⟩ : ∃ z, (jv == mj) = z := ⟨_, rfl⟩
          have HEE := Lib.hid hee
          cases G
          · go_wp2_with fail
            go_quiet (fail)
            rename_i nq
            clear c0 f7 cj hee
            go_wp2
            go_roundw
            case rel => exact ⟨j + 1, m + nq, HJL.out, by go_num, by rw [HMM.out, HEE.out, Bool.false_or], by first | rfl | exact drewN_add _ _ _⟩
            case measure =>
              simp only [intOf]
              have := HJL.out
              omega
          · go_wp2_with fail
            go_quiet (fail)
            rename_i nq
            clear c0 f7 cj hee
            go_wp2
            go_roundw
            case rel => exact ⟨j + 1, m + nq, HJL.out, by go_num, by rw [HMM.out, Bool.true_or], by first | rfl | exact drewN_add _ _ _⟩
            case measure =>
              simp only [intOf]
              have := HJL.out
              omega
        · have e1 : decide (j < jn) = false := dF hjl
          obtain rfl : j = jn := by omega
          have htk : J.take j = J := List.take_of_length_le (by rw [HJ.out.1]; exact Nat.le_refl _)
          rw [htk]
          obtain ⟨G, hG⟩ : ∃ z, decide (mj ∈ J) = z := ⟨_, rfl⟩
          rw [hG]
          have HG := Lib.hid hG
          have hb := below_drewN (Below.refl wr.heap.size wr) m
          have c0 := cell_later hb HC0.out
          have hrow := (HT.out.below (HB.out.trans (hb.mono HB.out.size)))
          replace HP := Lib.hid (HP.out.below hb)
          replace HB := Lib.hid (HB.out.trans (hb.mono HB.out.size))
          obtain ⟨a2, c2, q0, -, -, -, -, hrow⟩ := hrow.parts
          rw [HWS.out, HL.out] at q0 hrow
          obtain ⟨w4, hw4⟩ : ∃ z, wr.drewN m = z := ⟨_, rfl⟩
          rw [hw4] at c0 q0 hrow HP HB ⊢
          rw [q0] at c0
          injection c0 with c0
          injection c0 with e1 _ e3
          subst e1
          subst e3
          obtain ⟨f0, f1, f2, f3, f4, f5, f6, f7, f8⟩ := row_cellsW hrow HS.out
          have c0 := q0
          clear hG htk hb hw4 hrow q0 hj hjl HC0 HF7
          cases G
          · obtain ⟨C, hC⟩ : ∃ z, (l.take k).filter (fun x => !(fun x => decide (x.job ∈ J)) x) = z := ⟨_, rfl⟩
            have hp := HP.out
            rw [hC] at hp
            replace HP := Lib.hid hp
            have HCE := Lib.hid hC
            have hal := (Below.refl w4.heap.size w4).alloc (Nat.le_refl _) (.cells #[.int .i64 mi, .int .i64 mp, .string mx, .bool mt, .string mn, .int .i64 my, .int .i64 mc, .int .i64 mj, .int .i64 mu] 84)
            have HPA := Lib.hid (HP.out.below hal)
            have HBA := Lib.hid (HB.out.trans (hal.mono HB.out.size))
            have HCA := Lib.hid (show CellsAt (w4.alloc (.cells #[.int .i64 mi, .int .i64 mp, .string mx, .bool mt, .string mn, .int .i64 my, .int .i64 mc, .int .i64 mj, .int .i64 mu] 84)) (some ⟨w4.heap.size, 0, none⟩) (1 * 9) (encW ⟨⟨mi, mp, mx, mt⟩, ⟨mn, my, mc⟩, mj, mu⟩) from cells_lit w4 #[.int .i64 mi, .int .i64 mp, .string mx, .bool mt, .string mn, .int .i64 my, .int .i64 mc, .int .i64 mj, .int .i64 mu] 84)
            obtain ⟨a6, c6, rfl, -, -⟩ := cellsK_own HPA.out.c
            have HLA := Lib.hid (show C.length ≤ 10000 from by rw [← hC]; exact Nat.le_trans (filt_len l _ k) (by have := HLT.out; omega))
            clear hC hal hp
            go_wp2_with (refine wpList_append_fr rfl (.tmp 43) (.tmp 51) 88 84 rfl i0 zWt 9 88 Try.underlying88 HI.out HZ0.out HZ1.out HZ2.out rfl (by decide) (.slice a6 C.length c6) C.length (flatW C) rfl HPA.out.c ⟨w4.heap.size, 0, none⟩ 1 1 (encW ⟨⟨mi, mp, mx, mt⟩, ⟨mn, my, mc⟩, mj, mu⟩) rfl HCA.out (encW_one _) (by have := HLA.out; omega) (by decide) ?_)
            intro v' w3 g1 g2 g3
            have HP3 := Lib.hid (HPA.out.more6 HBA.out.size g1 g2 (by rw [World.size_alloc]; exact g3))
            have HB3 := Lib.hid (HBA.out.grown g2 HBA.out.size (fun j hj => HPA.out.bc j hj))
            clear g1 g2 g3 f0 f1 f2 f3 f4 f5 f6 f7 f8 c0
            go_wp2
            go_roundw
            case rel => exact ⟨k + 1, HLT.out, by go_num, Lib.hid (by
              obtain ⟨-, y2⟩ := filt_no (p := (fun x => decide (x.job ∈ J))) HS.out HG.out
              rw [y2, HCE.out]
              exact HP3.out), HB3⟩
            case measure =>
              simp only [intOf]
              have := HLT.out
              omega
          · clear f0 f1 f2 f3 f4 f5 f6 f7 f8 c0
            go_wp2
            go_roundw
            case rel => exact ⟨k + 1, HLT.out, by go_num, Lib.hid (by
              obtain ⟨-, y2⟩ := filt_yes (p := (fun x => decide (x.job ∈ J))) HS.out HG.out
              rw [y2]
              exact HP.out), HB⟩
            case measure =>
              simp only [intOf]
              have := HLT.out
              omega
    · have d0 : decide (k < n) = false := dF hlt
      have hkn : k = n := by omega
      subst hkn
      have HPE := Lib.hid (show PrR w.heap.size wr (.slice none 0 0) u5 [] (s.ws.filter (fun x => !(fun x => decide (x.job ∈ J)) x)) from by
        have h1 := HP.out
        rw [List.take_of_length_le (by rw [HL.out]; exact Nat.le_refl _)] at h1
        rw [HWS.out]
        exact h1)
      have HEND := Lib.hid (partR_end HT.out HB.out HPE.out)
      have hsum := filt_sum s.ws (fun x => decide (x.job ∈ J))
      obtain ⟨X, hX⟩ : ∃ z, (s.ws.filter (fun x => decide (x.job ∈ J))).length = z := ⟨_, rfl⟩
      obtain ⟨Y, hY⟩ : ∃ z, (s.ws.filter (fun x => !(fun x => decide (x.job ∈ J)) x)).length = z := ⟨_, rfl⟩
      have HX := Lib.hid hX
      obtain ⟨a6, c6, e6, -, -⟩ := cellsK_own HPE.out.c
      rw [hY] at e6
      subst e6
      rw [hX, hY, HWS.out, HL.out] at hsum
      have wx : IntKind.i64.wrap ((k : Int) - (Y : Int)) = (X : Int) := by rw [IntKind.wrap_i64]; omega
      clear hrow hlt hk hX hY hsum
      go_wp2
      go_ret
      obtain ⟨-, ⟨cs, h1, h2, -⟩, h3⟩ := HEND.out
      exact ⟨by rw [HX.out]; rfl, ⟨cs, h1, h2⟩, h3⟩
end Go.Proofs.Ytocfphijheidbaa
end

section
namespace Go.Proofs.Ytocfphijheidbaa
open Go.RowKit

theorem RTs.other {w : World} {bs : List Nat} {q p i : Nat} {s : TbP} (h : RTs w bs q s) (hp : p ∉ bs) (v : Value) : RTs (w.setCell ⟨p, i, none⟩ v) bs q s :=
  h.frm ((Frm.refl w [p]).set p i (Or.inl (by simp)) v) (fun b hb e => hp (by simp at e; exact e ▸ hb))
theorem outQ (x : Int) : (nxD x).tdiv 65536 = outD x := by
  rw [outD, Int.tdiv_eq_ediv_of_nonneg (nxD_in x).1]
set_option maxRecDepth 100000 in
set_option maxHeartbeats 8000000 in
theorem openR_yes (bs : List Nat) (q : Nat) (s : TbP) (now job : Int) (tx : ByteArray) (tcp : Bool) (nm : ByteArray) (ty cl : Int) (w : World) (h : RTs w bs q s) (hx : 0 ≤ s.x ∧ s.x < 4294967296) (hn : s.ws.length ≤ 5000) (hm : (s.ws.length : Int) < s.most) (hnow : 0 ≤ now ∧ now ≤ 1099511627776) :
    Calls Try.prog 44 #[.pointer (some ⟨q, 0, none⟩), .int .i64 now, .int .i64 job, .string tx, .bool tcp, .agg #[.string nm, .int .i64 ty, .int .i64 cl]] w fun e w' => e = .returned (.tuple #[.agg (encW (openW s now job tx tcp ⟨nm, ty, cl⟩)).toArray, .int .i64 0]) ∧ (∃ cs, RTs w' cs q (openP s now job tx tcp ⟨nm, ty, cl⟩) ∧ ∀ g ∈ cs, g ∈ bs ∨ w.heap.size ≤ g) ∧ Frm w w' bs := by
  have HXX := Lib.hid hx
  clear hx
  have HNN := Lib.hid hn
  have hqb := h.q
  have hq := h.lt q hqb
  have HQB := Lib.hid (show q ∈ bs ∧ q < w.heap.size ∧ ∀ b ∈ bs, b < w.heap.size from ⟨hqb, hq, h.lt⟩)
  have b1 := (Below.refl w.heap.size w).alloc (Nat.le_refl _) (.cells #[.string nm, .int .i64 ty, .int .i64 cl] 66)
  have q1 := HeldT.new w #[.string nm, .int .i64 ty, .int .i64 cl] 66
  have b2 := (Below.refl (w.alloc (.cells #[.string nm, .int .i64 ty, .int .i64 cl] 66)).heap.size (w.alloc (.cells #[.string nm, .int .i64 ty, .int .i64 cl] 66))).alloc (Nat.le_refl _) (.cells #[.int .i64 0, .int .i64 0, .string ⟨#[]⟩, .bool false, .string ⟨#[]⟩, .int .i64 0, .int .i64 0, .int .i64 0, .int .i64 0] 84)
  have q2 := q1.below b2
  have r2 := HeldT.new (w.alloc (.cells #[.string nm, .int .i64 ty, .int .i64 cl] 66)) #[.int .i64 0, .int .i64 0, .string ⟨#[]⟩, .bool false, .string ⟨#[]⟩, .int .i64 0, .int .i64 0, .int .i64 0, .int .i64 0] 84
  rw [World.size_alloc] at r2
  have HB := Lib.hid (b1.trans (b2.mono b1.size))
  obtain ⟨w0, hw0⟩ : ∃ z, (w.alloc (.cells #[.string nm, .int .i64 ty, .int .i64 cl] 66)).alloc (.cells #[.int .i64 0, .int .i64 0, .string ⟨#[]⟩, .bool false, .string ⟨#[]⟩, .int .i64 0, .int .i64 0, .int .i64 0, .int .i64 0] 84) = z := ⟨_, rfl⟩
  obtain ⟨gR, hgR⟩ : ∃ z, w.heap.size + 1 = z := ⟨_, rfl⟩
  obtain ⟨gQ, hgQ⟩ : ∃ z, w.heap.size = z := ⟨_, rfl⟩
  rw [hw0] at q2 r2 HB
  rw [hgR] at r2
  rw [hgQ] at q2
  have HQ := Lib.hid q2
  have HR := Lib.hid r2
  have HW0 := Lib.hid hw0
  have HGR := Lib.hid hgR
  have HGQ := Lib.hid hgQ
  have HT := Lib.hid (h.frm (Frm.below (Frm.refl w []) HB.out (Nat.le_refl _)) (fun _ _ h => by simp at h))
  have HF := Lib.hid ((Frm.refl w bs).below HB.out (Nat.le_refl _))
  have HNE := Lib.hid (show w.heap.size = gQ ∧ gR = gQ + 1 ∧ q ≠ gQ ∧ q ≠ gR by omega)
  clear b1 b2 q1 q2 r2 hw0 hgR hgQ hqb hq
  obtain ⟨a, c, c0, c1, c2, f0, f1, -⟩ := HT.out.parts
  obtain ⟨L, hL⟩ : ∃ z, s.ws.length = z := ⟨_, rfl⟩
  rw [hL] at c0 hm
  have HL := Lib.hid hL
  obtain ⟨mo, hmo⟩ : ∃ z, s.most = z := ⟨_, rfl⟩
  rw [hmo] at c2 hm
  have d1 : decide (mo ≤ (L : Int)) = false := dF (by omega)
  have HMO := Lib.hid hmo
  have HNW := Lib.hid hnow
  clear hL hmo h hn
  go_enter Try.func44, Try.ntmps44
  go_upto_region 1 with (fail)
  rw [HW0.out, HGR.out, HGQ.out]
  clear HW0 HGR HGQ
  go_quiet (fail)
  rename_i nq
  have hb := below_drewN (Below.refl w0.heap.size w0) nq
  clear c0 c1 c2 f0 f1
  replace HT := Lib.hid (HT.out.below hb)
  replace HQ := Lib.hid (HQ.out.below hb)
  replace HR := Lib.hid (HR.out.below hb)
  replace HF := Lib.hid (HF.out.below hb HF.out.size)
  obtain ⟨w1, hw1⟩ : ∃ z, w0.drewN nq = z := ⟨_, rfl⟩
  rw [hw1] at HT HQ HR HF
  have HW1 := Lib.hid hw1
  clear hb hw1 hm
  go_upto_region 3 with (fail)
  rw [HW1.out]
  clear HW1 d1
  go_wp2_with fail
  refine (timeR_any now w1).mono ?_; rintro e wx ⟨rfl, rfl⟩
  rw [decide_eq_true (show 0 ≤ now ∧ now ≤ 1099511627776 from HNW.out)]
  have hb := (Below.refl w1.heap.size w1).alloc (Nat.le_refl _) (.cells #[.int .i64 0, .int .i64 0, .string tx, .bool tcp] 82)
  have HK := Lib.hid (HeldT.new w1 #[.int .i64 0, .int .i64 0, .string tx, .bool tcp] 82)
  replace HT := Lib.hid (HT.out.below hb)
  replace HQ := Lib.hid (HQ.out.below hb)
  replace HF := Lib.hid (HF.out.below hb HF.out.size)
  have HS2 := Lib.hid (show w.heap.size + 2 ≤ w1.heap.size from by have h2 := HR.out.2; have := HNE.out; omega)
  replace HR := Lib.hid (HR.out.below hb)
  obtain ⟨w2, hw2⟩ : ∃ z, w1.alloc (.cells #[.int .i64 0, .int .i64 0, .string tx, .bool tcp] 82) = z := ⟨_, rfl⟩
  obtain ⟨gk, hgk⟩ : ∃ z, w1.heap.size = z := ⟨_, rfl⟩
  rw [hw2] at HT HQ HR HF HK
  rw [hgk] at HK HS2
  have HW2 := Lib.hid hw2
  have HGK := Lib.hid hgk
  clear hb hw2 hgk hnow
  go_upto_region 6 with (fail)
  rw [HW2.out, HGK.out]
  clear HW2 HGK
  have HKB := Lib.hid (show gk ∉ bs ∧ q ≠ gk ∧ gQ ≠ gk ∧ gR ≠ gk from ⟨fun e => by have := HQB.out.2.2 gk e; have := HS2.out; omega, by have := HQB.out.2.1; have := HS2.out; omega, by have := HNE.out; have := HS2.out; omega, by have := HNE.out; have := HS2.out; omega⟩)
  obtain ⟨-, -, -, c1, -, -, f1, -⟩ := HT.out.parts
  go_wp2_with fail
  refine (drawT_any q s.x w2 HXX.out c1 f1).mono ?_; rintro e w3 ⟨rfl, hw4⟩
  replace HT := Lib.hid (HT.out.setX (nxD s.x))
  replace HQ := Lib.hid (HQ.out.other (p := q) (i := 1) (fun e => HNE.out.2.2.1 e.symm) (.int .i64 (nxD s.x)))
  replace HR := Lib.hid (HR.out.other (p := q) (i := 1) (fun e => HNE.out.2.2.2 e.symm) (.int .i64 (nxD s.x)))
  replace HK := Lib.hid (HK.out.other (p := q) (i := 1) (fun e => HKB.out.2.1 e.symm) (.int .i64 (nxD s.x)))
  replace HF := Lib.hid (HF.out.set q 1 (Or.inl HQB.out.1) (.int .i64 (nxD s.x)))
  rw [← hw4] at HT HQ HR HF HK
  clear c1 f1 hw4
  have hq1 : (nxD s.x).tdiv 65536 = outD s.x := outQ s.x
  obtain ⟨o1, ho1⟩ : ∃ z, outD s.x = z := ⟨_, rfl⟩
  have HO1 := Lib.hid ho1
  rw [ho1] at hq1
  have hwq : IntKind.i64.wrap o1 = o1 := by rw [IntKind.wrap_i64]; have := outD_in s.x; omega
  clear ho1
  have k1 := (HK.out.1 0 _ rfl).1
  have kf := (HK.out.1 0 _ rfl).2
  replace HT := Lib.hid (HT.out.other (i := 0) HKB.out.1 (.int .i64 o1))
  replace HQ := Lib.hid (HQ.out.other (p := gk) (i := 0) HKB.out.2.2.1 (.int .i64 o1))
  replace HR := Lib.hid (HR.out.other (p := gk) (i := 0) HKB.out.2.2.2 (.int .i64 o1))
  replace HF := Lib.hid (HF.out.set gk 0 (Or.inr (by have := HS2.out; omega)) (.int .i64 o1))
  replace HK := Lib.hid (show HeldT gk [.int .i64 o1, .int .i64 0, .string tx, .bool tcp] (w3.setCell ⟨gk, 0, none⟩ (.int .i64 o1)) from HK.out.set (i := 0) (by simp) (.int .i64 o1))
  obtain ⟨w4, hw5⟩ : ∃ z, w3.setCell ⟨gk, 0, none⟩ (.int .i64 o1) = z := ⟨_, rfl⟩
  rw [hw5] at HT HQ HR HF HK
  have HW5 := Lib.hid hw5
  clear hw5
  go_upto_region 7 with (fail)
  rw [HW5.out]
  clear HW5 k1 kf hq1 hwq
  obtain ⟨-, -, -, c1, -, -, f1, -⟩ := HT.out.parts
  go_wp2_with fail
  refine (drawT_any q (nxD s.x) w4 (nxD_in _) c1 f1).mono ?_; rintro e w6 ⟨rfl, hw4⟩
  replace HT := Lib.hid (HT.out.setX (nxD (nxD s.x)))
  replace HQ := Lib.hid (HQ.out.other (p := q) (i := 1) (fun e => HNE.out.2.2.1 e.symm) (.int .i64 (nxD (nxD s.x))))
  replace HR := Lib.hid (HR.out.other (p := q) (i := 1) (fun e => HNE.out.2.2.2 e.symm) (.int .i64 (nxD (nxD s.x))))
  replace HK := Lib.hid (HK.out.other (p := q) (i := 1) (fun e => HKB.out.2.1 e.symm) (.int .i64 (nxD (nxD s.x))))
  replace HF := Lib.hid (HF.out.set q 1 (Or.inl HQB.out.1) (.int .i64 (nxD (nxD s.x))))
  rw [← hw4] at HT HQ HR HF HK
  clear c1 f1 hw4
  obtain ⟨po, hpo⟩ : ∃ z, portD s.x = z := ⟨_, rfl⟩
  have hq1 : (nxD (nxD s.x)).tdiv 65536 = outD (nxD s.x) := outQ _
  obtain ⟨o2, ho2⟩ : ∃ z, outD (nxD s.x) = z := ⟨_, rfl⟩
  have ho2i := outD_in (nxD s.x)
  rw [ho2] at ho2i hq1
  have hwq : IntKind.i64.wrap o2 = o2 := by rw [IntKind.wrap_i64]; omega
  have hpo2 : 1024 + o2 % 64512 = po := by rw [← hpo, portD, ho2]
  have ht1 : o2.tmod 64512 = o2 % 64512 := by rw [Int.tmod_eq_emod_of_nonneg ho2i.1]
  obtain ⟨r2, hr2⟩ : ∃ z, o2 % 64512 = z := ⟨_, rfl⟩
  rw [hr2] at ht1 hpo2
  have wa : IntKind.i64.wrap (1024 + r2) = po := by rw [hpo2.symm, IntKind.wrap_i64]; omega
  have HPO := Lib.hid hpo
  clear hpo ho2 ho2i hpo2 hr2
  have k1 := (HK.out.1 1 _ rfl).1
  have kf := (HK.out.1 1 _ rfl).2
  replace HT := Lib.hid (HT.out.other (i := 1) HKB.out.1 (.int .i64 po))
  replace HQ := Lib.hid (HQ.out.other (p := gk) (i := 1) HKB.out.2.2.1 (.int .i64 po))
  replace HR := Lib.hid (HR.out.other (p := gk) (i := 1) HKB.out.2.2.2 (.int .i64 po))
  replace HF := Lib.hid (HF.out.set gk 1 (Or.inr (by have := HS2.out; omega)) (.int .i64 po))
  replace HK := Lib.hid (show HeldT gk [.int .i64 o1, .int .i64 po, .string tx, .bool tcp] (w6.setCell ⟨gk, 1, none⟩ (.int .i64 po)) from HK.out.set (i := 1) (by simp) (.int .i64 po))
  obtain ⟨w5, hw5⟩ : ∃ z, w6.setCell ⟨gk, 1, none⟩ (.int .i64 po) = z := ⟨_, rfl⟩
  rw [hw5] at HT HQ HR HF HK
  have HW5 := Lib.hid hw5
  clear hw5
  go_wp2_with fail
  rw [HW5.out]
  clear HW5 k1 kf wa ht1 hq1 hwq
  have HO1I := Lib.hid (show 0 ≤ o1 ∧ o1 < 65536 from by rw [← HO1.out]; exact outD_in s.x)
  go_loopw [] (fun wr => ∃ id : Int, Hid (0 ≤ id ∧ id < 65536 ∧ seekI s.ws po tx tcp (s.ws.length + 1) id = seekI s.ws po tx tcp (s.ws.length + 1) o1) ∧ Hid (RTs wr bs q ⟨s.most, nxD (nxD s.x), s.ws⟩) ∧ Hid (HeldT gk [.int .i64 id, .int .i64 po, .string tx, .bool tcp] wr) ∧ Hid (HeldT gQ [.string nm, .int .i64 ty, .int .i64 cl] wr) ∧ Hid (HeldT gR [.int .i64 0, .int .i64 0, .string ⟨#[]⟩, .bool false, .string ⟨#[]⟩, .int .i64 0, .int .i64 0, .int .i64 0, .int .i64 0] wr) ∧ Hid (Frm w wr bs)) (fun wr => stepsI s.ws po tx tcp (s.ws.length + 2) (idOf wr gk))
  case atStart => exact ⟨o1, Lib.hid ⟨HO1I.out.1, HO1I.out.2, rfl⟩, HT, HK, HQ, HR, HF⟩
  case round =>
    obtain ⟨id, HID, HT2, HK2, HQ2, HR2, HF2⟩ := hrel
    have m0 := (HK2.out.1 0 _ rfl).1
    have m1 := (HK2.out.1 1 _ rfl).1
    have m2 := (HK2.out.1 2 _ rfl).1
    have m3 := (HK2.out.1 3 _ rfl).1
    go_wp2_with fail
    refine (has_any bs q ⟨s.most, nxD (nxD s.x), s.ws⟩ id po tx tcp wr HT2.out (by have := HNN.out; show s.ws.length ≤ 10000; omega)).mono ?_; rintro e wf ⟨rfl, hb⟩
    have HT3 := Lib.hid (HT2.out.below hb)
    have HK3 := Lib.hid (HK2.out.below hb)
    have HQ3 := Lib.hid (HQ2.out.below hb)
    have HR3 := Lib.hid (HR2.out.below hb)
    have HF3 := Lib.hid (HF2.out.below hb HF2.out.size)
    clear hb m0 m1 m2 m3
    obtain ⟨tk, htk⟩ : ∃ z, takenB s.ws ⟨id, po, tx, tcp⟩ = z := ⟨_, rfl⟩
    rw [htk]
    have HTK := Lib.hid htk
    clear htk
    cases tk
    · skip
      obtain ⟨un, hun⟩ : ∃ z, now + 3 = z := ⟨_, rfl⟩
      have wa : IntKind.i64.wrap (now + 3) = un := by rw [IntKind.wrap_i64, hun]; have := HNW.out; omega
      have HUN := Lib.hid hun
      have HIDE := Lib.hid (show id = seekI s.ws po tx tcp (s.ws.length + 1) o1 from by rw [← HID.out.2.2]; exact (seek_stop _ HTK.out).symm)
      clear hun
      have n0 := (HK3.out.1 0 _ rfl).1
      have n1 := (HK3.out.1 1 _ rfl).1
      have n2 := (HK3.out.1 2 _ rfl).1
      have n3 := (HK3.out.1 3 _ rfl).1
      have p0 := (HQ3.out.1 0 _ rfl).1
      have p1 := (HQ3.out.1 1 _ rfl).1
      have p2 := (HQ3.out.1 2 _ rfl).1
      have hb := (Below.refl wf.heap.size wf).alloc (Nat.le_refl _) (.cells #[.int .i64 id, .int .i64 po, .string tx, .bool tcp, .string nm, .int .i64 ty, .int .i64 cl, .int .i64 job, .int .i64 un] 84)
      have HW6 := Lib.hid (HeldT.new wf #[.int .i64 id, .int .i64 po, .string tx, .bool tcp, .string nm, .int .i64 ty, .int .i64 cl, .int .i64 job, .int .i64 un] 84)
      have HT5 := Lib.hid (HT3.out.below hb)
      have HR5 := Lib.hid (HR3.out.below hb)
      have HF5 := Lib.hid (HF3.out.below hb HF3.out.size)
      have HGW := Lib.hid (show w.heap.size + 2 ≤ wf.heap.size from by have h1 := HF3.out.size; have h2 := HR3.out.2; have := HNE.out; omega)
      obtain ⟨w6, hw6⟩ : ∃ z, wf.alloc (.cells #[.int .i64 id, .int .i64 po, .string tx, .bool tcp, .string nm, .int .i64 ty, .int .i64 cl, .int .i64 job, .int .i64 un] 84) = z := ⟨_, rfl⟩
      obtain ⟨gW, hgW⟩ : ∃ z, wf.heap.size = z := ⟨_, rfl⟩
      rw [hw6] at HW6 HT5 HR5 HF5
      rw [hgW] at HW6 HGW
      have HW6E := Lib.hid hw6
      have HGWE := Lib.hid hgW
      clear hb hw6 hgW HT2 HK2 HQ2 HR2 HF2 HT HK HQ HR HF
      go_upto_region 11 with (fail)
      rw [HW6E.out, HGWE.out]
      clear HW6E HGWE n0 n1 n2 n3 p0 p1 p2 wa HK3 HQ3 HT3 HR3 HF3
      obtain ⟨i0, hi, hz0, hz1, hz2⟩ := info_parts infoWd
      have HI := Lib.hid hi
      have HZ0 := Lib.hid hz0
      have HZ1 := Lib.hid hz1
      have HZ2 := Lib.hid hz2
      have HLN := Lib.hid (show L + 1 ≤ 20000 from by have := HNN.out; have := HL.out; omega)
      clear hi hz0 hz1 hz2
      obtain ⟨a, c, c2, -⟩ := HT5.out.parts
      rw [show (⟨s.most, nxD (nxD s.x), s.ws⟩ : TbP).ws.length = L from HL.out] at c2
      refine wp_region_last_drew (S := (fun wx => wx.cell? ⟨q, 0, none⟩ = some (.slice a L c) ∧ HeldT gW [.int .i64 id, .int .i64 po, .string tx, .bool tcp, .string nm, .int .i64 ty, .int .i64 cl, .int .i64 job, .int .i64 un] wx)) (L := 10) (by kernel_rfl) (⟨c2, HW6.out⟩) (fun hHeld => ?_)
      have hb := (Below.refl w6.heap.size w6).drew
      replace HT5 := Lib.hid (HT5.out.below hb)
      replace HR5 := Lib.hid (HR5.out.below hb)
      replace HF5 := Lib.hid (HF5.out.below hb HF5.out.size)
      obtain ⟨wd, hwd⟩ : ∃ z, w6.drew = z := ⟨_, rfl⟩
      rw [hwd] at HT5 HR5 HF5 hHeld ⊢
      clear hwd hb c2
      refine wpAnyL_take (i := 0) (oi := { dst := some 60, op := Go.Op.move (Go.Operand.tmp 0), type := 62, pos := "ref.go:590", after := #[], guard := none }) (v := ?v0_610101) rfl (by kernel_rfl) (by kernel_rfl) (by kernel_rfl) (by kernel_rfl) (by kernel_rfl) (fun _ _ _ h => h) (Or.inl ⟨by rfl, ?y0_610101⟩) hHeld ?r0_610101
      case y0_610101 => intro w hSw; (try dsimp only at hSw); go_simp; try with_reducible rfl
      try simp only [Act.put, List.setIfInBounds_toArray, List.set_cons_zero, List.set_cons_succ]
      refine wpAnyL_take (i := 1) (oi := { dst := some 61, op := Go.Op.move (Go.Operand.tmp 0), type := 62, pos := "ref.go:590", after := #[], guard := none }) (v := ?v1_610101) rfl (by kernel_rfl) (by kernel_rfl) (by kernel_rfl) (by kernel_rfl) (by kernel_rfl) (fun _ _ _ h => h) (Or.inl ⟨by rfl, ?y1_610101⟩) hHeld ?r1_610101
      case y1_610101 => intro w hSw; (try dsimp only at hSw); go_simp; try with_reducible rfl
      try simp only [Act.put, List.setIfInBounds_toArray, List.set_cons_zero, List.set_cons_succ]
      refine wpAnyL_take (i := 2) (oi := { dst := some 62, op := Go.Op.nilCheck (Go.Operand.tmp 61), type := 0, pos := "ref.go:590", after := #[{ on := 1, ground := Go.Ground.data }], guard := none }) (v := ?v2_610101) rfl (by kernel_rfl) (by kernel_rfl) (by kernel_rfl) (by kernel_rfl) (by kernel_rfl) (fun _ _ _ h => h) (Or.inl ⟨by rfl, ?y2_610101⟩) hHeld ?r2_610101
      case y2_610101 => intro w hSw; (try dsimp only at hSw); go_simp; try with_reducible rfl
      try simp only [Act.put, List.setIfInBounds_toArray, List.set_cons_zero, List.set_cons_succ]
      refine wpAnyL_take (i := 3) (oi := { dst := some 63, op := Go.Op.fieldAddr 90 (Go.Operand.tmp 62) 0, type := 0, pos := "ref.go:590", after := #[{ on := 2, ground := Go.Ground.data }], guard := none }) (v := ?v3_610101) rfl (by kernel_rfl) (by kernel_rfl) (by kernel_rfl) (by kernel_rfl) (by kernel_rfl) (fun _ _ _ h => h) (Or.inl ⟨by rfl, ?y3_610101⟩) hHeld ?r3_610101
      case y3_610101 => intro w hSw; (try dsimp only at hSw); go_simp; try with_reducible rfl
      try simp only [Act.put, List.setIfInBounds_toArray, List.set_cons_zero, List.set_cons_succ]
      refine wpAnyL_take (i := 4) (oi := { dst := some 64, op := Go.Op.load 88 (Go.Operand.tmp 63), type := 88, pos := "ref.go:590", after := #[{ on := 3, ground := Go.Ground.data }], guard := none }) (v := ?v4_610101) rfl (by kernel_rfl) (by kernel_rfl) (by kernel_rfl) (by kernel_rfl) (by kernel_rfl) (fun _ _ _ h => h) (Or.inl ⟨by rfl, ?y4_610101⟩) hHeld ?r4_610101
      case y4_610101 => intro w hSw; (try dsimp only at hSw); obtain ⟨s2, sw⟩ := hSw; have t0 := (sw.1 0 _ rfl).1; have t1 := (sw.1 1 _ rfl).1; have t2 := (sw.1 2 _ rfl).1; have t3 := (sw.1 3 _ rfl).1; have t4 := (sw.1 4 _ rfl).1; have t5 := (sw.1 5 _ rfl).1; have t6 := (sw.1 6 _ rfl).1; have t7 := (sw.1 7 _ rfl).1; have t8 := (sw.1 8 _ rfl).1; clear sw; go_simp; try with_reducible rfl
      try simp only [Act.put, List.setIfInBounds_toArray, List.set_cons_zero, List.set_cons_succ]
      refine wpAnyL_take (i := 5) (oi := { dst := some 65, op := Go.Op.load 84 (Go.Operand.tmp 15), type := 84, pos := "ref.go:590", after := #[], guard := none }) (v := ?v5_610101) rfl (by kernel_rfl) (by kernel_rfl) (by kernel_rfl) (by kernel_rfl) (by kernel_rfl) (fun _ _ _ h => h) (Or.inl ⟨by rfl, ?y5_610101⟩) hHeld ?r5_610101
      case y5_610101 => intro w hSw; (try dsimp only at hSw); obtain ⟨s2, sw⟩ := hSw; have t0 := (sw.1 0 _ rfl).1; have t1 := (sw.1 1 _ rfl).1; have t2 := (sw.1 2 _ rfl).1; have t3 := (sw.1 3 _ rfl).1; have t4 := (sw.1 4 _ rfl).1; have t5 := (sw.1 5 _ rfl).1; have t6 := (sw.1 6 _ rfl).1; have t7 := (sw.1 7 _ rfl).1; have t8 := (sw.1 8 _ rfl).1; clear sw; go_simp; try with_reducible rfl
      try simp only [Act.put, List.setIfInBounds_toArray, List.set_cons_zero, List.set_cons_succ]
      refine wpAnyL_ready (rs := [6]) (by kernel_rfl) (by simp) ?_
      refine AllReadyL.cons (o := { dst := some 66, op := Go.Op.buildSlice 88 1 #[(0, Go.Operand.tmp 65)], type := 88, pos := "ref.go:590", after := #[{ on := 5, ground := Go.Ground.data }], guard := none }) rfl (by decide) (fun K hK => ?_) AllReadyL.nil
      go_simp
      have hal := (Below.refl wd.heap.size wd).alloc (Nat.le_refl _) (.cells #[.int .i64 id, .int .i64 po, .string tx, .bool tcp, .string nm, .int .i64 ty, .int .i64 cl, .int .i64 job, .int .i64 un] 84)
      have hnext := And.intro (cell_later hal hHeld.1) (hHeld.2.below hal)
      have HCA := Lib.hid (show CellsAt (wd.alloc (.cells #[.int .i64 id, .int .i64 po, .string tx, .bool tcp, .string nm, .int .i64 ty, .int .i64 cl, .int .i64 job, .int .i64 un] 84)) (some ⟨wd.heap.size, 0, none⟩) (1 * 9) (encW ⟨⟨id, po, tx, tcp⟩, ⟨nm, ty, cl⟩, job, un⟩) from cells_lit wd #[.int .i64 id, .int .i64 po, .string tx, .bool tcp, .string nm, .int .i64 ty, .int .i64 cl, .int .i64 job, .int .i64 un] 84)
      replace HT5 := Lib.hid (HT5.out.below hal)
      replace HR5 := Lib.hid (HR5.out.below hal)
      replace HF5 := Lib.hid (HF5.out.below hal HF5.out.size)
      obtain ⟨we, hwe⟩ : ∃ z, wd.alloc (.cells #[.int .i64 id, .int .i64 po, .string tx, .bool tcp, .string nm, .int .i64 ty, .int .i64 cl, .int .i64 job, .int .i64 un] 84) = z := ⟨_, rfl⟩
      obtain ⟨gL, hgL⟩ : ∃ z, wd.heap.size = z := ⟨_, rfl⟩
      rw [hwe] at hnext HCA HT5 HR5 HF5 ⊢
      rw [hgL] at HCA ⊢
      clear hwe hgL hal
      obtain ⟨wv, hTB, hTA, hTL⟩ := HT5.out
      have hce := (hTB.1 0 _ rfl).1
      obtain rfl : wv = .slice a L c := by rw [hnext.1] at hce; exact (Option.some.inj hce).symm
      have HOW := Lib.hid (show we.ownsRow 0 84 9 (.slice a L c) L (flatW s.ws) from by have h := hTB.2; rw [HL.out] at h; exact h)
      have HTP := Lib.hid (And.intro hTB (And.intro hTA hTL))
      clear hTB hTA hTL hce HT5
      refine hK.out _ _ (hnext) (fun hHeld2 => ?_)
      clear hK K hHeld
      have hHeld := hHeld2
      clear hHeld2
      try simp only [Act.put, List.setIfInBounds_toArray, List.set_cons_zero, List.set_cons_succ]
      refine wpAnyL_ready (rs := [7]) (by kernel_rfl) (by simp) ?_
      refine AllReadyL.cons (o := { dst := some 67, op := Go.Op.call { callee := Go.Callee.builtin Go.Builtin.append, args := #[Go.Operand.tmp 64, Go.Operand.tmp 66], argTypes := #[88, 88] }, type := 88, pos := "ref.go:590", after := #[{ on := 4, ground := Go.Ground.data }, { on := 6, ground := Go.Ground.data }], guard := none }) rfl (by decide) (fun K hK => ?_) AllReadyL.nil
      refine step_append_fr (by rfl) (.tmp 64) (.tmp 66) 88 84 (by rfl) i0 zWt 9 88 Try.underlying88 HI.out HZ0.out HZ1.out HZ2.out rfl (by decide) (.slice a L c) L (flatW s.ws) (by rfl) HOW.out ⟨gL, 0, none⟩ 1 1 (encW ⟨⟨id, po, tx, tcp⟩, ⟨nm, ty, cl⟩, job, un⟩) (by rfl) HCA.out (encW_one _) HLN.out (by decide) ?_
      intro v' wg g1 g2 g3
      obtain ⟨va, vc, rfl, -⟩ := cellsK_own g1
      have hrow : ∀ g, (Value.slice a L c).ownBlock = some g → g ∈ bs ∧ g ≠ q := fun g hg => HTP.out.2.1.2 g hg
      have hgq : we.heap[q]? = wg.heap[q]? := (g2.block q (HTP.out.2.2 q HTP.out.2.1.1) (fun e => (hrow q e.symm).2 rfl)).symm
      have hnext := And.intro ((World.cell?_of_block (a := ⟨q, 0, none⟩) hgq.symm).trans hHeld.1) (hHeld.2.grown g2 (fun g hg e => by have h1 := (hrow g hg).1; have h2 := HQB.out.2.2 g h1; have := HGW.out; omega))
      have hgr := HR5.out.2
      replace HR5 := Lib.hid (HR5.out.grown g2 (fun g hg e => by have h1 := (hrow g hg).1; have h2 := HQB.out.2.2 g h1; have := HNE.out; omega))
      have HF6 := Lib.hid (HF5.out.grown g2 (fun g hg => Or.inl (hrow g hg).1))
      have HDC := Lib.hid (HTP.out.1.1.kept hgq.symm)
      have HG1 := Lib.hid g1
      have HG3 := Lib.hid (show ∀ g, (Value.slice va (L + 1) vc).ownBlock = some g → g ≠ q ∧ (g ∈ bs ∨ w.heap.size ≤ g) ∧ g < wg.heap.size ∧ g ≠ gR from fun g hg => by rcases g3 g hg with h1 | h1; exact ⟨(hrow g h1).2, Or.inl (hrow g h1).1, (g1.lt g hg).2, fun e => by have := HQB.out.2.2 g (hrow g h1).1; have := HNE.out; omega⟩; exact ⟨fun e => by have := HTP.out.2.2 q HTP.out.2.1.1; omega, Or.inr (Nat.le_trans HF5.out.size h1), (g1.lt g hg).2, fun e => by omega⟩)
      have HBS := Lib.hid (show ∀ b ∈ bs, b < wg.heap.size from fun b hb => Nat.lt_of_lt_of_le (HTP.out.2.2 b hb) g2.size)
      clear g1 g2 g3 hrow hgq hgr HTP HF5 HCA HOW
      refine hK.out _ _ (hnext) (fun hHeld2 => ?_)
      clear hK K hHeld
      have hHeld := hHeld2
      clear hHeld2
      try simp only [Act.put, List.setIfInBounds_toArray, List.set_cons_zero, List.set_cons_succ]
      refine wpAnyL_take (i := 8) (oi := { dst := some 68, op := Go.Op.nilCheck (Go.Operand.tmp 60), type := 0, pos := "ref.go:590", after := #[{ on := 0, ground := Go.Ground.data }, { on := 0, ground := Go.Ground.phase }, { on := 1, ground := Go.Ground.phase }, { on := 2, ground := Go.Ground.phase }, { on := 3, ground := Go.Ground.phase }, { on := 4, ground := Go.Ground.phase }, { on := 5, ground := Go.Ground.phase }, { on := 6, ground := Go.Ground.phase }, { on := 7, ground := Go.Ground.phase }], guard := none }) (v := ?v8_610103) rfl (by kernel_rfl) (by kernel_rfl) (by kernel_rfl) (by kernel_rfl) (by kernel_rfl) (fun _ _ _ h => h) (Or.inl ⟨by rfl, ?y8_610103⟩) hHeld ?r8_610103
      case y8_610103 => intro w hSw; (try dsimp only at hSw); go_simp; try with_reducible rfl
      try simp only [Act.put, List.setIfInBounds_toArray, List.set_cons_zero, List.set_cons_succ]
      refine wpAnyL_take (i := 9) (oi := { dst := some 69, op := Go.Op.fieldAddr 90 (Go.Operand.tmp 68) 0, type := 0, pos := "ref.go:590", after := #[{ on := 8, ground := Go.Ground.data }, { on := 0, ground := Go.Ground.phase }, { on := 1, ground := Go.Ground.phase }, { on := 2, ground := Go.Ground.phase }, { on := 3, ground := Go.Ground.phase }, { on := 4, ground := Go.Ground.phase }, { on := 5, ground := Go.Ground.phase }, { on := 6, ground := Go.Ground.phase }, { on := 7, ground := Go.Ground.phase }], guard := none }) (v := ?v9_610103) rfl (by kernel_rfl) (by kernel_rfl) (by kernel_rfl) (by kernel_rfl) (by kernel_rfl) (fun _ _ _ h => h) (Or.inl ⟨by rfl, ?y9_610103⟩) hHeld ?r9_610103
      case y9_610103 => intro w hSw; (try dsimp only at hSw); go_simp; try with_reducible rfl
      try simp only [Act.put, List.setIfInBounds_toArray, List.set_cons_zero, List.set_cons_succ]
      refine wpAnyL_ready (rs := [10]) (by kernel_rfl) (by simp) ?_
      refine AllReadyL.last (o := { dst := none, op := Go.Op.store 88 (Go.Operand.tmp 69) (Go.Operand.tmp 67), type := 0, pos := "ref.go:590", after := #[{ on := 9, ground := Go.Ground.data }, { on := 7, ground := Go.Ground.data }, { on := 7, ground := Go.Ground.chain }, { on := 0, ground := Go.Ground.phase }, { on := 1, ground := Go.Ground.phase }, { on := 2, ground := Go.Ground.phase }, { on := 3, ground := Go.Ground.phase }, { on := 4, ground := Go.Ground.phase }, { on := 5, ground := Go.Ground.phase }, { on := 6, ground := Go.Ground.phase }, { on := 7, ground := Go.Ground.phase }], guard := none }) rfl (by decide) (fun K hK => ?_) AllReadyL.nil
      have cf := (HDC.out 0 _ rfl).2
      have cc := (HDC.out 0 _ rfl).1
      go_simp
      refine hK.out _ _ trivial (fun _ => ?_)
      clear hK K
      try simp only [Act.put, List.setIfInBounds_toArray, List.set_cons_zero, List.set_cons_succ]
      refine wpAnyL_done (by kernel_rfl) ?_ _
      have hWq : gW ≠ q := by have := HQB.out.2.1; have := HGW.out; omega
      have HW7 := Lib.hid (hHeld.2.other (p := q) (i := 0) hWq (.slice va (L + 1) vc))
      have HR7 := Lib.hid (HR5.out.other (p := q) (i := 0) (fun e => HNE.out.2.2.2 e.symm) (.slice va (L + 1) vc))
      have HF7 := Lib.hid (HF6.out.set q 0 (Or.inl HQB.out.1) (.slice va (L + 1) vc))
      have HT7 := Lib.hid (show ∃ cs, RTs (wg.setCell ⟨q, 0, none⟩ (.slice va (L + 1) vc)) cs q ⟨s.most, nxD (nxD s.x), s.ws ++ [⟨⟨id, po, tx, tcp⟩, ⟨nm, ty, cl⟩, job, un⟩]⟩ ∧ (∀ g ∈ cs, g ∈ bs ∨ w.heap.size ≤ g) ∧ gR ∉ cs from by
        have hmm : ∀ x, x ∈ bs ++ (Value.slice va (L + 1) vc).ownBlock.toList ↔ x ∈ bs ∨ (Value.slice va (L + 1) vc).ownBlock = some x := by
          intro x
          simp [Option.mem_toList]
        refine ⟨bs ++ (Value.slice va (L + 1) vc).ownBlock.toList, ⟨.slice va (L + 1) vc, ⟨HDC.out.set 0 (by simp) _, ?_⟩, ⟨(hmm _).2 (Or.inl HQB.out.1), fun g hg => ⟨(hmm _).2 (Or.inr hg), (HG3.out g hg).1⟩⟩, fun b hb => ?_⟩, fun g hg => ?_, fun hg => ?_⟩
        · have h1 := own_kept HG1.out (w' := wg.setCell ⟨q, 0, none⟩ (.slice va (L + 1) vc)) (fun g hg => Below.heap_setCell _ _ _ _ (HG3.out g hg).1)
          show World.ownsRow _ 0 _ 9 _ (s.ws ++ [_]).length (flatW (s.ws ++ [_]))
          rw [List.length_append, List.length_singleton, HL.out, flatW_app, flatW_one1]
          exact h1
        · rw [show (wg.setCell ⟨q, 0, none⟩ (.slice va (L + 1) vc)).heap.size = wg.heap.size by simp]
          rcases (hmm b).1 hb with h1 | h1
          · exact HBS.out b h1
          · exact (HG3.out b h1).2.2.1
        · rcases (hmm g).1 hg with h1 | h1
          · exact Or.inl h1
          · exact (HG3.out g h1).2.1
        · rcases (hmm gR).1 hg with h1 | h1
          · have := HQB.out.2.2 gR h1; have := HNE.out; omega
          · exact (HG3.out gR h1).2.2.2 rfl)
      obtain ⟨w8, hw8⟩ : ∃ z, wg.setCell ⟨q, 0, none⟩ (.slice va (L + 1) vc) = z := ⟨_, rfl⟩
      rw [hw8] at HW7 HR7 HF7 HT7 ⊢
      clear hw8 hHeld HR5 HF6 HDC HG1 HG3 HBS cf cc hWq
      have HRN := Lib.hid (show w8.rangeAt gW 0 (encW ⟨⟨id, po, tx, tcp⟩, ⟨nm, ty, cl⟩, job, un⟩) from fun j v hj => by rw [Nat.zero_add]; exact (HW7.out.1 j v hj).1)
      have HTH := Lib.hid (show w8.there gR 0 (encW ⟨⟨id, po, tx, tcp⟩, ⟨nm, ty, cl⟩, job, un⟩).toArray.size from fun j hj => by
        rw [Nat.zero_add]
        have hj9 : j < ([.int .i64 0, .int .i64 0, .string ⟨#[]⟩, .bool false, .string ⟨#[]⟩, .int .i64 0, .int .i64 0, .int .i64 0, .int .i64 0] : List Value).length := hj
        obtain ⟨u, hu⟩ : ∃ u, ([.int .i64 0, .int .i64 0, .string ⟨#[]⟩, .bool false, .string ⟨#[]⟩, .int .i64 0, .int .i64 0, .int .i64 0, .int .i64 0] : List Value)[j]? = some u := ⟨_, List.getElem?_eq_getElem hj9⟩
        obtain ⟨h1, h2⟩ := HR7.out.1 j u hu
        exact ⟨by rw [h1]; rfl, h2⟩)
      have HRS := Lib.hid (World.rangeAt_setCells_same _ _ _ _ HTH.out)
      have HF8 := Lib.hid (HF7.out.sets gR 0 (Or.inr (by have := HNE.out; omega)) (encW ⟨⟨id, po, tx, tcp⟩, ⟨nm, ty, cl⟩, job, un⟩))
      have HT8 := Lib.hid (show ∃ cs, RTs (w8.setCells gR 0 (encW ⟨⟨id, po, tx, tcp⟩, ⟨nm, ty, cl⟩, job, un⟩)) cs q ⟨s.most, nxD (nxD s.x), s.ws ++ [⟨⟨id, po, tx, tcp⟩, ⟨nm, ty, cl⟩, job, un⟩]⟩ ∧ ∀ g ∈ cs, g ∈ bs ∨ w.heap.size ≤ g from by
        obtain ⟨cs, h1, h2, h3⟩ := HT7.out
        exact ⟨cs, h1.frm ((Frm.refl w8 [gR]).sets gR 0 (Or.inl (by simp)) _) (fun b hb e => h3 (by simp at e; exact e ▸ hb)), h2⟩)
      have HOW9 := Lib.hid (show openW s now job tx tcp ⟨nm, ty, cl⟩ = ⟨⟨id, po, tx, tcp⟩, ⟨nm, ty, cl⟩, job, un⟩ from by rw [openW, HPO.out, HO1.out, ← HIDE.out, HUN.out])
      obtain ⟨w9, hw9⟩ : ∃ z, w8.setCells gR 0 (encW ⟨⟨id, po, tx, tcp⟩, ⟨nm, ty, cl⟩, job, un⟩) = z := ⟨_, rfl⟩
      rw [hw9] at HRS HF8 HT8
      have HW9 := Lib.hid (show w8.setCells gR 0 (encW ⟨⟨id, po, tx, tcp⟩, ⟨nm, ty, cl⟩, job, un⟩).toArray.toList = w9 from hw9)
      clear hw9
      clear HW7 HR7 HF7 HT7
      go_wp2_with (first | (refine wpList_load_mid rfl 84 (.tmp 15) rfl _ _ rfl _ _ HRN.out Try.underlying84 rfl (by kernel_rfl) ?_) | (refine wpList_store_mid rfl 84 (.tmp 12) (.tmp 70) rfl _ _ _ rfl rfl HTH.out (by kernel_rfl) (all_oneCell_toArray (encW_one _)) ?_; rw [HW9.out]))
      refine bodyPost_ret (v := .tuple #[.agg (encW ⟨⟨id, po, tx, tcp⟩, ⟨nm, ty, cl⟩, job, un⟩).toArray, .int .i64 0]) ?_ rfl ⟨by rw [HOW9.out], by rw [openP, HOW9.out]; exact HT8.out, HF8.out⟩
      rw [results_cell_tmp Try.results44]
      have hr := run_loadVar_mid (P := Try.prog) _ gR 0 84 (encW ⟨⟨id, po, tx, tcp⟩, ⟨nm, ty, cl⟩, job, un⟩) _ HRS.out Try.underlying84 rfl (by kernel_rfl)
      simp [asAddr, hr]
    · skip
      have n0 := (HK3.out.1 0 _ rfl).1
      have nf := (HK3.out.1 0 _ rfl).2
      obtain ⟨id1, hid1⟩ : ∃ z, nid id = z := ⟨_, rfl⟩
      have wa : IntKind.i64.wrap (id + 1) = id + 1 := by rw [IntKind.wrap_i64]; have := HID.out; omega
      have wb : (id + 1).tmod 65536 = id1 := by rw [Int.tmod_eq_emod_of_nonneg (by have := HID.out; omega), ← hid1, nid]
      have HIE := Lib.hid hid1
      have HIE2 := Lib.hid (seek_go (ws := s.ws) (p := po) (x := tx) (t := tcp) (id := id) (by have := HNN.out; omega) HTK.out)
      have HT4 := Lib.hid (HT3.out.other (i := 0) HKB.out.1 (.int .i64 id1))
      have HQ4 := Lib.hid (HQ3.out.other (p := gk) (i := 0) HKB.out.2.2.1 (.int .i64 id1))
      have HR4 := Lib.hid (HR3.out.other (p := gk) (i := 0) HKB.out.2.2.2 (.int .i64 id1))
      have HF4 := Lib.hid (HF3.out.set gk 0 (Or.inr (by have := HS2.out; omega)) (.int .i64 id1))
      have HK4 := Lib.hid (show HeldT gk [.int .i64 id1, .int .i64 po, .string tx, .bool tcp] (wf.setCell ⟨gk, 0, none⟩ (.int .i64 id1)) from HK3.out.set (i := 0) (by simp) (.int .i64 id1))
      clear hid1
      go_wp2
      go_roundw
      case rel => exact ⟨id1, Lib.hid ⟨by rw [← HIE.out]; exact (nid_in id).1, by rw [← HIE.out]; exact (nid_in id).2, by rw [← HIE.out]; exact HIE2.out.1.trans HID.out.2.2⟩, HT4, HK4, HQ4, HR4, HF4⟩
      case measure =>
        have e1 := idOf_held HK4.out
        have e2 := idOf_held HK2.out
        rw [e1, e2, ← HIE.out]
        exact HIE2.out.2
end Go.Proofs.Ytocfphijheidbaa
end

section
namespace Go.Proofs.Ytocfphijheidbaa
open Go.RowKit

set_option maxRecDepth 100000 in
set_option maxHeartbeats 8000000 in
theorem openR_no (bs : List Nat) (q : Nat) (s : TbP) (now job : Int) (tx : ByteArray) (tcp : Bool) (nm : ByteArray) (ty cl : Int) (er : Int) (w : World) (h : RTs w bs q s) (hn : s.ws.length ≤ 5000) (hno : (s.most ≤ (s.ws.length : Int) ∧ er = 8) ∨ ((s.ws.length : Int) < s.most ∧ (now < 0 ∨ 1099511627776 < now) ∧ er = 1)) :
    Calls Try.prog 44 #[.pointer (some ⟨q, 0, none⟩), .int .i64 now, .int .i64 job, .string tx, .bool tcp, .agg #[.string nm, .int .i64 ty, .int .i64 cl]] w fun e w' => e = .returned (.tuple #[.agg #[.int .i64 0, .int .i64 0, .string ⟨#[]⟩, .bool false, .string ⟨#[]⟩, .int .i64 0, .int .i64 0, .int .i64 0, .int .i64 0], .int .i64 er]) ∧ RTs w' bs q s ∧ Frm w w' bs := by
  have HNN := Lib.hid hn
  have hqb := h.q
  have hq := h.lt q hqb
  have HQB := Lib.hid (show q ∈ bs ∧ q < w.heap.size ∧ ∀ b ∈ bs, b < w.heap.size from ⟨hqb, hq, h.lt⟩)
  have b1 := (Below.refl w.heap.size w).alloc (Nat.le_refl _) (.cells #[.string nm, .int .i64 ty, .int .i64 cl] 66)
  have q1 := HeldT.new w #[.string nm, .int .i64 ty, .int .i64 cl] 66
  have b2 := (Below.refl (w.alloc (.cells #[.string nm, .int .i64 ty, .int .i64 cl] 66)).heap.size (w.alloc (.cells #[.string nm, .int .i64 ty, .int .i64 cl] 66))).alloc (Nat.le_refl _) (.cells #[.int .i64 0, .int .i64 0, .string ⟨#[]⟩, .bool false, .string ⟨#[]⟩, .int .i64 0, .int .i64 0, .int .i64 0, .int .i64 0] 84)
  have q2 := q1.below b2
  have r2 := HeldT.new (w.alloc (.cells #[.string nm, .int .i64 ty, .int .i64 cl] 66)) #[.int .i64 0, .int .i64 0, .string ⟨#[]⟩, .bool false, .string ⟨#[]⟩, .int .i64 0, .int .i64 0, .int .i64 0, .int .i64 0] 84
  rw [World.size_alloc] at r2
  have HB := Lib.hid (b1.trans (b2.mono b1.size))
  obtain ⟨w0, hw0⟩ : ∃ z, (w.alloc (.cells #[.string nm, .int .i64 ty, .int .i64 cl] 66)).alloc (.cells #[.int .i64 0, .int .i64 0, .string ⟨#[]⟩, .bool false, .string ⟨#[]⟩, .int .i64 0, .int .i64 0, .int .i64 0, .int .i64 0] 84) = z := ⟨_, rfl⟩
  obtain ⟨gR, hgR⟩ : ∃ z, w.heap.size + 1 = z := ⟨_, rfl⟩
  obtain ⟨gQ, hgQ⟩ : ∃ z, w.heap.size = z := ⟨_, rfl⟩
  rw [hw0] at q2 r2 HB
  rw [hgR] at r2
  rw [hgQ] at q2
  have HQ := Lib.hid q2
  have HR := Lib.hid r2
  have HW0 := Lib.hid hw0
  have HGR := Lib.hid hgR
  have HGQ := Lib.hid hgQ
  have HT := Lib.hid (h.frm (Frm.below (Frm.refl w []) HB.out (Nat.le_refl _)) (fun _ _ h => by simp at h))
  have HF := Lib.hid ((Frm.refl w bs).below HB.out (Nat.le_refl _))
  have HNE := Lib.hid (show w.heap.size = gQ ∧ gR = gQ + 1 ∧ q ≠ gQ ∧ q ≠ gR by omega)
  clear b1 b2 q1 q2 r2 hw0 hgR hgQ hqb hq
  obtain ⟨a, c, c0, c1, c2, f0, f1, -⟩ := HT.out.parts
  obtain ⟨L, hL⟩ : ∃ z, s.ws.length = z := ⟨_, rfl⟩
  rw [hL] at c0 hno
  have HL := Lib.hid hL
  obtain ⟨mo, hmo⟩ : ∃ z, s.most = z := ⟨_, rfl⟩
  rw [hmo] at c2 hno
  have HGC := Lib.hid (show gR ∉ bs from fun e => by have := HQB.out.2.2 gR e; have := HNE.out; omega)
  have HMO := Lib.hid hmo
  clear hL hmo h hn
  go_enter Try.func44, Try.ntmps44
  go_upto_region 1 with (fail)
  rw [HW0.out, HGR.out, HGQ.out]
  clear HW0 HGR HGQ
  go_quiet (fail)
  rename_i nq
  have hb := below_drewN (Below.refl w0.heap.size w0) nq
  replace HT := Lib.hid (HT.out.below hb)
  replace HR := Lib.hid (HR.out.below hb)
  replace HF := Lib.hid (HF.out.below hb HF.out.size)
  obtain ⟨w1, hw1⟩ : ∃ z, w0.drewN nq = z := ⟨_, rfl⟩
  rw [hw1] at HT HR HF
  have HW1 := Lib.hid hw1
  clear hb hw1
  rcases hno with ⟨hm, rfl⟩ | ⟨hm, ht, rfl⟩
  · have d1 : decide (mo ≤ (L : Int)) = true := dT hm
    go_upto_region 2 with (fail)
    rw [HW1.out]
    clear HW1 c0 c1 c2 f0 f1 d1
    have HTH := Lib.hid (show w1.there gR 0 ([.int .i64 0, .int .i64 0, .string ⟨#[]⟩, .bool false, .string ⟨#[]⟩, .int .i64 0, .int .i64 0, .int .i64 0, .int .i64 0] : List Value).toArray.size from fun j hj => by
      rw [Nat.zero_add]
      have hj9 : j < ([.int .i64 0, .int .i64 0, .string ⟨#[]⟩, .bool false, .string ⟨#[]⟩, .int .i64 0, .int .i64 0, .int .i64 0, .int .i64 0] : List Value).length := hj
      obtain ⟨u, hu⟩ : ∃ u, ([.int .i64 0, .int .i64 0, .string ⟨#[]⟩, .bool false, .string ⟨#[]⟩, .int .i64 0, .int .i64 0, .int .i64 0, .int .i64 0] : List Value)[j]? = some u := ⟨_, List.getElem?_eq_getElem hj9⟩
      obtain ⟨h1, h2⟩ := HR.out.1 j u hu
      exact ⟨by rw [h1]; rfl, h2⟩)
    have HRS := Lib.hid (World.rangeAt_setCells_same w1 gR 0 ([.int .i64 0, .int .i64 0, .string ⟨#[]⟩, .bool false, .string ⟨#[]⟩, .int .i64 0, .int .i64 0, .int .i64 0, .int .i64 0] : List Value) HTH.out)
    have HF9 := Lib.hid (HF.out.sets gR 0 (Or.inr (by have := HNE.out; omega)) [.int .i64 0, .int .i64 0, .string ⟨#[]⟩, .bool false, .string ⟨#[]⟩, .int .i64 0, .int .i64 0, .int .i64 0, .int .i64 0])
    have HT9 := Lib.hid (HT.out.frm ((Frm.refl w1 [gR]).sets gR 0 (Or.inl (by simp)) [.int .i64 0, .int .i64 0, .string ⟨#[]⟩, .bool false, .string ⟨#[]⟩, .int .i64 0, .int .i64 0, .int .i64 0, .int .i64 0]) (fun b hb e => HGC.out (by simp at e; exact e ▸ hb)))
    obtain ⟨w9, hw9⟩ : ∃ z, w1.setCells gR 0 [.int .i64 0, .int .i64 0, .string ⟨#[]⟩, .bool false, .string ⟨#[]⟩, .int .i64 0, .int .i64 0, .int .i64 0, .int .i64 0] = z := ⟨_, rfl⟩
    rw [hw9] at HRS HF9 HT9
    have HW9 := Lib.hid (show w1.setCells gR 0 ([.int .i64 0, .int .i64 0, .string ⟨#[]⟩, .bool false, .string ⟨#[]⟩, .int .i64 0, .int .i64 0, .int .i64 0, .int .i64 0] : List Value).toArray.toList = w9 from hw9)
    have HON := Lib.hid (show ∀ u ∈ ([.int .i64 0, .int .i64 0, .string ⟨#[]⟩, .bool false, .string ⟨#[]⟩, .int .i64 0, .int .i64 0, .int .i64 0, .int .i64 0] : List Value), u.oneCell' = true from encW_one ⟨⟨0, 0, ⟨#[]⟩, false⟩, ⟨⟨#[]⟩, 0, 0⟩, 0, 0⟩)
    clear hw9
    go_wp2_with (first | (refine wpList_store_mid rfl 84 (.tmp 12) (.tmp 27) rfl _ _ _ rfl rfl HTH.out (by kernel_rfl) (all_oneCell_toArray HON.out) ?_; rw [HW9.out]))
    refine bodyPost_ret (v := .tuple #[.agg ([.int .i64 0, .int .i64 0, .string ⟨#[]⟩, .bool false, .string ⟨#[]⟩, .int .i64 0, .int .i64 0, .int .i64 0, .int .i64 0] : List Value).toArray, .int .i64 8]) ?_ rfl ⟨rfl, HT9.out, HF9.out⟩
    rw [results_cell_tmp Try.results44]
    have hr := run_loadVar_mid (P := Try.prog) _ gR 0 84 [.int .i64 0, .int .i64 0, .string ⟨#[]⟩, .bool false, .string ⟨#[]⟩, .int .i64 0, .int .i64 0, .int .i64 0, .int .i64 0] _ HRS.out Try.underlying84 rfl (by kernel_rfl)
    simp [asAddr, hr]
  · have d1 : decide (mo ≤ (L : Int)) = false := dF (by omega)
    go_upto_region 3 with (fail)
    rw [HW1.out]
    clear HW1 c0 c1 c2 f0 f1 d1
    go_wp2_with fail
    refine (timeR_any now w1).mono ?_; rintro e wx ⟨rfl, rfl⟩
    rw [decide_eq_false (show ¬ (0 ≤ now ∧ now ≤ 1099511627776) from by omega)]
    all_goals
      go_upto_region 4 with (fail)
      have HTH := Lib.hid (show w1.there gR 0 ([.int .i64 0, .int .i64 0, .string ⟨#[]⟩, .bool false, .string ⟨#[]⟩, .int .i64 0, .int .i64 0, .int .i64 0, .int .i64 0] : List Value).toArray.size from fun j hj => by
        rw [Nat.zero_add]
        have hj9 : j < ([.int .i64 0, .int .i64 0, .string ⟨#[]⟩, .bool false, .string ⟨#[]⟩, .int .i64 0, .int .i64 0, .int .i64 0, .int .i64 0] : List Value).length := hj
        obtain ⟨u, hu⟩ : ∃ u, ([.int .i64 0, .int .i64 0, .string ⟨#[]⟩, .bool false, .string ⟨#[]⟩, .int .i64 0, .int .i64 0, .int .i64 0, .int .i64 0] : List Value)[j]? = some u := ⟨_, List.getElem?_eq_getElem hj9⟩
        obtain ⟨h1, h2⟩ := HR.out.1 j u hu
        exact ⟨by rw [h1]; rfl, h2⟩)
      have HRS := Lib.hid (World.rangeAt_setCells_same w1 gR 0 ([.int .i64 0, .int .i64 0, .string ⟨#[]⟩, .bool false, .string ⟨#[]⟩, .int .i64 0, .int .i64 0, .int .i64 0, .int .i64 0] : List Value) HTH.out)
      have HF9 := Lib.hid (HF.out.sets gR 0 (Or.inr (by have := HNE.out; omega)) [.int .i64 0, .int .i64 0, .string ⟨#[]⟩, .bool false, .string ⟨#[]⟩, .int .i64 0, .int .i64 0, .int .i64 0, .int .i64 0])
      have HT9 := Lib.hid (HT.out.frm ((Frm.refl w1 [gR]).sets gR 0 (Or.inl (by simp)) [.int .i64 0, .int .i64 0, .string ⟨#[]⟩, .bool false, .string ⟨#[]⟩, .int .i64 0, .int .i64 0, .int .i64 0, .int .i64 0]) (fun b hb e => HGC.out (by simp at e; exact e ▸ hb)))
      obtain ⟨w9, hw9⟩ : ∃ z, w1.setCells gR 0 [.int .i64 0, .int .i64 0, .string ⟨#[]⟩, .bool false, .string ⟨#[]⟩, .int .i64 0, .int .i64 0, .int .i64 0, .int .i64 0] = z := ⟨_, rfl⟩
      rw [hw9] at HRS HF9 HT9
      have HW9 := Lib.hid (show w1.setCells gR 0 ([.int .i64 0, .int .i64 0, .string ⟨#[]⟩, .bool false, .string ⟨#[]⟩, .int .i64 0, .int .i64 0, .int .i64 0, .int .i64 0] : List Value).toArray.toList = w9 from hw9)
      have HON := Lib.hid (show ∀ u ∈ ([.int .i64 0, .int .i64 0, .string ⟨#[]⟩, .bool false, .string ⟨#[]⟩, .int .i64 0, .int .i64 0, .int .i64 0, .int .i64 0] : List Value), u.oneCell' = true from encW_one ⟨⟨0, 0, ⟨#[]⟩, false⟩, ⟨⟨#[]⟩, 0, 0⟩, 0, 0⟩)
      clear hw9
      go_wp2_with (first | (refine wpList_store_mid rfl 84 (.tmp 12) (.tmp 32) rfl _ _ _ rfl rfl HTH.out (by kernel_rfl) (all_oneCell_toArray HON.out) ?_; rw [HW9.out]))
      refine bodyPost_ret (v := .tuple #[.agg ([.int .i64 0, .int .i64 0, .string ⟨#[]⟩, .bool false, .string ⟨#[]⟩, .int .i64 0, .int .i64 0, .int .i64 0, .int .i64 0] : List Value).toArray, .int .i64 1]) ?_ rfl ⟨rfl, HT9.out, HF9.out⟩
      rw [results_cell_tmp Try.results44]
      have hr := run_loadVar_mid (P := Try.prog) _ gR 0 84 [.int .i64 0, .int .i64 0, .string ⟨#[]⟩, .bool false, .string ⟨#[]⟩, .int .i64 0, .int .i64 0, .int .i64 0, .int .i64 0] _ HRS.out Try.underlying84 rfl (by kernel_rfl)
      simp [asAddr, hr]
end Go.Proofs.Ytocfphijheidbaa
end
