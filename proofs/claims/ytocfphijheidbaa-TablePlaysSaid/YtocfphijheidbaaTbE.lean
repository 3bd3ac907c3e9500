/- Contracts of Expire, Drop, Waits, Len and New. -/
import Derived.Test.YtocfphijheidbaaTbD
namespace Go.Proofs.Ytocfphijheidbaa
open Go.RowKit

theorem own_baseW {w : World} {B B' n size : Nat} {e : TypeId} {v : Value} {xs : List Value} (h : w.ownsRow B e size v n xs) (hb : B' ≤ B) : w.ownsRow B' e size v n xs :=
  ⟨h.1, h.2.imp id (fun ⟨g, c, d, h1, h2, h3⟩ => ⟨g, c, d, h1, Nat.le_trans hb h2, h3⟩)⟩
theorem PartPost.from_ {w w1 w' : World} {bs : List Nat} {q : Nat} {s : TbP} {p : WtP → Bool} {v : Value} (hb : Below w.heap.size w w1) (h : PartPost w1 bs q s p v w') : PartPost w bs q s p v w' := by
  obtain ⟨h1, ⟨cs, h2, h3, h4⟩, h5⟩ := h
  exact ⟨own_baseW h1 hb.size, ⟨cs, h2, fun g hg => (h3 g hg).imp id (Nat.le_trans hb.size), h4⟩, ((Frm.refl w [q]).below hb (Nat.le_refl _)).trans h5 (fun b h => Or.inl h)⟩
set_option maxRecDepth 100000 in
theorem expire_any (bs : List Nat) (q : Nat) (s : TbP) (now : Int) (w : World) (h : TbS w bs q s) (hn : s.ws.length ≤ 10000) :
    Calls Try.prog 52 #[.pointer (some ⟨q, 0, none⟩), .int .i64 now] w fun e w' => ∃ v, e = .returned v ∧ PartPost w bs q s (fun x => decide (x.until_ ≤ now)) v w' := by
  have hba := (Below.refl w.heap.size w).alloc (Nat.le_refl _) (.cells #[.int .i64 now] 3)
  have HB := Lib.hid hba
  have HC := Lib.hid (part_exp bs q s now w.heap.size _ (h.below hba) hn (by rw [World.cell?_alloc_new]; rfl))
  clear hba h
  go_enter Try.func52, Try.ntmps52
  go_wp2_with fail
  refine HC.out.mono ?_; rintro e w2 ⟨v, rfl, hp⟩
  have HP := Lib.hid (hp.from_ HB.out)
  clear hp
  go_wp2
  go_ret
  exact ⟨v, rfl, HP.out⟩
set_option maxRecDepth 100000 in
theorem drop_any (bs : List Nat) (q : Nat) (s : TbP) (ja : Option Addr) (jn jc : Nat) (jl : List Int) (w : World) (h : TbS w bs q s) (hn : s.ws.length ≤ 10000) (hj : Row w ja jn jl) (hjn : jn ≤ 1000000) :
    Calls Try.prog 54 #[.pointer (some ⟨q, 0, none⟩), .slice ja jn jc] w fun e w' => ∃ v, e = .returned (.int .i64 ((s.ws.filter (fun x => decide (x.job ∈ jl))).length : Int)) ∧ PartPost w bs q s (fun x => decide (x.job ∈ jl)) v w' := by
  have hba := (Below.refl w.heap.size w).alloc (Nat.le_refl _) (.cells #[.slice ja jn jc] 67)
  have HB := Lib.hid hba
  have HC := Lib.hid (part_drop bs q s ja jn jc jl w.heap.size _ (h.below hba) hn (by rw [World.cell?_alloc_new]; rfl) (hj.below hba) hjn)
  clear hba h hj
  go_enter Try.func54, Try.ntmps54
  go_wp2_with fail
  refine HC.out.mono ?_; rintro e w2 ⟨v, rfl, hp⟩
  obtain ⟨a, c, rfl, -, -⟩ := cellsK_own hp.1
  have HP := Lib.hid (hp.from_ HB.out)
  obtain ⟨m, hm⟩ : ∃ z, (s.ws.filter (fun x => decide (x.job ∈ jl))).length = z := ⟨_, rfl⟩
  have HM := Lib.hid hm
  rw [hm] at HP
  clear hp hm
  go_wp2
  go_ret
  exact ⟨_, by rw [HM.out]; rfl, HP.out⟩
set_option maxRecDepth 100000 in
theorem lenT_any (bs : List Nat) (q : Nat) (s : TbP) (w : World) (h : TbS w bs q s) :
    Calls Try.prog 58 #[.pointer (some ⟨q, 0, none⟩)] w fun e w' => e = .returned (.int .i64 (s.ws.length : Int)) ∧ w = w' := by
  obtain ⟨wv, ⟨hc, ho⟩, -, -⟩ := h
  obtain ⟨-, -, c2, -, -⟩ := hc.u3
  obtain ⟨a, c, rfl, -, -⟩ := cellsK_own ho
  obtain ⟨m, hm⟩ : ∃ z, s.ws.length = z := ⟨_, rfl⟩
  rw [hm] at c2 ⊢
  clear hc ho hm
  go_enter Try.func58, Try.ntmps58
  go_wp2
  go_ret
  exact ⟨rfl, rfl⟩
set_option maxRecDepth 100000 in
theorem cloneWt (B : Nat) (v : Value) (n : Nat) (cs : List Value) (w : World) (h : w.ownsRow B 79 9 v n cs) (h1 : ∀ u ∈ cs, u.oneCell' = true) (hlen : n ≤ 10000) :
    Calls Try.prog 90 #[v] w fun e w' => ∃ v', e = .returned v' ∧ w'.ownsRow w.heap.size 79 9 v' n cs ∧ Below w.heap.size w w' := by
  obtain ⟨i0, hi, hz0, hz1, hz2⟩ := info_parts infoWt
  obtain ⟨a, c, rfl, hc, hnil⟩ := cellsK_own h
  have H1 := Lib.hid h1
  cases a with
  | none =>
    obtain ⟨rfl, rfl⟩ := hnil rfl
    have hl0 : cs = [] := List.eq_nil_of_length_eq_zero (by have := hc.1; omega)
    subst hl0
    clear h h1 hc hnil
    have he : (binOp .eql 102 (.slice none 0 0) (.slice none 0 0)).run Try.prog w = .ok (.bool true) w := Lib.run_eql_slice_nil w 102 79 none 0 0 0 0 Try.underlying102
    go_enter Try.func90, Try.ntmps90
    go_wp2
    go_ret
    exact ⟨_, rfl, World.ownsRow_nil _ _ _ _, Below.refl _ _⟩
  | some ad =>
    have HH := Lib.hid (CellsAt.below hc ((Below.refl w.heap.size w).alloc (Nat.le_refl _) (.cells #[] 79)))
    have HO := Lib.hid (show (w.alloc (.cells #[] 79)).ownsRow w.heap.size 79 9 (.slice (some ⟨w.heap.size, 0, none⟩) 0 0) 0 [] from World.ownsRow_made w #[] 0 (Nat.le_refl _) (Nat.zero_le _) rfl)
    have HB := Lib.hid ((Below.refl w.heap.size w).alloc (Nat.le_refl _) (.cells #[] 79))
    clear h h1 hc hnil
    have he : (binOp .eql 102 (.slice (some ad) n c) (.slice none 0 0)).run Try.prog w = .ok (.bool false) w := Lib.run_eql_slice_nil w 102 79 (some ad) n c 0 0 Try.underlying102
    go_enter Try.func90, Try.ntmps90
    go_wp2_with (first | (at_builtin; refine append_cellsL rfl _ _ 102 79 rfl i0 zWt 9 88 Try.underlying102 hi hz0 hz1 hz2 rfl (by decide) w.heap.size _ 0 [] rfl HO.out (some ad) n c cs rfl (fun h => by cases h) HH.out H1.out (by omega) (by decide) (by simp) ?_))
    intro v' w' ho hg
    go_wp2
    go_ret
    exact ⟨v', rfl, by simpa using ho, HB.out.grown hg (by simp) (fun k hk => (HO.out.lt k hk).1)⟩
set_option maxRecDepth 100000 in
theorem waits_any (bs : List Nat) (q : Nat) (s : TbP) (w : World) (h : TbS w bs q s) (hn : s.ws.length ≤ 10000) :
    Calls Try.prog 57 #[.pointer (some ⟨q, 0, none⟩)] w fun e w' => ∃ v, e = .returned v ∧ w'.ownsRow w.heap.size 79 9 v s.ws.length (flatW s.ws) ∧ Below w.heap.size w w' := by
  obtain ⟨wv, ⟨hc, ho⟩, -, -⟩ := h
  obtain ⟨-, -, c2, -, -⟩ := hc.u3
  have HC := Lib.hid (cloneWt 0 wv s.ws.length (flatW s.ws) w ho (flatW_one _) hn)
  obtain ⟨a, c, rfl, -, -⟩ := cellsK_own ho
  clear hc ho
  go_enter Try.func57, Try.ntmps57
  go_wp2_with fail
  refine HC.out.mono ?_; rintro e w2 ⟨v, rfl, h1, h2⟩
  have H1 := Lib.hid h1
  have H2 := Lib.hid h2
  clear h1 h2 c2
  go_wp2
  go_ret
  exact ⟨v, rfl, H1.out, H2.out⟩
set_option maxRecDepth 100000 in
theorem drawNew_any (x : Int) (w : World) : Calls Try.prog 77 #[.int .i64 x] w fun e w' => e = .returned (.agg #[.int .u32 (x % 4294967296)]) ∧ Below w.heap.size w w' := by
  have hb := (Below.refl w.heap.size w).alloc (Nat.le_refl _) (.cells #[.int .u32 (x % 4294967296)] 141)
  have HB := Lib.hid hb
  have HR := Lib.hid (show (w.alloc (.cells #[.int .u32 (x % 4294967296)] 141)).rangeAt w.heap.size 0 [.int .u32 (x % 4294967296)] from fun j c hj => by rw [Nat.zero_add, World.cell?_alloc_new, ← hj]; simp)
  clear hb
  go_enter Try.func77, Try.ntmps77
  go_wp2
  refine bodyPost_ret (v := .agg #[.int .u32 (x % 4294967296)]) ?_ rfl ⟨rfl, HB.out⟩
  rw [results_cell1 Try.results77]
  have hr := run_loadVar_mid (P := Try.prog) _ w.heap.size 0 141 [.int .u32 (x % 4294967296)] _ HR.out Try.underlying141 rfl (by kernel_rfl)
  show ((asAddr (.pointer (some ⟨w.heap.size, 0, none⟩))).run Try.prog _).andThen _ = _
  simp [asAddr, hr]
set_option maxRecDepth 100000 in
theorem newT_yes (seed most : Int) (w : World) (h : 0 ≤ seed ∧ 1 ≤ most ∧ most ≤ 1000) : Calls Try.prog 41 #[.int .i64 seed, .int .i64 most] w fun e w' => ∃ q, e = .returned (.tuple #[.pointer (some ⟨q, 0, none⟩), .int .i64 0]) ∧ TbS w' [q] q ⟨most, seed % 4294967296, []⟩ ∧ w.heap.size ≤ q ∧ Below w.heap.size w w' := by
  have d1 : decide (seed < 0) = false := dF (by omega)
  have d2 : decide (most < 1) = false := dF (by omega)
  have d3 : decide (1000 < most) = false := dF (by omega)
  clear h
  go_enter Try.func41, Try.ntmps41
  go_wp2_with fail
  refine (drawNew_any seed w).mono ?_; rintro e w1 ⟨rfl, hb1⟩
  have hba := (Below.refl w1.heap.size w1).alloc (Nat.le_refl _) (.cells #[.int .i64 most, .int .u32 (seed % 4294967296), .slice none 0 0] 144)
  have HB := Lib.hid (hb1.trans (hba.mono hb1.size))
  have HS := Lib.hid hb1.size
  have HT := Lib.hid (show TbS (w1.alloc (.cells #[.int .i64 most, .int .u32 (seed % 4294967296), .slice none 0 0] 144)) [w1.heap.size] w1.heap.size ⟨most, seed % 4294967296, []⟩ from
    ⟨.slice none 0 0, ⟨fun j c hj => by rw [World.cell?_alloc_new, World.frozen?_alloc_new, ← hj]; exact ⟨by simp, rfl⟩, World.ownsRow_nil _ _ _ _⟩, ⟨by simp, fun g hg => by cases hg⟩, fun b hb => by rw [World.size_alloc]; simp at hb; omega⟩)
  clear hb1 hba
  go_wp2
  go_ret2
  exact ⟨_, rfl, HT.out, HS.out, HB.out⟩
set_option maxRecDepth 100000 in
theorem newT_no (seed most : Int) (w : World) (h : seed < 0 ∨ most < 1 ∨ 1000 < most) : Calls Try.prog 41 #[.int .i64 seed, .int .i64 most] w fun e w' => e = .returned (.tuple #[.pointer none, .int .i64 1]) ∧ w = w' := by
  have hd : decide (seed < 0) = true ∨ (decide (seed < 0) = false ∧ decide (most < 1) = true) ∨ (decide (seed < 0) = false ∧ decide (most < 1) = false ∧ decide (1000 < most) = true) := by
    simp only [decide_eq_true_eq, decide_eq_false_iff_not]
    omega
  clear h
  rcases hd with d1 | ⟨d1, d2⟩ | ⟨d1, d2, d3⟩
  all_goals
    go_enter Try.func41, Try.ntmps41
    go_wp2
    go_ret2
    exact ⟨rfl, rfl⟩
end Go.Proofs.Ytocfphijheidbaa
