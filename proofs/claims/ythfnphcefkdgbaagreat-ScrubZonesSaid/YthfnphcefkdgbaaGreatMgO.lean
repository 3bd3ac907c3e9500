/- Texts that others rest on, one behind the other: ZnD, ZnE, ZnF. -/
import Derived.Test.YthfnphcefkdgbaaGreatZnC
import Derived.Test.YthfnphcefkdgbaaGreatMgM
import Derived.Test.YthfnphcefkdgbaaGreatMgC
import Derived.Test.YthfnphcefkdgbaaGreatMgA
import Derived.Maps.Views
import Derived.Maps.Keyed
import Derived.Maps.OwnOps
import Derived.Maps.OwnSet
section
namespace Go.Proofs.YthfnphcefkdgbaaGreat
open Go.RowKit
def OwnD (w : World) (B : Nat) (P : List (SetP × Value)) : Prop := (∀ p ∈ P, w.ownsRow B 9 1 p.2 p.1.data.length (sc p.1.data)) ∧ P.Pairwise (fun p q => ∀ g, p.2.ownBlock = some g → q.2.ownBlock ≠ some g)
theorem OwnD.below {w w' : World} {B : Nat} {P : List (SetP × Value)} (h : OwnD w B P) (hb : Below w.heap.size w w') : OwnD w' B P := ⟨fun p hp => own_below' (h.1 p hp) hb, h.2⟩
theorem OwnD.snoc {w w' : World} {B : Nat} {P : List (SetP × Value)} {s : SetP} {dv : Value} (h : OwnD w B P) (hb : Below w.heap.size w w') (ho : w'.ownsRow w.heap.size 9 1 dv s.data.length (sc s.data)) (hB : B ≤ w.heap.size) : OwnD w' B (P ++ [(s, dv)]) := by
 refine ⟨fun p hp => ?_, ?_⟩
 · rcases List.mem_append.1 hp with h1 | h1
   · exact own_below' (h.1 p h1) hb
   · obtain rfl := List.mem_singleton.1 h1; exact own_mono4 ho hB
 · rw [List.pairwise_append]
   refine ⟨h.2, List.pairwise_singleton _ _, fun p hp q hq g hg e => ?_⟩
   obtain rfl := List.mem_singleton.1 hq
   have h1 := ((h.1 p hp).lt g hg).2
   have h2 := (ho.lt g e).1
   omega
theorem OwnD.kept {w w' : World} {B B2 n g c : Nat} {P : List (SetP × Value)} {xs : List Value} (h : OwnD w B P) (hr : w.ownsRow B2 38 5 (.slice (some ⟨g, 0, none⟩) n c) n xs) (hg : w.grownBy w' (some g)) : OwnD w' B P :=
 ⟨fun p hp => (h.1 p hp).kept hg (own_ne2 (by decide) (h.1 p hp) hr), h.2⟩
end Go.Proofs.YthfnphcefkdgbaaGreat
end
section
namespace Go.Proofs.YthfnphcefkdgbaaGreat
open Go.RowKit
theorem CN.u7 {w : World} {q : Nat} {c0 c1 c2 c3 c4 c5 c6 : Value} (h : CN w q [c0, c1, c2, c3, c4, c5, c6]) : w.cell? ⟨q, 0, none⟩ = some c0 ∧ w.cell? ⟨q, 1, none⟩ = some c1 ∧ w.cell? ⟨q, 2, none⟩ = some c2 ∧ w.cell? ⟨q, 3, none⟩ = some c3 ∧ w.cell? ⟨q, 4, none⟩ = some c4 ∧ w.cell? ⟨q, 5, none⟩ = some c5 ∧ w.cell? ⟨q, 6, none⟩ = some c6 ∧ w.frozen? ⟨q, 0, none⟩ = false ∧ w.frozen? ⟨q, 1, none⟩ = false ∧ w.frozen? ⟨q, 2, none⟩ = false ∧ w.frozen? ⟨q, 3, none⟩ = false ∧ w.frozen? ⟨q, 4, none⟩ = false ∧ w.frozen? ⟨q, 5, none⟩ = false ∧ w.frozen? ⟨q, 6, none⟩ = false :=
 ⟨(h.2 0 _ rfl).1, (h.2 1 _ rfl).1, (h.2 2 _ rfl).1, (h.2 3 _ rfl).1, (h.2 4 _ rfl).1, (h.2 5 _ rfl).1, (h.2 6 _ rfl).1, (h.2 0 _ rfl).2, (h.2 1 _ rfl).2, (h.2 2 _ rfl).2, (h.2 3 _ rfl).2, (h.2 4 _ rfl).2, (h.2 5 _ rfl).2, (h.2 6 _ rfl).2⟩
theorem CN.s7 {w : World} {q : Nat} {c0 c1 c2 c3 c4 c5 c6 : Value} (h : CN w q [c0, c1, c2, c3, c4, c5, c6]) (v0 v1 v2 v3 v4 v5 v6 : Value) : CN (((((((w.setCell ⟨q, 0, none⟩ v0).setCell ⟨q, 1, none⟩ v1).setCell ⟨q, 2, none⟩ v2).setCell ⟨q, 3, none⟩ v3).setCell ⟨q, 4, none⟩ v4).setCell ⟨q, 5, none⟩ v5).setCell ⟨q, 6, none⟩ v6) q [v0, v1, v2, v3, v4, v5, v6] := (((((((h.set 0 (by simp) v0).set 1 (by simp) v1).set 2 (by simp) v2).set 3 (by simp) v3).set 4 (by simp) v4).set 5 (by simp) v5).set 6 (by simp) v6)
theorem grown_s7 (w : World) (q : Nat) (v0 v1 v2 v3 v4 v5 v6 : Value) : w.grownBy (((((((w.setCell ⟨q, 0, none⟩ v0).setCell ⟨q, 1, none⟩ v1).setCell ⟨q, 2, none⟩ v2).setCell ⟨q, 3, none⟩ v3).setCell ⟨q, 4, none⟩ v4).setCell ⟨q, 5, none⟩ v5).setCell ⟨q, 6, none⟩ v6) (some q) := ((((((grown_cell w q 0 v0).trans (grown_cell _ q 1 v1)).trans (grown_cell _ q 2 v2)).trans (grown_cell _ q 3 v3)).trans (grown_cell _ q 4 v4)).trans (grown_cell _ q 5 v5)).trans (grown_cell _ q 6 v6)
theorem getSoaV_ex (d : ByteArray) : ∃ M R x1 x2 x3 x4 x5 b, getSoaV d = .tuple #[.agg #[.string M, .string R, .int .i64 x1, .int .i64 x2, .int .i64 x3, .int .i64 x4, .int .i64 x5], .bool b] := by
 unfold getSoaV
 split <;> exact ⟨_, _, _, _, _, _, _, _, rfl⟩
set_option maxRecDepth 100000 in
set_option maxHeartbeats 4000000 in
theorem zsoa_any (z : Nat) (apex : ByteArray) (S : List SetP) (s0 : SetP) (d0 : ByteArray) (D : List ByteArray) (M R : ByteArray) (x1 x2 x3 x4 x5 : Int) (b : Bool) (w : World) (h : ZnAt w z apex S) (hr : RiseS S) (hz : SzZ S) (ha : apex.size ≤ 1000000) (hf : findK S ⟨apex, 6, 1⟩ = some s0) (hd : s0.data = d0 :: D) (hds : d0.size ≤ 1000000) (hg : getSoaV d0 = .tuple #[.agg #[.string M, .string R, .int .i64 x1, .int .i64 x2, .int .i64 x3, .int .i64 x4, .int .i64 x5], .bool b]) :
  Calls Tryz.prog 20 #[.pointer (some ⟨z, 0, none⟩)] w fun e w' => e = .returned (.agg #[.string M, .string R, .int .i64 x1, .int .i64 x2, .int .i64 x3, .int .i64 x4, .int .i64 x5]) ∧ Below w.heap.size w w' := by
 have HG := Lib.hid (fun wx => getSoa_any d0 wx hds)
 rw [hg] at HG
 have hb1 := (Below.refl w.heap.size w).alloc (Nat.le_refl _) (.cells #[.string ⟨#[]⟩, .string ⟨#[]⟩, .int .i64 0, .int .i64 0, .int .i64 0, .int .i64 0, .int .i64 0] 56)
 have HC := Lib.hid (CN.new w #[.string ⟨#[]⟩, .string ⟨#[]⟩, .int .i64 0, .int .i64 0, .int .i64 0, .int .i64 0, .int .i64 0] 56)
 replace HC : Hid (CN (w.alloc (.cells #[.string ⟨#[]⟩, .string ⟨#[]⟩, .int .i64 0, .int .i64 0, .int .i64 0, .int .i64 0, .int .i64 0] 56)) w.heap.size [.string ⟨#[]⟩, .string ⟨#[]⟩, .int .i64 0, .int .i64 0, .int .i64 0, .int .i64 0, .int .i64 0]) := HC
 have HB := Lib.hid hb1
 have HZA := Lib.hid h
 have HGET := Lib.hid (fun wx (hx : Below w.heap.size w wx) => zget_any z apex S apex 6 1 wx (h.below hx) hr hz ha)
 have HY := Lib.hid (h.below hb1)
 clear h hr hz ha hb1 hg hds
 go_enter Tryz.func20, Tryz.ntmps20
 go_upto_region 1 with (fail)
 obtain ⟨w1, hw1⟩ : ∃ x, w.alloc (.cells #[.string ⟨#[]⟩, .string ⟨#[]⟩, .int .i64 0, .int .i64 0, .int .i64 0, .int .i64 0, .int .i64 0] 56) = x := ⟨_, rfl⟩
 rw [hw1] at HC HB HY ⊢
 clear hw1
 obtain ⟨q, hq⟩ : ∃ q, w.heap.size = q := ⟨_, rfl⟩
 rw [show (Value.pointer (some { block := w.heap.size, off := 0 })) = Value.pointer (some { block := q, off := 0 }) by rw [hq]]
 rw [hq] at HC
 have HQ := Lib.hid (show w.heap.size ≤ q by rw [← hq]; exact Nat.le_refl _)
 clear hq
 obtain ⟨a, c, hz2, -⟩ := HY.out
 obtain ⟨y0, y1⟩ := hz2.w2
 clear hz2
 go_wp2_with fail
 refine (zkey_any apex 6 _).mono ?_; rintro e w2 ⟨rfl, hb2⟩
 have HB2 := Lib.hid (HB.out.trans (hb2.mono HB.out.size))
 clear y0 y1
 go_wp2_with fail
 refine (HGET.out w2 HB2.out).mono ?_; rintro e w3 ⟨hff, hb3⟩
 have HX := Lib.hid (hb2.trans (hb3.mono hb2.size))
 have HB3 := Lib.hid (HB.out.trans (HX.out.mono HB.out.size))
 have HC3 := Lib.hid (HC.out.below HX.out)
 clear hb2 hb3 HX HB HC HY HB2 HGET
 rcases hff with ⟨s, dv, hfs, rfl, ho⟩ | ⟨hfn, -⟩
 case inr => rw [hf] at hfn; cases hfn
 obtain rfl : s0 = s := by rw [hf] at hfs; exact Option.some.inj hfs
 clear hfs hf
 obtain ⟨⟨sn, st, sc1⟩, su, sd⟩ := s0
 obtain rfl : sd = d0 :: D := hd
 replace ho : w3.ownsRow w2.heap.size 9 1 dv (D.length + 1) (.string d0 :: sc D) := ho
 obtain ⟨g, c9, rfl⟩ : ∃ g c9, dv = .slice (some ⟨g, 0, none⟩) (D.length + 1) c9 := by
  rcases ho.2 with ⟨_, h1⟩ | ⟨g', cap, cur, e, _⟩
  · omega
  · exact ⟨g', cap, e⟩
 have hc0 : w3.cell? ⟨g, 0, none⟩ = some (.string d0) := ownsRow_at ho 0 _ rfl
 have HC0 := Lib.hid hc0
 obtain ⟨dl, hdl⟩ : ∃ x, D.length + 1 = x := ⟨_, rfl⟩
 have i2 : (0 : Int) < (dl : Int) := by omega
 rw [hdl]
 clear ho hc0 hdl
 dsimp only
 go_upto_region 2 with (fail)
 have HBA := Lib.hid ((Below.refl w3.heap.size w3).alloc (Nat.le_refl _) (.cells #[.string sn, .int .i64 st, .int .i64 sc1, .int .i64 su, .slice (some ⟨g, 0, none⟩) dl c9] 38))
 have HC7 := Lib.hid (c5_new w3 (.string sn) (.int .i64 st) (.int .i64 sc1) (.int .i64 su) (.slice (some ⟨g, 0, none⟩) dl c9) 38)
 obtain ⟨w4, hw4⟩ : ∃ x, w3.alloc (.cells #[.string sn, .int .i64 st, .int .i64 sc1, .int .i64 su, .slice (some ⟨g, 0, none⟩) dl c9] 38) = x := ⟨_, rfl⟩
 rw [hw4] at HBA HC7 ⊢
 clear hw4
 have HB4 := Lib.hid (HB3.out.trans (HBA.out.mono HB3.out.size))
 have HC4 := Lib.hid (HC3.out.below HBA.out)
 have k0 := cell_later4 HBA.out HC0.out
 obtain ⟨_, x0', x1', x2', x3', x4', _⟩ := HC7.out
 clear HBA HB3 HC3 HC0
 go_wp2_with fail
 refine (HG.out _).mono ?_; rintro e w5 ⟨rfl, hb5⟩
 have HB5 := Lib.hid (HB4.out.trans (hb5.mono HB4.out.size))
 have HC5 := Lib.hid (HC4.out.below hb5)
 clear hb5 HB4 HC4 HC7 k0 x0' x1' x2' x3' x4'
 go_upto_region 3 with (fail)
 have HBA := Lib.hid ((Below.refl w5.heap.size w5).alloc (Nat.le_refl _) (.cells #[.string M, .string R, .int .i64 x1, .int .i64 x2, .int .i64 x3, .int .i64 x4, .int .i64 x5] 56))
 have HN := Lib.hid (CN.new w5 #[.string M, .string R, .int .i64 x1, .int .i64 x2, .int .i64 x3, .int .i64 x4, .int .i64 x5] 56)
 replace HN : Hid (CN (w5.alloc (.cells #[.string M, .string R, .int .i64 x1, .int .i64 x2, .int .i64 x3, .int .i64 x4, .int .i64 x5] 56)) w5.heap.size [.string M, .string R, .int .i64 x1, .int .i64 x2, .int .i64 x3, .int .i64 x4, .int .i64 x5]) := HN
 obtain ⟨w6, hw6⟩ : ∃ x, w5.alloc (.cells #[.string M, .string R, .int .i64 x1, .int .i64 x2, .int .i64 x3, .int .i64 x4, .int .i64 x5] 56) = x := ⟨_, rfl⟩
 rw [hw6] at HBA HN ⊢
 clear hw6
 have HB6 := Lib.hid (HB5.out.trans (HBA.out.mono HB5.out.size))
 have HC6 := Lib.hid (HC5.out.below HBA.out)
 clear HBA HB5 HC5
 obtain ⟨n0, n1, n2, n3, n4, n5, n6, _⟩ := HN.out.u7
 obtain ⟨y0, y1, y2, y3, y4, y5, y6, g0, g1, g2, g3, g4, g5, g6⟩ := HC6.out.u7
 have KZ := Lib.hid (HC6.out.s7 (.string M) (.string R) (.int .i64 x1) (.int .i64 x2) (.int .i64 x3) (.int .i64 x4) (.int .i64 x5))
 have HBZ := Lib.hid (HB6.out.grown (grown_s7 w6 q (.string M) (.string R) (.int .i64 x1) (.int .i64 x2) (.int .i64 x3) (.int .i64 x4) (.int .i64 x5)) HB6.out.size (fun k hk => by injection hk with hk; rw [← hk]; exact HQ.out))
 go_wp2
 obtain ⟨wz, hwz⟩ : ∃ x, (((((((w6.setCell ⟨q, 0, none⟩ (.string M)).setCell ⟨q, 1, none⟩ (.string R)).setCell ⟨q, 2, none⟩ (.int .i64 x1)).setCell ⟨q, 3, none⟩ (.int .i64 x2)).setCell ⟨q, 4, none⟩ (.int .i64 x3)).setCell ⟨q, 5, none⟩ (.int .i64 x4)).setCell ⟨q, 6, none⟩ (.int .i64 x5)) = x := ⟨_, rfl⟩
 rw [hwz] at KZ HBZ ⊢
 clear hwz y0 y1 y2 y3 y4 y5 y6 g0 g1 g2 g3 g4 g5 g6 n0 n1 n2 n3 n4 n5 n6
 obtain ⟨z0, z1, z2, z3, z4, z5, z6, _⟩ := KZ.out.u7
 refine bodyPost_ret (v := .agg #[.string M, .string R, .int .i64 x1, .int .i64 x2, .int .i64 x3, .int .i64 x4, .int .i64 x5]) (by simp [results, Tryz.results20, go_sem, z0, z1, z2, z3, z4, z5, z6]) rfl ⟨rfl, HBZ.out⟩
end Go.Proofs.YthfnphcefkdgbaaGreat
end
section
namespace Go.Proofs.YthfnphcefkdgbaaGreat
open Go.RowKit
open Go.Maps (IsMap Keyed)
theorem bel_grown {w w' : World} (h : Below w.heap.size w w') (row : Option Nat) : w.grownBy w' row := ⟨h.os, h.tape, h.output, h.size, fun k hk _ => h.block k hk⟩
theorem zeroInt (w : World) : (zeroValue 3).run Tryz.prog w = .ok (.int .i64 0) w := by kernel_rfl
theorem strKeys : Keyed Tryz.prog 9 := Maps.string_keyed Tryz.underlying9
theorem row1_lit (w : World) (x : Int) (T : TypeId) : Row (w.alloc (.cells #[.int .i64 x] T)) (some ⟨w.heap.size, 0, none⟩) 1 [x] := by
 refine ⟨rfl, Or.inr ⟨_, 0, rfl, by simp, fun j hj => ?_⟩⟩
 match j, hj with
 | 0, _ => simp [World.cell?_alloc_at]
def keyZ (n : ByteArray) : Lit := .string n.data.toList
theorem keyZ_inj {a b : ByteArray} (h : keyZ a = keyZ b) : a = b := by
 unfold keyZ at h
 injection h with h
 exact toList_inj (by rw [Lib.toList_data, Lib.toList_data]; exact h)
theorem keyZ_key (a : ByteArray) : WideAt.IsKeyLit (keyZ a) := by
 first | trivial | exact ⟨_, rfl⟩ | simp [keyZ, WideAt.IsKeyLit]
theorem keyOf_z {a : ByteArray} (hz : a.size ≤ maxLen) : keyOf Tryz.prog 9 (.string a) = some (keyZ a) := by
 unfold keyOf
 rw [Tryz.underlying9]
 simp only [mapKey]
 rw [Tryz.underlying9]
 simp [keyZ, hz]
def CntD (D : DataW Unit) (f : ByteArray → Nat) : Prop := IsMap D ∧ ∀ n, D.atKey (keyZ n) (.lit (.int .i64 0)) = .lit (.int .i64 (f n : Nat))
theorem CntD.nil : CntD (.map []) (fun _ => 0) := ⟨⟨[], rfl⟩, fun _ => rfl⟩
theorem CntD.put {D : DataW Unit} {f : ByteArray → Nat} (h : CntD D f) (n : ByteArray) (p : Nat) (g : ByteArray → Nat) (h1 : g n = p) (h2 : ∀ m, m ≠ n → g m = f m) : CntD (D.put (keyZ n) (.lit (.int .i64 (p : Nat)))) g := by
 refine ⟨h.1.put _ _, fun m => ?_⟩
 by_cases e : m = n
 · subst e
   rw [Maps.atKey_put_same h.1 (keyZ_key _) _ _, h1]
 · rw [Maps.atKey_put_other (fun e2 => e (keyZ_inj e2)), h.2 m, h2 m e]
theorem names_next (S : List SetP) (k : Nat) (s : SetP) (h : S[k]? = some s) (n : ByteArray) : namesN (S.take (k + 1)) n = namesN (S.take k) n + (open Classical in if s.k.n = n then s.data.length else 0) := by
 rw [List.take_add_one, h, namesN_append]
 rfl
theorem soas_next (S : List SetP) (k : Nat) (s : SetP) (h : S[k]? = some s) : soasN (S.take (k + 1)) = soasN (S.take k) + (if s.k.t = 6 then s.data.length else 0) := by
 rw [List.take_add_one, h, soasN_append]
 rfl
theorem namesN_le (S : List SetP) (n : ByteArray) : namesN S n ≤ sumD S := by
 induction S with
 | nil => exact Nat.le_refl _
 | cons s S ih => rw [namesN, sumD]; split <;> omega
theorem soasN_le (S : List SetP) : soasN S ≤ sumD S := by
 induction S with
 | nil => exact Nat.le_refl _
 | cons s S ih => rw [soasN, sumD]; split <;> omega
noncomputable def undB (apex : ByteArray) (s : SetP) : Bool := undS s.k.n apex && s.k.c == 1
noncomputable def cnB (S : List SetP) (s : SetP) : Bool := !(s.k.t == 5 && decide (1 < namesN S s.k.n))
theorem whole_no1 {apex : ByteArray} {S : List SetP} {s : SetP} (h : s ∈ S) (hb : undB apex s = false) : wholeB apex S = false := by
 have : S.all (undB apex) = false := List.all_eq_false.2 ⟨s, h, by rw [hb]; simp⟩
 show (S.all (undB apex) && _) = false
 rw [this]; rfl
theorem whole_no2 {apex : ByteArray} {S : List SetP} {s : SetP} (h : s ∈ S) (hb : cnB S s = false) : wholeB apex S = false := by
 have : S.all (cnB S) = false := List.all_eq_false.2 ⟨s, h, by rw [hb]; simp⟩
 show (_ && (S.all (cnB S) && _)) = false
 rw [this]; simp
theorem whole_yes {apex : ByteArray} {S : List SetP} (h1 : ∀ s ∈ S, undB apex s = true) (h2 : ∀ s ∈ S, cnB S s = true) : wholeB apex S = ((findK S ⟨apex, 6, 1⟩).isSome && ((findK S ⟨apex, 2, 1⟩).isSome && soasN S == 1)) := by
 have a1 : S.all (undB apex) = true := List.all_eq_true.2 h1
 have a2 : S.all (cnB S) = true := List.all_eq_true.2 h2
 show (S.all (undB apex) && (S.all (cnB S) && _)) = _
 rw [a1, a2]; simp
theorem all_next {S : List SetP} {k : Nat} {s : SetP} {p : SetP → Bool} (h : ∀ t ∈ S.take k, p t = true) (hs : S[k]? = some s) (h1 : p s = true) : ∀ t ∈ S.take (k + 1), p t = true := fun t ht => by
 rw [List.take_add_one, hs] at ht
 rcases List.mem_append.1 ht with h2 | h2
 · exact h t h2
 · obtain rfl := List.mem_singleton.1 h2; exact h1
theorem found_ex {S : List SetP} {k : Ky} {B : Nat} {e : Ending} {w' : World} (h : Found S k B e w') : ∃ (n : ByteArray) (t c u : Int) (a : Option Addr) (l cc : Nat), e = .returned (.tuple #[.agg #[.string n, .int .i64 t, .int .i64 c, .int .i64 u, .slice a l cc], .bool (findK S k).isSome]) := by
 rcases h with ⟨s, dv, hf, rfl, ho⟩ | ⟨hf, rfl⟩
 · obtain ⟨a, c, rfl, _⟩ := cells_own ho
   rw [hf]
   exact ⟨_, _, _, _, _, _, _, rfl⟩
 · rw [hf]
   exact ⟨_, _, _, _, _, _, _, rfl⟩
set_option maxRecDepth 100000 in
set_option maxHeartbeats 8000000 in
theorem whole_any (z : Nat) (apex : ByteArray) (S : List SetP) (w : World) (h : ZnAt w z apex S) (hr : RiseS S) (hz : SzZ S) (ha : apex.size ≤ 1000000) :
  Calls Tryz.prog 55 #[.pointer (some ⟨z, 0, none⟩)] w fun e w' => e = .returned (.bool (wholeB apex S)) ∧ Below w.heap.size w w' := by
 have HZA := Lib.hid h
 have HGET := Lib.hid (fun (t : Int) wx (hx : Below w.heap.size w wx) => zget_any z apex S apex t 1 wx (h.below hx) hr hz ha)
 obtain ⟨a, c, hz2, hsa⟩ := h
 have HZN := Lib.hid (fun s hs => (hz.2 s hs).1)
 have HSUM := Lib.hid (sumD_le_z hz.1 (fun s hs => (hz.2 s hs).2))
 have HAS := Lib.hid ha
 obtain ⟨len, hlen⟩ : ∃ x, S.length = x := ⟨_, rfl⟩
 rw [hlen] at hz2 hsa
 have hln : len ≤ 100000 := by rw [← hlen]; exact hz.1
 have HR := Lib.hid hsa
 have HL := Lib.hid hlen
 have HY := Lib.hid hz2
 have HB := Lib.hid ((Below.refl w.heap.size w).alloc (Nat.le_refl _) (.map #[] 0))
 have HM := Lib.hid (World.ownsMap_made w Tryz.prog 9 (plainElem (H := Unit) Tryz.prog 3))
 have hmk := run_makeMap (P := Tryz.prog) 138 w
 clear hsa hz2 hz ha hr hlen
 go_enter Tryz.func55, Tryz.ntmps55
 go_upto_region 2 with (fail)
 clear hmk
 obtain ⟨w1, hw1⟩ : ∃ x, w.alloc (.map #[] 0) = x := ⟨_, rfl⟩
 rw [hw1] at HB HM ⊢
 clear hw1
 obtain ⟨mb, hmb⟩ : ∃ x, w.heap.size = x := ⟨_, rfl⟩
 rw [show (Value.map (some w.heap.size)) = Value.map (some mb) by rw [hmb]]
 rw [hmb] at HM
 have HMB := Lib.hid (show w.heap.size ≤ mb by rw [← hmb]; exact Nat.le_refl _)
 clear hmb
 obtain ⟨y0, y1⟩ := (HY.out.below HB.out).w2
 go_wp2_with fail
 clear y0 y1
 go_loopw [3, 19] (fun sv i wr => ∃ (k m : Nat) (D : DataW Unit), k ≤ len ∧ i = .int .i64 k ∧ sv = .int .i64 m ∧ Hid (m = soasN (S.take k)) ∧ Hid (∀ t ∈ S.take k, undB apex t = true) ∧ Hid (CntD D (namesN (S.take k))) ∧ Hid (wr.ownsMap Tryz.prog 9 (plainElem (H := Unit) Tryz.prog 3) mb k D) ∧ Hid (Below w.heap.size w wr)) (fun _ i _ => len - (intOf i).toNat)
 case atStart => exact ⟨0, 0, .map [], Nat.zero_le _, rfl, rfl, Lib.hid rfl, Lib.hid (fun t ht => by simp at ht), Lib.hid CntD.nil, HM, HB⟩
 case round =>
  obtain ⟨k, m, D, hk, rfl, rfl, hm, hun, hcd, hmp, hbw⟩ := hrel
  clear HM HB
  by_cases hlt : k < len
  · -- a round of the first loop
    rcases (HR.out.below hbw.out).2 with h9 | ⟨b, o, rfl, hbl, hc⟩
    · omega
    obtain ⟨p, c9, hs⟩ := hc k hlt
    have hLk : S[k]? = some (S.getD k ssD) := by
      rw [List.getD_eq_getElem?_getD, List.getElem?_eq_getElem (by have := HL.out; omega)]; rfl
    obtain ⟨s, hss⟩ : ∃ s, S.getD k ssD = s := ⟨_, rfl⟩
    rw [hss] at hs hLk
    have hsz := HZN.out s (List.mem_of_getElem? hLk)
    have HMEM := Lib.hid (List.mem_of_getElem? hLk)
    have HLK := Lib.hid hLk
    obtain ⟨⟨sn, st, sc1⟩, su, sd⟩ := s
    obtain ⟨dl, hdl2⟩ : ∃ x, sd.length = x := ⟨_, rfl⟩
    obtain ⟨c0, c1, c2, c3, c4, -, -⟩ := hs
    replace c0 : wr.cell? ⟨b, o + k * 5, none⟩ = some (.string sn) := c0
    replace c1 : wr.cell? ⟨b, o + k * 5 + 1, none⟩ = some (.int .i64 st) := c1
    replace c2 : wr.cell? ⟨b, o + k * 5 + 2, none⟩ = some (.int .i64 sc1) := c2
    replace c3 : wr.cell? ⟨b, o + k * 5 + 3, none⟩ = some (.int .i64 su) := c3
    replace c4 : wr.cell? ⟨b, o + k * 5 + 4, none⟩ = some (.slice p sd.length c9) := c4
    rw [hdl2] at c4
    have HDL := Lib.hid hdl2
    replace hsz : sn.size ≤ 1000000 := hsz
    have HSN := Lib.hid hsz
    have i1 : (0 : Int) ≤ (k : Int) := by omega
    have i2 : (k : Int) < (len : Int) := by omega
    have HBA := Lib.hid ((Below.refl wr.heap.size wr).alloc (Nat.le_refl _) (.cells #[.string sn, .int .i64 st, .int .i64 sc1, .int .i64 su, .slice p dl c9] 38))
    have HC7 := Lib.hid (c5_new wr (.string sn) (.int .i64 st) (.int .i64 sc1) (.int .i64 su) (.slice p dl c9) 38)
    have HLT := Lib.hid hlt
    clear hc hss hdl2 hLk hbl hsz hlt
    have HMS := Lib.hid (show soasN (S.take (k + 1)) = m + (if st = 6 then dl else 0) by rw [soas_next S k _ HLK.out, hm.out, ← HDL.out])
    have HMX := Lib.hid (show m + dl ≤ 100000 * 100000 by
      have h1 := sum_take S k _ HLK.out
      have h2 := sum_take_le S (k + 1)
      have h3 := soasN_le (S.take k)
      have h4 := HSUM.out
      rw [← hm.out] at h3
      replace h1 : sumD (S.take (k + 1)) = sumD (S.take k) + sd.length := h1
      rw [HDL.out] at h1
      omega)
    have HNX := Lib.hid (show namesN (S.take k) sn + dl ≤ 100000 * 100000 by
      have h1 := sum_take S k _ HLK.out
      have h2 := sum_take_le S (k + 1)
      have h3 := namesN_le (S.take k) sn
      have h4 := HSUM.out
      replace h1 : sumD (S.take (k + 1)) = sumD (S.take k) + sd.length := h1
      rw [HDL.out] at h1
      omega)
    have HUN := Lib.hid (fun wx => under_any sn apex wx HSN.out HAS.out)
    have HY1 := Lib.hid (HY.out.below hbw.out)
    have HMP1 := Lib.hid (hmp.out.kept (bel_grown HBA.out none) (by simp))
    have HBW1 := Lib.hid (hbw.out.trans (HBA.out.mono hbw.out.size))
    have HY2 := Lib.hid (HY1.out.below HBA.out)
    have HQM := Lib.hid (show wr.heap.size ≠ mb from fun e => by have := hmp.out.lt; omega)
    clear hmp hbw HY1
    go_upto_region 5 with (fail)
    obtain ⟨w2, hw2⟩ : ∃ x, wr.alloc (.cells #[.string sn, .int .i64 st, .int .i64 sc1, .int .i64 su, .slice p dl c9] 38) = x := ⟨_, rfl⟩
    rw [hw2] at HBA HC7 HMP1 HBW1 HY2 ⊢
    clear hw2 c0 c1 c2 c3 c4
    obtain ⟨q, hq⟩ : ∃ x, wr.heap.size = x := ⟨_, rfl⟩
    rw [hq] at HC7 HQM ⊢
    clear hq HBA
    have HBD := Lib.hid ((Below.refl w2.heap.size w2).drew)
    have HC7D := Lib.hid (HC7.out.below HBD.out)
    have HYD := Lib.hid (HY2.out.below HBD.out)
    have HMPD := Lib.hid (HMP1.out.kept (bel_grown HBD.out none) (by simp))
    have HBWD := Lib.hid (HBW1.out.trans (HBD.out.mono HBW1.out.size))
    clear HC7 HY2 HMP1 HBW1
    have HUB := Lib.hid (show undB apex ⟨⟨sn, st, sc1⟩, su, sd⟩ = (undS sn apex && sc1 == 1) from rfl)
    obtain ⟨u, hu⟩ : ∃ x, undS sn apex = x := ⟨_, rfl⟩
    rw [hu] at HUN HUB
    clear hu
    cases u
    · have HW := Lib.hid (whole_no1 HMEM.out HUB.out)
      refine wp_region_held_drew (S := (fun wx => wx.cell? ⟨q, 0, none⟩ = some (.string sn) ∧ wx.cell? ⟨q, 2, none⟩ = some (.int .i64 sc1) ∧ wx.cell? ⟨z, 0, none⟩ = some (.string apex))) (by kernel_rfl) (⟨HC7D.out.2.1, HC7D.out.2.2.2.1, HYD.out.w2.1⟩) (fun hHeld => ?_)
      refine Plan.of [0, 1, 2, 3, 4, 5, 6] ?_
      iterate 7 (refine Plan.w (v := ?_) rfl hHeld (by rfl) ?_ ?_; rotate_left; (focus (intro w hSw; (try dsimp only at hSw); go_simp; try with_reducible rfl)); try simp only [Act.put, List.setIfInBounds_toArray, List.set_cons_zero, List.set_cons_succ])
      refine Plan.fin ?_
      refine wpAnyH_ready (rs := [7]) (by kernel_rfl) (by simp) ?_
      refine AllReadyH.cons (o := { dst := some 30, op := Go.Op.call { callee := Go.Callee.value (Go.Operand.func 66), args := #[Go.Operand.tmp 25, Go.Operand.tmp 29], argTypes := #[9, 9] }, type := 4, pos := "zone.go:43", after := #[{ on := 2, ground := Go.Ground.data }, { on := 6, ground := Go.Ground.data }], guard := none }) rfl (fun K hK => ?_) AllReadyH.nil
      go_simp
      refine (HUN.out _).mono ?_; rintro e wy ⟨rfl, rfl⟩
      go_wp2_with fail
      refine hK.out _ _ (hHeld) (fun hHeld2 => ?_)
      clear hK K hHeld
      have hHeld := hHeld2
      clear hHeld2
      try simp only [Act.put, List.setIfInBounds_toArray, List.set_cons_zero, List.set_cons_succ]
      refine Plan.of [8, 9, 10, 11, 12, 13, 14] ?_
      iterate 2 (refine Plan.w (v := ?_) rfl hHeld (by rfl) ?_ ?_; rotate_left; (focus (intro w hSw; (try dsimp only at hSw); go_simp; try with_reducible rfl)); try simp only [Act.put, List.setIfInBounds_toArray, List.set_cons_zero, List.set_cons_succ])
      iterate 4 (refine Plan.n rfl hHeld (by rfl) ?_; try simp only [Act.put, List.setIfInBounds_toArray, List.set_cons_zero, List.set_cons_succ])
      refine Plan.w (v := ?_) rfl hHeld (by rfl) ?_ ?_; rotate_left; (focus (intro w hSw; (try dsimp only at hSw); go_simp; try with_reducible rfl)); try simp only [Act.put, List.setIfInBounds_toArray, List.set_cons_zero, List.set_cons_succ]
      refine Plan.fin ?_
      refine wpAnyH_done (by kernel_rfl) ?_ _
      have HBX := HBWD
      clear hHeld HBD HC7D HYD HMPD
      go_wp2
      go_ret
      exact ⟨by rw [HW.out]; rfl, HBX.out⟩
    by_cases hc1 : sc1 = 1
    · have d1 : (sc1 != 1) = false := nF hc1
      have HUY := Lib.hid (show undB apex ⟨⟨sn, st, sc1⟩, su, sd⟩ = true by rw [HUB.out, hc1]; rfl)
      have HUA := Lib.hid (all_next (p := undB apex) hun.out HLK.out HUY.out)
      clear hc1
      refine wp_region_held_drew (S := (fun wx => wx.cell? ⟨q, 0, none⟩ = some (.string sn) ∧ wx.cell? ⟨q, 2, none⟩ = some (.int .i64 sc1) ∧ wx.cell? ⟨z, 0, none⟩ = some (.string apex))) (by kernel_rfl) (⟨HC7D.out.2.1, HC7D.out.2.2.2.1, HYD.out.w2.1⟩) (fun hHeld => ?_)
      refine Plan.of [0, 1, 2, 3, 4, 5, 6] ?_
      iterate 7 (refine Plan.w (v := ?_) rfl hHeld (by rfl) ?_ ?_; rotate_left; (focus (intro w hSw; (try dsimp only at hSw); go_simp; try with_reducible rfl)); try simp only [Act.put, List.setIfInBounds_toArray, List.set_cons_zero, List.set_cons_succ])
      refine Plan.fin ?_
      refine wpAnyH_ready (rs := [7]) (by kernel_rfl) (by simp) ?_
      refine AllReadyH.cons (o := { dst := some 30, op := Go.Op.call { callee := Go.Callee.value (Go.Operand.func 66), args := #[Go.Operand.tmp 25, Go.Operand.tmp 29], argTypes := #[9, 9] }, type := 4, pos := "zone.go:43", after := #[{ on := 2, ground := Go.Ground.data }, { on := 6, ground := Go.Ground.data }], guard := none }) rfl (fun K hK => ?_) AllReadyH.nil
      go_simp
      refine (HUN.out _).mono ?_; rintro e wy ⟨rfl, rfl⟩
      go_wp2_with fail
      refine hK.out _ _ (hHeld) (fun hHeld2 => ?_)
      clear hK K hHeld
      have hHeld := hHeld2
      clear hHeld2
      try simp only [Act.put, List.setIfInBounds_toArray, List.set_cons_zero, List.set_cons_succ]
      refine Plan.of [8, 9, 10, 11, 12, 13, 14] ?_
      iterate 7 (refine Plan.w (v := ?_) rfl hHeld (by rfl) ?_ ?_; rotate_left; (focus (intro w hSw; (try dsimp only at hSw); go_simp; try with_reducible rfl)); try simp only [Act.put, List.setIfInBounds_toArray, List.set_cons_zero, List.set_cons_succ])
      refine Plan.fin ?_
      refine wpAnyH_done (by kernel_rfl) ?_ _
      go_upto_region 7 with (fail)
      obtain ⟨w3, hw3⟩ : ∃ x, w2.drew = x := ⟨_, rfl⟩
      rw [hw3] at HC7D HYD HMPD HBWD ⊢
      clear hHeld HBD hw3 d1
      obtain ⟨cc, hrun, hat, -⟩ := HMPD.out.lookup_int strKeys Tryz.underlying138 Tryz.underlying3 (zeroInt _) (keyOf_z (a := sn) (by have := HSN.out; unfold maxLen; omega))
      rw [hcd.out.2 sn] at hat
      obtain ⟨nn, hnn⟩ : ∃ x, namesN (S.take k) sn = x := ⟨_, rfl⟩
      rw [hnn] at hat HNX
      have HNN := Lib.hid hnn
      obtain rfl : (nn : Int) = cc := by injection hat with h1; injection h1
      have hnx : nn + dl ≤ 10000000000 := HNX.out
      obtain ⟨-, q0, q1, q2, q3, q4, -⟩ := HC7D.out
      clear hat hnn
      go_wp2_with (at_mapUpdate; refine wpList_mapUpdate_own _ rfl _ _ _ 138 rfl 9 3 strKeys Tryz.underlying138 (plainElem (H := Unit) Tryz.prog 3) mb k D rfl HMPD.out (by unfold maxLen; omega) _ _ (keyZ sn) rfl rfl (keyOf_z (by have := HSN.out; unfold maxLen; omega)) (.lit (.int .i64 ((nn : Int) + (dl : Int)))) [] (plainElem_int Tryz.underlying3 (WalkArith.wf_i64 (by omega))) ?_)
      intro w4 hm4 hg4
      have HM4 := Lib.hid hm4
      have HB4 := Lib.hid (HBWD.out.grown hg4 HBWD.out.size (fun k hk => by injection hk with hk; rw [← hk]; exact HMB.out))
      have HCD := Lib.hid (show CntD (D.put (keyZ sn) (.lit (.int .i64 ((nn : Int) + (dl : Int))))) (namesN (S.take (k + 1))) from hcd.out.put sn (nn + dl) _ (by
        rw [names_next S k _ HLK.out, HNN.out, if_pos rfl]; show nn + sd.length = _; rw [HDL.out]) (fun x hx => by
        rw [names_next S k _ HLK.out, if_neg (fun e => hx e.symm)]; rfl))
      have q0' := hg4.cell q0 (fun e => HQM.out (by injection e))
      have q1' := hg4.cell q1 (fun e => HQM.out (by injection e))
      have q2' := hg4.cell q2 (fun e => HQM.out (by injection e))
      have q4' := hg4.cell q4 (fun e => HQM.out (by injection e))
      clear q0 q1 q2 q3 q4 hrun hm4 hg4 HMPD HBWD HC7D HYD hnx hcd hun HUB
      go_wp2_with fail
      have hba := (Below.refl w4.heap.size w4).alloc (Nat.le_refl _) (.cells #[.int .i64 6] 3)
      refine (isK ⟨sn, st, sc1⟩ _ 1 1 [6] _ (row1_lit w4 6 3) (by decide)).mono ?_; rintro e w5 ⟨rfl, hb5⟩
      have HX := Lib.hid (hba.trans (hb5.mono hba.size))
      have HB5 := Lib.hid (HB4.out.trans (HX.out.mono HB4.out.size))
      have HM5 := Lib.hid (HM4.out.kept (bel_grown HX.out none) (by simp))
      have q4 := cell_later4 HX.out q4'
      clear q0' q1' q2' q4' hba hb5 HX HB4 HM4
      dsimp only
      by_cases h6 : st = 6
      · rw [show decide (st ∈ [6]) = true from dT (by rw [h6]; exact List.mem_singleton.2 rfl)]
        have HM6 := Lib.hid (show m + dl = soasN (S.take (k + 1)) by rw [HMS.out, if_pos h6])
        have hmx : m + dl ≤ 10000000000 := HMX.out
        clear h6
        go_wp2
        go_roundw
        case rel => exact ⟨k + 1, m + dl, _, HLT.out, by have := HLT.out; go_num, by go_num, HM6, HUA, HCD, HM5, HB5⟩
        case measure => have := HLT.out; simp [intOf]; omega
      · rw [show decide (st ∈ [6]) = false from dF (fun h => h6 (List.mem_singleton.1 h))]
        have HM6 := Lib.hid (show m = soasN (S.take (k + 1)) by rw [HMS.out, if_neg h6]; rfl)
        clear h6
        go_wp2
        go_roundw
        case rel => exact ⟨k + 1, m, _, HLT.out, by have := HLT.out; go_num, rfl, HM6, HUA, HCD, HM5, HB5⟩
        case measure => have := HLT.out; simp [intOf]; omega
    · have d1 : (sc1 != 1) = true := nT hc1
      have HW := Lib.hid (whole_no1 HMEM.out (by rw [HUB.out, show (sc1 == 1) = false from eF hc1]; rfl))
      clear hc1
      refine wp_region_held_drew (S := (fun wx => wx.cell? ⟨q, 0, none⟩ = some (.string sn) ∧ wx.cell? ⟨q, 2, none⟩ = some (.int .i64 sc1) ∧ wx.cell? ⟨z, 0, none⟩ = some (.string apex))) (by kernel_rfl) (⟨HC7D.out.2.1, HC7D.out.2.2.2.1, HYD.out.w2.1⟩) (fun hHeld => ?_)
      refine Plan.of [0, 1, 2, 3, 4, 5, 6] ?_
      iterate 7 (refine Plan.w (v := ?_) rfl hHeld (by rfl) ?_ ?_; rotate_left; (focus (intro w hSw; (try dsimp only at hSw); go_simp; try with_reducible rfl)); try simp only [Act.put, List.setIfInBounds_toArray, List.set_cons_zero, List.set_cons_succ])
      refine Plan.fin ?_
      refine wpAnyH_ready (rs := [7]) (by kernel_rfl) (by simp) ?_
      refine AllReadyH.cons (o := { dst := some 30, op := Go.Op.call { callee := Go.Callee.value (Go.Operand.func 66), args := #[Go.Operand.tmp 25, Go.Operand.tmp 29], argTypes := #[9, 9] }, type := 4, pos := "zone.go:43", after := #[{ on := 2, ground := Go.Ground.data }, { on := 6, ground := Go.Ground.data }], guard := none }) rfl (fun K hK => ?_) AllReadyH.nil
      go_simp
      refine (HUN.out _).mono ?_; rintro e wy ⟨rfl, rfl⟩
      go_wp2_with fail
      refine hK.out _ _ (hHeld) (fun hHeld2 => ?_)
      clear hK K hHeld
      have hHeld := hHeld2
      clear hHeld2
      try simp only [Act.put, List.setIfInBounds_toArray, List.set_cons_zero, List.set_cons_succ]
      refine Plan.of [8, 9, 10, 11, 12, 13, 14] ?_
      iterate 7 (refine Plan.w (v := ?_) rfl hHeld (by rfl) ?_ ?_; rotate_left; (focus (intro w hSw; (try dsimp only at hSw); go_simp; try with_reducible rfl)); try simp only [Act.put, List.setIfInBounds_toArray, List.set_cons_zero, List.set_cons_succ])
      refine Plan.fin ?_
      refine wpAnyH_done (by kernel_rfl) ?_ _
      have HBX := HBWD
      clear hHeld HBD HC7D HYD HMPD
      go_wp2
      go_ret
      exact ⟨by rw [HW.out]; rfl, HBX.out⟩
  · have hkn : k = len := by omega
    subst hkn
    have HUA := Lib.hid (show ∀ t ∈ S, undB apex t = true by have h1 := hun.out; rw [List.take_of_length_le (by rw [HL.out]; exact Nat.le_refl _)] at h1; exact h1)
    have HCD := Lib.hid (show CntD D (namesN S) by have h1 := hcd.out; rw [List.take_of_length_le (by rw [HL.out]; exact Nat.le_refl _)] at h1; exact h1)
    have HMM := Lib.hid (show m = soasN S by have h1 := hm.out; rw [List.take_of_length_le (by rw [HL.out]; exact Nat.le_refl _)] at h1; exact h1)
    obtain ⟨len, hle⟩ : ∃ x, k = x := ⟨_, rfl⟩
    subst hle
    have HM0 := hmp
    have HB0 := hbw
    have HY1 := Lib.hid (HY.out.below hbw.out)
    obtain ⟨-, y1⟩ := HY1.out.w2
    clear hun hcd hm hmp hbw hlt hk HY1
    go_wp2_with fail
    clear y1
    go_loopw [62] (fun i wr => ∃ (j : Nat), j ≤ k ∧ i = .int .i64 j ∧ Hid (∀ t ∈ S.take j, cnB S t = true) ∧ Hid (wr.ownsMap Tryz.prog 9 (plainElem (H := Unit) Tryz.prog 3) mb k D) ∧ Hid (Below w.heap.size w wr)) (fun i _ => k - (intOf i).toNat)
    case atStart => exact ⟨0, Nat.zero_le _, rfl, Lib.hid (fun t ht => by simp at ht), HM0, HB0⟩
    case round =>
      obtain ⟨j, hj, rfl, hcn, hmp, hbw⟩ := hrel
      clear HM0 HB0
      by_cases hlt : j < k
      · -- a round of the second loop
        rcases (HR.out.below hbw.out).2 with h9 | ⟨b, o, rfl, hbl, hc⟩
        · omega
        obtain ⟨p, c9, hs⟩ := hc j hlt
        have hLk : S[j]? = some (S.getD j ssD) := by
          rw [List.getD_eq_getElem?_getD, List.getElem?_eq_getElem (by have := HL.out; omega)]; rfl
        obtain ⟨s, hss⟩ : ∃ s, S.getD j ssD = s := ⟨_, rfl⟩
        rw [hss] at hs hLk
        have hsz := HZN.out s (List.mem_of_getElem? hLk)
        have HMEM := Lib.hid (List.mem_of_getElem? hLk)
        have HLK := Lib.hid hLk
        obtain ⟨⟨sn, st, sc1⟩, su, sd⟩ := s
        obtain ⟨dl, hdl2⟩ : ∃ x, sd.length = x := ⟨_, rfl⟩
        obtain ⟨c0, c1, c2, c3, c4, -, -⟩ := hs
        replace c0 : wr.cell? ⟨b, o + j * 5, none⟩ = some (.string sn) := c0
        replace c1 : wr.cell? ⟨b, o + j * 5 + 1, none⟩ = some (.int .i64 st) := c1
        replace c2 : wr.cell? ⟨b, o + j * 5 + 2, none⟩ = some (.int .i64 sc1) := c2
        replace c3 : wr.cell? ⟨b, o + j * 5 + 3, none⟩ = some (.int .i64 su) := c3
        replace c4 : wr.cell? ⟨b, o + j * 5 + 4, none⟩ = some (.slice p sd.length c9) := c4
        rw [hdl2] at c4
        have HDL := Lib.hid hdl2
        replace hsz : sn.size ≤ 1000000 := hsz
        have HSN := Lib.hid hsz
        have i1 : (0 : Int) ≤ (j : Int) := by omega
        have i2 : (j : Int) < (k : Int) := by omega
        have HBA := Lib.hid ((Below.refl wr.heap.size wr).alloc (Nat.le_refl _) (.cells #[.string sn, .int .i64 st, .int .i64 sc1, .int .i64 su, .slice p dl c9] 38))
        have HC7 := Lib.hid (c5_new wr (.string sn) (.int .i64 st) (.int .i64 sc1) (.int .i64 su) (.slice p dl c9) 38)
        have HLT := Lib.hid hlt
        clear hc hss hdl2 hLk hbl hsz hlt
        have HMP1 := Lib.hid (hmp.out.kept (bel_grown HBA.out none) (by simp))
        have HBW1 := Lib.hid (hbw.out.trans (HBA.out.mono hbw.out.size))
        clear hmp hbw
        go_upto_region 14 with (fail)
        obtain ⟨w2, hw2⟩ : ∃ x, wr.alloc (.cells #[.string sn, .int .i64 st, .int .i64 sc1, .int .i64 su, .slice p dl c9] 38) = x := ⟨_, rfl⟩
        rw [hw2] at HBA HC7 HMP1 HBW1 ⊢
        clear hw2 c0 c1 c2 c3 c4
        obtain ⟨q, hq⟩ : ∃ x, wr.heap.size = x := ⟨_, rfl⟩
        rw [hq] at HC7 ⊢
        clear hq HBA
        obtain ⟨-, q0, q1, q2, q3, q4, -⟩ := HC7.out
        go_wp2_with fail
        have hba := (Below.refl w2.heap.size w2).alloc (Nat.le_refl _) (.cells #[.int .i64 5] 3)
        refine (isK ⟨sn, st, sc1⟩ _ 1 1 [5] _ (row1_lit w2 5 3) (by decide)).mono ?_; rintro e w5 ⟨rfl, hb5⟩
        have HX := Lib.hid (hba.trans (hb5.mono hba.size))
        have HB5 := Lib.hid (HBW1.out.trans (HX.out.mono HBW1.out.size))
        have HM5 := Lib.hid (HMP1.out.kept (bel_grown HX.out none) (by simp))
        have HC5 := Lib.hid (HC7.out.below HX.out)
        clear q0 q1 q2 q3 q4 hba hb5 HX HMP1 HBW1 HC7
        dsimp only
        have HCB := Lib.hid (show cnB S ⟨⟨sn, st, sc1⟩, su, sd⟩ = !(st == 5 && decide (1 < namesN S sn)) from rfl)
        by_cases h5 : st = 5
        · rw [show decide (st ∈ [5]) = true from dT (by rw [h5]; exact List.mem_singleton.2 rfl)]
          obtain ⟨cc, hrun, hat, -⟩ := HM5.out.lookup_int strKeys Tryz.underlying138 Tryz.underlying3 (zeroInt _) (keyOf_z (a := sn) (by have := HSN.out; unfold maxLen; omega))
          rw [HCD.out.2 sn] at hat
          obtain ⟨nn, hnn⟩ : ∃ x, namesN S sn = x := ⟨_, rfl⟩
          rw [hnn] at hat HCB
          obtain rfl : (nn : Int) = cc := by injection hat with h1; injection h1
          rw [show (st == 5) = true from eT h5] at HCB
          obtain ⟨-, q0, q1, q2, q3, q4, -⟩ := HC5.out
          clear hat hnn h5
          by_cases hn1 : 1 < nn
          · have d1 : decide ((1 : Int) < (nn : Int)) = true := dT (by omega)
            have HW := Lib.hid (whole_no2 (apex := apex) HMEM.out (by rw [HCB.out, dT hn1]; rfl))
            go_wp2
            go_ret
            exact ⟨by rw [HW.out]; rfl, HB5.out⟩
          · have d1 : decide ((1 : Int) < (nn : Int)) = false := dF (by omega)
            have HCA := Lib.hid (all_next (p := cnB S) hcn.out HLK.out (by rw [HCB.out, dF hn1]; rfl))
            clear hn1
            go_wp2
            go_roundw
            case rel => exact ⟨j + 1, HLT.out, by have := HLT.out; go_num, HCA, HM5, HB5⟩
            case measure => have := HLT.out; simp [intOf]; omega
        · rw [show decide (st ∈ [5]) = false from dF (fun h => h5 (List.mem_singleton.1 h))]
          have HCA := Lib.hid (all_next (p := cnB S) hcn.out HLK.out (by rw [HCB.out, show (st == 5) = false from eF h5]; rfl))
          clear h5
          go_wp2
          go_roundw
          case rel => exact ⟨j + 1, HLT.out, by have := HLT.out; go_num, HCA, HM5, HB5⟩
          case measure => have := HLT.out; simp [intOf]; omega
      · obtain rfl : j = k := by omega
        have HCA := Lib.hid (show ∀ t ∈ S, cnB S t = true by have h1 := hcn.out; rw [List.take_of_length_le (by rw [HL.out]; exact Nat.le_refl _)] at h1; exact h1)
        have HV := Lib.hid (whole_yes HUA.out HCA.out)
        have HY1 := Lib.hid (HY.out.below hbw.out)
        obtain ⟨y0, y1⟩ := HY1.out.w2
        have HB0 := hbw
        clear hcn hmp hbw HCD HUA HCA
        go_wp2_with fail
        refine (zkey_any apex 6 _).mono ?_; rintro e w2 ⟨rfl, hb2⟩
        have HB2 := Lib.hid (HB0.out.trans (hb2.mono HB0.out.size))
        have HY2 := Lib.hid (HY1.out.below hb2)
        clear hb2 y0 y1 HY1 HB0
        go_wp2_with fail
        refine (HGET.out 6 w2 HB2.out).mono ?_; rintro e w3 ⟨hf, hb3⟩
        obtain ⟨n1, t1, c1, u1, a1, l1, cc1, rfl⟩ := found_ex hf
        have HBA := Lib.hid ((Below.refl w3.heap.size w3).alloc (Nat.le_refl _) (.cells #[.string n1, .int .i64 t1, .int .i64 c1, .int .i64 u1, .slice a1 l1 cc1] 38))
        have HX := Lib.hid (hb3.trans (HBA.out.mono hb3.size))
        have HB3 := Lib.hid (HB2.out.trans (HX.out.mono HB2.out.size))
        have HY3 := Lib.hid (HY2.out.below HX.out)
        obtain ⟨v1, hv1⟩ : ∃ x, (findK S ⟨apex, 6, 1⟩).isSome = x := ⟨_, rfl⟩
        rw [hv1] at HV ⊢
        clear hf hb3 HBA HX HB2 HY2 hv1
        dsimp only
        go_upto_region 18 with (fail)
        obtain ⟨w4, hw4⟩ : ∃ x, w3.alloc (.cells #[.string n1, .int .i64 t1, .int .i64 c1, .int .i64 u1, .slice a1 l1 cc1] 38) = x := ⟨_, rfl⟩
        rw [hw4] at HB3 HY3 ⊢
        clear hw4
        obtain ⟨y0, y1⟩ := HY3.out.w2
        go_wp2_with fail
        refine (zkey_any apex 2 _).mono ?_; rintro e w5 ⟨rfl, hb5⟩
        have HB5 := Lib.hid (HB3.out.trans (hb5.mono HB3.out.size))
        clear hb5 y0 y1 HB3 HY3
        go_wp2_with fail
        refine (HGET.out 2 w5 HB5.out).mono ?_; rintro e w6 ⟨hf, hb6⟩
        obtain ⟨n2, t2, c2, u2, a2, l2, cc2, rfl⟩ := found_ex hf
        have HBA := Lib.hid ((Below.refl w6.heap.size w6).alloc (Nat.le_refl _) (.cells #[.string n2, .int .i64 t2, .int .i64 c2, .int .i64 u2, .slice a2 l2 cc2] 38))
        have HX := Lib.hid (hb6.trans (HBA.out.mono hb6.size))
        have HB6 := Lib.hid (HB5.out.trans (HX.out.mono HB5.out.size))
        obtain ⟨v2, hv2⟩ : ∃ x, (findK S ⟨apex, 2, 1⟩).isSome = x := ⟨_, rfl⟩
        rw [hv2] at HV ⊢
        rw [← HMM.out] at HV
        clear hf hb6 HBA HX HB5 hv2
        dsimp only
        cases v1
        · go_wp2
          go_ret
          exact ⟨by rw [HV.out]; rfl, HB6.out⟩
        cases v2
        · go_wp2
          go_ret
          exact ⟨by rw [HV.out]; rfl, HB6.out⟩
        by_cases hm1 : m = 1
        · have e1 : ((m : Int) == 1) = true := eT (by omega)
          go_wp2
          go_ret
          exact ⟨by rw [HV.out, hm1]; rfl, HB6.out⟩
        · have e1 : ((m : Int) == 1) = false := eF (by omega)
          go_wp2
          go_ret
          exact ⟨by rw [HV.out, show (m == 1) = false from beq_eq_false_iff_ne.2 hm1]; rfl, HB6.out⟩
end Go.Proofs.YthfnphcefkdgbaaGreat
end
