/- Keys and records, plain; contracts of cmp.Or, sets.KeyOf, Key.Compare, the order of Group. -/
import Derived.Test.YtgdhbelcellabaaCpD
import Derived.Test.YtgdhbelcellabaaMgA
import Derived.Deep.RegionHeld3
namespace Go.Proofs.Ytgdhbelcellabaa
open Go.RowKit

/-- A key. -/
structure Ky where
  n : ByteArray
  t : Int
  c : Int
/-- A record. -/
structure R5 where
  k : Ky
  ttl : Int
  d : ByteArray
def encK (k : Ky) : List Value := [.string k.n, .int .i64 k.t, .int .i64 k.c]
def encR (r : R5) : List Value := [.string r.k.n, .int .i64 r.k.t, .int .i64 r.k.c, .int .i64 r.ttl, .string r.d]
/-- The first that is not 0. -/
def orI : List Int → Int
  | [] => 0
  | x :: l => if x = 0 then orI l else x
noncomputable def kcmp (a b : Ky) : Int := orI [cmpS a.n b.n, Lib.compareInt a.c b.c, Lib.compareInt a.t b.t]
noncomputable def rcmp (a b : R5) : Int := orI [kcmp a.k b.k, cmpB a.d b.d]

set_option maxRecDepth 100000 in
theorem or_any (a : Option Addr) (n c : Nat) (l : List Int) (w : World) (h : Row w a n l) (hn : n ≤ 1000) : Calls Try.prog 60 #[.slice a n c] w fun e w' => e = .returned (.int .i64 (orI l)) ∧ w = w' := by
  have HR := Lib.hid h
  have HL := Lib.hid h.1
  clear h
  go_enter Try.func60, Try.ntmps60
  go_wp2_with fail
  go_loopw [8] (fun i wr => ∃ k : Nat, k ≤ n ∧ i = .int .i64 k ∧ Hid (orI l = orI (l.drop k)) ∧ w = wr) (fun i _ => n - (intOf i).toNat)
  case atStart => exact ⟨0, Nat.zero_le _, rfl, rfl, rfl⟩
  case round =>
    obtain ⟨k, hk, rfl, ho, rfl⟩ := hrel
    by_cases hlt : k < n
    · rcases HR.out.2 with h0 | ⟨b, off, rfl, hb, hc⟩
      · omega
      have c0 := hc k hlt
      have hd : l.drop k = l.getD k 0 :: l.drop (k + 1) := by
        rw [List.drop_eq_getElem_cons (by have := HL.out; omega), List.getD_eq_getElem?_getD, List.getElem?_eq_getElem (by have := HL.out; omega)]
        rfl
      have ho2 := ho.out
      rw [hd, orI] at ho2
      obtain ⟨x, hx⟩ : ∃ x, l.getD k 0 = x := ⟨_, rfl⟩
      rw [hx] at c0 ho2
      clear hc hd hx
      by_cases hx0 : x = 0
      · subst hx0
        rw [if_pos rfl] at ho2
        have HO2 := Lib.hid ho2
        clear ho2 ho
        go_wp2
        go_roundw
        case rel => exact ⟨k + 1, by omega, by go_num, HO2.out, trivial⟩
        case measure => simp [intOf]; omega
      · rw [if_neg hx0] at ho2
        have HO2 := Lib.hid ho2
        have e0 : (x != 0) = true := nT hx0
        clear ho2 ho hx0
        go_wp2
        go_ret
        exact ⟨ret_int HO2.out.symm, rfl⟩
    · have hkn : k = n := by omega
      have HO := Lib.hid (show orI l = 0 by rw [ho.out, hkn, ← HL.out, List.drop_length]; rfl)
      subst hkn
      clear ho
      go_wp2
      go_ret
      exact ⟨ret_int HO.out.symm, rfl⟩

set_option maxRecDepth 100000 in
theorem keyOf_any (r : R5) (w : World) : Calls Try.prog 18 #[.agg #[.string r.k.n, .int .i64 r.k.t, .int .i64 r.k.c, .int .i64 r.ttl, .string r.d]] w fun e w' => e = .returned (.agg #[.string r.k.n, .int .i64 r.k.t, .int .i64 r.k.c]) ∧ BelD w.heap.size w w' := by
  obtain ⟨⟨n, t, c⟩, ttl, d⟩ := r
  go_enter Try.func18, Try.ntmps18
  go_wp2
  refine bodyPost_ret (v := .agg #[.string n, .int .i64 t, .int .i64 c]) (by simp [results, Try.results18, go_sem]) rfl ⟨rfl, ?_⟩
  repeat (first | exact BelD.refl _ _ | apply BelD.drew | refine BelD.alloc ?_ (by simp) _ | refine BelD.setCell ?_ (by simp) _)

def KyAt (w : World) (q : Nat) (k : Ky) : Prop := q < w.heap.size ∧ w.cell? ⟨q, 0, none⟩ = some (.string k.n) ∧ w.cell? ⟨q, 1, none⟩ = some (.int .i64 k.t) ∧ w.cell? ⟨q, 2, none⟩ = some (.int .i64 k.c)
theorem KyAt.below {w w' : World} {q : Nat} {k : Ky} (h : KyAt w q k) (hb : Below w.heap.size w w') : KyAt w' q k := by
  obtain ⟨h0, h1, h2, h3⟩ := h
  exact ⟨Nat.lt_of_lt_of_le h0 hb.size, (hb.cell h0).trans h1, (hb.cell h0).trans h2, (hb.cell h0).trans h3⟩
theorem row2_lit (w : World) (x y : Int) (T : TypeId) : Row (w.alloc (.cells #[.int .i64 x, .int .i64 y] T)) (some ⟨w.heap.size, 0, none⟩) 2 [x, y] := by
  refine ⟨rfl, Or.inr ⟨_, 0, rfl, by simp, fun j hj => ?_⟩⟩
  match j, hj with
  | 0, _ => simp [World.cell?_alloc_at]
  | 1, _ => simp [World.cell?_alloc_at]
theorem row3_lit (w : World) (x y z : Int) (T : TypeId) : Row (w.alloc (.cells #[.int .i64 x, .int .i64 y, .int .i64 z] T)) (some ⟨w.heap.size, 0, none⟩) 3 [x, y, z] := by
  refine ⟨rfl, Or.inr ⟨_, 0, rfl, by simp, fun j hj => ?_⟩⟩
  match j, hj with
  | 0, _ => simp [World.cell?_alloc_at]
  | 1, _ => simp [World.cell?_alloc_at]
  | 2, _ => simp [World.cell?_alloc_at]
def KP (w : World) (q1 q2 : Nat) (a b : Ky) (wx : World) : Prop := BelD w.heap.size w wx ∧ KyAt wx q1 a ∧ KyAt wx q2 b
theorem KP.shown {w wx : World} {q1 q2 : Nat} {a b : Ky} (h : KP w q1 q2 a b wx) : Hid (KP w q1 q2 a b wx) ∧ wx.cell? ⟨q1, 0, none⟩ = some (.string a.n) ∧ wx.cell? ⟨q1, 1, none⟩ = some (.int .i64 a.t) ∧ wx.cell? ⟨q1, 2, none⟩ = some (.int .i64 a.c) ∧ wx.cell? ⟨q2, 0, none⟩ = some (.string b.n) ∧ wx.cell? ⟨q2, 1, none⟩ = some (.int .i64 b.t) ∧ wx.cell? ⟨q2, 2, none⟩ = some (.int .i64 b.c) :=
  ⟨h, h.2.1.2.1, h.2.1.2.2.1, h.2.1.2.2.2, h.2.2.2.1, h.2.2.2.2.1, h.2.2.2.2.2⟩
theorem KP.next {w wx wy : World} {q1 q2 : Nat} {a b : Ky} (hb : BelD wx.heap.size wx wy) (h : Hid (KP w q1 q2 a b wx) ∧ wx.cell? ⟨q1, 0, none⟩ = some (.string a.n) ∧ wx.cell? ⟨q1, 1, none⟩ = some (.int .i64 a.t) ∧ wx.cell? ⟨q1, 2, none⟩ = some (.int .i64 a.c) ∧ wx.cell? ⟨q2, 0, none⟩ = some (.string b.n) ∧ wx.cell? ⟨q2, 1, none⟩ = some (.int .i64 b.t) ∧ wx.cell? ⟨q2, 2, none⟩ = some (.int .i64 b.c)) : Hid (KP w q1 q2 a b wy) ∧ wy.cell? ⟨q1, 0, none⟩ = some (.string a.n) ∧ wy.cell? ⟨q1, 1, none⟩ = some (.int .i64 a.t) ∧ wy.cell? ⟨q1, 2, none⟩ = some (.int .i64 a.c) ∧ wy.cell? ⟨q2, 0, none⟩ = some (.string b.n) ∧ wy.cell? ⟨q2, 1, none⟩ = some (.int .i64 b.t) ∧ wy.cell? ⟨q2, 2, none⟩ = some (.int .i64 b.c) :=
  have h0 := h.1.out
  KP.shown ⟨h0.1.trans (hb.mono h0.1.size), h0.2.1.below hb.b, h0.2.2.below hb.b⟩

theorem KP.get {w wx : World} {q1 q2 : Nat} {a b : Ky} (h : Hid (KP w q1 q2 a b wx) ∧ wx.cell? ⟨q1, 0, none⟩ = some (.string a.n) ∧ wx.cell? ⟨q1, 1, none⟩ = some (.int .i64 a.t) ∧ wx.cell? ⟨q1, 2, none⟩ = some (.int .i64 a.c) ∧ wx.cell? ⟨q2, 0, none⟩ = some (.string b.n) ∧ wx.cell? ⟨q2, 1, none⟩ = some (.int .i64 b.t) ∧ wx.cell? ⟨q2, 2, none⟩ = some (.int .i64 b.c)) : BelD w.heap.size w wx := h.1.out.1
theorem kyAt_new (w : World) (k : Ky) (T : TypeId) : KyAt (w.alloc (.cells #[.string k.n, .int .i64 k.t, .int .i64 k.c] T)) w.heap.size k := ⟨by simp, by simp [World.cell?_alloc_at], by simp [World.cell?_alloc_at], by simp [World.cell?_alloc_at]⟩

set_option maxRecDepth 100000 in
set_option maxHeartbeats 4000000 in
theorem kcompare_any (a b : Ky) (w : World) (ha : a.n.size ≤ 1000000) (hb : b.n.size ≤ 1000000) : Calls Try.prog 32 #[.agg #[.string a.n, .int .i64 a.t, .int .i64 a.c], .agg #[.string b.n, .int .i64 b.t, .int .i64 b.c]] w fun e w' => e = .returned (.int .i64 (kcmp a b)) ∧ BelD w.heap.size w w' := by
  obtain ⟨an, at', ac⟩ := a
  obtain ⟨bn, bt, bc'⟩ := b
  have HV := Lib.hid (show kcmp ⟨an, at', ac⟩ ⟨bn, bt, bc'⟩ = orI [cmpS an bn, Lib.compareInt ac bc', Lib.compareInt at' bt] from rfl)
  have HC := Lib.hid (fun wx => compareD_any an bn wx ha hb)
  obtain ⟨v1, hv1⟩ : ∃ x, cmpS an bn = x := ⟨_, rfl⟩
  have HI2 := Lib.hid (fun wx => icompare_any ac bc' wx)
  have HI3 := Lib.hid (fun wx => icompare_any at' bt wx)
  obtain ⟨v2, hv2⟩ : ∃ x, Lib.compareInt ac bc' = x := ⟨_, rfl⟩
  obtain ⟨v3, hv3⟩ : ∃ x, Lib.compareInt at' bt = x := ⟨_, rfl⟩
  rw [hv1, hv2, hv3] at HV
  rw [hv1] at HC
  rw [hv2] at HI2
  rw [hv3] at HI3
  clear hv1 hv2 hv3 ha hb
  go_enter Try.func32, Try.ntmps32
  go_wp2_with fail
  have hK0 : KP w w.heap.size (w.heap.size + 1) ⟨an, at', ac⟩ ⟨bn, bt, bc'⟩ ((w.alloc (.cells #[.string an, .int .i64 at', .int .i64 ac] 36)).alloc (.cells #[.string bn, .int .i64 bt, .int .i64 bc'] 36)) := by
    refine ⟨((BelD.refl _ _).alloc (Nat.le_refl _) _).alloc (by simp) _, (kyAt_new w ⟨an, at', ac⟩ _).below ((Below.refl _ _).alloc (Nat.le_refl _) _), ?_⟩
    have h := kyAt_new (w.alloc (.cells #[.string an, .int .i64 at', .int .i64 ac] 36)) ⟨bn, bt, bc'⟩ 36
    rw [World.size_alloc] at h
    exact h
  obtain ⟨w2, hw2⟩ : ∃ x, ((w.alloc (.cells #[.string an, .int .i64 at', .int .i64 ac] 36)).alloc (.cells #[.string bn, .int .i64 bt, .int .i64 bc'] 36)) = x := ⟨_, rfl⟩
  rw [hw2] at hK0 ⊢
  obtain ⟨q2, hq2⟩ : ∃ q, w.heap.size + 1 = q := ⟨_, rfl⟩
  obtain ⟨q1, hq1⟩ : ∃ q, w.heap.size = q := ⟨_, rfl⟩
  rw [hq2] at hK0 ⊢
  have hK1 : KP w q1 q2 ⟨an, at', ac⟩ ⟨bn, bt, bc'⟩ w2 := by rw [← hq1]; exact hK0
  have HK := Lib.hid (KP.next ((BelD.refl w2.heap.size w2).drew) (KP.shown hK1))
  have HE := Lib.hid hq1
  rw [show (Value.pointer (some { block := w.heap.size, off := 0 })) = Value.pointer (some { block := q1, off := 0 }) by rw [hq1]]
  clear hK0 hK1 hw2 hq2 hq1
  go_region_held3 (fun wx => Hid (KP w q1 q2 ⟨an, at', ac⟩ ⟨bn, bt, bc'⟩ wx) ∧ wx.cell? ⟨q1, 0, none⟩ = some (.string an) ∧ wx.cell? ⟨q1, 1, none⟩ = some (.int .i64 at') ∧ wx.cell? ⟨q1, 2, none⟩ = some (.int .i64 ac) ∧ wx.cell? ⟨q2, 0, none⟩ = some (.string bn) ∧ wx.cell? ⟨q2, 1, none⟩ = some (.int .i64 bt) ∧ wx.cell? ⟨q2, 2, none⟩ = some (.int .i64 bc')) (first | (exact HK.out) | assumption | (refine KP.next hb ?_; assumption) | (refine KP.next ((BelD.refl _ _).alloc (Nat.le_refl _) _) ?_; assumption))
    (first
      | (go_at_call 61; refine (HC.out _).mono ?_; rintro e wy ⟨rfl, hb⟩)
      | (go_at_call 62; first | (with_reducible refine (HI2.out _).mono ?_; rintro e wy ⟨rfl, rfl⟩) | (with_reducible refine (HI3.out _).mono ?_; rintro e wy ⟨rfl, rfl⟩))
      | (go_at_call 60; refine (or_any _ 3 3 [v1, v2, v3] _ (row3_lit _ _ _ _ _) (by omega)).mono ?_; rintro e wy ⟨rfl, rfl⟩))
  all_goals
    go_wp2
    go_ret
    refine ⟨ret_int HV.out.symm, KP.get (q1 := q1) (q2 := q2) (a := ⟨an, at', ac⟩) (b := ⟨bn, bt, bc'⟩) ?_⟩
    assumption
end Go.Proofs.Ytgdhbelcellabaa
