/- ZoneBack, plain: a zone of a zone's records. -/
import Derived.Test.YtfopfplpfhncfaaGreatZnI
namespace Go.Proofs.YtfopfplpfhncfaaGreat
open Go.RowKit

theorem mayR5_iff (r : R5) : mayR5 r = true ↔ (r.k.t ≠ 41 ∧ r.k.t ≠ 252 ∧ r.k.t ≠ 255) ∧ mayN r.k.n = true ∧ (0 ≤ r.k.c ∧ r.k.c ≤ 65535) ∧ (0 ≤ r.ttl ∧ r.ttl ≤ 2147483647) ∧ mayD r.k.t r.d = true := by
  simp only [mayR5, mayR, Bool.and_eq_true, decide_eq_true_eq]
theorem back_may {l : List R5} {S : List SetP} (hc : Canon l S) (hm : ∀ r ∈ l, mayR5 r = true) : ∀ r ∈ flatP S, mayR5 r = true := by
  intro r hr
  obtain ⟨s, hs, h1, h2, h3⟩ := mem_flatP.1 hr
  obtain ⟨⟨r1, hr1, g1, g2⟩, -⟩ := hc.low s hs
  obtain ⟨r3, hr3, k1, k2⟩ := (hc.mem s.k r.d).1 ⟨s, hs, rfl, h3⟩
  have m1 := (mayR5_iff r1).1 (hm r1 hr1)
  have m3 := (mayR5_iff r3).1 (hm r3 hr3)
  rw [g1, g2] at m1
  rw [k1, k2] at m3
  rw [mayR5_iff, h1, h2]
  exact ⟨m1.1, m1.2.1, m1.2.2.1, m1.2.2.2.1, m3.2.2.2.2⟩
theorem newR_back {w w1 w' : World} {z : Nat} {apex : ByteArray} {l : List R5} {S : List SetP} {e : Ending} (h : ZOk w z apex l S) (hn : NewR apex (flatP S) w1 e w') : (∃ z2, e = .returned (.tuple #[.pointer (some ⟨z2, 0, none⟩), .int .i64 0]) ∧ ZnAt w' z2 apex S) ∧ Below w1.heap.size w1 w' := by
  obtain ⟨hn, hb⟩ := hn
  refine ⟨?_, hb⟩
  rcases hn with ⟨hx, _⟩ | ⟨h1, ⟨⟨r, hr, hx⟩, _⟩ | ⟨h2, ⟨hx, _⟩ | ⟨h3, S2, hc, hs, hl, ⟨hx, _⟩ | ⟨hw, z2, rfl, hz, hza⟩⟩⟩⟩
  · rw [h.name] at hx; cases hx
  · rw [back_may h.canon h.may r hr] at hx; cases hx
  · rw [flatP_length] at hx; have := h.sum; have := h.few; omega
  · rw [canon_same hc h.canon.flat, h.whole] at hx; cases hx
  · rw [canon_same hc h.canon.flat] at hza
    exact ⟨z2, rfl, hza⟩
theorem whole_parts {apex : ByteArray} {S : List SetP} (h : wholeB apex S = true) : (∀ s ∈ S, undS s.k.n apex = true ∧ s.k.c = 1) ∧ (∀ s ∈ S, cnB S s = true) ∧ (∃ s, findK S ⟨apex, 6, 1⟩ = some s) ∧ (∃ s, findK S ⟨apex, 2, 1⟩ = some s) ∧ soasN S = 1 := by
  rw [wholeB, Bool.and_eq_true, Bool.and_eq_true, Bool.and_eq_true, Bool.and_eq_true] at h
  obtain ⟨h1, h2, h3, h4, h5⟩ := h
  refine ⟨fun s hs => ?_, fun s hs => List.all_eq_true.1 h2 s hs, Option.isSome_iff_exists.1 h3, Option.isSome_iff_exists.1 h4, by simpa using h5⟩
  have := List.all_eq_true.1 h1 s hs
  rw [Bool.and_eq_true] at this
  exact ⟨this.1, by simpa using this.2⟩
theorem find_mem {S : List SetP} {k : Ky} {s : SetP} (h : findK S k = some s) : s ∈ S := List.mem_of_find?_eq_some h
theorem find_key {S : List SetP} {k : Ky} {s : SetP} (h : findK S k = some s) : s.k = k := by
  rw [findK] at h
  have := List.find?_some h
  simpa using this
theorem soas_ge {S : List SetP} {s : SetP} (h : s ∈ S) (ht : s.k.t = 6) : s.data.length ≤ soasN S := by
  induction S with
  | nil => cases h
  | cons t S ih =>
    rw [soasN]
    rcases List.mem_cons.1 h with rfl | h
    · rw [if_pos ht]; omega
    · have := ih h; omega
theorem soa_one {w : World} {z : Nat} {apex : ByteArray} {l : List R5} {S : List SetP} (h : ZOk w z apex l S) : ∃ s0 d0, findK S ⟨apex, 6, 1⟩ = some s0 ∧ s0.data = [d0] ∧ soaOk d0 = true ∧ d0.size ≤ 1000000 := by
  obtain ⟨-, -, ⟨s0, hs0⟩, -, h1⟩ := whole_parts h.whole
  have hk := find_key hs0
  have hm := find_mem hs0
  have hle := soas_ge hm (by rw [hk])
  have hne := h.canon.non s0 hm
  obtain ⟨d0, D, hd⟩ : ∃ d0 D, s0.data = d0 :: D := List.exists_cons_of_ne_nil hne
  have hD : D = [] := by
    rw [hd, h1, List.length_cons] at hle
    exact List.eq_nil_of_length_eq_zero (by omega)
  rw [hD] at hd
  obtain ⟨r, hr, g1, g2⟩ := (h.canon.mem s0.k d0).1 ⟨s0, hm, rfl, by rw [hd]; exact List.mem_singleton.2 rfl⟩
  have hmay := ((mayR5_iff r).1 (h.may r hr)).2.2.2.2
  rw [g1, g2, hk, mayD_6] at hmay
  exact ⟨s0, d0, hs0, hd, hmay, by have := soaOk_size hmay; omega⟩
theorem eqB_refl0 (a : ByteArray) : (a.toList == a.toList) = true := by simp
theorem und_refl {n : ByteArray} (h : mayN n = true) : undS n n = true := by rw [undS, h, undL_refl]; rfl
theorem there_of {w : World} {z : Nat} {apex : ByteArray} {l : List R5} {S : List SetP} (h : ZOk w z apex l S) {r : R5} (hr : r ∈ l) : (undS r.k.n apex && thereP S r.k.n) = true := by
  obtain ⟨s, hs, hm, hk, -⟩ := h.canon.found hr
  have h1 := ((whole_parts h.whole).1 s hm).1
  rw [hk] at h1
  rw [h1, Bool.true_and]
  exact List.any_eq_true.2 ⟨s, hm, by rw [hk]; exact und_refl (mayR5_n (h.may r hr))⟩
theorem soa_equal (a b : ByteArray) (x1 x2 x3 x4 x5 : Int) (W : World) : (binOp .eql 56 (.agg #[.string a, .string b, .int .i64 x1, .int .i64 x2, .int .i64 x3, .int .i64 x4, .int .i64 x5]) (.agg #[.string a, .string b, .int .i64 x1, .int .i64 x2, .int .i64 x3, .int .i64 x4, .int .i64 x5])).run Tryz.prog W = .ok (.bool true) W := by
  have u3 := Tryz.underlying3
  have a3 := Tryz.isAgg3
  have z3 := Tryz.sizeOf3
  have u9 := Tryz.underlying9
  have a9 := Tryz.isAgg9
  have z9 := Tryz.sizeOf9
  have hS : Tryz.prog.underlying 56 = some (.struct (Tryz.prog.fieldsOf 56)) := by
    simp [Program.fieldsOf, Tryz.underlying56]
  rw [run_eql_struct, show (10000 : Nat) = 9999 + 1 from rfl, run_equalIn_agg W 9999 56 _ _ hS (by kernel_rfl)]
  simp only [Program.fieldsOf, Tryz.underlying56]
  go_simp
/-- Sets of a call's own, whatever their data say. -/
def OwnW (w : World) (B : Nat) (v : Value) (L : List (SetP × Value)) : Prop := w.ownsRow B 38 5 v L.length (flatS L) ∧ ∀ p ∈ L, ∃ n xs, w.ownsRow B 9 1 p.2 n xs
theorem OwnW.of {w : World} {B : Nat} {v : Value} {L : List (SetP × Value)} (h : OwnSets w B v L) : OwnW w B v L := ⟨h.1, fun p hp => ⟨_, _, h.2.1 p hp⟩⟩
theorem flatS_ttl (x : Int) : ∀ (L : List (SetP × Value)) (k : Nat) (p : SetP × Value), L[k]? = some p → (flatS L).set (k * 5 + 3) (.int .i64 x) = flatS (L.set k ({ p.1 with ttl := x }, p.2)) := by
  intro L
  induction L with
  | nil => intro k p hk; cases hk
  | cons y L ih =>
    intro k p hk
    have h1 : ∀ y L, flatS (y :: L) = .string y.1.k.n :: .int .i64 y.1.k.t :: .int .i64 y.1.k.c :: .int .i64 y.1.ttl :: y.2 :: flatS L := fun y L => rfl
    cases k with
    | zero =>
      obtain rfl := Option.some.inj hk
      rw [h1]; rfl
    | succ k =>
      rw [List.set_cons_succ, h1, h1, ← ih k p (by simpa using hk)]
      rw [show (k + 1) * 5 + 3 = k * 5 + 3 + 5 by omega]
      simp only [List.set_cons_succ]
theorem OwnW.ttl {w : World} {B g n c : Nat} {L : List (SetP × Value)} (h : OwnW w B (.slice (some ⟨g, 0, none⟩) n c) L) {k : Nat} {p : SetP × Value} (hn : L.length = n) (hk : L[k]? = some p) (x : Int) : OwnW (w.setCell ⟨g, k * 5 + 3, none⟩ (.int .i64 x)) B (.slice (some ⟨g, 0, none⟩) n c) (L.set k ({ p.1 with ttl := x }, p.2)) := by
  refine ⟨?_, fun q hq => ?_⟩
  · have h0 := h.1
    rw [hn] at h0
    have h1 := (h0.stored (k * 5 + 3) (.int .i64 x)).1
    rw [flatS_ttl x L k p hk] at h1
    rw [List.length_set, hn]; exact h1
  · obtain ⟨m, xs, ho⟩ : ∃ n xs, w.ownsRow B 9 1 q.2 n xs := by
      rcases List.mem_or_eq_of_mem_set hq with h1 | rfl
      · exact h.2 q h1
      · exact h.2 p (List.mem_of_getElem? hk)
    exact ⟨m, xs, ho.kept (grown_cell w g (k * 5 + 3) (.int .i64 x)) (own_ne2 (by decide) ho h.1)⟩
theorem OwnW.spoil {w : World} {B g g2 n c m c2 : Nat} {L : List (SetP × Value)} {xs : List Value} (h : OwnW w B (.slice (some ⟨g, 0, none⟩) n c) L) (h2 : w.ownsRow B 9 1 (.slice (some ⟨g2, 0, none⟩) m c2) m xs) (x : Value) : OwnW (w.setCell ⟨g2, 0, none⟩ x) B (.slice (some ⟨g, 0, none⟩) n c) L := by
  refine ⟨h.1.kept (grown_cell w g2 0 x) (own_ne2 (by decide) h.1 h2), fun q hq => ?_⟩
  obtain ⟨m', xs', ho⟩ := h.2 q hq
  rcases ho.2 with ⟨e, h0⟩ | ⟨g', cap, cur, e, hB, hcur, rest⟩
  · rw [e]
    exact ⟨0, [], World.ownsRow_nil _ _ _ _⟩
  · rw [e] at ho ⊢
    by_cases eg : g' = g2
    · rw [← eg]
      exact ⟨m', _, (ho.stored 0 x).1⟩
    · exact ⟨m', xs', ho.kept (grown_cell w g2 0 x) (Or.inr (by simp [Value.ownBlock]; exact fun e2 => eg e2))⟩
end Go.Proofs.YtfopfplpfhncfaaGreat
