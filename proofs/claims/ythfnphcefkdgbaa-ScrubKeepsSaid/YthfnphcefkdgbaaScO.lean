/- What an answer says, as it lies in memory: ranked sets in blocks from B on. -/
import Derived.Test.YthfnphcefkdgbaaScW
namespace Go.Proofs.Ythfnphcefkdgbaa
open Go.RowKit

def encTk (p : (SetP × Value) × Int) : List Value := encS p.1 ++ [.int .i64 p.2]
def flatT (L : List ((SetP × Value) × Int)) : List Value := L.flatMap encTk
theorem encTk_len (p : (SetP × Value) × Int) : (encTk p).length = 6 := rfl
theorem flatT_len (L : List ((SetP × Value) × Int)) : (flatT L).length = L.length * 6 := by
  induction L with
  | nil => rfl
  | cons x l ih => rw [flatT, List.flatMap_cons, List.length_append, encTk_len]; show 6 + (flatT l).length = _; rw [ih, List.length_cons]; omega
theorem flatT_append (A B : List ((SetP × Value) × Int)) : flatT (A ++ B) = flatT A ++ flatT B := List.flatMap_append
def fstT (p : (SetP × Value) × Int) : SetP × Int := (p.1.1, p.2)
/-- Ranked sets that lie in blocks from B on. -/
def RkUp (w : World) (B : Nat) (a : Option Addr) (n : Nat) (L : List (SetP × Int)) : Prop :=
  ∃ Lp : List ((SetP × Value) × Int), Lp.map fstT = L ∧ Lp.length = n ∧ (n = 0 ∨ ∃ g, a = some ⟨g, 0, none⟩ ∧ B ≤ g ∧ g < w.heap.size ∧ ∀ j u, (flatT Lp)[j]? = some u → w.cell? ⟨g, 0 + j, none⟩ = some u) ∧ ∀ p ∈ Lp, w.ownsRow B 9 1 p.1.2 p.1.1.data.length (sc p.1.1.data)
theorem RkUp.below {w w' : World} {B n : Nat} {a : Option Addr} {L : List (SetP × Int)} (h : RkUp w B a n L) (hb : Below w.heap.size w w') : RkUp w' B a n L := by
  obtain ⟨Lp, h1, h2, h3, h4⟩ := h
  refine ⟨Lp, h1, h2, ?_, fun p hp => own_below' (h4 p hp) hb⟩
  rcases h3 with h3 | ⟨g, h5, h6, h7, h8⟩
  · exact Or.inl h3
  · exact Or.inr ⟨g, h5, h6, Nat.lt_of_lt_of_le h7 hb.size, fun j u hj => cell_later4 hb (h8 j u hj)⟩
theorem RkUp.far {w w' : World} {B n q : Nat} {a : Option Addr} {L : List (SetP × Int)} (h : RkUp w B a n L) (hg : w.grownBy w' (some q)) (hq : q < B) : RkUp w' B a n L := by
  obtain ⟨Lp, h1, h2, h3, h4⟩ := h
  refine ⟨Lp, h1, h2, ?_, fun p hp => own_apart7 (h4 p hp) hg (fun k hk e => by injection e with e; have := ((h4 p hp).lt k hk).1; omega)⟩
  rcases h3 with h3 | ⟨g, h5, h6, h7, h8⟩
  · exact Or.inl h3
  · exact Or.inr ⟨g, h5, h6, Nat.lt_of_lt_of_le h7 hg.size, fun j u hj => hg.cell (h8 j u hj) (fun e => absurd (Option.some.inj e) (show ¬ g = q by omega))⟩
theorem RkUp.mono {w : World} {A B n : Nat} {a : Option Addr} {L : List (SetP × Int)} (h : RkUp w B a n L) (hA : A ≤ B) : RkUp w A a n L := by
  obtain ⟨Lp, h1, h2, h3, h4⟩ := h
  refine ⟨Lp, h1, h2, ?_, fun p hp => own_mono4 (h4 p hp) hA⟩
  rcases h3 with h3 | ⟨g, h5, h6, h7, h8⟩
  · exact Or.inl h3
  · exact Or.inr ⟨g, h5, Nat.le_trans hA h6, h7, h8⟩
theorem RkUp.nil (w : World) (B : Nat) (a : Option Addr) : RkUp w B a 0 [] := ⟨[], rfl, rfl, Or.inl rfl, fun p hp => by cases hp⟩
theorem RkUp.one {w : World} {B : Nat} {sn : ByteArray} {st sk su : Int} {sd : List ByteArray} {dv : Value} {dl : Nat} (rk : Int) (hd : sd.length = dl) (ho : w.ownsRow B 9 1 dv dl (sc sd)) (hB : B ≤ w.heap.size) : RkUp (w.alloc (.cells #[.string sn, .int .i64 st, .int .i64 sk, .int .i64 su, dv, .int .i64 rk] 85)) B (some ⟨w.heap.size, 0, none⟩) 1 [(⟨⟨sn, st, sk⟩, su, sd⟩, rk)] := by
  subst hd
  refine ⟨[((⟨⟨sn, st, sk⟩, su, sd⟩, dv), rk)], rfl, rfl, Or.inr ⟨_, rfl, hB, by simp, ?_⟩, fun p hp => ?_⟩
  · rcases (cells_lit w #[.string sn, .int .i64 st, .int .i64 sk, .int .i64 su, dv, .int .i64 rk] 85).2 with h | ⟨b, off, h1, h2, h3⟩
    · cases h
    · injection h1 with h1
      injection h1 with h1 h4
      subst h1 h4
      exact h3
  · obtain rfl := List.mem_singleton.1 hp
    exact own_below' ho ((Below.refl w.heap.size w).alloc (Nat.le_refl _) _)
theorem RkUp.own {w : World} {B n : Nat} {v : Value} {Lp : List ((SetP × Value) × Int)} (h : w.ownsRow B 85 6 v n (flatT Lp)) (hn : Lp.length = n) (hd : ∀ p ∈ Lp, w.ownsRow B 9 1 p.1.2 p.1.1.data.length (sc p.1.1.data)) : ∃ a c, v = .slice a n c ∧ RkUp w B a n (Lp.map fstT) ∧ (a = none → n = 0 ∧ c = 0) := by
  rcases h.2 with ⟨rfl, h0⟩ | ⟨g, cap, cur, rfl, hb, hg, hnc, hcm, hcs, htake⟩
  · exact ⟨none, 0, by rw [h0], ⟨Lp, rfl, hn, Or.inl h0, hd⟩, fun _ => ⟨h0, rfl⟩⟩
  · refine ⟨some ⟨g, 0, none⟩, cap, rfl, ⟨Lp, rfl, hn, Or.inr ⟨g, rfl, hb, (h.lt g rfl).2, fun j u hj => by rw [Nat.zero_add]; exact ownsRow_at h j u hj⟩, hd⟩, (fun e => by cases e)⟩
/-- One ranked set as it lies. -/
def RkC (w : World) (b o : Nat) (p : SetP × Int) : Prop := ∃ a c, w.cell? ⟨b, o, none⟩ = some (.string p.1.k.n) ∧ w.cell? ⟨b, o + 1, none⟩ = some (.int .i64 p.1.k.t) ∧ w.cell? ⟨b, o + 2, none⟩ = some (.int .i64 p.1.k.c) ∧ w.cell? ⟨b, o + 3, none⟩ = some (.int .i64 p.1.ttl) ∧ w.cell? ⟨b, o + 4, none⟩ = some (.slice a p.1.data.length c) ∧ w.cell? ⟨b, o + 5, none⟩ = some (.int .i64 p.2) ∧ RowS w a p.1.data.length p.1.data ∧ (a = none → p.1.data.length = 0 ∧ c = 0)
theorem RkUp.at {w : World} {B n : Nat} {a : Option Addr} {L : List (SetP × Int)} (h : RkUp w B a n L) (k : Nat) (hk : k < n) : ∃ g p, a = some ⟨g, 0, none⟩ ∧ g < w.heap.size ∧ L[k]? = some p ∧ RkC w g (k * 6) p := by
  obtain ⟨Lp, h1, h2, h3, h4⟩ := h
  rcases h3 with h3 | ⟨g, h5, h6, h7, h8⟩
  · omega
  obtain ⟨p, hp⟩ : ∃ p, Lp[k]? = some p := ⟨Lp[k]'(by omega), List.getElem?_eq_getElem (by omega)⟩
  have hg : ∀ i, i < 6 → ∀ u, (encTk p)[i]? = some u → w.cell? ⟨g, k * 6 + i, none⟩ = some u := fun i hi u hu => by
    have := h8 (k * 6 + i) u (by
      rw [flatT, flatMap_get encTk 6 encTk_len (by omega), show (k * 6 + i) / 6 = k by omega, show (k * 6 + i) % 6 = i by omega, hp]
      exact hu)
    rw [Nat.zero_add] at this; exact this
  obtain ⟨a', c', he, hr, hn⟩ := rowS_of_own (h4 p (List.mem_of_getElem? hp))
  exact ⟨g, fstT p, h5, h7, by rw [← h1, List.getElem?_map, hp]; rfl, a', c', hg 0 (by omega) _ rfl, hg 1 (by omega) _ rfl, hg 2 (by omega) _ rfl, hg 3 (by omega) _ rfl, (by have := hg 4 (by omega) _ rfl; rw [he] at this; exact this), hg 5 (by omega) _ rfl, hr, hn⟩
/-- What an answer says, as a value. -/
def OutUp (w : World) (B : Nat) (v : Value) (o : OutP) : Prop := ∃ a n c, v = .agg #[.int .i64 o.kind, .int .i64 o.ttl, .slice a n c, .string o.next] ∧ RkUp w B a n o.sets ∧ (a = none → n = 0 ∧ c = 0)
theorem OutUp.bad (w : World) (B : Nat) : OutUp w B (.agg #[.int .i64 0, .int .i64 0, .slice none 0 0, .string ⟨#[]⟩]) badO := ⟨none, 0, 0, rfl, RkUp.nil w B none, fun _ => ⟨rfl, rfl⟩⟩
theorem OutUp.below {w w' : World} {B : Nat} {v : Value} {o : OutP} (h : OutUp w B v o) (hb : Below w.heap.size w w') : OutUp w' B v o := by
  obtain ⟨a, n, c, h1, h2, h3⟩ := h
  exact ⟨a, n, c, h1, h2.below hb, h3⟩
theorem OutUp.far {w w' : World} {B q : Nat} {v : Value} {o : OutP} (h : OutUp w B v o) (hg : w.grownBy w' (some q)) (hq : q < B) : OutUp w' B v o := by
  obtain ⟨a, n, c, h1, h2, h3⟩ := h
  exact ⟨a, n, c, h1, h2.far hg hq, h3⟩
theorem OutUp.mono {w : World} {A B : Nat} {v : Value} {o : OutP} (h : OutUp w B v o) (hA : A ≤ B) : OutUp w A v o := by
  obtain ⟨a, n, c, h1, h2, h3⟩ := h
  exact ⟨a, n, c, h1, h2.mono hA, h3⟩
/-- A set that is handed on with a bool. -/
def GotC (o : Option SetP) (B : Nat) (e : Ending) (w' : World) : Prop := ∃ s da dc, o.getD sZ = s ∧ e = .returned (.tuple #[.agg #[.string s.k.n, .int .i64 s.k.t, .int .i64 s.k.c, .int .i64 s.ttl, .slice da s.data.length dc], .bool o.isSome]) ∧ w'.ownsRow B 9 1 (.slice da s.data.length dc) s.data.length (sc s.data)
theorem found_getC {L : List SetP} {k : Ky} {B : Nat} {e : Ending} {w' : World} (h : Found L k B e w') : GotC (findK L k) B e w' := by
  rcases h with ⟨s, dv, hf, rfl, ho⟩ | ⟨hf, rfl⟩
  · obtain ⟨a, c, rfl, -, -⟩ := rowS_of_own ho
    exact ⟨s, a, c, by rw [hf]; rfl, by rw [hf]; rfl, ho⟩
  · exact ⟨sZ, none, 0, by rw [hf]; rfl, by rw [hf]; rfl, World.ownsRow_nil _ _ _ _⟩
theorem find_memC {S : List SetP} {k : Ky} {s : SetP} (h : findK S k = some s) : s ∈ S := List.mem_of_find?_eq_some h
theorem find_keyC {S : List SetP} {k : Ky} {s : SetP} (h : findK S k = some s) : s.k = k := by
  rw [findK] at h
  have := List.find?_some h
  simpa using this
theorem CN.o4 {w : World} {q : Nat} {c0 c1 c2 c3 : Value} (h : CN w q [c0, c1, c2, c3]) : w.cell? ⟨q, 0, none⟩ = some c0 ∧ w.cell? ⟨q, 1, none⟩ = some c1 ∧ w.cell? ⟨q, 2, none⟩ = some c2 ∧ w.cell? ⟨q, 3, none⟩ = some c3 ∧ w.frozen? ⟨q, 0, none⟩ = false ∧ w.frozen? ⟨q, 1, none⟩ = false ∧ w.frozen? ⟨q, 2, none⟩ = false ∧ w.frozen? ⟨q, 3, none⟩ = false :=
  ⟨(h.2 0 _ rfl).1, (h.2 1 _ rfl).1, (h.2 2 _ rfl).1, (h.2 3 _ rfl).1, (h.2 0 _ rfl).2, (h.2 1 _ rfl).2, (h.2 2 _ rfl).2, (h.2 3 _ rfl).2⟩
theorem CN.u3 {w : World} {q : Nat} {c0 c1 c2 : Value} (h : CN w q [c0, c1, c2]) : w.cell? ⟨q, 0, none⟩ = some c0 ∧ w.cell? ⟨q, 1, none⟩ = some c1 ∧ w.cell? ⟨q, 2, none⟩ = some c2 ∧ True := ⟨(h.2 0 _ rfl).1, (h.2 1 _ rfl).1, (h.2 2 _ rfl).1, trivial⟩
theorem CN.p4 {w : World} {q : Nat} {c0 c1 c2 c3 : Value} (h : CN w q [c0, c1, c2, c3]) (d0 d1 d2 d3 : Value) : CN ((((w.setCell ⟨q, 0, none⟩ d0).setCell ⟨q, 1, none⟩ d1).setCell ⟨q, 2, none⟩ d2).setCell ⟨q, 3, none⟩ d3) q [d0, d1, d2, d3] :=
  (((h.set 0 (by simp) d0).set 1 (by simp) d1).set 2 (by simp) d2).set 3 (by simp) d3
theorem grown_p4 (w : World) (q : Nat) (d0 d1 d2 d3 : Value) : w.grownBy ((((w.setCell ⟨q, 0, none⟩ d0).setCell ⟨q, 1, none⟩ d1).setCell ⟨q, 2, none⟩ d2).setCell ⟨q, 3, none⟩ d3) (some q) :=
  (((grown_cell w q 0 d0).trans (grown_cell _ q 1 d1)).trans (grown_cell _ q 2 d2)).trans (grown_cell _ q 3 d3)
/-- The sets of a row within bounds. -/
theorem wiF_small {cut : ByteArray} {l : List R5} (hl : l.length ≤ 100000) (hk : ∀ r ∈ l, r.k.n.size ≤ 1000000) (hd : ∀ r ∈ l, r.d.size ≤ 1000000) (hs : sumD (wiF cut l) ≤ l.length) : ∀ s ∈ wiF cut l, s.k.n.size ≤ 1000000 ∧ s.data.length ≤ 100000 ∧ ∀ d ∈ s.data, d.size ≤ 1000000 := fun s hs' => by
  have h1 := (wiF_canon cut l).size (b1 := 1000000) (b2 := 1000000) (fun r hr => hk r (wiL_mem hr)) (fun r hr => hd r (wiL_mem hr)) hs'
  have h2 := data_le_sum hs'
  exact ⟨h1.1, by omega, h1.2⟩
end Go.Proofs.Ythfnphcefkdgbaa
