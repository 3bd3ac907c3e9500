/- Sets that lie in blocks from B on. -/
import Derived.Test.YthfnphcefkdgbaaZnG
namespace Go.Proofs.Ythfnphcefkdgbaa
open Go.RowKit

/-- Sets that lie in blocks from B on. -/
def SetsUp (w : World) (B : Nat) (a : Option Addr) (n : Nat) (L : List SetP) : Prop :=
  ∃ Lp : List (SetP × Value), Lp.map Prod.fst = L ∧ Lp.length = n ∧ (n = 0 ∨ ∃ g, a = some ⟨g, 0, none⟩ ∧ B ≤ g ∧ g < w.heap.size ∧ ∀ j u, (flatS Lp)[j]? = some u → w.cell? ⟨g, 0 + j, none⟩ = some u) ∧ ∀ p ∈ Lp, w.ownsRow B 9 1 p.2 p.1.data.length (sc p.1.data)
theorem SetsUp.below {w w' : World} {B n : Nat} {a : Option Addr} {L : List SetP} (h : SetsUp w B a n L) (hb : Below w.heap.size w w') : SetsUp w' B a n L := by
  obtain ⟨Lp, h1, h2, h3, h4⟩ := h
  refine ⟨Lp, h1, h2, ?_, fun p hp => own_below' (h4 p hp) hb⟩
  rcases h3 with h3 | ⟨g, h5, h6, h7, h8⟩
  · exact Or.inl h3
  · exact Or.inr ⟨g, h5, h6, Nat.lt_of_lt_of_le h7 hb.size, fun j u hj => cell_later4 hb (h8 j u hj)⟩
theorem SetsUp.far {w w' : World} {B n q : Nat} {a : Option Addr} {L : List SetP} (h : SetsUp w B a n L) (hg : w.grownBy w' (some q)) (hq : q < B) : SetsUp w' B a n L := by
  obtain ⟨Lp, h1, h2, h3, h4⟩ := h
  refine ⟨Lp, h1, h2, ?_, fun p hp => own_apart7 (h4 p hp) hg (fun k hk e => by injection e with e; have := ((h4 p hp).lt k hk).1; omega)⟩
  rcases h3 with h3 | ⟨g, h5, h6, h7, h8⟩
  · exact Or.inl h3
  · exact Or.inr ⟨g, h5, h6, Nat.lt_of_lt_of_le h7 hg.size, fun j u hj => hg.cell (h8 j u hj) (fun e => absurd (Option.some.inj e) (show ¬ g = q by omega))⟩
theorem SetsUp.at {w : World} {B n : Nat} {a : Option Addr} {L : List SetP} (h : SetsUp w B a n L) : SetsAt w a n L := by
  obtain ⟨Lp, h1, h2, h3, h4⟩ := h
  rw [← h1]
  refine flatS_at ⟨?_, ?_⟩ h2 (fun p hp => ?_)
  · rw [flatS_len, h2]
  · rcases h3 with h3 | ⟨g, h5, h6, h7, h8⟩
    · exact Or.inl (by rw [h3])
    · exact Or.inr ⟨g, 0, h5, h7, h8⟩
  · obtain ⟨a', c', he, hr, hn⟩ := rowS_of_own (h4 p hp)
    exact ⟨a', c', he, hr, hn⟩
theorem SetsUp.one {w : World} {B : Nat} {sn : ByteArray} {st sk su : Int} {sd : List ByteArray} {dv : Value} {dl : Nat} (hd : sd.length = dl) (ho : w.ownsRow B 9 1 dv dl (sc sd)) (hB : B ≤ w.heap.size) : SetsUp (w.alloc (.cells #[.string sn, .int .i64 st, .int .i64 sk, .int .i64 su, dv] 39)) B (some ⟨w.heap.size, 0, none⟩) 1 [⟨⟨sn, st, sk⟩, su, sd⟩] := by
  subst hd
  refine ⟨[(⟨⟨sn, st, sk⟩, su, sd⟩, dv)], rfl, rfl, Or.inr ⟨_, rfl, hB, by simp, ?_⟩, fun p hp => ?_⟩
  · rcases (cells_lit w #[.string sn, .int .i64 st, .int .i64 sk, .int .i64 su, dv] 39).2 with h | ⟨b, off, h1, h2, h3⟩
    · cases h
    · injection h1 with h1
      injection h1 with h1 h4
      subst h1 h4
      exact h3
  · obtain rfl := List.mem_singleton.1 hp
    exact own_below' ho ((Below.refl w.heap.size w).alloc (Nat.le_refl _) _)
theorem SetsUp.own {w : World} {B : Nat} {v : Value} {L : List (SetP × Value)} (h : OwnSets w B v L) : ∃ a c, v = .slice a L.length c ∧ SetsUp w B a L.length (L.map Prod.fst) ∧ (a = none → L.length = 0 ∧ c = 0) := by
  rcases h.1.2 with ⟨rfl, h0⟩ | ⟨g, cap, cur, rfl, hb, hg, hnc, hcm, hcs, htake⟩
  · exact ⟨none, 0, by rw [h0], ⟨L, rfl, rfl, Or.inl h0, h.2.1⟩, fun _ => ⟨h0, rfl⟩⟩
  · refine ⟨some ⟨g, 0, none⟩, cap, rfl, ⟨L, rfl, rfl, Or.inr ⟨g, rfl, hb, (h.1.lt g rfl).2, fun j u hj => by rw [Nat.zero_add]; exact ownsRow_at h.1 j u hj⟩, h.2.1⟩, (fun e => by cases e)⟩
theorem SetsUp.mono {w : World} {A B n : Nat} {a : Option Addr} {L : List SetP} (h : SetsUp w B a n L) (hA : A ≤ B) : SetsUp w A a n L := by
  obtain ⟨Lp, h1, h2, h3, h4⟩ := h
  refine ⟨Lp, h1, h2, ?_, fun p hp => own_mono4 (h4 p hp) hA⟩
  rcases h3 with h3 | ⟨g, h5, h6, h7, h8⟩
  · exact Or.inl h3
  · exact Or.inr ⟨g, h5, Nat.le_trans hA h6, h7, h8⟩
theorem SetsUp.nil (w : World) (B : Nat) : SetsUp w B none 0 [] := ⟨[], rfl, rfl, Or.inl rfl, fun p hp => by cases hp⟩

/-- A zone whose blocks are new from B on. -/
def ZnUp (w : World) (B q : Nat) (apex : ByteArray) (S : List SetP) : Prop := B ≤ q ∧ ∃ (a : Option Addr) (c : Nat), CN w q [.string apex, .slice a S.length c] ∧ SetsUp w B a S.length S
theorem ZnUp.is {w : World} {B q : Nat} {apex : ByteArray} {S : List SetP} (h : ZnUp w B q apex S) : ZnAt w q apex S := by
  obtain ⟨-, a, c, h1, h2⟩ := h
  exact ⟨a, c, h1, h2.at⟩
theorem ZnUp.below {w w' : World} {B q : Nat} {apex : ByteArray} {S : List SetP} (h : ZnUp w B q apex S) (hb : Below w.heap.size w w') : ZnUp w' B q apex S := by
  obtain ⟨h0, a, c, h1, h2⟩ := h
  exact ⟨h0, a, c, h1.below hb, h2.below hb⟩
theorem ZnUp.far {w w' : World} {B q r : Nat} {apex : ByteArray} {S : List SetP} (h : ZnUp w B q apex S) (hg : w.grownBy w' (some r)) (hr : r < B) : ZnUp w' B q apex S := by
  obtain ⟨h0, a, c, h1, h2⟩ := h
  exact ⟨h0, a, c, h1.grown hg (fun e => by injection e with e; omega), h2.far hg hr⟩
theorem ZnUp.mono {w : World} {A B q : Nat} {apex : ByteArray} {S : List SetP} (h : ZnUp w B q apex S) (hA : A ≤ B) : ZnUp w A q apex S := by
  obtain ⟨h0, a, c, h1, h2⟩ := h
  exact ⟨Nat.le_trans hA h0, a, c, h1, h2.mono hA⟩
def GrpU (l : List R5) (w : World) (e : Ending) (w' : World) : Prop := ∃ a c S, e = .returned (.slice a S.length c) ∧ Canon l S ∧ sumD S ≤ l.length ∧ S.length ≤ l.length ∧ SetsUp w' w.heap.size a S.length S ∧ Below w.heap.size w w'
theorem group_up (a : Option Addr) (n c : Nat) (l : List R5) (w : World) (h : RowR w a n l) (hn : a = none → n = 0 ∧ c = 0) (hlen : n ≤ 100000) (hl : ∀ r ∈ l, r.k.n.size ≤ 1000000) :
    Calls Try.prog 116 #[.slice a n c] w fun e w' => GrpU l w e w' := by
  refine (groupLoop a n c l w h hn hlen hl).mono ?_
  rintro e w' ⟨v, l', L, rfl, hp, hs, hos, hL, hb⟩
  obtain ⟨a', c', hv, hsa, _⟩ := SetsUp.own hos
  have hc : Canon l (L.map Prod.fst) := by rw [hL]; exact canon_group hp hs h.1
  have hsum : sumD (L.map Prod.fst) ≤ l.length := by rw [hL, h.1]; exact grpK_sum l' n
  have hlen2 : L.length ≤ l.length := by
    have h1 := grpK_len l' n
    rw [← hL, List.length_map] at h1
    rw [h.1]; exact h1
  have e9 : (L.map Prod.fst).length = L.length := List.length_map ..
  refine ⟨a', c', L.map Prod.fst, by rw [e9, hv], hc, hsum, by omega, by rw [e9]; exact hsa, hb⟩
end Go.Proofs.Ythfnphcefkdgbaa
