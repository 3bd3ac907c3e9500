/- FewSets: rows of sets that are few and small. -/
import Derived.Test.YtgdhbelcellabaaSkC
namespace Go.Proofs.Ytgdhbelcellabaa
open Go.RowKit

def ssD : SetP := ⟨⟨ByteArray.empty, 0, 0⟩, 0, []⟩
/-- A set at five cells. -/
def SetAt (w : World) (b o : Nat) (s : SetP) (p : Option Addr) (c : Nat) : Prop := w.cell? ⟨b, o, none⟩ = some (.string s.k.n) ∧ w.cell? ⟨b, o + 1, none⟩ = some (.int .i64 s.k.t) ∧ w.cell? ⟨b, o + 2, none⟩ = some (.int .i64 s.k.c) ∧ w.cell? ⟨b, o + 3, none⟩ = some (.int .i64 s.ttl) ∧ w.cell? ⟨b, o + 4, none⟩ = some (.slice p s.data.length c) ∧ RowS w p s.data.length s.data ∧ (p = none → s.data.length = 0 ∧ c = 0)
/-- A row of sets. -/
def SetsAt (w : World) (a : Option Addr) (n : Nat) (L : List SetP) : Prop := L.length = n ∧ (n = 0 ∨ ∃ b off, a = some ⟨b, off, none⟩ ∧ b < w.heap.size ∧ ∀ k, k < n → ∃ p c, SetAt w b (off + k * 5) (L.getD k ssD) p c)
theorem SetAt.below {w w' : World} {b o : Nat} {s : SetP} {p : Option Addr} {c : Nat} (h : SetAt w b o s p c) (hlt : b < w.heap.size) (hb : Below w.heap.size w w') : SetAt w' b o s p c := by
  obtain ⟨h0, h1, h2, h3, h4, h5, h6⟩ := h
  exact ⟨(hb.cell hlt).trans h0, (hb.cell hlt).trans h1, (hb.cell hlt).trans h2, (hb.cell hlt).trans h3, (hb.cell hlt).trans h4, h5.below hb, h6⟩
theorem SetsAt.below {w w' : World} {a : Option Addr} {n : Nat} {L : List SetP} (h : SetsAt w a n L) (hb : Below w.heap.size w w') : SetsAt w' a n L := by
  refine ⟨h.1, ?_⟩
  rcases h.2 with h0 | ⟨b, off, rfl, hlt, hc⟩
  · exact Or.inl h0
  · exact Or.inr ⟨b, off, rfl, Nat.lt_of_lt_of_le hlt hb.size, fun k hk => by
      obtain ⟨p, c, h⟩ := hc k hk
      exact ⟨p, c, h.below hlt hb⟩⟩
/-- Small. -/
def SmS (s : SetP) : Prop := s.k.n.size ≤ 60000 ∧ s.data.length ≤ 200 ∧ ∀ j, j < s.data.length → (s.data.getD j ByteArray.empty).size ≤ 60000
/-- Sizes that may be. -/
def SzS (s : SetP) : Prop := s.k.n.size ≤ 9223372036854775807 ∧ s.data.length ≤ 9223372036854775807 ∧ ∀ j, j < s.data.length → (s.data.getD j ByteArray.empty).size ≤ 9223372036854775807
theorem min60 (s : ByteArray) : ∃ v : Nat, min (s.size : Int) 60001 = (v : Int) ∧ v ≤ 60001 ∧ (v ≤ 60000 → s.size ≤ 60000) := by
  by_cases h : 60001 < s.size
  · exact ⟨60001, by omega, Nat.le_refl _, fun h => by omega⟩
  · exact ⟨s.size, by omega, by omega, fun h => h⟩

end Go.Proofs.Ytgdhbelcellabaa
