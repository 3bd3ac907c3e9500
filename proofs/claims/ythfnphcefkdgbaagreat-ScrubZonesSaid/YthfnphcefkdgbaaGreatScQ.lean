/- Scrub: an answer for the document; two answers held against each other. -/
import Derived.Test.YthfnphcefkdgbaaGreatScF
import Derived.Test.YthfnphcefkdgbaaGreatLst
namespace Go.Proofs.YthfnphcefkdgbaaGreat
open Go.RowKit
theorem RkUp.len {w : World} {B n : Nat} {a : Option Addr} {L : List (SetP × Int)} (h : RkUp w B a n L) : L.length = n := by
 obtain ⟨Lp, h1, h2, -, -⟩ := h
 rw [← h1, List.length_map, h2]
theorem RkUp.get {w : World} {B n : Nat} {a : Option Addr} {L : List (SetP × Int)} (h : RkUp w B a n L) (k : Nat) (hk : k < n) : ∃ g p da dc, a = some ⟨g, 0, none⟩ ∧ g < w.heap.size ∧ L[k]? = some p ∧ w.cell? ⟨g, k * 6, none⟩ = some (.string p.1.k.n) ∧ w.cell? ⟨g, k * 6 + 1, none⟩ = some (.int .i64 p.1.k.t) ∧ w.cell? ⟨g, k * 6 + 2, none⟩ = some (.int .i64 p.1.k.c) ∧ w.cell? ⟨g, k * 6 + 3, none⟩ = some (.int .i64 p.1.ttl) ∧ w.cell? ⟨g, k * 6 + 4, none⟩ = some (.slice da p.1.data.length dc) ∧ w.cell? ⟨g, k * 6 + 5, none⟩ = some (.int .i64 p.2) ∧ w.ownsRow B 9 1 (.slice da p.1.data.length dc) p.1.data.length (sc p.1.data) := by
 obtain ⟨Lp, h1, h2, h3, h4⟩ := h
 rcases h3 with h3 | ⟨g, h5, h6, h7, h8⟩
 · omega
 obtain ⟨p, hp⟩ : ∃ p, Lp[k]? = some p := ⟨Lp[k]'(by omega), List.getElem?_eq_getElem (by omega)⟩
 have hg : ∀ i, i < 6 → ∀ u, (encTk p)[i]? = some u → w.cell? ⟨g, k * 6 + i, none⟩ = some u := fun i hi u hu => by
   have := h8 (k * 6 + i) u (by
    rw [flatT, flatMap_get encTk 6 encTk_len (by omega), show (k * 6 + i) / 6 = k by omega, show (k * 6 + i) % 6 = i by omega, hp]
    exact hu)
   rw [Nat.zero_add] at this; exact this
 have hm := h4 p (List.mem_of_getElem? hp)
 obtain ⟨a', c', he, -, -⟩ := rowS_of_own hm
 rw [he] at hm
 exact ⟨g, fstT p, a', c', h5, h7, by rw [← h1, List.getElem?_map, hp]; rfl, hg 0 (by omega) _ rfl, hg 1 (by omega) _ rfl, hg 2 (by omega) _ rfl, hg 3 (by omega) _ rfl, (by have := hg 4 (by omega) _ rfl; rw [he] at this; exact this), hg 5 (by omega) _ rfl, hm⟩
end Go.Proofs.YthfnphcefkdgbaaGreat
