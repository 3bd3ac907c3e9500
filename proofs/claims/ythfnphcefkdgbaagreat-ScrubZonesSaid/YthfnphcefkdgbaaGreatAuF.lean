/- auth: what the chapter's examples fix. -/
import Derived.Test.YthfnphcefkdgbaaGreatAuA
import Derived.Test.YthfnphcefkdgbaaGreatMgM
namespace Go.Proofs.YthfnphcefkdgbaaGreat
open Go.RowKit
def comB : ByteArray := ⟨#[3, 99, 111, 109, 0]⟩
def ncoB : ByteArray := ⟨#[1, 110, 3, 99, 111, 109, 0]⟩
def adrB : ByteArray := ⟨#[1, 2, 3, 4]⟩
def rC : R5 := ⟨⟨comB, 2, 1⟩, 5, ncoB⟩
def rA : R5 := ⟨⟨ncoB, 1, 1⟩, 5, adrB⟩
def l4 : List R5 := [r6, r2, rC, rA]
theorem ZOk.szd {w : World} {z : Nat} {apex : ByteArray} {l : List R5} {S : List SetP} (h : ZOk w z apex l S) : ∀ s ∈ S, ∀ d ∈ s.data, d.size ≤ 1000000 := by
 intro s hs d hd
 obtain ⟨r, hr, -, rfl⟩ := (h.canon.mem s.k d).1 ⟨s, hs, rfl, hd⟩
 have h1 := h.may r hr
 simp only [mayR5, mayR, mayD, Bool.and_eq_true, decide_eq_true_eq] at h1
 have := h1.2.2.2.2.1.2
 omega
end Go.Proofs.YthfnphcefkdgbaaGreat
