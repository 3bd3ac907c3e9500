/- A piece that is fed as a literal of one: both ways. -/
import Derived.Test.YtngncdmmlkcekaaFPc
namespace Go.Proofs.Ytngncdmmlkcekaa
open Go.RowKit

theorem But.from {w w1 w2 : World} {P : Nat} {go : Option Nat} (hb : Below w.heap.size w w1) (h : But w1 w2 P go) : But w w2 P go :=
  ⟨h.os.trans hb.os, h.tape.trans hb.tape, h.output.trans hb.output, Nat.le_trans hb.size h.size, fun k hk h1 h2 => (h.block k (Nat.lt_of_lt_of_le hk hb.size) h1 h2).trans (hb.block k hk)⟩
theorem own_lt {w : World} {v : Value} {n : Nat} {l : List UInt8} (h : OwnM w v n l) : ∀ g, v.ownBlock = some g → g < w.heap.size := fun g hg => by
  rcases h.2 with ⟨e, _⟩ | ⟨g', _, _, e, e2, _⟩
  · rw [e] at hg; cases hg
  · rw [e] at hg; simp [Value.ownBlock] at hg; omega
theorem feed_lit_over (P : Nat) (m h : Int) (v : Value) (ad : Option Addr) (n c : Nat) (l : List UInt8) (w : World) (hr : RdrAt w P m h v) (hgo : ∀ g, v.ownBlock = some g → g < w.heap.size) (hl : RowB w ad n l) (hn : ad = none → n = 0 ∧ c = 0) (hfar : ∀ b off, ad = some ⟨b, off, none⟩ → n = 0 ∨ (b ≠ P ∧ some b ≠ v.ownBlock)) (h0 : 0 ≤ h) (hs : h + n ≤ 9223372036854775807) (hover : m < h + n) :
    Calls Try.prog 50 #[.pointer (some ⟨P, 0, none⟩), .slice (some ⟨w.heap.size, 0, none⟩) 1 1] (w.alloc (.cells #[.slice ad n c] 43)) fun e w' => e = .returned (.tuple #[.slice none 0 0, .int .i64 13]) ∧ RdrAt w' P m (h + n) (.slice none 0 0) ∧ But w w' P v.ownBlock := by
  have hlen := hl.len
  have hst := stays_one hl hn hr.lt hgo hfar
  have hb1 := (Below.refl w.heap.size w).alloc (Nat.le_refl _) (.cells #[.slice ad n c] 43)
  have hsum : sumL [l] = n := by rw [sumL_cons, hlen]; rfl
  refine (feed_over P m h v _ 1 1 [l] _ (hr.kept (hb1.block P hr.lt)) hst h0 (by rw [hsum]; exact hs) (by omega) (by rw [hsum]; exact hover)).mono ?_
  rintro e w' ⟨rfl, h1, h2⟩
  rw [hsum] at h1
  exact ⟨rfl, h1, h2.from hb1⟩
theorem feed_lit_ok (P : Nat) (m : Int) (h : Nat) (v : Value) (k : Nat) (lb : List UInt8) (ad : Option Addr) (n c : Nat) (l : List UInt8) (w : World) (hr : RdrAt w P m h v) (how : OwnM w v k lb) (hvP : v.ownBlock ≠ some P) (hl : RowB w ad n l) (hn : ad = none → n = 0 ∧ c = 0) (hfar : ∀ b off, ad = some ⟨b, off, none⟩ → n = 0 ∨ (b ≠ P ∧ some b ≠ v.ownBlock)) (hk : k ≤ h) (hover : ¬ m < (h : Int) + n) (hs : h + n ≤ 300000) :
    Calls Try.prog 50 #[.pointer (some ⟨P, 0, none⟩), .slice (some ⟨w.heap.size, 0, none⟩) 1 1] (w.alloc (.cells #[.slice ad n c] 43)) fun e w' => ∃ rv v' n' B, e = .returned (.tuple #[rv, .int .i64 0]) ∧ RdrAt w' P m ((h + n : Nat) : Int) v' ∧ OwnM w' v' n' ((lb ++ l).drop (TK (lb ++ l)).2) ∧ OwnF w' B rv (TK (lb ++ l)).1 ∧ But w w' P v.ownBlock ∧ w.heap.size ≤ B ∧ (∀ g, v'.ownBlock = some g → g < B) ∧ v'.ownBlock ≠ some P ∧ (v'.ownBlock = v.ownBlock ∨ ∀ g, v'.ownBlock = some g → w.heap.size ≤ g) ∧ n' ≤ k + n := by
  have hlen := hl.len
  have hst := stays_one hl hn hr.lt (own_lt how) hfar
  have hb1 := (Below.refl w.heap.size w).alloc (Nat.le_refl _) (.cells #[.slice ad n c] 43)
  have hsum : sumL [l] = n := by rw [sumL_cons, hlen]; rfl
  have hfl : [l].flatten = l := by simp
  have hs1 := hb1.size
  refine (feed_ok P m h v k lb _ 1 1 [l] _ (hr.kept (hb1.block P hr.lt)) (how.kept hb1.size (fun g hg => hb1.block g (own_lt how g hg))) hvP hst hk (by omega) (by rw [hsum]; exact hover) (by rw [hsum]; exact hs)).mono ?_
  rintro e w' ⟨rv, v', n', B, rfl, h1, h2, h3, h4, h5, h6, h7, h8⟩
  rw [hsum] at h1
  rw [hfl] at h2 h3
  refine ⟨rv, v', n', B, rfl, h1, h2, h3, h4.from hb1, by omega, h6, h7, ?_, ?_⟩
  · rcases h8 with h | h
    · exact Or.inl h
    · exact Or.inr (fun g hg => by have := h g hg; omega)
  · have h9 := h2.1
    have h10 := how.1
    rw [List.length_drop, List.length_append] at h9
    omega
end Go.Proofs.Ytngncdmmlkcekaa
