/- Copies of records; rows that are kept. -/
import Derived.Test.YtmhiglhgkgannaaPlS
namespace Go.Proofs.Ytmhiglhgkgannaa
open Go.RowKit

theorem copyRRs_any (a : Option Addr) (n c : Nat) (l : List R5) (w : World) (h : RowR w a n l) (hn : a = none → n = 0 ∧ c = 0) (hlen : n ≤ 100000) :
    Calls Try.prog 13 #[.slice a n c] w fun e w' => ∃ v, e = .returned v ∧ w'.ownsRow w.heap.size 30 5 v n (flatR l) ∧ Below w.heap.size w w' := by
  obtain ⟨i0, hi, hz0, hz1, hz2⟩ := info_parts infoRR
  have HR := Lib.hid h
  have HN := Lib.hid hn
  clear h hn
  go_enter Try.func13, Try.ntmps13
  go_wp2_with (at_builtin; refine append_cellsK rfl _ _ 22 30 rfl i0 _ 5 56 Try.underlying22 hi hz0 hz1 hz2 rfl (by decide) w.heap.size _ 0 [] rfl (World.ownsRow_made w #[] 0 (Nat.le_refl _) (by decide) rfl) a n c (flatR l) rfl HN.out (HR.out.below ((Below.refl _ _).alloc (Nat.le_refl _) _)).2 (flatR_one l) (by omega) (by decide) (by simp) ?_)
  intro v' w' hown hgrow
  have HB := Lib.hid (((Below.refl w.heap.size w).alloc (Nat.le_refl _) _).grown hgrow (by simp) (fun k hk => by simp [Value.ownBlock] at hk; omega))
  have HO := Lib.hid hown
  clear hown hgrow
  go_wp2
  go_ret
  exact ⟨_, rfl, HO.out, HB.out⟩
/-- Cells of a block that is not written. -/
theorem cellsAt_grown {w w' : World} {g o n : Nat} {cs : List Value} {row : Option Nat} (h : CellsAt w (some ⟨g, o, none⟩) n cs) (hg : w.grownBy w' row) (hne : row ≠ some g) : CellsAt w' (some ⟨g, o, none⟩) n cs := by
  refine ⟨h.1, ?_⟩
  rcases h.2 with h0 | ⟨b, off, hab, hlt, hc⟩
  · exact Or.inl h0
  · simp only [Option.some.injEq, Addr.mk.injEq, and_true] at hab
    obtain ⟨rfl, rfl⟩ := hab
    refine Or.inr ⟨_, _, rfl, Nat.lt_of_lt_of_le hlt hg.size, fun j u hj => ?_⟩
    have h1 := hc j u hj
    rw [← h1]
    exact World.cell?_of_block (hg.block _ hlt (fun e => hne e.symm))
end Go.Proofs.Ytmhiglhgkgannaa
