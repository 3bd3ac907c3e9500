/- Parts of rows that are owned: x[:k], x[k:], elements of whatever size. -/
import Derived.Test.YtfopfplpfhncfaaRGm
namespace Go.Proofs.Ytfopfplpfhncfaa
open Go.RowKit

theorem slice_headK {T E : TypeId} {i : TypeInfo} {size : Nat} (hu : Try.prog.underlying T = some (.slice E)) (hi : Try.prog.info? E = some i) (hz : i.size = size) (av : Option Addr) (n cap h : Nat) (hav : av = none ∧ n = 0 ∧ cap = 0 ∨ ∃ β off, av = some ⟨β, off, none⟩) (h2 : h ≤ cap) (W : World) : (Instr.slice T (.slice av n cap) none (some (.int .i64 (h : Int))) none).run Try.prog W = .ok (.slice av h cap) W := by
  have he : Try.prog.elem T = E := by simp [Program.elem, hu]
  have hu' : Try.prog.underlying T = some (.slice (Try.prog.elem T)) := by rw [he]; exact hu
  rw [run_slice_h (P := Try.prog) (w := W) T av n cap hu' .i64 _ (by omega) (by omega), he]
  rcases hav with ⟨rfl, rfl, rfl⟩ | ⟨β, off, rfl⟩
  · simp [sizeOf, typeInfo, hi, hz, Result.andThen, sliced]
  · simp [sizeOf, typeInfo, hi, hz, Result.andThen, sliced, Addr.add]
theorem slice_tailK {T E : TypeId} {i : TypeInfo} {size : Nat} (hu : Try.prog.underlying T = some (.slice E)) (hi : Try.prog.info? E = some i) (hz : i.size = size) (av : Option Addr) (n cap l : Nat) (hav : av = none ∧ n = 0 ∧ cap = 0 ∨ ∃ β off, av = some ⟨β, off, none⟩) (h1 : l ≤ n) (h2 : n ≤ cap) :
    ∃ ad : Option Addr, (∀ W, (Instr.slice T (.slice av n cap) (some (.int .i64 (l : Int))) none none).run Try.prog W = .ok (.slice ad (n - l) (cap - l)) W) ∧ (ad = none → n - l = 0 ∧ cap - l = 0) ∧ (l < n → ∀ β off, av = some ⟨β, off, none⟩ → ad = some ⟨β, off + l * size, none⟩) := by
  have he : Try.prog.elem T = E := by simp [Program.elem, hu]
  have hu' : Try.prog.underlying T = some (.slice (Try.prog.elem T)) := by rw [he]; exact hu
  refine ⟨if cap = l then av else av.map (·.add (l * size)), fun W => ?_, fun h3 => ?_, fun h3 β off h4 => ?_⟩
  · rw [run_slice_l (P := Try.prog) (w := W) T av n cap hu' .i64 (l : Int) (by omega) (by omega), he]
    simp [sizeOf, typeInfo, hi, hz, Result.andThen, sliced]
  · rcases hav with ⟨rfl, rfl, rfl⟩ | ⟨β, off, rfl⟩
    · omega
    · split at h3 <;> simp at h3
  · subst h4
    rw [if_neg (by omega), Option.map_some, Addr.add_mid]
theorem own_form {w : World} {B n size : Nat} {e : TypeId} {v : Value} {xs : List Value} (h : w.ownsRow B e size v n xs) : ∃ a c, v = .slice a n c ∧ (a = none ∧ n = 0 ∧ c = 0 ∨ ∃ β off, a = some ⟨β, off, none⟩) ∧ n ≤ c := by
  rcases h.2 with ⟨rfl, rfl⟩ | ⟨g, cap, cur, rfl, _, _, hn, _⟩
  · exact ⟨none, 0, rfl, Or.inl ⟨rfl, rfl, rfl⟩, Nat.le_refl _⟩
  · exact ⟨_, _, rfl, Or.inr ⟨_, _, rfl⟩, hn⟩
/-- x[:k] of a row that is owned. -/
theorem own_head {T E : TypeId} {i : TypeInfo} {size : Nat} (hu : Try.prog.underlying T = some (.slice E)) (hi : Try.prog.info? E = some i) (hz : i.size = size) {w : World} {B n c : Nat} {a : Option Addr} {xs : List Value} (h : w.ownsRow B E size (.slice a n c) n xs) (k : Nat) (hk : k ≤ n) : (∀ W, (Instr.slice T (.slice a n c) none (some (.int .i64 (k : Int))) none).run Try.prog W = .ok (.slice a k c) W) ∧ w.ownsRow B E size (.slice a k c) k (xs.take (k * size)) := by
  obtain ⟨a', c', hv, hav, hnc⟩ := own_form h
  injection hv with e1 e2 e3
  subst e1 e3
  refine ⟨slice_headK hu hi hz a n c k hav (by omega), ?_⟩
  rcases h.2 with ⟨hv, rfl⟩ | ⟨g, cap, cur, hv, _⟩
  · obtain rfl : k = 0 := by omega
    injection hv with e1 e2 e3
    subst e1 e3
    rw [Nat.zero_mul, List.take_zero]
    exact World.ownsRow_nil _ _ _ _
  · injection hv with e1 e2 e3
    subst e1
    exact own_prefix h k hk
/-- x[k:] of a row that is owned. -/
theorem own_tail {T E : TypeId} {i : TypeInfo} {size : Nat} (hu : Try.prog.underlying T = some (.slice E)) (hi : Try.prog.info? E = some i) (hz : i.size = size) (h0 : 0 < size) {w : World} {B n c : Nat} {a : Option Addr} {xs : List Value} (h : w.ownsRow B E size (.slice a n c) n xs) (k : Nat) (hk : k ≤ n) : ∃ ad, (∀ W, (Instr.slice T (.slice a n c) (some (.int .i64 (k : Int))) none none).run Try.prog W = .ok (.slice ad (n - k) (c - k)) W) ∧ CellsAt w ad ((n - k) * size) (xs.drop (k * size)) ∧ (ad = none → n - k = 0 ∧ c - k = 0) := by
  obtain ⟨a', c', hv, hav, hnc⟩ := own_form h
  injection hv with e1 e2 e3
  subst e1 e3
  obtain ⟨ad, hrun, hnil, hsome⟩ := slice_tailK hu hi hz a n c k hav hk hnc
  refine ⟨ad, hrun, ⟨by rw [List.length_drop, h.1, Nat.sub_mul], ?_⟩, hnil⟩
  by_cases hkn : k < n
  · right
    rcases hav with ⟨_, h9, _⟩ | ⟨β, off, rfl⟩
    · omega
    have had := hsome hkn β off rfl
    obtain ⟨a2, c2, hv2, hcells, _⟩ := cellsK_own h
    injection hv2 with e1 e2 e3
    subst e1
    rcases hcells.2 with h9 | ⟨b, o, hbo, hlt, hc⟩
    · have : 0 < n * size := Nat.mul_pos (by omega) h0
      omega
    · injection hbo with hbo
      injection hbo with e1 e2
      subst e1 e2
      refine ⟨β, off + k * size, had, hlt, fun j u hj => ?_⟩
      rw [List.getElem?_drop] at hj
      rw [Nat.add_assoc]
      exact hc _ u hj
  · left
    have : n - k = 0 := by omega
    rw [this, Nat.zero_mul]
end Go.Proofs.Ytfopfplpfhncfaa
