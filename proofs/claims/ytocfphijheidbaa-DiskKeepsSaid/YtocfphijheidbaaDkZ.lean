/- What keeps lists of sectors over Writes and falls; Crash at whatever mask; a list filled up. -/
import Derived.Test.YtocfphijheidbaaDkY
import Derived.Test.YtocfphijheidbaaDkV
namespace Go.Proofs.Ytocfphijheidbaa
open Go.RowKit

/-- All blocks from B on that stood in w1 are as they were. -/
structure Kept (B : Nat) (w1 w' : World) : Prop where
  size : w1.heap.size ≤ w'.heap.size
  block : ∀ g, B ≤ g → g < w1.heap.size → w'.heap[g]? = w1.heap[g]?
theorem Kept.refl (B : Nat) (w : World) : Kept B w w := ⟨Nat.le_refl _, fun _ _ _ => rfl⟩
theorem Kept.below {B : Nat} {w1 wx wy : World} (h : Kept B w1 wx) (hb : Below wx.heap.size wx wy) : Kept B w1 wy :=
  ⟨Nat.le_trans h.size hb.size, fun g h1 h2 => (hb.block g (Nat.lt_of_lt_of_le h2 h.size)).trans (h.block g h1 h2)⟩
theorem Kept.frm {B : Nat} {w1 wx wy : World} {cs : List Nat} (h : Kept B w1 wx) (hf : Frm wx wy cs) (hc : ∀ g ∈ cs, g < B ∨ w1.heap.size ≤ g) : Kept B w1 wy :=
  ⟨Nat.le_trans h.size hf.size, fun g h1 h2 => (hf.block g (Nat.lt_of_lt_of_le h2 h.size) (fun e => by rcases hc g e with h3 | h3 <;> omega)).trans (h.block g h1 h2)⟩
theorem OwnF.keep {B : Nat} {w1 w' : World} {v : Value} {M : List (List UInt8)} (h : OwnF w1 B v M) (hk : Kept B w1 w') : OwnF w' B v M := by
  obtain ⟨xs, h1, h2⟩ := h
  exact ⟨xs, own_kept h1 (fun g hg => hk.block g (h1.lt g hg).1 (h1.lt g hg).2), fun j u hj => own_kept (h2 j u hj) (fun g hg => hk.block g ((h2 j u hj).lt g hg).1 ((h2 j u hj).lt g hg).2)⟩
theorem OwnF.at_ {B n c : Nat} {w : World} {a : Option Addr} {M : List (List UInt8)} (h : OwnF w B (.slice a n c) M) : M.length = n ∧ RowBB w a n M ∧ (a = none → n = 0 ∧ c = 0) := by
  obtain ⟨a', c', e, hr, hn⟩ := h.bb.row
  injection e with e1 e2 e3
  subst e1; subst e2; subst e3
  exact ⟨rfl, hr, hn⟩
theorem crashD_any (q : Nat) (ma : Option Addr) (mn mc : Nat) (m : List UInt8) (bs : List Nat) (s : DkP) (w : World) (h : DkS w bs q s) (hd : s.down = false) (hm : ValC w (.slice ma mn mc) m) (hf : ∀ b off, ma = some ⟨b, off, none⟩ → mn = 0 ∨ b ∉ bs) (hL : s.P.length ≤ 10000) (hmn : mn ≤ 1000000) :
    Calls Try.prog 30 #[.pointer (some ⟨q, 0, none⟩), .slice ma mn mc] w fun e w' => e = .returned (.tuple #[]) ∧ DkS w' bs q (crash s m) ∧ Frm w w' bs := by
  obtain ⟨qd, qr, pv, mv, hB, hA, hW⟩ := h
  exact crash_core q qd qr pv mv bs s ma mn mc m w hB hA hW hd hm (fun b off e => (hf b off e).imp id (fun h e2 => h (by rw [e2]; exact hA.1.2.2.1))) hL hmn
def fillF (i : Nat) : List UInt8 := List.replicate i 255 ++ List.replicate (300 - i) 0
theorem fillF_zero : fillF 0 = zB 300 := rfl
theorem fillF_full : fillF 300 = F300 := by rw [fillF, F300, Nat.sub_self, List.replicate_zero, List.append_nil]
theorem fillF_succ (i : Nat) (h : i < 300) : (fillF i).set i 255 = fillF (i + 1) := by
  rw [fillF, List.set_append_right _ _ (by simp), List.length_replicate, Nat.sub_self, show 300 - i = (300 - (i + 1)) + 1 by omega, List.replicate_succ, List.set_cons_zero, fillF, List.replicate_succ' (n := i), List.append_assoc, List.singleton_append]
end Go.Proofs.Ytocfphijheidbaa
