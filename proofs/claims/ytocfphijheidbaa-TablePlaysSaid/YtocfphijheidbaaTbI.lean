/- What the chapter's example fixes. -/
import Derived.Test.YtocfphijheidbaaTbH
namespace Go.Proofs.Ytocfphijheidbaa
open Go.RowKit

structure OneT (w wx : World) (q : Nat) (c : List Nat) (s : TbP) : Prop where
  tb : TbS wx c q s
  g : ∀ x ∈ c, w.heap.size ≤ x
  bel : Below w.heap.size w wx
theorem OneT.below {w wx wy : World} {q : Nat} {c : List Nat} {s : TbP} (h : OneT w wx q c s) (hb : Below wx.heap.size wx wy) : OneT w wy q c s :=
  ⟨h.tb.below hb, h.g, h.bel.trans (hb.mono h.bel.size)⟩
theorem OneT.put {w wx wy : World} {q : Nat} {c d bs : List Nat} {s t : TbP} (h : OneT w wx q c s) (hs : TbS wy d q t) (hd : ∀ x ∈ d, x ∈ c ∨ wx.heap.size ≤ x) (hf : Frm wx wy bs) (hb : ∀ x ∈ bs, x ∈ c) : OneT w wy q d t :=
  ⟨hs, fun x hx => (hd x hx).elim (h.g x) (Nat.le_trans h.bel.size), hf.under h.bel (fun x hx => h.g x (hb x hx)) h.bel.size⟩
def ex20 : WtP := ⟨⟨0, 1025, ⟨#[115]⟩, false⟩, ⟨⟨#[0]⟩, 2, 1⟩, 1, 3⟩
theorem ex20_is : openW ⟨5, 0, []⟩ 0 1 ⟨#[115]⟩ false ⟨⟨#[0]⟩, 2, 1⟩ = ex20 := by rfl
set_option maxRecDepth 100000 in
set_option maxHeartbeats 2000000 in
theorem first20 (w : World) : Calls Try.prog 39 #[] w fun e w' => e = .returned (.bool true) ∧ Below w.heap.size w w' := by
  go_enter Try.func39, Try.ntmps39
  go_wp2_with fail
  refine (newT_yes 0 5 w (by decide)).mono ?_; rintro e w1 ⟨q, rfl, ht, hq, hb⟩
  have HO := Lib.hid (show OneT w w1 q [q] ⟨5, 0, []⟩ from ⟨ht, fun x hx => by simp at hx; omega, hb⟩)
  clear ht hq hb
  go_wp2_with fail
  refine (open_yes [q] q ⟨5, 0, []⟩ 0 1 ⟨#[115]⟩ false ⟨#[0]⟩ 2 1 w1 HO.out.tb (by decide) (by decide) (by decide)).mono ?_; rintro e w2 ⟨rfl, ⟨cs, ht, hcs⟩, hf⟩
  rw [ex20_is]
  rw [show (encW ex20).toArray = #[.int .i64 0, .int .i64 1025, .string ⟨#[115]⟩, .bool false, .string ⟨#[0]⟩, .int .i64 2, .int .i64 1, .int .i64 1, .int .i64 3] from rfl]
  have HO2 := Lib.hid (HO.out.put ht hcs hf (fun x h => h))
  have HL2 := Lib.hid (show (openP ⟨5, 0, []⟩ 0 1 ⟨#[115]⟩ false ⟨⟨#[0]⟩, 2, 1⟩).ws.length = 1 from rfl)
  obtain ⟨S, hS⟩ : ∃ z, openP ⟨5, 0, []⟩ 0 1 ⟨#[115]⟩ false ⟨⟨#[0]⟩, 2, 1⟩ = z := ⟨_, rfl⟩
  rw [hS] at HO2 HL2
  clear ht hcs hf hS HO
  have hba := (Below.refl w2.heap.size w2).alloc (Nat.le_refl _) (.cells #[.int .i64 0, .int .i64 1025, .string ⟨#[115]⟩, .bool false, .string ⟨#[0]⟩, .int .i64 2, .int .i64 1, .int .i64 1, .int .i64 3] 79)
  have HO3 := Lib.hid (HO2.out.below hba)
  clear hba HO2
  go_wp2_with fail
  refine (lenT_any cs q S _ HO3.out.tb).mono ?_; rintro e w3 ⟨rfl, rfl⟩
  rw [HL2.out]
  go_wp2
  go_ret
  exact ⟨rfl, HO3.out.bel⟩
end Go.Proofs.Ytocfphijheidbaa
