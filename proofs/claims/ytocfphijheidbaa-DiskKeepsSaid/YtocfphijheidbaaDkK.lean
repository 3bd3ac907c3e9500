/- All sectors of a disk (the statement's own list). -/
import Derived.Test.YtocfphijheidbaaDkJ
namespace Go.Proofs.Ytocfphijheidbaa
open Go.RowKit

def secL (s : DkP) (n : Nat) : List (List UInt8) := (List.range n).map s.R
theorem secL_len (s : DkP) (n : Nat) : (secL s n).length = n := by simp [secL]
theorem secL_succ (s : DkP) (n : Nat) : secL s (n + 1) = secL s n ++ [s.R n] := by simp [secL, List.range_succ]
theorem own_base {w : World} {B B' n size : Nat} {e : TypeId} {v : Value} {xs : List Value} (h : w.ownsRow B e size v n xs) (hb : B' ≤ B) : w.ownsRow B' e size v n xs :=
  ⟨h.1, h.2.imp id (fun ⟨g, c, d, h1, h2, h3⟩ => ⟨g, c, d, h1, Nat.le_trans hb h2, h3⟩)⟩
set_option maxRecDepth 100000 in
set_option maxHeartbeats 4000000 in
theorem all_up (q : Nat) (bs : List Nat) (s : DkP) (w : World) (h : DkS w bs q s) (hd : s.down = false) :
    Calls Try.prog 28 #[.pointer (some ⟨q, 0, none⟩)] w fun e w' => ∃ v, e = .returned v ∧ OwnF w' w.heap.size v (secL s s.n) ∧ Below w.heap.size w w' := by
  obtain ⟨ii, hi, hz0, hz1, hz2⟩ := info_parts infoBs
  have HI := Lib.hid hi
  have HZ0 := Lib.hid hz0
  have HZ1 := Lib.hid hz1
  have HZ2 := Lib.hid hz2
  have HS := Lib.hid h
  have HD := Lib.hid hd
  have HNB := Lib.hid (show s.n ≤ 2048 from h.choose_spec.choose_spec.choose_spec.choose_spec.2.2.1.2)
  have HL := Lib.hid (show ∀ k, k < s.n → (s.R k).length = 256 from h.choose_spec.choose_spec.choose_spec.choose_spec.2.2.2.2.1)
  obtain ⟨N, hN⟩ : ∃ N, s.n = N := ⟨_, rfl⟩
  have HNE := Lib.hid hN
  rw [hN]
  clear hi hz0 hz1 hz2 h hd hN
  go_enter Try.func28, Try.ntmps28
  go_wp2_with fail
  go_loopw [3, 4] (fun v i wr => ∃ k : Nat, k ≤ N ∧ i = .int .i64 k ∧ Hid (OwnF wr w.heap.size v (secL s k)) ∧ Hid (Below w.heap.size w wr)) (fun _ i _ => N - (intOf i).toNat)
  case atStart => exact ⟨0, Nat.zero_le _, rfl, Lib.hid (OwnF.nil _ _), Lib.hid (Below.refl _ _)⟩
  case round =>
    obtain ⟨k, hk, rfl, HO, HB⟩ := hrel
    have HSr := Lib.hid (HS.out.below HB.out)
    by_cases hlt : k < N
    · have dd : decide ((k : Int) < (N : Int)) = true := dT (by omega)
      have d0 : decide (k < N) = true := dT hlt
      have HLT := Lib.hid hlt
      clear hlt
      go_wp2_with fail
      refine (sectors_any q bs s wr HSr.out).mono ?_; rintro e w9 ⟨rfl, rfl⟩
      rw [HNE.out]
      go_wp2_with fail
      refine (read_yes q k bs s wr HSr.out (by rw [HNE.out]; exact HLT.out) HD.out).mono ?_; rintro e w2 ⟨v2, rfl, ho2, hb2⟩
      obtain ⟨a5, c5, rfl, -⟩ := cells_own ho2
      have hal := (Below.refl w2.heap.size w2).alloc (Nat.le_refl _) (.cells #[.slice a5 256 c5] 25)
      have HB2 := Lib.hid (HB.out.trans (hb2.mono HB.out.size))
      have HBA := Lib.hid (HB2.out.trans (hal.mono HB2.out.size))
      have HOA := Lib.hid ((HO.out.below hb2).below hal)
      have HUA := Lib.hid (show (w2.alloc (.cells #[.slice a5 256 c5] 25)).ownsRow w.heap.size 5 1 (.slice a5 256 c5) (s.R k).length (bc (s.R k)) by
        rw [HL.out k (by rw [HNE.out]; exact HLT.out)]
        exact own_base (own_below' ho2 hal) HB.out.size)
      obtain ⟨xs, hx1, hx2⟩ := HOA.out
      rw [secL_len] at hx1
      obtain ⟨a3, c3, rfl, -⟩ := cells_own hx1
      have HX1 := Lib.hid hx1
      have HX2 := Lib.hid hx2
      have HCA := Lib.hid (show CellsAt (w2.alloc (.cells #[.slice a5 256 c5] 25)) (some ⟨w2.heap.size, 0, none⟩) 1 [.slice a5 256 c5] from cells_lit w2 #[.slice a5 256 c5] 25)
      have hkb : k + 1 ≤ 2049 := by have := HNB.out; have := HLT.out; have := HNE.out; omega
      clear hx1 hx2 hal ho2 hb2
      go_wp2_with (at_builtin; refine append_cells rfl _ _ 22 25 rfl ii (.slice none 0 0) 24 Try.underlying22 HI.out HZ0.out HZ1.out HZ2.out rfl w.heap.size _ k xs rfl HX1.out (some ⟨w2.heap.size, 0, none⟩) 1 1 [.slice a5 256 c5] rfl (fun h => by cases h) HCA.out (by intro u hu; rw [List.mem_singleton] at hu; subst hu; rfl) (by omega) (by decide) HBA.out.size ?_)
      intro v' w3 h1 h2
      have HO3 := Lib.hid (show OwnF w3 w.heap.size v' (secL s (k + 1)) by
        rw [secL_succ]
        refine OwnF.more (by rw [secL_len]; exact HX1.out) HX2.out HUA.out (by rw [secL_len]; exact h1) h2)
      have HB3 := Lib.hid (HBA.out.grown h2 HBA.out.size (fun j hj => (HX1.out.lt j hj).1))
      clear h1 h2
      go_wp2
      go_roundw
      case rel => exact ⟨k + 1, HLT.out, by go_num, HO3, HB3⟩
      case measure =>
        simp only [intOf]
        have := HLT.out
        omega
    · have dd : decide ((k : Int) < (N : Int)) = false := dF (by omega)
      have d0 : decide (k < N) = false := dF hlt
      have hkN : k = N := by omega
      have HOW := Lib.hid (show OwnF wr w.heap.size u3 (secL s N) by rw [← hkN]; exact HO.out)
      clear hlt hkN hk
      go_wp2_with fail
      refine (sectors_any q bs s wr HSr.out).mono ?_; rintro e w9 ⟨rfl, rfl⟩
      rw [HNE.out]
      go_wp2
      go_ret
      exact ⟨_, rfl, HOW.out, HB.out⟩
end Go.Proofs.Ytocfphijheidbaa
