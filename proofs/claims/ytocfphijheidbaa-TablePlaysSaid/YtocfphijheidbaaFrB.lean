/- Contracts of Bytes, Lists, CopyBytes, Clone, few, frame.Put (chapter 7), over this seat's translation. -/
import Derived.Test.YtocfphijheidbaaMgW
import Derived.Test.YtocfphijheidbaaFrA
import Derived.Test.YtocfphijheidbaaNumA
namespace Go.Proofs.Ytocfphijheidbaa
open Go.RowKit

theorem ret_vi {l : IntKind} {v : Value} {c d : Int} (g : c = d) : Ending.returned (.tuple #[v, .int l c]) = Ending.returned (.tuple #[v, .int l d]) := by rw [g]
theorem put_fit (n : Nat) (h : n ≤ 65535) : putL n 2 = [UInt8.ofNat (n / 256), UInt8.ofNat n] ∧ putE n 2 = 0 := by
  have hf : fits n 2 = true := by
    simp only [fits, decide_eq_true_eq]
    refine ⟨by omega, by omega, by omega, ?_⟩
    show (n : Int) / 2 ^ 16 ≤ 0
    omega
  refine ⟨?_, by rw [putE, if_pos hf]⟩
  rw [putL, if_pos hf]
  have e : putTo n (2 : Int).toNat (2 : Int).toNat = [by8 ((n : Int) / 2 ^ 8), by8 ((n : Int) / 2 ^ 0)] := rfl
  rw [e]
  have e1 : by8 ((n : Int) / 2 ^ 8) = UInt8.ofNat (n / 256) := by
    apply UInt8.toNat_inj.1
    have := by8_toNat ((n : Int) / 2 ^ 8)
    rw [UInt8.toNat_ofNat']; omega
  have e2 : by8 ((n : Int) / 2 ^ 0) = UInt8.ofNat n := by
    apply UInt8.toNat_inj.1
    have := by8_toNat ((n : Int) / 2 ^ 0)
    rw [UInt8.toNat_ofNat']; omega
  rw [e1, e2]
theorem put_unfit (n : Nat) (h : ¬ n ≤ 65535) : putL n 2 = [] ∧ putE n 2 = 1 := by
  have hf : ¬ fits n 2 = true := by
    simp only [fits, decide_eq_true_eq]
    intro h2
    have h3 : (n : Int) / 2 ^ 16 ≤ 0 := h2.2.2.2
    omega
  exact ⟨by rw [putL, if_neg hf], by rw [putE, if_neg hf]⟩

theorem bytes_same (a b : Option Addr) (n c d : Nat) (l : List UInt8) (w : World) (ha : RowB w a n l) (hb : RowB w b n l) (na : a = none → n = 0 ∧ c = 0) (nb : b = none → n = 0 ∧ d = 0) :
    Calls Try.prog 16 #[.slice a n c, .slice b n d] w fun e w' => e = .returned (.bool true) ∧ w = w' := by
  have h1 := conv_row (cap := c) ha na
  have h2 := conv_row (cap := d) hb nb
  obtain ⟨s, hs⟩ : ∃ s, bs l = s := ⟨_, rfl⟩
  rw [hs] at h1 h2
  clear ha hb na nb hs
  go_enter Try.func16, Try.ntmps16
  go_wp2
  go_ret
  exact ⟨rfl, rfl⟩

theorem copyBytes_any (a : Option Addr) (n c : Nat) (l : List UInt8) (w : World) (h : RowB w a n l) (hn : a = none → n = 0 ∧ c = 0) (hlen : n ≤ 1000000) :
    Calls Try.prog 62 #[.slice a n c] w fun e w' => ∃ v, e = .returned v ∧ w'.ownsRow w.heap.size 5 1 v n (bc l) ∧ Below w.heap.size w w' := by
  have HR := Lib.hid h
  have HN := Lib.hid hn
  obtain ⟨i0, hi, hz0, hz1, hz2⟩ := info_parts infoU8
  have HI := Lib.hid hi
  have HZ0 := Lib.hid hz0
  have HZ1 := Lib.hid hz1
  have HZ2 := Lib.hid hz2
  clear h hn hi hz0 hz1 hz2
  go_enter Try.func62, Try.ntmps62
  go_wp2_with (at_builtin; refine append_cells rfl _ _ 25 5 rfl i0 (.int .u8 0) 1 Try.underlying25 HI.out HZ0.out HZ1.out HZ2.out rfl w.heap.size _ 0 [] rfl (World.ownsRow_made w #[] 0 (Nat.le_refl _) (by decide) rfl) a n c (bc l) rfl HN.out (CellsAt.below HR.out ((Below.refl _ _).alloc (Nat.le_refl _) _)) (bc_oneCell l) (by omega) (by decide) (by simp) ?_)
  intro v' w' hown hgrow
  have HB := Lib.hid (((Below.refl w.heap.size w).alloc (Nat.le_refl _) _).grown hgrow (by simp) (fun k hk => by simp [Value.ownBlock] at hk; omega))
  have HO := Lib.hid hown
  clear hown hgrow
  go_wp2
  go_ret
  exact ⟨_, rfl, HO.out, HB.out⟩

theorem clone_any (a : Addr) (n c : Nat) (l : List UInt8) (w : World) (h : RowB w (some a) n l) (hlen : n ≤ 1000000) :
    Calls Try.prog 71 #[.slice (some a) n c] w fun e w' => ∃ v, e = .returned v ∧ w'.ownsRow w.heap.size 5 1 v n (bc l) ∧ Below w.heap.size w w' := by
  have HR := Lib.hid h
  obtain ⟨i0, hi, hz0, hz1, hz2⟩ := info_parts infoU8
  have HI := Lib.hid hi
  have HZ0 := Lib.hid hz0
  have HZ1 := Lib.hid hz1
  have HZ2 := Lib.hid hz2
  clear h hi hz0 hz1 hz2
  have hnil := fun w => Lib.run_eql_slice_nil (P := Try.prog) w 25 5 (some a) n c 0 0 Try.underlying25
  go_enter Try.func71, Try.ntmps71
  go_wp2_with (at_builtin; refine append_cells rfl _ _ 25 5 rfl i0 (.int .u8 0) 1 Try.underlying25 HI.out HZ0.out HZ1.out HZ2.out rfl w.heap.size _ 0 [] rfl (World.ownsRow_made w #[] 0 (Nat.le_refl _) (by decide) rfl) (some a) n c (bc l) rfl (fun h => by cases h) (CellsAt.below HR.out ((Below.refl _ _).alloc (Nat.le_refl _) _)) (bc_oneCell l) (by omega) (by decide) (by simp) ?_)
  intro v' w' hown hgrow
  have HB := Lib.hid (((Below.refl w.heap.size w).alloc (Nat.le_refl _) _).grown hgrow (by simp) (fun k hk => by simp [Value.ownBlock] at hk; omega))
  have HO := Lib.hid hown
  clear hown hgrow
  go_wp2
  go_ret
  exact ⟨_, rfl, HO.out, HB.out⟩

set_option maxRecDepth 100000 in
theorem lists_same (a b : Option Addr) (n c d : Nat) (M : List (List UInt8)) (w : World) (ha : RowBB w a n M) (hb : RowBB w b n M) (hn : n ≤ 100000) : Calls Try.prog 32 #[.slice a n c, .slice b n d] w fun e w' => e = .returned (.bool true) ∧ Below w.heap.size w w' := by
  have HA := Lib.hid ha
  have HB := Lib.hid hb
  clear ha hb
  go_enter Try.func32, Try.ntmps32
  go_wp2_with fail
  go_loopw [5] (fun i wr => ∃ k : Nat, k ≤ n ∧ i = .int .i64 k ∧ Below w.heap.size w wr) (fun i _ => n - (intOf i).toNat)
  case atStart => exact ⟨0, Nat.zero_le _, rfl, Below.refl _ _⟩
  case round =>
    obtain ⟨k, hk, rfl, hbel⟩ := hrel
    have HBL := Lib.hid hbel
    clear hbel
    by_cases hlt : k < n
    · obtain ⟨b1, o1, ai, ci, rfl, hbl1, c1, r1, n1⟩ := (HA.out.below HBL.out).at k hlt
      obtain ⟨b2, o2, aj, cj, rfl, hbl2, c2, r2, n2⟩ := (HB.out.below HBL.out).at k hlt
      have i1 : (k : Int) < (n : Int) := by omega
      obtain ⟨m, hm⟩ : ∃ m, M.getD k [] = m := ⟨_, rfl⟩
      rw [hm] at c1 r1 n1 c2 r2 n2
      have HBS := Lib.hid (fun q => bytes_same ai aj m.length ci cj m (wr.drewN q) (CellsAt.below r1 (below_drewN (Below.refl _ _) q)) (CellsAt.below r2 (below_drewN (Below.refl _ _) q)) n1 n2)
      obtain ⟨s, hs⟩ : ∃ s, m.length = s := ⟨_, rfl⟩
      rw [hs] at c1 c2 HBS
      clear r1 n1 r2 n2 hm hs
      go_wp2_with fail
      go_quiet ((go_at_call 16; exact quiet_same (HBS.out _)))
      rename_i nq
      have HB9 := Lib.hid (below_drewN HBL.out nq)
      go_wp2
      go_roundw
      case rel => exact ⟨k + 1, by omega, by go_num, HB9.out⟩
      case measure => simp [intOf]; omega
    · go_wp2
      go_ret
      exact ⟨rfl, HBL.out⟩

end Go.Proofs.Ytocfphijheidbaa
