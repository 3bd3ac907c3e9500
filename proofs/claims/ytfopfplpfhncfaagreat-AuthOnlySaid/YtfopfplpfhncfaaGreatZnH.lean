/- Zones: what the chapter's examples fix. -/
import Derived.Test.YtfopfplpfhncfaaGreatZnG
import Derived.Test.YtfopfplpfhncfaaGreatMgC
import Derived.Test.YtfopfplpfhncfaaGreatFew4
namespace Go.Proofs.YtfopfplpfhncfaaGreat
open Go.RowKit

def rootB : ByteArray := ⟨#[0]⟩
def soa0 : ByteArray := ⟨#[0, 0, 0, 0, 0, 1, 0, 0, 0, 2, 0, 0, 0, 3, 0, 0, 0, 4, 0, 0, 0, 5]⟩
def r6 : R5 := ⟨⟨rootB, 6, 1⟩, 9, soa0⟩
def r2 : R5 := ⟨⟨rootB, 2, 1⟩, 9, rootB⟩
theorem putSoa_root : putSoaS ⟨#[0]⟩ ⟨#[0]⟩ [1, 2, 3, 4, 5] = soa0 ∧ putSoaE ⟨#[0]⟩ ⟨#[0]⟩ [1, 2, 3, 4, 5] = 0 := by
  constructor <;> kernel_rfl
theorem may_r6 : mayR5 r6 = true := by kernel_rfl
theorem may_r2 : mayR5 r2 = true := by kernel_rfl
theorem may_root : mayN rootB = true := by kernel_rfl
theorem kcmp_26 : kcmp r2.k r6.k < 0 := by
  show orI [cmpS rootB rootB, Lib.compareInt 1 1, Lib.compareInt 2 6] < 0
  rw [or3, (ord_cmpS.zero _ _).2 rfl]
  decide
theorem canon_least : Canon [r6, r2] [⟨r2.k, 9, [rootB]⟩, ⟨r6.k, 9, [soa0]⟩] := by
  have h1 : Canon [r2] [⟨r2.k, 9, [rootB]⟩] := Canon.nil.new (r := r2) (fun s h => by cases h)
  have h2 : Canon ([r2] ++ [r6]) ([⟨r2.k, 9, [rootB]⟩] ++ [⟨r6.k, 9, [soa0]⟩]) := h1.new (r := r6) (fun s h => by
    obtain rfl := List.mem_singleton.1 h
    exact kcmp_26)
  exact h2.of_mem (fun r => by simp [or_comm])
theorem canon_soa : Canon [r6] [⟨r6.k, 9, [soa0]⟩] := Canon.nil.new (r := r6) (fun s h => by cases h)
theorem und_root : undS rootB rootB = true := by
  rw [undS, may_root, undL_refl]; rfl
theorem canon_same {l : List R5} {S S' : List SetP} (h : Canon l S) (h' : Canon l S') : S = S' := canon_eq h h' (fun _ _ => Iff.rfl) (fun _ _ => Iff.rfl)
theorem whole_least {S : List SetP} (h : Canon [r6, r2] S) : wholeB rootB S = true ∧ sumD S = 2 := by
  have hS := canon_same h canon_least
  have f6 : (findK S ⟨rootB, 6, 1⟩).isSome = true := by
    obtain ⟨s, hs, -⟩ := h.found (r := r6) (by simp)
    rw [show (⟨rootB, 6, 1⟩ : Ky) = r6.k from rfl, hs]; rfl
  have f2 : (findK S ⟨rootB, 2, 1⟩).isSome = true := by
    obtain ⟨s, hs, -⟩ := h.found (r := r2) (by simp)
    rw [show (⟨rootB, 2, 1⟩ : Ky) = r2.k from rfl, hs]; rfl
  constructor
  · rw [whole_yes, f6, f2]
    · rw [hS]; rfl
    · rw [hS]; intro s hs
      simp only [List.mem_cons, List.not_mem_nil, or_false] at hs
      rcases hs with rfl | rfl <;> (show (undS rootB rootB && _) = true; rw [und_root]; rfl)
    · rw [hS]; intro s hs
      simp only [List.mem_cons, List.not_mem_nil, or_false] at hs
      rcases hs with rfl | rfl <;> rfl
  · rw [hS]; rfl
theorem whole_soa {S : List SetP} (h : Canon [r6] S) : wholeB rootB S = false := by
  have hS := canon_same h canon_soa
  have f2 : findK S ⟨rootB, 2, 1⟩ = none := by
    rw [hS]
    refine findK_none (j := 1) (fun s hs e => ?_) (Nat.le_refl _)
    obtain rfl := List.mem_singleton.1 hs
    exact absurd (congrArg Ky.t e) (by decide)
  unfold wholeB
  rw [f2]
  simp
set_option maxRecDepth 100000 in
theorem least_any (w : World) : Calls Tryz.prog 62 #[.string ⟨#[0]⟩] w fun e w' => (∃ g, e = .returned (.slice (some ⟨g, 0, none⟩) 2 2) ∧ RowR w' (some ⟨g, 0, none⟩) 2 [r6, r2]) ∧ Below w.heap.size w w' := by
  have HP := Lib.hid (fun wx => rputSoa_any ⟨#[0]⟩ ⟨#[0]⟩ 1 2 3 4 5 wx (by decide) (by decide))
  rw [putSoa_root.1, putSoa_root.2] at HP
  go_enter Tryz.func62, Tryz.ntmps62
  go_wp2_with fail
  refine (HP.out _).mono ?_; rintro e w1 ⟨rfl, hb⟩
  have HB := Lib.hid (hb.alloc hb.size (.cells #[.string ⟨#[0]⟩, .int .i64 6, .int .i64 1, .int .i64 9, .string soa0, .string ⟨#[0]⟩, .int .i64 2, .int .i64 1, .int .i64 9, .string ⟨#[0]⟩] 125))
  have HC := Lib.hid (show RowR (w1.alloc (.cells #[.string ⟨#[0]⟩, .int .i64 6, .int .i64 1, .int .i64 9, .string soa0, .string ⟨#[0]⟩, .int .i64 2, .int .i64 1, .int .i64 9, .string ⟨#[0]⟩] 125)) (some ⟨w1.heap.size, 0, none⟩) 2 [r6, r2] from ⟨rfl, cells_lit w1 #[.string ⟨#[0]⟩, .int .i64 6, .int .i64 1, .int .i64 9, .string soa0, .string ⟨#[0]⟩, .int .i64 2, .int .i64 1, .int .i64 9, .string ⟨#[0]⟩] 125⟩)
  clear hb
  go_wp2
  go_ret
  exact ⟨⟨_, rfl, HC.out⟩, HB.out⟩
end Go.Proofs.YtfopfplpfhncfaaGreat
