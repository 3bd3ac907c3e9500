/- Encode of the chapter's example. -/
import Derived.Test.YtkoafkajmfodkaaMa5
namespace Go.Proofs.Ytkoafkajmfodkaa
open Go.RowKit

set_option maxRecDepth 100000 in
set_option maxHeartbeats 4000000 in
theorem numbers_any (q : Nat) (W : Int) (la : Option Addr) (n c : Nat) (l : List Int) (bv mv : Value) (X : List UInt8) (m B : Nat) (w : World) (hr : Row w la n l) (hn : n ≤ 100000) (hc : CN w q [bv, mv]) (ht : TB w q 101) (ho : w.ownsRow B 5 1 bv m (bc X)) (hB : B ≤ q) (hm : m + (joinL W l).length ≤ 1000000) :
    Calls Try.prog 52 #[.pointer (some ⟨q, 0, none⟩), .int .i64 W, .slice la n c] w fun e w' => e = .returned (.tuple #[]) ∧ ∃ bv', CN w' q [bv', mv] ∧ TB w' q 101 ∧ w'.ownsRow B 5 1 bv' (m + (joinL W l).length) (bc (X ++ joinL W l)) ∧ Below B w w' ∧ ∀ k, k < w.heap.size → k ≠ q → bv.ownBlock ≠ some k → w'.heap[k]? = w.heap[k]? := by
  obtain ⟨i0, hi, hz0, hz1, hz2⟩ := info_parts infoU8
  have HI := Lib.hid hi
  have HZ0 := Lib.hid hz0
  have HZ1 := Lib.hid hz1
  have HZ2 := Lib.hid hz2
  have HC := Lib.hid hc
  have HT := Lib.hid ht
  have HO := Lib.hid ho
  have HBS := Lib.hid (show B ≤ w.heap.size from Nat.le_trans hB (Nat.le_of_lt hc.1))
  have HB := Lib.hid (Below.refl B w)
  clear hi hz0 hz1 hz2 hc ht ho
  go_enter Try.func52, Try.ntmps52
  go_wp2_with fail
  refine (join_any W la n c l _ hr hn).mono ?_; rintro e w1 ⟨rfl, hb⟩
  replace HC := Lib.hid (HC.out.below hb)
  replace HT := Lib.hid (HT.out.below hb)
  replace HO := Lib.hid (own_below' HO.out hb)
  replace HB := Lib.hid (HB.out.trans (hb.mono HBS.out))
  replace HBS := Lib.hid (Nat.le_trans HBS.out hb.size)
  have HK0 := Lib.hid (fun k (hk : k < w.heap.size) => hb.block k hk)
  have HS0 := Lib.hid hb.size
  clear hb hr
  have c0 := (HC.out.2 0 _ rfl).1
  have f0 := (HC.out.2 0 _ rfl).2
  go_wp2_with (at_builtin; refine Lib.wpList_append_own_string _ rfl _ _ 35 9 rfl B 5 i0 Try.underlying35 Try.underlying9 HI.out HZ0.out HZ1.out HZ2.out _ m _ rfl HO.out (bs (joinL W l)) rfl ?c1 ?c2 ?c3 ?_)
  case c1 => rw [bs_size]; unfold maxLen; omega
  case c2 => rw [bs_size]; omega
  case c3 => exact HBS.out
  intro bv' w2 hown hgrow _
  rw [bs_size, strCells_bs, ← bc_append] at hown
  obtain ⟨sa, sc, rfl, -⟩ := cellsK_own hown
  have hne := own_ne HO.out HT.out (by decide)
  have hg := HB.out.grown hgrow HBS.out (fun k hk => (HO.out.lt k hk).1)
  have HC2 := Lib.hid (HC.out.grown hgrow (fun e => hne e.symm))
  have HT2 := Lib.hid (HT.out.grown hgrow hne)
  have HCZ := Lib.hid (HC2.out.set 0 (by simp) (.slice sa (m + (joinL W l).length) sc))
  have HTZ := Lib.hid (HT2.out.set 0 (.slice sa (m + (joinL W l).length) sc))
  have HOZ := Lib.hid (own_keeps hown HT2.out (by decide) (grown_cell w2 q 0 (.slice sa (m + (joinL W l).length) sc)))
  have HBZ := Lib.hid (hg.setCell hB (.slice sa (m + (joinL W l).length) sc) (p := ⟨q, 0, none⟩))
  have c0' := (HC2.out.2 0 _ rfl).1
  have f0' := (HC2.out.2 0 _ rfl).2
  have HKP := Lib.hid (fun k (hk : k < w.heap.size) (hq : k ≠ q) (hv : bv.ownBlock ≠ some k) => (heap_setCell_other w2 ⟨q, 0, none⟩ k (.slice sa (m + (joinL W l).length) sc) hq).trans ((hgrow.block k (Nat.lt_of_lt_of_le hk HS0.out) (fun e => hv e.symm)).trans (by first | exact HK0.out k hk | rfl)))
  clear c0 f0 hown hgrow hne hg
  go_wp2
  refine bodyPost_end (v := .tuple #[]) (by simp [results, Try.results52, go_sem]) rfl ⟨rfl, .slice sa (m + (joinL W l).length) sc, HCZ.out, HTZ.out, HOZ.out, HBZ.out, HKP.out⟩

set_option maxRecDepth 100000 in
set_option maxHeartbeats 4000000 in
theorem nameRoot (q : Nat)  (bv mv : Value) (X : List UInt8) (m B : Nat) (w : World)  (hc : CN w q [bv, mv]) (ht : TB w q 101) (ho : w.ownsRow B 5 1 bv m (bc X)) (hB : B ≤ q) (hm : m + 1 ≤ 1000000) :
    Calls Try.prog 53 #[.pointer (some ⟨q, 0, none⟩), .string ⟨#[0]⟩] w fun e w' => e = .returned (.tuple #[]) ∧ ∃ bv', CN w' q [bv', mv] ∧ TB w' q 101 ∧ w'.ownsRow B 5 1 bv' (m + 1) (bc (X ++ [0])) ∧ Below B w w' ∧ ∀ k, k < w.heap.size → k ≠ q → bv.ownBlock ≠ some k → w'.heap[k]? = w.heap[k]? := by
  obtain ⟨i0, hi, hz0, hz1, hz2⟩ := info_parts infoU8
  have HI := Lib.hid hi
  have HZ0 := Lib.hid hz0
  have HZ1 := Lib.hid hz1
  have HZ2 := Lib.hid hz2
  have HC := Lib.hid hc
  have HT := Lib.hid ht
  have HO := Lib.hid ho
  have HBS := Lib.hid (show B ≤ w.heap.size from Nat.le_trans hB (Nat.le_of_lt hc.1))
  have HB := Lib.hid (Below.refl B w)
  clear hi hz0 hz1 hz2 hc ht ho
  go_enter Try.func53, Try.ntmps53
  go_wp2_with fail
  go_loopw [1] (fun s wx => s = .string ⟨#[0]⟩ ∧ w = wx) (fun _ _ => 0)
  case atStart => exact ⟨rfl, rfl⟩
  case round =>
  obtain ⟨rfl, rfl⟩ := hrel
  have HK0 := Lib.hid (show ∀ k, k < w.heap.size → w.heap[k]? = w.heap[k]? from fun _ _ => rfl)
  have HS0 := Lib.hid (Nat.le_refl w.heap.size)
  have c0 := (HC.out.2 0 _ rfl).1
  have f0 := (HC.out.2 0 _ rfl).2
  go_wp2_with (at_builtin; refine Lib.wpList_append_own_string _ rfl _ _ 35 9 rfl B 5 i0 Try.underlying35 Try.underlying9 HI.out HZ0.out HZ1.out HZ2.out _ m _ rfl HO.out ⟨#[0]⟩ rfl ?c1 ?c2 ?c3 ?_)
  case c1 => first | omega | (show m + 1 ≤ _; unfold maxLen; omega)
  case c2 => first | omega | (show m + 1 ≤ _; omega)
  case c3 => exact HBS.out
  intro bv' w2 hown hgrow _
  rw [strCells_bc, ← bc_append] at hown
  obtain ⟨sa, sc, rfl, -⟩ := cellsK_own hown
  have hne := own_ne HO.out HT.out (by decide)
  have hg := HB.out.grown hgrow HBS.out (fun k hk => (HO.out.lt k hk).1)
  have HC2 := Lib.hid (HC.out.grown hgrow (fun e => hne e.symm))
  have HT2 := Lib.hid (HT.out.grown hgrow hne)
  have HCZ := Lib.hid (HC2.out.set 0 (by simp) (.slice sa (m + 1) sc))
  have HTZ := Lib.hid (HT2.out.set 0 (.slice sa (m + 1) sc))
  have HOZ := Lib.hid (own_keeps hown HT2.out (by decide) (grown_cell w2 q 0 (.slice sa (m + 1) sc)))
  have HBZ := Lib.hid (hg.setCell hB (.slice sa (m + 1) sc) (p := ⟨q, 0, none⟩))
  have c0' := (HC2.out.2 0 _ rfl).1
  have f0' := (HC2.out.2 0 _ rfl).2
  have HKP := Lib.hid (fun k (hk : k < w.heap.size) (hq : k ≠ q) (hv : bv.ownBlock ≠ some k) => (heap_setCell_other w2 ⟨q, 0, none⟩ k (.slice sa (m + 1) sc) hq).trans ((hgrow.block k (Nat.lt_of_lt_of_le hk HS0.out) (fun e => hv e.symm)).trans (by first | exact HK0.out k hk | rfl)))
  clear c0 f0 hown hgrow hne hg
  go_wp2
  refine bodyPost_end (v := .tuple #[]) (by simp [results, Try.results53, go_sem]) rfl ⟨rfl, .slice sa (m + 1) sc, HCZ.out, HTZ.out, HOZ.out, HBZ.out, HKP.out⟩
end Go.Proofs.Ytkoafkajmfodkaa
