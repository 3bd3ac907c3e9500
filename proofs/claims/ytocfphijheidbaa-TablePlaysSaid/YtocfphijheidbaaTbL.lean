/- Rows of questions compared: slices.Equal. -/
import Derived.Test.YtocfphijheidbaaTbK
import Derived.BigQuiet
import Derived.Deep.QuietTactic
namespace Go.Proofs.Ytocfphijheidbaa
open Go.RowKit

def sameQ (a b : QsP) : Bool := a.name.toList == b.name.toList && (a.ty == b.ty && a.cl == b.cl)
theorem sameQ_iff (a b : QsP) : sameQ a b = true ↔ a = b := by
  obtain ⟨x, t, c⟩ := a
  obtain ⟨y, u, d⟩ := b
  have h0 : x.toList = y.toList ↔ x = y := by
    rw [ByteArray.toList_eq, ByteArray.toList_eq]
    exact ⟨fun h => ByteArray.ext (Array.toList_inj.mp h), fun h => by rw [h]⟩
  simp [sameQ, h0]
theorem qs_neqG (x y : ByteArray) (t c u d : Int) (W : World) : (binOp .neq 66 (.agg #[.string x, .int .i64 t, .int .i64 c]) (.agg #[.string y, .int .i64 u, .int .i64 d])).run Try.prog W = .ok (.bool (!sameQ ⟨x, t, c⟩ ⟨y, u, d⟩)) W := by
  have u3 := Try.underlying3
  have a3 := Try.isAgg3
  have z3 := Try.sizeOf3
  have u9 := Try.underlying9
  have a9 := Try.isAgg9
  have z9 := Try.sizeOf9
  have hS : Try.prog.underlying 66 = some (.struct (Try.prog.fieldsOf 66)) := by
    simp [Program.fieldsOf, Try.underlying66]
  rw [run_neq_struct, show (10000 : Nat) = 9999 + 1 from rfl, run_equalIn_agg W 9999 66 _ _ hS (by kernel_rfl)]
  simp only [Program.fieldsOf, Try.underlying66, sameQ]
  go_simp
  by_cases h0 : x.toList = y.toList <;> by_cases h1 : t = u <;> by_cases h2 : c = d <;> simp [h0, h1, h2]
/-- A row of questions. -/
def RowQs (w : World) (a : Option Addr) (n : Nat) (L : List QsP) : Prop := L.length = n ∧ (n = 0 ∨ ∃ b off, a = some ⟨b, off, none⟩ ∧ b < w.heap.size ∧ ∀ (j : Nat) (r : QsP), L[j]? = some r → w.cell? ⟨b, off + j * 3, none⟩ = some (.string r.name) ∧ w.cell? ⟨b, off + j * 3 + 1, none⟩ = some (.int .i64 r.ty) ∧ w.cell? ⟨b, off + j * 3 + 2, none⟩ = some (.int .i64 r.cl))
theorem RowQs.below {w w' : World} {a : Option Addr} {n : Nat} {L : List QsP} (h : RowQs w a n L) (hb : Below w.heap.size w w') : RowQs w' a n L := by
  refine ⟨h.1, h.2.imp id ?_⟩
  rintro ⟨b, off, e, hlt, hc⟩
  exact ⟨b, off, e, Nat.lt_of_lt_of_le hlt hb.size, fun j r hj => by obtain ⟨h1, h2, h3⟩ := hc j r hj; exact ⟨cell_later hb h1, cell_later hb h2, cell_later hb h3⟩⟩
theorem RowQs.at {w : World} {a : Option Addr} {n : Nat} {L : List QsP} (h : RowQs w a n L) (j : Nat) (hj : j < n) : ∃ b off r, a = some ⟨b, off, none⟩ ∧ L[j]? = some r ∧ w.cell? ⟨b, off + j * 3, none⟩ = some (.string r.name) ∧ w.cell? ⟨b, off + j * 3 + 1, none⟩ = some (.int .i64 r.ty) ∧ w.cell? ⟨b, off + j * 3 + 2, none⟩ = some (.int .i64 r.cl) := by
  rcases h.2 with h0 | ⟨b, off, e, _, hc⟩
  · omega
  · obtain ⟨r, hr⟩ : ∃ r, L[j]? = some r := ⟨_, List.getElem?_eq_getElem (by rw [h.1]; exact hj)⟩
    exact ⟨b, off, r, e, hr, hc j r hr⟩
set_option maxRecDepth 100000 in
set_option maxHeartbeats 2000000 in
/-- Equal tells whether two lists of questions are alike. -/
theorem eqQ_any (a b : Option Addr) (n c m d : Nat) (L M : List QsP) (w : World) (ha : RowQs w a n L) (hb : RowQs w b m M) (hn : n ≤ 1000000) :
    Calls Try.prog 83 #[.slice a n c, .slice b m d] w fun e w' => (e = .returned (.bool true) ∧ L = M ∨ e = .returned (.bool false) ∧ L ≠ M) ∧ Below w.heap.size w w' := by
  have HA := Lib.hid ha
  have HB := Lib.hid hb
  have HLN := Lib.hid (show L.length = n ∧ M.length = m from ⟨ha.1, hb.1⟩)
  clear ha hb
  by_cases hnm : n = m
  · subst hnm
    have e0 : (n != n) = false := by simp
    go_enter Try.func83, Try.ntmps83
    go_wp2_with fail
    go_loopw [13] (fun i wr => ∃ k : Nat, k ≤ n ∧ i = .int .i64 k ∧ Hid (L.take k = M.take k) ∧ Hid (Below w.heap.size w wr)) (fun i _ => n - (intOf i).toNat)
    case atStart => exact ⟨0, Nat.zero_le _, rfl, Lib.hid rfl, Lib.hid (Below.refl _ _)⟩
    case round =>
      obtain ⟨k, hk, rfl, HE, HBW⟩ := hrel
      by_cases hlt : k < n
      · obtain ⟨ba, oa, r, ea, hr, f0, f1, f2⟩ := (HA.out.below HBW.out).at k hlt
        obtain ⟨bb, ob, s, eb, hs, g0, g1, g2⟩ := (HB.out.below HBW.out).at k hlt
        subst ea
        subst eb
        obtain ⟨rn, rt, rc⟩ := r
        obtain ⟨sn, st, sc⟩ := s
        have HR := Lib.hid hr
        have HS := Lib.hid hs
        have i1 : (0 : Int) ≤ (k : Int) := by omega
        have i2 : (k : Int) < (n : Int) := by omega
        have d0 : decide (k < n) = true := dT hlt
        have HLT := Lib.hid hlt
        have hnq := fun W => qs_neqG rn sn rt rc st sc W
        obtain ⟨ok, hok⟩ : ∃ z, sameQ ⟨rn, rt, rc⟩ ⟨sn, st, sc⟩ = z := ⟨_, rfl⟩
        simp only [hok] at hnq
        have HOK := Lib.hid hok
        clear hr hs hlt hok
        cases ok
        · go_wp2_with fail
          go_quiet (fail)
          rename_i nq
          have HB9 := Lib.hid (below_drewN HBW.out nq)
          go_wp2
          go_ret
          exact ⟨Or.inr ⟨rfl, fun e => by
            have h1 := HR.out
            rw [e, HS.out] at h1
            injection h1 with h1
            have h2 := HOK.out
            rw [← h1, (sameQ_iff _ _).2 rfl] at h2
            cases h2⟩, HB9.out⟩
        · go_wp2_with fail
          go_quiet (fail)
          rename_i nq
          have HB9 := Lib.hid (below_drewN HBW.out nq)
          go_wp2
          go_roundw
          case rel => exact ⟨k + 1, HLT.out, by go_num, Lib.hid (by
            obtain ⟨h1, h2⟩ := List.getElem?_eq_some_iff.1 HR.out
            obtain ⟨h3, h4⟩ := List.getElem?_eq_some_iff.1 HS.out
            rw [List.take_succ_eq_append_getElem h1, List.take_succ_eq_append_getElem h3, HE.out, h2, h4, (sameQ_iff _ _).1 HOK.out]), HB9⟩
          case measure =>
            simp only [intOf]
            have := HLT.out
            omega
      · have d0 : decide (k < n) = false := dF hlt
        obtain rfl : n = k := by omega
        have HLM := Lib.hid (show L = M from by
          have h := HE.out
          rwa [List.take_of_length_le (by rw [HLN.out.1]; exact Nat.le_refl _), List.take_of_length_le (by rw [HLN.out.2]; exact Nat.le_refl _)] at h)
        clear hlt hk
        go_wp2
        go_ret
        exact ⟨Or.inl ⟨rfl, HLM.out⟩, HBW.out⟩
  · have e0 : (n != m) = true := by simpa using hnm
    have e1 : ((n : Int) != (m : Int)) = true := nT (by omega)
    have HNE := Lib.hid (show L ≠ M from fun e => hnm (by rw [← HLN.out.1, ← HLN.out.2, e]))
    clear hnm
    go_enter Try.func83, Try.ntmps83
    go_wp2
    go_ret
    exact ⟨Or.inr ⟨rfl, HNE.out⟩, Below.refl _ _⟩
end Go.Proofs.Ytocfphijheidbaa
