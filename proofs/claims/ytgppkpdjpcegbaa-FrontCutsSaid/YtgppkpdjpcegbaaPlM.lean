/- The places of names as a map of the call's own reads. -/
import Derived.Test.YtgppkpdjpcegbaaWnP
import Derived.Maps.Views
namespace Go.Proofs.Ytgppkpdjpcegbaa
open Go.RowKit
open Go.Maps (has IsMap)

/-- A name's key. -/
def keyL (L : List ByteArray) : Lit := .string (nameL L)
theorem keyL_inj {L M : List ByteArray} (hL : OkL L) (hM : OkL M) (h : keyL L = keyL M) : L = M := by
  unfold keyL at h
  injection h with h
  exact nameL_inj hL hM h
theorem keyL_key (L : List ByteArray) : WideAt.IsKeyLit (keyL L) := by
  first | trivial | exact ⟨_, rfl⟩ | simp [keyL, WideAt.IsKeyLit]
/-- The datum D tells the places f. -/
def PlsD (D : DataW Unit) (f : Pls) : Prop := IsMap D ∧ (∀ L, OkL L → has D (keyL L) = (f L).isSome) ∧ ∀ L p, OkL L → f L = some p → D.atKey (keyL L) (.lit (.int .i64 0)) = .lit (.int .i64 (p : Nat))
theorem PlsD.nil : PlsD (.map []) (fun _ => none) := ⟨⟨[], rfl⟩, fun _ _ => rfl, fun _ _ _ h => by cases h⟩
theorem PlsD.put {D : DataW Unit} {f : Pls} (h : PlsD D f) {L : List ByteArray} (hL : OkL L) (p : Nat) : PlsD (D.put (keyL L) (.lit (.int .i64 (p : Nat)))) (setPl f L p) := by
  refine ⟨h.1.put _ _, fun M hM => ?_, fun M p' hM hp => ?_⟩
  · by_cases e : M = L
    · subst e
      rw [Maps.has_put_same h.1 (keyL_key _), setPl_same]
      rfl
    · rw [Maps.has_put_other (fun e2 => e (keyL_inj hM hL e2)), setPl_other f p e]
      exact h.2.1 M hM
  · by_cases e : M = L
    · subst e
      rw [setPl_same] at hp
      injection hp with hp
      subst hp
      exact Maps.atKey_put_same h.1 (keyL_key _) _ _
    · rw [setPl_other f p e] at hp
      rw [Maps.atKey_put_other (fun e2 => e (keyL_inj hM hL e2))]
      exact h.2.2 M p' hM hp
theorem keyOf_name {L : List ByteArray} (hz : (nameB L).size ≤ maxLen) : keyOf Try.prog 9 (.string (nameB L)) = some (keyL L) := by
  have e : (nameB L).data.toList = nameL L := by simp [nameB, bs]
  unfold keyOf
  rw [Try.underlying9]
  simp only [mapKey]
  rw [Try.underlying9]
  simp [e, keyL, hz]
end Go.Proofs.Ytgppkpdjpcegbaa
