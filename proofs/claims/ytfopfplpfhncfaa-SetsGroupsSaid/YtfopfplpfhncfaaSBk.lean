/- Sets as records, grouped again, are the sets: the walk. -/
import Derived.Test.YtfopfplpfhncfaaSBa
import Derived.Test.YtfopfplpfhncfaaFix
namespace Go.Proofs.Ytfopfplpfhncfaa
open Go.RowKit

theorem ix_ss (b o n cap k : Nat) (h : k < n) (W : World) : (Instr.indexAt 23 (.slice (some ⟨b, o, none⟩) n cap) (.int .i64 (k : Int))).run Try.prog W = .ok (.pointer (some ⟨b, o + k * 5, none⟩)) W := by
  go_simp
theorem ix_st (b o n cap k : Nat) (h : k < n) (W : World) : (Instr.indexAt 30 (.slice (some ⟨b, o, none⟩) n cap) (.int .i64 (k : Int))).run Try.prog W = .ok (.pointer (some ⟨b, o + k, none⟩)) W := by
  go_simp

end Go.Proofs.Ytfopfplpfhncfaa
