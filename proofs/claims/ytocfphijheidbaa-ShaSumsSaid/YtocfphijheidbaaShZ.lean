/- append(b, make([]byte, k)...) onto a row of the call's own. -/
import Derived.Test.YtocfphijheidbaaBRx
import Derived.Lib.AppendZerosOnto
namespace Go.Proofs.Ytocfphijheidbaa
open Go.RowKit

theorem zero_cells (k : Nat) : Builtin.zeroCells (Value.int .u8 0).cells k = (bc (List.replicate k 0)).toArray := by
  apply Array.ext'
  simp [Builtin.zeroCells, Value.cells, bc, Nat.mod_one, List.map_const']
theorem run_append_zeros8 {w : World} {B n : Nat} {v : Value} {l : List UInt8} (hown : w.ownsRow B 5 1 v n (bc l)) (k : Nat) (hk : 0 < k) (hn0 : 0 < n) (hn : n + k ≤ 1000000) (hB : B ≤ w.heap.size) (ty : TypeId) :
    ∃ v' w', (Builtin.append_ #[25, 3] ty #[v, .int .i64 (k : Int)]).run Try.prog w = .ok v' w' ∧ w'.ownsRow B 5 1 v' (n + k) (bc (l ++ List.replicate k 0)) ∧ w.grownBy w' v.ownBlock := by
  obtain ⟨i, hi, hz0, hz1, hz2⟩ := info_parts infoU8
  have hl : l.length = n := by have := hown.1; rw [bc_length] at this; omega
  rcases hown.2 with ⟨_, h⟩ | ⟨g, cap, cur, rfl, hbg, hg, hnc, hcm, hcs, htake⟩
  · omega
  · rw [Nat.mul_one] at hcs htake
    by_cases hroom : n + k ≤ cap
    · have hfit : n + (bc (List.replicate k 0)).length ≤ cur.size := by rw [bc_length, List.length_replicate]; omega
      have hst := run_storeCells_at Try.prog g n 5 (bc (List.replicate k 0)) 0 cur w hg (by simpa using hfit) (bc_oneCell _)
      simp only [Nat.add_zero] at hst
      have hw : IntKind.i64.wrap (k : Int) = k := by rw [IntKind.wrap_i64]; omega
      have hneg : ¬ ((k : Int) < 0) := by omega
      have h48 : ¬ (281474976710656 < (k : Int)) := by omega
      have hk0 : ¬ k = 0 := by omega
      refine ⟨_, w.setRow g (cur.toList.take n ++ bc (List.replicate k 0) ++ cur.toList.drop (n + (bc (List.replicate k 0)).length)).toArray, ?_, ⟨by rw [bc_length, List.length_append, List.length_replicate]; omega, .inr ⟨g, cap, _, rfl, hbg, setRow_heap w g cur _ 5 _ hg, hroom, hcm, ?_, ?_⟩⟩, ⟨rfl, rfl, rfl, by simp, fun k' _ hk' => setRow_other w g k' _ (fun e => hk' (by simp [Value.ownBlock, e]))⟩⟩
      · simp [Builtin.append_, run_underlying Try.underlying25, run_underlying Try.underlying3, sizeOf, typeInfo, zeroValue, hi, hz0, hz1, hz2, asInt, asIntOf, hw, hroom, hneg, h48, hk0, zero_cells, Addr.add_lit, hst]
      · simp only [List.size_toArray, List.length_append, List.length_take, List.length_drop, Array.length_toList, bc_length, List.length_replicate]
        omega
      · rw [htake, Nat.mul_one, bc_append]
        have e : (bc l ++ bc (List.replicate k 0)).length = n + k := by rw [List.length_append, bc_length, bc_length, List.length_replicate, hl]
        rw [← e]
        exact List.take_left
    · have hold : (Builtin.firstCells i.size n (.slice (some ⟨g, 0, none⟩) n cap)).run Try.prog w.drew = .ok (bc l).toArray w.drew :=
        run_firstCells_some (P := Try.prog) w.drew i.size n ⟨g, 0, none⟩ n cap (bc l) (by rw [bc_length, hz1]; omega) (fun j u hj => by
          have := hown.cells (g := g) rfl j u hj
          exact this)
      have hG : n + k ≤ grownCap w (n + k) cap 5 := grownCap_ge w _ _ _
      have hG2 := grownCap_le_maxLen w (n + k) cap 5 (by unfold maxLen; omega)
      have hr := Lib.run_append_grow_zeros w 25 3 ty 5 i _ .i64 .i64 Try.underlying25 Try.underlying3 hi hz0 (some ⟨g, 0, none⟩) n cap (bc l) hold k hk (by omega) (by omega) (by omega) (by rw [hz2]; omega) (by
        rw [hz2]
        have := nextslicecap_le (need := n + k) (old := cap) (by omega)
        omega)
      refine ⟨_, _, hr, ⟨by rw [bc_length, List.length_append, List.length_replicate]; omega, .inr ⟨w.heap.size, _, (bc l).toArray ++ Builtin.zeroCells (Value.int .u8 0).cells k ++ Builtin.zeroCells (Value.int .u8 0).cells (grownCap w (n + k) cap 5 - (n + k)), rfl, hB, heap_alloc_new w.drew _, hG, hG2, ?_, ?_⟩⟩, ?_⟩
      · rw [zero_cells, zero_cells]
        simp only [Array.size_append, List.size_toArray, bc_length, List.length_replicate]
        omega
      · rw [zero_cells, zero_cells]
        have e : (bc l ++ bc (List.replicate k 0)).length = (n + k) * 1 := by rw [List.length_append, bc_length, bc_length, List.length_replicate, hl, Nat.mul_one]
        rw [bc_append, ← e, Array.toList_append, Array.toList_append]
        exact List.take_left
      · exact ⟨rfl, rfl, rfl, by simp, fun k' hk' _ => heap_alloc_old w.drew _ hk'⟩
/-- .. as an operation of a walk. -/
theorem wpList_append_zeros8 {w : World} {ops : Array Oper} {rest : List Oper} {o : Oper} {act : Act} {Q : Exit → Act → World → Prop} (hgd : o.guard = none) (s x : Operand)
    (ho : o.op = .call { callee := .builtin .append, args := #[s, x], argTypes := #[25, 3] })
    (B n : Nat) (v : Value) (l : List UInt8) (hs : act.eval s = v) (k : Nat) (hx : act.eval x = .int .i64 (k : Int)) (hown : w.ownsRow B 5 1 v n (bc l)) (hk : 0 < k) (hn0 : 0 < n) (hn : n + k ≤ 1000000) (hB : B ≤ w.heap.size)
    (h : ∀ v' w', w'.ownsRow B 5 1 v' (n + k) (bc (l ++ List.replicate k 0)) → w.grownBy w' v.ownBlock → wpList Try.prog ops Q rest (act.put o.dst v') w') : wpList Try.prog ops Q (o :: rest) act w := by
  obtain ⟨v', w', hr, h1, h2⟩ := run_append_zeros8 hown k hk hn0 hn hB o.type
  exact Lib.wpList_append_run w hgd s x _ _ ho _ _ hs hx v' w' hr (h v' w' h1 h2)
end Go.Proofs.Ytocfphijheidbaa
