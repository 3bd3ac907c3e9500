/- append of a slice of numbers that came in, onto a row of the call's own. -/
import Derived.Test.YtocfphijheidbaaMgW
import Derived.Laws.AppendOwnNone
namespace Go.Proofs.Ytocfphijheidbaa
open Go.RowKit

def ic (l : List Int) : List Value := l.map (Value.int .i64)
theorem ic_append (l m : List Int) : ic (l ++ m) = ic l ++ ic m := by simp [ic]
theorem ic_oneCell (l : List Int) : ∀ u ∈ ic l, u.oneCell' = true := by
  intro u hu
  simp only [ic, List.mem_map] at hu
  obtain ⟨b, _, rfl⟩ := hu
  rfl
theorem infoInt : (Try.prog.info? 3).map (fun i => (i.zero, i.size, i.bytes)) = some (some (.int .i64 0), 1, 8) := by kernel_rfl

theorem append_row {w : World} {ops : Array Oper} {rest : List Oper} {o : Oper} {act : Act} {Q : Exit → Act → World → Prop} (hgd : o.guard = none) (s x : Operand)
    (ho : o.op = .call { callee := .builtin .append, args := #[s, x], argTypes := #[67, 67] })
    (B : Nat) (v : Value) (n : Nat) (xs : List Value) (hs : act.eval s = v) (hown : w.ownsRow B 3 1 v n xs)
    (a : Option Addr) (len cap : Nat) (l : List Int) (hx : act.eval x = .slice a len cap) (hn : a = none → len = 0 ∧ cap = 0) (hr : Row w a len l)
    (hb : n + len ≤ 1000000) (hbase : B ≤ w.heap.size)
    (h : ∀ v' w', w'.ownsRow B 3 1 v' (n + len) (xs ++ ic l) → w.grownBy w' v.ownBlock → wpList Try.prog ops Q rest (act.put o.dst v') w') : wpList Try.prog ops Q (o :: rest) act w := by
  obtain ⟨i0, hi, hz0, hz1, hz2⟩ := info_parts infoInt
  cases a with
  | none =>
    obtain ⟨rfl, rfl⟩ := hn rfl
    have hl : l = [] := List.eq_nil_of_length_eq_zero hr.1
    subst hl
    refine wpList_append_own_none hgd s x 67 ho B 3 i0 1 Try.underlying67 hi v n xs hs hown hx ?_
    refine h v w ?_ (World.grownBy.refl _ _)
    simpa [ic] using hown
  | some ad =>
    refine wpList_append_own w hgd s x 67 ho B 3 i0 (.int .i64 0) 1 8 Try.underlying67 hi hz0 hz1 hz2 rfl (by decide) v n xs hs hown ad len cap (ic l) hx (by simp [ic, hr.1]) ?_ (ic_oneCell l) (by unfold maxLen; omega) (by omega) hbase (fun v' w' h1 h2 _ => h v' w' h1 h2)
    intro j u hj
    have hjl : j < l.length := by
      have := (List.getElem?_eq_some_iff.1 hj).1
      simpa [ic] using this
    rcases hr.2 with h0 | ⟨b, off, hab, _, hc⟩
    · have := hr.1; omega
    · simp only [Option.some.injEq] at hab
      subst hab
      have e : (⟨b, off, none⟩ : Addr).add j = ⟨b, off + j, none⟩ := by simp only [Addr.add]; split <;> simp_all
      rw [e, hc j (by rw [← hr.1]; exact hjl)]
      simp only [ic, List.getElem?_map, List.getElem?_eq_getElem hjl, Option.map_some, Option.some.injEq] at hj
      rw [← hj, List.getD_eq_getElem?_getD, List.getElem?_eq_getElem hjl]
      rfl

theorem row_of_own {w : World} {B n : Nat} {v : Value} {l : List Int} (h : w.ownsRow B 3 1 v n (ic l)) : ∃ a c, v = .slice a n c ∧ (a = none → n = 0 ∧ c = 0) ∧ Row w a n l := by
  have hl : l.length = n := by have := h.1; simpa [ic] using this
  rcases h.2 with ⟨rfl, rfl⟩ | ⟨g, cap, cur, rfl, _, hg, _, _, _, htake⟩
  · exact ⟨none, 0, rfl, fun _ => ⟨rfl, rfl⟩, hl, Or.inl rfl⟩
  · refine ⟨some ⟨g, 0, none⟩, cap, rfl, (fun h => by cases h), hl, Or.inr ⟨g, 0, rfl, ?_, ?_⟩⟩
    · rcases Nat.lt_or_ge g w.heap.size with h1 | h1
      · exact h1
      · rw [Array.getElem?_eq_none h1] at hg; cases hg
    · intro j hj
      rw [Nat.zero_add, h.cellAt j (by omega)]
      have hjl : j < l.length := by omega
      simp [ic, List.getD_eq_getElem?_getD, List.getElem?_eq_getElem hjl]
end Go.Proofs.Ytocfphijheidbaa
