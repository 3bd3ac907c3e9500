/- sets.Group: contract. -/
import Derived.Test.YtmhiglhgkgannaaSoR
import Derived.Test.YtmhiglhgkgannaaMgE
import Derived.Test.YtmhiglhgkgannaaMgA
import Derived.Deep.DeepCutAuto
import Derived.Deep.AppendLies
import Derived.Deep.RegionLaw
namespace Go.Proofs.Ytmhiglhgkgannaa
open Go.RowKit

theorem own_ne2 {w : World} {B1 B2 n1 n2 s1 s2 : Nat} {e1 e2 : TypeId} {v1 v2 : Value} {x1 x2 : List Value} (he : e1 ≠ e2) (h1 : w.ownsRow B1 e1 s1 v1 n1 x1) (h2 : w.ownsRow B2 e2 s2 v2 n2 x2) : v1.ownBlock = none ∨ v1.ownBlock ≠ v2.ownBlock := by
  rcases h1.2 with ⟨rfl, _⟩ | ⟨g1, c1, u1, rfl, _, hg1, _⟩
  · exact Or.inl rfl
  · right
    rcases h2.2 with ⟨rfl, _⟩ | ⟨g2, c2, u2, rfl, _, hg2, _⟩
    · simp [Value.ownBlock]
    · simp only [Value.ownBlock]
      intro h
      have hgg : g1 = g2 := by simpa using h
      subst hgg
      rw [hg1] at hg2
      simp at hg2
      exact he hg2.2
/-- A block of records. -/
def TyAt (w : World) (q : Nat) : Prop := ∃ cur fr, w.heap[q]? = some (.cells cur 30 fr)
theorem TyAt.below {w w' : World} {q : Nat} (h : TyAt w q) (hb : Below w.heap.size w w') : TyAt w' q := by
  obtain ⟨cur, fr, h⟩ := h
  exact ⟨cur, fr, by rw [hb.block q (Array.getElem?_eq_some_iff.1 h).1]; exact h⟩
theorem TyAt.grown {w w' : World} {q : Nat} {row : Option Nat} (h : TyAt w q) (hg : w.grownBy w' row) (hne : row ≠ some q) : TyAt w' q := by
  obtain ⟨cur, fr, h⟩ := h
  exact ⟨cur, fr, by rw [hg.block q (Array.getElem?_eq_some_iff.1 h).1 (fun e => hne e.symm)]; exact h⟩
theorem TyAt.ne {w : World} {q B n s : Nat} {e : TypeId} {v : Value} {xs : List Value} (h : TyAt w q) (he : e ≠ 30) (ho : w.ownsRow B e s v n xs) : v.ownBlock ≠ some q := by
  intro e2
  obtain ⟨cur, fr, h⟩ := h
  rcases ho.2 with ⟨rfl, _⟩ | ⟨g2, c2, u2, rfl, _, hg2, _⟩
  · cases e2
  · have : g2 = q := by simpa [Value.ownBlock] using e2
    subst this
    rw [h] at hg2
    simp at hg2
    exact he hg2.2.1.symm
def addD (s : SetP) (r : R5) : SetP := if s.data.getLast? = some r.d then s else { s with data := s.data ++ [r.d] }
def lastOr (S : List SetP) (r : R5) : SetP := (S.getLast?).getD ⟨r.k, r.ttl, []⟩
/-- The sets of the first k of records that are in order. -/
noncomputable def grpK (l : List R5) : Nat → List SetP
  | 0 => []
  | k + 1 =>
    match l[k]? with
    | none => grpK l k
    | some r => open Classical in if 0 < k ∧ (l[k - 1]?.map R5.k) = some r.k then (grpK l k).dropLast ++ [addD { (lastOr (grpK l k) r) with ttl := min (lastOr (grpK l k) r).ttl r.ttl } r] else grpK l k ++ [addD ⟨r.k, r.ttl, []⟩ r]

theorem row_cells {w : World} {B g n cap : Nat} {l : List R5} (h : w.ownsRow B 30 5 (.slice (some ⟨g, 0, none⟩) n cap) n (flatR l)) (j : Nat) (r : R5) (hr : l[j]? = some r) : w.cell? ⟨g, j * 5, none⟩ = some (.string r.k.n) ∧ w.cell? ⟨g, j * 5 + 1, none⟩ = some (.int .i64 r.k.t) ∧ w.cell? ⟨g, j * 5 + 2, none⟩ = some (.int .i64 r.k.c) ∧ w.cell? ⟨g, j * 5 + 3, none⟩ = some (.int .i64 r.ttl) ∧ w.cell? ⟨g, j * 5 + 4, none⟩ = some (.string r.d) := by
  have hg : ∀ i, i < 5 → ∀ u, (encR r)[i]? = some u → w.cell? ⟨g, j * 5 + i, none⟩ = some u := fun i hi u hu => ownsRow_at h _ _ (by
    rw [flatR, flatMap_get encR 5 encR_len (by omega), show (j * 5 + i) / 5 = j by omega, show (j * 5 + i) % 5 = i by omega, hr]
    exact hu)
  exact ⟨hg 0 (by omega) _ rfl, hg 1 (by omega) _ rfl, hg 2 (by omega) _ rfl, hg 3 (by omega) _ rfl, hg 4 (by omega) _ rfl⟩
theorem RQ.shown {wx : World} {q : Nat} {rn rd : ByteArray} {rt rc ru : Int} (h : RRAt5 wx q ⟨⟨rn, rt, rc⟩, ru, rd⟩) : Hid (RRAt5 wx q ⟨⟨rn, rt, rc⟩, ru, rd⟩) ∧ wx.cell? ⟨q, 0, none⟩ = some (.string rn) ∧ wx.cell? ⟨q, 1, none⟩ = some (.int .i64 rt) ∧ wx.cell? ⟨q, 2, none⟩ = some (.int .i64 rc) ∧ wx.cell? ⟨q, 3, none⟩ = some (.int .i64 ru) ∧ wx.cell? ⟨q, 4, none⟩ = some (.string rd) := ⟨h, h.2.1, h.2.2.1, h.2.2.2.1, h.2.2.2.2.1, h.2.2.2.2.2⟩
theorem RQ.next {wx wy : World} {q : Nat} {rn rd : ByteArray} {rt rc ru : Int} (hb : Below wx.heap.size wx wy) (h : Hid (RRAt5 wx q ⟨⟨rn, rt, rc⟩, ru, rd⟩) ∧ wx.cell? ⟨q, 0, none⟩ = some (.string rn) ∧ wx.cell? ⟨q, 1, none⟩ = some (.int .i64 rt) ∧ wx.cell? ⟨q, 2, none⟩ = some (.int .i64 rc) ∧ wx.cell? ⟨q, 3, none⟩ = some (.int .i64 ru) ∧ wx.cell? ⟨q, 4, none⟩ = some (.string rd)) : Hid (RRAt5 wy q ⟨⟨rn, rt, rc⟩, ru, rd⟩) ∧ wy.cell? ⟨q, 0, none⟩ = some (.string rn) ∧ wy.cell? ⟨q, 1, none⟩ = some (.int .i64 rt) ∧ wy.cell? ⟨q, 2, none⟩ = some (.int .i64 rc) ∧ wy.cell? ⟨q, 3, none⟩ = some (.int .i64 ru) ∧ wy.cell? ⟨q, 4, none⟩ = some (.string rd) := RQ.shown (h.1.out.below hb)
theorem RRAt5.grown {w w' : World} {q : Nat} {r : R5} {row : Option Nat} (h : RRAt5 w q r) (hg : w.grownBy w' row) (hne : row ≠ some q) : RRAt5 w' q r := by
  obtain ⟨h0, h1, h2, h3, h4, h5⟩ := h
  have hk : ∀ i v, w.cell? ⟨q, i, none⟩ = some v → w'.cell? ⟨q, i, none⟩ = some v := fun i v hv => hg.cell hv (fun e => hne e.symm)
  exact ⟨Nat.lt_of_lt_of_le h0 hg.size, hk _ _ h1, hk _ _ h2, hk _ _ h3, hk _ _ h4, hk _ _ h5⟩
theorem RQ.grown {wx wy : World} {q : Nat} {rn rd : ByteArray} {rt rc ru : Int} {row : Option Nat} (hg : wx.grownBy wy row) (hne : row ≠ some q) (h : Hid (RRAt5 wx q ⟨⟨rn, rt, rc⟩, ru, rd⟩) ∧ wx.cell? ⟨q, 0, none⟩ = some (.string rn) ∧ wx.cell? ⟨q, 1, none⟩ = some (.int .i64 rt) ∧ wx.cell? ⟨q, 2, none⟩ = some (.int .i64 rc) ∧ wx.cell? ⟨q, 3, none⟩ = some (.int .i64 ru) ∧ wx.cell? ⟨q, 4, none⟩ = some (.string rd)) : Hid (RRAt5 wy q ⟨⟨rn, rt, rc⟩, ru, rd⟩) ∧ wy.cell? ⟨q, 0, none⟩ = some (.string rn) ∧ wy.cell? ⟨q, 1, none⟩ = some (.int .i64 rt) ∧ wy.cell? ⟨q, 2, none⟩ = some (.int .i64 rc) ∧ wy.cell? ⟨q, 3, none⟩ = some (.int .i64 ru) ∧ wy.cell? ⟨q, 4, none⟩ = some (.string rd) := RQ.shown (h.1.out.grown hg hne)
theorem grpK_len (l : List R5) : ∀ k, (grpK l k).length ≤ k := by
  intro k
  induction k with
  | zero => exact Nat.le_refl _
  | succ k ih =>
    rw [grpK]
    split
    · omega
    · split
      · rw [List.length_append, List.length_dropLast, List.length_singleton]; omega
      · rw [List.length_append, List.length_singleton]; omega
theorem grpK_ne (l : List R5) (k : Nat) (r : R5) (hr : l[k]? = some r) : grpK l (k + 1) ≠ [] := by
  rw [grpK, hr]
  dsimp only
  split <;> simp

theorem RQ.get {wx : World} {q : Nat} {rn rd : ByteArray} {rt rc ru : Int} (h : Hid (RRAt5 wx q ⟨⟨rn, rt, rc⟩, ru, rd⟩) ∧ wx.cell? ⟨q, 0, none⟩ = some (.string rn) ∧ wx.cell? ⟨q, 1, none⟩ = some (.int .i64 rt) ∧ wx.cell? ⟨q, 2, none⟩ = some (.int .i64 rc) ∧ wx.cell? ⟨q, 3, none⟩ = some (.int .i64 ru) ∧ wx.cell? ⟨q, 4, none⟩ = some (.string rd)) : RRAt5 wx q ⟨⟨rn, rt, rc⟩, ru, rd⟩ := h.1.out
theorem flatS_last (L0 : List (SetP × Value)) (p p' : SetP × Value) (j : Nat) (u : Value) (h : (encS p).set j u = encS p') : (flatS (L0 ++ [p])).set (L0.length * 5 + j) u = flatS (L0 ++ [p']) := by
  rw [flatS_append, flatS_append]
  have e : ∀ x, flatS [x] = encS x := fun x => by rw [flatS, List.flatMap_cons, List.flatMap_nil, List.append_nil]
  rw [e, e, List.set_append_right _ _ (by rw [flatS_len]; omega), flatS_len, Nat.add_sub_cancel_left, h]
theorem grpK_step {l : List R5} {k : Nat} {r : R5} {L L0 : List (SetP × Value)} {s : SetP} {dv dv' : Value} {nw : Bool} (hr : l[k]? = some r) (hL : L.map Prod.fst = grpK l k) (hnw : nw = true ↔ ¬ (0 < k ∧ (l[k - 1]?.map R5.k) = some r.k)) (hc : (nw = true → L0 = L ∧ s = ⟨r.k, r.ttl, []⟩) ∧ (nw = false → L = L0 ++ [(s, dv)])) : (L0 ++ [(addD { s with ttl := min s.ttl r.ttl } r, dv')]).map Prod.fst = grpK l (k + 1) := by
  rw [grpK, hr]
  dsimp only
  cases nw with
  | true =>
    obtain ⟨rfl, rfl⟩ := hc.1 rfl
    rw [if_neg (hnw.1 rfl), List.map_append, hL]
    simp only [List.map_cons, List.map_nil, Int.min_self]
  | false =>
    have h1 : 0 < k ∧ (l[k - 1]?.map R5.k) = some r.k := Classical.not_not.1 (fun h => by have := hnw.2 h; cases this)
    rw [if_pos h1, ← hL, hc.2 rfl, lastOr]
    simp

theorem grpK_data (l : List R5) : ∀ k, ∀ s ∈ grpK l k, s.data.length ≤ k := by
  intro k
  induction k with
  | zero => intro s hs; cases hs
  | succ k ih =>
    intro s hs
    have had : ∀ (s : SetP) (r : R5), s.data.length ≤ k → (addD s r).data.length ≤ k + 1 := fun s r h => by
      unfold addD
      split
      · omega
      · simp only [List.length_append, List.length_singleton]; omega
    rw [grpK] at hs
    split at hs
    · have := ih s hs; omega
    · rename_i r hr
      split at hs
      · rcases List.mem_append.1 hs with h | h
        · have := ih s (List.dropLast_subset _ h); omega
        · obtain rfl := List.mem_singleton.1 h
          refine had _ _ ?_
          show (lastOr (grpK l k) r).data.length ≤ k
          unfold lastOr
          cases e : (grpK l k).getLast? with
          | none => exact Nat.zero_le _
          | some x => exact ih x (List.mem_of_getLast? e)
      · rcases List.mem_append.1 hs with h | h
        · have := ih s h; omega
        · obtain rfl := List.mem_singleton.1 h
          exact had _ _ (Nat.zero_le _)
theorem step_one_str {wl : World} {ops : Array Oper} {o : Oper} {act : Act} {K : Act → World → Prop} {Q : Exit → Act → World → Prop} {E : Prop} (hgd : o.guard = none) (s x : Operand)
    (ho : o.op = .call { callee := .builtin .append, args := #[s, x], argTypes := #[67, 67] })
    (B : Nat) (v : Value) (n : Nat) (xs : List Value) (hs : act.eval s = v) (hown : wl.ownsRow B 9 1 v n xs) (b : Nat) (d : ByteArray) (hx : act.eval x = .slice (some ⟨b, 0, none⟩) 1 1) (hc : wl.cell? ⟨b, 0, none⟩ = some (.string d)) (hn : n ≤ 100000) (hB : B ≤ wl.heap.size)
    (h : ∀ v' w', w'.ownsRow B 9 1 v' (n + 1) (xs ++ [.string d]) → wl.grownBy w' v.ownBlock → (v'.ownBlock = v.ownBlock ∨ v'.ownBlock = some wl.heap.size) → K (act.put o.dst v') w') : if Region.wanted o (yielded ops act.tmps) = true then Oper.wp Try.prog o act wl K Q else E := by
  obtain ⟨i0, hi0, hy0, hy1, hy2⟩ := info_parts infoStr
  refine step_append_lies wl hgd s x 67 ho B 9 i0 (.string ⟨#[]⟩) 1 16 Try.underlying67 hi0 hy0 hy1 hy2 rfl (by decide) v n xs hs hown ⟨b, 0, none⟩ 1 1 [.string d] hx rfl ?_ (one_str d) (by decide) (by unfold maxLen; omega) (by omega) hB _ rfl ?_
  · intro j u hj
    have hj2 : j < 1 := (List.getElem?_eq_some_iff.1 hj).1
    have : j = 0 := by omega
    subst this
    simp at hj
    subst hj
    rw [Addr.add_mid]
    exact hc
  · intro g cap w' k1 k2 k3 _
    refine h _ w' k1 k2 ?_
    rcases k3 with e | e
    · exact Or.inl e.symm
    · exact Or.inr (by rw [e]; rfl)
theorem own_capS {w : World} {B g n c : Nat} {xs : List Value} (h : w.ownsRow B 9 1 (.slice (some ⟨g, 0, none⟩) n c) n xs) : n ≤ 9223372036854775807 := by
  rcases h.2 with ⟨h', _⟩ | ⟨g', cap', cur, h', hb, hgg, hnc, hcm, hcs, htake⟩
  · cases h'
  · unfold maxLen at hcm; omega
theorem ix_rr (g n cap k : Nat) (h : k < n) (W : World) : (Instr.indexAt 22 (.slice (some ⟨g, 0, none⟩) n cap) (.int .i64 (k : Int))).run Try.prog W = .ok (.pointer (some ⟨g, k * 5, none⟩)) W := by
  go_simp
end Go.Proofs.Ytmhiglhgkgannaa
