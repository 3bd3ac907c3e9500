/- The document's writer: its state, find. -/
import Derived.Test.YtkoafkajmfodkaaRwU
import Derived.Test.YtkoafkajmfodkaaEcG
namespace Go.Proofs.Ytkoafkajmfodkaa
open Go.RowKit

/-- Names with the places where they begin. -/
abbrev Ents := List (List ByteArray × Nat)
def lkE (E : Ents) : Pls := fun M => (E.find? (fun e => decide (e.1 = M))).map (·.2)
theorem lkE_nil : lkE [] = fun _ => none := rfl
theorem lkE_snoc {E : Ents} {L : List ByteArray} (p : Nat) (h : lkE E L = none) : lkE (E ++ [(L, p)]) = setPl (lkE E) L p := by
  funext M
  unfold lkE setPl
  rw [List.find?_append]
  by_cases e : M = L
  · subst e
    rw [if_pos rfl]
    have h2 : E.find? (fun e => decide (e.1 = M)) = none := by
      unfold lkE at h
      simpa using h
    rw [h2]
    simp
  · rw [if_neg e]
    have h3 : [(L, p)].find? (fun e => decide (e.1 = M)) = none := by simp; exact fun h => e h.symm
    rw [h3]
    cases h4 : E.find? (fun e => decide (e.1 = M)) <;> simp [h4]
theorem lkE_at {E : Ents} {M : List ByteArray} {j : Nat} (hj : j < E.length) (h1 : ∀ k, k < j → ∀ e, E[k]? = some e → e.1 ≠ M) (h2 : (E[j]'hj).1 = M) : lkE E M = some (E[j]'hj).2 := by
  induction E generalizing j with
  | nil => simp at hj
  | cons e E ih =>
    cases j with
    | zero =>
      have h3 : e.1 = M := h2
      simp [lkE, h3]
    | succ j =>
      have h0 : e.1 ≠ M := h1 0 (by omega) e rfl
      have := ih (j := j) (by simpa using hj) (fun k hk e' he => h1 (k + 1) (by omega) e' (by simpa using he)) h2
      unfold lkE at this ⊢
      rw [List.find?_cons_of_neg (by simpa using h0)]
      exact this
theorem lkE_none {E : Ents} {M : List ByteArray} (h : ∀ k, k < E.length → ∀ e, E[k]? = some e → e.1 ≠ M) : lkE E M = none := by
  unfold lkE
  rw [List.find?_eq_none.2 (fun e he => by
    obtain ⟨k, hk, rfl⟩ := List.mem_iff_getElem.1 he
    simpa using h k hk _ (List.getElem?_eq_getElem hk))]
  rfl
def nmsC (E : Ents) : List Value := E.map (fun e => .string (nameB e.1))
def atsC (E : Ents) : List Value := E.map (fun e => .int .i64 (e.2 : Int))
def fdV : Option Nat → Int
  | some p => (p : Int)
  | none => -1
/-- What all entries are. -/
def EntOk (E : Ents) : Prop := ∀ e ∈ E, OkL e.1 ∧ off e.1 e.1.length ≤ 254 ∧ e.2 < 16384
/-- The document's writer at q: its row, its names. -/
def DrS (w : World) (B q : Nat) (nv : Value) (E : Ents) (X : List UInt8) : Prop :=
  ∃ (bv av : Value), CN w q [bv, nv, av] ∧ TB w q 108 ∧ w.ownsRow B 5 1 bv X.length (bc X) ∧ w.ownsRow B 9 1 nv E.length (nmsC E) ∧ w.ownsRow B 3 1 av E.length (atsC E) ∧ EntOk E ∧ E.length ≤ X.length
/-- Blocks of other types are as they were; those of texts, too, but for the writer's own. -/
def Kd (w w' : World) (nv : Value) : Prop := ∀ (j : Nat) (cur : Array Value) (T : TypeId), w.heap[j]? = some (.cells cur T (0, 0)) → T ≠ 108 → T ≠ 5 → T ≠ 3 → nv.ownBlock ≠ some j → w'.heap[j]? = w.heap[j]?
/-- The row of names is where it was, or in new memory. -/
def Ow (w : World) (nv nv' : Value) : Prop := ∀ j, nv'.ownBlock = some j → nv.ownBlock = some j ∨ w.heap.size ≤ j
theorem Ow.refl (w : World) (nv : Value) : Ow w nv nv := fun _ h => Or.inl h
theorem Ow.trans {a b : World} {n1 n2 n3 : Value} (h : Ow a n1 n2) (hs : a.heap.size ≤ b.heap.size) (k : Ow b n2 n3) : Ow a n1 n3 := fun j hj => by
  rcases k j hj with h1 | h1
  · exact h j h1
  · exact Or.inr (by omega)
theorem Kd.refl (w : World) (nv : Value) : Kd w w nv := fun _ _ _ _ _ _ _ _ => rfl
theorem Kd.trans {a b c : World} {n1 n2 : Value} (h : Kd a b n1) (ho : Ow a n1 n2) (k : Kd b c n2) : Kd a c n1 := fun j cur T hj h1 h2 h3 h4 => by
  have hb := h j cur T hj h1 h2 h3 h4
  refine (k j cur T (hb.trans hj) h1 h2 h3 (fun e => ?_)).trans hb
  rcases ho j e with h5 | h5
  · exact h4 h5
  · have := (Array.getElem?_eq_some_iff.1 hj).1; omega
theorem Kd.drew {a b : World} {nv : Value} (h : Kd a b nv) : Kd a b.drew nv := fun j cur T hj h1 h2 h3 h4 => h j cur T hj h1 h2 h3 h4
theorem Kd.below {w w' : World} (nv : Value) (h : Below w.heap.size w w') : Kd w w' nv := fun j _ _ hj _ _ _ _ => h.block j (Array.getElem?_eq_some_iff.1 hj).1
theorem own_other {w w' : World} {B B2 n n2 size size2 : Nat} {e e2 : TypeId} {v v2 : Value} {xs xs2 : List Value} (h : w.ownsRow B e size v n xs) (h2 : w.ownsRow B2 e2 size2 v2 n2 xs2) (hne : e ≠ e2) (hg : w.grownBy w' v2.ownBlock) : w'.ownsRow B e size v n xs :=
  h.kept hg (by
    cases hv : v.ownBlock with
    | none => exact Or.inl rfl
    | some k =>
      refine Or.inr (fun e3 => ?_)
      have hk : v2.ownBlock = some k := by first | exact e3.symm | exact e3
      rcases h.2 with ⟨h1, _⟩ | ⟨g, cap, cur, h1, _, hg1, _⟩
      · rw [h1] at hv; cases hv
      · rw [h1] at hv; injection hv with hv; have hv' : g = k := hv; subst hv'
        exact own_ne h2 ⟨cur, hg1⟩ (fun e => hne e.symm) hk)
theorem DrS.lt {w : World} {B q : Nat} {nv : Value} {E : Ents} {X : List UInt8} (h : DrS w B q nv E X) : q < w.heap.size := by
  obtain ⟨_, _, hc, _⟩ := h; exact hc.1
theorem DrS.below {w w' : World} {B q : Nat} {nv : Value} {E : Ents} {X : List UInt8} (h : DrS w B q nv E X) (hb : Below w.heap.size w w') : DrS w' B q nv E X := by
  obtain ⟨bv, av, hc, ht, h1, h2, h3, rest⟩ := h
  exact ⟨bv, av, hc.below hb, ht.below hb, own_below' h1 hb, own_below' h2 hb, own_below' h3 hb, rest⟩
set_option maxRecDepth 100000 in
set_option maxHeartbeats 4000000 in
theorem find_any (q B : Nat) (nv : Value) (E : Ents) (X : List UInt8) (M : List ByteArray) (w : World) (hM : OkL M) (hs : DrS w B q nv E X) (hX : X.length ≤ 1000000) :
    Calls Try.prog 88 #[.pointer (some ⟨q, 0, none⟩), .string (nameB M)] w fun e w' => e = .returned (.int .i64 (fdV (lkE E M))) ∧ w = w' := by
  obtain ⟨bv, av, hc, -, -, hn, ha, hok, hle⟩ := hs
  have hel : E.length ≤ 1000000 := by omega
  have HOK := Lib.hid hok
  have HM := Lib.hid hM
  have c1 := (hc.2 1 _ rfl).1
  have c2 := (hc.2 2 _ rfl).1
  obtain ⟨na, nc, rfl, hnr, -⟩ := cellsK_own hn
  obtain ⟨aa, ac, rfl, har, -⟩ := cellsK_own ha
  have HNR := Lib.hid hnr
  have HAR := Lib.hid har
  obtain ⟨nl, hnl⟩ : ∃ x, E.length = x := ⟨_, rfl⟩
  rw [hnl] at c1 c2 HNR HAR hel
  have HNL := Lib.hid hnl
  obtain ⟨s, hsn⟩ : ∃ x, nameB M = x := ⟨_, rfl⟩
  rw [hsn]
  have HSN := Lib.hid hsn
  clear hc hn ha hok hle hnr har hM hnl hsn
  go_enter Try.func88, Try.ntmps88
  go_wp2_with fail
  go_loop [5] (fun i => ∃ j : Nat, j ≤ nl ∧ i = .int .i64 j ∧ Hid (∀ k, k < j → ∀ e, E[k]? = some e → e.1 ≠ M)) (fun i => nl - (intOf i).toNat)
  case atStart => exact ⟨0, Nat.zero_le _, rfl, Lib.hid (fun k hk => absurd hk (by omega))⟩
  case round =>
    obtain ⟨j, hj, rfl, HA⟩ := hrel
    by_cases hlt : j < nl
    · have hjl : j < E.length := by rw [HNL.out]; exact hlt
      obtain ⟨e, he⟩ : ∃ x, E[j] = x := ⟨_, rfl⟩
      have hej : E[j]? = some e := by rw [List.getElem?_eq_getElem hjl, he]
      obtain ⟨o1, o2, o3⟩ := HOK.out e (List.mem_of_getElem? hej)
      rcases HNR.out.2 with h0 | ⟨gn, fn, rfl, -, hcn⟩
      · omega
      rcases HAR.out.2 with h0 | ⟨ga, fa, rfl, -, hca⟩
      · omega
      have n0 := hcn j (.string (nameB e.1)) (by simp [nmsC, hej])
      have a0 := hca j (.int .i64 (e.2 : Int)) (by simp [atsC, hej])
      obtain ⟨t, ht⟩ : ∃ x, nameB e.1 = x := ⟨_, rfl⟩
      rw [ht] at n0
      clear hcn hca
      by_cases hme : e.1 = M
      · have HV := Lib.hid (lkE_at hjl HA.out (by rw [he]; exact hme))
        rw [he] at HV
        have hst : (t.toList == s.toList) = true := by rw [← ht, ← HSN.out, hme]; simp
        clear he hej o1 o2 o3 ht hme hjl
        go_wp2
        go_ret
        exact ⟨ret_int (by rw [HV.out]; rfl), rfl⟩
      · have hst : (t.toList == s.toList) = false := by
          rw [beq_eq_false_iff_ne]
          intro h
          rw [← ht, ← HSN.out] at h
          have hb : nameB e.1 = nameB M := by apply ba_eq; rw [ByteArray.toList_eq, ByteArray.toList_eq] at h; exact h
          exact hme (nameB_inj o1 HM.out hb)
        have HA2 := Lib.hid (show ∀ k, k < j + 1 → ∀ e, E[k]? = some e → e.1 ≠ M from fun k hk e' he' => by
          by_cases ek : k = j
          · subst ek; rw [hej] at he'; obtain rfl := Option.some.inj he'; exact hme
          · exact HA.out k (by omega) e' he')
        clear he hej o1 o2 o3 ht hme hjl
        go_wp2
        go_round
        case rel => exact ⟨j + 1, by omega, by go_num, HA2⟩
        case measure => simp [intOf]; omega
    · obtain rfl : j = nl := by omega
      have HV := Lib.hid (lkE_none (by rw [HNL.out]; exact HA.out))
      clear hlt hj
      go_wp2
      go_ret
      exact ⟨ret_int (by rw [HV.out]; rfl), rfl⟩
end Go.Proofs.Ytkoafkajmfodkaa
