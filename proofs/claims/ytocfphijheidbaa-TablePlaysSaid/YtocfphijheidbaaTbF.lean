/- The id of a question that goes out, plainly: the first that is free. -/
import Derived.Test.YtocfphijheidbaaTbE
namespace Go.Proofs.Ytocfphijheidbaa
open Go.RowKit

theorem inj_mem (f : Nat → Int) : ∀ (n : Nat) (T : List Int), (∀ i j, i < n → j < n → f i = f j → i = j) → (∀ j, j < n → f j ∈ T) → n ≤ T.length
  | 0, _, _, _ => Nat.zero_le _
  | n + 1, T, hi, hm => by
    have h1 := hm n (Nat.lt_succ_self n)
    have h2 := List.length_erase_of_mem h1
    have h3 := inj_mem f n (T.erase (f n)) (fun i j a b e => hi i j (by omega) (by omega) e) (fun j hj => (List.mem_erase_of_ne (fun e => by have := hi j n (by omega) (by omega) e; omega)).2 (hm j (by omega)))
    have h4 := List.length_pos_of_mem h1
    omega
def takenB (ws : List WtP) (k : MkP) : Bool := ws.any (fun r => sameM r.m k)
theorem taken_no {ws : List WtP} {k : MkP} (h : ∀ x ∈ ws, sameM x.m k = false) : takenB ws k = false := by
  simp only [takenB, List.any_eq_false]
  intro x hx
  rw [h x hx]
  exact Bool.false_ne_true
theorem taken_yes {ws : List WtP} {k : MkP} {i : Nat} {x : WtP} (h : ws[i]? = some x) (hs : sameM x.m k = true) : takenB ws k = true := by
  simp only [takenB, List.any_eq_true]
  exact ⟨x, List.mem_of_getElem? h, hs⟩
def nid (id : Int) : Int := (id + 1) % 65536
def seekI (ws : List WtP) (p : Int) (x : ByteArray) (t : Bool) : Nat → Int → Int
  | 0, id => id
  | f + 1, id => if takenB ws ⟨id, p, x, t⟩ = true then seekI ws p x t f (nid id) else id
def stepsI (ws : List WtP) (p : Int) (x : ByteArray) (t : Bool) : Nat → Int → Nat
  | 0, _ => 0
  | f + 1, id => if takenB ws ⟨id, p, x, t⟩ = true then 1 + stepsI ws p x t f (nid id) else 0
def FreeI (ws : List WtP) (p : Int) (x : ByteArray) (t : Bool) (id : Int) (f : Nat) : Prop := ∃ j : Nat, j ≤ f ∧ takenB ws ⟨(id + j) % 65536, p, x, t⟩ = false
theorem freeI (ws : List WtP) (p : Int) (x : ByteArray) (t : Bool) (id : Int) (hl : ws.length ≤ 60000) : FreeI ws p x t id ws.length := by
  by_cases h : FreeI ws p x t id ws.length
  · exact h
  · have h1 := inj_mem (fun j : Nat => (id + j) % 65536) (ws.length + 1) (ws.map (fun r => r.m.id)) (fun i j a b e => by
      have e : (id + (i : Int)) % 65536 = (id + (j : Int)) % 65536 := e
      omega) (fun j hj => by
      have h2 : takenB ws ⟨(id + j) % 65536, p, x, t⟩ = true := by
        cases h3 : takenB ws ⟨(id + j) % 65536, p, x, t⟩
        · exact absurd ⟨j, by omega, h3⟩ h
        · rfl
      simp only [takenB, List.any_eq_true] at h2
      obtain ⟨r, hr, h4⟩ := h2
      have h5 := (sameM_iff _ _).1 h4
      exact List.mem_map.2 ⟨r, hr, by rw [h5]⟩)
    rw [List.length_map] at h1
    omega
theorem free_next {ws : List WtP} {p : Int} {x : ByteArray} {t : Bool} {id : Int} {f : Nat} (hid : 0 ≤ id ∧ id < 65536) (h : FreeI ws p x t id (f + 1)) (ht : takenB ws ⟨id, p, x, t⟩ = true) : FreeI ws p x t (nid id) f := by
  obtain ⟨j, hj, h1⟩ := h
  cases j with
  | zero =>
    rw [show (id + ((0 : Nat) : Int)) % 65536 = id by omega, ht] at h1
    cases h1
  | succ j =>
    refine ⟨j, by omega, ?_⟩
    rw [show (nid id + (j : Int)) % 65536 = (id + ((j + 1 : Nat) : Int)) % 65536 by unfold nid; omega]
    exact h1
theorem nid_in (id : Int) : 0 ≤ nid id ∧ nid id < 65536 := by unfold nid; omega
theorem seekI_yes {ws : List WtP} {p : Int} {x : ByteArray} {t : Bool} (f : Nat) {id : Int} (h : takenB ws ⟨id, p, x, t⟩ = true) : seekI ws p x t (f + 1) id = seekI ws p x t f (nid id) := by rw [seekI, if_pos h]
theorem seekI_no {ws : List WtP} {p : Int} {x : ByteArray} {t : Bool} (f : Nat) {id : Int} (h : ¬ takenB ws ⟨id, p, x, t⟩ = true) : seekI ws p x t (f + 1) id = id := by rw [seekI, if_neg h]
theorem stepsI_yes {ws : List WtP} {p : Int} {x : ByteArray} {t : Bool} (f : Nat) {id : Int} (h : takenB ws ⟨id, p, x, t⟩ = true) : stepsI ws p x t (f + 1) id = 1 + stepsI ws p x t f (nid id) := by rw [stepsI, if_pos h]
theorem stepsI_no {ws : List WtP} {p : Int} {x : ByteArray} {t : Bool} (f : Nat) {id : Int} (h : ¬ takenB ws ⟨id, p, x, t⟩ = true) : stepsI ws p x t (f + 1) id = 0 := by rw [stepsI, if_neg h]
theorem seek_stab {ws : List WtP} {p : Int} {x : ByteArray} {t : Bool} : ∀ (f : Nat) (id : Int), 0 ≤ id ∧ id < 65536 → FreeI ws p x t id f → seekI ws p x t f id = seekI ws p x t (f + 1) id ∧ stepsI ws p x t (f + 1) id = stepsI ws p x t (f + 2) id
  | 0, id, hid, h => by
    obtain ⟨j, hj, h1⟩ := h
    obtain rfl : j = 0 := by omega
    rw [show (id + ((0 : Nat) : Int)) % 65536 = id by omega] at h1
    simp [seekI, stepsI, h1]
  | f + 1, id, hid, h => by
    by_cases ht : takenB ws ⟨id, p, x, t⟩ = true
    · obtain ⟨g1, g2⟩ := seek_stab f (nid id) (nid_in id) (free_next hid h ht)
      constructor
      · rw [seekI_yes f ht, seekI_yes (f + 1) ht]; exact g1
      · rw [stepsI_yes (f + 1) ht, stepsI_yes (f + 2) ht, g2]
    · constructor
      · rw [seekI_no f ht, seekI_no (f + 1) ht]
      · rw [stepsI_no (f + 1) ht, stepsI_no (f + 2) ht]
/-- A step of the search. -/
theorem seek_go {ws : List WtP} {p : Int} {x : ByteArray} {t : Bool} {id : Int} (hl : ws.length ≤ 60000) (ht : takenB ws ⟨id, p, x, t⟩ = true) : seekI ws p x t (ws.length + 1) (nid id) = seekI ws p x t (ws.length + 1) id ∧ stepsI ws p x t (ws.length + 2) (nid id) < stepsI ws p x t (ws.length + 2) id := by
  have h2 := seek_stab ws.length (nid id) (nid_in id) (freeI ws p x t (nid id) hl)
  constructor
  · have e : seekI ws p x t (ws.length + 1) id = seekI ws p x t ws.length (nid id) := seekI_yes _ ht
    rw [e]
    exact h2.1.symm
  · have e : stepsI ws p x t (ws.length + 2) id = 1 + stepsI ws p x t (ws.length + 1) (nid id) := stepsI_yes _ ht
    rw [e, ← h2.2]
    omega
theorem seek_stop {ws : List WtP} {p : Int} {x : ByteArray} {t : Bool} {id : Int} (f : Nat) (ht : takenB ws ⟨id, p, x, t⟩ = false) : seekI ws p x t (f + 1) id = id := by
  exact seekI_no f (by rw [ht]; exact Bool.false_ne_true)
def portD (x : Int) : Int := 1024 + outD (nxD x) % 64512
def openW (s : TbP) (now job : Int) (tx : ByteArray) (tcp : Bool) (q : QsP) : WtP := ⟨⟨seekI s.ws (portD s.x) tx tcp (s.ws.length + 1) (outD s.x), portD s.x, tx, tcp⟩, q, job, now + 3⟩
def openP (s : TbP) (now job : Int) (tx : ByteArray) (tcp : Bool) (q : QsP) : TbP := ⟨s.most, nxD (nxD s.x), s.ws ++ [openW s now job tx tcp q]⟩
theorem seek_in {ws : List WtP} {p : Int} {x : ByteArray} {t : Bool} : ∀ (f : Nat) (id : Int), 0 ≤ id ∧ id < 65536 → 0 ≤ seekI ws p x t f id ∧ seekI ws p x t f id < 65536
  | 0, id, h => h
  | f + 1, id, h => by
    rw [seekI]
    split
    · exact seek_in f _ (nid_in id)
    · exact h
theorem portD_in (x : Int) : 1024 ≤ portD x ∧ portD x < 65536 := by unfold portD; omega
end Go.Proofs.Ytocfphijheidbaa
