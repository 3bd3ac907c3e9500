/- What TableTimes asks, plainly; the chapter's example. -/
import Derived.Test.YtocfphijheidbaaTbG
namespace Go.Proofs.Ytocfphijheidbaa
open Go.RowKit

def keyW (r : WtP) : Int × Int := (r.job, r.until_)
def gJ (J : List Int) (now : Int) (j : Nat) : Int × Int := (J.getD j 0, now + (j : Int) + 3)
def Wok (ws : List WtP) (J : List Int) (now : Int) (i : Nat) : Prop := ws.map keyW = (List.range i).map (gJ J now)
theorem Wok.len {ws : List WtP} {J : List Int} {now : Int} {i : Nat} (h : Wok ws J now i) : ws.length = i := by
  have := congrArg List.length h
  simpa using this
theorem Wok.more {ws : List WtP} {J : List Int} {now : Int} {i : Nat} (h : Wok ws J now i) (r : WtP) (h1 : r.job = J.getD i 0) (h2 : r.until_ = now + (i : Int) + 3) : Wok (ws ++ [r]) J now (i + 1) := by
  unfold Wok at h ⊢
  rw [List.map_append, h, List.range_succ, List.map_append, List.map_singleton, List.map_singleton, keyW, gJ, h1, h2]
theorem filt_key (p : Int × Int → Bool) (l : List WtP) : (l.filter (fun r => p (keyW r))).map keyW = (l.map keyW).filter p := by
  induction l with
  | nil => rfl
  | cons a l ih =>
    rw [List.map_cons]
    by_cases h : p (keyW a) = true
    · rw [List.filter_cons_of_pos (p := fun r => p (keyW r)) h, List.map_cons, List.filter_cons_of_pos (p := p) h, ih]
    · rw [List.filter_cons_of_neg (p := fun r => p (keyW r)) h, List.filter_cons_of_neg (p := p) h, ih]
theorem filter1 (p : Nat → Bool) (i : Nat) : [i].filter p = if p i = true then [i] else [] := by
  by_cases h : p i = true
  · rw [List.filter_cons_of_pos h, if_pos h]; rfl
  · rw [List.filter_cons_of_neg h, if_neg h]; rfl
theorem filt_g (p : Int × Int → Bool) (g : Nat → Int × Int) (l : List Nat) : (l.map g).filter p = (l.filter (fun j => p (g j))).map g := by
  induction l with
  | nil => rfl
  | cons a l ih =>
    rw [List.map_cons]
    by_cases h : p (g a) = true
    · rw [List.filter_cons_of_pos (p := p) h, List.filter_cons_of_pos (p := fun j => p (g j)) h, List.map_cons, ih]
    · rw [List.filter_cons_of_neg (p := p) h, List.filter_cons_of_neg (p := fun j => p (g j)) h, ih]
/-- Which of the first i are dropped, and which go on. -/
def dropQ (J : List Int) (drop : Int) (i : Nat) : List Nat := (List.range i).filter (fun j => decide (J.getD j 0 = drop))
def leftQ (J : List Int) (drop now later : Int) (i : Nat) : List Nat := (List.range i).filter (fun j => !decide (J.getD j 0 = drop) && !decide (now + (j : Int) + 3 ≤ now + later))
def leftJ (J : List Int) (drop now later : Int) (i : Nat) : List Int := (leftQ J drop now later i).map (fun j => J.getD j 0)
theorem dropQ_succ (J : List Int) (drop : Int) (i : Nat) : (dropQ J drop (i + 1)).length = (dropQ J drop i).length + (if J.getD i 0 = drop then 1 else 0) := by
  unfold dropQ
  rw [List.range_succ, List.filter_append, List.length_append, filter1]
  by_cases h : J.getD i 0 = drop
  · rw [if_pos (show decide (J.getD i 0 = drop) = true from decide_eq_true h), if_pos h]; rfl
  · rw [if_neg (show ¬ decide (J.getD i 0 = drop) = true from by rw [decide_eq_false h]; exact Bool.false_ne_true), if_neg h]; rfl
theorem leftJ_yes (J : List Int) (drop now later : Int) (i : Nat) (h1 : ¬ J.getD i 0 = drop) (h2 : ¬ now + (i : Int) + 3 ≤ now + later) : leftJ J drop now later (i + 1) = leftJ J drop now later i ++ [J.getD i 0] := by
  unfold leftJ leftQ
  rw [List.range_succ, List.filter_append, List.map_append, filter1, if_pos (show (!decide (J.getD i 0 = drop) && !decide (now + (i : Int) + 3 ≤ now + later)) = true from by rw [decide_eq_false h1, decide_eq_false h2]; rfl)]
  rfl
theorem leftJ_no (J : List Int) (drop now later : Int) (i : Nat) (h : J.getD i 0 = drop ∨ now + (i : Int) + 3 ≤ now + later) : leftJ J drop now later (i + 1) = leftJ J drop now later i := by
  unfold leftJ leftQ
  rw [List.range_succ, List.filter_append, List.map_append, filter1, if_neg (show ¬ (!decide (J.getD i 0 = drop) && !decide (now + (i : Int) + 3 ≤ now + later)) = true from by
    rcases h with h | h
    · rw [decide_eq_true h]; simp
    · rw [decide_eq_true h]; simp)]
  simp
theorem dropQ_le (J : List Int) (drop : Int) (i : Nat) : (dropQ J drop i).length ≤ i := Nat.le_trans (List.length_filter_le _ _) (by simp)
theorem leftJ_le (J : List Int) (drop now later : Int) (i : Nat) : (leftJ J drop now later i).length ≤ i := by
  unfold leftJ leftQ
  rw [List.length_map]
  exact Nat.le_trans (List.length_filter_le _ _) (by simp)
section
variable {ws : List WtP} {J : List Int} {now drop later : Int} {n : Nat}
def ws1 (ws : List WtP) (drop : Int) : List WtP := ws.filter (fun x => !decide (x.job ∈ [drop]))
theorem drop_count (h : Wok ws J now n) : (ws.filter (fun x => decide (x.job ∈ [drop]))).length = (dropQ J drop n).length := by
  have h1 := filt_key (fun k => decide (k.1 ∈ [drop])) ws
  rw [h, filt_g] at h1
  have h2 := congrArg List.length h1
  rw [List.length_map, List.length_map] at h2
  refine h2.trans ?_
  unfold dropQ
  congr 1
  apply List.filter_congr
  intro j _
  show decide ((gJ J now j).1 ∈ [drop]) = decide (J.getD j 0 = drop)
  simp only [gJ, List.mem_singleton]
theorem drop_none (l : List WtP) : l.filter (fun x => decide (x.job ∈ ([] : List Int))) = [] ∧ l.filter (fun x => !decide (x.job ∈ ([] : List Int))) = l := by
  constructor
  · simp
  · simp
theorem filt_sum (l : List WtP) (p : WtP → Bool) : (l.filter p).length + (l.filter (fun x => !p x)).length = l.length := by
  induction l with
  | nil => rfl
  | cons a l ih =>
    by_cases h : p a = true
    · rw [List.filter_cons_of_pos h, List.filter_cons_of_neg (by simp [h]), List.length_cons, List.length_cons]; omega
    · rw [List.filter_cons_of_neg h, List.filter_cons_of_pos (by simp [h]), List.length_cons, List.length_cons]; omega
theorem drop_len (h : Wok ws J now n) : (ws1 ws drop).length + (dropQ J drop n).length = n := by
  have h1 := filt_sum ws (fun x => decide (x.job ∈ [drop]))
  have h2 := drop_count (drop := drop) h
  have h3 := h.len
  unfold ws1
  omega
def ws3 (ws : List WtP) (drop T : Int) : List WtP := (ws1 ws drop).filter (fun x => !decide (x.until_ ≤ T))
theorem ws3_key (h : Wok ws J now n) : (ws3 ws drop (now + later)).map keyW = (leftQ J drop now later n).map (gJ J now) := by
  have h0 : ws3 ws drop (now + later) = ws.filter (fun r => (fun k : Int × Int => !decide (k.1 = drop) && !decide (k.2 ≤ now + later)) (keyW r)) := by
    unfold ws3 ws1
    rw [List.filter_filter]
    apply List.filter_congr
    intro r _
    show (!decide (r.until_ ≤ now + later) && !decide (r.job ∈ [drop])) = (!decide (r.job = drop) && !decide (r.until_ ≤ now + later))
    rw [Bool.and_comm]
    simp only [List.mem_singleton]
  rw [h0]
  have h9 := filt_key (fun k => !decide (k.1 = drop) && !decide (k.2 ≤ now + later)) ws
  rw [h, filt_g] at h9
  exact h9
theorem ws3_job (h : Wok ws J now n) : (ws3 ws drop (now + later)).map (·.job) = leftJ J drop now later n := by
  have h1 := congrArg (List.map Prod.fst) (ws3_key (drop := drop) (later := later) h)
  rw [List.map_map, List.map_map] at h1
  exact h1
theorem ws3_len (h : Wok ws J now n) : (ws3 ws drop (now + later)).length = (leftJ J drop now later n).length := by
  rw [← ws3_job h, List.length_map]
theorem exp_len (h : Wok ws J now n) : ((ws1 ws drop).filter (fun x => decide (x.until_ ≤ now + later))).length + (leftJ J drop now later n).length + (dropQ J drop n).length = n := by
  have h1 := filt_sum (ws1 ws drop) (fun x => decide (x.until_ ≤ now + later))
  have h2 := drop_len (drop := drop) h
  have h3 := ws3_len (drop := drop) (later := later) h
  unfold ws3 at h3
  omega
theorem ws3_rise (h : Wok ws J now n) (i : Nat) (a b : WtP) (ha : (ws3 ws drop (now + later))[i]? = some a) (hb : (ws3 ws drop (now + later))[i + 1]? = some b) : a.until_ ≤ b.until_ := by
  have hk := ws3_key (drop := drop) (later := later) h
  have hp : (leftQ J drop now later n).Pairwise (· < ·) := List.Pairwise.filter _ List.pairwise_lt_range
  have e1 := congrArg (fun l => l[i]?) hk
  have e2 := congrArg (fun l => l[i + 1]?) hk
  simp only [List.getElem?_map, ha, hb, Option.map_some] at e1 e2
  obtain ⟨x, hx, ex⟩ := Option.map_eq_some_iff.1 e1.symm
  obtain ⟨y, hy, ey⟩ := Option.map_eq_some_iff.1 e2.symm
  obtain ⟨hx1, hx2⟩ := List.getElem?_eq_some_iff.1 hx
  obtain ⟨hy1, hy2⟩ := List.getElem?_eq_some_iff.1 hy
  have hlt := List.pairwise_iff_getElem.1 hp i (i + 1) hx1 hy1 (Nat.lt_succ_self i)
  rw [hx2, hy2] at hlt
  have u1 := congrArg Prod.snd ex
  have u2 := congrArg Prod.snd ey
  simp only [gJ, keyW] at u1 u2
  omega
end
end Go.Proofs.Ytocfphijheidbaa
