/- Contracts of name.starts, name.label (chapter 2), over this seat's translation. -/
import Derived.Test.YtgdbbdbfaglkdaaLab
import Derived.Deep.MidRow
import Derived.Laws.ResultCell
namespace Go.Proofs.Ytgdbbdbfaglkdaa
open Go.RowKit

set_option maxRecDepth 100000 in
theorem label_any (L : List ByteArray) (k : Nat) (w : World) (hL : OkL L) (hk : k < L.length) (hz : off L L.length ≤ 254) : Calls Try.prog 103 #[.string (nameB L), .int .u8 (off L k : Nat)] w fun e w' => e = .returned (.string (tx L k)) ∧ w = w' := by
  have hsz := nameB_size L
  have hm := off_mono L (show k + 1 ≤ L.length by omega)
  have hs := off_succ L k
  obtain ⟨g1, g2, _⟩ := hL k hk
  have hb := name_byte L k hk (by omega)
  have hlt : off L k < (nameB L).size := by omega
  have hg := byte_get hlt
  rw [hb] at hg
  have hl := name_label L k hk
  obtain ⟨s, hs1⟩ : ∃ s, nameB L = s := ⟨_, rfl⟩
  obtain ⟨a, ha⟩ : ∃ a, off L k = a := ⟨_, rfl⟩
  obtain ⟨t, ht⟩ : ∃ t, tx L k = t := ⟨_, rfl⟩
  simp only [hs1, ha, ht] at *
  have HL := Lib.hid hl
  clear hl hb
  go_enter Try.func103, Try.ntmps103
  go_wp2
  go_ret
  exact ⟨ret_str HL.out, rfl⟩

/-- An array of bytes in a block. -/
def ArrAt (w : World) (q : Nat) (f : Nat → Int) : Prop := ∀ j, j < 127 → w.cell? ⟨q, j, none⟩ = some (.int .u8 (f j)) ∧ w.frozen? ⟨q, j, none⟩ = false
def arrL (f : Nat → Int) : List Value := (List.range 127).map fun j => Value.int .u8 (f j)
theorem arrL_length (f : Nat → Int) : (arrL f).length = 127 := by simp [arrL]
theorem arrL_at (f : Nat → Int) (j : Nat) (v : Value) (h : (arrL f)[j]? = some v) : j < 127 ∧ v = .int .u8 (f j) := by
  have hj : j < 127 := by
    have := (List.getElem?_eq_some_iff.1 h).1
    rwa [arrL_length] at this
  refine ⟨hj, ?_⟩
  simp [arrL, hj] at h
  exact h.symm
theorem arrL_get (f : Nat → Int) (j : Nat) (h : j < 127) : (arrL f)[j]? = some (.int .u8 (f j)) := by simp [arrL, h]
theorem ArrAt.range {w : World} {q : Nat} {f : Nat → Int} (h : ArrAt w q f) : w.rangeAt q 0 (arrL f) := by
  intro j v hv
  obtain ⟨h1, rfl⟩ := arrL_at f j v hv
  rw [Nat.zero_add]
  exact (h j h1).1
theorem ArrAt.there {w : World} {q : Nat} {f : Nat → Int} (h : ArrAt w q f) : w.there q 0 127 := by
  intro j hj
  rw [Nat.zero_add, (h j hj).1, (h j hj).2]
  exact ⟨rfl, rfl⟩
theorem arr_one (f : Nat → Int) : (arrL f).toArray.all (·.oneCell') = true := by
  refine all_oneCell_toArray ?_
  intro v hv
  simp only [arrL, List.mem_map] at hv
  obtain ⟨_, _, rfl⟩ := hv
  rfl
theorem arr_stored {w : World} {q : Nat} {f g : Nat → Int} (h : ArrAt w q g) : ArrAt (w.setCells q 0 (arrL f)) q f := by
  have ht := h.there
  have h1 := World.rangeAt_setCells_same w q 0 (arrL f) (by rw [arrL_length]; exact ht)
  have h2 := World.there_setCells ht q 0 (arrL f)
  intro j hj
  have k1 := h1 j _ (arrL_get f j hj)
  have k2 := (h2 j hj).2
  rw [Nat.zero_add] at k1 k2
  exact ⟨k1, k2⟩
theorem ArrAt.below {w w' : World} {q : Nat} {f : Nat → Int} (h : ArrAt w q f) (hb : Below w.heap.size w w') : ArrAt w' q f := by
  intro j hj
  obtain ⟨h1, h2⟩ := h j hj
  have hlt : q < w.heap.size := block_lt_of_cell h1
  exact ⟨by rw [hb.cell hlt]; exact h1, by rw [hb.frozen hlt]; exact h2⟩
theorem ArrAt.set {w : World} {q : Nat} {f : Nat → Int} (h : ArrAt w q f) {k : Nat} (hk : k < 127) (v : Int) : ArrAt (w.setCell ⟨q, k, none⟩ (.int .u8 v)) q (fun j => if j = k then v else f j) := by
  intro j hj
  obtain ⟨h1, h2⟩ := h j hj
  refine ⟨?_, by simpa using h2⟩
  show _ = some (Value.int .u8 (if j = k then v else f j))
  by_cases e : j = k
  · subst e
    rw [if_pos rfl]
    exact World.cell?_setCell_same _ _ _ h1
  · rw [if_neg e, World.cell?_setCell_other _ _ _ _ (by simp)]
    exact h1
theorem ArrAt.other {w : World} {q : Nat} {f : Nat → Int} (h : ArrAt w q f) {p : Addr} (hk : p.block ≠ q) (v : Value) : ArrAt (w.setCell p v) q f := by
  intro j hj
  obtain ⟨h1, h2⟩ := h j hj
  refine ⟨?_, by simpa using h2⟩
  rw [World.cell?_setCell_other _ _ _ _ (by rintro rfl; exact hk rfl)]
  exact h1
theorem below_setCells {B : Nat} {w w' : World} (h : Below B w w') {b : Nat} (hb : B ≤ b) (o : Nat) (vs : List Value) : Below B w (w'.setCells b o vs) := by
  induction vs generalizing o w' with
  | nil => exact h
  | cons v vs ih => exact ih (h.setCell hb v) (o + 1)
theorem zero_at {j : Nat} (h : j < 127) : Try.zeroCells132[j]? = some (.int .u8 0) := by
  have e : Try.zeroCells132 = Array.replicate 127 (.int .u8 0) := by kernel_rfl
  rw [e, Array.getElem?_replicate, if_pos h]
theorem arr_new (w : World) : ArrAt (w.alloc (.cells Try.zeroCells132 132)) w.heap.size (fun _ => 0) := by
  intro j hj
  rw [World.cell?_alloc_new, World.frozen?_alloc_new]
  exact ⟨zero_at hj, rfl⟩

/-- A whole array stored: a world. -/
theorem store_arr {w : World} {q : Nat} {g : Nat → Int} (h : ArrAt w q g) (f : Nat → Int) {B : Nat} {w0 : World} (hb : Below B w0 w) (hB : B ≤ q) :
    ∃ w2, (storeCells ⟨q, 0, none⟩ (arrL f)).run Try.prog w = .ok () w2 ∧ ArrAt w2 q f ∧ Below B w0 w2 := by
  refine ⟨w.setCells q 0 (arrL f), ?_, arr_stored h, below_setCells hb hB 0 (arrL f)⟩
  have h1 := run_storeCells_cells (P := Try.prog) q 0 (arrL f) 0 w ?_ ?_ ?_
  · simpa using h1
  · intro j hj
    rw [arrL_length] at hj
    simp only [Nat.zero_add, (h j hj).1]; rfl
  · intro j hj
    rw [arrL_length] at hj
    simp only [Nat.zero_add, (h j hj).2]
  · intro v hv
    simp only [arrL, List.mem_map] at hv
    obtain ⟨_, _, rfl⟩ := hv
    rfl

def stF (L : List ByteArray) (k j : Nat) : Int := if j < k then (off L j : Int) else 0
theorem stF_next (L : List ByteArray) (k : Nat) : (fun j => if j = k then (off L k : Int) else stF L k j) = stF L (k + 1) := by
  funext j
  unfold stF
  by_cases e : j = k
  · subst e; rw [if_pos rfl, if_pos (by omega)]
  · rw [if_neg e]
    by_cases h : j < k
    · rw [if_pos h, if_pos (by omega)]
    · rw [if_neg h, if_neg (by omega)]
theorem off_ge (L : List ByteArray) (hL : OkL L) (k : Nat) (hk : k ≤ L.length) : 2 * k ≤ off L k := by
  induction k with
  | zero => exact Nat.zero_le _
  | succ k ih =>
    have := ih (by omega)
    have := off_succ L k
    obtain ⟨g, _, _⟩ := hL k (by omega)
    omega

set_option maxRecDepth 100000 in
theorem starts_any (L : List ByteArray) (w : World) (hL : OkL L) (hz : off L L.length ≤ 254) : Calls Try.prog 102 #[.string (nameB L)] w fun e w' => e = .returned (.tuple #[.agg (arrL (stF L L.length)).toArray, .int .i64 L.length]) ∧ Below w.heap.size w w' := by
  have hsz := nameB_size L
  obtain ⟨n, hn⟩ : ∃ n, L.length = n := ⟨_, rfl⟩
  obtain ⟨s, hs1⟩ : ∃ s, nameB L = s := ⟨_, rfl⟩
  rw [hn, hs1] at hsz
  rw [hn] at hz
  have HN := Lib.hid hn
  have HS := Lib.hid hs1
  have HL := Lib.hid hL
  rw [hs1, hn]
  clear hn hs1 hL
  go_enter Try.func102, Try.ntmps102
  go_wp2
  go_loopw [5, 6] (fun c a wr => ∃ k : Nat, k ≤ n ∧ c = .int .i64 k ∧ a = .int .i64 (off L k : Nat) ∧ ArrAt wr w.heap.size (fun _ => 0) ∧ ArrAt wr (w.heap.size + 1) (stF L k) ∧ Below w.heap.size w wr ∧ wr.heap.size = w.heap.size + 2) (fun c _ _ => n - (intOf c).toNat)
  case atStart =>
    refine ⟨0, Nat.zero_le _, rfl, rfl, ?_, ?_, ?_, by simp⟩
    · exact (arr_new w).below ((Below.refl _ _).alloc (Nat.le_refl _) _)
    · have h := arr_new (w.alloc (.cells Try.zeroCells132 132))
      rw [World.size_alloc] at h
      exact h
    · exact ((Below.refl _ _).alloc (Nat.le_refl _) _).alloc (by simp) _
  case round =>
    obtain ⟨k, hk, rfl, rfl, ha0, ha1, hbel, hsize⟩ := hrel
    have HA0 := Lib.hid ha0
    have HA1 := Lib.hid ha1
    have HB := Lib.hid hbel
    have HZ := Lib.hid hsize
    have hm := off_mono L hk
    have hge := off_ge L HL.out k (by rw [HN.out]; exact hk)
    have hge2 := off_ge L HL.out n (by rw [HN.out]; exact Nat.le_refl _)
    clear ha0 ha1 hbel
    by_cases hlt : k < n
    · have hs := off_succ L k
      have hm2 := off_mono L (show k + 1 ≤ n by omega)
      obtain ⟨g1, g2, _⟩ := HL.out k (by rw [HN.out]; exact hlt)
      have hb := name_byte L k (by rw [HN.out]; exact hlt) (by omega)
      rw [HS.out] at hb
      obtain ⟨c1, f1⟩ := HA1.out k (by omega)
      obtain ⟨a, ha⟩ : ∃ a, off L k = a := ⟨_, rfl⟩
      obtain ⟨a2, ha2⟩ : ∃ a, off L (k + 1) = a := ⟨_, rfl⟩
      obtain ⟨t, ht⟩ : ∃ t, (tx L k).size = t := ⟨_, rfl⟩
      simp only [ha, ha2, ht] at hs hm2 hb g1 g2 hge ⊢
      have hlt2 : a < s.size := by omega
      have hg := (byte_get hlt2).trans hb
      have HA := Lib.hid ha
      have HA2 := Lib.hid ha2
      clear ha ha2 ht hb hsize hm
      go_wp2
      go_roundw
      case rel =>
        have h1 := HA1.out.set (k := k) (by omega) (a : Int)
        rw [show (fun j => if j = k then (a : Int) else stF L k j) = stF L (k + 1) by rw [← HA.out]; exact stF_next L k] at h1
        refine ⟨k + 1, by omega, by go_num, ?_, ?_, ?_, ?_, ?_⟩
        · rw [HA2.out, hs]; go_num
        · exact HA0.out.other (by simp) _
        · exact h1
        · exact HB.out.setCell (by simp) _
        · simpa using HZ.out
      case measure => simp [intOf]; omega
    · have hkn : k = n := by omega
      subst hkn
      go_wp2_with (first | (refine wpList_load_mid rfl 132 (.tmp 4) rfl _ _ rfl _ _ HA1.out.range Try.underlying132 rfl (by rw [arrL_length]; kernel_rfl) ?_) | (refine wpList_store_mid rfl 132 (.tmp 2) (.tmp 25) rfl _ _ _ rfl rfl HA0.out.there (by rw [List.size_toArray, arrL_length]; kernel_rfl) (arr_one _) ?_))
      refine bodyPost_ret (v := .tuple #[.agg (arrL (stF L k)).toArray, .int .i64 k]) ?_ rfl ⟨rfl, below_setCells HB.out (Nat.le_refl _) _ _⟩
      rw [results_cell_tmp Try.results102]
      have hr := run_loadVar_mid (P := Try.prog) (wr.setCells w.heap.size 0 (arrL (stF L k))) w.heap.size 0 132 (arrL (stF L k)) _ (arr_stored HA0.out).range Try.underlying132 rfl (by rw [arrL_length]; kernel_rfl)
      simp [asAddr, hr]
end Go.Proofs.Ytgdbbdbfaglkdaa
