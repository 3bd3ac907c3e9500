/- Plain facts of WirePlaces. -/
import Derived.Test.YtkoafkajmfodkaaEcQ
import Derived.Test.YtkoafkajmfodkaaWPl
import Derived.Test.YtkoafkajmfodkaaMgB
namespace Go.Proofs.Ytkoafkajmfodkaa
open Go.RowKit

theorem fits_two {p : Int} (h : 0 ≤ p ∧ p ≤ 65535) : fits p 2 = true := by
  unfold fits
  have e : (2 : Int) ^ (8 * (2 : Int).toNat) = 65536 := by decide
  simp only [decide_eq_true_eq]
  refine ⟨by omega, by omega, by omega, ?_⟩
  rw [e]; omega
theorem cn3 {w : World} {q : Nat} {c0 c1 c2 : Value} (h : CN w q [c0, c1, c2]) : w.cell? ⟨q, 0, none⟩ = some c0 ∧ w.cell? ⟨q, 1, none⟩ = some c1 ∧ w.cell? ⟨q, 2, none⟩ = some c2 := ⟨(h.2 0 _ rfl).1, (h.2 1 _ rfl).1, (h.2 2 _ rfl).1⟩
theorem hdr_len {i k : Int} (hi : 0 ≤ i ∧ i ≤ 65535) (hk : 0 ≤ k ∧ k ≤ 65535) : (joinL 2 [i, 0, k, 0, 0, 0]).length = 12 := by
  have hj : joinOk 2 [i, 0, k, 0, 0, 0] = true := join_yes (by omega) (fun j hj => by
    match j, hj with
    | 0, _ => exact fits_two hi
    | 1, _ => exact (show fits 0 2 = true by decide +kernel)
    | 2, _ => exact fits_two hk
    | 3, _ => exact (show fits 0 2 = true by decide +kernel)
    | 4, _ => exact (show fits 0 2 = true by decide +kernel)
    | 5, _ => exact (show fits 0 2 = true by decide +kernel)
    | j + 6, hj => (simp at hj; omega))
  rw [joinL, if_pos hj, joinTo_length]; rfl
theorem ones_len : (joinL 2 [1, 1]).length = 4 := by decide +kernel
theorem lit2_q (w : World) (n m : ByteArray) (a b c d : Int) (T : TypeId) : RowQ (w.alloc (.cells #[.string n, .int .i64 a, .int .i64 b, .string m, .int .i64 c, .int .i64 d] T)) (some ⟨w.heap.size, 0, none⟩) 2 [⟨n, a, b⟩, ⟨m, c, d⟩] := ⟨rfl, cells_lit w #[.string n, .int .i64 a, .int .i64 b, .string m, .int .i64 c, .int .i64 d] T⟩
theorem lit1_q (w : World) (n : ByteArray) (a b : Int) (T : TypeId) : RowQ (w.alloc (.cells #[.string n, .int .i64 a, .int .i64 b] T)) (some ⟨w.heap.size, 0, none⟩) 1 [⟨n, a, b⟩] := ⟨rfl, cells_lit w #[.string n, .int .i64 a, .int .i64 b] T⟩
theorem rowS_lit1 (w : World) (s : ByteArray) (t : TypeId) : RowS (w.alloc (.cells #[.string s] t)) (some ⟨w.heap.size, 0, none⟩) 1 [s] := by
  refine ⟨rfl, Or.inr ⟨w.heap.size, 0, rfl, by simp, ?_⟩⟩
  intro j hj
  have : j = 0 := by omega
  subst this
  simp [World.cell?_alloc_at]
/-- All that is said of two names that may be. -/
structure PlF (n m : ByteArray) (id : Int) (kz : Nat) (kr nr : Bool) : Prop where
  a : encE id 16000 [⟨n, 1, 1⟩] = 0 ∧ (encL id 16000 [⟨n, 1, 1⟩]).length = 16 + n.size
  b : encE id 16000 [⟨m, 1, 1⟩] = 0 ∧ (encL id 16000 [⟨m, 1, 1⟩]).length = 16 + m.size
  c : encE id 16000 [⟨n, 1, 1⟩, ⟨m, 1, 1⟩] = 0 ∧ (encL id 16000 [⟨n, 1, 1⟩, ⟨m, 1, 1⟩]).length + kz = 20 + n.size + m.size + (if kr then 1 else 2)
  d : encE id 16000 [⟨n, 1, 1⟩, ⟨n, 1, 1⟩] = 0 ∧ (encL id 16000 [⟨n, 1, 1⟩, ⟨n, 1, 1⟩]).length = 20 + n.size + (if nr then 1 else 2)
  k : (comS n [m]).size = kz ∧ ((comS n [m]).toList == [0]) = kr ∧ (n.toList == [0]) = nr
  z : 1 ≤ kz ∧ (kr = true → kz = 1) ∧ (kr = false → 3 ≤ kz) ∧ (nr = true → n.size = 1) ∧ (nr = false → 3 ≤ n.size) ∧ kz ≤ 255
theorem root_b (L : List ByteArray) (h : OkL L) : ((nameB L).toList == [0]) = decide (L = []) := by
  have h1 := root_toList L h
  cases L with
  | nil => rw [h1]; rfl
  | cons s L => rw [h1]; rfl
theorem plF {n m : ByteArray} {id : Int} (hn : mayN n = true) (hm : mayN m = true) (hi : 0 ≤ id ∧ id ≤ 65535) : ∃ kz kr nr, PlF n m id kz kr nr := by
  obtain ⟨l1, l2, l3⟩ := labs_spec hn
  obtain ⟨m1, m2, m3⟩ := labs_spec hm
  obtain ⟨c1, c2⟩ := comN_ok l1 l2 [labs m]
  have hmn : mayK ⟨n, 1, 1⟩ = true := by show (mayN n && (inR 1 65535 && inR 1 65535)) = true; rw [hn]; decide
  have hmm : mayK ⟨m, 1, 1⟩ = true := by show (mayN m && (inR 1 65535 && inR 1 65535)) = true; rw [hm]; decide
  have h1 := hdr_len (k := 1) hi (by omega)
  have h2 := hdr_len (k := 2) hi (by omega)
  have e1 : ∀ (s : ByteArray), mayN s = true → (encX id [⟨s, 1, 1⟩]).length = 16 + s.size := fun s hs => by
    obtain ⟨p1, p2, p3⟩ := labs_spec hs
    have hz := nameB_size (labs s)
    rw [← p3] at hz
    show ((wNm (fun _ => none) (joinL 2 [id, 0, 1, 0, 0, 0]) (labs s)).1 ++ joinL 2 [1, 1]).length = _
    rw [List.length_append, one_len, h1, ones_len]
    omega
  have e2 : ∀ (s : ByteArray), mayN s = true → (encX id [⟨n, 1, 1⟩, ⟨s, 1, 1⟩]).length + off (comN (labs n) [labs s]) (comN (labs n) [labs s]).length = 20 + n.size + off (labs s) (labs s).length + (if comN (labs n) [labs s] = [] then 1 else 2) := fun s hs => by
    have hz := nameB_size (labs n)
    rw [← l3] at hz
    have h := two_len (labs n) (labs s) (joinL 2 [id, 0, 2, 0, 0, 0]) ((wNm (fun _ => none) (joinL 2 [id, 0, 2, 0, 0, 0]) (labs n)).1 ++ joinL 2 [1, 1]) (by rw [h2]; omega)
    have hx : (encX id [⟨n, 1, 1⟩, ⟨s, 1, 1⟩]).length = ((wNm (wNm (fun _ => none) (joinL 2 [id, 0, 2, 0, 0, 0]) (labs n)).2 ((wNm (fun _ => none) (joinL 2 [id, 0, 2, 0, 0, 0]) (labs n)).1 ++ joinL 2 [1, 1]) (labs s)).1 ++ joinL 2 [1, 1]).length := rfl
    rw [hx, List.length_append, ones_len]
    rw [List.length_append, one_len, h2, ones_len] at h
    omega
  have hcs : comS n [m] = nameB (comN (labs n) [labs m]) := by
    have hall : (mayN n && [m].all mayN) = true := by simp [hn, hm]
    rw [comS, if_pos hall]; rfl
  have hkz : (comS n [m]).size = off (comN (labs n) [labs m]) (comN (labs n) [labs m]).length + 1 := by rw [hcs, nameB_size]
  have hnz := nameB_size (labs n)
  have hmz := nameB_size (labs m)
  rw [← l3] at hnz
  rw [← m3] at hmz
  have a1 := e1 n hn
  have b1 := e1 m hm
  have g1 := e2 m hm
  have g2 := e2 n hn
  rw [(comN_is (labs n) (labs n)).1 (undL_refl _)] at g2
  have hnl : ∀ s, mayN s = true → mayK ⟨s, 1, 1⟩ = true := fun s hs => by show (mayN s && (inR 1 65535 && inR 1 65535)) = true; rw [hs]; decide
  have k1 : ∀ {X : List Ky}, X.all mayK = true → (encX id X).length ≤ 16000 → encE id 16000 X = 0 ∧ encL id 16000 X = encX id X := fun h hl => enc_yes h (by omega) (by omega)
  have A := k1 (X := [⟨n, 1, 1⟩]) (by simp [hmn]) (by omega)
  have B := k1 (X := [⟨m, 1, 1⟩]) (by simp [hmm]) (by omega)
  have C := k1 (X := [⟨n, 1, 1⟩, ⟨m, 1, 1⟩]) (by simp [hmn, hmm]) (by split at g1 <;> omega)
  have D := k1 (X := [⟨n, 1, 1⟩, ⟨n, 1, 1⟩]) (by simp [hmn]) (by split at g2 <;> omega)
  refine ⟨off (comN (labs n) [labs m]) (comN (labs n) [labs m]).length + 1, decide (comN (labs n) [labs m] = []), decide (labs n = []), ⟨A.1, by rw [A.2]; exact a1⟩, ⟨B.1, by rw [B.2]; exact b1⟩, ⟨C.1, ?_⟩, ⟨D.1, ?_⟩, ⟨hkz, by rw [hcs]; exact root_b _ c1, ?_⟩, by omega, ?_, ?_, ?_, ?_, by omega⟩
  · rw [C.2]; simp only [decide_eq_true_eq]; omega
  · rw [D.2]; simp only [decide_eq_true_eq]; omega
  · have h := root_b _ l1; rw [← l3] at h; exact h
  · intro h; rw [of_decide_eq_true h]; rfl
  · intro h; have := off_pos c1 (of_decide_eq_false h); omega
  · intro h; rw [hnz, of_decide_eq_true h]; rfl
  · intro h; have := off_pos l1 (of_decide_eq_false h); omega
end Go.Proofs.Ytkoafkajmfodkaa
