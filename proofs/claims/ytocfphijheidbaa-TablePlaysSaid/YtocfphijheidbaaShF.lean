/- A State made, copied, written to: contracts of New, Copy, Len, Write. -/
import Derived.Test.YtocfphijheidbaaShE
import Derived.Test.YtocfphijheidbaaBRx
namespace Go.Proofs.Ytocfphijheidbaa
open Go.RowKit

/-- The cells of a State. -/
def shC (h r : Nat → Int) (n : Int) : List Value := arL .u64 8 h ++ (arL .u8 128 r ++ [.int .i64 n])
theorem shC_length (h r : Nat → Int) (n : Int) : (shC h r n).length = 137 := by simp [shC, arL_length]
theorem shC_at {h r : Nat → Int} {n : Int} {j : Nat} (hj : j < 137) : (shC h r n)[j]? = some (if j < 8 then .int .u64 (h j) else if j < 136 then .int .u8 (r (j - 8)) else .int .i64 n) := by
  unfold shC
  by_cases h1 : j < 8
  · rw [List.getElem?_append_left (by rw [arL_length]; exact h1), arL_get h1, if_pos h1]
  · rw [List.getElem?_append_right (by rw [arL_length]; omega), arL_length, if_neg h1]
    by_cases h2 : j < 136
    · rw [List.getElem?_append_left (by rw [arL_length]; omega), arL_get (by omega), if_pos h2]
    · have : j = 136 := by omega
      subst this
      rw [List.getElem?_append_right (by rw [arL_length]; omega), arL_length, if_neg h2]
      rfl
theorem ShS.range {w : World} {q : Nat} {h r : Nat → Int} {n : Int} (s : ShS w q h r n) : w.rangeAt q 0 (shC h r n) := by
  intro j v hv
  have hj : j < 137 := by have := (List.getElem?_eq_some_iff.1 hv).1; rwa [shC_length] at this
  rw [shC_at hj] at hv
  obtain ⟨h1, h2, h3, h4⟩ := s
  rw [Nat.zero_add]
  by_cases e1 : j < 8
  · rw [if_pos e1] at hv
    have := (h1 j e1).1
    rw [Nat.zero_add] at this
    rw [this, hv]
  · rw [if_neg e1] at hv
    by_cases e2 : j < 136
    · rw [if_pos e2] at hv
      have := (h2 (j - 8) (by omega)).1
      rw [show 8 + (j - 8) = j by omega] at this
      rw [this, hv]
    · rw [if_neg e2] at hv
      rw [show j = 136 by omega, h3, hv]
theorem ShS.of {w : World} {q : Nat} {h r : Nat → Int} {n : Int} (hr : w.rangeAt q 0 (shC h r n)) (hf : ∀ j, j < 137 → w.frozen? ⟨q, j, none⟩ = false) : ShS w q h r n := by
  refine ⟨fun j hj => ?_, fun j hj => ?_, ?_, hf 136 (by omega)⟩
  · refine ⟨?_, hf _ (by omega)⟩
    have := hr j (.int .u64 (h j)) (by rw [shC_at (by omega), if_pos hj])
    exact this
  · refine ⟨?_, hf _ (by omega)⟩
    have := hr (8 + j) (.int .u8 (r j)) (by rw [shC_at (by omega), if_neg (by omega), if_pos (by omega), show 8 + j - 8 = j by omega])
    rwa [Nat.zero_add] at this
  · have := hr 136 (.int .i64 n) (by rw [shC_at (by omega)]; rfl)
    rwa [Nat.zero_add] at this
theorem shC_one (h r : Nat → Int) (n : Int) : (shC h r n).toArray.all (·.oneCell') = true := by
  refine all_oneCell_toArray ?_
  intro v hv
  obtain ⟨j, hj, e⟩ := List.mem_iff_getElem.1 hv
  have h1 : (shC h r n)[j]? = some v := by rw [List.getElem?_eq_getElem hj, e]
  rw [shC_at (by rw [shC_length] at hj; exact hj)] at h1
  injection h1 with h1
  rw [← h1]
  split
  · rfl
  · split <;> rfl
theorem shS_new (w : World) (T : TypeId) (h r : Nat → Int) (n : Int) : ShS (w.alloc (.cells (shC h r n).toArray T)) w.heap.size h r n := by
  refine ShS.of (fun j v hv => ?_) (fun j hj => by rw [World.frozen?_alloc_new])
  rw [World.cell?_alloc_new, Nat.zero_add, List.getElem?_toArray]
  exact hv
set_option maxRecDepth 100000 in
theorem sha_built : Try.prog.built 122 [(0, .agg (arL .u64 8 iniF).toArray)] = some (shC iniF (fun _ => 0) 0).toArray := by kernel_rfl
set_option maxRecDepth 100000 in
theorem zeroSha : Try.zeroCells122 = (shC (fun _ => 0) (fun _ => 0) 0).toArray := by kernel_rfl

/-- Slices of slices that lie apart from a block. -/
def FarC (w : World) (q : Nat) (a : Option Addr) (n : Nat) (M : List (List UInt8)) : Prop :=
  ∃ cs, CellsAt w a n cs ∧ (∀ b off, a = some ⟨b, off, none⟩ → n = 0 ∨ b ≠ q) ∧ M.length = n ∧ ∀ j u, cs[j]? = some u → ValC w u (M.getD j []) ∧ ∀ b off l c, u = .slice (some ⟨b, off, none⟩) l c → l = 0 ∨ b ≠ q
theorem FarC.at {w : World} {q : Nat} {a : Option Addr} {n : Nat} {M : List (List UInt8)} (h : FarC w q a n M) (j : Nat) (hj : j < n) : ∃ b off ai ci, a = some ⟨b, off, none⟩ ∧ b < w.heap.size ∧ w.cell? ⟨b, off + j, none⟩ = some (.slice ai (M.getD j []).length ci) ∧ (M.getD j []).length ≤ ci ∧ RowB w ai (M.getD j []).length (M.getD j []) ∧ (ai = none → (M.getD j []).length = 0 ∧ ci = 0) ∧ (∀ x, ai = some x → (M.getD j []).length = 0 ∨ x.spot = none) ∧ (∀ b off, ai = some ⟨b, off, none⟩ → (M.getD j []).length = 0 ∨ b ≠ q) := by
  obtain ⟨cs, h1, h4, h2, h3⟩ := h
  have hl := h1.1
  rcases h1.2 with h0 | ⟨b, off, rfl, hlt, hc⟩
  · omega
  · obtain ⟨u, hu⟩ : ∃ u, cs[j]? = some u := ⟨cs[j]'(by omega), List.getElem?_eq_getElem (by omega)⟩
    obtain ⟨⟨ai, ci, rfl, hm, hr, hn⟩, hq⟩ := h3 j u hu
    refine ⟨b, off, ai, ci, rfl, hlt, hc j _ hu, hm, hr, hn, fun x hx => ?_, fun b' o' e => hq b' o' _ _ (by rw [e])⟩
    by_cases h0 : (M.getD j []).length = 0
    · exact Or.inl h0
    · obtain ⟨b2, o2, e2, _⟩ := hr.at (by omega)
      rw [e2] at hx
      injection hx with hx
      exact Or.inr (by rw [← hx])
theorem FarC.oth {w w' : World} {q : Nat} {a : Option Addr} {n : Nat} {M : List (List UInt8)} (h : FarC w q a n M) (g : Oth w w' q) : FarC w' q a n M := by
  obtain ⟨cs, h1, h4, h2, h3⟩ := h
  refine ⟨cs, ⟨h1.1, ?_⟩, h4, h2, fun j u hj => ?_⟩
  · rcases h1.2 with h0 | ⟨b, off, rfl, hlt, hc⟩
    · exact Or.inl h0
    · rcases h4 b off rfl with h0 | hne
      · exact Or.inl h0
      · exact Or.inr ⟨b, off, rfl, Nat.lt_of_lt_of_le hlt g.size, fun j u hj => g.keeps (hc j u hj) hne⟩
  · obtain ⟨⟨ai, ci, rfl, hm, hr, hn⟩, hq⟩ := h3 j u hj
    exact ⟨⟨ai, ci, rfl, hm, hr.oth g (fun b off e => hq b off _ _ (by rw [e])), hn⟩, hq⟩
theorem ValC.lt {w : World} {u : Value} {m : List UInt8} (h : ValC w u m) : ∀ b off l c, u = .slice (some ⟨b, off, none⟩) l c → l = 0 ∨ b < w.heap.size := by
  intro b off l c e
  have := h.b.lt ⟨b, off, none⟩ l c e
  exact this
theorem FarC.of {w0 w : World} {q : Nat} {a : Option Addr} {n : Nat} {M : List (List UInt8)} (h : RowBC w0 a n M) (hb : Below w0.heap.size w0 w) (hq : w0.heap.size ≤ q) : FarC w q a n M := by
  obtain ⟨cs, h1, h2, h3⟩ := h
  refine ⟨cs, h1.below hb, fun b off e => ?_, h2, fun j u hj => ⟨(h3 j u hj).below hb, fun b off l c e => ?_⟩⟩
  · rcases h1.2 with h0 | ⟨b', o', e', hlt, _⟩
    · exact Or.inl h0
    · rw [e] at e'; injection e' with e'; injection e' with e1 _
      exact Or.inr (by omega)
  · rcases (h3 j u hj).lt b off l c e with h0 | h0
    · exact Or.inl h0
    · exact Or.inr (by omega)
/-- A literal of one slice. -/
theorem FarC.one {w : World} {q : Nat} {u : Value} {m : List UInt8} (h : ValC w u m) (hu : ∀ b off l c, u = .slice (some ⟨b, off, none⟩) l c → l = 0 ∨ b ≠ q) (hq : q < w.heap.size) (H : Nat) (hH : H = w.heap.size) : FarC (w.alloc (.cells #[u] 25)) q (some ⟨H, 0, none⟩) 1 [m] := by
  subst hH
  have hb := (Below.refl w.heap.size w).alloc (Nat.le_refl _) (.cells #[u] 25)
  refine ⟨[u], ⟨rfl, Or.inr ⟨w.heap.size, 0, rfl, by simp, fun j v hj => ?_⟩⟩, fun b off e => ?_, rfl, fun j v hj => ?_⟩
  · have hj2 : j < 1 := (List.getElem?_eq_some_iff.1 hj).1
    have : j = 0 := by omega
    subst this
    simp at hj; subst hj
    simp [World.cell?_alloc_at]
  · injection e with e; injection e with e _
    exact Or.inr (by omega)
  · have hj2 : j < 1 := (List.getElem?_eq_some_iff.1 hj).1
    have : j = 0 := by omega
    subst this
    simp at hj; subst hj
    exact ⟨h.below hb, hu⟩
theorem flat_le (M : List (List UInt8)) (k : Nat) : (M.take k).flatten.length ≤ M.flatten.length := by
  have h : M.flatten = (M.take k).flatten ++ (M.drop k).flatten := by rw [← List.flatten_append, List.take_append_drop]
  rw [h, List.length_append]; omega
theorem flat_next {M : List (List UInt8)} {k : Nat} (hk : k < M.length) : (M.take (k + 1)).flatten = (M.take k).flatten ++ M.getD k [] := by
  rw [List.take_succ_eq_append_getElem hk, List.flatten_append, List.getD_eq_getElem?_getD, List.getElem?_eq_getElem hk]
  simp

set_option maxRecDepth 100000 in
theorem len_any (q : Nat) (l : List UInt8) (w : World) (hs : ShL w q l) : Calls Try.prog 22 #[.pointer (some ⟨q, 0, none⟩)] w fun e w' => e = .returned (.int .i64 (l.length : Int)) ∧ w = w' := by
  obtain ⟨rl, -, ⟨-, -, h3, h4⟩, -⟩ := hs
  go_enter Try.func22, Try.ntmps22
  go_wp2
  go_ret
  exact ⟨rfl, rfl⟩

set_option maxRecDepth 100000 in
set_option maxHeartbeats 4000000 in
theorem writes_any (q : Nat) (l : List UInt8) (a : Option Addr) (n c : Nat) (M : List (List UInt8)) (w : World) (hs : ShL w q l) (hf : FarC w q a n M) (hn : n ≤ 1000000) (hsz : l.length + M.flatten.length ≤ 1000000000) :
    Calls Try.prog 19 #[.pointer (some ⟨q, 0, none⟩), .slice a n c] w fun e w' => e = .returned (.tuple #[]) ∧ ShL w' q (l ++ M.flatten) ∧ Oth w w' q := by
  have HML := Lib.hid (show M.length = n from hf.choose_spec.2.2.1)
  have HS := Lib.hid hs
  have HF := Lib.hid hf
  clear hs hf
  go_enter Try.func19, Try.ntmps19
  go_wp2_with fail
  go_loopw [8] (fun i wr => ∃ k : Nat, k ≤ n ∧ i = .int .i64 k ∧ Hid (ShL wr q (l ++ (M.take k).flatten)) ∧ Hid (FarC wr q a n M) ∧ Hid (Oth w wr q)) (fun i _ => n - (intOf i).toNat)
  case atStart => exact ⟨0, Nat.zero_le _, rfl, Lib.hid (by rw [List.take_zero, List.flatten_nil, List.append_nil]; exact HS.out), HF, Lib.hid (Oth.refl _ _)⟩
  case round =>
    clear HS HF
    obtain ⟨k, hk, rfl, HS, HF, HO⟩ := hrel
    by_cases hlt : k < n
    · obtain ⟨b1, o1, ai, ci, rfl, hbl1, c0, hci, r1, n1, s1, q1⟩ := HF.out.at k hlt
      have hnx := flat_next (M := M) (k := k) (by rw [HML.out]; exact hlt)
      have hle := flat_le M (k + 1)
      obtain ⟨m, hm⟩ : ∃ m, M.getD k [] = m := ⟨_, rfl⟩
      rw [hm] at c0 hci r1 n1 s1 q1 hnx
      have HR := Lib.hid r1
      have HN := Lib.hid n1
      have HP := Lib.hid s1
      have HQ := Lib.hid q1
      have HX := Lib.hid (show (l ++ (M.take k).flatten) ++ m = l ++ (M.take (k + 1)).flatten by rw [hnx, List.append_assoc])
      have hsm : (l ++ (M.take k).flatten).length + m.length ≤ 1000000000 := by rw [hnx, List.length_append] at hle; rw [List.length_append]; omega
      have HK := Lib.hid hlt
      obtain ⟨s, hs2⟩ : ∃ s, m.length = s := ⟨_, rfl⟩
      rw [hs2] at c0 hci HR HN HP HQ hsm
      clear r1 n1 s1 q1 hm hnx hle hs2
      go_wp2_with fail
      refine (write_any q _ ai s ci m _ HS.out HR.out HN.out hci HP.out HQ.out hsm).mono ?_; rintro e w2 ⟨rfl, hs3, ho3⟩
      have HS3 := Lib.hid (show ShL w2 q (l ++ (M.take (k + 1)).flatten) by rw [← HX.out]; exact hs3)
      have HO3 := Lib.hid (HO.out.trans ho3)
      have HF3 := Lib.hid (HF.out.oth ho3)
      clear hs3 ho3 HS HO HF
      go_wp2
      go_roundw
      case rel => exact ⟨k + 1, HK.out, by go_num, HS3, HF3, HO3⟩
      case measure =>
        simp only [intOf]
        have := HK.out
        omega
    · have hkn : k = n := by omega
      have HSF := Lib.hid (show ShL wr q (l ++ M.flatten) from by
        have h1 := HS.out
        rwa [List.take_of_length_le (by rw [HML.out, hkn]; exact Nat.le_refl _)] at h1)
      subst hkn
      clear HS HF
      go_wp2
      refine bodyPost_end (v := .tuple #[]) (by simp [results, Try.results19, go_sem]) rfl ⟨rfl, HSF.out, HO.out⟩
end Go.Proofs.Ytocfphijheidbaa
