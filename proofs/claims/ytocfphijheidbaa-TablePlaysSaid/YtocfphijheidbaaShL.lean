/- Slices that lie apart from a State; their parts. -/
import Derived.Test.YtocfphijheidbaaShK
namespace Go.Proofs.Ytocfphijheidbaa
open Go.RowKit

/-- A slice of bytes that lies apart from a block. -/
def ValF (w : World) (q : Nat) (u : Value) (m : List UInt8) : Prop := ValC w u m ∧ ∀ b off l c, u = .slice (some ⟨b, off, none⟩) l c → l = 0 ∨ b ≠ q
theorem ValF.below {w w' : World} {q : Nat} {u : Value} {m : List UInt8} (h : ValF w q u m) (hb : Below w.heap.size w w') : ValF w' q u m := ⟨h.1.below hb, h.2⟩
theorem ValF.oth {w w' : World} {q : Nat} {u : Value} {m : List UInt8} (h : ValF w q u m) (g : Oth w w' q) : ValF w' q u m := by
  obtain ⟨⟨ai, ci, rfl, hm, hr, hn⟩, hq⟩ := h
  exact ⟨⟨ai, ci, rfl, hm, hr.oth g (fun b off e => hq b off _ _ (by rw [e])), hn⟩, hq⟩
theorem ValF.old {w0 w : World} {q : Nat} {u : Value} {m : List UInt8} (h : ValC w0 u m) (hb : Below w0.heap.size w0 w) (hq : w0.heap.size ≤ q) : ValF w q u m :=
  ⟨h.below hb, fun b off l c e => by rcases h.lt b off l c e with h1 | h1; exact Or.inl h1; exact Or.inr (by omega)⟩
theorem ValF.own {w : World} {B n q : Nat} {v : Value} {m : List UInt8} (h : w.ownsRow B 5 1 v n (bc m)) (hq : q < B) : ValF w q v m :=
  ⟨ValC.own h, fun b off l c e => by
    right
    have := (h.lt b (by rw [e]; rfl)).1
    omega⟩
theorem ValC.open {w : World} {a : Option Addr} {n c : Nat} {m : List UInt8} (h : ValC w (.slice a n c) m) : m.length = n ∧ n ≤ c ∧ RowB w a n m ∧ (a = none → n = 0 ∧ c = 0) := by
  obtain ⟨a', c', e, h1, h2, h3⟩ := h
  injection e with e1 e2 e3
  subst e1 e2 e3
  exact ⟨rfl, h1, h2, h3⟩
theorem ValC.spot {w : World} {a : Option Addr} {n c : Nat} {m : List UInt8} (h : ValC w (.slice a n c) m) : ∀ x, a = some x → n = 0 ∨ x.spot = none := by
  obtain ⟨h1, h2, h3, h4⟩ := h.open
  intro x hx
  by_cases h0 : n = 0
  · exact Or.inl h0
  · obtain ⟨b2, o2, e2, _⟩ := h3.at (by omega)
    rw [e2] at hx
    injection hx with hx
    exact Or.inr (by rw [← hx])
/-- b[k:] -/
theorem ValC.rest {w : World} {a : Option Addr} {n c : Nat} {m : List UInt8} (h : ValC w (.slice a n c) m) (k : Nat) (hk : k ≤ n) : ∃ ad, (∀ W, (Instr.slice 25 (.slice a n c) (some (.int .i64 (k : Int))) none none).run Try.prog W = .ok (.slice ad (n - k) (c - k)) W) ∧ (∀ w' : World, ValC w' (.slice a n c) m → ValC w' (.slice ad (n - k) (c - k)) (m.drop k)) ∧ (∀ b off, ad = some ⟨b, off, none⟩ → n - k = 0 ∨ ∃ o, a = some ⟨b, o, none⟩) := by
  obtain ⟨h1, h2, h3, h4⟩ := h.open
  obtain ⟨ad, g1, g2, g3, g4⟩ := slice_rest a n c k h4 h.spot hk h2
  refine ⟨ad, g1, fun w' h' => ?_, fun b off e => ?_⟩
  · obtain ⟨k1, k2, k3, k4⟩ := h'.open
    have hr := k3.rest hk g3
    have hl : (m.drop k).length = n - k := by rw [List.length_drop]; omega
    exact ⟨ad, c - k, by rw [hl], by rw [hl]; omega, by rw [hl]; exact hr, by rw [hl]; exact g2⟩
  · by_cases h0 : n - k = 0
    · exact Or.inl h0
    · right
      obtain ⟨β, o, ea, _⟩ := h3.at (by omega)
      have e2 := g3 (by omega) β o ea
      rw [e2] at e
      injection e with e
      injection e with e3 _
      exact ⟨o, by rw [ea, e3]⟩
/-- b[:k] -/
theorem ValC.head {w : World} {a : Option Addr} {n c : Nat} {m : List UInt8} (h : ValC w (.slice a n c) m) (k : Nat) (hk : k ≤ n) : (∀ W, (Instr.slice 25 (.slice a n c) none (some (.int .i64 (k : Int))) none).run Try.prog W = .ok (.slice a k c) W) ∧ (∀ w' : World, ValC w' (.slice a n c) m → ValC w' (.slice a k c) (m.take k)) := by
  obtain ⟨h1, h2, h3, h4⟩ := h.open
  obtain ⟨i0, hi, hz0, hz1, hz2⟩ := info_parts infoU8
  have he : Try.prog.elem 25 = 5 := by simp [Program.elem, Try.underlying25]
  have hu : Try.prog.underlying 25 = some (.slice (Try.prog.elem 25)) := by rw [he]; exact Try.underlying25
  refine ⟨fun W => ?_, fun w' h' => ?_⟩
  · rw [run_slice_h (P := Try.prog) (w := W) 25 a n c hu .i64 _ (by omega) (by omega), he]
    cases a with
    | none => simp [sizeOf, typeInfo, hi, hz1, Result.andThen, sliced]
    | some x =>
      obtain ⟨b, o, sp⟩ := x
      cases sp <;> simp [sizeOf, typeInfo, hi, hz1, Result.andThen, sliced, Addr.add]
  · obtain ⟨k1, k2, k3, k4⟩ := h'.open
    have hl : (m.take k).length = k := by rw [List.length_take]; omega
    refine ⟨a, c, by rw [hl], by rw [hl]; omega, ?_, fun e => ?_⟩
    · rw [hl]
      refine ⟨by rw [bc_length, hl], ?_⟩
      by_cases h0 : k = 0
      · exact Or.inl h0
      rcases k3.2 with h5 | ⟨b, off, rfl, hlt, hc⟩
      · omega
      · refine Or.inr ⟨b, off, rfl, hlt, fun j u hj => hc j u ?_⟩
        rw [bc, List.getElem?_map, List.getElem?_take] at hj
        split at hj
        · rw [bc, List.getElem?_map]; exact hj
        · simp at hj
    · obtain ⟨e1, e2⟩ := k4 e
      rw [hl]
      omega
theorem FarC.lit {w : World} {q : Nat} {u : Value} {m : List UInt8} (h : ValF w q u m) (hq : q < w.heap.size) (H : Nat) (hH : H = w.heap.size) : FarC (w.alloc (.cells #[u] 25)) q (some ⟨H, 0, none⟩) 1 [m] := FarC.one h.1 h.2 hq H hH
theorem FarC.lit2 {w : World} {q : Nat} {u1 u2 : Value} {m1 m2 : List UInt8} (h1 : ValF w q u1 m1) (h2 : ValF w q u2 m2) (hq : q < w.heap.size) (H : Nat) (hH : H = w.heap.size) : FarC (w.alloc (.cells #[u1, u2] 25)) q (some ⟨H, 0, none⟩) 2 [m1, m2] := by
  obtain ⟨cs, k1, k2, k3⟩ := rowBC_lit2 w u1 u2 m1 m2 H hH h1.1 h2.1
  subst hH
  have hb := (Below.refl w.heap.size w).alloc (Nat.le_refl _) (.cells #[u1, u2] 25)
  refine ⟨[u1, u2], ⟨rfl, Or.inr ⟨w.heap.size, 0, rfl, by simp, fun j u hj => ?_⟩⟩, fun b off e => ?_, rfl, fun j u hj => ?_⟩
  · rw [Nat.zero_add, World.cell?_alloc_new, ← hj]
    simp
  · injection e with e; injection e with e _
    exact Or.inr (by omega)
  · have hj2 : j < 2 := (List.getElem?_eq_some_iff.1 hj).1
    rcases (by omega : j = 0 ∨ j = 1) with rfl | rfl
    · simp at hj; subst hj; exact ⟨h1.1.below hb, h1.2⟩
    · simp at hj; subst hj; exact ⟨h2.1.below hb, h2.2⟩
theorem FarC.nil (w : World) (q : Nat) : FarC w q none 0 [] := ⟨[], ⟨rfl, Or.inl rfl⟩, (fun b off e => by cases e), rfl, (fun j u hj => by simp at hj)⟩
theorem valF_nil (w : World) (q : Nat) : ValF w q (.slice none 0 0) [] := ⟨valC_nil w, fun b off l c e => by cases e⟩
theorem ValF.head {w : World} {q : Nat} {a : Option Addr} {n c : Nat} {m : List UInt8} (h : ValF w q (.slice a n c) m) {k : Nat} (hk : k ≤ n) (f : ValC w (.slice a n c) m → ValC w (.slice a k c) (m.take k)) : ValF w q (.slice a k c) (m.take k) :=
  ⟨f h.1, fun b off l c' e => by
    injection e with e1 e2 e3
    by_cases h0 : l = 0
    · exact Or.inl h0
    · right
      rcases h.2 b off n c (by rw [e1]) with h1 | h1
      · omega
      · exact h1⟩
theorem ValF.rest {w : World} {q : Nat} {a ad : Option Addr} {n c k : Nat} {m : List UInt8} (h : ValF w q (.slice a n c) m) (f : ValC w (.slice a n c) m → ValC w (.slice ad (n - k) (c - k)) (m.drop k)) (g : ∀ b off, ad = some ⟨b, off, none⟩ → n - k = 0 ∨ ∃ o, a = some ⟨b, o, none⟩) : ValF w q (.slice ad (n - k) (c - k)) (m.drop k) :=
  ⟨f h.1, fun b off l c' e => by
    injection e with e1 e2 e3
    rcases g b off e1 with h1 | ⟨o, h1⟩
    · exact Or.inl (by omega)
    · rcases h.2 b o n c (by rw [h1]) with h2 | h2
      · exact Or.inl (by omega)
      · exact Or.inr h2⟩
theorem shaL_bytes {w : World} {a b : Option Addr} {c d : Nat} {l : List UInt8} (ha : ValC w (.slice a 48 c) l) (hb : ValC w (.slice b 48 d) l) :
    Calls Try.prog 16 #[.slice a 48 c, .slice b 48 d] w fun e w' => e = .returned (.bool true) ∧ w = w' := by
  obtain ⟨_, _, h1, h2⟩ := ha.open
  obtain ⟨_, _, h3, h4⟩ := hb.open
  exact bytes_same a b 48 c d l w h1 h3 h2 h4
theorem own_shape48 {w : World} {B : Nat} {v : Value} {l : List UInt8} (h : w.ownsRow B 5 1 v 48 (bc l)) : ∃ a c, v = .slice a 48 c := own_shape h
end Go.Proofs.Ytocfphijheidbaa
