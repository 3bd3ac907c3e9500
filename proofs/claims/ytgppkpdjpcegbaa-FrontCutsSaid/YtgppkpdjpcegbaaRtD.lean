/- Encode, Decode, May of any message, by value; what they tell of one another. -/
import Derived.Test.YtgppkpdjpcegbaaMgG
import Derived.Test.YtgppkpdjpcegbaaCpA
import Derived.Test.YtgppkpdjpcegbaaMgJ
namespace Go.Proofs.Ytgppkpdjpcegbaa
open Go.RowKit

/-- b[:h]. -/
theorem slice_head (av : Option Addr) (n cap h : Nat) (hav : av = none ∧ n = 0 ∧ cap = 0 ∨ ∃ β off, av = some ⟨β, off, none⟩) (h2 : h ≤ cap) (W : World) : (Instr.slice 22 (.slice av n cap) none (some (.int .i64 (h : Int))) none).run Try.prog W = .ok (.slice av h cap) W := by
  obtain ⟨i0, hi, hz0, hz1, hz2⟩ := info_parts infoU8
  have he : Try.prog.elem 22 = 5 := by simp [Program.elem, Try.underlying22]
  have hu : Try.prog.underlying 22 = some (.slice (Try.prog.elem 22)) := by rw [he]; exact Try.underlying22
  rw [run_slice_h (P := Try.prog) (w := W) 22 av n cap hu .i64 _ (by omega) (by omega), he]
  rcases hav with ⟨rfl, rfl, rfl⟩ | ⟨β, off, rfl⟩
  · simp [sizeOf, typeInfo, hi, hz1, Result.andThen, sliced]
  · simp [sizeOf, typeInfo, hi, hz1, Result.andThen, sliced, Addr.add]
theorem own_hav {w : World} {B n c : Nat} {a : Option Addr} {l : List UInt8} (h : w.ownsRow B 5 1 (.slice a n c) n (bc l)) : a = none ∧ n = 0 ∧ c = 0 ∨ ∃ β off, a = some ⟨β, off, none⟩ := by
  rcases h.2 with ⟨h1, h2⟩ | ⟨g, cap, cur, h1, _⟩
  · left
    simp at h1 h2
    simp_all
  · injection h1 with e1 _ _
    exact Or.inr ⟨g, 0, e1⟩
theorem own_cap {w : World} {B n c : Nat} {a : Option Addr} {l : List UInt8} (h : w.ownsRow B 5 1 (.slice a n c) n (bc l)) : n ≤ c := by
  rcases h.2 with ⟨h1, h2⟩ | ⟨g, cap, cur, h1, h3⟩
  · simp at h1 h2
    omega
  · injection h1 with _ _ e3
    subst e3
    exact h3.2.2.1
theorem row_take {w : World} {a : Option Addr} {n : Nat} {l : List UInt8} (h : RowB w a n l) {k : Nat} (hk : k ≤ n) : RowB w a k (l.take k) := by
  obtain ⟨h1, h2⟩ := h
  rw [bc_length] at h1
  refine ⟨by rw [bc_length, List.length_take]; omega, ?_⟩
  rcases h2 with h2 | ⟨b, off, e, hlt, hc⟩
  · exact Or.inl (by omega)
  · refine Or.inr ⟨b, off, e, hlt, fun j u hj => hc j u ?_⟩
    have hj2 : j < k := by
      have := (List.getElem?_eq_some_iff.1 hj).1
      rw [bc_length, List.length_take] at this
      omega
    rw [← hj]
    unfold bc
    rw [List.getElem?_map, List.getElem?_map, List.getElem?_take_of_lt hj2]
def fromP (m : MsgP) : MsgD := ⟨⟨m.i, m.o, m.r, m.b1, m.b2, m.b3, m.b4, m.b5⟩, m.q, m.a, m.n, m.x⟩
theorem toP_fromP (m : MsgP) : toP (fromP m) = m := rfl
theorem fromP_toP (M : MsgD) : fromP (toP M) = M := rfl
noncomputable def encY2 (m : MsgP) : List UInt8 := encXG m.i m.o m.r m.b1 m.b2 m.b3 m.b4 m.b5 m.q m.a m.n m.x
noncomputable def encE2 (m : MsgP) (most : Int) : Int := encEG m.i m.o m.r m.b1 m.b2 m.b3 m.b4 m.b5 m.q m.a m.n m.x most
noncomputable def encL2 (m : MsgP) (most : Int) : List UInt8 := encLG m.i m.o m.r m.b1 m.b2 m.b3 m.b4 m.b5 m.q m.a m.n m.x most
def mayP (m : MsgP) : Bool := mayM m.i m.o m.r m.q m.a m.n m.x
theorem enc_ok {m : MsgP} (h : encE2 m 16000 = 0) : mayP m = true ∧ encL2 m 16000 = encY2 m ∧ 12 ≤ (encY2 m).length ∧ (encY2 m).length ≤ 16000 := by
  cases hm : mayP m
  · have := (encG_no (mi := m.i) (mo := m.o) (mr := m.r) (most := 16000) (b1 := m.b1) (b2 := m.b2) (b3 := m.b3) (b4 := m.b4) (b5 := m.b5) hm).1
    rw [encE2, this] at h
    cases h
  · by_cases h2 : (16000 : Int) < ((encY2 m).length : Int) ∨ 16000 < (encY2 m).length
    · have := (encG_long (mi := m.i) (mo := m.o) (mr := m.r) (most := 16000) (b1 := m.b1) (b2 := m.b2) (b3 := m.b3) (b4 := m.b4) (b5 := m.b5) hm h2).1
      rw [encE2, this] at h
      cases h
    · have := encG_yes (mi := m.i) (mo := m.o) (mr := m.r) (most := 16000) (b1 := m.b1) (b2 := m.b2) (b3 := m.b3) (b4 := m.b4) (b5 := m.b5) hm (fun e => h2 (Or.inl e)) (fun e => h2 (Or.inr e))
      refine ⟨rfl, this.2, (msg_back hm).1, ?_⟩
      omega
theorem enc_err {m : MsgP} (h : encE2 m 16000 ≠ 0) (hm : mayP m = true) : encE2 m 16000 = 3 := by
  by_cases h2 : (16000 : Int) < ((encY2 m).length : Int) ∨ 16000 < (encY2 m).length
  · exact (encG_long (mi := m.i) (mo := m.o) (mr := m.r) (most := 16000) (b1 := m.b1) (b2 := m.b2) (b3 := m.b3) (b4 := m.b4) (b5 := m.b5) hm h2).1
  · exact absurd (encG_yes (mi := m.i) (mo := m.o) (mr := m.r) (most := 16000) (b1 := m.b1) (b2 := m.b2) (b3 := m.b3) (b4 := m.b4) (b5 := m.b5) hm (fun e => h2 (Or.inl e)) (fun e => h2 (Or.inr e))).1 h
theorem enc_less {m : MsgP} (hm : mayP m = true) : encE2 m (((encY2 m).length : Int) - 1) = 3 :=
  (encG_long (mi := m.i) (mo := m.o) (mr := m.r) (b1 := m.b1) (b2 := m.b2) (b3 := m.b3) (b4 := m.b4) (b5 := m.b5) hm (Or.inl (by show ((encY2 m).length : Int) - 1 < ((encY2 m).length : Int); omega))).1
theorem enc_msg {m : MsgP} (hm : mayP m = true) (R : List UInt8) : msgP (bs (encY2 m ++ R)) = some (fromP m, (encY2 m).length) := (msg_back hm).2 R
theorem enc_dec {m : MsgP} (h : encE2 m 16000 = 0) : decP (bs (encY2 m)) = some (fromP m) := by
  obtain ⟨h1, _, _, h4⟩ := enc_ok h
  have hb := enc_msg h1 []
  rw [List.append_nil] at hb
  rw [decP, if_neg (by rw [bs_size]; omega), hb, Option.bind_some, if_pos (by rw [bs_size])]
theorem enc_cut {m : MsgP} (hm : mayP m = true) {k : Nat} (hk : k < (encY2 m).length) : decP (bs ((encY2 m).take k)) = none := by
  have hb := enc_msg hm []
  rw [List.append_nil] at hb
  exact dec_cut hb hk
theorem enc_more {m : MsgP} (hm : mayP m = true) : decP (bs (encY2 m ++ [0])) = none := dec_more (enc_msg hm [0]) (by simp)
theorem dec_may {s : ByteArray} {M : MsgD} (h : decP s = some M) : mayP (toP M) = true := by
  unfold decP at h
  split at h
  · cases h
  · cases hp : msgP s with
    | none => rw [hp] at h; cases h
    | some r =>
      rw [hp, Option.bind_some] at h
      split at h
      · injection h with h
        subst h
        exact msg_may (a := r.2) hp
      · cases h
/-- Sizes that Encode takes. -/
def Mok (m : MsgP) : Prop := (m.q.length ≤ 100000 ∧ m.a.length ≤ 30000 ∧ m.n.length ≤ 30000 ∧ m.x.length ≤ 30000) ∧ (∀ r ∈ m.q, r.n.size ≤ 1000000) ∧ SzN m.a ∧ SzN m.n ∧ SzN m.x
theorem mok_small {m : MsgP} (h : SmallM m) : Mok m := by
  obtain ⟨h1, h2, h3, h4⟩ := h
  refine ⟨⟨by have := h1.1; omega, by have := h2.1; omega, by have := h3.1; omega, by have := h4.1; omega⟩, fun r hr => by have := h1.2 r hr; omega, fun r hr => ?_, fun r hr => ?_, fun r hr => ?_⟩
  · have := h2.2 r hr; unfold SmR at this; omega
  · have := h3.2 r hr; unfold SmR at this; omega
  · have := h4.2 r hr; unfold SmR at this; omega
theorem mok_may {M : MsgD} (h : SzMD M) (hm : mayP (toP M) = true) : Mok (toP M) := by
  obtain ⟨h1, h2, h3, h4⟩ := h
  have hl := (mayM_parts hm).2.1
  have hl2 : M.q.length + M.a.length + M.n.length + M.x.length ≤ 300 := hl
  refine ⟨⟨?_, ?_, ?_, ?_⟩, fun r hr => by have := h1.2 r hr; omega, fun r hr => ?_, fun r hr => ?_, fun r hr => ?_⟩
  · show M.q.length ≤ 100000; omega
  · show M.a.length ≤ 30000; omega
  · show M.n.length ≤ 30000; omega
  · show M.x.length ≤ 30000; omega
  · have := h2.2 r hr; omega
  · have := h3.2 r hr; omega
  · have := h4.2 r hr; omega
theorem mok_sm {m : MsgP} (h : Mok m) : SmM m := by
  obtain ⟨⟨h1, h2, h3, h4⟩, _⟩ := h
  exact ⟨by omega, by omega, by omega, by omega⟩
theorem enc_y (v : Value) (m : MsgP) (most : Int) (w : World) (h : MsgAt w v m) (hm : Mok m) :
    Calls Try.prog 16 #[v, .int .i64 most] w fun e w' => ∃ u, e = .returned (.tuple #[u, .int .i64 (encE2 m most)]) ∧ w'.ownsRow w.heap.size 5 1 u (encL2 m most).length (bc (encL2 m most)) ∧ Below w.heap.size w w' := by
  obtain ⟨qa, qc, na, nc, sa, sc, xa, xc, rfl, h1, h2, h3, h4⟩ := h
  exact encode_any _ _ _ _ _ _ _ _ most _ _ _ _ _ _ _ _ _ _ _ _ m.q m.a m.n m.x w h1.1 h2.1 h2.2 h3.1 h3.2 h4.1 h4.2 hm.1 hm.2.1 hm.2.2.1 hm.2.2.2.1 hm.2.2.2.2
theorem may_y (v : Value) (m : MsgP) (w : World) (h : MsgAt w v m) (hm : Mok m) :
    Calls Try.prog 34 #[v] w fun e w' => e = .returned (.bool (mayP m)) ∧ Below w.heap.size w w' := by
  obtain ⟨qa, qc, na, nc, sa, sc, xa, xc, rfl, h1, h2, h3, h4⟩ := h
  exact may_any5 _ _ _ _ _ _ _ _ _ _ _ _ _ _ _ _ _ _ _ _ m.q m.a m.n m.x w h1.1 h2.1 h3.1 h4.1 (by have := hm.1; omega) hm.2.1 hm.2.2.1 hm.2.2.2.1 hm.2.2.2.2
/-- Decode of what tells a message. -/
theorem decode_ok (l : List UInt8) (m : MsgP) (a : Option Addr) (n cp : Nat) (w : World) (hr : RowB w a n l) (hn : a = none → n = 0 ∧ cp = 0) (hb : n ≤ 20000) (hd : decP (bs l) = some (fromP m)) :
    Calls Try.prog 10 #[.slice a n cp] w fun en w' => ∃ (v : Value), en = .returned (.tuple #[v, .int .i64 0]) ∧ MsgOwn w' w.heap.size v m ∧ SzMD (fromP m) ∧ Below w.heap.size w w' := by
  refine (decode_any l a n cp w hr hn hb).mono ?_
  rintro en w' ⟨⟨M, qv, av, nv, xv, h1, rfl, h2, h3⟩ | ⟨h1, er, h2, rfl⟩, hB⟩
  · rw [hd] at h1
    injection h1 with h1
    subst h1
    exact ⟨_, rfl, msgOwn_of h2, h3, hB⟩
  · rw [hd] at h1
    cases h1
/-- Decode of what tells none. -/
theorem decode_no (l : List UInt8) (a : Option Addr) (n cp : Nat) (w : World) (hr : RowB w a n l) (hn : a = none → n = 0 ∧ cp = 0) (hb : n ≤ 20000) (hd : decP (bs l) = none) :
    Calls Try.prog 10 #[.slice a n cp] w fun en w' => ∃ er : Int, en = .returned (.tuple #[.agg #[.int .i64 0, .int .i64 0, .int .i64 0, .bool false, .bool false, .bool false, .bool false, .bool false, .slice none 0 0, .slice none 0 0, .slice none 0 0, .slice none 0 0], .int .i64 er]) ∧ er ≠ 0 ∧ Below w.heap.size w w' := by
  refine (decode_any l a n cp w hr hn hb).mono ?_
  rintro en w' ⟨⟨M, qv, av, nv, xv, h1, rfl, h2, h3⟩ | ⟨h1, er, h2, rfl⟩, hB⟩
  · rw [hd] at h1
    cases h1
  · exact ⟨er, rfl, h2, hB⟩
end Go.Proofs.Ytgppkpdjpcegbaa
