/- Texts that others rest on, one behind the other: ZnG, ZnH, ZnI, ZBp. -/
import Derived.Test.YthfnphcefkdgbaaGreatMgO
import Derived.Test.YthfnphcefkdgbaaGreatMgC
import Derived.Test.YthfnphcefkdgbaaGreatMgM
section
namespace Go.Proofs.YthfnphcefkdgbaaGreat
open Go.RowKit
def mayR5 (r : R5) : Bool := mayR r.k.n r.k.t r.k.c r.ttl r.d
theorem Canon.sz {l : List R5} {S : List SetP} (h : Canon l S) (h1 : sumD S ≤ l.length) (h2 : S.length ≤ l.length) (hl : l.length ≤ 100000) (hk : ∀ r ∈ l, r.k.n.size ≤ 1000000) : SzZ S :=
 ⟨by omega, fun s hs => ⟨(h.size (b2 := 0 + (l.map fun r => r.d.size).foldr max 0) hk (fun r hr => by
  have : ∀ (L : List R5), r ∈ L → r.d.size ≤ (L.map fun r => r.d.size).foldr max 0 := fun L => by
   induction L with
   | nil => intro h; cases h
   | cons x L ih =>
    intro h
    rw [List.map_cons, List.foldr_cons]
    rcases List.mem_cons.1 h with rfl | h
    · exact Nat.le_max_left _ _
    · exact Nat.le_trans (ih h) (Nat.le_max_right _ _)
  rw [Nat.zero_add]
  exact this l hr) hs).1, Nat.le_trans (data_le_sum hs) (by omega)⟩⟩
end Go.Proofs.YthfnphcefkdgbaaGreat
end
section
namespace Go.Proofs.YthfnphcefkdgbaaGreat
open Go.RowKit
def rootB : ByteArray := ⟨#[0]⟩
def soa0 : ByteArray := ⟨#[0, 0, 0, 0, 0, 1, 0, 0, 0, 2, 0, 0, 0, 3, 0, 0, 0, 4, 0, 0, 0, 5]⟩
def r6 : R5 := ⟨⟨rootB, 6, 1⟩, 9, soa0⟩
def r2 : R5 := ⟨⟨rootB, 2, 1⟩, 9, rootB⟩
end Go.Proofs.YthfnphcefkdgbaaGreat
end
section
namespace Go.Proofs.YthfnphcefkdgbaaGreat
open Go.RowKit
structure ZOk (w' : World) (z : Nat) (apex : ByteArray) (l : List R5) (S : List SetP) : Prop where
 name : mayN apex = true
 may : ∀ r ∈ l, mayR5 r = true
 few : l.length ≤ 300
 canon : Canon l S
 sum : sumD S ≤ l.length
 len : S.length ≤ l.length
 whole : wholeB apex S = true
 is : ZnAt w' z apex S
theorem ZOk.below {w w' : World} {z : Nat} {apex : ByteArray} {l : List R5} {S : List SetP} (h : ZOk w z apex l S) (hb : Below w.heap.size w w') : ZOk w' z apex l S := ⟨h.name, h.may, h.few, h.canon, h.sum, h.len, h.whole, h.is.below hb⟩
theorem mayN_sz {a : ByteArray} (h : mayN a = true) : a.size ≤ 255 := by
 rw [mayN, Bool.and_eq_true] at h
 exact (of_decide_eq_true h.1).2
theorem mayR5_n {r : R5} (h : mayR5 r = true) : mayN r.k.n = true := by
 simp only [mayR5, mayR, Bool.and_eq_true] at h
 exact h.2.1
theorem ZOk.apex {w' : World} {z : Nat} {apex : ByteArray} {l : List R5} {S : List SetP} (h : ZOk w' z apex l S) : apex.size ≤ 1000000 := by have := mayN_sz h.name; omega
theorem ZOk.sz {w' : World} {z : Nat} {apex : ByteArray} {l : List R5} {S : List SetP} (h : ZOk w' z apex l S) : SzZ S := h.canon.sz h.sum h.len (by have := h.few; omega) (fun r hr => by have := mayN_sz (mayR5_n (h.may r hr)); omega)
set_option maxRecDepth 100000 in
set_option maxHeartbeats 1600000 in
theorem few10 (a : Option Addr) (len cap : Nat) (l : List R5) (w : World) (h : RowR w a len l) (hlen : len ≤ 9223372036854775807) (hsz : ∀ r ∈ l, SzR r) :
   Calls Tryz.prog 8 #[.slice a len cap] w fun e w' => (e = .returned (.bool false) ∨ e = .returned (.bool true) ∧ len ≤ 310 ∧ ∀ r ∈ l, SmR r) ∧ Below w.heap.size w w' := by
 have HF := Lib.hid (few4 a len cap l w h hlen hsz)
 clear h hsz
 by_cases h1 : len ≤ 310
 · have d1 : decide (len ≤ 310) = true := dT h1
   have d2 : decide ((len : Int) ≤ 310) = true := dT (by omega)
   have HL := Lib.hid h1
   clear h1
   go_enter Tryz.func8, Tryz.ntmps8
   go_wp2_with fail
   refine HF.out.mono ?_; rintro e w1 ⟨h, m, rfl⟩
   have HB := Lib.hid (below_drewN (Below.refl w.heap.size w) m)
   rcases h with rfl | ⟨rfl, -, hs⟩
   · go_wp2
     go_ret
     exact ⟨Or.inl rfl, HB.out⟩
   · have HS := Lib.hid hs
     clear hs
     go_wp2
     go_ret
     exact ⟨Or.inr ⟨rfl, HL.out, HS.out⟩, HB.out⟩
 · have d1 : decide (len ≤ 310) = false := dF h1
   have d2 : decide ((len : Int) ≤ 310) = false := dF (by omega)
   clear h1
   go_enter Tryz.func8, Tryz.ntmps8
   go_wp2
   go_ret
   exact ⟨Or.inl rfl, Below.refl _ _⟩
end Go.Proofs.YthfnphcefkdgbaaGreat
end
section
namespace Go.Proofs.YthfnphcefkdgbaaGreat
open Go.RowKit
theorem mayR5_iff (r : R5) : mayR5 r = true ↔ (r.k.t ≠ 41 ∧ r.k.t ≠ 252 ∧ r.k.t ≠ 255) ∧ mayN r.k.n = true ∧ (0 ≤ r.k.c ∧ r.k.c ≤ 65535) ∧ (0 ≤ r.ttl ∧ r.ttl ≤ 2147483647) ∧ mayD r.k.t r.d = true := by
 simp only [mayR5, mayR, Bool.and_eq_true, decide_eq_true_eq]
theorem whole_parts {apex : ByteArray} {S : List SetP} (h : wholeB apex S = true) : (∀ s ∈ S, undS s.k.n apex = true ∧ s.k.c = 1) ∧ (∀ s ∈ S, cnB S s = true) ∧ (∃ s, findK S ⟨apex, 6, 1⟩ = some s) ∧ (∃ s, findK S ⟨apex, 2, 1⟩ = some s) ∧ soasN S = 1 := by
 rw [wholeB, Bool.and_eq_true, Bool.and_eq_true, Bool.and_eq_true, Bool.and_eq_true] at h
 obtain ⟨h1, h2, h3, h4, h5⟩ := h
 refine ⟨fun s hs => ?_, fun s hs => List.all_eq_true.1 h2 s hs, Option.isSome_iff_exists.1 h3, Option.isSome_iff_exists.1 h4, by simpa using h5⟩
 have := List.all_eq_true.1 h1 s hs
 rw [Bool.and_eq_true] at this
 exact ⟨this.1, by simpa using this.2⟩
theorem find_mem {S : List SetP} {k : Ky} {s : SetP} (h : findK S k = some s) : s ∈ S := List.mem_of_find?_eq_some h
theorem find_key {S : List SetP} {k : Ky} {s : SetP} (h : findK S k = some s) : s.k = k := by
 rw [findK] at h
 have := List.find?_some h
 simpa using this
theorem soas_ge {S : List SetP} {s : SetP} (h : s ∈ S) (ht : s.k.t = 6) : s.data.length ≤ soasN S := by
 induction S with
 | nil => cases h
 | cons t S ih =>
  rw [soasN]
  rcases List.mem_cons.1 h with rfl | h
  · rw [if_pos ht]; omega
  · have := ih h; omega
theorem soa_one {w : World} {z : Nat} {apex : ByteArray} {l : List R5} {S : List SetP} (h : ZOk w z apex l S) : ∃ s0 d0, findK S ⟨apex, 6, 1⟩ = some s0 ∧ s0.data = [d0] ∧ soaOk d0 = true ∧ d0.size ≤ 1000000 := by
 obtain ⟨-, -, ⟨s0, hs0⟩, -, h1⟩ := whole_parts h.whole
 have hk := find_key hs0
 have hm := find_mem hs0
 have hle := soas_ge hm (by rw [hk])
 have hne := h.canon.non s0 hm
 obtain ⟨d0, D, hd⟩ : ∃ d0 D, s0.data = d0 :: D := List.exists_cons_of_ne_nil hne
 have hD : D = [] := by
  rw [hd, h1, List.length_cons] at hle
  exact List.eq_nil_of_length_eq_zero (by omega)
 rw [hD] at hd
 obtain ⟨r, hr, g1, g2⟩ := (h.canon.mem s0.k d0).1 ⟨s0, hm, rfl, by rw [hd]; exact List.mem_singleton.2 rfl⟩
 have hmay := ((mayR5_iff r).1 (h.may r hr)).2.2.2.2
 rw [g1, g2, hk, mayD_6] at hmay
 exact ⟨s0, d0, hs0, hd, hmay, by have := soaOk_size hmay; omega⟩
end Go.Proofs.YthfnphcefkdgbaaGreat
end
