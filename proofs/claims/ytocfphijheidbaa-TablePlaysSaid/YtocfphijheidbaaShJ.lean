/- The digest of lists; the law's first, few, All: contracts. -/
import Derived.Test.YtocfphijheidbaaShI
import Derived.Test.YtocfphijheidbaaShT
import Derived.Test.YtocfphijheidbaaFrB
import Derived.Test.YtocfphijheidbaaNumC
import Derived.Lib.SlBytesConst
namespace Go.Proofs.Ytocfphijheidbaa
open Go.RowKit

set_option maxRecDepth 100000 in
set_option maxHeartbeats 4000000 in
theorem sums_any (a : Option Addr) (n c : Nat) (M : List (List UInt8)) (w : World) (h : RowBC w a n M) (hn : n ≤ 1000000) (hsz : M.flatten.length ≤ 100000000) : Calls Try.prog 15 #[.slice a n c] w fun e w' => ∃ v, e = .returned v ∧ w'.ownsRow w.heap.size 5 1 v 48 (bc (shaL M.flatten)) ∧ Below w.heap.size w w' := by
  have HR := Lib.hid h
  clear h
  go_enter Try.func15, Try.ntmps15
  go_wp2_with fail
  refine (new_any _).mono ?_; rintro e w1 ⟨q, rfl, hq, hs, hb⟩
  have HS := Lib.hid hs
  have HB := Lib.hid hb
  have HF := Lib.hid (FarC.of HR.out hb hq)
  clear hs hb
  go_wp2_with fail
  refine (writes_any q [] a n c M _ HS.out HF.out hn (by simpa using Nat.le_trans hsz (by decide))).mono ?_; rintro e w2 ⟨rfl, hs2, ho2⟩
  have HS2 := Lib.hid (show ShL w2 q M.flatten from hs2)
  have HB2 := Lib.hid (ho2.under HB.out hq HB.out.size)
  clear hs2 ho2
  go_wp2_with fail
  refine (sum_any q _ _ HS2.out hsz).mono ?_; rintro e w3 ⟨v, rfl, ho3, hb3⟩
  have HO3 := Lib.hid (own_lower ho3 HB2.out.size)
  have HB3 := Lib.hid (HB2.out.trans (hb3.mono HB2.out.size))
  clear ho3 hb3
  go_wp2
  go_ret
  exact ⟨v, rfl, HO3.out, HB3.out⟩
/-- Literals of bytes, of slices. -/
theorem valC_mark (w : World) (cs : Array Value) (l : List UInt8) (hcs : cs = (bc l).toArray) (T : TypeId) (m : Nat × Nat) (H n : Nat) (hH : H = w.heap.size) (hn : n = l.length) : ValC (w.alloc (.cells cs T m)) (.slice (some ⟨H, 0, none⟩) n n) l := by
  subst hH hn hcs
  refine ⟨some ⟨w.heap.size, 0, none⟩, l.length, rfl, Nat.le_refl _, ⟨bc_length l, Or.inr ⟨w.heap.size, 0, rfl, by simp, fun j u hj => ?_⟩⟩, fun h => by cases h⟩
  rw [Nat.zero_add, World.cell?_alloc_mark, List.getElem?_toArray]
  exact hj
theorem rowBC_lit2 (w : World) (u1 u2 : Value) (m1 m2 : List UInt8) (H : Nat) (hH : H = w.heap.size) (h1 : ValC w u1 m1) (h2 : ValC w u2 m2) : RowBC (w.alloc (.cells #[u1, u2] 25)) (some ⟨H, 0, none⟩) 2 [m1, m2] := by
  subst hH
  have hb := (Below.refl w.heap.size w).alloc (Nat.le_refl _) (.cells #[u1, u2] 25)
  refine ⟨[u1, u2], ⟨rfl, Or.inr ⟨w.heap.size, 0, rfl, by simp, fun j u hj => ?_⟩⟩, rfl, fun j u hj => ?_⟩
  · rw [Nat.zero_add, World.cell?_alloc_new, ← hj]
    simp
  · have hj2 : j < 2 := (List.getElem?_eq_some_iff.1 hj).1
    rcases (by omega : j = 0 ∨ j = 1) with rfl | rfl
    · simp at hj; subst hj; exact h1.below hb
    · simp at hj; subst hj; exact h2.below hb
theorem rowBC_lit1 (w : World) (u1 : Value) (m1 : List UInt8) (H : Nat) (hH : H = w.heap.size) (h1 : ValC w u1 m1) : RowBC (w.alloc (.cells #[u1] 25)) (some ⟨H, 0, none⟩) 1 [m1] := by
  subst hH
  have hb := (Below.refl w.heap.size w).alloc (Nat.le_refl _) (.cells #[u1] 25)
  refine ⟨[u1], ⟨rfl, Or.inr ⟨w.heap.size, 0, rfl, by simp, fun j u hj => ?_⟩⟩, rfl, fun j u hj => ?_⟩
  · rw [Nat.zero_add, World.cell?_alloc_new, ← hj]
    simp
  · have hj2 : j < 1 := (List.getElem?_eq_some_iff.1 hj).1
    have : j = 0 := by omega
    subst this
    simp at hj; subst hj; exact h1.below hb
theorem rowBC_lit3 (w : World) (u1 u2 u3 : Value) (m1 m2 m3 : List UInt8) (H : Nat) (hH : H = w.heap.size) (h1 : ValC w u1 m1) (h2 : ValC w u2 m2) (h3 : ValC w u3 m3) : RowBC (w.alloc (.cells #[u1, u2, u3] 25)) (some ⟨H, 0, none⟩) 3 [m1, m2, m3] := by
  subst hH
  have hb := (Below.refl w.heap.size w).alloc (Nat.le_refl _) (.cells #[u1, u2, u3] 25)
  refine ⟨[u1, u2, u3], ⟨rfl, Or.inr ⟨w.heap.size, 0, rfl, by simp, fun j u hj => ?_⟩⟩, rfl, fun j u hj => ?_⟩
  · rw [Nat.zero_add, World.cell?_alloc_new, ← hj]
    simp
  · have hj2 : j < 3 := (List.getElem?_eq_some_iff.1 hj).1
    rcases (by omega : j = 0 ∨ j = 1 ∨ j = 2) with rfl | rfl | rfl
    · simp at hj; subst hj; exact h1.below hb
    · simp at hj; subst hj; exact h2.below hb
    · simp at hj; subst hj; exact h3.below hb
theorem valC_nil (w : World) : ValC w (.slice none 0 0) [] := ⟨none, 0, rfl, Nat.le_refl _, ⟨rfl, Or.inl rfl⟩, fun _ => ⟨rfl, rfl⟩⟩
set_option maxRecDepth 100000 in
theorem abc_hex : hexTo (bs abcD) 48 = [99, 98, 48, 48, 55, 53, 51, 102, 52, 53, 97, 51, 53, 101, 56, 98, 98, 53, 97, 48, 51, 100, 54, 57, 57, 97, 99, 54, 53, 48, 48, 55, 50, 55, 50, 99, 51, 50, 97, 98, 48, 101, 100, 101, 100, 49, 54, 51, 49, 97, 56, 98, 54, 48, 53, 97, 52, 51, 102, 102, 53, 98, 101, 100, 56, 48, 56, 54, 48, 55, 50, 98, 97, 49, 101, 55, 99, 99, 50, 51, 53, 56, 98, 97, 101, 99, 97, 49, 51, 52, 99, 56, 50, 53, 97, 55] := by decide +kernel
set_option maxRecDepth 100000 in
set_option maxHeartbeats 4000000 in
theorem first8 (w : World) : Calls Try.prog 12 #[] w fun e w' => e = .returned (.bool true) ∧ Below w.heap.size w w' := by
  have kc := fun (w : World) (C : Array Value) (n c : Nat) => Lib.run_convert_bytes_const (P := Try.prog) w 25 5 C n c Try.underlying25 Try.underlying5
  have k2 := kc (w.alloc (.cells #[.int .u8 97, .int .u8 98] 5 (2, 3))) #[.int .u8 99] 1 1
  rw [World.size_alloc] at k2
  have v1 := valC_mark w #[.int .u8 97, .int .u8 98] [97, 98] rfl 5 (2, 3) _ 2 rfl rfl
  have v2 := valC_mark (w.alloc (.cells #[.int .u8 97, .int .u8 98] 5 (2, 3))) #[.int .u8 99] [99] rfl 5 (1, 2) (w.heap.size + 1) 1 (by rw [World.size_alloc]) rfl
  have hb2 := (Below.refl (w.alloc (.cells #[.int .u8 97, .int .u8 98] 5 (2, 3))).heap.size (w.alloc (.cells #[.int .u8 97, .int .u8 98] 5 (2, 3)))).alloc (Nat.le_refl _) (.cells #[.int .u8 99] 5 (1, 2))
  have HL := Lib.hid (rowBC_lit2 _ _ _ _ _ (w.heap.size + 1 + 1) (by simp [World.size_alloc]) (v1.below hb2) v2)
  have HB := Lib.hid ((((Below.refl w.heap.size w).alloc (Nat.le_refl _) (.cells #[.int .u8 97, .int .u8 98] 5 (2, 3))).alloc (by simp) (.cells #[.int .u8 99] 5 (1, 2))).alloc (by simp; omega) (.cells #[.slice (some ⟨w.heap.size, 0, none⟩) 2 2, .slice (some ⟨w.heap.size + 1, 0, none⟩) 1 1] 25))
  clear v1 v2 hb2
  go_enter Try.func12, Try.ntmps12
  go_wp2_with fail
  refine (sums_any _ 2 2 [[97, 98], [99]] _ HL.out (by decide) (by decide)).mono ?_; rintro e w2 ⟨v2, rfl, ho, hb⟩
  rw [show ([[97, 98], [99]] : List (List UInt8)).flatten = [97, 98, 99] from rfl, abc_sum] at ho
  have hcv := conv_own ho
  have HB2 := Lib.hid (HB.out.trans (hb.mono HB.out.size))
  have hsz : (bs abcD).size = 48 := by rw [bs_size]; rfl
  have hx := hex_any (bs abcD) w2 (by rw [hsz]; decide)
  rw [hsz, abc_hex] at hx
  have hf : ((bs [99, 98, 48, 48, 55, 53, 51, 102, 52, 53, 97, 51, 53, 101, 56, 98, 98, 53, 97, 48, 51, 100, 54, 57, 57, 97, 99, 54, 53, 48, 48, 55, 50, 55, 50, 99, 51, 50, 97, 98, 48, 101, 100, 101, 100, 49, 54, 51, 49, 97, 56, 98, 54, 48, 53, 97, 52, 51, 102, 102, 53, 98, 101, 100, 56, 48, 56, 54, 48, 55, 50, 98, 97, 49, 101, 55, 99, 99, 50, 51, 53, 56, 98, 97, 101, 99, 97, 49, 51, 52, 99, 56, 50, 53, 97, 55]).toList == [99, 98, 48, 48, 55, 53, 51, 102, 52, 53, 97, 51, 53, 101, 56, 98, 98, 53, 97, 48, 51, 100, 54, 57, 57, 97, 99, 54, 53, 48, 48, 55, 50, 55, 50, 99, 51, 50, 97, 98, 48, 101, 100, 101, 100, 49, 54, 51, 49, 97, 56, 98, 54, 48, 53, 97, 52, 51, 102, 102, 53, 98, 101, 100, 56, 48, 56, 54, 48, 55, 50, 98, 97, 49, 101, 55, 99, 99, 50, 51, 53, 56, 98, 97, 101, 99, 97, 49, 51, 52, 99, 56, 50, 53, 97, 55]) = true := by rw [bs_toList]; exact beq_self_eq_true _
  obtain ⟨X, hX⟩ : ∃ x, bs [99, 98, 48, 48, 55, 53, 51, 102, 52, 53, 97, 51, 53, 101, 56, 98, 98, 53, 97, 48, 51, 100, 54, 57, 57, 97, 99, 54, 53, 48, 48, 55, 50, 55, 50, 99, 51, 50, 97, 98, 48, 101, 100, 101, 100, 49, 54, 51, 49, 97, 56, 98, 54, 48, 53, 97, 52, 51, 102, 102, 53, 98, 101, 100, 56, 48, 56, 54, 48, 55, 50, 98, 97, 49, 101, 55, 99, 99, 50, 51, 53, 56, 98, 97, 101, 99, 97, 49, 51, 52, 99, 56, 50, 53, 97, 55] = x := ⟨_, rfl⟩
  rw [hX] at hx hf
  have HX := Lib.hid hx
  clear ho hb hsz hx kc k2 hX
  obtain ⟨D, hD⟩ : ∃ x, bs abcD = x := ⟨_, rfl⟩
  rw [hD] at hcv HX
  go_wp2_with fail
  refine HX.out.mono ?_; rintro e w3 ⟨rfl, hb3⟩
  have HB3 := Lib.hid (HB2.out.trans (hb3.mono HB2.out.size))
  clear hb3 hcv hD
  go_wp2
  go_ret
  exact ⟨rfl, HB3.out⟩
end Go.Proofs.Ytocfphijheidbaa
