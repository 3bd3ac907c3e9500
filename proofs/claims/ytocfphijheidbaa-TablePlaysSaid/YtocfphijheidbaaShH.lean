/- What ends a message: contract. -/
import Derived.Test.YtocfphijheidbaaShG
import Derived.Test.YtocfphijheidbaaCcB
import Derived.Test.YtocfphijheidbaaNumA
import Derived.Laws.OwnMore
namespace Go.Proofs.Ytocfphijheidbaa
open Go.RowKit

theorem bc_cons (x : UInt8) (l : List UInt8) : bc (x :: l) = .int .u8 (x.toNat : Int) :: bc l := rfl
theorem pad_more (k : Nat) : bc ((0x80 : UInt8) :: List.replicate k 0) ++ [Value.int .u8 0] = bc ((0x80 : UInt8) :: List.replicate (k + 1) 0) := by
  rw [List.replicate_succ', ← List.cons_append, bc_append]
  rfl
theorem rowBB_lit3 (w : World) (u1 u2 u3 : Value) (m1 m2 m3 : List UInt8) (H : Nat) (hH : H = w.heap.size) (h1 : ValB w u1 m1) (h2 : ValB w u2 m2) (h3 : ValB w u3 m3) : RowBB (w.alloc (.cells #[u1, u2, u3] 25)) (some ⟨H, 0, none⟩) 3 [m1, m2, m3] := by
  subst hH
  have hb := (Below.refl w.heap.size w).alloc (Nat.le_refl _) (.cells #[u1, u2, u3] 25)
  refine ⟨[u1, u2, u3], ⟨rfl, Or.inr ⟨w.heap.size, 0, rfl, by simp, fun j u hj => ?_⟩⟩, rfl, fun j u hj => ?_⟩
  · rw [Nat.zero_add, World.cell?_alloc_new, ← hj]
    simp
  · have hj2 : j < 3 := (List.getElem?_eq_some_iff.1 hj).1
    rcases (by omega : j = 0 ∨ j = 1 ∨ j = 2) with rfl | rfl | rfl
    · simp at hj; subst hj; exact h1.below hb
    · simp at hj; subst hj; exact h2.below hb
    · simp at hj; subst hj; exact h3.below hb
theorem own_lower {w : World} {B B' n : Nat} {e : TypeId} {size : Nat} {v : Value} {xs : List Value} (h : w.ownsRow B e size v n xs) (hB : B' ≤ B) : w.ownsRow B' e size v n xs := by
  refine ⟨h.1, ?_⟩
  rcases h.2 with h1 | ⟨g, cap, cur, h1, h2, h3⟩
  · exact Or.inl h1
  · exact Or.inr ⟨g, cap, cur, h1, Nat.le_trans hB h2, h3⟩
theorem end_put (n : Nat) : putTo (8 * (n : Int)) 6 6 = (List.range 6).map fun i => by8 ((8 * (n : Int)) / 2 ^ (8 * (5 - i))) := rfl
set_option maxRecDepth 100000 in
set_option maxHeartbeats 4000000 in
theorem ending_any (n : Nat) (w : World) (hn : n ≤ 1000000000) : Calls Try.prog 66 #[.int .i64 (n : Int)] w fun e w' => ∃ v, e = .returned v ∧ w'.ownsRow w.heap.size 5 1 v (endL n).length (bc (endL n)) ∧ Below w.heap.size w w' := by
  obtain ⟨i0, hi, hz0, hz1, hz2⟩ := info_parts infoU8
  have HI := Lib.hid hi
  have HZ0 := Lib.hid hz0
  have HZ1 := Lib.hid hz1
  have HZ2 := Lib.hid hz2
  have HR0 := Lib.hid (World.ownsRow_lit (base := w.heap.size) (e := 5) (size := 1) w #[.int .u8 128] 1 (Nat.le_refl _) (by decide) rfl)
  have HB0 := Lib.hid ((Below.refl w.heap.size w).alloc (Nat.le_refl _) (.cells #[.int .u8 128] 5))
  clear hi hz0 hz1 hz2
  go_enter Try.func66, Try.ntmps66
  go_wp2_with fail
  go_loopw [3] (fun v wr => ∃ k L : Nat, k ≤ padN n ∧ L ≤ 200 ∧ Hid (L = 1 + k) ∧ Hid (wr.ownsRow w.heap.size 5 1 v L (bc ((0x80 : UInt8) :: List.replicate k 0))) ∧ Hid (Below w.heap.size w wr)) (fun v _ => padN n + 1 - sliceLen v)
  case atStart => exact ⟨0, 1, Nat.zero_le _, by omega, rfl, HR0, HB0⟩
  case round =>
    clear HR0 HB0
    obtain ⟨k, L, hk, hL, HL, HO, HB⟩ := hrel
    obtain ⟨va, vc, rfl⟩ := own_shape HO.out
    have hpe := pad_end n k hk
    have HLK := HL
    by_cases hlt : k = padN n
    · have d1 : (((n : Int) + (L : Int) + 16) % 128 != 0) = false := nF (by have := hpe.2 hlt; have := HL.out; omega)
      clear hpe hk
      have hp := put_yes (8 * (n : Int)) 6
      have HP := Lib.hid (fun w => put_yes (8 * (n : Int)) 6 w (by omega) (by omega) (by omega) (dF (by omega)))
      rw [end_put] at HP
      obtain ⟨X, hX⟩ : ∃ x, ((List.range 6).map fun i => by8 ((8 * (n : Int)) / 2 ^ (8 * (5 - i)))) = x := ⟨_, rfl⟩
      rw [hX] at HP
      have HX := Lib.hid (show endL n = ((0x80 : UInt8) :: List.replicate k 0) ++ (List.replicate 10 0 ++ X) by
        rw [endL, hX, ← hlt, List.cons_append, ← List.append_assoc (List.replicate k 0), List.replicate_append_replicate])
      have HX6 := Lib.hid (show (bs X).size = 6 by rw [bs_size, ← hX]; simp)
      clear hp hX hlt
      go_wp2_with fail
      refine (HP.out _).mono ?_; rintro e w2 ⟨rfl, hb⟩
      have HB2 := Lib.hid (HB.out.trans (hb.mono HB.out.size))
      have HO2 := Lib.hid (own_below' HO.out hb)
      clear hb HB HO
      have hx6 := HX6.out
      obtain ⟨S, hS⟩ : ∃ y, bs X = y := ⟨_, rfl⟩
      rw [hS] at hx6 ⊢
      have HSS := Lib.hid hS
      clear hS
      go_wp2_with (at_make; refine wpList_make_full _ rfl _ _ 25 rfl w.heap.size 5 i0 (.int .u8 0) 1 Try.underlying25 HI.out HZ0.out HZ1.out .i64 .i64 _ _ 10 rfl rfl rfl rfl ?b2 ?b3 HB2.out.size ?_)
      case b2 => rw [HZ2.out]; omega
      case b3 => unfold maxLen; omega
      intro w3 hown hgrow
      have HB3 := Lib.hid (HB2.out.grown hgrow HB2.out.size (by simp))
      have hb23 := (Below.refl w2.heap.size w2).grown hgrow (Nat.le_refl _) (by simp)
      have HO3 := Lib.hid (own_below' HO2.out hb23)
      rw [toList_madeCells_one] at hown
      have HM3 := Lib.hid (show w3.ownsRow w.heap.size 5 1 (.slice (some ⟨w2.heap.size, 0, none⟩) 10 10) 10 (bc (List.replicate 10 0)) from hown)
      clear hown hgrow hb23
      go_wp2_with (refine conv_bytes rfl _ rfl S rfl ?_)
      intro cap w4 hcap hb hsz hcell hfr
      have HB4 := Lib.hid (HB3.out.trans (hb.mono HB3.out.size))
      have hv1 := ValB.own (own_below' HO3.out hb)
      have hv2 := ValB.own (own_below' HM3.out hb)
      have hv3 : ValB w4 (.slice (some ⟨w3.heap.size, 0, none⟩) 6 cap) X := by
        have h6 : X.length = 6 := by have := HX6.out; rwa [bs_size] at this
        refine ⟨some ⟨w3.heap.size, 0, none⟩, cap, by rw [h6], ?_, fun h => by cases h⟩
        refine ⟨by rw [bc_length], Or.inr ⟨w3.heap.size, 0, rfl, by omega, fun j u hj => ?_⟩⟩
        have hj2 : j < 6 := by have := (List.getElem?_eq_some_iff.1 hj).1; rw [bc_length] at this; omega
        rw [Nat.zero_add, hcell j (by omega), ← hj, ← HSS.out]
        simp [bc, bs, show j < X.length by omega]
      have HL := Lib.hid (rowBB_lit3 w4 _ _ _ _ _ _ _ rfl hv1 hv2 hv3)
      have HB5 := Lib.hid (HB4.out.alloc HB4.out.size (.cells #[.slice va L vc, .slice (some ⟨w2.heap.size, 0, none⟩) 10 10, .slice (some ⟨w3.heap.size, 0, none⟩) 6 cap] 25))
      have hs4 := HB4.out.size
      clear hb hsz hcell hfr hv1 hv2 hv3 hcap
      go_wp2_with fail
      refine (concatB _ _ _ _ _ HL.out (by omega) (by
        have h6 : X.length = 6 := by have := HX6.out; rwa [bs_size] at this
        have h8 : L = 1 + k := HLK.out
        simp only [List.flatten_cons, List.flatten_nil, List.append_nil, List.length_append, List.length_cons, List.length_replicate]
        omega)).mono ?_; rintro e w6 ⟨v6, rfl, ho6, hb6⟩
      have HO6 := Lib.hid (own_lower ho6 HB5.out.size)
      have HB6 := Lib.hid (HB5.out.trans (hb6.mono HB5.out.size))
      have HE := Lib.hid (show [(0x80 : UInt8) :: List.replicate k 0, List.replicate 10 0, X].flatten = endL n by
        rw [HX.out]
        simp only [List.flatten_cons, List.flatten_nil, List.append_nil])
      rw [HE.out] at HO6
      clear ho6 hb6
      go_wp2
      go_ret
      exact ⟨v6, rfl, HO6.out, HB6.out⟩
    · have d1 : (((n : Int) + (L : Int) + 16) % 128 != 0) = true := nT (by have h1 := mt hpe.1 hlt; have := HL.out; omega)
      have HK := Lib.hid (show k + 1 ≤ padN n by omega)
      have HK2 := Lib.hid (show L + 1 ≤ 200 by
        have h1 : padN n < 128 := by unfold padN; omega
        have := HL.out
        omega)
      clear hpe hk hlt
      go_wp2_with (first | (at_builtin; refine wpList_append_own _ rfl _ _ 25 rfl w.heap.size 5 i0 (.int .u8 0) 1 1 Try.underlying25 HI.out HZ0.out HZ1.out HZ2.out rfl (by decide) _ L _ rfl (HO.out.alloc _) ⟨wr.heap.size, 0, none⟩ 1 1 [.int .u8 0] rfl rfl ?c1 ?c2 ?c3 ?c4 ?c5 ?_))
      case c1 => exact cell_one_new _ _ _
      case c2 => exact one_int _ _
      case c3 => unfold maxLen; omega
      case c4 => omega
      case c5 => have := HB.out.size; simp; omega
      intro v4 w4 hown4 hgrow4 _
      have HB4 := Lib.hid (below_append HB.out HB.out.size HO.out hgrow4)
      rw [pad_more] at hown4
      have HO4 := Lib.hid hown4
      obtain ⟨v4a, v4c, rfl⟩ := own_shape hown4
      clear hown4 hgrow4 HO HB
      go_wp2
      go_roundw
      case rel => exact ⟨k + 1, L + 1, HK.out, HK2.out, Lib.hid (by rw [HL.out]; omega), HO4, HB4⟩
      case measure =>
        simp only [sliceLen]
        have := HK.out
        have := HL.out
        omega
end Go.Proofs.Ytocfphijheidbaa
