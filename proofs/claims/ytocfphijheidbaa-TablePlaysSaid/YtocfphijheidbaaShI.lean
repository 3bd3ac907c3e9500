/- The digest of what a State was told; of lists: contracts of both Sums. -/
import Derived.Test.YtocfphijheidbaaShH
namespace Go.Proofs.Ytocfphijheidbaa
open Go.RowKit

theorem words_next (h : Nat → Int) (i j : Nat) (hj : j < 8) : words h (8 * i + (j + 1)) = words h (8 * i + j) ++ [by8 (h i / 2 ^ (56 - 8 * j))] := by
  rw [← Nat.add_assoc, words_succ, show (8 * i + j) / 8 = i by omega, show (8 * i + j) % 8 = j by omega]
theorem head6 (q : Nat) (W : World) : (Instr.sliceAt 118 (.pointer (some ⟨q, 0, none⟩)) none (some (.int .i64 6)) none).run Try.prog W = .ok (.slice (some ⟨q, 0, none⟩) 6 8) W := by
  have he : Try.prog.elem 118 = 114 := by simp [Program.elem, Try.underlying118]
  have hl : Try.prog.arrayLen 118 = 8 := by simp [Program.arrayLen, Try.underlying118]
  have hu : Try.prog.underlying 118 = some (.array (Try.prog.arrayLen 118) (Try.prog.elem 118)) := by rw [he, hl]; exact Try.underlying118
  have z := Try.sizeOf114
  rw [run_sliceAt_array_h (P := Try.prog) W 118 ⟨q, 0, none⟩ hu .i64 6 (by omega) (by rw [hl]; omega), he, hl]
  simp [go_sem, z, Result.andThen, slicedAt, Addr.add]
set_option maxRecDepth 100000 in
set_option maxHeartbeats 4000000 in
theorem sum_any (q : Nat) (l : List UInt8) (w : World) (hs : ShL w q l) (hsz : l.length ≤ 100000000) : Calls Try.prog 20 #[.pointer (some ⟨q, 0, none⟩)] w fun e w' => ∃ v, e = .returned v ∧ w'.ownsRow w.heap.size 5 1 v 48 (bc (shaL l)) ∧ Below w.heap.size w w' := by
  obtain ⟨i0, hi, hz0, hz1, hz2⟩ := info_parts infoU8
  have HI := Lib.hid hi
  have HZ0 := Lib.hid hz0
  have HZ1 := Lib.hid hz1
  have HZ2 := Lib.hid hz2
  have HS := Lib.hid hs
  have hql := hs.lt
  have HEN := Lib.hid (endL_length l.length)
  have HPD := Lib.hid (show padN l.length < 128 by unfold padN; omega)
  clear hi hz0 hz1 hz2 hs
  go_enter Try.func20, Try.ntmps20
  go_wp2_with fail
  refine (copy_any q l _ HS.out).mono ?_; rintro e w1 ⟨p, rfl, hp, hsp, hb⟩
  have HB1 := Lib.hid hb
  have HS1 := Lib.hid (HS.out.below hb)
  have HP1 := Lib.hid hsp
  have hpl := hsp.lt
  clear hb hsp HS
  obtain ⟨rl, hrl, ⟨h1, h2, c136, h4⟩, ht⟩ := HS1.out
  obtain ⟨N, hN⟩ : ∃ x, l.length = x := ⟨_, rfl⟩
  rw [hN] at c136
  have HN := Lib.hid hN
  clear hrl h1 h2 h4 ht
  have hs1 := HB1.out.size
  have hN2 : N ≤ 100000000 := by omega
  clear hN
  go_wp2_with fail
  refine (ending_any N _ (by omega)).mono ?_; rintro e w2 ⟨v2, rfl, ho2, hb2⟩
  have HB2 := Lib.hid (HB1.out.trans (hb2.mono HB1.out.size))
  have HP2 := Lib.hid (HP1.out.below hb2)
  obtain ⟨a2, c2, hc2, ⟨hr2, hn2⟩⟩ : ∃ a c, v2 = .slice a (endL N).length c ∧ RowB w2 a (endL N).length (endL N) ∧ (a = none → (endL N).length = 0 ∧ c = 0) := ValB.own ho2
  have hcc : (endL N).length ≤ c2 := by
    rcases ho2.2 with ⟨e, _⟩ | ⟨g, cap, cur, e, _, _, h4, _⟩
    · rw [e] at hc2; injection hc2 with _ e1 e2; omega
    · rw [e] at hc2; injection hc2 with _ e1 e2; omega
  have HF2 := Lib.hid (show ∀ b off, a2 = some ⟨b, off, none⟩ → (endL N).length = 0 ∨ b ≠ p from fun b off e => by
    right
    have := (ho2.lt b (by rw [hc2, e]; rfl)).1
    omega)
  have HP2s := Lib.hid (show ∀ x, a2 = some x → (endL N).length = 0 ∨ x.spot = none from fun x e => by
    rcases Nat.eq_zero_or_pos (endL N).length with h0 | h0
    · exact Or.inl h0
    · obtain ⟨b, o, e2, _⟩ := hr2.at h0
      rw [e2] at e; injection e with e
      exact Or.inr (by rw [← e]))
  have HR2 := Lib.hid hr2
  have HN2 := Lib.hid hn2
  subst hc2
  rw [HN.out] at HEN
  obtain ⟨E, hE⟩ : ∃ x, endL N = x := ⟨_, rfl⟩
  rw [hE] at HEN HF2 HP2s HR2 HN2 hcc ⊢
  obtain ⟨ne, hne⟩ : ∃ x, E.length = x := ⟨_, rfl⟩
  rw [hne] at HEN HF2 HP2s HR2 HN2 hcc ⊢
  have hneb : l.length + ne ≤ 1000000000 := by have := HEN.out; have := HPD.out; have := HN.out; rw [← HN.out] at HEN; have := HEN.out; omega
  have HE := Lib.hid (show l ++ E = whole l by rw [whole, HN.out, hE])
  clear ho2 hb2 hr2 hn2 hE hne c136
  go_wp2_with fail
  refine (write_any p l a2 ne c2 E _ HP2.out HR2.out HN2.out hcc HP2s.out HF2.out hneb).mono ?_; rintro e w3 ⟨rfl, hs3, ho3⟩
  have HB3 := Lib.hid (ho3.under HB2.out hp HB2.out.size)
  rw [HE.out] at hs3
  obtain ⟨rl, -, ⟨h3, -, -, -⟩, -⟩ := hs3
  have HA3 := Lib.hid h3
  have HSH := Lib.hid (show words (hsh (whole l) ((whole l).length / 128)) 48 = shaL l from rfl)
  obtain ⟨h, hh⟩ : ∃ x, hsh (whole l) ((whole l).length / 128) = x := ⟨_, rfl⟩
  rw [hh] at HA3 HSH
  clear hh ho3 h3 HB2 HP2 HR2 HN2 HF2 HP2s
  have hs3 := HB3.out.size
  have hpl3 : p < w3.heap.size := block_lt_of_cell (HA3.out 0 (by decide)).1
  have hsl := head6 p
  go_wp2_with (at_make; refine wpList_make_own _ rfl _ _ 25 rfl w3.heap.size 5 i0 (.int .u8 0) 1 Try.underlying25 HI.out HZ0.out HZ1.out .i64 .i64 _ 48 rfl rfl rfl ?b2 ?b3 (Nat.le_refl _) ?_)
  case b2 => rw [HZ2.out]; omega
  case b3 => unfold maxLen; omega
  intro w4 hown hgrow
  have hb34 := (Below.refl w3.heap.size w3).grown hgrow (Nat.le_refl _) (by simp)
  have HB4 := Lib.hid hb34
  have HO4 := Lib.hid (show w4.ownsRow w3.heap.size 5 1 (.slice (some ⟨w3.heap.size, 0, none⟩) 0 48) 0 (bc (words h (8 * 0))) from hown)
  clear hown hgrow hb34

  go_wp2_with fail
  clear hsl
  go_loopw [4, 23] (fun v i wr => ∃ k L : Nat, k ≤ 6 ∧ L ≤ 48 ∧ i = .int .i64 k ∧ Hid (L = 8 * k) ∧ Hid (wr.ownsRow w3.heap.size 5 1 v L (bc (words h (8 * k)))) ∧ Hid (Below w3.heap.size w3 wr)) (fun _ i _ => 6 - (intOf i).toNat)
  case atStart => exact ⟨0, 0, Nat.zero_le _, Nat.zero_le _, rfl, rfl, HO4, HB4⟩
  case round =>
    clear HO4 HB4
    obtain ⟨k, L, hk, hL, rfl, HL, HO, HB⟩ := hrel
    by_cases hlt : k < 6
    · obtain ⟨cx, -⟩ := (HA3.out.below HB.out) k (by omega)
      rw [Nat.zero_add] at cx
      obtain ⟨x, hx⟩ : ∃ y, h k = y := ⟨_, rfl⟩
      rw [hx] at cx
      have HX := Lib.hid hx
      have HK := Lib.hid hlt
      have d1 : decide ((k : Int) < 6) = true := dT (by omega)
      clear hx
      go_wp2_with fail
      go_loopw [4, 7] (fun v i wr => ∃ (j L : Nat) (s : Int), j ≤ 8 ∧ L ≤ 48 ∧ i = .int .i64 s ∧ Hid (s = 56 - 8 * (j : Int)) ∧ Hid (L = 8 * k + j) ∧ Hid (wr.ownsRow w3.heap.size 5 1 v L (bc (words h (8 * k + j)))) ∧ Hid (Below w3.heap.size w3 wr)) (fun _ i _ => (intOf i + 8).toNat)
      case atStart => exact ⟨0, L, 56, Nat.zero_le _, hL, rfl, Lib.hid (by omega), HL, HO, HB⟩
      case round =>
        clear HO HB HL cx
        obtain ⟨j, L2, s, hj, hL2, rfl, HSE, HL, HO, HB⟩ := hrel
        obtain ⟨va, vc, rfl⟩ := own_shape HO.out
        by_cases hjl : j < 8
        · have hs0 : 0 ≤ s := by have := HSE.out; omega
          have hs1 : s ≤ 56 := by have := HSE.out; omega
          have hL3 : L2 + 1 ≤ 48 := by have := HL.out; omega
          have HJ := Lib.hid hjl
          clear hjl hj
          go_wp2_with (first | (at_builtin; refine wpList_append_own _ rfl _ _ 25 rfl w3.heap.size 5 i0 (.int .u8 0) 1 1 Try.underlying25 HI.out HZ0.out HZ1.out HZ2.out rfl (by decide) _ L2 _ rfl (HO.out.alloc _) ⟨wr.heap.size, 0, none⟩ 1 1 [.int .u8 (x / 2 ^ s.toNat % 256)] rfl rfl ?c1 ?c2 ?c3 ?c4 ?c5 ?_))
          case c1 => exact cell_one_new _ _ _
          case c2 => exact one_int _ _
          case c3 => unfold maxLen; omega
          case c4 => omega
          case c5 => have := HB.out.size; simp; omega
          intro v5 w5 hown5 hgrow5 _
          have HB5 := Lib.hid (below_append HB.out HB.out.size HO.out hgrow5)
          have HO5 := Lib.hid (show w5.ownsRow w3.heap.size 5 1 v5 (L2 + 1) (bc (words h (8 * k + (j + 1)))) from by
            rw [words_next h k j HJ.out, bc_append, bc_one, HX.out]
            have e : 56 - 8 * j = s.toNat := by have := HSE.out; have := HJ.out; omega
            rw [e]
            exact hown5)
          obtain ⟨v5a, v5c, rfl⟩ := own_shape hown5
          clear hown5 hgrow5 HO HB
          go_wp2
          go_roundw
          case rel => exact ⟨j + 1, L2 + 1, s - 8, HJ.out, hL3, rfl, Lib.hid (by have := HSE.out; omega), Lib.hid (by have := HL.out; omega), HO5, HB5⟩
          case measure =>
            simp only [intOf]
            omega
        · have hj8 : j = 8 := by omega
          subst hj8
          have hsm : s < 0 := by have := HSE.out; omega
          have HO8 := Lib.hid (show wr.ownsRow w3.heap.size 5 1 (.slice va L2 vc) L2 (bc (words h (8 * (k + 1)))) from HO.out)
          have HL8 := Lib.hid (show L2 = 8 * (k + 1) from by have := HL.out; omega)
          clear HO HL HSE hjl hj
          go_wp2
          go_roundw
          case rel => exact ⟨k + 1, L2, HK.out, hL2, by go_num, HL8, HO8, HB⟩
          case measure =>
            simp only [intOf]
            have := HK.out
            omega
    · have hk6 : k = 6 := by omega
      subst hk6
      have d1 : decide (((6 : Nat) : Int) < 6) = false := by decide
      obtain ⟨va, vc, rfl⟩ := own_shape HO.out
      have hL48 : L = 48 := HL.out
      have HF := Lib.hid (show wr.ownsRow w.heap.size 5 1 (.slice va L vc) 48 (bc (shaL l)) from by rw [← HSH.out]; have := own_lower HO.out HB3.out.size; rw [hL48] at this ⊢; exact this)
      clear HO hL48 HL hlt hk
      go_wp2
      go_ret
      exact ⟨_, rfl, HF.out, HB3.out.trans (HB.out.mono HB3.out.size)⟩
end Go.Proofs.Ytocfphijheidbaa
