/- A disk that is written to: contract of Write. -/
import Derived.Test.YtocfphijheidbaaDkI
import Derived.Test.YtocfphijheidbaaCcB
namespace Go.Proofs.Ytocfphijheidbaa
open Go.RowKit

def putsP (s : DkP) (k : Nat) (b : List UInt8) : Nat → DkP
  | 0 => s
  | i + 1 => if (putsP s k b i).down = true then putsP s k b i else putD (putsP s k b i) (k + i) (secP b i)
theorem putD_bounds (s : DkP) (k : Nat) (b : List UInt8) (M : Int) (hM : 0 ≤ M) (h : s.fall ≤ M) : (putD s k b).P.length ≤ s.P.length + 1 ∧ (putD s k b).wr = s.wr + 1 ∧ (putD s k b).fall ≤ M ∧ (putD s k b).mask = s.mask ∧ (putD s k b).n = s.n := by
  unfold putD
  split
  · exact ⟨by simp, rfl, h, rfl, rfl⟩
  · split
    · exact ⟨by simp [crash], rfl, by simpa [crash] using hM, rfl, rfl⟩
    · exact ⟨by simp, rfl, by show s.fall - 1 ≤ M; omega, rfl, rfl⟩
theorem putsP_bounds (s : DkP) (k : Nat) (b : List UInt8) (M : Int) (hM : 0 ≤ M) (h : s.fall ≤ M) : ∀ i, (putsP s k b i).P.length ≤ s.P.length + i ∧ (putsP s k b i).wr ≤ s.wr + i ∧ (putsP s k b i).fall ≤ M ∧ (putsP s k b i).mask = s.mask ∧ (putsP s k b i).n = s.n
  | 0 => ⟨Nat.le_refl _, Nat.le_refl _, h, rfl, rfl⟩
  | i + 1 => by
    obtain ⟨h1, h2, h3, h4, h5⟩ := putsP_bounds s k b M hM h i
    rw [putsP]
    split
    · exact ⟨by omega, by omega, h3, h4, h5⟩
    · obtain ⟨g1, g2, g3, g4, g5⟩ := putD_bounds (putsP s k b i) (k + i) (secP b i) M hM h3
      exact ⟨by omega, by omega, g3, g4.trans h4, g5.trans h5⟩
/-- What Write makes of a disk, and what it answers. -/
def writeP (s : DkP) (k : Int) (b : List UInt8) : DkP × Int :=
  if s.down = true then (s, 9)
  else if k < 0 ∨ (s.n : Int) - (((b.length + 255) / 256 : Nat) : Int) < k then (s, 1)
  else (putsP s k.toNat b ((b.length + 255) / 256), if (putsP s k.toNat b ((b.length + 255) / 256)).down = true then 9 else 0)
theorem putsP_stay (s : DkP) (k : Nat) (b : List UInt8) (i : Nat) (h : (putsP s k b i).down = true) : ∀ d, putsP s k b (i + d) = putsP s k b i
  | 0 => rfl
  | d + 1 => by
    have ih := putsP_stay s k b i h d
    rw [← Nat.add_assoc, putsP, ih, if_pos h]
/-- A whole sector stored in a block of its own. -/
theorem box_full (w : World) (x : List UInt8) (hx : x.length = 256) (T : TypeId) : (w.alloc (.cells Try.zeroCells131 T)).there w.heap.size 0 (bc x).toArray.size ∧ Below w.heap.size w ((w.alloc (.cells Try.zeroCells131 T)).setCells w.heap.size 0 (bc x).toArray.toList) ∧ ((w.alloc (.cells Try.zeroCells131 T)).setCells w.heap.size 0 (bc x).toArray.toList).rangeAt w.heap.size 0 (bc x) := by
  obtain ⟨h1, h2, h3⟩ := box_sector w x (by omega) _ zeroSec T
  rw [hx, Nat.sub_self, List.replicate_zero, List.append_nil] at h3
  exact ⟨fun j hj => h1 j (by rw [List.size_toArray, bc_length, hx] at hj; exact hj), h2, h3⟩
set_option maxRecDepth 100000 in
theorem write_down (q : Nat) (k : Int) (mv : Value) (bs : List Nat) (s : DkP) (w : World) (h : DkS w bs q s) (hd : s.down = true) : Calls Try.prog 35 #[.pointer (some ⟨q, 0, none⟩), .int .i64 k, mv] w fun e w' => e = .returned (.int .i64 9) ∧ w = w' := by
  obtain ⟨-, c3, -⟩ := h.cell3
  rw [hd] at c3
  clear hd
  go_enter Try.func35, Try.ntmps35
  go_wp2
  go_ret
  exact ⟨rfl, rfl⟩
set_option maxRecDepth 100000 in
set_option maxHeartbeats 8000000 in
theorem write_up (q : Nat) (k : Int) (a : Option Addr) (n c : Nat) (M : List (List UInt8)) (bs : List Nat) (s : DkP) (w : World) (h : DkS w bs q s) (hd : s.down = false) (hM : RowBB w a n M) (hn : n ≤ 1000) (hsum : M.flatten.length ≤ 100000) (hL : s.P.length ≤ 8000) (hmn : s.mask.length ≤ 1000000) (hwr : s.wr ≤ 900000) (hfl : s.fall ≤ 9223372036854775807) (hk : k ≤ 9223372036854775807) :
    Calls Try.prog 35 #[.pointer (some ⟨q, 0, none⟩), .int .i64 k, .slice a n c] w fun e w' => e = .returned (.int .i64 (writeP s k M.flatten).2) ∧ (∃ cs, DkS w' cs q (writeP s k M.flatten).1 ∧ ∀ g ∈ cs, g ∈ bs ∨ w.heap.size ≤ g) ∧ Frm w w' bs := by
  obtain ⟨hqb, c3, -⟩ := h.cell3
  rw [hd] at c3
  have HS := Lib.hid h
  have HD := Lib.hid hd
  have HM := Lib.hid hM
  have HN := Lib.hid hn
  have HSM := Lib.hid hsum
  have HQ := Lib.hid hqb
  obtain ⟨b, hb⟩ : ∃ b, M.flatten = b := ⟨_, rfl⟩
  have HBE := Lib.hid hb
  clear h hd hM hqb
  go_enter Try.func35, Try.ntmps35
  go_wp2_with fail
  refine (concatB a n c M w HM.out HN.out HSM.out).mono ?_; rintro e w1 ⟨v1, rfl, hown, hb1⟩
  rw [hb] at hown
  have HV1 := Lib.hid (ValC.own hown)
  obtain ⟨L, hL1⟩ : ∃ L, b.length = L := ⟨_, rfl⟩
  rw [hL1] at hown
  obtain ⟨va, vc, rfl, -⟩ := cellsK_own hown
  have HS1 := Lib.hid (HS.out.below hb1)
  have HB1 := Lib.hid hb1
  have HLE := Lib.hid hL1
  have hLb : L ≤ 100000 := by rw [← hL1, ← hb]; exact HSM.out
  obtain ⟨cnt, hcnt⟩ : ∃ z, (L + 255) / 256 = z := ⟨_, rfl⟩
  obtain ⟨qd, qr, pv, mv, hB, -, -⟩ := HS1.out
  have r1 := hB.1.u7.2.1
  have w1a : IntKind.i64.wrap ((L : Int) + 256) = ((L + 256 : Nat) : Int) := by rw [IntKind.wrap_i64]; omega
  have w1b : IntKind.i64.wrap (((L + 256 : Nat) : Int) - 1) = ((L + 255 : Nat) : Int) := by rw [IntKind.wrap_i64]; omega
  obtain ⟨L1, hL2⟩ : ∃ z, L + 256 = z := ⟨_, rfl⟩
  obtain ⟨L2, hL3⟩ : ∃ z, L + 255 = z := ⟨_, rfl⟩
  rw [hL2] at w1a w1b
  rw [hL3] at w1b hcnt
  have w1c : (L2 : Int).tdiv 256 = (cnt : Int) := by rw [Int.tdiv_eq_ediv_of_nonneg (by omega)]; omega
  have HCN := Lib.hid hcnt
  have hcb : cnt ≤ 1000 := by omega
  have HL3 := Lib.hid hL3
  clear hB hown hb1 hL1 hL2 hL3 hcnt hb
  obtain ⟨N, hN⟩ : ∃ z, s.n = z := ⟨_, rfl⟩
  rw [hN] at r1
  have HNE := Lib.hid hN
  have hN2 : N ≤ 2048 := by rw [← hN]; exact HS.out.choose_spec.choose_spec.choose_spec.choose_spec.2.2.1.2
  obtain ⟨z, hz⟩ : ∃ z, (N : Int) - (cnt : Int) = z := ⟨_, rfl⟩
  have w1d : IntKind.i64.wrap ((N : Int) - (cnt : Int)) = z := by rw [IntKind.wrap_i64]; omega
  have HF1 := Lib.hid ((Frm.refl w bs).below HB1.out (Nat.le_refl _))
  have HWP := Lib.hid (show writeP s k M.flatten = if k < 0 ∨ z < k then (s, 1) else (putsP s k.toNat b cnt, if (putsP s k.toNat b cnt).down = true then 9 else 0) by
    have e1 : (b.length + 255) / 256 = cnt := by rw [HLE.out, HL3.out, HCN.out]
    rw [writeP, HD.out, HBE.out, e1, HNE.out, hz]
    rfl)
  go_upto_region 5 with (fail)
  by_cases hk0 : k < 0
  · have k1 := dT hk0
    have HP := Lib.hid (show writeP s k M.flatten = (s, 1) by rw [HWP.out, if_pos (Or.inl hk0)])
    clear hk0 w1d
    go_wp2
    go_ret
    rw [HP.out]
    exact ⟨rfl, ⟨bs, HS1.out, fun g hg => Or.inl hg⟩, HF1.out⟩
  · by_cases hz2 : z < k
    · have k1 := dF hk0
      have k2 := dT hz2
      have HP := Lib.hid (show writeP s k M.flatten = (s, 1) by rw [HWP.out, if_pos (Or.inr hz2)])
      clear hk0 hz2 hz
      go_wp2
      go_ret
      rw [HP.out]
      exact ⟨rfl, ⟨bs, HS1.out, fun g hg => Or.inl hg⟩, HF1.out⟩
    · have k1 := dF hk0
      have k2 := dF hz2
      have HP := Lib.hid (show writeP s k M.flatten = (putsP s k.toNat b cnt, if (putsP s k.toNat b cnt).down = true then 9 else 0) by rw [HWP.out, if_neg (by omega)])
      obtain ⟨K, rfl⟩ : ∃ K : Nat, k = (K : Int) := ⟨k.toNat, by omega⟩
      rw [Int.toNat_natCast] at HP
      have HKN := Lib.hid (show K + cnt ≤ N by omega)
      clear hk0 hz2 hz HWP
      go_wp2_with fail
      refine (parts_any va L vc b w1 HV1.out (by omega)).mono ?_; rintro e w2 ⟨v2, rfl, ho2, hb2⟩
      rw [show (L + 255) / 256 = cnt by rw [HL3.out, HCN.out]] at ho2
      obtain ⟨pa2, pc2, rfl, -⟩ := cellsK_own ho2
      have HO2 := Lib.hid ho2
      have HB2 := Lib.hid hb2
      have HSW := Lib.hid HB1.out.size
      clear ho2 hb2 r1 c3 w1a w1b w1c w1d
      go_wp2_with fail
      go_loopw [38] (fun x wr => ∃ (i : Nat) (cs : List Nat), i ≤ cnt ∧ x = .int .i64 i ∧ Hid (DkS wr cs q (putsP s K b i)) ∧ Hid ((putsP s K b i).down = false) ∧ Hid (∀ g ∈ cs, g ∈ bs ∨ w.heap.size ≤ g) ∧ Hid (Frm w wr bs) ∧ Hid (wr.ownsRow 0 131 256 (.slice pa2 cnt pc2) cnt (rowP b cnt)) ∧ Hid (∀ g, (Value.slice pa2 cnt pc2).ownBlock = some g → g ∉ cs)) (fun x _ => cnt - (intOf x).toNat)
      case atStart => exact ⟨0, bs, Nat.zero_le _, rfl, Lib.hid (HS1.out.below HB2.out), HD, Lib.hid (fun g hg => Or.inl hg), Lib.hid (HF1.out.below HB2.out HSW.out), Lib.hid ⟨HO2.out.1, HO2.out.2.imp id (fun ⟨g, c', d', h1, h2, h3⟩ => ⟨g, c', d', h1, Nat.zero_le _, h3⟩)⟩, Lib.hid (fun g hg hb => by have h1 := (HO2.out.lt g hg).1; have h2 := HS1.out.lt g hb; omega)⟩
      case round =>
        obtain ⟨i, cs, hi, rfl, HT, HTD, HCS, HF, HR, HG⟩ := hrel
        by_cases hlt : i < cnt
        · obtain ⟨g, hpa⟩ : ∃ g, pa2 = some ⟨g, 0, none⟩ := by
            rcases HR.out.2 with ⟨_, h1⟩ | ⟨g, c', d', h1, _⟩
            · omega
            · injection h1 with h1
              exact ⟨g, h1⟩
          subst hpa
          obtain ⟨o1, ho1⟩ : ∃ o, i * 256 = o := ⟨_, rfl⟩
          have hgl := (HR.out.lt g rfl).2
          have HRG := Lib.hid (show wr.rangeAt g o1 (bc (secP b i)) from fun j v hj => by
            have hj2 : j < 256 := by
              have := (List.getElem?_eq_some_iff.1 hj).1
              rwa [bc_length, secP_len] at this
            have h1 := rowP_at b cnt i j hlt hj2
            rw [hj] at h1
            have h2 := ownsRow_at HR.out (256 * i + j) v h1
            rw [show o1 + j = 256 * i + j by omega]
            exact h2)
          have HSB := Lib.hid (show (Try.prog.info? 131).map (·.size) = some (bc (secP b i)).length by rw [bc_length, secP_len]; exact sizeSec)
          obtain ⟨hbt, hbb, hbr⟩ := box_full wr (secP b i) (secP_len b i) 131
          have HBT := Lib.hid hbt
          have HBR := Lib.hid hbr
          have HS5 := Lib.hid (HT.out.below hbb)
          have HF5 := Lib.hid (HF.out.below hbb HF.out.size)
          have HR5 := Lib.hid (own_kept HR.out (fun g' e => hbb.block g' (by injection e with e; rw [← e]; exact hgl)))
          have HG5 := Lib.hid (show g ∉ cs from HG.out g rfl)
          have HGL := Lib.hid (Nat.lt_of_lt_of_le hgl hbb.size)
          have HW0 := Lib.hid HF.out.size
          obtain ⟨w5, hw5⟩ : ∃ z, (wr.alloc (.cells Try.zeroCells131 131)).setCells wr.heap.size 0 (bc (secP b i)).toArray.toList = z := ⟨_, rfl⟩
          have HS5Z := Lib.hid hbb.size
          rw [hw5] at HBR HS5 HF5 HR5 HGL HS5Z
          have HW5 := Lib.hid hw5
          have H1C := Lib.hid (show (bc (secP b i)).toArray.all (·.oneCell') = true from all_oneCell_toArray (bc_oneCell _))
          obtain ⟨H, hH⟩ : ∃ z, wr.heap.size = z := ⟨_, rfl⟩
          rw [hH] at HBR
          have HHE := Lib.hid hH
          obtain ⟨st, hst⟩ : ∃ z, putsP s K b i = z := ⟨_, rfl⟩
          have HPB := Lib.hid (putsP_bounds s K b 9223372036854775807 (by omega) hfl i)
          rw [hst] at HS5 HTD HPB
          have HNX := Lib.hid (show putsP s K b (i + 1) = putD st (K + i) (secP b i) by
            have h9 := HTD.out
            rw [putsP, hst]
            rw [if_neg (by rw [h9]; exact Bool.false_ne_true)])
          obtain ⟨qd5, qr5, pv5, mv5, hB5, hA5, hW5'⟩ := HS5.out
          have HPT := Lib.hid (put_dk q qd5 qr5 pv5 mv5 cs st (K + i) (secP b i) w5 hB5 hA5 hW5' HTD.out (by have := HPB.out.2.2.2.2; have h7 := HKN.out; have h6 := HNE.out; omega) (secP_len b i) (by have := HPB.out.1; omega) (by rw [HPB.out.2.2.2.1]; exact hmn) (by have := HPB.out.2.1; omega) HPB.out.2.2.1)
          obtain ⟨j, hj⟩ : ∃ j, K + i = j := ⟨_, rfl⟩
          rw [hj] at HPT HNX
          have w2a : IntKind.i64.wrap ((K : Int) + (i : Int)) = (j : Int) := by have h7 := HKN.out; rw [IntKind.wrap_i64]; omega
          have hio : i * 256 = o1 := ho1
          have pi0 : (0 : Int) ≤ (i : Int) := by omega
          have ri : (i : Int) < (cnt : Int) := by omega
          have dd : decide ((i : Int) < (cnt : Int)) = true := dT (by omega)
          have d0 : decide (i < cnt) = true := dT hlt
          have HLT := Lib.hid hlt
          clear hbt hbb hbr hw5 hH hst hB5 hA5 hW5' hj ho1 hgl HT HTD HPB HF HR HG hlt
          go_upto_region 10 with (first | (refine wpList_load_mid rfl 131 (.tmp 41) rfl g o1 rfl _ _ HRG.out Try.underlying131 rfl HSB.out ?_) | (refine wpList_store_mid rfl 131 (.tmp 10) (.tmp 42) rfl _ _ (bc (secP b i)).toArray rfl rfl HBT.out (by rw [List.size_toArray]; exact HSB.out) H1C.out ?_; rw [HW5.out, HHE.out]))
          clear HRG HBT HW5 H1C hio
          go_wp2_with (first | (refine wpList_load_mid rfl 131 (.tmp 10) rfl H 0 rfl _ _ HBR.out Try.underlying131 rfl HSB.out ?_))
          refine HPT.out.mono ?_; rintro e w6 ⟨rfl, ⟨cs', hs', hcs'⟩, hfr⟩
          rw [← HNX.out] at hs'
          have HS6 := Lib.hid hs'
          have HCS6 := Lib.hid (show ∀ g' ∈ cs', g' ∈ bs ∨ w.heap.size ≤ g' from fun g' h1 => by
            rcases hcs' g' h1 with h2 | h2
            · exact HCS.out g' h2
            · exact Or.inr (Nat.le_trans HW0.out (Nat.le_trans HS5Z.out h2)))
          have HF6 := Lib.hid (HF5.out.trans hfr HCS.out)
          have HR6 := Lib.hid (own_kept HR5.out (fun g' e => by
            injection e with e
            subst e
            exact hfr.block _ HGL.out HG5.out))
          have HG6 := Lib.hid (show ∀ g', (Value.slice (some ⟨g, 0, none⟩) cnt pc2).ownBlock = some g' → g' ∉ cs' from fun g' e h1 => by
            injection e with e
            subst e
            rcases hcs' _ h1 with h2 | h2
            · exact HG5.out h2
            · exact absurd HGL.out (Nat.not_lt_of_le h2))
          obtain ⟨-, c3', -⟩ := hs'.cell3
          obtain ⟨D, hD⟩ : ∃ D, (putsP s K b (i + 1)).down = D := ⟨_, rfl⟩
          rw [hD] at c3'
          have HDD := Lib.hid hD
          clear hs' hcs' hfr hD HPT HNX HS5 HF5 HR5 HCS HG5 HBR
          cases D with
          | true =>
            have HEQ := Lib.hid (show putsP s K b cnt = putsP s K b (i + 1) by
              have h9 := putsP_stay s K b (i + 1) HDD.out (cnt - (i + 1))
              rwa [show i + 1 + (cnt - (i + 1)) = cnt by have := HLT.out; omega] at h9)
            go_wp2
            go_ret
            rw [HP.out, HEQ.out, if_pos HDD.out]
            exact ⟨rfl, ⟨cs', HS6.out, HCS6.out⟩, HF6.out⟩
          | false =>
            go_wp2
            go_roundw
            case rel => exact ⟨i + 1, cs', HLT.out, by go_num, HS6, HDD, HCS6, HF6, HR6, HG6⟩
            case measure =>
              simp only [intOf]
              have := HLT.out
              omega
        · have hic : i = cnt := by omega
          subst hic
          have dd : decide ((i : Int) < (i : Int)) = false := dF (by omega)
          have d0 : decide (i < i) = false := dF (by omega)
          have HTE := Lib.hid (show ¬ (putsP s K b i).down = true by rw [HTD.out]; exact Bool.false_ne_true)
          clear hlt
          go_wp2
          go_ret
          rw [HP.out, if_neg HTE.out]
          exact ⟨rfl, ⟨cs, HT.out, HCS.out⟩, HF.out⟩
end Go.Proofs.Ytocfphijheidbaa
