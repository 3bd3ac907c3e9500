/- Texts that others rest on, one behind the other: DeP, DeN, LoN, DeR, DeD, DeC, DeQ, DeO. -/
import Derived.Test.YtgppkpdjpcegbaaMgC
import Derived.Test.YtgppkpdjpcegbaaLow
import Derived.Test.YtgppkpdjpcegbaaMgA
import Derived.Test.YtgppkpdjpcegbaaMgB
import Derived.Test.YtgppkpdjpcegbaaGdr
import Derived.Test.YtgppkpdjpcegbaaMaG
import Derived.Test.YtgppkpdjpcegbaaLst
import Derived.Test.YtgppkpdjpcegbaaLsu
section
namespace Go.Proofs.Ytgppkpdjpcegbaa
open Go.RowKit

/-- The letters of the name that begins at A (without its end), and the place behind it; H: each place told lies ahead of it. -/
def nmG (s : ByteArray) (A H : Nat) (B : List UInt8) (nx : Nat) : Option (List UInt8 × Nat) :=
  if h : A < s.size then
    if byteAt s A = 0 then (if 255 ≤ B.length then none else some (B, if nx = 0 then A + 1 else nx))
    else if byteAt s A ≤ 63 then
      if s.size < A + 1 + byteAt s A ∨ 255 < B.length then none
      else nmG s (A + 1 + byteAt s A) H (B ++ (s.extract A (A + 1 + byteAt s A)).data.toList) nx
    else if s.size < A + 2 then none
    else if hp : (getTo s A 2 - 49152).toNat < H ∧ 49152 ≤ getTo s A 2 then nmG s (getTo s A 2 - 49152).toNat (getTo s A 2 - 49152).toNat B (if nx = 0 then A + 2 else nx)
    else none
  else none
termination_by (H, s.size - A)
decreasing_by
  · exact Prod.Lex.right _ (by omega)
  · exact Prod.Lex.left _ _ hp.1
theorem nmG_out {s : ByteArray} {A H : Nat} {B : List UInt8} {nx : Nat} (h : ¬ A < s.size) : nmG s A H B nx = none := by rw [nmG, dif_neg h]
theorem nmG_long {s : ByteArray} {A H : Nat} {B : List UInt8} {nx : Nat} (h : A < s.size) (h0 : byteAt s A = 0) (hb : 255 ≤ B.length) : nmG s A H B nx = none := by rw [nmG, dif_pos h, if_pos h0, if_pos hb]
theorem nmG_end {s : ByteArray} {A H : Nat} {B : List UInt8} {nx : Nat} (h : A < s.size) (h0 : byteAt s A = 0) (hb : ¬ 255 ≤ B.length) : nmG s A H B nx = some (B, if nx = 0 then A + 1 else nx) := by rw [nmG, dif_pos h, if_pos h0, if_neg hb]
theorem nmG_brk {s : ByteArray} {A H : Nat} {B : List UInt8} {nx : Nat} (h : A < s.size) (h0 : byteAt s A ≠ 0) (h63 : byteAt s A ≤ 63) (hb : s.size < A + 1 + byteAt s A ∨ 255 < B.length) : nmG s A H B nx = none := by rw [nmG, dif_pos h, if_neg h0, if_pos h63, if_pos hb]
theorem nmG_lab {s : ByteArray} {A H : Nat} {B : List UInt8} {nx : Nat} (h : A < s.size) (h0 : byteAt s A ≠ 0) (h63 : byteAt s A ≤ 63) (hb : ¬ (s.size < A + 1 + byteAt s A ∨ 255 < B.length)) : nmG s A H B nx = nmG s (A + 1 + byteAt s A) H (B ++ (s.extract A (A + 1 + byteAt s A)).data.toList) nx := by
  rw [nmG, dif_pos h, if_neg h0, if_pos h63, if_neg hb]
theorem nmG_short {s : ByteArray} {A H : Nat} {B : List UInt8} {nx : Nat} (h : A < s.size) (h63 : ¬ byteAt s A ≤ 63) (hb : s.size < A + 2) : nmG s A H B nx = none := by rw [nmG, dif_pos h, if_neg (by omega), if_neg h63, if_pos hb]
theorem nmG_far {s : ByteArray} {A H : Nat} {B : List UInt8} {nx : Nat} (h : A < s.size) (h63 : ¬ byteAt s A ≤ 63) (hb : ¬ s.size < A + 2) (hp : ¬ ((getTo s A 2 - 49152).toNat < H ∧ 49152 ≤ getTo s A 2)) : nmG s A H B nx = none := by rw [nmG, dif_pos h, if_neg (by omega), if_neg h63, if_neg hb, dif_neg hp]
theorem nmG_go {s : ByteArray} {A H : Nat} {B : List UInt8} {nx : Nat} (h : A < s.size) (h63 : ¬ byteAt s A ≤ 63) (hb : ¬ s.size < A + 2) (hp : (getTo s A 2 - 49152).toNat < H ∧ 49152 ≤ getTo s A 2) : nmG s A H B nx = nmG s (getTo s A 2 - 49152).toNat (getTo s A 2 - 49152).toNat B (if nx = 0 then A + 2 else nx) := by
  rw [nmG, dif_pos h, if_neg (by omega), if_neg h63, if_neg hb, dif_pos hp]
/-- What the reader of a name tells. -/
def NmE (s : ByteArray) (A : Nat) (e : Ending) : Prop :=
  (∃ (B : List UInt8) (n : Nat), nmG s A A [] 0 = some (B, n) ∧ e = .returned (.tuple #[.string (lowS (bs (B ++ [0]))), .int .i64 n, .int .i64 0])) ∨ (nmG s A A [] 0 = none ∧ ∃ er : Int, er ≠ 0 ∧ e = .returned (.tuple #[.string ⟨#[]⟩, .int .i64 0, .int .i64 er]))
end Go.Proofs.Ytgppkpdjpcegbaa
end

section
namespace Go.Proofs.Ytgppkpdjpcegbaa
open Go.RowKit

theorem results_tmp3 {fn : Func} {t u x : Tmp} (h : fn.results = #[.tmp t, .tmp u, .tmp x]) (tmps : Array Value) (P : Program) (w : World) :
    (results fn tmps).run P w = .ok (.tuple #[tmps.getD t undef, tmps.getD u undef, tmps.getD x undef]) w := by
  simp [results, h]
macro "go_ret3" : tactic => `(tactic|
  ((try simp only [Exit.inBlock, Exit.then]); refine bodyPost_ret (results_tmp3 rfl _ _ _) rfl ?_))
set_option maxRecDepth 100000 in
set_option maxHeartbeats 16000000 in
theorem nameAt_any (s : ByteArray) (A0 : Nat) (w : World) (hA : A0 ≤ s.size) (hs : s.size ≤ 20000) :
    Calls Try.prog 73 #[.string s, .int .i64 A0] w fun e w' => NmE s A0 e ∧ Below w.heap.size w w' := by
  obtain ⟨i0, hi, hz0, hz1, hz2⟩ := info_parts infoU8
  have HI := Lib.hid hi
  have HZ0 := Lib.hid hz0
  have HZ1 := Lib.hid hz1
  have HZ2 := Lib.hid hz2
  obtain ⟨R, hR⟩ : ∃ x, nmG s A0 A0 [] 0 = x := ⟨_, rfl⟩
  have HNM := Lib.hid (show ∀ e, ((∃ (B : List UInt8) (n : Nat), R = some (B, n) ∧ e = .returned (.tuple #[.string (lowS (bs (B ++ [0]))), .int .i64 n, .int .i64 0])) ∨ (R = none ∧ ∃ er : Int, er ≠ 0 ∧ e = .returned (.tuple #[.string ⟨#[]⟩, .int .i64 0, .int .i64 er]))) → NmE s A0 e from fun e h => by rw [← hR] at h; exact h)
  have HR0 := Lib.hid hR
  clear hi hz0 hz1 hz2 hR
  go_enter Try.func73, Try.ntmps73
  go_wp2_with fail
  go_loopw [1, 7, 8, 9] (fun av bv nv hv wr => ∃ (A H nx : Nat) (B : List UInt8), A ≤ s.size ∧ H ≤ s.size ∧ nx ≤ s.size ∧ B.length ≤ 400 ∧ av = .int .i64 A ∧ nv = .int .i64 nx ∧ hv = .int .i64 H ∧ Hid (wr.ownsRow w.heap.size 5 1 bv B.length (bc B)) ∧ Hid (Below w.heap.size w wr) ∧ Hid (nmG s A H B nx = R)) (fun av _ _ hv _ => (intOf hv).toNat * (s.size + 2) + (s.size + 1 - (intOf av).toNat))
  case atStart => exact ⟨A0, A0, 0, [], hA, hA, Nat.zero_le _, by simp, rfl, rfl, rfl, Lib.hid (World.ownsRow_nil _ _ _ _), Lib.hid (Below.refl _ _), Lib.hid HR0.out⟩
  case round =>
    obtain ⟨A, H, nx, B, hA1, hH1, hnx, hBl, rfl, rfl, rfl, HO, HB, HG⟩ := hrel
    obtain ⟨L, hL⟩ : ∃ x, B.length = x := ⟨_, rfl⟩
    rw [hL] at HO hBl
    obtain ⟨ba, bcp, rfl⟩ := own_shape HO.out
    have HL := Lib.hid hL
    have HX0 := Lib.hid HR0.out
    clear hL HR0
    by_cases g0 : A < s.size
    · have d0 := dT (p := (A : Int) < (s.size : Int)) (by omega)
      have hbl := byteAt_lt s A
      have hg := byte_get g0
      obtain ⟨c, hc⟩ : ∃ x, byteAt s A = x := ⟨_, rfl⟩
      rw [hc] at hg hbl
      have HC := Lib.hid hc
      clear hc
      by_cases c0 : c = 0
      · have e0 : ((c : Int) != 0) = false := nF (by omega)
        have d2 := dF (p := (s.size : Int) ≤ (A : Int)) (by omega)
        by_cases g1 : 255 ≤ L
        · have d1 := dT (p := (255 : Int) ≤ (L : Int)) (by omega)
          have HRN := Lib.hid (show R = none by rw [← HG.out]; exact nmG_long g0 (HC.out.trans c0) (by rw [HL.out]; exact g1))
          clear c0 g1
          go_wp2
          go_ret3
          exact ⟨HNM.out _ (Or.inr ⟨HRN.out, 4, by decide, rfl⟩), HB.out⟩
        · have d1 := dF (p := (255 : Int) ≤ (L : Int)) (by omega)
          obtain ⟨m, hm⟩ : ∃ m : Nat, (if nx = 0 then A + 1 else nx) = m := ⟨_, rfl⟩
          have HRN := Lib.hid (show R = some (B, m) by rw [← HG.out, ← hm]; exact nmG_end g0 (HC.out.trans c0) (by rw [HL.out]; exact g1))
          have HFIN := Lib.hid (show ∀ (m' : Nat), m' = m → ∀ e', e' = Ending.returned (.tuple #[.string (lowS (bs (B ++ [0]))), .int .i64 (m' : Int), .int .i64 0]) → NmE s A0 e' from fun m' hm' e' he' => by subst hm'; exact HNM.out _ (Or.inl ⟨B, m', HRN.out, he'⟩))
          have HMM := Lib.hid hm
          have HLB := Lib.hid (show L ≤ 1000 by omega)
          have HSZ := Lib.hid (show (bs (B ++ [0])).size ≤ 1000000 by rw [bs_size, List.length_append, HL.out]; simp; omega)
          have HBS := Lib.hid (show w.heap.size ≤ (wr.alloc (.cells #[.int .u8 0] 5)).heap.size by rw [World.size_alloc]; have := HB.out.size; omega)
          have HAL := Lib.hid ((Below.refl wr.heap.size wr).alloc (Nat.le_refl _) (.cells #[.int .u8 0] 5))
          clear c0 hm
          by_cases g3 : nx = 0
          · have e3 := eT (a := (nx : Int)) (b := 0) (by omega)
            have HM2 := Lib.hid (show A + 1 = m by rw [← HMM.out, if_pos g3])
            clear g1 g3 hA1 hH1 hnx hBl
            go_wp2_with (at_builtin; refine append_cellsK rfl _ _ 22 5 rfl i0 _ 1 1 Try.underlying22 HI.out HZ0.out HZ1.out HZ2.out rfl (by decide) w.heap.size _ L _ rfl (own_below' HO.out HAL.out) (some ⟨wr.heap.size, 0, none⟩) 1 1 (bc [0]) rfl (fun h => by cases h) (cells_lit wr #[.int .u8 0] _) (bc_oneCell [0]) (by have := HLB.out; omega) (by decide) HBS.out ?_)
            intro v2 w2 hown hgrow
            rw [← bc_append] at hown
            obtain ⟨a2, cp2, rfl, -⟩ := cellsK_own hown
            have hcv := conv_own hown
            have HB2 := Lib.hid (below_append HB.out HB.out.size HO.out hgrow)
            clear hown hgrow
            go_wp2_with fail
            refine (lower_any (bs (B ++ [0])) _ HSZ.out).mono ?_; rintro e w3 ⟨rfl, hb⟩
            have HB3 := Lib.hid (HB2.out.trans (hb.mono HB2.out.size))
            clear hb
            go_wp2
            go_ret3
            exact ⟨HFIN.out (A + 1) HM2.out _ rfl, HB3.out⟩
          · have e3 := eF (a := (nx : Int)) (b := 0) (by omega)
            have HM2 := Lib.hid (show nx = m by rw [← HMM.out, if_neg g3])
            clear g1 g3 hA1 hH1 hnx hBl
            go_wp2_with (at_builtin; refine append_cellsK rfl _ _ 22 5 rfl i0 _ 1 1 Try.underlying22 HI.out HZ0.out HZ1.out HZ2.out rfl (by decide) w.heap.size _ L _ rfl (own_below' HO.out HAL.out) (some ⟨wr.heap.size, 0, none⟩) 1 1 (bc [0]) rfl (fun h => by cases h) (cells_lit wr #[.int .u8 0] _) (bc_oneCell [0]) (by have := HLB.out; omega) (by decide) HBS.out ?_)
            intro v2 w2 hown hgrow
            rw [← bc_append] at hown
            obtain ⟨a2, cp2, rfl, -⟩ := cellsK_own hown
            have hcv := conv_own hown
            have HB2 := Lib.hid (below_append HB.out HB.out.size HO.out hgrow)
            clear hown hgrow
            go_wp2_with fail
            refine (lower_any (bs (B ++ [0])) _ HSZ.out).mono ?_; rintro e w3 ⟨rfl, hb⟩
            have HB3 := Lib.hid (HB2.out.trans (hb.mono HB2.out.size))
            clear hb
            go_wp2
            go_ret3
            exact ⟨HFIN.out nx HM2.out _ rfl, HB3.out⟩
      · have e0 : ((c : Int) != 0) = true := nT (by omega)
        have d2 := dF (p := (s.size : Int) ≤ (A : Int)) (by omega)
        by_cases c63 : c ≤ 63
        · have d6 := dT (p := (c : Int) ≤ 63) (by omega)
          by_cases g4 : s.size < A + 1 + c ∨ 255 < L
          · have HRN := Lib.hid (show R = none by rw [← HG.out]; exact nmG_brk g0 (by rw [HC.out]; exact c0) (by rw [HC.out]; exact c63) (by rw [HC.out, HL.out]; exact g4))
            by_cases g1 : 255 ≤ L
            · have d1 := dT (p := (255 : Int) ≤ (L : Int)) (by omega)
              by_cases g5 : s.size < A + 1 + c
              · have d5 := dT (p := (s.size : Int) < (A : Int) + 1 + (c : Int)) (by omega)
                clear g4 c0 c63 g1 g5
                go_wp2
                go_ret3
                exact ⟨HNM.out _ (Or.inr ⟨HRN.out, 4, by decide, rfl⟩), HB.out⟩
              · have d5 := dF (p := (s.size : Int) < (A : Int) + 1 + (c : Int)) (by omega)
                have d7 := dT (p := (255 : Int) < (L : Int)) (by omega)
                clear g4 c0 c63 g1 g5
                go_wp2
                go_ret3
                exact ⟨HNM.out _ (Or.inr ⟨HRN.out, 4, by decide, rfl⟩), HB.out⟩
            · have d1 := dF (p := (255 : Int) ≤ (L : Int)) (by omega)
              have d5 := dT (p := (s.size : Int) < (A : Int) + 1 + (c : Int)) (by omega)
              clear g4 c0 c63 g1
              go_wp2
              go_ret3
              exact ⟨HNM.out _ (Or.inr ⟨HRN.out, 2, by decide, rfl⟩), HB.out⟩
          · have d5 := dF (p := (s.size : Int) < (A : Int) + 1 + (c : Int)) (by omega)
            have d7 := dF (p := (255 : Int) < (L : Int)) (by omega)
            have hE : A + 1 + c ≤ s.size := by omega
            have HRN := Lib.hid (show nmG s (A + 1 + c) H (B ++ (s.extract A (A + 1 + c)).data.toList) nx = R by rw [← HG.out, ← HC.out]; exact (nmG_lab g0 (by rw [HC.out]; exact c0) (by rw [HC.out]; exact c63) (by rw [HC.out, HL.out]; exact g4)).symm)
            have HTS := Lib.hid (show (s.extract A (A + 1 + c)).size = 1 + c by rw [extract_size _ _ _ hE]; omega)
            have HEB := Lib.hid (show c ≤ 63 ∧ L ≤ 255 by omega)
            have HEX := Lib.hid (show H ≤ s.size ∧ nx ≤ s.size ∧ s.size ≤ 20000 ∧ A + 1 + c ≤ s.size from ⟨hH1, hnx, hs, hE⟩)
            have HBS := Lib.hid HB.out.size
            clear g4 c0 c63 hH1 hnx hBl
            go_wp2_with (at_builtin; refine Lib.wpList_append_own_string _ rfl _ _ 22 9 rfl w.heap.size 5 i0 Try.underlying22 Try.underlying9 HI.out HZ0.out HZ1.out HZ2.out _ L _ rfl HO.out (s.extract A (A + 1 + c)) rfl ?c1 ?c2 ?c3 ?_)
            case c1 => have := HTS.out; have := HEB.out; unfold maxLen; omega
            case c2 => have := HTS.out; have := HEB.out; omega
            case c3 => exact HBS.out
            intro v2 w2 hown hgrow _
            rw [strCells_bc, ← bc_append] at hown
            have HO2 := Lib.hid hown
            have HB2 := Lib.hid (HB.out.grown hgrow HB.out.size (fun k hk => (HO.out.lt k hk).1))
            clear hown hgrow
            go_wp2
            go_roundw
            case rel => exact ⟨A + 1 + c, H, nx, _, HEX.out.2.2.2, HEX.out.1, HEX.out.2.1, by rw [List.length_append, HL.out, size_data, HTS.out]; have := HEB.out; omega, by go_num, rfl, rfl, Lib.hid (by rw [List.length_append, HL.out, size_data, extract_size _ _ _ HEX.out.2.2.2]; exact HO2.out), HB2, HRN⟩
            case measure =>
              simp only [intOf]
              generalize ((H : Int).toNat) * (s.size + 2) = z
              have := HEX.out
              omega
        · have d6 := dF (p := (c : Int) ≤ 63) (by omega)
          by_cases g4 : s.size < A + 2
          · have HRN := Lib.hid (show R = none by rw [← HG.out]; exact nmG_short g0 (by rw [HC.out]; exact c63) g4)
            have HGE := Lib.hid (show getE s A 2 = 2 by simp only [getE]; rw [if_pos ⟨by omega, by omega, by omega, by omega⟩, if_neg (by omega)])
            have HSZ := Lib.hid (show s.size ≤ 9223372036854775807 by omega)
            clear c0 c63 g4
            go_wp2_with fail
            refine (nget_any s A 2 _ HSZ.out).mono ?_; rintro e w3 ⟨rfl, rfl⟩
            rw [HGE.out]
            go_wp2
            go_ret3
            exact ⟨HNM.out _ (Or.inr ⟨HRN.out, 2, by decide, rfl⟩), HB.out⟩
          · have HGY := Lib.hid (fun wx => get_yes s A 2 wx (by decide) (by decide) (by omega) (by omega))
            have hbd := getTo_bd s A 2
            have HGF := Lib.hid (fun hp => nmG_far (B := B) (nx := nx) (H := H) g0 (by rw [HC.out]; exact c63) g4 hp)
            have HGG := Lib.hid (fun hp => nmG_go (B := B) (nx := nx) (H := H) g0 (by rw [HC.out]; exact c63) g4 hp)
            obtain ⟨G, hG⟩ : ∃ x, getTo s A 2 = x := ⟨_, rfl⟩
            rw [hG] at HGY HGF HGG hbd
            have hb1 : 0 ≤ G := hbd.1
            have hb2 : G < 65536 := by have := hbd.2; omega
            clear hG hbd c0 c63
            by_cases g5 : G < 49152
            · have HRN := Lib.hid (show R = none by rw [← HG.out]; exact HGF.out (by omega))
              have d8 := dT (p := G - 49152 < 0) (by omega)
              clear g4 g5
              go_wp2_with fail
              refine (HGY.out _).mono ?_; rintro e w3 ⟨rfl, rfl⟩
              go_wp2
              go_ret3
              exact ⟨HNM.out _ (Or.inr ⟨HRN.out, 4, by decide, rfl⟩), HB.out⟩
            · have d8 := dF (p := G - 49152 < 0) (by omega)
              obtain ⟨P, hP⟩ : ∃ P : Nat, (G - 49152).toNat = P := ⟨_, rfl⟩
              have hGP : G - 49152 = (P : Int) := by omega
              rw [hP] at HGF HGG
              rw [hGP] at d8
              have HGP := Lib.hid hGP
              have hwp : IntKind.i64.wrap (G - 49152) = (P : Int) := by rw [hGP, IntKind.wrap_i64]; omega
              by_cases g6 : P < H
              · have d9 := dF (p := H ≤ P) (by omega)
                have HRN := Lib.hid (show nmG s P P B (if nx = 0 then A + 2 else nx) = R by rw [← HG.out]; exact (HGG.out ⟨g6, by omega⟩).symm)
                have HEX := Lib.hid (show P ≤ s.size ∧ nx ≤ s.size ∧ A + 2 ≤ s.size ∧ L ≤ 400 ∧ P < H by omega)
                clear g4 g5 g6 hP hGP
                have HMS := Lib.hid (show P * (s.size + 2) + (s.size + 1 - P) < H * (s.size + 2) from by
                  have h1 : (P + 1) * (s.size + 2) ≤ H * (s.size + 2) := Nat.mul_le_mul_right _ HEX.out.2.2.2.2
                  rw [Nat.add_mul, Nat.one_mul] at h1
                  omega)
                by_cases g7 : nx = 0
                · have e3 := eT (a := (nx : Int)) (b := 0) (by omega)
                  have HRM := Lib.hid (show nmG s P P B (A + 2) = R by rw [← HRN.out, if_pos g7])
                  clear g7
                  go_wp2_with fail
                  refine (HGY.out _).mono ?_; rintro e w3 ⟨rfl, rfl⟩
                  go_wp2
                  go_roundw
                  case rel => exact ⟨P, P, A + 2, B, HEX.out.1, HEX.out.1, HEX.out.2.2.1, by rw [HL.out]; exact HEX.out.2.2.2.1, rfl, by go_num, rfl, Lib.hid (by rw [HL.out]; exact HO.out), HB, HRM⟩
                  case measure =>
                    simp only [intOf, Int.toNat_natCast]
                    exact Nat.lt_of_lt_of_le HMS.out (Nat.le_add_right _ _)
                · have e3 := eF (a := (nx : Int)) (b := 0) (by omega)
                  have HRM := Lib.hid (show nmG s P P B nx = R by rw [← HRN.out, if_neg g7])
                  clear g7
                  go_wp2_with fail
                  refine (HGY.out _).mono ?_; rintro e w3 ⟨rfl, rfl⟩
                  go_wp2
                  go_roundw
                  case rel => exact ⟨P, P, nx, B, HEX.out.1, HEX.out.1, HEX.out.2.1, by rw [HL.out]; exact HEX.out.2.2.2.1, rfl, rfl, rfl, Lib.hid (by rw [HL.out]; exact HO.out), HB, HRM⟩
                  case measure =>
                    simp only [intOf, Int.toNat_natCast]
                    exact Nat.lt_of_lt_of_le HMS.out (Nat.le_add_right _ _)
              · have d9 := dT (p := H ≤ P) (by omega)
                have HRN := Lib.hid (show R = none by rw [← HG.out]; exact HGF.out (fun h => g6 h.1))
                clear g4 g5 g6 hP hGP
                go_wp2_with fail
                refine (HGY.out _).mono ?_; rintro e w3 ⟨rfl, rfl⟩
                go_wp2
                go_ret3
                exact ⟨HNM.out _ (Or.inr ⟨HRN.out, 4, by decide, rfl⟩), HB.out⟩
    · have d0 := dF (p := (A : Int) < (s.size : Int)) (by omega)
      have d2 := dT (p := (s.size : Int) ≤ (A : Int)) (by omega)
      have HRN := Lib.hid (show R = none by rw [← HG.out]; exact nmG_out g0)
      by_cases g1 : 255 ≤ L
      · have d1 := dT (p := (255 : Int) ≤ (L : Int)) (by omega)
        clear g1
        go_wp2
        go_ret3
        exact ⟨HNM.out _ (Or.inr ⟨HRN.out, 4, by decide, rfl⟩), HB.out⟩
      · have d1 := dF (p := (255 : Int) ≤ (L : Int)) (by omega)
        clear g1
        go_wp2
        go_ret3
        exact ⟨HNM.out _ (Or.inr ⟨HRN.out, 2, by decide, rfl⟩), HB.out⟩
end Go.Proofs.Ytgppkpdjpcegbaa
end

section
namespace Go.Proofs.Ytgppkpdjpcegbaa
open Go.RowKit

theorem low1_small {b : UInt8} (h : b.toNat < 65) : low1 b = b := low1_no (by simp [great]; omega)
theorem low_txt (L : List ByteArray) : ∀ k, k ≤ L.length → (∀ j, j < k → (tx L j).size ≤ 63) → (txtTo L k).map low1 = txtTo (L.map lowS) k := by
  intro k
  induction k with
  | zero => intro _ _; rfl
  | succ k ih =>
    intro hk h
    have e : tx (L.map lowS) k = lowS (tx L k) := by
      rw [tx, tx, List.getD_eq_getElem?_getD, List.getD_eq_getElem?_getD, List.getElem?_map, List.getElem?_eq_getElem (by omega)]
      rfl
    have h2 := h k (by omega)
    rw [txtTo, txtTo, List.map_append, ih (by omega) (fun j hj => h j (by omega)), e, List.map_cons, lowS_size, low1_small]
    · rfl
    · rw [UInt8.toNat_ofNat_of_lt' (by have : UInt8.size = 256 := rfl; omega)]; omega
theorem low_name {L : List ByteArray} (h : ∀ j, j < L.length → (tx L j).size ≤ 63) : lowS (nameB L) = nameB (L.map lowS) := by
  have h1 := low_txt L L.length (Nat.le_refl _) h
  have h2 : ((nameB L).data.toList).map low1 = nameL (L.map lowS) := by
    show (nameL L).map low1 = _
    rw [nameL, nameL, List.map_append, h1, List.length_map]
    rfl
  rw [lowS, h2]
  rfl
theorem great_low (b : UInt8) : great (low1 b).toNat = false := by
  cases h : great b.toNat
  · rw [low1_no h]; exact h
  · have h2 := low1_yes h
    simp only [great, decide_eq_true_eq] at h
    rw [h2]
    simp [great]; omega
theorem anyG_low (s : ByteArray) : ∀ k, anyG (lowS s) 0 k = false := by
  intro k
  induction k with
  | zero => rfl
  | succ k ih =>
    rw [anyG, ih, Bool.false_or, Nat.zero_add]
    by_cases hk : k < s.size
    · have hk' : k < s.data.toList.length := by rw [size_data]; exact hk
      have : byteAt (lowS s) k = (low1 (s.data.toList[k])).toNat := by
        rw [lowS, byteAt_bs, List.getD_eq_getElem?_getD, List.getElem?_map, List.getElem?_eq_getElem hk']
        rfl
      rw [this]; exact great_low _
    · have : byteAt (lowS s) k = 0 := by
        rw [lowS, byteAt_bs, List.getD_eq_getElem?_getD, List.getElem?_eq_none (by rw [List.length_map, size_data]; omega)]
        rfl
      rw [this]; rfl
theorem low_ok {L : List ByteArray} (h : ∀ j, j < L.length → 1 ≤ (tx L j).size ∧ (tx L j).size ≤ 63) : OkL (L.map lowS) := by
  intro k hk
  rw [List.length_map] at hk
  have e : tx (L.map lowS) k = lowS (tx L k) := by
    rw [tx, tx, List.getD_eq_getElem?_getD, List.getD_eq_getElem?_getD, List.getElem?_map, List.getElem?_eq_getElem hk]
    rfl
  have h2 := h k hk
  rw [e, lowS_size]
  exact ⟨h2.1, h2.2, anyG_low _ _⟩
/-- Letters that are labels, one behind the other. -/
def LabB (B : List UInt8) : Prop := ∃ L : List ByteArray, B = txtTo L L.length ∧ ∀ j, j < L.length → 1 ≤ (tx L j).size ∧ (tx L j).size ≤ 63
theorem LabB.nil : LabB [] := ⟨[], rfl, fun j hj => by simp at hj⟩
theorem txtTo_snoc (L : List ByteArray) (t : ByteArray) : txtTo (L ++ [t]) (L ++ [t]).length = txtTo L L.length ++ (UInt8.ofNat t.size :: t.data.toList) := by
  induction L with
  | nil => rw [List.nil_append, List.length_cons, txtTo_cons]; simp [txtTo]
  | cons s L ih => rw [List.cons_append, List.length_cons, txtTo_cons, ih, List.length_cons, txtTo_cons]; simp
theorem LabB.snoc {B : List UInt8} (h : LabB B) {t : ByteArray} (h1 : 1 ≤ t.size ∧ t.size ≤ 63) : LabB (B ++ (UInt8.ofNat t.size :: t.data.toList)) := by
  obtain ⟨L, rfl, hL⟩ := h
  refine ⟨L ++ [t], (txtTo_snoc L t).symm, fun j hj => ?_⟩
  rw [List.length_append, List.length_singleton] at hj
  by_cases e : j < L.length
  · rw [show tx (L ++ [t]) j = tx L j by rw [tx, tx, List.getD_eq_getElem?_getD, List.getD_eq_getElem?_getD, List.getElem?_append_left e]]
    exact hL j e
  · rw [show tx (L ++ [t]) j = t by rw [tx, List.getD_eq_getElem?_getD, List.getElem?_append_right (by omega), show j - L.length = 0 by omega]; rfl]
    exact h1
/-- A label as it stands in a text. -/
theorem LabB.step {B : List UInt8} (h : LabB B) {s : ByteArray} {A c : Nat} (hc : byteAt s A = c) (h1 : 1 ≤ c ∧ c ≤ 63) (hE : A + 1 + c ≤ s.size) : LabB (B ++ (s.extract A (A + 1 + c)).data.toList) := by
  have hl : A < s.data.toList.length := by rw [size_data]; omega
  have e1 : (s.extract (A + 1) (A + 1 + c)).size = c := by rw [extract_size _ _ _ hE]; omega
  have e2 : (s.extract A (A + 1 + c)).data.toList = UInt8.ofNat (s.extract (A + 1) (A + 1 + c)).size :: (s.extract (A + 1) (A + 1 + c)).data.toList := by
    rw [e1, extract_toList, extract_toList, show A + 1 + c - A = c + 1 by omega, show A + 1 + c - (A + 1) = c by omega, List.drop_eq_getElem_cons hl, List.take_succ_cons]
    congr 1
    rw [← hc, byteAt, List.getD_eq_getElem?_getD, List.getElem?_eq_getElem hl]
    simp
  rw [e2]
  exact h.snoc (by rw [e1]; exact h1)
theorem LabB.name {B : List UInt8} (h : LabB B) : ∃ L : List ByteArray, bs (B ++ [0]) = nameB L ∧ (∀ j, j < L.length → 1 ≤ (tx L j).size ∧ (tx L j).size ≤ 63) ∧ B.length = off L L.length := by
  obtain ⟨L, rfl, hL⟩ := h
  exact ⟨L, rfl, hL, rfl⟩
/-- Labels, written small, are a name. -/
theorem LabB.may {B : List UInt8} (h : LabB B) (hz : B.length ≤ 254) : mayN (lowS (bs (B ++ [0]))) = true := by
  obtain ⟨L, e, hL, ho⟩ := h.name
  rw [e, low_name (fun j hj => (hL j hj).2)]
  refine labels_may (low_ok hL) ?_
  have h1 := nameB_size (L.map lowS)
  have h2 := nameB_size L
  rw [← low_name (fun j hj => (hL j hj).2), lowS_size, h2] at h1
  omega
theorem may_256 {s : ByteArray} (h : 256 ≤ s.size) : mayN s = false := by
  rw [mayN]
  have : decide (1 ≤ s.size ∧ s.size ≤ 255) = false := by simp; omega
  rw [this]; rfl
end Go.Proofs.Ytgppkpdjpcegbaa
end

section
namespace Go.Proofs.Ytgppkpdjpcegbaa
open Go.RowKit

theorem below_grown {w w' : World} (h : Below w.heap.size w w') (row : Option Nat) : w.grownBy w' row := ⟨h.os, h.tape, h.output, h.size, fun k hk _ => h.block k hk⟩
/-- The reader's struct. -/
def RdS (w : World) (q : Nat) (s : ByteArray) (a : Nat) (e : Int) : Prop := CN w q [.string s, .int .i64 (a : Int), .int .i64 e] ∧ TB w q 73
theorem RdS.below {w w' : World} {q : Nat} {s : ByteArray} {a : Nat} {e : Int} (h : RdS w q s a e) (hb : Below w.heap.size w w') : RdS w' q s a e := ⟨h.1.below hb, h.2.below hb⟩
theorem RdS.drew {w : World} {q : Nat} {s : ByteArray} {a : Nat} {e : Int} (h : RdS w q s a e) : RdS w.drew q s a e := h.below (Below.refl _ _).drew
theorem RdS.at {w : World} {q : Nat} {s : ByteArray} {a : Nat} {e : Int} (h : RdS w q s a e) (b : Nat) : RdS (w.setCell ⟨q, 1, none⟩ (.int .i64 (b : Int))) q s b e := ⟨h.1.set 1 (by simp) _, h.2.set 1 _⟩
theorem RdS.er {w : World} {q : Nat} {s : ByteArray} {a : Nat} {e : Int} (h : RdS w q s a e) (x : Int) : RdS (w.setCell ⟨q, 2, none⟩ (.int .i64 x)) q s a x := ⟨h.1.set 2 (by simp) _, h.2.set 2 _⟩
theorem RdS.cells {w : World} {q : Nat} {s : ByteArray} {a : Nat} {e : Int} (h : RdS w q s a e) : w.cell? ⟨q, 0, none⟩ = some (.string s) ∧ w.cell? ⟨q, 1, none⟩ = some (.int .i64 (a : Int)) ∧ w.cell? ⟨q, 2, none⟩ = some (.int .i64 e) ∧ w.frozen? ⟨q, 1, none⟩ = false ∧ w.frozen? ⟨q, 2, none⟩ = false := ⟨(h.1.2 0 _ rfl).1, (h.1.2 1 _ rfl).1, (h.1.2 2 _ rfl).1, (h.1.2 1 _ rfl).2, (h.1.2 2 _ rfl).2⟩
/-- One step of the reader: what it tells, where it then is, whether it failed. -/
def Stp {α : Type} (s : ByteArray) (p : Option (α × Nat)) (e : Int) (v : α) (a' : Nat) (e' : Int) : Prop := a' ≤ s.size ∧ (e ≠ 0 → e' ≠ 0) ∧ (e = 0 → (∀ x b, p = some (x, b) → v = x ∧ a' = b ∧ e' = 0) ∧ (p = none → e' ≠ 0))
theorem Stp.yes {α : Type} {s : ByteArray} {p : Option (α × Nat)} {e : Int} {x : α} {b : Nat} (h : p = some (x, b)) (hb : b ≤ s.size) : Stp s p e x b e := ⟨hb, fun h => h, fun h0 => ⟨fun y c hy => by rw [h] at hy; injection hy with hy; injection hy with h1 h2; exact ⟨h1, h2, h0⟩, fun hn => by rw [h] at hn; cases hn⟩⟩
theorem Stp.no {α : Type} {s : ByteArray} {p : Option (α × Nat)} {e : Int} {v : α} {a : Nat} {x : Int} (h : e = 0 → p = none) (ha : a ≤ s.size) (hx : x ≠ 0) : Stp s p e v a (if e = 0 then x else e) := by
  by_cases h0 : e = 0
  · rw [if_pos h0]
    exact ⟨ha, fun _ => hx, fun _ => ⟨fun y c hy => by (rw [h h0] at hy; cases hy), fun _ => hx⟩⟩
  · rw [if_neg h0]
    exact ⟨ha, fun h => h, fun h => absurd h h0⟩
def numP (s : ByteArray) (wd a : Nat) : Option (Int × Nat) := if a + wd ≤ s.size then some (getTo s a wd, a + wd) else none
def takeP (s : ByteArray) (n a : Nat) : Option (ByteArray × Nat) := if a + n ≤ s.size then some (s.extract a (a + n), a + n) else none
def nameP (s : ByteArray) (a : Nat) : Option (ByteArray × Nat) := (nmG s a a [] 0).map fun x => (lowS (bs (x.1 ++ [0])), x.2)

set_option maxRecDepth 100000 in
set_option maxHeartbeats 4000000 in
theorem fail_any (q : Nat) (s : ByteArray) (a : Nat) (e x : Int) (w : World) (h : RdS w q s a e) :
    Calls Try.prog 47 #[.pointer (some ⟨q, 0, none⟩), .int .i64 x] w fun en w' => en = .returned (.tuple #[]) ∧ RdS w' q s a (if e = 0 then x else e) ∧ w.grownBy w' (some q) := by
  obtain ⟨c0, c1, c2, f1, f2⟩ := h.cells
  have HR := Lib.hid h
  clear h
  by_cases h0 : e = 0
  · have e1 := eT h0
    rw [if_pos h0]
    clear h0
    go_enter Try.func47, Try.ntmps47
    go_wp2
    go_end0
    exact ⟨rfl, HR.out.er x, grown_cell _ _ _ _⟩
  · have e1 := eF h0
    rw [if_neg h0]
    clear h0
    go_enter Try.func47, Try.ntmps47
    go_wp2
    go_end0
    exact ⟨rfl, HR.out, World.grownBy.refl _ _⟩

set_option maxRecDepth 100000 in
set_option maxHeartbeats 4000000 in
theorem number_any (q : Nat) (s : ByteArray) (a wd : Nat) (e : Int) (w : World) (h : RdS w q s a e) (ha : a ≤ s.size) (hs : s.size ≤ 20000) (hw : 1 ≤ wd ∧ wd ≤ 4) :
    Calls Try.prog 46 #[.pointer (some ⟨q, 0, none⟩), .int .i64 (wd : Int)] w fun en w' => ∃ v a' e', en = .returned (.int .i64 v) ∧ (0 ≤ v ∧ v < 256 ^ wd) ∧ RdS w' q s a' e' ∧ w.grownBy w' (some q) ∧ Stp s (numP s wd a) e v a' e' := by
  have HR := Lib.hid h
  clear h
  by_cases g : a + wd ≤ s.size
  · have HP := Lib.hid (show numP s wd a = some (getTo s a wd, a + wd) from if_pos g)
    have HG := Lib.hid (fun wx => get_yes s a wd wx hw.1 (by omega) g (by omega))
    have HLE := Lib.hid g
    have HBD := Lib.hid (getTo_bd s a wd)
    obtain ⟨G, hG⟩ : ∃ x, getTo s a wd = x := ⟨_, rfl⟩
    rw [hG] at HP HG HBD
    clear hG
    go_enter Try.func46, Try.ntmps46
    go_wp2_with fail
    refine wp_region_held_drew (S := (fun wx => RdS wx q s a e ∧ w.grownBy wx (some q))) (by kernel_rfl) (⟨HR.out.drew, grown_drew (World.grownBy.refl _ _)⟩) (fun hHeld => ?_)
    obtain ⟨wz, hwd⟩ : ∃ x, w.drew = x := ⟨_, rfl⟩
    rw [hwd] at hHeld ⊢
    clear hwd
    refine wpAnyH_take (i := 0) (oi := { dst := some 8, op := Go.Op.move (Go.Operand.tmp 0), type := 71, pos := "decode.go:61", after := #[], guard := none }) (v := ?v0_220101) rfl (by kernel_rfl) (by kernel_rfl) (by kernel_rfl) (fun _ _ _ h => h) (Or.inl ⟨by rfl, ?y0_220101⟩) hHeld ?r0_220101
    case y0_220101 => intro w hSw; (try dsimp only at hSw); go_simp; try with_reducible rfl
    try simp only [Act.put, List.setIfInBounds_toArray, List.set_cons_zero, List.set_cons_succ]
    refine wpAnyH_take (i := 1) (oi := { dst := some 9, op := Go.Op.nilCheck (Go.Operand.tmp 8), type := 0, pos := "decode.go:61", after := #[{ on := 0, ground := Go.Ground.data }], guard := none }) (v := ?v1_220101) rfl (by kernel_rfl) (by kernel_rfl) (by kernel_rfl) (fun _ _ _ h => h) (Or.inl ⟨by rfl, ?y1_220101⟩) hHeld ?r1_220101
    case y1_220101 => intro w hSw; (try dsimp only at hSw); go_simp; try with_reducible rfl
    try simp only [Act.put, List.setIfInBounds_toArray, List.set_cons_zero, List.set_cons_succ]
    refine wpAnyH_take (i := 2) (oi := { dst := some 10, op := Go.Op.fieldAddr 73 (Go.Operand.tmp 9) 0, type := 0, pos := "decode.go:61", after := #[{ on := 1, ground := Go.Ground.data }], guard := none }) (v := ?v2_220101) rfl (by kernel_rfl) (by kernel_rfl) (by kernel_rfl) (fun _ _ _ h => h) (Or.inl ⟨by rfl, ?y2_220101⟩) hHeld ?r2_220101
    case y2_220101 => intro w hSw; (try dsimp only at hSw); go_simp; try with_reducible rfl
    try simp only [Act.put, List.setIfInBounds_toArray, List.set_cons_zero, List.set_cons_succ]
    refine wpAnyH_take (i := 3) (oi := { dst := some 11, op := Go.Op.load 9 (Go.Operand.tmp 10), type := 9, pos := "decode.go:61", after := #[{ on := 2, ground := Go.Ground.data }], guard := none }) (v := ?v3_220101) rfl (by kernel_rfl) (by kernel_rfl) (by kernel_rfl) (fun _ _ _ h => h) (Or.inl ⟨by rfl, ?y3_220101⟩) hHeld ?r3_220101
    case y3_220101 => intro w hSw; (try dsimp only at hSw); obtain ⟨c0, c1, c2, f1, f2⟩ := hSw.1.cells; go_simp; try with_reducible rfl
    try simp only [Act.put, List.setIfInBounds_toArray, List.set_cons_zero, List.set_cons_succ]
    refine wpAnyH_take (i := 4) (oi := { dst := some 12, op := Go.Op.move (Go.Operand.tmp 0), type := 71, pos := "decode.go:61", after := #[], guard := none }) (v := ?v4_220101) rfl (by kernel_rfl) (by kernel_rfl) (by kernel_rfl) (fun _ _ _ h => h) (Or.inl ⟨by rfl, ?y4_220101⟩) hHeld ?r4_220101
    case y4_220101 => intro w hSw; (try dsimp only at hSw); go_simp; try with_reducible rfl
    try simp only [Act.put, List.setIfInBounds_toArray, List.set_cons_zero, List.set_cons_succ]
    refine wpAnyH_take (i := 5) (oi := { dst := some 13, op := Go.Op.nilCheck (Go.Operand.tmp 12), type := 0, pos := "decode.go:61", after := #[{ on := 4, ground := Go.Ground.data }], guard := none }) (v := ?v5_220101) rfl (by kernel_rfl) (by kernel_rfl) (by kernel_rfl) (fun _ _ _ h => h) (Or.inl ⟨by rfl, ?y5_220101⟩) hHeld ?r5_220101
    case y5_220101 => intro w hSw; (try dsimp only at hSw); go_simp; try with_reducible rfl
    try simp only [Act.put, List.setIfInBounds_toArray, List.set_cons_zero, List.set_cons_succ]
    refine wpAnyH_take (i := 6) (oi := { dst := some 14, op := Go.Op.fieldAddr 73 (Go.Operand.tmp 13) 1, type := 0, pos := "decode.go:61", after := #[{ on := 5, ground := Go.Ground.data }], guard := none }) (v := ?v6_220101) rfl (by kernel_rfl) (by kernel_rfl) (by kernel_rfl) (fun _ _ _ h => h) (Or.inl ⟨by rfl, ?y6_220101⟩) hHeld ?r6_220101
    case y6_220101 => intro w hSw; (try dsimp only at hSw); go_simp; try with_reducible rfl
    try simp only [Act.put, List.setIfInBounds_toArray, List.set_cons_zero, List.set_cons_succ]
    refine wpAnyH_take (i := 7) (oi := { dst := some 15, op := Go.Op.load 3 (Go.Operand.tmp 14), type := 3, pos := "decode.go:61", after := #[{ on := 6, ground := Go.Ground.data }], guard := none }) (v := ?v7_220101) rfl (by kernel_rfl) (by kernel_rfl) (by kernel_rfl) (fun _ _ _ h => h) (Or.inl ⟨by rfl, ?y7_220101⟩) hHeld ?r7_220101
    case y7_220101 => intro w hSw; (try dsimp only at hSw); obtain ⟨c0, c1, c2, f1, f2⟩ := hSw.1.cells; go_simp; try with_reducible rfl
    try simp only [Act.put, List.setIfInBounds_toArray, List.set_cons_zero, List.set_cons_succ]
    refine wpAnyH_take (i := 8) (oi := { dst := some 16, op := Go.Op.move (Go.Operand.tmp 1), type := 3, pos := "decode.go:61", after := #[], guard := none }) (v := ?v8_220101) rfl (by kernel_rfl) (by kernel_rfl) (by kernel_rfl) (fun _ _ _ h => h) (Or.inl ⟨by rfl, ?y8_220101⟩) hHeld ?r8_220101
    case y8_220101 => intro w hSw; (try dsimp only at hSw); go_simp; try with_reducible rfl
    try simp only [Act.put, List.setIfInBounds_toArray, List.set_cons_zero, List.set_cons_succ]
    refine wpAnyH_ready (rs := [9]) (by kernel_rfl) (by simp) ?_
    refine AllReadyH.cons (o := { dst := some 17, op := Go.Op.call { callee := Go.Callee.value (Go.Operand.func 43), args := #[Go.Operand.tmp 11, Go.Operand.tmp 15, Go.Operand.tmp 16], argTypes := #[9, 3, 3] }, type := 86, pos := "decode.go:61", after := #[{ on := 3, ground := Go.Ground.data }, { on := 7, ground := Go.Ground.data }, { on := 8, ground := Go.Ground.data }], guard := none }) rfl (fun K hK => ?_) AllReadyH.nil
    go_simp
    refine (HG.out _).mono ?_; rintro en w3 ⟨rfl, rfl⟩
    go_wp2_with fail
    refine hK.out _ _ (hHeld) (fun hHeld2 => ?_)
    clear hK K hHeld
    have hHeld := hHeld2
    clear hHeld2
    try simp only [Act.put, List.setIfInBounds_toArray, List.set_cons_zero, List.set_cons_succ]
    refine wpAnyH_take (i := 10) (oi := { dst := some 7, op := Go.Op.move (Go.Operand.tmp 17), type := 86, pos := "decode.go:61", after := #[{ on := 9, ground := Go.Ground.data }], guard := none }) (v := ?v10_220102) rfl (by kernel_rfl) (by kernel_rfl) (by kernel_rfl) (fun _ _ _ h => h) (Or.inl ⟨by rfl, ?y10_220102⟩) hHeld ?r10_220102
    case y10_220102 => intro w hSw; (try dsimp only at hSw); go_simp; try with_reducible rfl
    try simp only [Act.put, List.setIfInBounds_toArray, List.set_cons_zero, List.set_cons_succ]
    refine wpAnyH_take (i := 11) (oi := { dst := some 18, op := Go.Op.extract (Go.Operand.tmp 7) 0, type := 3, pos := "decode.go:61", after := #[{ on := 10, ground := Go.Ground.data }], guard := none }) (v := ?v11_220102) rfl (by kernel_rfl) (by kernel_rfl) (by kernel_rfl) (fun _ _ _ h => h) (Or.inl ⟨by rfl, ?y11_220102⟩) hHeld ?r11_220102
    case y11_220102 => intro w hSw; (try dsimp only at hSw); go_simp; try with_reducible rfl
    try simp only [Act.put, List.setIfInBounds_toArray, List.set_cons_zero, List.set_cons_succ]
    refine wpAnyH_take (i := 12) (oi := { dst := some 19, op := Go.Op.extract (Go.Operand.tmp 7) 1, type := 38, pos := "decode.go:61", after := #[{ on := 10, ground := Go.Ground.data }, { on := 13, ground := Go.Ground.gcOnly Go.Departure.lateStores }], guard := none }) (v := ?v12_220102) rfl (by kernel_rfl) (by kernel_rfl) (by kernel_rfl) (fun _ _ _ h => h) (Or.inl ⟨by rfl, ?y12_220102⟩) hHeld ?r12_220102
    case y12_220102 => intro w hSw; (try dsimp only at hSw); go_simp; try with_reducible rfl
    try simp only [Act.put, List.setIfInBounds_toArray, List.set_cons_zero, List.set_cons_succ]
    refine wpAnyH_take (i := 13) (oi := { dst := some 5, op := Go.Op.assign (Go.Operand.tmp 18), type := 3, pos := "decode.go:61", after := #[{ on := 11, ground := Go.Ground.data }, { on := 9, ground := Go.Ground.chain }, { on := 0, ground := Go.Ground.phase }, { on := 1, ground := Go.Ground.phase }, { on := 2, ground := Go.Ground.phase }, { on := 3, ground := Go.Ground.phase }, { on := 4, ground := Go.Ground.phase }, { on := 5, ground := Go.Ground.phase }, { on := 6, ground := Go.Ground.phase }, { on := 7, ground := Go.Ground.phase }, { on := 8, ground := Go.Ground.phase }, { on := 9, ground := Go.Ground.phase }, { on := 10, ground := Go.Ground.phase }, { on := 11, ground := Go.Ground.phase }, { on := 12, ground := Go.Ground.textOnly Go.Departure.lateStores }], guard := none }) (v := ?v13_220102) rfl (by kernel_rfl) (by kernel_rfl) (by kernel_rfl) (fun _ _ _ h => h) (Or.inl ⟨by rfl, ?y13_220102⟩) hHeld ?r13_220102
    case y13_220102 => intro w hSw; (try dsimp only at hSw); go_simp; try with_reducible rfl
    try simp only [Act.put, List.setIfInBounds_toArray, List.set_cons_zero, List.set_cons_succ]
    refine wpAnyH_take (i := 14) (oi := { dst := some 6, op := Go.Op.assign (Go.Operand.tmp 19), type := 38, pos := "decode.go:61", after := #[{ on := 12, ground := Go.Ground.data }, { on := 13, ground := Go.Ground.chain }, { on := 0, ground := Go.Ground.phase }, { on := 1, ground := Go.Ground.phase }, { on := 2, ground := Go.Ground.phase }, { on := 3, ground := Go.Ground.phase }, { on := 4, ground := Go.Ground.phase }, { on := 5, ground := Go.Ground.phase }, { on := 6, ground := Go.Ground.phase }, { on := 7, ground := Go.Ground.phase }, { on := 8, ground := Go.Ground.phase }, { on := 9, ground := Go.Ground.phase }, { on := 10, ground := Go.Ground.phase }, { on := 11, ground := Go.Ground.phase }, { on := 12, ground := Go.Ground.phase }, { on := 13, ground := Go.Ground.phase }], guard := none }) (v := ?v14_220102) rfl (by kernel_rfl) (by kernel_rfl) (by kernel_rfl) (fun _ _ _ h => h) (Or.inl ⟨by rfl, ?y14_220102⟩) hHeld ?r14_220102
    case y14_220102 => intro w hSw; (try dsimp only at hSw); go_simp; try with_reducible rfl
    try simp only [Act.put, List.setIfInBounds_toArray, List.set_cons_zero, List.set_cons_succ]
    refine wpAnyH_done (by kernel_rfl) ?_ _
    obtain ⟨c0, c1, c2, f1, f2⟩ := hHeld.1.cells
    go_wp2
    go_ret
    rw [show (a : Int) + (wd : Int) = ((a + wd : Nat) : Int) from (Int.natCast_add _ _).symm]
    exact ⟨G, a + wd, e, rfl, HBD.out, hHeld.1.at (a + wd), hHeld.2.trans (grown_cell _ _ _ _), Stp.yes HP.out HLE.out⟩
  · have HP := Lib.hid (show numP s wd a = none from if_neg g)
    have HG := Lib.hid (fun wx => nget_any s (a : Int) (wd : Int) wx (by omega))
    rw [show getE s (a : Int) (wd : Int) = 2 by simp only [getE]; rw [if_pos ⟨by omega, by omega, by omega, by omega⟩, if_neg (by omega)]] at HG
    obtain ⟨G, hG⟩ : ∃ x, getN s (a : Int) (wd : Int) = x := ⟨_, rfl⟩
    rw [hG] at HG
    have HA := Lib.hid ha
    clear hG g
    go_enter Try.func46, Try.ntmps46
    go_wp2_with fail
    refine wp_region_held_drew (S := (fun wx => RdS wx q s a e ∧ w.grownBy wx (some q))) (by kernel_rfl) (⟨HR.out.drew, grown_drew (World.grownBy.refl _ _)⟩) (fun hHeld => ?_)
    obtain ⟨wz, hwd⟩ : ∃ x, w.drew = x := ⟨_, rfl⟩
    rw [hwd] at hHeld ⊢
    clear hwd
    refine wpAnyH_take (i := 0) (oi := { dst := some 8, op := Go.Op.move (Go.Operand.tmp 0), type := 71, pos := "decode.go:61", after := #[], guard := none }) (v := ?v0_221101) rfl (by kernel_rfl) (by kernel_rfl) (by kernel_rfl) (fun _ _ _ h => h) (Or.inl ⟨by rfl, ?y0_221101⟩) hHeld ?r0_221101
    case y0_221101 => intro w hSw; (try dsimp only at hSw); go_simp; try with_reducible rfl
    try simp only [Act.put, List.setIfInBounds_toArray, List.set_cons_zero, List.set_cons_succ]
    refine wpAnyH_take (i := 1) (oi := { dst := some 9, op := Go.Op.nilCheck (Go.Operand.tmp 8), type := 0, pos := "decode.go:61", after := #[{ on := 0, ground := Go.Ground.data }], guard := none }) (v := ?v1_221101) rfl (by kernel_rfl) (by kernel_rfl) (by kernel_rfl) (fun _ _ _ h => h) (Or.inl ⟨by rfl, ?y1_221101⟩) hHeld ?r1_221101
    case y1_221101 => intro w hSw; (try dsimp only at hSw); go_simp; try with_reducible rfl
    try simp only [Act.put, List.setIfInBounds_toArray, List.set_cons_zero, List.set_cons_succ]
    refine wpAnyH_take (i := 2) (oi := { dst := some 10, op := Go.Op.fieldAddr 73 (Go.Operand.tmp 9) 0, type := 0, pos := "decode.go:61", after := #[{ on := 1, ground := Go.Ground.data }], guard := none }) (v := ?v2_221101) rfl (by kernel_rfl) (by kernel_rfl) (by kernel_rfl) (fun _ _ _ h => h) (Or.inl ⟨by rfl, ?y2_221101⟩) hHeld ?r2_221101
    case y2_221101 => intro w hSw; (try dsimp only at hSw); go_simp; try with_reducible rfl
    try simp only [Act.put, List.setIfInBounds_toArray, List.set_cons_zero, List.set_cons_succ]
    refine wpAnyH_take (i := 3) (oi := { dst := some 11, op := Go.Op.load 9 (Go.Operand.tmp 10), type := 9, pos := "decode.go:61", after := #[{ on := 2, ground := Go.Ground.data }], guard := none }) (v := ?v3_221101) rfl (by kernel_rfl) (by kernel_rfl) (by kernel_rfl) (fun _ _ _ h => h) (Or.inl ⟨by rfl, ?y3_221101⟩) hHeld ?r3_221101
    case y3_221101 => intro w hSw; (try dsimp only at hSw); obtain ⟨c0, c1, c2, f1, f2⟩ := hSw.1.cells; go_simp; try with_reducible rfl
    try simp only [Act.put, List.setIfInBounds_toArray, List.set_cons_zero, List.set_cons_succ]
    refine wpAnyH_take (i := 4) (oi := { dst := some 12, op := Go.Op.move (Go.Operand.tmp 0), type := 71, pos := "decode.go:61", after := #[], guard := none }) (v := ?v4_221101) rfl (by kernel_rfl) (by kernel_rfl) (by kernel_rfl) (fun _ _ _ h => h) (Or.inl ⟨by rfl, ?y4_221101⟩) hHeld ?r4_221101
    case y4_221101 => intro w hSw; (try dsimp only at hSw); go_simp; try with_reducible rfl
    try simp only [Act.put, List.setIfInBounds_toArray, List.set_cons_zero, List.set_cons_succ]
    refine wpAnyH_take (i := 5) (oi := { dst := some 13, op := Go.Op.nilCheck (Go.Operand.tmp 12), type := 0, pos := "decode.go:61", after := #[{ on := 4, ground := Go.Ground.data }], guard := none }) (v := ?v5_221101) rfl (by kernel_rfl) (by kernel_rfl) (by kernel_rfl) (fun _ _ _ h => h) (Or.inl ⟨by rfl, ?y5_221101⟩) hHeld ?r5_221101
    case y5_221101 => intro w hSw; (try dsimp only at hSw); go_simp; try with_reducible rfl
    try simp only [Act.put, List.setIfInBounds_toArray, List.set_cons_zero, List.set_cons_succ]
    refine wpAnyH_take (i := 6) (oi := { dst := some 14, op := Go.Op.fieldAddr 73 (Go.Operand.tmp 13) 1, type := 0, pos := "decode.go:61", after := #[{ on := 5, ground := Go.Ground.data }], guard := none }) (v := ?v6_221101) rfl (by kernel_rfl) (by kernel_rfl) (by kernel_rfl) (fun _ _ _ h => h) (Or.inl ⟨by rfl, ?y6_221101⟩) hHeld ?r6_221101
    case y6_221101 => intro w hSw; (try dsimp only at hSw); go_simp; try with_reducible rfl
    try simp only [Act.put, List.setIfInBounds_toArray, List.set_cons_zero, List.set_cons_succ]
    refine wpAnyH_take (i := 7) (oi := { dst := some 15, op := Go.Op.load 3 (Go.Operand.tmp 14), type := 3, pos := "decode.go:61", after := #[{ on := 6, ground := Go.Ground.data }], guard := none }) (v := ?v7_221101) rfl (by kernel_rfl) (by kernel_rfl) (by kernel_rfl) (fun _ _ _ h => h) (Or.inl ⟨by rfl, ?y7_221101⟩) hHeld ?r7_221101
    case y7_221101 => intro w hSw; (try dsimp only at hSw); obtain ⟨c0, c1, c2, f1, f2⟩ := hSw.1.cells; go_simp; try with_reducible rfl
    try simp only [Act.put, List.setIfInBounds_toArray, List.set_cons_zero, List.set_cons_succ]
    refine wpAnyH_take (i := 8) (oi := { dst := some 16, op := Go.Op.move (Go.Operand.tmp 1), type := 3, pos := "decode.go:61", after := #[], guard := none }) (v := ?v8_221101) rfl (by kernel_rfl) (by kernel_rfl) (by kernel_rfl) (fun _ _ _ h => h) (Or.inl ⟨by rfl, ?y8_221101⟩) hHeld ?r8_221101
    case y8_221101 => intro w hSw; (try dsimp only at hSw); go_simp; try with_reducible rfl
    try simp only [Act.put, List.setIfInBounds_toArray, List.set_cons_zero, List.set_cons_succ]
    refine wpAnyH_ready (rs := [9]) (by kernel_rfl) (by simp) ?_
    refine AllReadyH.cons (o := { dst := some 17, op := Go.Op.call { callee := Go.Callee.value (Go.Operand.func 43), args := #[Go.Operand.tmp 11, Go.Operand.tmp 15, Go.Operand.tmp 16], argTypes := #[9, 3, 3] }, type := 86, pos := "decode.go:61", after := #[{ on := 3, ground := Go.Ground.data }, { on := 7, ground := Go.Ground.data }, { on := 8, ground := Go.Ground.data }], guard := none }) rfl (fun K hK => ?_) AllReadyH.nil
    go_simp
    refine (HG.out _).mono ?_; rintro en w3 ⟨rfl, rfl⟩
    go_wp2_with fail
    refine hK.out _ _ (hHeld) (fun hHeld2 => ?_)
    clear hK K hHeld
    have hHeld := hHeld2
    clear hHeld2
    try simp only [Act.put, List.setIfInBounds_toArray, List.set_cons_zero, List.set_cons_succ]
    refine wpAnyH_take (i := 10) (oi := { dst := some 7, op := Go.Op.move (Go.Operand.tmp 17), type := 86, pos := "decode.go:61", after := #[{ on := 9, ground := Go.Ground.data }], guard := none }) (v := ?v10_221102) rfl (by kernel_rfl) (by kernel_rfl) (by kernel_rfl) (fun _ _ _ h => h) (Or.inl ⟨by rfl, ?y10_221102⟩) hHeld ?r10_221102
    case y10_221102 => intro w hSw; (try dsimp only at hSw); go_simp; try with_reducible rfl
    try simp only [Act.put, List.setIfInBounds_toArray, List.set_cons_zero, List.set_cons_succ]
    refine wpAnyH_take (i := 11) (oi := { dst := some 18, op := Go.Op.extract (Go.Operand.tmp 7) 0, type := 3, pos := "decode.go:61", after := #[{ on := 10, ground := Go.Ground.data }], guard := none }) (v := ?v11_221102) rfl (by kernel_rfl) (by kernel_rfl) (by kernel_rfl) (fun _ _ _ h => h) (Or.inl ⟨by rfl, ?y11_221102⟩) hHeld ?r11_221102
    case y11_221102 => intro w hSw; (try dsimp only at hSw); go_simp; try with_reducible rfl
    try simp only [Act.put, List.setIfInBounds_toArray, List.set_cons_zero, List.set_cons_succ]
    refine wpAnyH_take (i := 12) (oi := { dst := some 19, op := Go.Op.extract (Go.Operand.tmp 7) 1, type := 38, pos := "decode.go:61", after := #[{ on := 10, ground := Go.Ground.data }, { on := 13, ground := Go.Ground.gcOnly Go.Departure.lateStores }], guard := none }) (v := ?v12_221102) rfl (by kernel_rfl) (by kernel_rfl) (by kernel_rfl) (fun _ _ _ h => h) (Or.inl ⟨by rfl, ?y12_221102⟩) hHeld ?r12_221102
    case y12_221102 => intro w hSw; (try dsimp only at hSw); go_simp; try with_reducible rfl
    try simp only [Act.put, List.setIfInBounds_toArray, List.set_cons_zero, List.set_cons_succ]
    refine wpAnyH_take (i := 13) (oi := { dst := some 5, op := Go.Op.assign (Go.Operand.tmp 18), type := 3, pos := "decode.go:61", after := #[{ on := 11, ground := Go.Ground.data }, { on := 9, ground := Go.Ground.chain }, { on := 0, ground := Go.Ground.phase }, { on := 1, ground := Go.Ground.phase }, { on := 2, ground := Go.Ground.phase }, { on := 3, ground := Go.Ground.phase }, { on := 4, ground := Go.Ground.phase }, { on := 5, ground := Go.Ground.phase }, { on := 6, ground := Go.Ground.phase }, { on := 7, ground := Go.Ground.phase }, { on := 8, ground := Go.Ground.phase }, { on := 9, ground := Go.Ground.phase }, { on := 10, ground := Go.Ground.phase }, { on := 11, ground := Go.Ground.phase }, { on := 12, ground := Go.Ground.textOnly Go.Departure.lateStores }], guard := none }) (v := ?v13_221102) rfl (by kernel_rfl) (by kernel_rfl) (by kernel_rfl) (fun _ _ _ h => h) (Or.inl ⟨by rfl, ?y13_221102⟩) hHeld ?r13_221102
    case y13_221102 => intro w hSw; (try dsimp only at hSw); go_simp; try with_reducible rfl
    try simp only [Act.put, List.setIfInBounds_toArray, List.set_cons_zero, List.set_cons_succ]
    refine wpAnyH_take (i := 14) (oi := { dst := some 6, op := Go.Op.assign (Go.Operand.tmp 19), type := 38, pos := "decode.go:61", after := #[{ on := 12, ground := Go.Ground.data }, { on := 13, ground := Go.Ground.chain }, { on := 0, ground := Go.Ground.phase }, { on := 1, ground := Go.Ground.phase }, { on := 2, ground := Go.Ground.phase }, { on := 3, ground := Go.Ground.phase }, { on := 4, ground := Go.Ground.phase }, { on := 5, ground := Go.Ground.phase }, { on := 6, ground := Go.Ground.phase }, { on := 7, ground := Go.Ground.phase }, { on := 8, ground := Go.Ground.phase }, { on := 9, ground := Go.Ground.phase }, { on := 10, ground := Go.Ground.phase }, { on := 11, ground := Go.Ground.phase }, { on := 12, ground := Go.Ground.phase }, { on := 13, ground := Go.Ground.phase }], guard := none }) (v := ?v14_221102) rfl (by kernel_rfl) (by kernel_rfl) (by kernel_rfl) (fun _ _ _ h => h) (Or.inl ⟨by rfl, ?y14_221102⟩) hHeld ?r14_221102
    case y14_221102 => intro w hSw; (try dsimp only at hSw); go_simp; try with_reducible rfl
    try simp only [Act.put, List.setIfInBounds_toArray, List.set_cons_zero, List.set_cons_succ]
    refine wpAnyH_done (by kernel_rfl) ?_ _
    go_wp2_with fail
    refine (fail_any q s a e 2 _ hHeld.1).mono ?_; rintro en w4 ⟨rfl, hr, hg⟩
    go_wp2
    go_ret
    exact ⟨0, a, _, rfl, ⟨Int.le_refl _, Int.pow_pos (by decide)⟩, hr, hHeld.2.trans hg, Stp.no (fun _ => HP.out) HA.out (by decide)⟩

theorem nmG_le (s : ByteArray) (A H : Nat) (B : List UInt8) (nx : Nat) : ∀ (C : List UInt8) (n : Nat), nx ≤ s.size → nmG s A H B nx = some (C, n) → n ≤ s.size ∧ C.length ≤ 254 := by
  induction A, H, B, nx using nmG.induct s with
  | case1 A H B nx h h0 hb => intro C n _ he; rw [nmG_long h h0 hb] at he; cases he
  | case2 A H B nx h h0 hb => intro C n hn he; rw [nmG_end h h0 hb] at he; injection he with he; injection he with h1 h2; subst h1 h2; refine ⟨?_, by omega⟩; split <;> omega
  | case3 A H B nx h h0 h63 hb => intro C n _ he; rw [nmG_brk h h0 h63 hb] at he; cases he
  | case4 A H B nx h h0 h63 hb ih => intro C n hn he; rw [nmG_lab h h0 h63 hb] at he; exact ih C n hn he
  | case5 A H B nx h h0 h63 hb => intro C n _ he; rw [nmG_short h h63 hb] at he; cases he
  | case6 A H B nx h h0 h63 hb hp ih => intro C n hn he; rw [nmG_go h h63 hb hp] at he; exact ih C n (by split <;> omega) he
  | case7 A H B nx h h0 h63 hb hp => intro C n _ he; rw [nmG_far h h63 hb hp] at he; cases he
  | case8 A H B nx h => intro C n _ he; rw [nmG_out h] at he; cases he
set_option maxRecDepth 100000 in
set_option maxHeartbeats 4000000 in
theorem name_r (q : Nat) (s : ByteArray) (a : Nat) (e : Int) (w : World) (h : RdS w q s a e) (ha : a ≤ s.size) (hs : s.size ≤ 20000) :
    Calls Try.prog 64 #[.pointer (some ⟨q, 0, none⟩)] w fun en w' => ∃ v a' e', en = .returned (.string v) ∧ v.size ≤ 255 ∧ RdS w' q s a' e' ∧ w.grownBy w' (some q) ∧ Stp s (nameP s a) e v a' e' := by
  have HR := Lib.hid h
  have HA := Lib.hid ha
  have HS := Lib.hid hs
  obtain ⟨c0, c1, c2, f1, f2⟩ := h.cells
  clear h ha hs
  by_cases h0 : e = 0
  · have e1 := nF h0
    have HE0 := Lib.hid h0
    clear h0
    go_enter Try.func64, Try.ntmps64
    go_wp2_with fail
    clear c0 c1 c2 f1 f2 e1
    refine wp_region_held_drew (S := (fun wx => RdS wx q s a e ∧ w.grownBy wx (some q))) (by kernel_rfl) (⟨HR.out.drew, grown_drew (World.grownBy.refl _ _)⟩) (fun hHeld => ?_)
    obtain ⟨wz, hwd⟩ : ∃ x, w.drew = x := ⟨_, rfl⟩
    rw [hwd] at hHeld ⊢
    clear hwd
    refine wpAnyH_take (i := 0) (oi := { dst := some 12, op := Go.Op.move (Go.Operand.tmp 0), type := 71, pos := "decode.go:145", after := #[], guard := none }) (v := ?v0_222101) rfl (by kernel_rfl) (by kernel_rfl) (by kernel_rfl) (fun _ _ _ h => h) (Or.inl ⟨by rfl, ?y0_222101⟩) hHeld ?r0_222101
    case y0_222101 => intro w hSw; (try dsimp only at hSw); go_simp; try with_reducible rfl
    try simp only [Act.put, List.setIfInBounds_toArray, List.set_cons_zero, List.set_cons_succ]
    refine wpAnyH_take (i := 1) (oi := { dst := some 13, op := Go.Op.nilCheck (Go.Operand.tmp 12), type := 0, pos := "decode.go:145", after := #[{ on := 0, ground := Go.Ground.data }], guard := none }) (v := ?v1_222101) rfl (by kernel_rfl) (by kernel_rfl) (by kernel_rfl) (fun _ _ _ h => h) (Or.inl ⟨by rfl, ?y1_222101⟩) hHeld ?r1_222101
    case y1_222101 => intro w hSw; (try dsimp only at hSw); go_simp; try with_reducible rfl
    try simp only [Act.put, List.setIfInBounds_toArray, List.set_cons_zero, List.set_cons_succ]
    refine wpAnyH_take (i := 2) (oi := { dst := some 14, op := Go.Op.fieldAddr 73 (Go.Operand.tmp 13) 0, type := 0, pos := "decode.go:145", after := #[{ on := 1, ground := Go.Ground.data }], guard := none }) (v := ?v2_222101) rfl (by kernel_rfl) (by kernel_rfl) (by kernel_rfl) (fun _ _ _ h => h) (Or.inl ⟨by rfl, ?y2_222101⟩) hHeld ?r2_222101
    case y2_222101 => intro w hSw; (try dsimp only at hSw); go_simp; try with_reducible rfl
    try simp only [Act.put, List.setIfInBounds_toArray, List.set_cons_zero, List.set_cons_succ]
    refine wpAnyH_take (i := 3) (oi := { dst := some 15, op := Go.Op.load 9 (Go.Operand.tmp 14), type := 9, pos := "decode.go:145", after := #[{ on := 2, ground := Go.Ground.data }], guard := none }) (v := ?v3_222101) rfl (by kernel_rfl) (by kernel_rfl) (by kernel_rfl) (fun _ _ _ h => h) (Or.inl ⟨by rfl, ?y3_222101⟩) hHeld ?r3_222101
    case y3_222101 => intro w hSw; (try dsimp only at hSw); obtain ⟨c0, c1, c2, f1, f2⟩ := hSw.1.cells; go_simp; try with_reducible rfl
    try simp only [Act.put, List.setIfInBounds_toArray, List.set_cons_zero, List.set_cons_succ]
    refine wpAnyH_take (i := 4) (oi := { dst := some 16, op := Go.Op.move (Go.Operand.tmp 0), type := 71, pos := "decode.go:145", after := #[], guard := none }) (v := ?v4_222101) rfl (by kernel_rfl) (by kernel_rfl) (by kernel_rfl) (fun _ _ _ h => h) (Or.inl ⟨by rfl, ?y4_222101⟩) hHeld ?r4_222101
    case y4_222101 => intro w hSw; (try dsimp only at hSw); go_simp; try with_reducible rfl
    try simp only [Act.put, List.setIfInBounds_toArray, List.set_cons_zero, List.set_cons_succ]
    refine wpAnyH_take (i := 5) (oi := { dst := some 17, op := Go.Op.nilCheck (Go.Operand.tmp 16), type := 0, pos := "decode.go:145", after := #[{ on := 4, ground := Go.Ground.data }], guard := none }) (v := ?v5_222101) rfl (by kernel_rfl) (by kernel_rfl) (by kernel_rfl) (fun _ _ _ h => h) (Or.inl ⟨by rfl, ?y5_222101⟩) hHeld ?r5_222101
    case y5_222101 => intro w hSw; (try dsimp only at hSw); go_simp; try with_reducible rfl
    try simp only [Act.put, List.setIfInBounds_toArray, List.set_cons_zero, List.set_cons_succ]
    refine wpAnyH_take (i := 6) (oi := { dst := some 18, op := Go.Op.fieldAddr 73 (Go.Operand.tmp 17) 1, type := 0, pos := "decode.go:145", after := #[{ on := 5, ground := Go.Ground.data }], guard := none }) (v := ?v6_222101) rfl (by kernel_rfl) (by kernel_rfl) (by kernel_rfl) (fun _ _ _ h => h) (Or.inl ⟨by rfl, ?y6_222101⟩) hHeld ?r6_222101
    case y6_222101 => intro w hSw; (try dsimp only at hSw); go_simp; try with_reducible rfl
    try simp only [Act.put, List.setIfInBounds_toArray, List.set_cons_zero, List.set_cons_succ]
    refine wpAnyH_take (i := 7) (oi := { dst := some 19, op := Go.Op.load 3 (Go.Operand.tmp 18), type := 3, pos := "decode.go:145", after := #[{ on := 6, ground := Go.Ground.data }], guard := none }) (v := ?v7_222101) rfl (by kernel_rfl) (by kernel_rfl) (by kernel_rfl) (fun _ _ _ h => h) (Or.inl ⟨by rfl, ?y7_222101⟩) hHeld ?r7_222101
    case y7_222101 => intro w hSw; (try dsimp only at hSw); obtain ⟨c0, c1, c2, f1, f2⟩ := hSw.1.cells; go_simp; try with_reducible rfl
    try simp only [Act.put, List.setIfInBounds_toArray, List.set_cons_zero, List.set_cons_succ]
    refine wpAnyH_ready (rs := [8]) (by kernel_rfl) (by simp) ?_
    refine AllReadyH.cons (o := { dst := some 20, op := Go.Op.call { callee := Go.Callee.value (Go.Operand.func 73), args := #[Go.Operand.tmp 15, Go.Operand.tmp 19], argTypes := #[9, 3] }, type := 132, pos := "decode.go:145", after := #[{ on := 3, ground := Go.Ground.data }, { on := 7, ground := Go.Ground.data }], guard := none }) rfl (fun K hK => ?_) AllReadyH.nil
    go_simp
    refine (nameAt_any s a _ HA.out HS.out).mono ?_; rintro en w3 ⟨hn, hb⟩
    have hHeld3 := hHeld.1.below hb
    have hg3 := hHeld.2.trans (below_grown hb (some q))
    rcases hn with ⟨B, n, hn, rfl⟩ | ⟨hn, er, her, rfl⟩
    · go_wp2_with fail
      refine hK.out _ _ (⟨hHeld3, hg3⟩) (fun hHeld2 => ?_)
      clear hK K hHeld
      have hHeld := hHeld2
      clear hHeld2
      try simp only [Act.put, List.setIfInBounds_toArray, List.set_cons_zero, List.set_cons_succ]
      refine wpAnyH_take (i := 9) (oi := { dst := some 11, op := Go.Op.move (Go.Operand.tmp 20), type := 132, pos := "decode.go:145", after := #[{ on := 8, ground := Go.Ground.data }], guard := none }) (v := ?v9_222102a) rfl (by kernel_rfl) (by kernel_rfl) (by kernel_rfl) (fun _ _ _ h => h) (Or.inl ⟨by rfl, ?y9_222102a⟩) hHeld ?r9_222102a
      case y9_222102a => intro w hSw; (try dsimp only at hSw); go_simp; try with_reducible rfl
      try simp only [Act.put, List.setIfInBounds_toArray, List.set_cons_zero, List.set_cons_succ]
      refine wpAnyH_take (i := 10) (oi := { dst := some 21, op := Go.Op.extract (Go.Operand.tmp 11) 0, type := 9, pos := "decode.go:145", after := #[{ on := 9, ground := Go.Ground.data }], guard := none }) (v := ?v10_222102a) rfl (by kernel_rfl) (by kernel_rfl) (by kernel_rfl) (fun _ _ _ h => h) (Or.inl ⟨by rfl, ?y10_222102a⟩) hHeld ?r10_222102a
      case y10_222102a => intro w hSw; (try dsimp only at hSw); go_simp; try with_reducible rfl
      try simp only [Act.put, List.setIfInBounds_toArray, List.set_cons_zero, List.set_cons_succ]
      refine wpAnyH_take (i := 11) (oi := { dst := some 22, op := Go.Op.extract (Go.Operand.tmp 11) 1, type := 3, pos := "decode.go:145", after := #[{ on := 9, ground := Go.Ground.data }, { on := 13, ground := Go.Ground.gcOnly Go.Departure.lateStores }], guard := none }) (v := ?v11_222102a) rfl (by kernel_rfl) (by kernel_rfl) (by kernel_rfl) (fun _ _ _ h => h) (Or.inl ⟨by rfl, ?y11_222102a⟩) hHeld ?r11_222102a
      case y11_222102a => intro w hSw; (try dsimp only at hSw); go_simp; try with_reducible rfl
      try simp only [Act.put, List.setIfInBounds_toArray, List.set_cons_zero, List.set_cons_succ]
      refine wpAnyH_take (i := 12) (oi := { dst := some 23, op := Go.Op.extract (Go.Operand.tmp 11) 2, type := 38, pos := "decode.go:145", after := #[{ on := 9, ground := Go.Ground.data }, { on := 14, ground := Go.Ground.gcOnly Go.Departure.lateStores }], guard := none }) (v := ?v12_222102a) rfl (by kernel_rfl) (by kernel_rfl) (by kernel_rfl) (fun _ _ _ h => h) (Or.inl ⟨by rfl, ?y12_222102a⟩) hHeld ?r12_222102a
      case y12_222102a => intro w hSw; (try dsimp only at hSw); go_simp; try with_reducible rfl
      try simp only [Act.put, List.setIfInBounds_toArray, List.set_cons_zero, List.set_cons_succ]
      refine wpAnyH_take (i := 13) (oi := { dst := some 3, op := Go.Op.assign (Go.Operand.tmp 21), type := 9, pos := "decode.go:145", after := #[{ on := 10, ground := Go.Ground.data }, { on := 8, ground := Go.Ground.chain }, { on := 0, ground := Go.Ground.phase }, { on := 1, ground := Go.Ground.phase }, { on := 2, ground := Go.Ground.phase }, { on := 3, ground := Go.Ground.phase }, { on := 4, ground := Go.Ground.phase }, { on := 5, ground := Go.Ground.phase }, { on := 6, ground := Go.Ground.phase }, { on := 7, ground := Go.Ground.phase }, { on := 8, ground := Go.Ground.phase }, { on := 9, ground := Go.Ground.phase }, { on := 10, ground := Go.Ground.phase }, { on := 11, ground := Go.Ground.textOnly Go.Departure.lateStores }, { on := 12, ground := Go.Ground.textOnly Go.Departure.lateStores }], guard := none }) (v := ?v13_222102a) rfl (by kernel_rfl) (by kernel_rfl) (by kernel_rfl) (fun _ _ _ h => h) (Or.inl ⟨by rfl, ?y13_222102a⟩) hHeld ?r13_222102a
      case y13_222102a => intro w hSw; (try dsimp only at hSw); go_simp; try with_reducible rfl
      try simp only [Act.put, List.setIfInBounds_toArray, List.set_cons_zero, List.set_cons_succ]
      refine wpAnyH_take (i := 14) (oi := { dst := some 4, op := Go.Op.assign (Go.Operand.tmp 22), type := 3, pos := "decode.go:145", after := #[{ on := 11, ground := Go.Ground.data }, { on := 13, ground := Go.Ground.chain }, { on := 0, ground := Go.Ground.phase }, { on := 1, ground := Go.Ground.phase }, { on := 2, ground := Go.Ground.phase }, { on := 3, ground := Go.Ground.phase }, { on := 4, ground := Go.Ground.phase }, { on := 5, ground := Go.Ground.phase }, { on := 6, ground := Go.Ground.phase }, { on := 7, ground := Go.Ground.phase }, { on := 8, ground := Go.Ground.phase }, { on := 9, ground := Go.Ground.phase }, { on := 10, ground := Go.Ground.phase }, { on := 11, ground := Go.Ground.phase }, { on := 12, ground := Go.Ground.textOnly Go.Departure.lateStores }, { on := 13, ground := Go.Ground.phase }], guard := none }) (v := ?v14_222102a) rfl (by kernel_rfl) (by kernel_rfl) (by kernel_rfl) (fun _ _ _ h => h) (Or.inl ⟨by rfl, ?y14_222102a⟩) hHeld ?r14_222102a
      case y14_222102a => intro w hSw; (try dsimp only at hSw); go_simp; try with_reducible rfl
      try simp only [Act.put, List.setIfInBounds_toArray, List.set_cons_zero, List.set_cons_succ]
      refine wpAnyH_take (i := 15) (oi := { dst := some 5, op := Go.Op.assign (Go.Operand.tmp 23), type := 38, pos := "decode.go:145", after := #[{ on := 12, ground := Go.Ground.data }, { on := 14, ground := Go.Ground.chain }, { on := 0, ground := Go.Ground.phase }, { on := 1, ground := Go.Ground.phase }, { on := 2, ground := Go.Ground.phase }, { on := 3, ground := Go.Ground.phase }, { on := 4, ground := Go.Ground.phase }, { on := 5, ground := Go.Ground.phase }, { on := 6, ground := Go.Ground.phase }, { on := 7, ground := Go.Ground.phase }, { on := 8, ground := Go.Ground.phase }, { on := 9, ground := Go.Ground.phase }, { on := 10, ground := Go.Ground.phase }, { on := 11, ground := Go.Ground.phase }, { on := 12, ground := Go.Ground.phase }, { on := 13, ground := Go.Ground.phase }, { on := 14, ground := Go.Ground.phase }], guard := none }) (v := ?v15_222102a) rfl (by kernel_rfl) (by kernel_rfl) (by kernel_rfl) (fun _ _ _ h => h) (Or.inl ⟨by rfl, ?y15_222102a⟩) hHeld ?r15_222102a
      case y15_222102a => intro w hSw; (try dsimp only at hSw); go_simp; try with_reducible rfl
      try simp only [Act.put, List.setIfInBounds_toArray, List.set_cons_zero, List.set_cons_succ]
      refine wpAnyH_done (by kernel_rfl) ?_ _
      have HN := Lib.hid hn
      have HBD := Lib.hid (nmG_le _ _ _ _ _ _ _ (Nat.zero_le _) hn)
      clear hn
      obtain ⟨c0, c1, c2, f1, f2⟩ := hHeld.1.cells
      go_wp2
      go_ret
      exact ⟨_, n, e, rfl, by rw [lowS_size, bs_size, List.length_append]; have := HBD.out.2; simp; omega, hHeld.1.at n, hHeld.2.trans (grown_cell _ _ _ _), Stp.yes (by rw [nameP, HN.out]; rfl) HBD.out.1⟩
    · go_wp2_with fail
      refine hK.out _ _ (⟨hHeld3, hg3⟩) (fun hHeld2 => ?_)
      clear hK K hHeld
      have hHeld := hHeld2
      clear hHeld2
      try simp only [Act.put, List.setIfInBounds_toArray, List.set_cons_zero, List.set_cons_succ]
      refine wpAnyH_take (i := 9) (oi := { dst := some 11, op := Go.Op.move (Go.Operand.tmp 20), type := 132, pos := "decode.go:145", after := #[{ on := 8, ground := Go.Ground.data }], guard := none }) (v := ?v9_222102b) rfl (by kernel_rfl) (by kernel_rfl) (by kernel_rfl) (fun _ _ _ h => h) (Or.inl ⟨by rfl, ?y9_222102b⟩) hHeld ?r9_222102b
      case y9_222102b => intro w hSw; (try dsimp only at hSw); go_simp; try with_reducible rfl
      try simp only [Act.put, List.setIfInBounds_toArray, List.set_cons_zero, List.set_cons_succ]
      refine wpAnyH_take (i := 10) (oi := { dst := some 21, op := Go.Op.extract (Go.Operand.tmp 11) 0, type := 9, pos := "decode.go:145", after := #[{ on := 9, ground := Go.Ground.data }], guard := none }) (v := ?v10_222102b) rfl (by kernel_rfl) (by kernel_rfl) (by kernel_rfl) (fun _ _ _ h => h) (Or.inl ⟨by rfl, ?y10_222102b⟩) hHeld ?r10_222102b
      case y10_222102b => intro w hSw; (try dsimp only at hSw); go_simp; try with_reducible rfl
      try simp only [Act.put, List.setIfInBounds_toArray, List.set_cons_zero, List.set_cons_succ]
      refine wpAnyH_take (i := 11) (oi := { dst := some 22, op := Go.Op.extract (Go.Operand.tmp 11) 1, type := 3, pos := "decode.go:145", after := #[{ on := 9, ground := Go.Ground.data }, { on := 13, ground := Go.Ground.gcOnly Go.Departure.lateStores }], guard := none }) (v := ?v11_222102b) rfl (by kernel_rfl) (by kernel_rfl) (by kernel_rfl) (fun _ _ _ h => h) (Or.inl ⟨by rfl, ?y11_222102b⟩) hHeld ?r11_222102b
      case y11_222102b => intro w hSw; (try dsimp only at hSw); go_simp; try with_reducible rfl
      try simp only [Act.put, List.setIfInBounds_toArray, List.set_cons_zero, List.set_cons_succ]
      refine wpAnyH_take (i := 12) (oi := { dst := some 23, op := Go.Op.extract (Go.Operand.tmp 11) 2, type := 38, pos := "decode.go:145", after := #[{ on := 9, ground := Go.Ground.data }, { on := 14, ground := Go.Ground.gcOnly Go.Departure.lateStores }], guard := none }) (v := ?v12_222102b) rfl (by kernel_rfl) (by kernel_rfl) (by kernel_rfl) (fun _ _ _ h => h) (Or.inl ⟨by rfl, ?y12_222102b⟩) hHeld ?r12_222102b
      case y12_222102b => intro w hSw; (try dsimp only at hSw); go_simp; try with_reducible rfl
      try simp only [Act.put, List.setIfInBounds_toArray, List.set_cons_zero, List.set_cons_succ]
      refine wpAnyH_take (i := 13) (oi := { dst := some 3, op := Go.Op.assign (Go.Operand.tmp 21), type := 9, pos := "decode.go:145", after := #[{ on := 10, ground := Go.Ground.data }, { on := 8, ground := Go.Ground.chain }, { on := 0, ground := Go.Ground.phase }, { on := 1, ground := Go.Ground.phase }, { on := 2, ground := Go.Ground.phase }, { on := 3, ground := Go.Ground.phase }, { on := 4, ground := Go.Ground.phase }, { on := 5, ground := Go.Ground.phase }, { on := 6, ground := Go.Ground.phase }, { on := 7, ground := Go.Ground.phase }, { on := 8, ground := Go.Ground.phase }, { on := 9, ground := Go.Ground.phase }, { on := 10, ground := Go.Ground.phase }, { on := 11, ground := Go.Ground.textOnly Go.Departure.lateStores }, { on := 12, ground := Go.Ground.textOnly Go.Departure.lateStores }], guard := none }) (v := ?v13_222102b) rfl (by kernel_rfl) (by kernel_rfl) (by kernel_rfl) (fun _ _ _ h => h) (Or.inl ⟨by rfl, ?y13_222102b⟩) hHeld ?r13_222102b
      case y13_222102b => intro w hSw; (try dsimp only at hSw); go_simp; try with_reducible rfl
      try simp only [Act.put, List.setIfInBounds_toArray, List.set_cons_zero, List.set_cons_succ]
      refine wpAnyH_take (i := 14) (oi := { dst := some 4, op := Go.Op.assign (Go.Operand.tmp 22), type := 3, pos := "decode.go:145", after := #[{ on := 11, ground := Go.Ground.data }, { on := 13, ground := Go.Ground.chain }, { on := 0, ground := Go.Ground.phase }, { on := 1, ground := Go.Ground.phase }, { on := 2, ground := Go.Ground.phase }, { on := 3, ground := Go.Ground.phase }, { on := 4, ground := Go.Ground.phase }, { on := 5, ground := Go.Ground.phase }, { on := 6, ground := Go.Ground.phase }, { on := 7, ground := Go.Ground.phase }, { on := 8, ground := Go.Ground.phase }, { on := 9, ground := Go.Ground.phase }, { on := 10, ground := Go.Ground.phase }, { on := 11, ground := Go.Ground.phase }, { on := 12, ground := Go.Ground.textOnly Go.Departure.lateStores }, { on := 13, ground := Go.Ground.phase }], guard := none }) (v := ?v14_222102b) rfl (by kernel_rfl) (by kernel_rfl) (by kernel_rfl) (fun _ _ _ h => h) (Or.inl ⟨by rfl, ?y14_222102b⟩) hHeld ?r14_222102b
      case y14_222102b => intro w hSw; (try dsimp only at hSw); go_simp; try with_reducible rfl
      try simp only [Act.put, List.setIfInBounds_toArray, List.set_cons_zero, List.set_cons_succ]
      refine wpAnyH_take (i := 15) (oi := { dst := some 5, op := Go.Op.assign (Go.Operand.tmp 23), type := 38, pos := "decode.go:145", after := #[{ on := 12, ground := Go.Ground.data }, { on := 14, ground := Go.Ground.chain }, { on := 0, ground := Go.Ground.phase }, { on := 1, ground := Go.Ground.phase }, { on := 2, ground := Go.Ground.phase }, { on := 3, ground := Go.Ground.phase }, { on := 4, ground := Go.Ground.phase }, { on := 5, ground := Go.Ground.phase }, { on := 6, ground := Go.Ground.phase }, { on := 7, ground := Go.Ground.phase }, { on := 8, ground := Go.Ground.phase }, { on := 9, ground := Go.Ground.phase }, { on := 10, ground := Go.Ground.phase }, { on := 11, ground := Go.Ground.phase }, { on := 12, ground := Go.Ground.phase }, { on := 13, ground := Go.Ground.phase }, { on := 14, ground := Go.Ground.phase }], guard := none }) (v := ?v15_222102b) rfl (by kernel_rfl) (by kernel_rfl) (by kernel_rfl) (fun _ _ _ h => h) (Or.inl ⟨by rfl, ?y15_222102b⟩) hHeld ?r15_222102b
      case y15_222102b => intro w hSw; (try dsimp only at hSw); go_simp; try with_reducible rfl
      try simp only [Act.put, List.setIfInBounds_toArray, List.set_cons_zero, List.set_cons_succ]
      refine wpAnyH_done (by kernel_rfl) ?_ _
      have HN := Lib.hid hn
      have HER := Lib.hid her
      have e5 := nT (a := er) (b := 0) her
      clear hn her
      go_wp2_with fail
      refine (fail_any q s a e er _ hHeld.1).mono ?_; rintro en w4 ⟨rfl, hr, hg⟩
      go_wp2
      go_ret
      exact ⟨⟨#[]⟩, a, _, rfl, Nat.zero_le _, hr, hHeld.2.trans hg, Stp.no (fun _ => by rw [nameP, HN.out]; rfl) HA.out HER.out⟩
  · have e1 := nT h0
    have HE0 := Lib.hid h0
    clear h0
    go_enter Try.func64, Try.ntmps64
    go_wp2
    go_ret
    exact ⟨⟨#[]⟩, a, e, rfl, Nat.zero_le _, HR.out, World.grownBy.refl _ _, HA.out, fun h => h, fun h => absurd h HE0.out⟩

set_option maxRecDepth 100000 in
set_option maxHeartbeats 4000000 in
theorem take_r (q : Nat) (s : ByteArray) (a n : Nat) (e : Int) (w : World) (h : RdS w q s a e) (ha : a ≤ s.size) (hs : s.size ≤ 20000) (hn : n ≤ 70000) :
    Calls Try.prog 81 #[.pointer (some ⟨q, 0, none⟩), .int .i64 (n : Int)] w fun en w' => ∃ v a' e', en = .returned (.string v) ∧ v.size ≤ 20000 ∧ RdS w' q s a' e' ∧ w.grownBy w' (some q) ∧ Stp s (takeP s n a) e v a' e' := by
  have HR := Lib.hid h
  clear h
  by_cases g : a + n ≤ s.size
  · have HP := Lib.hid (show takeP s n a = some (s.extract a (a + n), a + n) from if_pos g)
    obtain ⟨r, hr⟩ : ∃ r, s.size - a = r := ⟨_, rfl⟩
    have hws : IntKind.i64.wrap ((s.size : Int) - (a : Int)) = (r : Int) := by rw [IntKind.wrap_i64]; omega
    have d1 := dF (p := r < n) (by omega)
    clear hr
    have HLE := Lib.hid g
    have HEX := Lib.hid (show (s.extract a (a + n)).size ≤ 20000 by rw [extract_size _ _ _ g]; omega)
    go_enter Try.func81, Try.ntmps81
    go_wp2_with fail
    refine wp_region_held_drew (S := (fun wx => RdS wx q s a e ∧ w.grownBy wx (some q))) (by kernel_rfl) (⟨HR.out.drew, grown_drew (World.grownBy.refl _ _)⟩) (fun hHeld => ?_)
    obtain ⟨wz, hwd⟩ : ∃ x, w.drew = x := ⟨_, rfl⟩
    rw [hwd] at hHeld ⊢
    clear hwd
    refine wpAnyH_take (i := 0) (oi := { dst := some 5, op := Go.Op.move (Go.Operand.tmp 0), type := 71, pos := "decode.go:72", after := #[], guard := none }) (v := ?v0_223101) rfl (by kernel_rfl) (by kernel_rfl) (by kernel_rfl) (fun _ _ _ h => h) (Or.inl ⟨by rfl, ?y0_223101⟩) hHeld ?r0_223101
    case y0_223101 => intro w hSw; (try dsimp only at hSw); go_simp; try with_reducible rfl
    try simp only [Act.put, List.setIfInBounds_toArray, List.set_cons_zero, List.set_cons_succ]
    refine wpAnyH_take (i := 1) (oi := { dst := some 6, op := Go.Op.nilCheck (Go.Operand.tmp 5), type := 0, pos := "decode.go:72", after := #[{ on := 0, ground := Go.Ground.data }], guard := none }) (v := ?v1_223101) rfl (by kernel_rfl) (by kernel_rfl) (by kernel_rfl) (fun _ _ _ h => h) (Or.inl ⟨by rfl, ?y1_223101⟩) hHeld ?r1_223101
    case y1_223101 => intro w hSw; (try dsimp only at hSw); go_simp; try with_reducible rfl
    try simp only [Act.put, List.setIfInBounds_toArray, List.set_cons_zero, List.set_cons_succ]
    refine wpAnyH_take (i := 2) (oi := { dst := some 7, op := Go.Op.fieldAddr 73 (Go.Operand.tmp 6) 0, type := 0, pos := "decode.go:72", after := #[{ on := 1, ground := Go.Ground.data }], guard := none }) (v := ?v2_223101) rfl (by kernel_rfl) (by kernel_rfl) (by kernel_rfl) (fun _ _ _ h => h) (Or.inl ⟨by rfl, ?y2_223101⟩) hHeld ?r2_223101
    case y2_223101 => intro w hSw; (try dsimp only at hSw); go_simp; try with_reducible rfl
    try simp only [Act.put, List.setIfInBounds_toArray, List.set_cons_zero, List.set_cons_succ]
    refine wpAnyH_take (i := 3) (oi := { dst := some 8, op := Go.Op.load 9 (Go.Operand.tmp 7), type := 9, pos := "decode.go:72", after := #[{ on := 2, ground := Go.Ground.data }], guard := none }) (v := ?v3_223101) rfl (by kernel_rfl) (by kernel_rfl) (by kernel_rfl) (fun _ _ _ h => h) (Or.inl ⟨by rfl, ?y3_223101⟩) hHeld ?r3_223101
    case y3_223101 => intro w hSw; (try dsimp only at hSw); obtain ⟨c0, c1, c2, f1, f2⟩ := hSw.1.cells; go_simp; try with_reducible rfl
    try simp only [Act.put, List.setIfInBounds_toArray, List.set_cons_zero, List.set_cons_succ]
    refine wpAnyH_take (i := 4) (oi := { dst := some 9, op := Go.Op.call { callee := Go.Callee.builtin Go.Builtin.len, args := #[Go.Operand.tmp 8], argTypes := #[9] }, type := 3, pos := "decode.go:72", after := #[{ on := 3, ground := Go.Ground.data }], guard := none }) (v := ?v4_223101) rfl (by kernel_rfl) (by kernel_rfl) (by kernel_rfl) (fun _ _ _ h => h) (Or.inl ⟨by rfl, ?y4_223101⟩) hHeld ?r4_223101
    case y4_223101 => intro w hSw; (try dsimp only at hSw); go_simp; try with_reducible rfl
    try simp only [Act.put, List.setIfInBounds_toArray, List.set_cons_zero, List.set_cons_succ]
    refine wpAnyH_take (i := 5) (oi := { dst := some 10, op := Go.Op.move (Go.Operand.tmp 0), type := 71, pos := "decode.go:72", after := #[], guard := none }) (v := ?v5_223101) rfl (by kernel_rfl) (by kernel_rfl) (by kernel_rfl) (fun _ _ _ h => h) (Or.inl ⟨by rfl, ?y5_223101⟩) hHeld ?r5_223101
    case y5_223101 => intro w hSw; (try dsimp only at hSw); go_simp; try with_reducible rfl
    try simp only [Act.put, List.setIfInBounds_toArray, List.set_cons_zero, List.set_cons_succ]
    refine wpAnyH_take (i := 6) (oi := { dst := some 11, op := Go.Op.nilCheck (Go.Operand.tmp 10), type := 0, pos := "decode.go:72", after := #[{ on := 5, ground := Go.Ground.data }], guard := none }) (v := ?v6_223101) rfl (by kernel_rfl) (by kernel_rfl) (by kernel_rfl) (fun _ _ _ h => h) (Or.inl ⟨by rfl, ?y6_223101⟩) hHeld ?r6_223101
    case y6_223101 => intro w hSw; (try dsimp only at hSw); go_simp; try with_reducible rfl
    try simp only [Act.put, List.setIfInBounds_toArray, List.set_cons_zero, List.set_cons_succ]
    refine wpAnyH_take (i := 7) (oi := { dst := some 12, op := Go.Op.fieldAddr 73 (Go.Operand.tmp 11) 1, type := 0, pos := "decode.go:72", after := #[{ on := 6, ground := Go.Ground.data }], guard := none }) (v := ?v7_223101) rfl (by kernel_rfl) (by kernel_rfl) (by kernel_rfl) (fun _ _ _ h => h) (Or.inl ⟨by rfl, ?y7_223101⟩) hHeld ?r7_223101
    case y7_223101 => intro w hSw; (try dsimp only at hSw); go_simp; try with_reducible rfl
    try simp only [Act.put, List.setIfInBounds_toArray, List.set_cons_zero, List.set_cons_succ]
    refine wpAnyH_take (i := 8) (oi := { dst := some 13, op := Go.Op.load 3 (Go.Operand.tmp 12), type := 3, pos := "decode.go:72", after := #[{ on := 7, ground := Go.Ground.data }], guard := none }) (v := ?v8_223101) rfl (by kernel_rfl) (by kernel_rfl) (by kernel_rfl) (fun _ _ _ h => h) (Or.inl ⟨by rfl, ?y8_223101⟩) hHeld ?r8_223101
    case y8_223101 => intro w hSw; (try dsimp only at hSw); obtain ⟨c0, c1, c2, f1, f2⟩ := hSw.1.cells; go_simp; try with_reducible rfl
    try simp only [Act.put, List.setIfInBounds_toArray, List.set_cons_zero, List.set_cons_succ]
    refine wpAnyH_take (i := 9) (oi := { dst := some 14, op := Go.Op.binOp Go.BinOp.sub 3 (Go.Operand.tmp 9) (Go.Operand.tmp 13) 3, type := 3, pos := "decode.go:72", after := #[{ on := 4, ground := Go.Ground.data }, { on := 8, ground := Go.Ground.data }], guard := none }) (v := ?v9_223101) rfl (by kernel_rfl) (by kernel_rfl) (by kernel_rfl) (fun _ _ _ h => h) (Or.inl ⟨by rfl, ?y9_223101⟩) hHeld ?r9_223101
    case y9_223101 => intro w hSw; (try dsimp only at hSw); go_simp; try with_reducible rfl
    try simp only [Act.put, List.setIfInBounds_toArray, List.set_cons_zero, List.set_cons_succ]
    refine wpAnyH_take (i := 10) (oi := { dst := some 15, op := Go.Op.move (Go.Operand.tmp 1), type := 3, pos := "decode.go:72", after := #[], guard := none }) (v := ?v10_223101) rfl (by kernel_rfl) (by kernel_rfl) (by kernel_rfl) (fun _ _ _ h => h) (Or.inl ⟨by rfl, ?y10_223101⟩) hHeld ?r10_223101
    case y10_223101 => intro w hSw; (try dsimp only at hSw); go_simp; try with_reducible rfl
    try simp only [Act.put, List.setIfInBounds_toArray, List.set_cons_zero, List.set_cons_succ]
    refine wpAnyH_take (i := 11) (oi := { dst := some 16, op := Go.Op.binOp Go.BinOp.lss 3 (Go.Operand.tmp 14) (Go.Operand.tmp 15) 3, type := 4, pos := "decode.go:72", after := #[{ on := 9, ground := Go.Ground.data }, { on := 10, ground := Go.Ground.data }], guard := none }) (v := ?v11_223101) rfl (by kernel_rfl) (by kernel_rfl) (by kernel_rfl) (fun _ _ _ h => h) (Or.inl ⟨by rfl, ?y11_223101⟩) hHeld ?r11_223101
    case y11_223101 => intro w hSw; (try dsimp only at hSw); go_simp; try with_reducible rfl
    try simp only [Act.put, List.setIfInBounds_toArray, List.set_cons_zero, List.set_cons_succ]
    refine wpAnyH_done (by kernel_rfl) ?_ _
    have HH := Lib.hid hHeld
    obtain ⟨c0, c1, c2, f1, f2⟩ := hHeld.1.cells
    clear hHeld
    go_upto_region 5 with (fail)
    rw [show (a : Int) + (n : Int) = ((a + n : Nat) : Int) from (Int.natCast_add _ _).symm]
    have hr4 := HH.out.1.at (a + n)
    have hg4 := HH.out.2.trans (grown_cell wz q 1 (.int .i64 ((a + n : Nat) : Int)))
    obtain ⟨w4, hw4⟩ : ∃ x, wz.setCell ⟨q, 1, none⟩ (.int .i64 ((a + n : Nat) : Int)) = x := ⟨_, rfl⟩
    rw [hw4] at hr4 hg4 ⊢
    clear hw4 c0 c1 c2 f1 f2 d1 hws
    obtain ⟨b, hb⟩ : ∃ x, a + n = x := ⟨_, rfl⟩
    rw [hb] at hr4 HP HLE HEX ⊢
    have hbs : b ≤ s.size := HLE.out
    have hab : a ≤ b := by omega
    have hw5 : IntKind.i64.wrap ((b : Int) - (n : Int)) = (a : Int) := by rw [IntKind.wrap_i64]; omega
    clear hb
    have HG4 := Lib.hid hg4
    have HR4 := Lib.hid hr4
    clear hr4 hg4
    refine wp_region_held_drew (S := (fun wx => RdS wx q s b e ∧ w.grownBy wx (some q))) (by kernel_rfl) (⟨HR4.out.drew, grown_drew HG4.out⟩) (fun hHeld => ?_)
    refine wpAnyH_take (i := 0) (oi := { dst := some 27, op := Go.Op.move (Go.Operand.tmp 0), type := 71, pos := "decode.go:77", after := #[], guard := none }) (v := ?v0_224101) rfl (by kernel_rfl) (by kernel_rfl) (by kernel_rfl) (fun _ _ _ h => h) (Or.inl ⟨by rfl, ?y0_224101⟩) hHeld ?r0_224101
    case y0_224101 => intro w hSw; (try dsimp only at hSw); go_simp; try with_reducible rfl
    try simp only [Act.put, List.setIfInBounds_toArray, List.set_cons_zero, List.set_cons_succ]
    refine wpAnyH_take (i := 1) (oi := { dst := some 28, op := Go.Op.nilCheck (Go.Operand.tmp 27), type := 0, pos := "decode.go:77", after := #[{ on := 0, ground := Go.Ground.data }], guard := none }) (v := ?v1_224101) rfl (by kernel_rfl) (by kernel_rfl) (by kernel_rfl) (fun _ _ _ h => h) (Or.inl ⟨by rfl, ?y1_224101⟩) hHeld ?r1_224101
    case y1_224101 => intro w hSw; (try dsimp only at hSw); go_simp; try with_reducible rfl
    try simp only [Act.put, List.setIfInBounds_toArray, List.set_cons_zero, List.set_cons_succ]
    refine wpAnyH_take (i := 2) (oi := { dst := some 29, op := Go.Op.fieldAddr 73 (Go.Operand.tmp 28) 0, type := 0, pos := "decode.go:77", after := #[{ on := 1, ground := Go.Ground.data }], guard := none }) (v := ?v2_224101) rfl (by kernel_rfl) (by kernel_rfl) (by kernel_rfl) (fun _ _ _ h => h) (Or.inl ⟨by rfl, ?y2_224101⟩) hHeld ?r2_224101
    case y2_224101 => intro w hSw; (try dsimp only at hSw); go_simp; try with_reducible rfl
    try simp only [Act.put, List.setIfInBounds_toArray, List.set_cons_zero, List.set_cons_succ]
    refine wpAnyH_take (i := 3) (oi := { dst := some 30, op := Go.Op.load 9 (Go.Operand.tmp 29), type := 9, pos := "decode.go:77", after := #[{ on := 2, ground := Go.Ground.data }], guard := none }) (v := ?v3_224101) rfl (by kernel_rfl) (by kernel_rfl) (by kernel_rfl) (fun _ _ _ h => h) (Or.inl ⟨by rfl, ?y3_224101⟩) hHeld ?r3_224101
    case y3_224101 => intro w hSw; (try dsimp only at hSw); obtain ⟨c0, c1, c2, f1, f2⟩ := hSw.1.cells; go_simp; try with_reducible rfl
    try simp only [Act.put, List.setIfInBounds_toArray, List.set_cons_zero, List.set_cons_succ]
    refine wpAnyH_take (i := 4) (oi := { dst := some 31, op := Go.Op.move (Go.Operand.tmp 0), type := 71, pos := "decode.go:77", after := #[], guard := none }) (v := ?v4_224101) rfl (by kernel_rfl) (by kernel_rfl) (by kernel_rfl) (fun _ _ _ h => h) (Or.inl ⟨by rfl, ?y4_224101⟩) hHeld ?r4_224101
    case y4_224101 => intro w hSw; (try dsimp only at hSw); go_simp; try with_reducible rfl
    try simp only [Act.put, List.setIfInBounds_toArray, List.set_cons_zero, List.set_cons_succ]
    refine wpAnyH_take (i := 5) (oi := { dst := some 32, op := Go.Op.nilCheck (Go.Operand.tmp 31), type := 0, pos := "decode.go:77", after := #[{ on := 4, ground := Go.Ground.data }], guard := none }) (v := ?v5_224101) rfl (by kernel_rfl) (by kernel_rfl) (by kernel_rfl) (fun _ _ _ h => h) (Or.inl ⟨by rfl, ?y5_224101⟩) hHeld ?r5_224101
    case y5_224101 => intro w hSw; (try dsimp only at hSw); go_simp; try with_reducible rfl
    try simp only [Act.put, List.setIfInBounds_toArray, List.set_cons_zero, List.set_cons_succ]
    refine wpAnyH_take (i := 6) (oi := { dst := some 33, op := Go.Op.fieldAddr 73 (Go.Operand.tmp 32) 1, type := 0, pos := "decode.go:77", after := #[{ on := 5, ground := Go.Ground.data }], guard := none }) (v := ?v6_224101) rfl (by kernel_rfl) (by kernel_rfl) (by kernel_rfl) (fun _ _ _ h => h) (Or.inl ⟨by rfl, ?y6_224101⟩) hHeld ?r6_224101
    case y6_224101 => intro w hSw; (try dsimp only at hSw); go_simp; try with_reducible rfl
    try simp only [Act.put, List.setIfInBounds_toArray, List.set_cons_zero, List.set_cons_succ]
    refine wpAnyH_take (i := 7) (oi := { dst := some 34, op := Go.Op.load 3 (Go.Operand.tmp 33), type := 3, pos := "decode.go:77", after := #[{ on := 6, ground := Go.Ground.data }], guard := none }) (v := ?v7_224101) rfl (by kernel_rfl) (by kernel_rfl) (by kernel_rfl) (fun _ _ _ h => h) (Or.inl ⟨by rfl, ?y7_224101⟩) hHeld ?r7_224101
    case y7_224101 => intro w hSw; (try dsimp only at hSw); obtain ⟨c0, c1, c2, f1, f2⟩ := hSw.1.cells; go_simp; try with_reducible rfl
    try simp only [Act.put, List.setIfInBounds_toArray, List.set_cons_zero, List.set_cons_succ]
    refine wpAnyH_take (i := 8) (oi := { dst := some 35, op := Go.Op.move (Go.Operand.tmp 1), type := 3, pos := "decode.go:77", after := #[], guard := none }) (v := ?v8_224101) rfl (by kernel_rfl) (by kernel_rfl) (by kernel_rfl) (fun _ _ _ h => h) (Or.inl ⟨by rfl, ?y8_224101⟩) hHeld ?r8_224101
    case y8_224101 => intro w hSw; (try dsimp only at hSw); go_simp; try with_reducible rfl
    try simp only [Act.put, List.setIfInBounds_toArray, List.set_cons_zero, List.set_cons_succ]
    refine wpAnyH_take (i := 9) (oi := { dst := some 36, op := Go.Op.binOp Go.BinOp.sub 3 (Go.Operand.tmp 34) (Go.Operand.tmp 35) 3, type := 3, pos := "decode.go:77", after := #[{ on := 7, ground := Go.Ground.data }, { on := 8, ground := Go.Ground.data }], guard := none }) (v := ?v9_224101) rfl (by kernel_rfl) (by kernel_rfl) (by kernel_rfl) (fun _ _ _ h => h) (Or.inl ⟨by rfl, ?y9_224101⟩) hHeld ?r9_224101
    case y9_224101 => intro w hSw; (try dsimp only at hSw); go_simp; try with_reducible rfl
    try simp only [Act.put, List.setIfInBounds_toArray, List.set_cons_zero, List.set_cons_succ]
    refine wpAnyH_take (i := 10) (oi := { dst := some 37, op := Go.Op.move (Go.Operand.tmp 0), type := 71, pos := "decode.go:77", after := #[], guard := none }) (v := ?v10_224101) rfl (by kernel_rfl) (by kernel_rfl) (by kernel_rfl) (fun _ _ _ h => h) (Or.inl ⟨by rfl, ?y10_224101⟩) hHeld ?r10_224101
    case y10_224101 => intro w hSw; (try dsimp only at hSw); go_simp; try with_reducible rfl
    try simp only [Act.put, List.setIfInBounds_toArray, List.set_cons_zero, List.set_cons_succ]
    refine wpAnyH_take (i := 11) (oi := { dst := some 38, op := Go.Op.nilCheck (Go.Operand.tmp 37), type := 0, pos := "decode.go:77", after := #[{ on := 10, ground := Go.Ground.data }], guard := none }) (v := ?v11_224101) rfl (by kernel_rfl) (by kernel_rfl) (by kernel_rfl) (fun _ _ _ h => h) (Or.inl ⟨by rfl, ?y11_224101⟩) hHeld ?r11_224101
    case y11_224101 => intro w hSw; (try dsimp only at hSw); go_simp; try with_reducible rfl
    try simp only [Act.put, List.setIfInBounds_toArray, List.set_cons_zero, List.set_cons_succ]
    refine wpAnyH_take (i := 12) (oi := { dst := some 39, op := Go.Op.fieldAddr 73 (Go.Operand.tmp 38) 1, type := 0, pos := "decode.go:77", after := #[{ on := 11, ground := Go.Ground.data }], guard := none }) (v := ?v12_224101) rfl (by kernel_rfl) (by kernel_rfl) (by kernel_rfl) (fun _ _ _ h => h) (Or.inl ⟨by rfl, ?y12_224101⟩) hHeld ?r12_224101
    case y12_224101 => intro w hSw; (try dsimp only at hSw); go_simp; try with_reducible rfl
    try simp only [Act.put, List.setIfInBounds_toArray, List.set_cons_zero, List.set_cons_succ]
    refine wpAnyH_take (i := 13) (oi := { dst := some 40, op := Go.Op.load 3 (Go.Operand.tmp 39), type := 3, pos := "decode.go:77", after := #[{ on := 12, ground := Go.Ground.data }], guard := none }) (v := ?v13_224101) rfl (by kernel_rfl) (by kernel_rfl) (by kernel_rfl) (fun _ _ _ h => h) (Or.inl ⟨by rfl, ?y13_224101⟩) hHeld ?r13_224101
    case y13_224101 => intro w hSw; (try dsimp only at hSw); obtain ⟨c0, c1, c2, f1, f2⟩ := hSw.1.cells; go_simp; try with_reducible rfl
    try simp only [Act.put, List.setIfInBounds_toArray, List.set_cons_zero, List.set_cons_succ]
    refine wpAnyH_take (i := 14) (oi := { dst := some 41, op := Go.Op.slice 9 (Go.Operand.tmp 30) (some (Go.Operand.tmp 36)) (some (Go.Operand.tmp 40)) none, type := 9, pos := "decode.go:77", after := #[{ on := 3, ground := Go.Ground.data }, { on := 9, ground := Go.Ground.data }, { on := 13, ground := Go.Ground.data }], guard := none }) (v := ?v14_224101) rfl (by kernel_rfl) (by kernel_rfl) (by kernel_rfl) (fun _ _ _ h => h) (Or.inl ⟨by rfl, ?y14_224101⟩) hHeld ?r14_224101
    case y14_224101 => intro w hSw; (try dsimp only at hSw); go_simp; try with_reducible rfl
    try simp only [Act.put, List.setIfInBounds_toArray, List.set_cons_zero, List.set_cons_succ]
    refine wpAnyH_take (i := 15) (oi := { dst := some 4, op := Go.Op.assign (Go.Operand.tmp 41), type := 9, pos := "decode.go:77", after := #[{ on := 14, ground := Go.Ground.data }, { on := 0, ground := Go.Ground.phase }, { on := 1, ground := Go.Ground.phase }, { on := 2, ground := Go.Ground.phase }, { on := 3, ground := Go.Ground.phase }, { on := 4, ground := Go.Ground.phase }, { on := 5, ground := Go.Ground.phase }, { on := 6, ground := Go.Ground.phase }, { on := 7, ground := Go.Ground.phase }, { on := 8, ground := Go.Ground.phase }, { on := 9, ground := Go.Ground.phase }, { on := 10, ground := Go.Ground.phase }, { on := 11, ground := Go.Ground.phase }, { on := 12, ground := Go.Ground.phase }, { on := 13, ground := Go.Ground.phase }, { on := 14, ground := Go.Ground.phase }], guard := none }) (v := ?v15_224101) rfl (by kernel_rfl) (by kernel_rfl) (by kernel_rfl) (fun _ _ _ h => h) (Or.inl ⟨by rfl, ?y15_224101⟩) hHeld ?r15_224101
    case y15_224101 => intro w hSw; (try dsimp only at hSw); go_simp; try with_reducible rfl
    try simp only [Act.put, List.setIfInBounds_toArray, List.set_cons_zero, List.set_cons_succ]
    refine wpAnyH_done (by kernel_rfl) ?_ _
    go_wp2
    go_ret
    exact ⟨_, b, e, rfl, HEX.out, hHeld.1, hHeld.2, Stp.yes HP.out HLE.out⟩
  · have HP := Lib.hid (show takeP s n a = none from if_neg g)
    obtain ⟨r, hr⟩ : ∃ r, s.size - a = r := ⟨_, rfl⟩
    have hws : IntKind.i64.wrap ((s.size : Int) - (a : Int)) = (r : Int) := by rw [IntKind.wrap_i64]; omega
    have d1 := dT (p := r < n) (by omega)
    clear hr
    have HA := Lib.hid ha
    clear g
    go_enter Try.func81, Try.ntmps81
    go_wp2_with fail
    refine wp_region_held_drew (S := (fun wx => RdS wx q s a e ∧ w.grownBy wx (some q))) (by kernel_rfl) (⟨HR.out.drew, grown_drew (World.grownBy.refl _ _)⟩) (fun hHeld => ?_)
    obtain ⟨wz, hwd⟩ : ∃ x, w.drew = x := ⟨_, rfl⟩
    rw [hwd] at hHeld ⊢
    clear hwd
    refine wpAnyH_take (i := 0) (oi := { dst := some 5, op := Go.Op.move (Go.Operand.tmp 0), type := 71, pos := "decode.go:72", after := #[], guard := none }) (v := ?v0_225101) rfl (by kernel_rfl) (by kernel_rfl) (by kernel_rfl) (fun _ _ _ h => h) (Or.inl ⟨by rfl, ?y0_225101⟩) hHeld ?r0_225101
    case y0_225101 => intro w hSw; (try dsimp only at hSw); go_simp; try with_reducible rfl
    try simp only [Act.put, List.setIfInBounds_toArray, List.set_cons_zero, List.set_cons_succ]
    refine wpAnyH_take (i := 1) (oi := { dst := some 6, op := Go.Op.nilCheck (Go.Operand.tmp 5), type := 0, pos := "decode.go:72", after := #[{ on := 0, ground := Go.Ground.data }], guard := none }) (v := ?v1_225101) rfl (by kernel_rfl) (by kernel_rfl) (by kernel_rfl) (fun _ _ _ h => h) (Or.inl ⟨by rfl, ?y1_225101⟩) hHeld ?r1_225101
    case y1_225101 => intro w hSw; (try dsimp only at hSw); go_simp; try with_reducible rfl
    try simp only [Act.put, List.setIfInBounds_toArray, List.set_cons_zero, List.set_cons_succ]
    refine wpAnyH_take (i := 2) (oi := { dst := some 7, op := Go.Op.fieldAddr 73 (Go.Operand.tmp 6) 0, type := 0, pos := "decode.go:72", after := #[{ on := 1, ground := Go.Ground.data }], guard := none }) (v := ?v2_225101) rfl (by kernel_rfl) (by kernel_rfl) (by kernel_rfl) (fun _ _ _ h => h) (Or.inl ⟨by rfl, ?y2_225101⟩) hHeld ?r2_225101
    case y2_225101 => intro w hSw; (try dsimp only at hSw); go_simp; try with_reducible rfl
    try simp only [Act.put, List.setIfInBounds_toArray, List.set_cons_zero, List.set_cons_succ]
    refine wpAnyH_take (i := 3) (oi := { dst := some 8, op := Go.Op.load 9 (Go.Operand.tmp 7), type := 9, pos := "decode.go:72", after := #[{ on := 2, ground := Go.Ground.data }], guard := none }) (v := ?v3_225101) rfl (by kernel_rfl) (by kernel_rfl) (by kernel_rfl) (fun _ _ _ h => h) (Or.inl ⟨by rfl, ?y3_225101⟩) hHeld ?r3_225101
    case y3_225101 => intro w hSw; (try dsimp only at hSw); obtain ⟨c0, c1, c2, f1, f2⟩ := hSw.1.cells; go_simp; try with_reducible rfl
    try simp only [Act.put, List.setIfInBounds_toArray, List.set_cons_zero, List.set_cons_succ]
    refine wpAnyH_take (i := 4) (oi := { dst := some 9, op := Go.Op.call { callee := Go.Callee.builtin Go.Builtin.len, args := #[Go.Operand.tmp 8], argTypes := #[9] }, type := 3, pos := "decode.go:72", after := #[{ on := 3, ground := Go.Ground.data }], guard := none }) (v := ?v4_225101) rfl (by kernel_rfl) (by kernel_rfl) (by kernel_rfl) (fun _ _ _ h => h) (Or.inl ⟨by rfl, ?y4_225101⟩) hHeld ?r4_225101
    case y4_225101 => intro w hSw; (try dsimp only at hSw); go_simp; try with_reducible rfl
    try simp only [Act.put, List.setIfInBounds_toArray, List.set_cons_zero, List.set_cons_succ]
    refine wpAnyH_take (i := 5) (oi := { dst := some 10, op := Go.Op.move (Go.Operand.tmp 0), type := 71, pos := "decode.go:72", after := #[], guard := none }) (v := ?v5_225101) rfl (by kernel_rfl) (by kernel_rfl) (by kernel_rfl) (fun _ _ _ h => h) (Or.inl ⟨by rfl, ?y5_225101⟩) hHeld ?r5_225101
    case y5_225101 => intro w hSw; (try dsimp only at hSw); go_simp; try with_reducible rfl
    try simp only [Act.put, List.setIfInBounds_toArray, List.set_cons_zero, List.set_cons_succ]
    refine wpAnyH_take (i := 6) (oi := { dst := some 11, op := Go.Op.nilCheck (Go.Operand.tmp 10), type := 0, pos := "decode.go:72", after := #[{ on := 5, ground := Go.Ground.data }], guard := none }) (v := ?v6_225101) rfl (by kernel_rfl) (by kernel_rfl) (by kernel_rfl) (fun _ _ _ h => h) (Or.inl ⟨by rfl, ?y6_225101⟩) hHeld ?r6_225101
    case y6_225101 => intro w hSw; (try dsimp only at hSw); go_simp; try with_reducible rfl
    try simp only [Act.put, List.setIfInBounds_toArray, List.set_cons_zero, List.set_cons_succ]
    refine wpAnyH_take (i := 7) (oi := { dst := some 12, op := Go.Op.fieldAddr 73 (Go.Operand.tmp 11) 1, type := 0, pos := "decode.go:72", after := #[{ on := 6, ground := Go.Ground.data }], guard := none }) (v := ?v7_225101) rfl (by kernel_rfl) (by kernel_rfl) (by kernel_rfl) (fun _ _ _ h => h) (Or.inl ⟨by rfl, ?y7_225101⟩) hHeld ?r7_225101
    case y7_225101 => intro w hSw; (try dsimp only at hSw); go_simp; try with_reducible rfl
    try simp only [Act.put, List.setIfInBounds_toArray, List.set_cons_zero, List.set_cons_succ]
    refine wpAnyH_take (i := 8) (oi := { dst := some 13, op := Go.Op.load 3 (Go.Operand.tmp 12), type := 3, pos := "decode.go:72", after := #[{ on := 7, ground := Go.Ground.data }], guard := none }) (v := ?v8_225101) rfl (by kernel_rfl) (by kernel_rfl) (by kernel_rfl) (fun _ _ _ h => h) (Or.inl ⟨by rfl, ?y8_225101⟩) hHeld ?r8_225101
    case y8_225101 => intro w hSw; (try dsimp only at hSw); obtain ⟨c0, c1, c2, f1, f2⟩ := hSw.1.cells; go_simp; try with_reducible rfl
    try simp only [Act.put, List.setIfInBounds_toArray, List.set_cons_zero, List.set_cons_succ]
    refine wpAnyH_take (i := 9) (oi := { dst := some 14, op := Go.Op.binOp Go.BinOp.sub 3 (Go.Operand.tmp 9) (Go.Operand.tmp 13) 3, type := 3, pos := "decode.go:72", after := #[{ on := 4, ground := Go.Ground.data }, { on := 8, ground := Go.Ground.data }], guard := none }) (v := ?v9_225101) rfl (by kernel_rfl) (by kernel_rfl) (by kernel_rfl) (fun _ _ _ h => h) (Or.inl ⟨by rfl, ?y9_225101⟩) hHeld ?r9_225101
    case y9_225101 => intro w hSw; (try dsimp only at hSw); go_simp; try with_reducible rfl
    try simp only [Act.put, List.setIfInBounds_toArray, List.set_cons_zero, List.set_cons_succ]
    refine wpAnyH_take (i := 10) (oi := { dst := some 15, op := Go.Op.move (Go.Operand.tmp 1), type := 3, pos := "decode.go:72", after := #[], guard := none }) (v := ?v10_225101) rfl (by kernel_rfl) (by kernel_rfl) (by kernel_rfl) (fun _ _ _ h => h) (Or.inl ⟨by rfl, ?y10_225101⟩) hHeld ?r10_225101
    case y10_225101 => intro w hSw; (try dsimp only at hSw); go_simp; try with_reducible rfl
    try simp only [Act.put, List.setIfInBounds_toArray, List.set_cons_zero, List.set_cons_succ]
    refine wpAnyH_take (i := 11) (oi := { dst := some 16, op := Go.Op.binOp Go.BinOp.lss 3 (Go.Operand.tmp 14) (Go.Operand.tmp 15) 3, type := 4, pos := "decode.go:72", after := #[{ on := 9, ground := Go.Ground.data }, { on := 10, ground := Go.Ground.data }], guard := none }) (v := ?v11_225101) rfl (by kernel_rfl) (by kernel_rfl) (by kernel_rfl) (fun _ _ _ h => h) (Or.inl ⟨by rfl, ?y11_225101⟩) hHeld ?r11_225101
    case y11_225101 => intro w hSw; (try dsimp only at hSw); go_simp; try with_reducible rfl
    try simp only [Act.put, List.setIfInBounds_toArray, List.set_cons_zero, List.set_cons_succ]
    refine wpAnyH_done (by kernel_rfl) ?_ _
    go_wp2_with fail
    refine (fail_any q s a e 2 _ hHeld.1).mono ?_; rintro en w4 ⟨rfl, hr, hg⟩
    go_wp2
    go_ret
    exact ⟨⟨#[]⟩, a, _, rfl, Nat.zero_le _, hr, hHeld.2.trans hg, Stp.no (fun _ => HP.out) HA.out (by decide)⟩
end Go.Proofs.Ytgppkpdjpcegbaa
end

section
namespace Go.Proofs.Ytgppkpdjpcegbaa
open Go.RowKit

theorem Stp.seq {α β γ : Type} {s : ByteArray} {p : Option (α × Nat)} {f : Nat → Option (β × Nat)} {e e1 e2 : Int} {v : α} {u : β} {a1 a2 : Nat} (g : α → β → γ) (h1 : Stp s p e v a1 e1) (h2 : Stp s (f a1) e1 u a2 e2) : Stp s (p.bind fun x => (f x.2).map fun y => (g x.1 y.1, y.2)) e (g v u) a2 e2 := by
  refine ⟨h2.1, fun h => h2.2.1 (h1.2.1 h), fun h0 => ?_⟩
  obtain ⟨hy, hn⟩ := h1.2.2 h0
  cases p with
  | none => exact ⟨fun x b hx => (by cases hx), fun _ => h2.2.1 (hn rfl)⟩
  | some x =>
    obtain ⟨rfl, rfl, rfl⟩ := hy x.1 x.2 rfl
    obtain ⟨hy2, hn2⟩ := h2.2.2 rfl
    simp only [Option.bind_some]
    cases hf : f x.2 with
    | none => exact ⟨fun x b hx => (by cases hx), fun _ => hn2 hf⟩
    | some y =>
      obtain ⟨rfl, rfl, rfl⟩ := hy2 y.1 y.2 hf
      exact ⟨fun z b hz => by injection hz with hz; injection hz with h3 h4; exact ⟨h3, h4, rfl⟩, fun hz => (by cases hz)⟩
/-- Data of a type, up to its end: the parts. -/
def innP (s : ByteArray) (k : Int) (E a : Nat) : Option (ByteArray × Nat) :=
  if k = 2 ∨ k = 5 then nameP s a
  else if k = 15 then (takeP s 2 a).bind fun x => (nameP s x.2).map fun y => (x.1 ++ y.1, y.2)
  else if k = 6 then ((nameP s a).bind fun x => (nameP s x.2).map fun y => (x.1 ++ y.1, y.2)).bind fun x => (takeP s 20 x.2).map fun y => (x.1 ++ y.1, y.2)
  else takeP s (E - a) a
def dataP (s : ByteArray) (k : Int) (E a : Nat) : Option (ByteArray × Nat) := (innP s k E a).bind fun r => if r.2 = E then some r else none
theorem Stp.close {s : ByteArray} {p : Option (ByteArray × Nat)} {x : ByteArray} {a2 E : Nat} {e2 e3 : Int} (h : Stp s p 0 x a2 e2) (h3 : e3 = if e2 = 2 ∨ a2 ≠ E then 4 else e2) : Stp s (p.bind fun r => if r.2 = E then some r else none) 0 x a2 e3 := by
  obtain ⟨hy, hn⟩ := h.2.2 rfl
  refine ⟨h.1, fun h => absurd rfl h, fun _ => ?_⟩
  cases p with
  | none =>
    have := hn rfl
    exact ⟨fun y b hy => (by cases hy), fun _ => (by rw [h3]; split <;> omega)⟩
  | some r =>
    obtain ⟨rfl, rfl, rfl⟩ := hy r.1 r.2 rfl
    simp only [Option.bind_some]
    by_cases hE : r.2 = E
    · rw [if_pos hE]
      exact ⟨fun y b hy => by injection hy with hy; subst hy; exact ⟨rfl, rfl, (by rw [h3, if_neg (fun hh => hh.elim (by decide) (fun h => h hE))])⟩, fun hn => (by cases hn)⟩
    · rw [if_neg hE]
      exact ⟨fun y b hy => (by cases hy), fun _ => (by rw [h3, if_pos (Or.inr hE)]; decide)⟩

set_option maxRecDepth 100000 in
set_option maxHeartbeats 8000000 in
theorem data_r (q : Nat) (s : ByteArray) (a E : Nat) (k : Int) (w : World) (h : RdS w q s a 0) (ha : a ≤ E) (hE : E ≤ s.size) (hs : s.size ≤ 20000) :
    Calls Try.prog 74 #[.pointer (some ⟨q, 0, none⟩), .int .i64 k, .int .i64 (E : Int)] w fun en w' => ∃ v a' e', en = .returned (.string v) ∧ v.size ≤ 40000 ∧ RdS w' q s a' e' ∧ w.grownBy w' (some q) ∧ Stp s (dataP s k E a) 0 v a' e' := by
  have HR := Lib.hid h
  have HA := Lib.hid (show a ≤ s.size by omega)
  have HS := Lib.hid hs
  have HE := Lib.hid (show a ≤ E ∧ E ≤ s.size from ⟨ha, hE⟩)
  by_cases k2 : k = 2
  · have HIN := Lib.hid (show innP s k E a = nameP s a by rw [innP, if_pos (by omega)])
    have e2 := eT k2
    clear h ha hE hs k2 
    go_enter Try.func74, Try.ntmps74
    go_wp2_with fail
    refine (name_r q s a 0 _ HR.out HA.out HS.out).mono ?_; rintro en w_a1 ⟨v1, a1, e1, rfl, z1, r1, g1, s1⟩
    have Hr1 := Lib.hid r1
    have Hg1 := Lib.hid g1
    have Hs1 := Lib.hid s1
    have Hz1 := Lib.hid z1
    clear r1 g1 s1 z1
    have HST := Lib.hid (show Stp s (innP s k E a) 0 v1 a1 e1 from by rw [HIN.out]; exact Hs1.out)
    have HZZ := Lib.hid (show (v1).size ≤ 40000 by have := Hz1.out; omega)
    obtain ⟨xx, hxx⟩ : ∃ y, v1 = y := ⟨_, rfl⟩
    rw [hxx] at HST HZZ
    have HXX := Lib.hid hxx
    clear hxx
    obtain ⟨c0, c1, c2, f1, f2⟩ := Hr1.out.cells
    by_cases t2 : e1 = 2
    · have d9 := eT t2
      have HT2 := Lib.hid t2
      clear t2
      go_wp2
      go_ret
      exact ⟨xx, a1, 4, by rw [HXX.out]; rfl, HZZ.out, Hr1.out.er 4, (Hg1.out).trans (grown_cell _ _ _ _), HST.out.close (by rw [if_pos (Or.inl HT2.out)])⟩
    · have d9 := eF t2
      by_cases t3 : a1 = E
      · have HT := Lib.hid (show ¬ (e1 = 2 ∨ a1 ≠ E) by omega)
        clear t2
        subst t3
        have d8 : ((a1 : Int) != (a1 : Int)) = false := nF rfl
        go_wp2
        go_ret
        exact ⟨xx, a1, e1, by rw [HXX.out]; rfl, HZZ.out, Hr1.out, Hg1.out, HST.out.close (by rw [if_neg HT.out])⟩
      · have HT := Lib.hid (show e1 = 2 ∨ a1 ≠ E from Or.inr t3)
        have d8 : ((a1 : Int) != (E : Int)) = true := nT (by omega)
        clear t2 t3
        go_wp2
        go_ret
        exact ⟨xx, a1, 4, by rw [HXX.out]; rfl, HZZ.out, Hr1.out.er 4, (Hg1.out).trans (grown_cell _ _ _ _), HST.out.close (by rw [if_pos HT.out])⟩
  by_cases k5 : k = 5
  · have HIN := Lib.hid (show innP s k E a = nameP s a by rw [innP, if_pos (by omega)])
    have e5 := eT k5
    have e2 := eF k2
    clear h ha hE hs k5 k2
    go_enter Try.func74, Try.ntmps74
    go_wp2_with fail
    refine (name_r q s a 0 _ HR.out HA.out HS.out).mono ?_; rintro en w_a1 ⟨v1, a1, e1, rfl, z1, r1, g1, s1⟩
    have Hr1 := Lib.hid r1
    have Hg1 := Lib.hid g1
    have Hs1 := Lib.hid s1
    have Hz1 := Lib.hid z1
    clear r1 g1 s1 z1
    have HST := Lib.hid (show Stp s (innP s k E a) 0 v1 a1 e1 from by rw [HIN.out]; exact Hs1.out)
    have HZZ := Lib.hid (show (v1).size ≤ 40000 by have := Hz1.out; omega)
    obtain ⟨xx, hxx⟩ : ∃ y, v1 = y := ⟨_, rfl⟩
    rw [hxx] at HST HZZ
    have HXX := Lib.hid hxx
    clear hxx
    obtain ⟨c0, c1, c2, f1, f2⟩ := Hr1.out.cells
    by_cases t2 : e1 = 2
    · have d9 := eT t2
      have HT2 := Lib.hid t2
      clear t2
      go_wp2
      go_ret
      exact ⟨xx, a1, 4, by rw [HXX.out]; rfl, HZZ.out, Hr1.out.er 4, (Hg1.out).trans (grown_cell _ _ _ _), HST.out.close (by rw [if_pos (Or.inl HT2.out)])⟩
    · have d9 := eF t2
      by_cases t3 : a1 = E
      · have HT := Lib.hid (show ¬ (e1 = 2 ∨ a1 ≠ E) by omega)
        clear t2
        subst t3
        have d8 : ((a1 : Int) != (a1 : Int)) = false := nF rfl
        go_wp2
        go_ret
        exact ⟨xx, a1, e1, by rw [HXX.out]; rfl, HZZ.out, Hr1.out, Hg1.out, HST.out.close (by rw [if_neg HT.out])⟩
      · have HT := Lib.hid (show e1 = 2 ∨ a1 ≠ E from Or.inr t3)
        have d8 : ((a1 : Int) != (E : Int)) = true := nT (by omega)
        clear t2 t3
        go_wp2
        go_ret
        exact ⟨xx, a1, 4, by rw [HXX.out]; rfl, HZZ.out, Hr1.out.er 4, (Hg1.out).trans (grown_cell _ _ _ _), HST.out.close (by rw [if_pos HT.out])⟩
  by_cases k15 : k = 15
  · have HIN := Lib.hid (show innP s k E a = (takeP s 2 a).bind fun x => (nameP s x.2).map fun y => (x.1 ++ y.1, y.2) by rw [innP, if_neg (by omega), if_pos k15])
    have e2 := eF k2
    have e5 := eF k5
    have e15 := eT k15
    clear h ha hE hs k2 k5 k15
    go_enter Try.func74, Try.ntmps74
    go_wp2_with fail
    refine (take_r q s a 2 0 _ HR.out HA.out HS.out (by decide)).mono ?_; rintro en w_a1 ⟨v1, a1, e1, rfl, z1, r1, g1, s1⟩
    have Hr1 := Lib.hid r1
    have Hg1 := Lib.hid g1
    have Hs1 := Lib.hid s1
    have Hz1 := Lib.hid z1
    clear r1 g1 s1 z1
    go_wp2_with fail
    refine (name_r q s a1 e1 _ Hr1.out Hs1.out.1 HS.out).mono ?_; rintro en w_a2 ⟨v2, a2, e2', rfl, z2, r2, g2, s2⟩
    have Hr2 := Lib.hid r2
    have Hg2 := Lib.hid g2
    have Hs2 := Lib.hid s2
    have Hz2 := Lib.hid z2
    clear r2 g2 s2 z2
    have hcc : (9223372036854775807 < v1.size + v2.size) = False := eq_false (by have := Hz1.out; have := Hz2.out; omega)
    have HST := Lib.hid (show Stp s (innP s k E a) 0 (v1 ++ v2) a2 e2' from by rw [HIN.out]; exact (Stp.seq (fun x y => x ++ y) Hs1.out Hs2.out))
    have HZZ := Lib.hid (show ((v1 ++ v2)).size ≤ 40000 by rw [ByteArray.size_append]; have := Hz1.out; have := Hz2.out; omega)
    obtain ⟨xx, hxx⟩ : ∃ y, (v1 ++ v2) = y := ⟨_, rfl⟩
    rw [hxx] at HST HZZ
    have HXX := Lib.hid hxx
    clear hxx
    obtain ⟨c0, c1, c2, f1, f2⟩ := Hr2.out.cells
    by_cases t2 : e2' = 2
    · have d9 := eT t2
      have HT2 := Lib.hid t2
      clear t2
      go_wp2
      go_ret
      exact ⟨xx, a2, 4, by rw [HXX.out]; rfl, HZZ.out, Hr2.out.er 4, ((Hg1.out.trans Hg2.out)).trans (grown_cell _ _ _ _), HST.out.close (by rw [if_pos (Or.inl HT2.out)])⟩
    · have d9 := eF t2
      by_cases t3 : a2 = E
      · have HT := Lib.hid (show ¬ (e2' = 2 ∨ a2 ≠ E) by omega)
        clear t2
        subst t3
        have d8 : ((a2 : Int) != (a2 : Int)) = false := nF rfl
        go_wp2
        go_ret
        exact ⟨xx, a2, e2', by rw [HXX.out]; rfl, HZZ.out, Hr2.out, (Hg1.out.trans Hg2.out), HST.out.close (by rw [if_neg HT.out])⟩
      · have HT := Lib.hid (show e2' = 2 ∨ a2 ≠ E from Or.inr t3)
        have d8 : ((a2 : Int) != (E : Int)) = true := nT (by omega)
        clear t2 t3
        go_wp2
        go_ret
        exact ⟨xx, a2, 4, by rw [HXX.out]; rfl, HZZ.out, Hr2.out.er 4, ((Hg1.out.trans Hg2.out)).trans (grown_cell _ _ _ _), HST.out.close (by rw [if_pos HT.out])⟩
  by_cases k6 : k = 6
  · have HIN := Lib.hid (show innP s k E a = ((nameP s a).bind fun x => (nameP s x.2).map fun y => (x.1 ++ y.1, y.2)).bind fun x => (takeP s 20 x.2).map fun y => (x.1 ++ y.1, y.2) by rw [innP, if_neg (by omega), if_neg k15, if_pos k6])
    have e2 := eF k2
    have e5 := eF k5
    have e15 := eF k15
    have e6 := eT k6
    clear h ha hE hs k2 k5 k15 k6
    go_enter Try.func74, Try.ntmps74
    go_wp2_with fail
    refine (name_r q s a 0 _ HR.out HA.out HS.out).mono ?_; rintro en w_a1 ⟨v1, a1, e1, rfl, z1, r1, g1, s1⟩
    have Hr1 := Lib.hid r1
    have Hg1 := Lib.hid g1
    have Hs1 := Lib.hid s1
    have Hz1 := Lib.hid z1
    clear r1 g1 s1 z1
    go_wp2_with fail
    refine (name_r q s a1 e1 _ Hr1.out Hs1.out.1 HS.out).mono ?_; rintro en w_a2 ⟨v2, a2, e2', rfl, z2, r2, g2, s2⟩
    have Hr2 := Lib.hid r2
    have Hg2 := Lib.hid g2
    have Hs2 := Lib.hid s2
    have Hz2 := Lib.hid z2
    clear r2 g2 s2 z2
    have hcc : (9223372036854775807 < v1.size + v2.size) = False := eq_false (by have := Hz1.out; have := Hz2.out; omega)
    go_wp2_with fail
    refine (take_r q s a2 20 e2' _ Hr2.out Hs2.out.1 HS.out (by decide)).mono ?_; rintro en w_a3 ⟨v3, a3, e3, rfl, z3, r3, g3, s3⟩
    have Hr3 := Lib.hid r3
    have Hg3 := Lib.hid g3
    have Hs3 := Lib.hid s3
    have Hz3 := Lib.hid z3
    clear r3 g3 s3 z3
    have hcd : (9223372036854775807 < v1.size + v2.size + v3.size) = False := eq_false (by have := Hz1.out; have := Hz2.out; have := Hz3.out; omega)
    have HST := Lib.hid (show Stp s (innP s k E a) 0 ((v1 ++ v2) ++ v3) a3 e3 from by rw [HIN.out]; exact (Stp.seq (fun x y => x ++ y) (Stp.seq (fun x y => x ++ y) Hs1.out Hs2.out) Hs3.out))
    have HZZ := Lib.hid (show (((v1 ++ v2) ++ v3)).size ≤ 40000 by rw [ByteArray.size_append, ByteArray.size_append]; have := Hz1.out; have := Hz2.out; have := Hz3.out; omega)
    obtain ⟨xx, hxx⟩ : ∃ y, ((v1 ++ v2) ++ v3) = y := ⟨_, rfl⟩
    rw [hxx] at HST HZZ
    have HXX := Lib.hid hxx
    clear hxx
    obtain ⟨c0, c1, c2, f1, f2⟩ := Hr3.out.cells
    by_cases t2 : e3 = 2
    · have d9 := eT t2
      have HT2 := Lib.hid t2
      clear t2
      go_wp2
      go_ret
      exact ⟨xx, a3, 4, by rw [HXX.out]; rfl, HZZ.out, Hr3.out.er 4, (((Hg1.out.trans Hg2.out).trans Hg3.out)).trans (grown_cell _ _ _ _), HST.out.close (by rw [if_pos (Or.inl HT2.out)])⟩
    · have d9 := eF t2
      by_cases t3 : a3 = E
      · have HT := Lib.hid (show ¬ (e3 = 2 ∨ a3 ≠ E) by omega)
        clear t2
        subst t3
        have d8 : ((a3 : Int) != (a3 : Int)) = false := nF rfl
        go_wp2
        go_ret
        exact ⟨xx, a3, e3, by rw [HXX.out]; rfl, HZZ.out, Hr3.out, ((Hg1.out.trans Hg2.out).trans Hg3.out), HST.out.close (by rw [if_neg HT.out])⟩
      · have HT := Lib.hid (show e3 = 2 ∨ a3 ≠ E from Or.inr t3)
        have d8 : ((a3 : Int) != (E : Int)) = true := nT (by omega)
        clear t2 t3
        go_wp2
        go_ret
        exact ⟨xx, a3, 4, by rw [HXX.out]; rfl, HZZ.out, Hr3.out.er 4, (((Hg1.out.trans Hg2.out).trans Hg3.out)).trans (grown_cell _ _ _ _), HST.out.close (by rw [if_pos HT.out])⟩
  have HIN := Lib.hid (show innP s k E a = takeP s (E - a) a by rw [innP, if_neg (by omega), if_neg k15, if_neg k6])
  have e2 := eF k2
  have e5 := eF k5
  have e15 := eF k15
  have e6 := eF k6
  obtain ⟨r, hr⟩ : ∃ r, E - a = r := ⟨_, rfl⟩
  have hws : IntKind.i64.wrap ((E : Int) - (a : Int)) = (r : Int) := by rw [IntKind.wrap_i64]; omega
  have HRR := Lib.hid (show r ≤ 70000 by omega)
  rw [hr] at HIN
  obtain ⟨c0, c1, c2, f1, f2⟩ := h.cells
  clear h ha hE hs k2 k5 k15 k6 hr
  go_enter Try.func74, Try.ntmps74
  go_wp2_with fail
  refine (take_r q s a r 0 _ HR.out HA.out HS.out HRR.out).mono ?_; rintro en w_a1 ⟨v1, a1, e1, rfl, z1, r1, g1, s1⟩
  have Hr1 := Lib.hid r1
  have Hg1 := Lib.hid g1
  have Hs1 := Lib.hid s1
  have Hz1 := Lib.hid z1
  clear r1 g1 s1 z1
  clear c0 c1 c2 f1 f2 hws
  have HST := Lib.hid (show Stp s (innP s k E a) 0 v1 a1 e1 from by rw [HIN.out]; exact Hs1.out)
  have HZZ := Lib.hid (show (v1).size ≤ 40000 by have := Hz1.out; omega)
  obtain ⟨xx, hxx⟩ : ∃ y, v1 = y := ⟨_, rfl⟩
  rw [hxx] at HST HZZ
  have HXX := Lib.hid hxx
  clear hxx
  obtain ⟨c0, c1, c2, f1, f2⟩ := Hr1.out.cells
  by_cases t2 : e1 = 2
  · have d9 := eT t2
    have HT2 := Lib.hid t2
    clear t2
    go_wp2
    go_ret
    exact ⟨xx, a1, 4, by rw [HXX.out]; rfl, HZZ.out, Hr1.out.er 4, (Hg1.out).trans (grown_cell _ _ _ _), HST.out.close (by rw [if_pos (Or.inl HT2.out)])⟩
  · have d9 := eF t2
    by_cases t3 : a1 = E
    · have HT := Lib.hid (show ¬ (e1 = 2 ∨ a1 ≠ E) by omega)
      clear t2
      subst t3
      have d8 : ((a1 : Int) != (a1 : Int)) = false := nF rfl
      go_wp2
      go_ret
      exact ⟨xx, a1, e1, by rw [HXX.out]; rfl, HZZ.out, Hr1.out, Hg1.out, HST.out.close (by rw [if_neg HT.out])⟩
    · have HT := Lib.hid (show e1 = 2 ∨ a1 ≠ E from Or.inr t3)
      have d8 : ((a1 : Int) != (E : Int)) = true := nT (by omega)
      clear t2 t3
      go_wp2
      go_ret
      exact ⟨xx, a1, 4, by rw [HXX.out]; rfl, HZZ.out, Hr1.out.er 4, (Hg1.out).trans (grown_cell _ _ _ _), HST.out.close (by rw [if_pos HT.out])⟩
end Go.Proofs.Ytgppkpdjpcegbaa
end

section
namespace Go.Proofs.Ytgppkpdjpcegbaa
open Go.RowKit

theorem Stp.map {α β : Type} {s : ByteArray} {p : Option (α × Nat)} {e e' : Int} {v : α} {a' : Nat} (g : α → β) (h : Stp s p e v a' e') : Stp s (p.map fun d => (g d.1, d.2)) e (g v) a' e' := by
  refine ⟨h.1, h.2.1, fun h0 => ?_⟩
  obtain ⟨hy, hn⟩ := h.2.2 h0
  cases p with
  | none => exact ⟨fun x b hx => (by cases hx), fun _ => hn rfl⟩
  | some x =>
    obtain ⟨rfl, rfl, rfl⟩ := hy x.1 x.2 rfl
    exact ⟨fun z b hz => by injection hz with hz; injection hz with h3 h4; exact ⟨h3, h4, rfl⟩, fun hz => (by cases hz)⟩
theorem Stp.fail {α β : Type} {s : ByteArray} {p : Option (α × Nat)} {f : α × Nat → Option (β × Nat)} {e e1 e2 : Int} {v : α} {u : β} {a1 a2 : Nat} (h : Stp s p e v a1 e1) (h2 : e2 ≠ 0) (hf : e1 = 0 → f (v, a1) = none) (ha : a2 ≤ s.size) : Stp s (p.bind f) e u a2 e2 := by
  refine ⟨ha, fun _ => h2, fun h0 => ?_⟩
  obtain ⟨hy, hn⟩ := h.2.2 h0
  cases p with
  | none => exact ⟨fun x b hx => (by cases hx), fun _ => h2⟩
  | some x =>
    obtain ⟨rfl, rfl, rfl⟩ := hy x.1 x.2 rfl
    have hf' : f x = none := hf rfl
    simp only [Option.bind_some, hf']
    exact ⟨fun z b hz => (by cases hz), fun _ => h2⟩
theorem Stp.go {α β : Type} {s : ByteArray} {p : Option (α × Nat)} {f : α × Nat → Option (β × Nat)} {e e1 e2 : Int} {v : α} {u : β} {a1 a2 : Nat} (h : Stp s p e v a1 e1) (h1 : e1 = 0) (hf : Stp s (f (v, a1)) 0 u a2 e2) : Stp s (p.bind f) e u a2 e2 := by
  refine ⟨hf.1, fun h0 => absurd h1 (h.2.1 h0), fun h0 => ?_⟩
  obtain ⟨hy, hn⟩ := h.2.2 h0
  cases p with
  | none => exact absurd h1 (hn rfl)
  | some x =>
    obtain ⟨rfl, rfl, -⟩ := hy x.1 x.2 rfl
    exact hf.2.2 rfl
/-- The parts of a record ahead of its data. -/
def hdP (s : ByteArray) (a : Nat) : Option (((((ByteArray × Int) × Int) × Int) × Int) × Nat) :=
  ((((nameP s a).bind fun x => (numP s 2 x.2).map fun y => ((x.1, y.1), y.2)).bind fun x => (numP s 2 x.2).map fun y => ((x.1, y.1), y.2)).bind fun x => (numP s 4 x.2).map fun y => ((x.1, y.1), y.2)).bind fun x => (numP s 2 x.2).map fun y => ((x.1, y.1), y.2)
def recF (s : ByteArray) (x : ((((ByteArray × Int) × Int) × Int) × Int) × Nat) : Option (R5 × Nat) :=
  if x.2 + x.1.2.toNat ≤ s.size then (dataP s x.1.1.1.1.2 (x.2 + x.1.2.toNat) x.2).map fun d => (⟨⟨x.1.1.1.1.1, x.1.1.1.1.2, x.1.1.1.2⟩, x.1.1.2, d.1⟩, d.2) else none
def recP (s : ByteArray) (a : Nat) : Option (R5 × Nat) := (hdP s a).bind (recF s)

set_option maxRecDepth 100000 in
set_option maxHeartbeats 16000000 in
theorem record_r (q : Nat) (s : ByteArray) (a : Nat) (e : Int) (w : World) (h : RdS w q s a e) (ha : a ≤ s.size) (hs : s.size ≤ 20000) :
    Calls Try.prog 65 #[.pointer (some ⟨q, 0, none⟩)] w fun en w' => ∃ (r : R5) (a' : Nat) (e' : Int), en = .returned (.agg #[.string r.k.n, .int .i64 r.k.t, .int .i64 r.k.c, .int .i64 r.ttl, .string r.d]) ∧ (r.k.n.size ≤ 255 ∧ r.d.size ≤ 40000) ∧ RdS w' q s a' e' ∧ w.grownBy w' (some q) ∧ Stp s (recP s a) e r a' e' := by
  have hba := (Below.refl w.heap.size w).alloc (Nat.le_refl _) (.cells #[.string ⟨#[]⟩, .int .i64 0, .int .i64 0, .int .i64 0, .string ⟨#[]⟩] 77)
  have HC := Lib.hid (CN.new w #[.string ⟨#[]⟩, .int .i64 0, .int .i64 0, .int .i64 0, .string ⟨#[]⟩] 77)
  have HR := Lib.hid (h.below hba)
  have HG := Lib.hid (below_grown hba (some q))
  have HNE := Lib.hid (show q < w.heap.size from h.1.1)
  have HA := Lib.hid ha
  have HS := Lib.hid hs
  obtain ⟨w1, hw1⟩ : ∃ x, w.alloc (.cells #[.string ⟨#[]⟩, .int .i64 0, .int .i64 0, .int .i64 0, .string ⟨#[]⟩] 77) = x := ⟨_, rfl⟩
  obtain ⟨q2, hq2⟩ : ∃ x, w.heap.size = x := ⟨_, rfl⟩
  rw [hw1] at HC HR HG
  rw [hq2] at HC HNE
  have HW := Lib.hid hw1
  have HQ := Lib.hid hq2
  clear h ha hs hba hw1 hq2
  go_enter Try.func65, Try.ntmps65
  go_wp2_with fail
  rw [HW.out, HQ.out]
  clear HW
  refine (name_r q s a e _ HR.out HA.out HS.out).mono ?_; rintro en w2 ⟨v1, a1, e1, rfl, hz, hr, hg, hst⟩
  replace HC := Lib.hid (HC.out.grown hg (fun e => by injection e with e; have := HNE.out; omega))
  replace HG := Lib.hid (HG.out.trans hg)
  replace HR := Lib.hid hr
  have HZ2 := Lib.hid hz
  have HST2 := Lib.hid hst
  replace HA := Lib.hid hst.1
  clear hz hr hg hst
  go_wp2_with fail
  refine (number_any q s a1 2 e1 _ HR.out HA.out HS.out (by decide)).mono ?_; rintro en w3 ⟨vt, a2, e2, rfl, hz, hr, hg, hst⟩
  replace HC := Lib.hid (HC.out.grown hg (fun e => by injection e with e; have := HNE.out; omega))
  replace HG := Lib.hid (HG.out.trans hg)
  replace HR := Lib.hid hr
  have HZ3 := Lib.hid hz
  have HST3 := Lib.hid hst
  replace HA := Lib.hid hst.1
  clear hz hr hg hst
  go_wp2_with fail
  refine (number_any q s a2 2 e2 _ HR.out HA.out HS.out (by decide)).mono ?_; rintro en w4 ⟨vc, a3, e3, rfl, hz, hr, hg, hst⟩
  replace HC := Lib.hid (HC.out.grown hg (fun e => by injection e with e; have := HNE.out; omega))
  replace HG := Lib.hid (HG.out.trans hg)
  replace HR := Lib.hid hr
  have HZ4 := Lib.hid hz
  have HST4 := Lib.hid hst
  replace HA := Lib.hid hst.1
  clear hz hr hg hst
  go_wp2_with fail
  refine (number_any q s a3 4 e3 _ HR.out HA.out HS.out (by decide)).mono ?_; rintro en w5 ⟨vu, a4, e4, rfl, hz, hr, hg, hst⟩
  replace HC := Lib.hid (HC.out.grown hg (fun e => by injection e with e; have := HNE.out; omega))
  replace HG := Lib.hid (HG.out.trans hg)
  replace HR := Lib.hid hr
  have HZ5 := Lib.hid hz
  have HST5 := Lib.hid hst
  replace HA := Lib.hid hst.1
  clear hz hr hg hst
  have hba := (Below.refl w5.heap.size w5).alloc (Nat.le_refl _) (.cells #[.string v1, .int .i64 vt, .int .i64 vc, .int .i64 vu, .string ⟨#[]⟩] 77)
  have HX := Lib.hid (CN.new w5 #[.string v1, .int .i64 vt, .int .i64 vc, .int .i64 vu, .string ⟨#[]⟩] 77)
  replace HR := Lib.hid (HR.out.below hba)
  have HG5 := Lib.hid HG.out.size
  replace HG := Lib.hid (HG.out.trans (below_grown hba (some q)))
  have HQL := Lib.hid HC.out.1
  replace HC := Lib.hid (HC.out.below hba)
  obtain ⟨w6, hw⟩ : ∃ x, w5.alloc (.cells #[.string v1, .int .i64 vt, .int .i64 vc, .int .i64 vu, .string ⟨#[]⟩] 77) = x := ⟨_, rfl⟩
  obtain ⟨q3, hq3⟩ : ∃ x, w5.heap.size = x := ⟨_, rfl⟩
  rw [hw] at HX HR HG HC
  rw [hq3] at HX HG5 HQL
  have HW := Lib.hid hw
  have HQ3 := Lib.hid hq3
  clear hba hw hq3
  go_upto_region 2 with (fail)
  rw [HW.out, HQ3.out]
  clear HW HQ3
  go_wp2_with fail
  refine (number_any q s a4 2 e4 _ HR.out HA.out HS.out (by decide)).mono ?_; rintro en w7 ⟨vz, a5, e5, rfl, hz, hr, hg, hst⟩
  replace HC := Lib.hid (HC.out.grown hg (fun e => by injection e with e; have := HNE.out; omega))
  replace HG := Lib.hid (HG.out.trans hg)
  replace HR := Lib.hid hr
  have HZ7 := Lib.hid hz
  have HST7 := Lib.hid hst
  replace HX := Lib.hid (HX.out.grown hg (fun e => by injection e with e; have := HNE.out; have := HQL.out; omega))
  replace HA := Lib.hid hst.1
  clear hz hr hg hst
  obtain ⟨z, rfl⟩ : ∃ z : Nat, vz = (z : Int) := ⟨vz.toNat, by have := HZ7.out.1; omega⟩
  have HH := Lib.hid (Stp.seq Prod.mk (Stp.seq Prod.mk (Stp.seq Prod.mk (Stp.seq Prod.mk HST2.out HST3.out) HST4.out) HST5.out) HST7.out)
  have HZZ := Lib.hid (show z < 65536 by have := HZ7.out.2; omega)
  clear HST2 HST3 HST4 HST5 HST7 HZ3 HZ4 HZ5 HZ7
  go_upto_region 3 with (fail)
  obtain ⟨r, hr⟩ : ∃ r, s.size - a5 = r := ⟨_, rfl⟩
  have hws : IntKind.i64.wrap ((s.size : Int) - (a5 : Int)) = (r : Int) := by rw [IntKind.wrap_i64]; have := HA.out; have := HS.out; omega
  by_cases g1 : r < z
  · have d1 := dT g1
    have HLK := Lib.hid (show ¬ a5 + z ≤ s.size by have := HA.out; omega)
    clear hr g1
    refine wp_region_held_drew (S := (fun wx => RdS wx q s a5 e5 ∧ Below w7.heap.size w7 wx)) (by kernel_rfl) (⟨HR.out.drew, (Below.refl _ _).drew⟩) (fun hHeld => ?_)
    obtain ⟨wz, hwd⟩ : ∃ x, w7.drew = x := ⟨_, rfl⟩
    rw [hwd] at hHeld ⊢
    clear hwd
    refine wpAnyH_take (i := 0) (oi := { dst := some 16, op := Go.Op.move (Go.Operand.tmp 0), type := 71, pos := "decode.go:110", after := #[], guard := none }) (v := ?v0_230101) rfl (by kernel_rfl) (by kernel_rfl) (by kernel_rfl) (fun _ _ _ h => h) (Or.inl ⟨by rfl, ?y0_230101⟩) hHeld ?r0_230101
    case y0_230101 => intro w hSw; (try dsimp only at hSw); go_simp; try with_reducible rfl
    try simp only [Act.put, List.setIfInBounds_toArray, List.set_cons_zero, List.set_cons_succ]
    refine wpAnyH_take (i := 1) (oi := { dst := some 17, op := Go.Op.nilCheck (Go.Operand.tmp 16), type := 0, pos := "decode.go:110", after := #[{ on := 0, ground := Go.Ground.data }], guard := none }) (v := ?v1_230101) rfl (by kernel_rfl) (by kernel_rfl) (by kernel_rfl) (fun _ _ _ h => h) (Or.inl ⟨by rfl, ?y1_230101⟩) hHeld ?r1_230101
    case y1_230101 => intro w hSw; (try dsimp only at hSw); go_simp; try with_reducible rfl
    try simp only [Act.put, List.setIfInBounds_toArray, List.set_cons_zero, List.set_cons_succ]
    refine wpAnyH_take (i := 2) (oi := { dst := some 18, op := Go.Op.fieldAddr 73 (Go.Operand.tmp 17) 0, type := 0, pos := "decode.go:110", after := #[{ on := 1, ground := Go.Ground.data }], guard := none }) (v := ?v2_230101) rfl (by kernel_rfl) (by kernel_rfl) (by kernel_rfl) (fun _ _ _ h => h) (Or.inl ⟨by rfl, ?y2_230101⟩) hHeld ?r2_230101
    case y2_230101 => intro w hSw; (try dsimp only at hSw); go_simp; try with_reducible rfl
    try simp only [Act.put, List.setIfInBounds_toArray, List.set_cons_zero, List.set_cons_succ]
    refine wpAnyH_take (i := 3) (oi := { dst := some 19, op := Go.Op.load 9 (Go.Operand.tmp 18), type := 9, pos := "decode.go:110", after := #[{ on := 2, ground := Go.Ground.data }], guard := none }) (v := ?v3_230101) rfl (by kernel_rfl) (by kernel_rfl) (by kernel_rfl) (fun _ _ _ h => h) (Or.inl ⟨by rfl, ?y3_230101⟩) hHeld ?r3_230101
    case y3_230101 => intro w hSw; (try dsimp only at hSw); obtain ⟨c0, c1, c2, f1, f2⟩ := hSw.1.cells; go_simp; try with_reducible rfl
    try simp only [Act.put, List.setIfInBounds_toArray, List.set_cons_zero, List.set_cons_succ]
    refine wpAnyH_take (i := 4) (oi := { dst := some 20, op := Go.Op.call { callee := Go.Callee.builtin Go.Builtin.len, args := #[Go.Operand.tmp 19], argTypes := #[9] }, type := 3, pos := "decode.go:110", after := #[{ on := 3, ground := Go.Ground.data }], guard := none }) (v := ?v4_230101) rfl (by kernel_rfl) (by kernel_rfl) (by kernel_rfl) (fun _ _ _ h => h) (Or.inl ⟨by rfl, ?y4_230101⟩) hHeld ?r4_230101
    case y4_230101 => intro w hSw; (try dsimp only at hSw); go_simp; try with_reducible rfl
    try simp only [Act.put, List.setIfInBounds_toArray, List.set_cons_zero, List.set_cons_succ]
    refine wpAnyH_take (i := 5) (oi := { dst := some 21, op := Go.Op.move (Go.Operand.tmp 0), type := 71, pos := "decode.go:110", after := #[], guard := none }) (v := ?v5_230101) rfl (by kernel_rfl) (by kernel_rfl) (by kernel_rfl) (fun _ _ _ h => h) (Or.inl ⟨by rfl, ?y5_230101⟩) hHeld ?r5_230101
    case y5_230101 => intro w hSw; (try dsimp only at hSw); go_simp; try with_reducible rfl
    try simp only [Act.put, List.setIfInBounds_toArray, List.set_cons_zero, List.set_cons_succ]
    refine wpAnyH_take (i := 6) (oi := { dst := some 22, op := Go.Op.nilCheck (Go.Operand.tmp 21), type := 0, pos := "decode.go:110", after := #[{ on := 5, ground := Go.Ground.data }], guard := none }) (v := ?v6_230101) rfl (by kernel_rfl) (by kernel_rfl) (by kernel_rfl) (fun _ _ _ h => h) (Or.inl ⟨by rfl, ?y6_230101⟩) hHeld ?r6_230101
    case y6_230101 => intro w hSw; (try dsimp only at hSw); go_simp; try with_reducible rfl
    try simp only [Act.put, List.setIfInBounds_toArray, List.set_cons_zero, List.set_cons_succ]
    refine wpAnyH_take (i := 7) (oi := { dst := some 23, op := Go.Op.fieldAddr 73 (Go.Operand.tmp 22) 1, type := 0, pos := "decode.go:110", after := #[{ on := 6, ground := Go.Ground.data }], guard := none }) (v := ?v7_230101) rfl (by kernel_rfl) (by kernel_rfl) (by kernel_rfl) (fun _ _ _ h => h) (Or.inl ⟨by rfl, ?y7_230101⟩) hHeld ?r7_230101
    case y7_230101 => intro w hSw; (try dsimp only at hSw); go_simp; try with_reducible rfl
    try simp only [Act.put, List.setIfInBounds_toArray, List.set_cons_zero, List.set_cons_succ]
    refine wpAnyH_take (i := 8) (oi := { dst := some 24, op := Go.Op.load 3 (Go.Operand.tmp 23), type := 3, pos := "decode.go:110", after := #[{ on := 7, ground := Go.Ground.data }], guard := none }) (v := ?v8_230101) rfl (by kernel_rfl) (by kernel_rfl) (by kernel_rfl) (fun _ _ _ h => h) (Or.inl ⟨by rfl, ?y8_230101⟩) hHeld ?r8_230101
    case y8_230101 => intro w hSw; (try dsimp only at hSw); obtain ⟨c0, c1, c2, f1, f2⟩ := hSw.1.cells; go_simp; try with_reducible rfl
    try simp only [Act.put, List.setIfInBounds_toArray, List.set_cons_zero, List.set_cons_succ]
    refine wpAnyH_take (i := 9) (oi := { dst := some 25, op := Go.Op.binOp Go.BinOp.sub 3 (Go.Operand.tmp 20) (Go.Operand.tmp 24) 3, type := 3, pos := "decode.go:110", after := #[{ on := 4, ground := Go.Ground.data }, { on := 8, ground := Go.Ground.data }], guard := none }) (v := ?v9_230101) rfl (by kernel_rfl) (by kernel_rfl) (by kernel_rfl) (fun _ _ _ h => h) (Or.inl ⟨by rfl, ?y9_230101⟩) hHeld ?r9_230101
    case y9_230101 => intro w hSw; (try dsimp only at hSw); go_simp; try with_reducible rfl
    try simp only [Act.put, List.setIfInBounds_toArray, List.set_cons_zero, List.set_cons_succ]
    refine wpAnyH_take (i := 10) (oi := { dst := some 26, op := Go.Op.move (Go.Operand.tmp 4), type := 3, pos := "decode.go:110", after := #[], guard := none }) (v := ?v10_230101) rfl (by kernel_rfl) (by kernel_rfl) (by kernel_rfl) (fun _ _ _ h => h) (Or.inl ⟨by rfl, ?y10_230101⟩) hHeld ?r10_230101
    case y10_230101 => intro w hSw; (try dsimp only at hSw); go_simp; try with_reducible rfl
    try simp only [Act.put, List.setIfInBounds_toArray, List.set_cons_zero, List.set_cons_succ]
    refine wpAnyH_take (i := 11) (oi := { dst := some 27, op := Go.Op.binOp Go.BinOp.lss 3 (Go.Operand.tmp 25) (Go.Operand.tmp 26) 3, type := 4, pos := "decode.go:110", after := #[{ on := 9, ground := Go.Ground.data }, { on := 10, ground := Go.Ground.data }], guard := none }) (v := ?v11_230101) rfl (by kernel_rfl) (by kernel_rfl) (by kernel_rfl) (fun _ _ _ h => h) (Or.inl ⟨by rfl, ?y11_230101⟩) hHeld ?r11_230101
    case y11_230101 => intro w hSw; (try dsimp only at hSw); go_simp; try with_reducible rfl
    try simp only [Act.put, List.setIfInBounds_toArray, List.set_cons_zero, List.set_cons_succ]
    refine wpAnyH_done (by kernel_rfl) ?_ _
    replace HC := Lib.hid (HC.out.below hHeld.2)
    replace HX := Lib.hid (HX.out.below hHeld.2)
    replace HG := Lib.hid (HG.out.trans (below_grown hHeld.2 (some q)))
    replace HR := Lib.hid hHeld.1
    clear hHeld hws
    go_wp2_with fail
    refine (fail_any q s a5 e5 2 _ HR.out).mono ?_; rintro en w8 ⟨rfl, hr, hg⟩
    replace HC := Lib.hid (HC.out.grown hg (fun e => by injection e with e; have := HNE.out; omega))
    replace HG := Lib.hid (HG.out.trans hg)
    replace HR := Lib.hid hr
    clear hr hg
    have HE0 := Lib.hid (show (if e5 = 0 then (2 : Int) else e5) ≠ 0 by split <;> omega)
    obtain ⟨e6, he6⟩ : ∃ x, (if e5 = 0 then (2 : Int) else e5) = x := ⟨_, rfl⟩
    rw [he6] at HE0 HR
    clear he6
    have d2 := nT HE0.out
    obtain ⟨c0, c1, c2, f1, f2⟩ := HR.out.cells
    obtain ⟨y0, y1, y2, y3, y4, g0, g1, g2, g3, g4⟩ := HC.out.u5
    have HCZ := Lib.hid (HC.out.s5 (.string ⟨#[]⟩) (.int .i64 0) (.int .i64 0) (.int .i64 0) (.string ⟨#[]⟩))
    have HGZ := Lib.hid (grown_s5 w8 q2 (.string ⟨#[]⟩) (.int .i64 0) (.int .i64 0) (.int .i64 0) (.string ⟨#[]⟩))
    have HRZ := Lib.hid (show RdS (((((w8.setCell ⟨q2, 0, none⟩ (.string ⟨#[]⟩)).setCell ⟨q2, 1, none⟩ (.int .i64 0)).setCell ⟨q2, 2, none⟩ (.int .i64 0)).setCell ⟨q2, 3, none⟩ (.int .i64 0)).setCell ⟨q2, 4, none⟩ (.string ⟨#[]⟩)) q s a5 e6 from ⟨HR.out.1.grown HGZ.out (fun e => by injection e with e; have := HNE.out; omega), HR.out.2.grown HGZ.out (fun e => by injection e with e; have := HNE.out; omega)⟩)
    have HGA := Lib.hid (HG.out.andThen HGZ.out (fun j hj => by injection hj with hj; rw [HQ.out]; omega))
    go_wp2
    obtain ⟨wq, hwq⟩ : ∃ x, (((((w8.setCell ⟨q2, 0, none⟩ (.string ⟨#[]⟩)).setCell ⟨q2, 1, none⟩ (.int .i64 0)).setCell ⟨q2, 2, none⟩ (.int .i64 0)).setCell ⟨q2, 3, none⟩ (.int .i64 0)).setCell ⟨q2, 4, none⟩ (.string ⟨#[]⟩)) = x := ⟨_, rfl⟩
    rw [hwq] at HCZ HRZ HGA ⊢
    clear hwq HGZ y0 y1 y2 y3 y4 g0 g1 g2 g3 g4
    obtain ⟨z0, z1, z2, z3, z4, _⟩ := HCZ.out.u5
    refine bodyPost_ret (v := .agg #[.string ⟨#[]⟩, .int .i64 0, .int .i64 0, .int .i64 0, .string ⟨#[]⟩]) (by simp [results, Try.results65, go_sem, z0, z1, z2, z3, z4]) rfl ⟨(⟨⟨⟨#[]⟩, 0, 0⟩, 0, ⟨#[]⟩⟩ : R5), a5, e6, rfl, ⟨Nat.zero_le _, Nat.zero_le _⟩, HRZ.out, HGA.out, HH.out.fail HE0.out (fun _ => by rw [recF, if_neg (by simpa using HLK.out)]) HA.out⟩
  · have d1 := dF g1
    have HLK := Lib.hid (show a5 + z ≤ s.size by have := HA.out; omega)
    clear hr g1
    refine wp_region_held_drew (S := (fun wx => RdS wx q s a5 e5 ∧ Below w7.heap.size w7 wx)) (by kernel_rfl) (⟨HR.out.drew, (Below.refl _ _).drew⟩) (fun hHeld => ?_)
    obtain ⟨wz, hwd⟩ : ∃ x, w7.drew = x := ⟨_, rfl⟩
    rw [hwd] at hHeld ⊢
    clear hwd
    refine wpAnyH_take (i := 0) (oi := { dst := some 16, op := Go.Op.move (Go.Operand.tmp 0), type := 71, pos := "decode.go:110", after := #[], guard := none }) (v := ?v0_230201) rfl (by kernel_rfl) (by kernel_rfl) (by kernel_rfl) (fun _ _ _ h => h) (Or.inl ⟨by rfl, ?y0_230201⟩) hHeld ?r0_230201
    case y0_230201 => intro w hSw; (try dsimp only at hSw); go_simp; try with_reducible rfl
    try simp only [Act.put, List.setIfInBounds_toArray, List.set_cons_zero, List.set_cons_succ]
    refine wpAnyH_take (i := 1) (oi := { dst := some 17, op := Go.Op.nilCheck (Go.Operand.tmp 16), type := 0, pos := "decode.go:110", after := #[{ on := 0, ground := Go.Ground.data }], guard := none }) (v := ?v1_230201) rfl (by kernel_rfl) (by kernel_rfl) (by kernel_rfl) (fun _ _ _ h => h) (Or.inl ⟨by rfl, ?y1_230201⟩) hHeld ?r1_230201
    case y1_230201 => intro w hSw; (try dsimp only at hSw); go_simp; try with_reducible rfl
    try simp only [Act.put, List.setIfInBounds_toArray, List.set_cons_zero, List.set_cons_succ]
    refine wpAnyH_take (i := 2) (oi := { dst := some 18, op := Go.Op.fieldAddr 73 (Go.Operand.tmp 17) 0, type := 0, pos := "decode.go:110", after := #[{ on := 1, ground := Go.Ground.data }], guard := none }) (v := ?v2_230201) rfl (by kernel_rfl) (by kernel_rfl) (by kernel_rfl) (fun _ _ _ h => h) (Or.inl ⟨by rfl, ?y2_230201⟩) hHeld ?r2_230201
    case y2_230201 => intro w hSw; (try dsimp only at hSw); go_simp; try with_reducible rfl
    try simp only [Act.put, List.setIfInBounds_toArray, List.set_cons_zero, List.set_cons_succ]
    refine wpAnyH_take (i := 3) (oi := { dst := some 19, op := Go.Op.load 9 (Go.Operand.tmp 18), type := 9, pos := "decode.go:110", after := #[{ on := 2, ground := Go.Ground.data }], guard := none }) (v := ?v3_230201) rfl (by kernel_rfl) (by kernel_rfl) (by kernel_rfl) (fun _ _ _ h => h) (Or.inl ⟨by rfl, ?y3_230201⟩) hHeld ?r3_230201
    case y3_230201 => intro w hSw; (try dsimp only at hSw); obtain ⟨c0, c1, c2, f1, f2⟩ := hSw.1.cells; go_simp; try with_reducible rfl
    try simp only [Act.put, List.setIfInBounds_toArray, List.set_cons_zero, List.set_cons_succ]
    refine wpAnyH_take (i := 4) (oi := { dst := some 20, op := Go.Op.call { callee := Go.Callee.builtin Go.Builtin.len, args := #[Go.Operand.tmp 19], argTypes := #[9] }, type := 3, pos := "decode.go:110", after := #[{ on := 3, ground := Go.Ground.data }], guard := none }) (v := ?v4_230201) rfl (by kernel_rfl) (by kernel_rfl) (by kernel_rfl) (fun _ _ _ h => h) (Or.inl ⟨by rfl, ?y4_230201⟩) hHeld ?r4_230201
    case y4_230201 => intro w hSw; (try dsimp only at hSw); go_simp; try with_reducible rfl
    try simp only [Act.put, List.setIfInBounds_toArray, List.set_cons_zero, List.set_cons_succ]
    refine wpAnyH_take (i := 5) (oi := { dst := some 21, op := Go.Op.move (Go.Operand.tmp 0), type := 71, pos := "decode.go:110", after := #[], guard := none }) (v := ?v5_230201) rfl (by kernel_rfl) (by kernel_rfl) (by kernel_rfl) (fun _ _ _ h => h) (Or.inl ⟨by rfl, ?y5_230201⟩) hHeld ?r5_230201
    case y5_230201 => intro w hSw; (try dsimp only at hSw); go_simp; try with_reducible rfl
    try simp only [Act.put, List.setIfInBounds_toArray, List.set_cons_zero, List.set_cons_succ]
    refine wpAnyH_take (i := 6) (oi := { dst := some 22, op := Go.Op.nilCheck (Go.Operand.tmp 21), type := 0, pos := "decode.go:110", after := #[{ on := 5, ground := Go.Ground.data }], guard := none }) (v := ?v6_230201) rfl (by kernel_rfl) (by kernel_rfl) (by kernel_rfl) (fun _ _ _ h => h) (Or.inl ⟨by rfl, ?y6_230201⟩) hHeld ?r6_230201
    case y6_230201 => intro w hSw; (try dsimp only at hSw); go_simp; try with_reducible rfl
    try simp only [Act.put, List.setIfInBounds_toArray, List.set_cons_zero, List.set_cons_succ]
    refine wpAnyH_take (i := 7) (oi := { dst := some 23, op := Go.Op.fieldAddr 73 (Go.Operand.tmp 22) 1, type := 0, pos := "decode.go:110", after := #[{ on := 6, ground := Go.Ground.data }], guard := none }) (v := ?v7_230201) rfl (by kernel_rfl) (by kernel_rfl) (by kernel_rfl) (fun _ _ _ h => h) (Or.inl ⟨by rfl, ?y7_230201⟩) hHeld ?r7_230201
    case y7_230201 => intro w hSw; (try dsimp only at hSw); go_simp; try with_reducible rfl
    try simp only [Act.put, List.setIfInBounds_toArray, List.set_cons_zero, List.set_cons_succ]
    refine wpAnyH_take (i := 8) (oi := { dst := some 24, op := Go.Op.load 3 (Go.Operand.tmp 23), type := 3, pos := "decode.go:110", after := #[{ on := 7, ground := Go.Ground.data }], guard := none }) (v := ?v8_230201) rfl (by kernel_rfl) (by kernel_rfl) (by kernel_rfl) (fun _ _ _ h => h) (Or.inl ⟨by rfl, ?y8_230201⟩) hHeld ?r8_230201
    case y8_230201 => intro w hSw; (try dsimp only at hSw); obtain ⟨c0, c1, c2, f1, f2⟩ := hSw.1.cells; go_simp; try with_reducible rfl
    try simp only [Act.put, List.setIfInBounds_toArray, List.set_cons_zero, List.set_cons_succ]
    refine wpAnyH_take (i := 9) (oi := { dst := some 25, op := Go.Op.binOp Go.BinOp.sub 3 (Go.Operand.tmp 20) (Go.Operand.tmp 24) 3, type := 3, pos := "decode.go:110", after := #[{ on := 4, ground := Go.Ground.data }, { on := 8, ground := Go.Ground.data }], guard := none }) (v := ?v9_230201) rfl (by kernel_rfl) (by kernel_rfl) (by kernel_rfl) (fun _ _ _ h => h) (Or.inl ⟨by rfl, ?y9_230201⟩) hHeld ?r9_230201
    case y9_230201 => intro w hSw; (try dsimp only at hSw); go_simp; try with_reducible rfl
    try simp only [Act.put, List.setIfInBounds_toArray, List.set_cons_zero, List.set_cons_succ]
    refine wpAnyH_take (i := 10) (oi := { dst := some 26, op := Go.Op.move (Go.Operand.tmp 4), type := 3, pos := "decode.go:110", after := #[], guard := none }) (v := ?v10_230201) rfl (by kernel_rfl) (by kernel_rfl) (by kernel_rfl) (fun _ _ _ h => h) (Or.inl ⟨by rfl, ?y10_230201⟩) hHeld ?r10_230201
    case y10_230201 => intro w hSw; (try dsimp only at hSw); go_simp; try with_reducible rfl
    try simp only [Act.put, List.setIfInBounds_toArray, List.set_cons_zero, List.set_cons_succ]
    refine wpAnyH_take (i := 11) (oi := { dst := some 27, op := Go.Op.binOp Go.BinOp.lss 3 (Go.Operand.tmp 25) (Go.Operand.tmp 26) 3, type := 4, pos := "decode.go:110", after := #[{ on := 9, ground := Go.Ground.data }, { on := 10, ground := Go.Ground.data }], guard := none }) (v := ?v11_230201) rfl (by kernel_rfl) (by kernel_rfl) (by kernel_rfl) (fun _ _ _ h => h) (Or.inl ⟨by rfl, ?y11_230201⟩) hHeld ?r11_230201
    case y11_230201 => intro w hSw; (try dsimp only at hSw); go_simp; try with_reducible rfl
    try simp only [Act.put, List.setIfInBounds_toArray, List.set_cons_zero, List.set_cons_succ]
    refine wpAnyH_done (by kernel_rfl) ?_ _
    replace HC := Lib.hid (HC.out.below hHeld.2)
    replace HX := Lib.hid (HX.out.below hHeld.2)
    replace HG := Lib.hid (HG.out.trans (below_grown hHeld.2 (some q)))
    replace HR := Lib.hid hHeld.1
    clear hHeld hws
    by_cases h5 : e5 = 0
    · have d2 := nF h5
      have HE5 := Lib.hid h5
      clear h5
      obtain ⟨c0, c1, c2, f1, f2⟩ := HR.out.cells
      go_upto_region 7 with (fail)
      clear c0 c1 c2 f1 f2 d1 d2
      obtain ⟨E, hE⟩ : ∃ x, a5 + z = x := ⟨_, rfl⟩
      rw [hE] at HLK
      have hEz : IntKind.i64.wrap ((a5 : Int) + (z : Int)) = (E : Int) := by rw [IntKind.wrap_i64]; have := HA.out; have := HS.out; have := HZZ.out; omega
      have HEE := Lib.hid hE
      clear hE
      refine wp_region_store_drew (S := (fun wx => RdS wx q s a5 e5 ∧ Below wz.heap.size wz wx)) (L := 9) (by kernel_rfl) (⟨HR.out.drew, (Below.refl _ _).drew⟩) (fun hHeld => ?_)
      refine wpAnyU_take0 (i := 0) (oi := { dst := some 36, op := Go.Op.move (Go.Operand.tmp 0), type := 71, pos := "decode.go:116", after := #[], guard := none }) (v := ?v0_232101) rfl (by decide) (by kernel_rfl) (by kernel_rfl) (by kernel_rfl) (fun _ _ _ h => h) (Or.inl ⟨by rfl, ?y0_232101⟩) (fun _ => hHeld) ?r0_232101
      case y0_232101 => intro w hSw; clear hSw; go_simp; try with_reducible rfl
      try simp only [Act.put, List.setIfInBounds_toArray, List.set_cons_zero, List.set_cons_succ]
      refine wpAnyU_take0 (i := 1) (oi := { dst := some 37, op := Go.Op.fieldAddr 77 (Go.Operand.tmp 3) 1, type := 0, pos := "decode.go:116", after := #[], guard := none }) (v := ?v1_232101) rfl (by decide) (by kernel_rfl) (by kernel_rfl) (by kernel_rfl) (fun _ _ _ h => h) (Or.inl ⟨by rfl, ?y1_232101⟩) (fun _ => hHeld) ?r1_232101
      case y1_232101 => intro w hSw; clear hSw; go_simp; try with_reducible rfl
      try simp only [Act.put, List.setIfInBounds_toArray, List.set_cons_zero, List.set_cons_succ]
      refine wpAnyU_take0 (i := 3) (oi := { dst := some 39, op := Go.Op.move (Go.Operand.tmp 0), type := 71, pos := "decode.go:116", after := #[], guard := none }) (v := ?v3_232101) rfl (by decide) (by kernel_rfl) (by kernel_rfl) (by kernel_rfl) (fun _ _ _ h => h) (Or.inl ⟨by rfl, ?y3_232101⟩) (fun _ => hHeld) ?r3_232101
      case y3_232101 => intro w hSw; clear hSw; go_simp; try with_reducible rfl
      try simp only [Act.put, List.setIfInBounds_toArray, List.set_cons_zero, List.set_cons_succ]
      refine wpAnyU_take0 (i := 4) (oi := { dst := some 40, op := Go.Op.nilCheck (Go.Operand.tmp 39), type := 0, pos := "decode.go:116", after := #[{ on := 3, ground := Go.Ground.data }], guard := none }) (v := ?v4_232101) rfl (by decide) (by kernel_rfl) (by kernel_rfl) (by kernel_rfl) (fun _ _ _ h => h) (Or.inl ⟨by rfl, ?y4_232101⟩) (fun _ => hHeld) ?r4_232101
      case y4_232101 => intro w hSw; clear hSw; go_simp; try with_reducible rfl
      try simp only [Act.put, List.setIfInBounds_toArray, List.set_cons_zero, List.set_cons_succ]
      refine wpAnyU_take0 (i := 5) (oi := { dst := some 41, op := Go.Op.fieldAddr 73 (Go.Operand.tmp 40) 1, type := 0, pos := "decode.go:116", after := #[{ on := 4, ground := Go.Ground.data }], guard := none }) (v := ?v5_232101) rfl (by decide) (by kernel_rfl) (by kernel_rfl) (by kernel_rfl) (fun _ _ _ h => h) (Or.inl ⟨by rfl, ?y5_232101⟩) (fun _ => hHeld) ?r5_232101
      case y5_232101 => intro w hSw; clear hSw; go_simp; try with_reducible rfl
      try simp only [Act.put, List.setIfInBounds_toArray, List.set_cons_zero, List.set_cons_succ]
      refine wpAnyU_take0 (i := 7) (oi := { dst := some 43, op := Go.Op.move (Go.Operand.tmp 4), type := 3, pos := "decode.go:116", after := #[], guard := none }) (v := ?v7_232101) rfl (by decide) (by kernel_rfl) (by kernel_rfl) (by kernel_rfl) (fun _ _ _ h => h) (Or.inl ⟨by rfl, ?y7_232101⟩) (fun _ => hHeld) ?r7_232101
      case y7_232101 => intro w hSw; clear hSw; go_simp; try with_reducible rfl
      try simp only [Act.put, List.setIfInBounds_toArray, List.set_cons_zero, List.set_cons_succ]
      refine wpAnyU_take (i := 2) (oi := { dst := some 38, op := Go.Op.load 3 (Go.Operand.tmp 37), type := 3, pos := "decode.go:116", after := #[{ on := 1, ground := Go.Ground.data }], guard := none }) (v := ?v2_232101) rfl (by kernel_rfl) (by decide) (by kernel_rfl) (by kernel_rfl) (by kernel_rfl) (by kernel_rfl) (by kernel_rfl) (fun _ _ _ h => h) (Or.inl ⟨by rfl, ?y2_232101⟩) hHeld ?r2_232101
      case y2_232101 => intro w hSw; (try dsimp only at hSw); obtain ⟨c0, c1, c2, f1, f2⟩ := hSw.1.cells; obtain ⟨x0, x1, x2, x3, x4, _⟩ := (HX.out.below hSw.2).u5; go_simp; try with_reducible rfl
      try simp only [Act.put, List.setIfInBounds_toArray, List.set_cons_zero, List.set_cons_succ]
      refine wpAnyU_take (i := 6) (oi := { dst := some 42, op := Go.Op.load 3 (Go.Operand.tmp 41), type := 3, pos := "decode.go:116", after := #[{ on := 5, ground := Go.Ground.data }], guard := none }) (v := ?v6_232101) rfl (by kernel_rfl) (by decide) (by kernel_rfl) (by kernel_rfl) (by kernel_rfl) (by kernel_rfl) (by kernel_rfl) (fun _ _ _ h => h) (Or.inl ⟨by rfl, ?y6_232101⟩) hHeld ?r6_232101
      case y6_232101 => intro w hSw; (try dsimp only at hSw); obtain ⟨c0, c1, c2, f1, f2⟩ := hSw.1.cells; obtain ⟨x0, x1, x2, x3, x4, _⟩ := (HX.out.below hSw.2).u5; go_simp; try with_reducible rfl
      try simp only [Act.put, List.setIfInBounds_toArray, List.set_cons_zero, List.set_cons_succ]
      refine wpAnyU_take0 (i := 8) (oi := { dst := some 44, op := Go.Op.binOp Go.BinOp.add 3 (Go.Operand.tmp 42) (Go.Operand.tmp 43) 3, type := 3, pos := "decode.go:116", after := #[{ on := 6, ground := Go.Ground.data }, { on := 7, ground := Go.Ground.data }], guard := none }) (v := ?v8_232101) rfl (by decide) (by kernel_rfl) (by kernel_rfl) (by kernel_rfl) (fun _ _ _ h => h) (Or.inl ⟨by rfl, ?y8_232101⟩) (fun _ => hHeld) ?r8_232101
      case y8_232101 => intro w hSw; clear hSw; go_simp; try with_reducible rfl
      try simp only [Act.put, List.setIfInBounds_toArray, List.set_cons_zero, List.set_cons_succ]
      refine wpAnyU_ready (rs := [9]) (by kernel_rfl) (by simp) ?_
      refine AllReadyU.last (o := { dst := some 45, op := Go.Op.call { callee := Go.Callee.value (Go.Operand.func 74), args := #[Go.Operand.tmp 36, Go.Operand.tmp 38, Go.Operand.tmp 44], argTypes := #[71, 3, 3] }, type := 9, pos := "decode.go:116", after := #[{ on := 0, ground := Go.Ground.data }, { on := 2, ground := Go.Ground.data }, { on := 8, ground := Go.Ground.data }], guard := none }) rfl (by kernel_rfl) (fun K hK => ?_) AllReadyU.nil
      go_simp
      refine (data_r q s a5 E vt _ (by have := hHeld.1; rw [HE5.out] at this; exact this) (by have := HEE.out; omega) HLK.out HS.out).mono ?_; rintro en w9 ⟨vd, a6, e6, rfl, hz, hr, hg, hst⟩
      have HB9 := Lib.hid hHeld.2
      replace HC := Lib.hid ((HC.out.below HB9.out).grown hg (fun e => by injection e with e; have := HNE.out; omega))
      replace HX := Lib.hid ((HX.out.below HB9.out).grown hg (fun e => by injection e with e; have := HNE.out; have := HQL.out; omega))
      replace HG := Lib.hid ((HG.out.trans (below_grown HB9.out (some q))).trans hg)
      replace HR := Lib.hid hr
      have HZD := Lib.hid hz
      have HSD := Lib.hid hst
      clear hz hr hg hst
      go_wp2_with fail
      refine hK.out _ _ trivial (fun _ => ?_)
      clear hK K
      try simp only [Act.put, List.setIfInBounds_toArray, List.set_cons_zero, List.set_cons_succ]
      refine wpAnyU_take0 (i := 10) (oi := { dst := some 46, op := Go.Op.fieldAddr 77 (Go.Operand.tmp 3) 4, type := 0, pos := "decode.go:116", after := #[{ on := 0, ground := Go.Ground.phase }, { on := 1, ground := Go.Ground.phase }, { on := 2, ground := Go.Ground.phase }, { on := 3, ground := Go.Ground.phase }, { on := 4, ground := Go.Ground.phase }, { on := 5, ground := Go.Ground.phase }, { on := 6, ground := Go.Ground.phase }, { on := 7, ground := Go.Ground.phase }, { on := 8, ground := Go.Ground.phase }, { on := 9, ground := Go.Ground.phase }], guard := none }) (v := ?v10_232102) rfl (by decide) (by kernel_rfl) (by kernel_rfl) (by kernel_rfl) (fun _ _ _ h => h) (Or.inl ⟨by rfl, ?y10_232102⟩) (fun h => absurd (h.symm.trans (by kernel_rfl)) Bool.false_ne_true) ?r10_232102
      case y10_232102 => intro w hSw; clear hSw; go_simp; try with_reducible rfl
      try simp only [Act.put, List.setIfInBounds_toArray, List.set_cons_zero, List.set_cons_succ]
      refine wpAnyU_ready (rs := [11]) (by kernel_rfl) (by simp) ?_
      refine AllReadyU.last (o := { dst := none, op := Go.Op.store 9 (Go.Operand.tmp 46) (Go.Operand.tmp 45), type := 0, pos := "decode.go:116", after := #[{ on := 10, ground := Go.Ground.data }, { on := 9, ground := Go.Ground.data }, { on := 9, ground := Go.Ground.chain }, { on := 0, ground := Go.Ground.phase }, { on := 1, ground := Go.Ground.phase }, { on := 2, ground := Go.Ground.phase }, { on := 3, ground := Go.Ground.phase }, { on := 4, ground := Go.Ground.phase }, { on := 5, ground := Go.Ground.phase }, { on := 6, ground := Go.Ground.phase }, { on := 7, ground := Go.Ground.phase }, { on := 8, ground := Go.Ground.phase }, { on := 9, ground := Go.Ground.phase }], guard := none }) rfl (by kernel_rfl) (fun K hK => ?_) AllReadyU.nil
      obtain ⟨x0, x1, x2, x3, x4, h0, h1, h2, h3, h4⟩ := HX.out.u5
      go_simp
      refine hK.out _ _ trivial (fun _ => ?_)
      clear hK K
      try simp only [Act.put, List.setIfInBounds_toArray, List.set_cons_zero, List.set_cons_succ]
      refine wpAnyU_done (by kernel_rfl) ?_ _
      have hx4 := HX.out.set 4 (by simp) (.string vd)
      have hg4 := grown_cell w9 q3 4 (.string vd)
      have hc4 := HC.out.grown hg4 (fun e => by injection e with e; have := HQL.out; omega)
      have hr4 : RdS (w9.setCell ⟨q3, 4, none⟩ (.string vd)) q s a6 e6 := ⟨HR.out.1.grown hg4 (fun e => by injection e with e; have := HNE.out; have := HQL.out; omega), HR.out.2.grown hg4 (fun e => by injection e with e; have := HNE.out; have := HQL.out; omega)⟩
      have hga4 := HG.out.andThen hg4 (fun j hj => by injection hj with hj; rw [← hj]; exact Or.inl HG5.out)
      go_upto_region 8 with (fail)
      obtain ⟨wk, hwk⟩ : ∃ x, w9.setCell ⟨q3, 4, none⟩ (.string vd) = x := ⟨_, rfl⟩
      rw [hwk] at hx4 hc4 hr4 hga4 ⊢
      replace HX := Lib.hid (show CN wk q3 [.string v1, .int .i64 vt, .int .i64 vc, .int .i64 vu, .string vd] from hx4)
      replace HC := Lib.hid hc4
      replace HR := Lib.hid hr4
      replace HG := Lib.hid hga4
      clear hwk hx4 hg4 hc4 hr4 hga4 hEz
      have HDP := Lib.hid (show Stp s (recF s (((((v1, vt), vc), vu), (z : Int)), a5)) 0 (⟨⟨v1, vt, vc⟩, vu, vd⟩ : R5) a6 e6 from by have h := HSD.out; rw [← HEE.out] at h; rw [recF, if_pos (by simp only [Int.toNat_natCast]; rw [HEE.out]; exact HLK.out)]; simp only [Int.toNat_natCast]; exact Stp.map (fun d => (⟨⟨v1, vt, vc⟩, vu, d⟩ : R5)) h)
      obtain ⟨y0, y1, y2, y3, y4, g0, g1, g2, g3, g4⟩ := HC.out.u5
      obtain ⟨x0, x1, x2, x3, x4, _⟩ := HX.out.u5
      have HCZ := Lib.hid (HC.out.s5 (.string v1) (.int .i64 vt) (.int .i64 vc) (.int .i64 vu) (.string vd))
      have HGZ := Lib.hid (grown_s5 wk q2 (.string v1) (.int .i64 vt) (.int .i64 vc) (.int .i64 vu) (.string vd))
      have HRZ := Lib.hid (show RdS (((((wk.setCell ⟨q2, 0, none⟩ (.string v1)).setCell ⟨q2, 1, none⟩ (.int .i64 vt)).setCell ⟨q2, 2, none⟩ (.int .i64 vc)).setCell ⟨q2, 3, none⟩ (.int .i64 vu)).setCell ⟨q2, 4, none⟩ (.string vd)) q s a6 e6 from ⟨HR.out.1.grown HGZ.out (fun e => by injection e with e; have := HNE.out; omega), HR.out.2.grown HGZ.out (fun e => by injection e with e; have := HNE.out; omega)⟩)
      have HGA := Lib.hid (HG.out.andThen HGZ.out (fun j hj => by injection hj with hj; rw [HQ.out]; omega))
      go_wp2
      obtain ⟨wq, hwq⟩ : ∃ x, (((((wk.setCell ⟨q2, 0, none⟩ (.string v1)).setCell ⟨q2, 1, none⟩ (.int .i64 vt)).setCell ⟨q2, 2, none⟩ (.int .i64 vc)).setCell ⟨q2, 3, none⟩ (.int .i64 vu)).setCell ⟨q2, 4, none⟩ (.string vd)) = x := ⟨_, rfl⟩
      rw [hwq] at HCZ HRZ HGA ⊢
      clear hwq HGZ y0 y1 y2 y3 y4 g0 g1 g2 g3 g4
      obtain ⟨z0, z1, z2, z3, z4, _⟩ := HCZ.out.u5
      refine bodyPost_ret (v := .agg #[.string v1, .int .i64 vt, .int .i64 vc, .int .i64 vu, .string vd]) (by simp [results, Try.results65, go_sem, z0, z1, z2, z3, z4]) rfl ⟨(⟨⟨v1, vt, vc⟩, vu, vd⟩ : R5), a6, e6, rfl, ⟨HZ2.out, HZD.out⟩, HRZ.out, HGA.out, HH.out.go HE5.out HDP.out⟩
    · have d2 := nT h5
      have HE0 := Lib.hid h5
      clear h5
      obtain ⟨c0, c1, c2, f1, f2⟩ := HR.out.cells
      obtain ⟨y0, y1, y2, y3, y4, g0, g1, g2, g3, g4⟩ := HC.out.u5
      have HCZ := Lib.hid (HC.out.s5 (.string ⟨#[]⟩) (.int .i64 0) (.int .i64 0) (.int .i64 0) (.string ⟨#[]⟩))
      have HGZ := Lib.hid (grown_s5 wz q2 (.string ⟨#[]⟩) (.int .i64 0) (.int .i64 0) (.int .i64 0) (.string ⟨#[]⟩))
      have HRZ := Lib.hid (show RdS (((((wz.setCell ⟨q2, 0, none⟩ (.string ⟨#[]⟩)).setCell ⟨q2, 1, none⟩ (.int .i64 0)).setCell ⟨q2, 2, none⟩ (.int .i64 0)).setCell ⟨q2, 3, none⟩ (.int .i64 0)).setCell ⟨q2, 4, none⟩ (.string ⟨#[]⟩)) q s a5 e5 from ⟨HR.out.1.grown HGZ.out (fun e => by injection e with e; have := HNE.out; omega), HR.out.2.grown HGZ.out (fun e => by injection e with e; have := HNE.out; omega)⟩)
      have HGA := Lib.hid (HG.out.andThen HGZ.out (fun j hj => by injection hj with hj; rw [HQ.out]; omega))
      go_wp2
      obtain ⟨wq, hwq⟩ : ∃ x, (((((wz.setCell ⟨q2, 0, none⟩ (.string ⟨#[]⟩)).setCell ⟨q2, 1, none⟩ (.int .i64 0)).setCell ⟨q2, 2, none⟩ (.int .i64 0)).setCell ⟨q2, 3, none⟩ (.int .i64 0)).setCell ⟨q2, 4, none⟩ (.string ⟨#[]⟩)) = x := ⟨_, rfl⟩
      rw [hwq] at HCZ HRZ HGA ⊢
      clear hwq HGZ y0 y1 y2 y3 y4 g0 g1 g2 g3 g4
      obtain ⟨z0, z1, z2, z3, z4, _⟩ := HCZ.out.u5
      refine bodyPost_ret (v := .agg #[.string ⟨#[]⟩, .int .i64 0, .int .i64 0, .int .i64 0, .string ⟨#[]⟩]) (by simp [results, Try.results65, go_sem, z0, z1, z2, z3, z4]) rfl ⟨(⟨⟨⟨#[]⟩, 0, 0⟩, 0, ⟨#[]⟩⟩ : R5), a5, e5, rfl, ⟨Nat.zero_le _, Nat.zero_le _⟩, HRZ.out, HGA.out, HH.out.fail HE0.out (fun h0 => absurd h0 HE0.out) HA.out⟩
end Go.Proofs.Ytgppkpdjpcegbaa
end

section
namespace Go.Proofs.Ytgppkpdjpcegbaa
open Go.RowKit

def manyP {α : Type} (p : Nat → Option (α × Nat)) : Nat → Nat → Option (List α × Nat)
  | 0, a => some ([], a)
  | n + 1, a => (manyP p n a).bind fun l => (p l.2).map fun x => (l.1 ++ [x.1], x.2)
theorem manyP_none {α : Type} {p : Nat → Option (α × Nat)} {k n a : Nat} (h : manyP p k a = none) (hk : k ≤ n) : manyP p n a = none := by
  induction n with
  | zero =>
    have : k = 0 := by omega
    subst this
    exact h
  | succ n ih =>
    by_cases e : k = n + 1
    · subst e
      exact h
    · rw [manyP, ih (by omega)]
      rfl
theorem Stp.many {α : Type} {s : ByteArray} {p : Nat → Option (α × Nat)} {k n a : Nat} {e e' : Int} {L : List α} {a' : Nat} (h : Stp s (manyP p k a) e L a' e') (hk : k ≤ n) (he : e' ≠ 0) : Stp s (manyP p n a) e ([] : List α) a' e' := by
  refine ⟨h.1, h.2.1, fun h0 => ?_⟩
  obtain ⟨hy, hn⟩ := h.2.2 h0
  have hnone : manyP p k a = none := by
    cases hp : manyP p k a with
    | none => rfl
    | some x => exact absurd (hy x.1 x.2 hp).2.2 he
  rw [manyP_none hnone hk]
  exact ⟨fun x b hx => (by cases hx), fun _ => he⟩
theorem flatQ_app5 (A B : List Ky) : flatQ (A ++ B) = flatQ A ++ flatQ B := List.flatMap_append
/-- A question. -/
def qP (s : ByteArray) (a : Nat) : Option (Ky × Nat) :=
  (((nameP s a).bind fun x => (numP s 2 x.2).map fun y => ((x.1, y.1), y.2)).bind fun x => (numP s 2 x.2).map fun y => ((x.1, y.1), y.2)).map fun x => (⟨x.1.1.1, x.1.1.2, x.1.2⟩, x.2)

set_option maxRecDepth 100000 in
set_option maxHeartbeats 16000000 in
theorem questions_r (q : Nat) (s : ByteArray) (a n : Nat) (e : Int) (w : World) (h : RdS w q s a e) (ha : a ≤ s.size) (hs : s.size ≤ 20000) (hn : n ≤ 70000) :
    Calls Try.prog 48 #[.pointer (some ⟨q, 0, none⟩), .int .i64 (n : Int)] w fun en w' => ∃ (v : Value) (L : List Ky) (a' : Nat) (e' : Int), en = .returned v ∧ w'.ownsRow w.heap.size 27 3 v L.length (flatQ L) ∧ (L.length ≤ n ∧ ∀ r ∈ L, r.n.size ≤ 255) ∧ RdS w' q s a' e' ∧ w.grownBy w' (some q) ∧ Stp s (manyP (qP s) n a) e L a' e' := by
  obtain ⟨i0, hi, hz0, hz1, hz2⟩ := info_parts infoQ
  have HI := Lib.hid hi
  have HZ0 := Lib.hid hz0
  have HZ1 := Lib.hid hz1
  have HZ2 := Lib.hid hz2
  have HR0 := Lib.hid h
  have HA0 := Lib.hid ha
  have HS := Lib.hid hs
  have HN := Lib.hid hn
  clear h ha hs hn hi hz0 hz1 hz2
  go_enter Try.func48, Try.ntmps48
  go_wp2_with fail
  go_loopw [5, 8] (fun lv i wr => ∃ (k : Nat) (L : List Ky) (a' : Nat) (e' : Int), k ≤ n ∧ i = .int .i64 k ∧ Hid (wr.ownsRow w.heap.size 27 3 lv L.length (flatQ L)) ∧ Hid (L.length = k ∧ ∀ r ∈ L, r.n.size ≤ 255) ∧ Hid (RdS wr q s a' e') ∧ Hid (w.grownBy wr (some q)) ∧ Hid (Stp s (manyP (qP s) k a) e L a' e')) (fun _ i _ => n - (intOf i).toNat)
  case atStart => exact ⟨0, [], a, e, Nat.zero_le _, rfl, Lib.hid (World.ownsRow_nil _ _ _ _), Lib.hid ⟨rfl, fun r hr => by cases hr⟩, HR0, Lib.hid (World.grownBy.refl _ _), Lib.hid (Stp.yes rfl HA0.out)⟩
  case round =>
    obtain ⟨k, L, a', e', hk, rfl, HO, HL, HR, HG, HST⟩ := hrel
    obtain ⟨len, hlen⟩ : ∃ x, L.length = x := ⟨_, rfl⟩
    rw [hlen] at HO
    obtain ⟨la, lc, rfl, -⟩ := cellsK_own HO.out
    have HLN := Lib.hid hlen
    have HA := Lib.hid HST.out.1
    clear hlen
    by_cases hlt : k < n
    · have d0 := dT (p := k < n) hlt
      have HKN := Lib.hid hlt
      have hkb : k ≤ 70000 := by have := HN.out; omega
      clear hlt
      go_wp2_with fail
      refine (name_r q s a' e' _ HR.out HA.out HS.out).mono ?_; rintro en w1 ⟨v1, a1, e1, rfl, hz, hr, hg, h1⟩
      have HO1 := Lib.hid (own_keeps HO.out HR.out.2 (by decide) hg)
      have HG1 := Lib.hid (HG.out.trans hg)
      have HR1 := Lib.hid hr
      have HZ := Lib.hid hz
      have HS1 := Lib.hid h1
      clear hz hr hg h1
      go_wp2_with fail
      refine (number_any q s a1 2 e1 _ HR1.out HS1.out.1 HS.out (by decide)).mono ?_; rintro en w2 ⟨vt, a2, e2, rfl, -, hr, hg, h1⟩
      have HO2 := Lib.hid (own_keeps HO1.out HR1.out.2 (by decide) hg)
      have HG2 := Lib.hid (HG1.out.trans hg)
      have HR2 := Lib.hid hr
      have HS2 := Lib.hid h1
      clear hr hg h1
      go_wp2_with fail
      refine (number_any q s a2 2 e2 _ HR2.out HS2.out.1 HS.out (by decide)).mono ?_; rintro en w3 ⟨vc, a3, e3, rfl, -, hr, hg, h1⟩
      have HS3 := Lib.hid h1
      have hba := (Below.refl w3.heap.size w3).alloc (Nat.le_refl _) (.cells #[.string v1, .int .i64 vt, .int .i64 vc] 27)
      have HX := Lib.hid (cells_lit w3 #[.string v1, .int .i64 vt, .int .i64 vc] 27)
      have HC := Lib.hid (CN.new w3 #[.string v1, .int .i64 vt, .int .i64 vc] 27)
      have HO3 := Lib.hid (own_below' (own_keeps HO2.out HR2.out.2 (by decide) hg) hba)
      have HG3 := Lib.hid ((HG2.out.trans hg).trans (below_grown hba (some q)))
      have HR3 := Lib.hid (hr.below hba)
      have HQP := Lib.hid (show Stp s (manyP (qP s) (k + 1) a) e (L ++ [⟨v1, vt, vc⟩]) a3 e3 from Stp.seq (f := qP s) (fun x y => x ++ [y]) HST.out (Stp.map (fun x : (ByteArray × Int) × Int => (⟨x.1.1, x.1.2, x.2⟩ : Ky)) (Stp.seq Prod.mk (Stp.seq Prod.mk HS1.out HS2.out) HS3.out)))
      obtain ⟨w4, hw4⟩ : ∃ x, w3.alloc (.cells #[.string v1, .int .i64 vt, .int .i64 vc] 27) = x := ⟨_, rfl⟩
      obtain ⟨q6, hq6⟩ : ∃ x, w3.heap.size = x := ⟨_, rfl⟩
      rw [hw4] at HC HO3 HG3 HR3
      rw [hq6] at HC
      have HW := Lib.hid hw4
      have HQ6 := Lib.hid hq6
      clear hr hg h1 hba hw4 hq6 HX
      go_upto_region 5 with (fail)
      rw [HW.out, HQ6.out]
      clear HW HQ6
      obtain ⟨c0, c1, c2, f1, f2⟩ := HR3.out.cells
      by_cases h3 : e3 = 0
      · have e9 := nF h3
        have y0 := (HC.out.2 0 _ rfl).1
        have y1 := (HC.out.2 1 _ rfl).1
        have y2 := (HC.out.2 2 _ rfl).1
        clear h3
        have HX := Lib.hid (cells_lit w4 #[.string v1, .int .i64 vt, .int .i64 vc] 27)
        have HAL := Lib.hid ((Below.refl w4.heap.size w4).alloc (Nat.le_refl _) (.cells #[.string v1, .int .i64 vt, .int .i64 vc] 27))
        have HBS := Lib.hid (show w.heap.size ≤ (w4.alloc (.cells #[.string v1, .int .i64 vt, .int .i64 vc] 27)).heap.size from Nat.le_trans HG3.out.size HAL.out.size)
        have HLE := Lib.hid (show len + 1 ≤ 1000000 by have := HL.out.1; have := HLN.out; have := HN.out; have := HKN.out; omega)
        go_wp2_with (at_builtin; refine append_cellsK rfl _ _ 34 27 rfl i0 _ 3 32 Try.underlying34 HI.out HZ0.out HZ1.out HZ2.out rfl (by decide) w.heap.size _ len _ rfl (own_below' HO3.out HAL.out) (some ⟨w4.heap.size, 0, none⟩) 1 1 (encK ⟨v1, vt, vc⟩) rfl (fun h => by cases h) HX.out (fun u hu => flatQ_one [⟨v1, vt, vc⟩] u (by simpa [flatQ] using hu)) HLE.out (by decide) HBS.out ?_)
        intro v5 w5 hown hgrow
        have hne := own_ne (own_below' HO3.out HAL.out) (HR3.out.2.below HAL.out) (by decide)
        have HR5 := Lib.hid (show RdS w5 q s a3 e3 from ⟨(HR3.out.1.below HAL.out).grown hgrow (fun e => hne e.symm), (HR3.out.2.below HAL.out).grown hgrow hne⟩)
        have HG5 := Lib.hid ((HG3.out.trans (below_grown HAL.out (some q))).andThen hgrow (fun j hj => Or.inl (HO3.out.lt j hj).1))
        have HO5 := Lib.hid hown
        clear hown hgrow hne c0 c1 c2 f1 f2 y0 y1 y2
        go_wp2
        go_roundw
        case rel => exact ⟨k + 1, L ++ [⟨v1, vt, vc⟩], a3, e3, HKN.out, by go_num, Lib.hid (by rw [List.length_append, HLN.out, flatQ_app5]; simpa [flatQ] using HO5.out), Lib.hid ⟨by rw [List.length_append, HL.out.1]; rfl, fun r hr => by (rcases List.mem_append.1 hr with h | h; exact HL.out.2 r h; (rw [List.mem_singleton] at h; subst h; exact HZ.out))⟩, HR5, HG5, HQP⟩
        case measure =>
          simp only [intOf]
          have := HKN.out
          omega
      · have e9 := nT h3
        have HE9 := Lib.hid h3
        clear h3
        go_wp2
        go_ret
        exact ⟨_, [], a3, e3, rfl, World.ownsRow_nil _ _ _ _, ⟨Nat.zero_le _, fun r hr => by cases hr⟩, HR3.out, HG3.out, Stp.many (k := k + 1) HQP.out HKN.out HE9.out⟩
    · have d0 := dF (p := k < n) hlt
      have hkn : k = n := by omega
      have HKN := Lib.hid hkn
      clear hlt hkn
      go_wp2
      go_ret
      exact ⟨_, L, a', e', rfl, by rw [HLN.out]; exact HO.out, ⟨by rw [HL.out.1]; exact hk, HL.out.2⟩, HR.out, HG.out, by rw [← HKN.out]; exact HST.out⟩
end Go.Proofs.Ytgppkpdjpcegbaa
end

section
namespace Go.Proofs.Ytgppkpdjpcegbaa
open Go.RowKit

def okP (last : Bool) (r : R5) : Bool := mayRr r || (last && mayO r)
/-- A record that may be where it stands. -/
def rrF (last : Bool) (x : R5 × Nat) : Option (R5 × Nat) := if okP last x.1 = true then some x else none
def rrP (s : ByteArray) (last : Bool) (a : Nat) : Option (R5 × Nat) := (recP s a).bind (rrF last)

set_option maxRecDepth 100000 in
set_option maxHeartbeats 16000000 in
theorem records_r (q : Nat) (s : ByteArray) (a n : Nat) (last : Bool) (e : Int) (w : World) (h : RdS w q s a e) (ha : a ≤ s.size) (hs : s.size ≤ 20000) (hn : n ≤ 70000) :
    Calls Try.prog 49 #[.pointer (some ⟨q, 0, none⟩), .int .i64 (n : Int), .bool last] w fun en w' => ∃ (v : Value) (L : List R5) (a' : Nat) (e' : Int), en = .returned v ∧ w'.ownsRow w.heap.size 77 5 v L.length (flatR L) ∧ (L.length ≤ n ∧ ∀ r ∈ L, r.k.n.size ≤ 255 ∧ r.d.size ≤ 40000) ∧ RdS w' q s a' e' ∧ w.grownBy w' (some q) ∧ Stp s (manyP (rrP s last) n a) e L a' e' := by
  obtain ⟨i0, hi, hz0, hz1, hz2⟩ := info_parts infoRR
  have HI := Lib.hid hi
  have HZ0 := Lib.hid hz0
  have HZ1 := Lib.hid hz1
  have HZ2 := Lib.hid hz2
  have HR0 := Lib.hid h
  have HA0 := Lib.hid ha
  have HS := Lib.hid hs
  have HN := Lib.hid hn
  clear h ha hs hn hi hz0 hz1 hz2
  go_enter Try.func49, Try.ntmps49
  go_wp2_with fail
  go_loopw [7, 10] (fun lv i wr => ∃ (k : Nat) (L : List R5) (a' : Nat) (e' : Int), k ≤ n ∧ i = .int .i64 k ∧ Hid (wr.ownsRow w.heap.size 77 5 lv L.length (flatR L)) ∧ Hid (L.length = k ∧ ∀ r ∈ L, r.k.n.size ≤ 255 ∧ r.d.size ≤ 40000) ∧ Hid (RdS wr q s a' e') ∧ Hid (w.grownBy wr (some q)) ∧ Hid (Stp s (manyP (rrP s last) k a) e L a' e')) (fun _ i _ => n - (intOf i).toNat)
  case atStart => exact ⟨0, [], a, e, Nat.zero_le _, rfl, Lib.hid (World.ownsRow_nil _ _ _ _), Lib.hid ⟨rfl, fun r hr => by cases hr⟩, HR0, Lib.hid (World.grownBy.refl _ _), Lib.hid (Stp.yes rfl HA0.out)⟩
  case round =>
    obtain ⟨k, L, a', e', hk, rfl, HO, HL, HR, HG, HST⟩ := hrel
    obtain ⟨len, hlen⟩ : ∃ x, L.length = x := ⟨_, rfl⟩
    rw [hlen] at HO
    obtain ⟨la, lc, rfl, -⟩ := cellsK_own HO.out
    have HLN := Lib.hid hlen
    have HA := Lib.hid HST.out.1
    clear hlen
    by_cases hlt : k < n
    · have d0 := dT (p := k < n) hlt
      have HKN := Lib.hid hlt
      have hkb : k ≤ 70000 := by have := HN.out; omega
      clear hlt
      go_wp2_with fail
      refine (record_r q s a' e' _ HR.out HA.out HS.out).mono ?_; rintro en w1 ⟨⟨⟨rn, rt, rc⟩, ru, rd⟩, a1, e1, rfl, hz, hr, hg, h1⟩
      have hba := (Below.refl w1.heap.size w1).alloc (Nat.le_refl _) (.cells #[.string rn, .int .i64 rt, .int .i64 rc, .int .i64 ru, .string rd] 77)
      have HC := Lib.hid (CN.new w1 #[.string rn, .int .i64 rt, .int .i64 rc, .int .i64 ru, .string rd] 77)
      have HO3 := Lib.hid (own_below' (own_keeps HO.out HR.out.2 (by decide) hg) hba)
      have HG3 := Lib.hid ((HG.out.trans hg).trans (below_grown hba (some q)))
      have HR3 := Lib.hid (hr.below hba)
      have HZ := Lib.hid (show rn.size ≤ 255 ∧ rd.size ≤ 40000 from hz)
      have HRC := Lib.hid h1
      obtain ⟨w4, hw4⟩ : ∃ x, w1.alloc (.cells #[.string rn, .int .i64 rt, .int .i64 rc, .int .i64 ru, .string rd] 77) = x := ⟨_, rfl⟩
      obtain ⟨q6, hq6⟩ : ∃ x, w1.heap.size = x := ⟨_, rfl⟩
      rw [hw4] at HC HO3 HG3 HR3
      rw [hq6] at HC
      have HW := Lib.hid hw4
      have HQ6 := Lib.hid hq6
      clear hr hg h1 hba hw4 hq6 hz
      go_upto_region 5 with (fail)
      rw [HW.out, HQ6.out]
      clear HW HQ6
      obtain ⟨y0, y1, y2, y3, y4, _⟩ := HC.out.u5
      go_wp2_with fail
      refine (mayRR_any rn rt rc ru rd _ (by have := HZ.out.1; omega) (by have := HZ.out.2; omega)).mono ?_; rintro en w5 ⟨rfl, hb⟩
      replace HC := Lib.hid (HC.out.below hb)
      replace HO3 := Lib.hid (own_below' HO3.out hb)
      replace HG3 := Lib.hid (HG3.out.trans (below_grown hb (some q)))
      replace HR3 := Lib.hid (HR3.out.below hb)
      obtain ⟨MR, hMR⟩ : ∃ x, mayR rn rt rc ru rd = x := ⟨_, rfl⟩
      rw [hMR]
      have HMR := Lib.hid (show mayRr ⟨⟨rn, rt, rc⟩, ru, rd⟩ = MR from hMR)
      clear hb hMR y0 y1 y2 y3 y4
      cases MR with
      | true =>
        have HOK := Lib.hid (show okP last (⟨⟨rn, rt, rc⟩, ru, rd⟩ : R5) = true by rw [okP, HMR.out]; rfl)
        obtain ⟨c0, c1, c2, f1, f2⟩ := HR3.out.cells
        by_cases h3 : e1 = 0
        · have e9 := nF h3
          obtain ⟨y0, y1, y2, y3, y4, _⟩ := HC.out.u5
          have HQP := Lib.hid (show Stp s (manyP (rrP s last) (k + 1) a) e (L ++ [(⟨⟨rn, rt, rc⟩, ru, rd⟩ : R5)]) a1 0 from Stp.seq (f := rrP s last) (fun x y => x ++ [y]) HST.out (HRC.out.go h3 (Stp.yes (by rw [rrF, if_pos HOK.out]) HRC.out.1)))
          subst h3
          have HX := Lib.hid (cells_lit w5 #[.string rn, .int .i64 rt, .int .i64 rc, .int .i64 ru, .string rd] 77)
          have HAL := Lib.hid ((Below.refl w5.heap.size w5).alloc (Nat.le_refl _) (.cells #[.string rn, .int .i64 rt, .int .i64 rc, .int .i64 ru, .string rd] 77))
          have HBS := Lib.hid (show w.heap.size ≤ (w5.alloc (.cells #[.string rn, .int .i64 rt, .int .i64 rc, .int .i64 ru, .string rd] 77)).heap.size from Nat.le_trans HG3.out.size HAL.out.size)
          have HLE := Lib.hid (show len + 1 ≤ 1000000 by have := HL.out.1; have := HLN.out; have := HN.out; have := HKN.out; omega)
          go_wp2_with (at_builtin; refine append_cellsK rfl _ _ 35 77 rfl i0 _ 5 56 Try.underlying35 HI.out HZ0.out HZ1.out HZ2.out rfl (by decide) w.heap.size _ len _ rfl (own_below' HO3.out HAL.out) (some ⟨w5.heap.size, 0, none⟩) 1 1 (encR (⟨⟨rn, rt, rc⟩, ru, rd⟩ : R5)) rfl (fun h => by cases h) HX.out (fun u hu => flatR_one [(⟨⟨rn, rt, rc⟩, ru, rd⟩ : R5)] u (by simpa [flatR] using hu)) HLE.out (by decide) HBS.out ?_)
          intro v7 w7 hown hgrow
          have hne := own_ne (own_below' HO3.out HAL.out) (HR3.out.2.below HAL.out) (by decide)
          have HR7 := Lib.hid (show RdS w7 q s a1 0 from ⟨(HR3.out.1.below HAL.out).grown hgrow (fun e => hne e.symm), (HR3.out.2.below HAL.out).grown hgrow hne⟩)
          have HG7 := Lib.hid ((HG3.out.trans (below_grown HAL.out (some q))).andThen hgrow (fun j hj => Or.inl (HO3.out.lt j hj).1))
          have HO7 := Lib.hid hown
          clear hown hgrow hne c0 c1 c2 f1 f2 y0 y1 y2 y3 y4
          go_wp2
          go_roundw
          case rel => exact ⟨k + 1, L ++ [(⟨⟨rn, rt, rc⟩, ru, rd⟩ : R5)], a1, 0, HKN.out, by go_num, Lib.hid (by rw [List.length_append, HLN.out, flatR_app]; simpa [flatR] using HO7.out), Lib.hid ⟨by rw [List.length_append, HL.out.1]; rfl, fun r hr => by (rcases List.mem_append.1 hr with h | h; exact HL.out.2 r h; (rw [List.mem_singleton] at h; subst h; exact HZ.out))⟩, HR7, HG7, HQP⟩
          case measure =>
            simp only [intOf]
            have := HKN.out
            omega
        · have e9 := nT h3
          have HE9 := Lib.hid h3
          have HQP := Lib.hid (show Stp s (manyP (rrP s last) (k + 1) a) e (L ++ [(⟨⟨rn, rt, rc⟩, ru, rd⟩ : R5)]) a1 e1 from Stp.seq (f := rrP s last) (fun x y => x ++ [y]) HST.out (HRC.out.fail h3 (fun h0 => absurd h0 h3) HRC.out.1))
          clear h3
          go_wp2
          go_ret
          exact ⟨_, [], a1, e1, rfl, World.ownsRow_nil _ _ _ _, ⟨Nat.zero_le _, fun r hr => by cases hr⟩, HR3.out, HG3.out, Stp.many (k := k + 1) HQP.out HKN.out HE9.out⟩
      | false =>
        cases last with
        | false =>
          have HOK := Lib.hid (show okP false (⟨⟨rn, rt, rc⟩, ru, rd⟩ : R5) = false by rw [okP, HMR.out]; rfl)
          go_wp2_with fail
          refine (fail_any q s a1 e1 4 _ HR3.out).mono ?_; rintro en w8 ⟨rfl, hr, hg⟩
          have HE0 := Lib.hid (show (if e1 = 0 then (4 : Int) else e1) ≠ 0 by split <;> omega)
          obtain ⟨e6, he6⟩ : ∃ x, (if e1 = 0 then (4 : Int) else e1) = x := ⟨_, rfl⟩
          rw [he6] at HE0 hr
          have HG8 := Lib.hid (HG3.out.trans hg)
          have HR8 := Lib.hid hr
          have d2 := nT HE0.out
          have HQP := Lib.hid (show Stp s (manyP (rrP s false) (k + 1) a) e (L ++ [(⟨⟨rn, rt, rc⟩, ru, rd⟩ : R5)]) a1 e6 from Stp.seq (f := rrP s false) (fun x y => x ++ [y]) HST.out (HRC.out.fail HE0.out (fun _ => by rw [rrF, if_neg (by rw [HOK.out]; decide)]) HRC.out.1))
          clear hr hg he6
          obtain ⟨c0, c1, c2, f1, f2⟩ := HR8.out.cells
          go_wp2
          go_ret
          exact ⟨_, [], a1, e6, rfl, World.ownsRow_nil _ _ _ _, ⟨Nat.zero_le _, fun r hr => by cases hr⟩, HR8.out, HG8.out, Stp.many (k := k + 1) HQP.out HKN.out HE0.out⟩
        | true =>
          obtain ⟨y0, y1, y2, y3, y4, _⟩ := HC.out.u5
          go_wp2_with fail
          refine (mayOpt_any rn rt rc ru rd _).mono ?_; rintro en w6 ⟨rfl, hb⟩
          replace HC := Lib.hid (HC.out.below hb)
          replace HO3 := Lib.hid (own_below' HO3.out hb)
          replace HG3 := Lib.hid (HG3.out.trans (below_grown hb (some q)))
          replace HR3 := Lib.hid (HR3.out.below hb)
          obtain ⟨MO, hMO⟩ : ∃ x, mayO (⟨⟨rn, rt, rc⟩, ru, rd⟩ : R5) = x := ⟨_, rfl⟩
          rw [hMO]
          have HMO := Lib.hid hMO
          clear hb hMO y0 y1 y2 y3 y4
          cases MO with
          | true =>
            have HOK := Lib.hid (show okP true (⟨⟨rn, rt, rc⟩, ru, rd⟩ : R5) = true by rw [okP, HMR.out, HMO.out]; rfl)
            obtain ⟨c0, c1, c2, f1, f2⟩ := HR3.out.cells
            by_cases h3 : e1 = 0
            · have e9 := nF h3
              obtain ⟨y0, y1, y2, y3, y4, _⟩ := HC.out.u5
              have HQP := Lib.hid (show Stp s (manyP (rrP s true) (k + 1) a) e (L ++ [(⟨⟨rn, rt, rc⟩, ru, rd⟩ : R5)]) a1 0 from Stp.seq (f := rrP s true) (fun x y => x ++ [y]) HST.out (HRC.out.go h3 (Stp.yes (by rw [rrF, if_pos HOK.out]) HRC.out.1)))
              subst h3
              have HX := Lib.hid (cells_lit w6 #[.string rn, .int .i64 rt, .int .i64 rc, .int .i64 ru, .string rd] 77)
              have HAL := Lib.hid ((Below.refl w6.heap.size w6).alloc (Nat.le_refl _) (.cells #[.string rn, .int .i64 rt, .int .i64 rc, .int .i64 ru, .string rd] 77))
              have HBS := Lib.hid (show w.heap.size ≤ (w6.alloc (.cells #[.string rn, .int .i64 rt, .int .i64 rc, .int .i64 ru, .string rd] 77)).heap.size from Nat.le_trans HG3.out.size HAL.out.size)
              have HLE := Lib.hid (show len + 1 ≤ 1000000 by have := HL.out.1; have := HLN.out; have := HN.out; have := HKN.out; omega)
              go_wp2_with (at_builtin; refine append_cellsK rfl _ _ 35 77 rfl i0 _ 5 56 Try.underlying35 HI.out HZ0.out HZ1.out HZ2.out rfl (by decide) w.heap.size _ len _ rfl (own_below' HO3.out HAL.out) (some ⟨w6.heap.size, 0, none⟩) 1 1 (encR (⟨⟨rn, rt, rc⟩, ru, rd⟩ : R5)) rfl (fun h => by cases h) HX.out (fun u hu => flatR_one [(⟨⟨rn, rt, rc⟩, ru, rd⟩ : R5)] u (by simpa [flatR] using hu)) HLE.out (by decide) HBS.out ?_)
              intro v7 w7 hown hgrow
              have hne := own_ne (own_below' HO3.out HAL.out) (HR3.out.2.below HAL.out) (by decide)
              have HR7 := Lib.hid (show RdS w7 q s a1 0 from ⟨(HR3.out.1.below HAL.out).grown hgrow (fun e => hne e.symm), (HR3.out.2.below HAL.out).grown hgrow hne⟩)
              have HG7 := Lib.hid ((HG3.out.trans (below_grown HAL.out (some q))).andThen hgrow (fun j hj => Or.inl (HO3.out.lt j hj).1))
              have HO7 := Lib.hid hown
              clear hown hgrow hne c0 c1 c2 f1 f2 y0 y1 y2 y3 y4
              go_wp2
              go_roundw
              case rel => exact ⟨k + 1, L ++ [(⟨⟨rn, rt, rc⟩, ru, rd⟩ : R5)], a1, 0, HKN.out, by go_num, Lib.hid (by rw [List.length_append, HLN.out, flatR_app]; simpa [flatR] using HO7.out), Lib.hid ⟨by rw [List.length_append, HL.out.1]; rfl, fun r hr => by (rcases List.mem_append.1 hr with h | h; exact HL.out.2 r h; (rw [List.mem_singleton] at h; subst h; exact HZ.out))⟩, HR7, HG7, HQP⟩
              case measure =>
                simp only [intOf]
                have := HKN.out
                omega
            · have e9 := nT h3
              have HE9 := Lib.hid h3
              have HQP := Lib.hid (show Stp s (manyP (rrP s true) (k + 1) a) e (L ++ [(⟨⟨rn, rt, rc⟩, ru, rd⟩ : R5)]) a1 e1 from Stp.seq (f := rrP s true) (fun x y => x ++ [y]) HST.out (HRC.out.fail h3 (fun h0 => absurd h0 h3) HRC.out.1))
              clear h3
              go_wp2
              go_ret
              exact ⟨_, [], a1, e1, rfl, World.ownsRow_nil _ _ _ _, ⟨Nat.zero_le _, fun r hr => by cases hr⟩, HR3.out, HG3.out, Stp.many (k := k + 1) HQP.out HKN.out HE9.out⟩
          | false =>
            have HOK := Lib.hid (show okP true (⟨⟨rn, rt, rc⟩, ru, rd⟩ : R5) = false by rw [okP, HMR.out, HMO.out]; rfl)
            go_wp2_with fail
            refine (fail_any q s a1 e1 4 _ HR3.out).mono ?_; rintro en w8 ⟨rfl, hr, hg⟩
            have HE0 := Lib.hid (show (if e1 = 0 then (4 : Int) else e1) ≠ 0 by split <;> omega)
            obtain ⟨e6, he6⟩ : ∃ x, (if e1 = 0 then (4 : Int) else e1) = x := ⟨_, rfl⟩
            rw [he6] at HE0 hr
            have HG8 := Lib.hid (HG3.out.trans hg)
            have HR8 := Lib.hid hr
            have d2 := nT HE0.out
            have HQP := Lib.hid (show Stp s (manyP (rrP s true) (k + 1) a) e (L ++ [(⟨⟨rn, rt, rc⟩, ru, rd⟩ : R5)]) a1 e6 from Stp.seq (f := rrP s true) (fun x y => x ++ [y]) HST.out (HRC.out.fail HE0.out (fun _ => by rw [rrF, if_neg (by rw [HOK.out]; decide)]) HRC.out.1))
            clear hr hg he6
            obtain ⟨c0, c1, c2, f1, f2⟩ := HR8.out.cells
            go_wp2
            go_ret
            exact ⟨_, [], a1, e6, rfl, World.ownsRow_nil _ _ _ _, ⟨Nat.zero_le _, fun r hr => by cases hr⟩, HR8.out, HG8.out, Stp.many (k := k + 1) HQP.out HKN.out HE0.out⟩
    · have d0 := dF (p := k < n) hlt
      have hkn : k = n := by omega
      have HKN := Lib.hid hkn
      clear hlt hkn
      go_wp2
      go_ret
      exact ⟨_, L, a', e', rfl, by rw [HLN.out]; exact HO.out, ⟨by rw [HL.out.1]; exact hk, HL.out.2⟩, HR.out, HG.out, by rw [← HKN.out]; exact HST.out⟩
end Go.Proofs.Ytgppkpdjpcegbaa
end
