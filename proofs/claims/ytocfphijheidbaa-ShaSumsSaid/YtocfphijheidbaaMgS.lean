/- Texts that others rest on, one behind the other: ShR, ShS, ShU. -/
import Derived.Test.YtocfphijheidbaaShQ
import Derived.Laws.OwnMore
section
namespace Go.Proofs.Ytocfphijheidbaa
open Go.RowKit

theorem infoU64 : (Try.prog.info? 114).map (fun i => (i.zero, i.size, i.bytes)) = some (some (.int .u64 0), 1, 8) := by kernel_rfl
theorem mulI_succ (a b : Nat → Int) (i : Nat) (out : Nat → Int) (k : Nat) : mulI a b i out (k + 1) = (upd (mulI a b i out k).1 (i + k) ((a i * b k + (mulI a b i out k).1 (i + k) + (mulI a b i out k).2) % 18446744073709551616 % 4294967296), (a i * b k + (mulI a b i out k).1 (i + k) + (mulI a b i out k).2) % 18446744073709551616 / 4294967296) := rfl
theorem mulO_succ (a b : Nat → Int) (lb i : Nat) : mulO a b lb (i + 1) = upd (mulI a b i (mulO a b lb i) lb).1 (i + lb) (((mulI a b i (mulO a b lb i) lb).1 (i + lb) + (mulI a b i (mulO a b lb i) lb).2) % 18446744073709551616) := rfl
/-- A row of numbers that was made is an array. -/
theorem own_arA {w : World} {B g n c : Nat} {e : TypeId} {f : Nat → Int} (h : w.ownsRow B e 1 (.slice (some ⟨g, 0, none⟩) n c) n (arL .u64 n f)) : ArA .u64 n w g 0 f := by
  intro j hj
  rw [Nat.zero_add]
  have h1 := h.cells (g := g) rfl j _ (arL_get hj)
  have h2 := h.frozenAt j
  have e : (⟨g, 0, none⟩ : Addr).add j = ⟨g, j, none⟩ := by simp only [Addr.add]; split <;> simp_all
  exact ⟨by rwa [e] at h1, h2⟩
theorem made64 (n : Nat) : (madeCells #[Value.int .u64 0] n).toList = arL .u64 n (fun _ => 0) := by
  rw [toList_madeCells_one]
  simp [arL, List.map_const']
set_option maxRecDepth 100000 in
set_option maxHeartbeats 4000000 in
theorem mul_any (qa la ca : Nat) (fa : Nat → Int) (qb lb cb : Nat) (fb : Nat → Int) (w : World) (ha : ArA .u64 la w qa 0 fa) (hb : ArA .u64 lb w qb 0 fb) (la1 : la ≤ 100) (lb1 : lb ≤ 100) (hla : 0 < la) (hlb : 0 < lb) :
    Calls Try.prog 91 #[.slice (some ⟨qa, 0, none⟩) la ca, .slice (some ⟨qb, 0, none⟩) lb cb] w fun e w' => ∃ g, e = .returned (.slice (some ⟨g, 0, none⟩) (la + lb + 1) (la + lb + 1)) ∧ w.heap.size ≤ g ∧ ArA .u64 (la + lb + 1) w' g 0 (mulO fa fb lb la) ∧ Below w.heap.size w w' := by
  obtain ⟨i0, hi, hz0, hz1, hz2⟩ := info_parts infoU64
  have HI := Lib.hid hi
  have HZ0 := Lib.hid hz0
  have HZ1 := Lib.hid hz1
  have HZ2 := Lib.hid hz2
  have HA := Lib.hid ha
  have HB := Lib.hid hb
  have hqa := block_lt_of_cell (ha 0 hla).1
  have hqb := block_lt_of_cell (hb 0 hlb).1
  simp only at hqa hqb
  obtain ⟨n, hn⟩ : ∃ x, la + lb + 1 = x := ⟨_, rfl⟩
  have HN := Lib.hid hn
  have hsum : (la : Int) + (lb : Int) + 1 = (n : Int) := by omega
  rw [hn]
  clear hi hz0 hz1 hz2 ha hb hn
  go_enter Try.func91, Try.ntmps91
  go_wp2_with (at_make; refine wpList_make_full _ rfl _ _ 112 rfl w.heap.size 114 i0 (.int .u64 0) 1 Try.underlying112 HI.out HZ0.out HZ1.out .i64 .i64 _ _ n rfl rfl (by first | exact hsum | rfl) (by first | exact hsum | rfl) ?b2 ?b3 (Nat.le_refl _) ?_)
  case b2 => rw [HZ2.out]; have := HN.out; omega
  case b3 => have := HN.out; unfold maxLen; omega
  intro w1 hown hgrow
  rw [made64] at hown
  have HO := Lib.hid (own_arA hown)
  have HW := Lib.hid ((Below.refl w.heap.size w).grown hgrow (Nat.le_refl _) (by simp))
  obtain ⟨g, hg⟩ : ∃ x, w.heap.size = x := ⟨_, rfl⟩
  rw [hg] at HO
  have HG := Lib.hid hg
  clear hown hgrow hg hsum
  rw [HG.out]
  have HGE := Lib.hid (show w.heap.size ≤ g by rw [HG.out]; exact Nat.le_refl _)
  have HNE := Lib.hid (show qa ≠ g ∧ qb ≠ g by have := HGE.out; omega)
  clear HG
  go_wp2_with fail
  go_loopw [6] (fun i wr => ∃ k : Nat, k ≤ la ∧ i = .int .i64 k ∧ Hid (ArA .u64 n wr g 0 (mulO fa fb lb k)) ∧ Hid (Below w.heap.size w wr)) (fun i _ => la - (intOf i).toNat)
  case atStart => exact ⟨0, Nat.zero_le _, rfl, HO, HW⟩
  case round =>
    clear HO HW
    obtain ⟨i, hi, rfl, HO, HW⟩ := hrel
    by_cases hlt : i < la
    · obtain ⟨O, hO⟩ : ∃ x, mulO fa fb lb i = x := ⟨_, rfl⟩
      have HS := Lib.hid (mulO_succ fa fb lb i)
      rw [hO] at HO HS
      have HIL := Lib.hid hlt
      have dI : decide (i < la) = true := dT hlt
      clear hO hi
      go_wp2_with fail
      go_loopw [7, 8] (fun c k wr => ∃ (j : Nat) (cc : Int), j ≤ lb ∧ k = .int .i64 j ∧ c = .int .u64 cc ∧ Hid (cc = (mulI fa fb i O j).2) ∧ Hid (ArA .u64 n wr g 0 (mulI fa fb i O j).1) ∧ Hid (Below w.heap.size w wr)) (fun _ k _ => lb - (intOf k).toNat)
      case atStart => exact ⟨0, 0, Nat.zero_le _, rfl, rfl, rfl, HO, HW⟩
      case round =>
        clear HO HW
        obtain ⟨j, cc, hj, rfl, rfl, HC, HO, HW⟩ := hrel
        by_cases hjl : j < lb
        · have HS1 := Lib.hid (mulI_succ fa fb i O j)
          obtain ⟨m, hm⟩ : ∃ x, i + j = x := ⟨_, rfl⟩
          have hmn : m < n := by have := HN.out; omega
          have hms : (i : Int) + (j : Int) = (m : Int) := by omega
          have hmw : IntKind.i64.wrap (m : Int) = (m : Int) := by rw [IntKind.wrap_i64]; have := HN.out; omega
          obtain ⟨ca1, -⟩ := (HA.out.below HW.out) i hlt
          obtain ⟨cb1, -⟩ := (HB.out.below HW.out) j hjl
          obtain ⟨co1, fo1⟩ := HO.out m hmn
          rw [Nat.zero_add] at ca1 cb1 co1 fo1
          obtain ⟨av, hav⟩ : ∃ x, fa i = x := ⟨_, rfl⟩
          obtain ⟨bv, hbv⟩ : ∃ x, fb j = x := ⟨_, rfl⟩
          obtain ⟨ov, hov⟩ : ∃ x, (mulI fa fb i O j).1 m = x := ⟨_, rfl⟩
          rw [hav] at ca1
          rw [hbv] at cb1
          rw [hov] at co1
          rw [hm, hav, hbv, hov, ← HC.out] at HS1
          have pi0 : (0 : Int) ≤ (i : Int) := by omega
          have pj0 : (0 : Int) ≤ (j : Int) := by omega
          have pm0 : (0 : Int) ≤ (m : Int) := by omega
          have ri : (i : Int) < (la : Int) := by omega
          have rj : (j : Int) < (lb : Int) := by omega
          have rm : (m : Int) < (n : Int) := by omega
          have HJ := Lib.hid hjl
          clear hm hav hbv hov hj
          go_upto_region 9 with (fail)
          go_quiet (fail)
          rename_i nq
          have hbq := below_drewN (Below.refl wr.heap.size wr) nq
          have HO9 := Lib.hid (HO.out.below hbq)
          have HW9 := Lib.hid (HW.out.trans (hbq.mono HW.out.size))
          obtain ⟨w9, hw9⟩ : ∃ z, wr.drewN nq = z := ⟨_, rfl⟩
          rw [hw9] at HO9 HW9 ⊢
          clear hbq hw9 ca1 cb1 co1 fo1 HO HW
          obtain ⟨co1, fo1⟩ := HO9.out m hmn
          rw [Nat.zero_add] at co1 fo1
          have HX := Lib.hid (show bits .and .u64 (IntKind.u64.wrap (IntKind.u64.wrap (IntKind.u64.wrap (av * bv) + ov) + cc)) 4294967295 = (av * bv + ov + cc) % 18446744073709551616 % 4294967296 by rw [and_low _ (wrap_rng _).1 (wrap_rng _).2, mul_wrap])
          have HX2 := Lib.hid (mul_wrap av bv ov cc)
          obtain ⟨X, hX⟩ : ∃ z, IntKind.u64.wrap (IntKind.u64.wrap (IntKind.u64.wrap (av * bv) + ov) + cc) = z := ⟨_, rfl⟩
          rw [hX] at HX HX2 ⊢
          rw [← HX.out, ← HX2.out] at HS1
          clear HX HX2 hX HC
          have HO10 := Lib.hid (show ArA .u64 n (w9.setCell ⟨g, m, none⟩ (.int .u64 (bits .and .u64 X 4294967295))) g 0 (mulI fa fb i O (j + 1)).1 from by
            rw [HS1.out]
            have h := HO9.out.set (i := m) (bits .and .u64 X 4294967295)
            rw [Nat.zero_add] at h
            exact h)
          have HW10 := Lib.hid (HW9.out.setCell (p := ⟨g, m, none⟩) HGE.out (.int .u64 (bits .and .u64 X 4294967295)))
          have HC10 := Lib.hid (show X / 4294967296 = (mulI fa fb i O (j + 1)).2 by rw [HS1.out])
          clear HO9 HW9 HS1
          go_wp2
          go_roundw
          case rel => exact ⟨j + 1, X / 4294967296, HJ.out, by go_num, rfl, HC10, HO10, HW10⟩
          case measure =>
            simp only [intOf]
            have := HJ.out
            omega
        · have hjb : j = lb := by omega
          subst hjb
          obtain ⟨m, hm⟩ : ∃ x, i + j = x := ⟨_, rfl⟩
          rw [hm] at HS
          have hmn : m < n := by have := HN.out; omega
          have hms : (i : Int) + (j : Int) = (m : Int) := by omega
          have hmw : IntKind.i64.wrap (m : Int) = (m : Int) := by rw [IntKind.wrap_i64]; have := HN.out; omega
          obtain ⟨co1, fo1⟩ := HO.out m hmn
          rw [Nat.zero_add] at co1 fo1
          obtain ⟨ov, hov⟩ : ∃ x, (mulI fa fb i O j).1 m = x := ⟨_, rfl⟩
          rw [hov] at co1
          rw [hov, ← HC.out] at HS
          have pm0 : (0 : Int) ≤ (m : Int) := by omega
          have rm : (m : Int) < (n : Int) := by omega
          have HO10 := Lib.hid (show ArA .u64 n (wr.setCell ⟨g, m, none⟩ (.int .u64 (IntKind.u64.wrap (ov + cc)))) g 0 (mulO fa fb j (i + 1)) from by
            rw [HS.out, IntKind.wrap_u64]
            have h := HO.out.set (i := m) ((ov + cc) % 18446744073709551616)
            rw [Nat.zero_add] at h
            exact h)
          have HW10 := Lib.hid (HW.out.setCell (p := ⟨g, m, none⟩) HGE.out (.int .u64 (IntKind.u64.wrap (ov + cc))))
          clear hm hov HO HW HS HC hjl hj
          go_wp2
          go_roundw
          case rel => exact ⟨i + 1, HIL.out, by go_num, HO10, HW10⟩
          case measure =>
            simp only [intOf]
            have := HIL.out
            omega
    · have hil : i = la := by omega
      subst hil
      go_wp2
      go_ret
      exact ⟨g, rfl, HGE.out, HO.out, HW.out⟩
end Go.Proofs.Ytocfphijheidbaa
end

section
namespace Go.Proofs.Ytocfphijheidbaa
open Go.RowKit

theorem abV_hi {f : Nat → Int} {n h t d : Nat} (hd : n - 1 - t = d) (hh : h ≤ d) : abV f n h (t + 1) = (min (bits .or .u64 ((abV f n h t).1 * 4294967296 % 18446744073709551616) (f d)) 2147483648, (abV f n h t).2) := by
  show (if h ≤ n - 1 - t then _ else _) = _
  rw [hd, if_pos hh]
theorem abV_lo {f : Nat → Int} {n h t d : Nat} (hd : n - 1 - t = d) (hh : ¬ h ≤ d) : abV f n h (t + 1) = ((abV f n h t).1, (abV f n h t).2 || f d != 0) := by
  show (if h ≤ n - 1 - t then _ else _) = _
  rw [hd, if_neg hh]
set_option maxRecDepth 100000 in
set_option maxHeartbeats 4000000 in
theorem above_any (q n c : Nat) (f : Nat → Int) (p : Int) (k : Nat) (w : World) (ha : ArA .u64 n w q 0 f) (hn : n ≤ 1000) (hk : k ≤ 100) (hn0 : 0 < n) :
    Calls Try.prog 92 #[.slice (some ⟨q, 0, none⟩) n c, .int .u64 p, .int .i64 (k : Int)] w fun e w' => e = .returned (.bool (abB f n p k)) ∧ w = w' := by
  have HA := Lib.hid ha
  clear ha
  obtain ⟨h, hh⟩ : ∃ x, 2 * k = x := ⟨_, rfl⟩
  have HH := Lib.hid hh
  have hk2 : 2 * (k : Int) = (h : Int) := by omega
  go_enter Try.func92, Try.ntmps92
  go_wp2_with fail
  go_loop [7, 8, 9] (fun v lo i => ∃ (t : Nat) (s vv : Int) (b : Bool), t ≤ n ∧ i = .int .i64 s ∧ v = .int .u64 vv ∧ lo = .bool b ∧ Hid (s = (n : Int) - 1 - (t : Int)) ∧ Hid (vv = (abV f n h t).1) ∧ Hid (b = (abV f n h t).2)) (fun _ _ i => (intOf i + 1).toNat)
  case atStart => exact ⟨0, (n : Int) - 1, 0, false, Nat.zero_le _, rfl, rfl, rfl, Lib.hid (by omega), rfl, rfl⟩
  case round =>
    obtain ⟨t, s, vv, b, ht, rfl, rfl, rfl, HS, HV, HB⟩ := hrel
    by_cases hlt : t < n
    · obtain ⟨d, hd⟩ : ∃ x, n - 1 - t = x := ⟨_, rfl⟩
      obtain rfl : s = (d : Int) := by have := HS.out; omega
      have hdn : d < n := by omega
      obtain ⟨c0, -⟩ := HA.out d hdn
      rw [Nat.zero_add] at c0
      obtain ⟨x, hx⟩ : ∃ y, f d = y := ⟨_, rfl⟩
      rw [hx] at c0
      have HT := Lib.hid (show t + 1 ≤ n from hlt)
      have HSN := Lib.hid (show (d : Int) - 1 = (n : Int) - 1 - ((t + 1 : Nat) : Int) by omega)
      by_cases hhd : h ≤ d
      · have HST := Lib.hid (abV_hi (f := f) (h := h) hd hhd)
        rw [hx, ← HV.out, ← HB.out] at HST
        obtain ⟨V, hV⟩ : ∃ y, bits .or .u64 (IntKind.u64.wrap (vv * 4294967296)) x = y := ⟨_, rfl⟩
        have HVV := Lib.hid hV
        rw [← IntKind.wrap_u64, hV] at HST
        have dh : decide ((h : Int) ≤ (d : Int)) = true := dT (by omega)
        clear hx hd HS HV HB hlt ht
        clear HVV
        by_cases hbig : (2147483648 : Int) < V
        · have d4 := dT hbig
          rw [show min V 2147483648 = 2147483648 by omega] at HST
          clear hbig
          go_wp2
          go_round
          case rel => exact ⟨t + 1, (d : Int) - 1, 2147483648, b, HT.out, by go_num, congrArg (Value.int .u64) (if_pos (of_decide_eq_true d4)), rfl, HSN, Lib.hid (by rw [HST.out]), Lib.hid (by rw [HST.out])⟩
          case measure => first | (simp [intOf]; done) | (simp [intOf]; omega)
        · have d4 := dF hbig
          rw [show min V 2147483648 = V by omega] at HST
          clear hbig
          go_wp2
          go_round
          case rel => exact ⟨t + 1, (d : Int) - 1, V, b, HT.out, by go_num, congrArg (Value.int .u64) (if_neg (of_decide_eq_false d4)), rfl, HSN, Lib.hid (by rw [HST.out]), Lib.hid (by rw [HST.out])⟩
          case measure => first | (simp [intOf]; done) | (simp [intOf]; omega)
      · have HST := Lib.hid (abV_lo (f := f) (h := h) hd hhd)
        rw [hx, ← HV.out, ← HB.out] at HST
        have dh : decide ((h : Int) ≤ (d : Int)) = false := dF (by omega)
        clear hx hd HS HV HB hlt ht
        cases b
        · by_cases hx0 : x = 0
          · subst hx0
            go_wp2
            go_round
            case rel => exact ⟨t + 1, (d : Int) - 1, vv, false, HT.out, by go_num, rfl, rfl, HSN, Lib.hid (by rw [HST.out]), Lib.hid (by rw [HST.out]; rfl)⟩
            case measure => first | (simp [intOf]; done) | (simp [intOf]; omega)
          · have dx : (x != 0) = true := nT hx0
            go_wp2
            go_round
            case rel => exact ⟨t + 1, (d : Int) - 1, vv, true, HT.out, by go_num, rfl, rfl, HSN, Lib.hid (by rw [HST.out]), Lib.hid (by rw [HST.out, dx]; rfl)⟩
            case measure => first | (simp [intOf]; done) | (simp [intOf]; omega)
        · go_wp2
          go_round
          case rel => exact ⟨t + 1, (d : Int) - 1, vv, true, HT.out, by go_num, rfl, rfl, HSN, Lib.hid (by rw [HST.out]), Lib.hid (by rw [HST.out]; rfl)⟩
          case measure => first | (simp [intOf]; done) | (simp [intOf]; omega)
    · have htn : t = n := by omega
      subst htn
      have hsm : s < 0 := by have := HS.out; omega
      have HR := Lib.hid (show abB f t p k = (decide (p < vv) || (vv == p && b)) by
        show (decide (p < (abV f t (2 * k) t).1) || ((abV f t (2 * k) t).1 == p && (abV f t (2 * k) t).2)) = _
        rw [hh, ← HV.out, ← HB.out])
      clear HS HV HB hlt ht
      by_cases h1 : p < vv
      · have d5 := dT h1
        have HR2 := Lib.hid (show abB f t p k = true by rw [HR.out, d5]; rfl)
        clear h1
        go_wp2
        go_ret
        exact ⟨by rw [HR2.out]; rfl, rfl⟩
      · have d5 := dF h1
        by_cases h2 : vv = p
        · have e5 : (vv == p) = true := eT h2
          have HR2 := Lib.hid (show abB f t p k = b by rw [HR.out, d5, e5]; rfl)
          clear h1 h2
          cases b
          · go_wp2
            go_ret
            exact ⟨by rw [HR2.out]; rfl, rfl⟩
          · go_wp2
            go_ret
            exact ⟨by rw [HR2.out]; rfl, rfl⟩
        · have e5 : (vv == p) = false := eF h2
          have HR2 := Lib.hid (show abB f t p k = false by rw [HR.out, d5, e5]; rfl)
          clear h1 h2
          go_wp2
          go_ret
          exact ⟨by rw [HR2.out]; rfl, rfl⟩
end Go.Proofs.Ytocfphijheidbaa
end

section
namespace Go.Proofs.Ytocfphijheidbaa
open Go.RowKit

def rootY (p : Int) (k t : Nat) : Nat → Int := upd (rootX p k t) ((66 - t) / 32) (bits .or .u64 (rootX p k t ((66 - t) / 32)) (2 ^ ((66 - t) % 32)))
theorem rootX_yes {p : Int} {k t : Nat} (h : abB (powF k (rootY p k t)) (if k = 3 then 11 else 7) p k = true) : rootX p k (t + 1) = upd (rootY p k t) ((66 - t) / 32) (bits .xor .u64 (rootY p k t ((66 - t) / 32)) (2 ^ ((66 - t) % 32))) := if_pos h
theorem rootX_no {p : Int} {k t : Nat} (h : abB (powF k (rootY p k t)) (if k = 3 then 11 else 7) p k = false) : rootX p k (t + 1) = rootY p k t := if_neg (by show ¬ abB (powF k (rootY p k t)) (if k = 3 then 11 else 7) p k = true; rw [h]; decide)
set_option maxRecDepth 100000 in
set_option maxHeartbeats 8000000 in
theorem root_any (p : Int) (k : Nat) (w : World) (hk : k = 2 ∨ k = 3) :
    Calls Try.prog 61 #[.int .u64 p, .int .i64 (k : Int)] w fun e w' => e = .returned (.int .u64 (rootF p k)) ∧ Below w.heap.size w w' := by
  obtain ⟨i0, hi, hz0, hz1, hz2⟩ := info_parts infoU64
  have HI := Lib.hid hi
  have HZ0 := Lib.hid hz0
  have HZ1 := Lib.hid hz1
  have HZ2 := Lib.hid hz2
  have HK := Lib.hid hk
  clear hi hz0 hz1 hz2 hk
  go_enter Try.func61, Try.ntmps61
  go_wp2_with (at_make; refine wpList_make_full _ rfl _ _ 112 rfl w.heap.size 114 i0 (.int .u64 0) 1 Try.underlying112 HI.out HZ0.out HZ1.out .i64 .i64 _ _ 3 rfl rfl rfl rfl ?b2 ?b3 (Nat.le_refl _) ?_)
  case b2 => rw [HZ2.out]; omega
  case b3 => unfold maxLen; omega
  intro w1 hown hgrow
  rw [made64] at hown
  have HO := Lib.hid (own_arA hown)
  have HW := Lib.hid ((Below.refl w.heap.size w).grown hgrow (Nat.le_refl _) (by simp))
  obtain ⟨g, hg⟩ : ∃ x, w.heap.size = x := ⟨_, rfl⟩
  rw [hg] at HO
  have HG := Lib.hid hg
  clear hown hgrow hg
  rw [HG.out]
  have HGE := Lib.hid (show w.heap.size ≤ g by rw [HG.out]; exact Nat.le_refl _)
  clear HG
  go_wp2_with fail
  go_loopw [6] (fun i wr => ∃ (t : Nat) (s : Int), t ≤ 67 ∧ i = .int .i64 s ∧ Hid (s = 66 - (t : Int)) ∧ Hid (ArA .u64 3 wr g 0 (rootX p k t)) ∧ Hid (Below w.heap.size w wr)) (fun i _ => (intOf i + 1).toNat)
  case atStart => exact ⟨0, 66, Nat.zero_le _, rfl, rfl, HO, HW⟩
  case round =>
    clear HO HW
    obtain ⟨t, s, ht, rfl, HS, HO, HW⟩ := hrel
    by_cases hlt : t < 67
    · obtain ⟨b, hb⟩ : ∃ x, 66 - t = x := ⟨_, rfl⟩
      obtain rfl : s = (b : Int) := by have := HS.out; omega
      obtain ⟨d, hd⟩ : ∃ x, b / 32 = x := ⟨_, rfl⟩
      obtain ⟨e, he⟩ : ∃ x, b % 32 = x := ⟨_, rfl⟩
      have hd3 : d < 3 := by omega
      have he32 : e < 32 := by omega
      have HD := Lib.hid (show (b : Int) / 32 = (d : Int) by omega)
      have HE := Lib.hid (show (b : Int) % 32 = (e : Int) by omega)
      obtain ⟨co1, fo1⟩ := HO.out d hd3
      rw [Nat.zero_add] at co1 fo1
      obtain ⟨x, hx⟩ : ∃ y, rootX p k t d = y := ⟨_, rfl⟩
      rw [hx] at co1
      have HY := Lib.hid (show rootY p k t = upd (rootX p k t) d (bits .or .u64 x (2 ^ e)) by rw [rootY, hb, hd, he, hx])
      have HT := Lib.hid (show t + 1 ≤ 67 from hlt)
      have pd0 : (0 : Int) ≤ (d : Int) := by omega
      have pe0 : (0 : Int) ≤ (e : Int) := by omega
      have pe1 : (e : Int) < 64 := by omega
      have rd : (d : Int) < 3 := by omega
      have hdd : (b : Int).tdiv 32 = (d : Int) := by rw [Int.tdiv_eq_ediv_of_nonneg (by omega)]; exact HD.out
      have hde : (b : Int).tmod 32 = (e : Int) := by rw [Int.tmod_eq_emod_of_nonneg (by omega)]; exact HE.out
      have hpw : IntKind.u64.wrap ((2 : Int) ^ e) = 2 ^ e := by
        have h1 : (2 : Nat) ^ e < 2 ^ 32 := Nat.pow_lt_pow_right (by decide) he32
        have h3 : (2 : Int) ^ e = ((2 ^ e : Nat) : Int) := by simp
        rw [IntKind.wrap_u64, h3]
        generalize (2 : Nat) ^ e = z at h1
        omega
      obtain ⟨pw, hpw2⟩ : ∃ y, (2 : Int) ^ e = y := ⟨_, rfl⟩
      have HPW := Lib.hid (hpw.trans hpw2)
      have HPE := Lib.hid hpw2
      rw [hpw2] at HY
      obtain ⟨yv, hyv⟩ : ∃ y, bits .or .u64 x pw = y := ⟨_, rfl⟩
      rw [hyv] at HY
      have HYV := Lib.hid hyv
      have HB3 := Lib.hid hb
      clear hx ht hlt hpw hpw2 hyv
      go_upto_region 6 with (fail)
      rw [HPW.out, HYV.out]
      have HO2 := Lib.hid (show ArA .u64 3 (wr.setCell ⟨g, d, none⟩ (.int .u64 yv)) g 0 (rootY p k t) from by
        rw [HY.out]
        have h := HO.out.set (i := d) yv
        rw [Nat.zero_add] at h
        exact h)
      have HW2 := Lib.hid (HW.out.setCell (p := ⟨g, d, none⟩) HGE.out (.int .u64 yv))
      obtain ⟨w2, hw2⟩ : ∃ z, wr.setCell ⟨g, d, none⟩ (.int .u64 yv) = z := ⟨_, rfl⟩
      rw [hw2] at HO2 HW2 ⊢
      have HYD := Lib.hid (show rootY p k t d = yv by rw [HY.out]; exact if_pos rfl)
      have HX1 := Lib.hid (fun h => rootX_yes (p := p) (k := k) (t := t) h)
      have HX0 := Lib.hid (fun h => rootX_no (p := p) (k := k) (t := t) h)
      rw [hb, hd, he, HYD.out, HPE.out] at HX1
      obtain ⟨y, hy⟩ : ∃ z, rootY p k t = z := ⟨_, rfl⟩
      rw [hy] at HO2 HX1 HX0 HYD
      clear hw2 hy HY HO HW co1 fo1
      go_wp2_with fail
      refine (mul_any g 3 3 y g 3 3 y _ HO2.out HO2.out (by omega) (by omega) (by omega) (by omega)).mono ?_; rintro e' w3 ⟨g3, rfl, hg3, ho3, hb3⟩
      have HO3 := Lib.hid (HO2.out.below hb3)
      have HW3 := Lib.hid (HW2.out.trans (hb3.mono HW2.out.size))
      have HM3 := Lib.hid ho3
      clear ho3 hb3 hg3 HO2 HW2
      have hk100 : k ≤ 100 := by have := HK.out; omega
      rcases HK.out with hk2 | hk3
      · have dk : ((k : Int) == 3) = false := eF (by omega)
        have HAB := Lib.hid (show abB (powF k y) (if k = 3 then 11 else 7) p k = abB (mulO y y 3 3) 7 p k by rw [powF, if_neg (by omega), if_neg (by omega)])
        clear hk2
        go_wp2_with fail
        refine (above_any g3 7 7 _ p k _ HM3.out (by omega) hk100 (by omega)).mono ?_; rintro e' w4 ⟨rfl, rfl⟩
        obtain ⟨ab, hab⟩ : ∃ z, abB (mulO y y 3 3) 7 p k = z := ⟨_, rfl⟩
        rw [hab] at HAB ⊢
        clear hab HM3
        cases ab
        · have HXN := Lib.hid (HX0.out HAB.out)
          go_wp2
          go_roundw
          case rel => exact ⟨t + 1, (b : Int) - 1, HT.out, by go_num, Lib.hid (by have := HS.out; omega), Lib.hid (by rw [HXN.out]; exact HO3.out), HW3⟩
          case measure => first | (simp [intOf]; done) | (simp [intOf]; omega)
        · have HXN := Lib.hid (HX1.out HAB.out)
          obtain ⟨co1, fo1⟩ := HO3.out d hd3
          rw [Nat.zero_add, HYD.out] at co1
          rw [Nat.zero_add] at fo1
          go_upto_region 4 with (fail)
          rw [HPW.out]
          obtain ⟨zv, hzv⟩ : ∃ z, bits .xor .u64 yv pw = z := ⟨_, rfl⟩
          rw [hzv] at HXN
          rw [hzv]
          have HO5 := Lib.hid (show ArA .u64 3 (w3.setCell ⟨g, d, none⟩ (.int .u64 zv)) g 0 (rootX p k (t + 1)) from by
            rw [HXN.out]
            have h := HO3.out.set (i := d) zv
            rw [Nat.zero_add] at h
            exact h)
          have HW5 := Lib.hid (HW3.out.setCell (p := ⟨g, d, none⟩) HGE.out (.int .u64 zv))
          clear hzv co1 fo1 HO3 HW3
          go_wp2
          go_roundw
          case rel => exact ⟨t + 1, (b : Int) - 1, HT.out, by go_num, Lib.hid (by have := HS.out; omega), HO5, HW5⟩
          case measure => first | (simp [intOf]; done) | (simp [intOf]; omega)
      · have dk : ((k : Int) == 3) = true := eT (by omega)
        have HAB := Lib.hid (show abB (powF k y) (if k = 3 then 11 else 7) p k = abB (mulO (mulO y y 3 3) y 3 7) 11 p k by rw [powF, if_pos (by omega), if_pos (by omega)])
        clear hk3
        go_wp2_with fail
        refine (mul_any g3 7 7 _ g 3 3 y _ HM3.out HO3.out (by omega) (by omega) (by omega) (by omega)).mono ?_; rintro e' w9 ⟨g4, rfl, hg4, ho4, hb4⟩
        replace HO3 := Lib.hid (HO3.out.below hb4)
        replace HW3 := Lib.hid (HW3.out.trans (hb4.mono HW3.out.size))
        replace HM3 := Lib.hid ho4
        clear ho4 hb4 hg4
        go_wp2_with fail
        refine (above_any g4 11 11 _ p k _ HM3.out (by omega) hk100 (by omega)).mono ?_; rintro e' w4 ⟨rfl, rfl⟩
        obtain ⟨ab, hab⟩ : ∃ z, abB (mulO (mulO y y 3 3) y 3 7) 11 p k = z := ⟨_, rfl⟩
        rw [hab] at HAB ⊢
        clear hab HM3
        cases ab
        · have HXN := Lib.hid (HX0.out HAB.out)
          go_wp2
          go_roundw
          case rel => exact ⟨t + 1, (b : Int) - 1, HT.out, by go_num, Lib.hid (by have := HS.out; omega), Lib.hid (by rw [HXN.out]; exact HO3.out), HW3⟩
          case measure => first | (simp [intOf]; done) | (simp [intOf]; omega)
        · have HXN := Lib.hid (HX1.out HAB.out)
          obtain ⟨co1, fo1⟩ := HO3.out d hd3
          rw [Nat.zero_add, HYD.out] at co1
          rw [Nat.zero_add] at fo1
          go_upto_region 4 with (fail)
          rw [HPW.out]
          obtain ⟨zv, hzv⟩ : ∃ z, bits .xor .u64 yv pw = z := ⟨_, rfl⟩
          rw [hzv] at HXN
          rw [hzv]
          have HO5 := Lib.hid (show ArA .u64 3 (w9.setCell ⟨g, d, none⟩ (.int .u64 zv)) g 0 (rootX p k (t + 1)) from by
            rw [HXN.out]
            have h := HO3.out.set (i := d) zv
            rw [Nat.zero_add] at h
            exact h)
          have HW5 := Lib.hid (HW3.out.setCell (p := ⟨g, d, none⟩) HGE.out (.int .u64 zv))
          clear hzv co1 fo1 HO3 HW3
          go_wp2
          go_roundw
          case rel => exact ⟨t + 1, (b : Int) - 1, HT.out, by go_num, Lib.hid (by have := HS.out; omega), HO5, HW5⟩
          case measure => first | (simp [intOf]; done) | (simp [intOf]; omega)
    · have ht67 : t = 67 := by omega
      subst ht67
      have hsm : s < 0 := by have := HS.out; omega
      obtain ⟨c0, -⟩ := HO.out 0 (by decide)
      obtain ⟨c1, -⟩ := HO.out 1 (by decide)
      rw [Nat.zero_add] at c0 c1
      have HR := Lib.hid (show rootF p k = bits .or .u64 (IntKind.u64.wrap (rootX p k 67 1 * 4294967296)) (rootX p k 67 0) from rfl)
      obtain ⟨x0, hx0⟩ : ∃ z, rootX p k 67 0 = z := ⟨_, rfl⟩
      obtain ⟨x1, hx1⟩ : ∃ z, rootX p k 67 1 = z := ⟨_, rfl⟩
      rw [hx0] at c0 HR
      rw [hx1] at c1 HR
      have HWH := Lib.hid (show Below w.heap.size w wr from HW.out)
      clear hx0 hx1 HS HO HW ht hlt
      go_wp2_with fail
      go_quiet (fail)
      rename_i nq
      have HW9 := Lib.hid (below_drewN HWH.out nq)
      go_wp2
      go_ret
      exact ⟨by rw [HR.out]; rfl, HW9.out⟩
end Go.Proofs.Ytocfphijheidbaa
end
