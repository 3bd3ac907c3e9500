/- Texts that others rest on, one behind the other: ShW, ShY. -/
import Derived.Test.YtocfphijheidbaaShX0
import Derived.Test.YtocfphijheidbaaMgS
section
namespace Go.Proofs.Ytocfphijheidbaa
open Go.RowKit

/-- No element that is small enough divides p. -/
def tst (l : List Int) (p : Int) : Bool := (l.takeWhile fun x => decide (x * x ≤ p)).all fun x => p % x != 0
/-- The primes below p. -/
def prL : Nat → List Int
  | 0 => []
  | p + 1 => if 2 ≤ p ∧ tst (prL p) (p : Int) = true then prL p ++ [(p : Int)] else prL p
set_option maxRecDepth 1000000 in
theorem prL_all : prL 410 = prN := by decide +kernel
set_option maxRecDepth 1000000 in
theorem prL_few : ∀ p, p < 410 → (prL p).length < 80 := by decide +kernel
theorem prL_rng : ∀ p, ∀ x ∈ prL p, 2 ≤ x ∧ x < (p : Int)
  | 0, x, h => by cases h
  | p + 1, x, h => by
    have ih := prL_rng p
    rw [prL] at h
    split at h
    · rename_i h2
      rcases List.mem_append.1 h with h | h
      · have := ih x h; omega
      · rw [List.mem_singleton] at h; omega
    · have := ih x h; omega
/-- What the loop over the elements has told, behind so many of them. -/
theorem tst_stop {l : List Int} {p : Int} {i : Nat} (h : ∀ j, j < i → l.getD j 0 * l.getD j 0 ≤ p) (hi : i ≤ l.length) (he : i = l.length ∨ p < l.getD i 0 * l.getD i 0) : tst l p = (l.take i).all fun x => p % x != 0 := by
  have e : (l.takeWhile fun x => decide (x * x ≤ p)) = l.take i := by
    induction l generalizing i with
    | nil => simp
    | cons a l ih =>
      cases i with
      | zero =>
        rcases he with he | he
        · simp at he
        · simp only [List.getD_cons_zero] at he
          rw [List.takeWhile_cons, if_neg (by simpa using he)]
          rfl
      | succ i =>
        have h0 := h 0 (by omega)
        simp only [List.getD_cons_zero] at h0
        rw [List.takeWhile_cons, if_pos (by simpa using h0), List.take_succ_cons]
        congr 1
        refine ih (fun j hj => by have := h (j + 1) (by omega); simpa using this) (by simpa using hi) ?_
        rcases he with he | he
        · left; simpa using he
        · right; simpa using he
  rw [tst, e]
theorem all_next {l : List Int} {p : Int} {i : Nat} (hi : i < l.length) : ((l.take (i + 1)).all fun x => p % x != 0) = (((l.take i).all fun x => p % x != 0) && (p % l.getD i 0 != 0)) := by
  rw [List.take_succ_eq_append_getElem hi, List.all_append, List.getD_eq_getElem?_getD, List.getElem?_eq_getElem hi]
  simp
end Go.Proofs.Ytocfphijheidbaa
end

section
namespace Go.Proofs.Ytocfphijheidbaa
open Go.RowKit

def lc (l : List Int) : List Value := l.map (Value.int .u64)
theorem lc_length (l : List Int) : (lc l).length = l.length := by simp [lc]
theorem own_lc {w : World} {B g n c : Nat} {e : TypeId} {l : List Int} (h : w.ownsRow B e 1 (.slice (some ⟨g, 0, none⟩) n c) n (lc l)) {j : Nat} (hj : j < n) : w.cell? ⟨g, j, none⟩ = some (.int .u64 (l.getD j 0)) := by
  have hl : l.length = n := by have := h.1; rw [lc_length] at this; omega
  have h1 := h.cells (g := g) rfl j (.int .u64 (l.getD j 0)) (by simp [lc, List.getD_eq_getElem?_getD, show j < l.length by omega])
  have e : (⟨g, 0, none⟩ : Addr).add j = ⟨g, j, none⟩ := by simp only [Addr.add]; split <;> simp_all
  rwa [e] at h1
theorem lc_all : lc prN = arL .u64 80 prF := by kernel_rfl
theorem prL_yes {p : Nat} (h2 : 2 ≤ p) (h : tst (prL p) (p : Int) = true) : prL (p + 1) = prL p ++ [(p : Int)] := if_pos ⟨h2, h⟩
theorem prL_no {p : Nat} (h : tst (prL p) (p : Int) = false) : prL (p + 1) = prL p := if_neg (fun h2 => by rw [h] at h2; exact absurd h2.2 (by decide))
theorem lc_snoc (l : List Int) (x : Int) : lc l ++ [Value.int .u64 x] = lc (l ++ [x]) := by simp [lc]

set_option maxRecDepth 100000 in
set_option maxHeartbeats 8000000 in
theorem primes_any (w : World) : Calls Try.prog 60 #[.int .i64 80] w fun e w' => ∃ g c, e = .returned (.slice (some ⟨g, 0, none⟩) 80 c) ∧ w.heap.size ≤ g ∧ ArA .u64 80 w' g 0 prF ∧ Below w.heap.size w w' := by
  obtain ⟨i0, hi, hz0, hz1, hz2⟩ := info_parts infoU64
  have HI := Lib.hid hi
  have HZ0 := Lib.hid hz0
  have HZ1 := Lib.hid hz1
  have HZ2 := Lib.hid hz2
  clear hi hz0 hz1 hz2
  go_enter Try.func60, Try.ntmps60
  go_wp2_with fail
  go_loopw [3, 4] (fun v x wr => ∃ p L : Nat, 2 ≤ p ∧ p ≤ 410 ∧ x = .int .u64 (p : Int) ∧ Hid (L = (prL p).length) ∧ Hid (wr.ownsRow w.heap.size 114 1 v L (lc (prL p))) ∧ Hid (Below w.heap.size w wr)) (fun _ x _ => 411 - (intOf x).toNat)
  case atStart => exact ⟨2, 0, by omega, by omega, rfl, rfl, World.ownsRow_nil _ _ _ _, Below.refl _ _⟩
  case round =>
    obtain ⟨p, L, hp2, hp, rfl, HL, HO, HB⟩ := hrel
    obtain ⟨va, vc, rfl⟩ := own_shape HO.out
    by_cases hp4 : p < 410
    · have hL80 : L < 80 := by rw [HL.out]; exact prL_few p hp4
      have dL : decide ((L : Int) < 80) = true := dT (by omega)
      have HP2 := Lib.hid hp2
      clear hp
      go_wp2_with fail
      go_loopw [5, 6] (fun bb x wr => ∃ (i : Nat) (b : Bool), i ≤ L ∧ x = .int .i64 i ∧ bb = .bool b ∧ Hid (b = ((prL p).take i).all fun x => (p : Int) % x != 0) ∧ Hid (∀ j, j < i → (prL p).getD j 0 * (prL p).getD j 0 ≤ (p : Int)) ∧ Hid (wr.ownsRow w.heap.size 114 1 (.slice va L vc) L (lc (prL p))) ∧ Hid (Below w.heap.size w wr)) (fun _ x _ => L - (intOf x).toNat)
      case atStart => exact ⟨0, true, Nat.zero_le _, rfl, rfl, rfl, Lib.hid (fun j hj => absurd hj (by omega)), HO, HB⟩
      case round =>
        clear HO HB
        obtain ⟨i, b, hil, rfl, rfl, HT, HQ, HO, HB⟩ := hrel
        by_cases hlt : i < L
        · obtain ⟨g, rfl⟩ : ∃ g, va = some ⟨g, 0, none⟩ := by
            rcases HO.out.2 with ⟨h1, h2⟩ | ⟨g, cap, cur, h1, _⟩
            · omega
            · injection h1 with h1; exact ⟨g, h1⟩
          have c0 := own_lc HO.out hlt
          have hxr := prL_rng p ((prL p).getD i 0) (by
            have h1 := HL.out
            rw [List.getD_eq_getElem?_getD, List.getElem?_eq_getElem (by omega)]
            exact List.getElem_mem _)
          have HAN := Lib.hid (all_next (l := prL p) (p := (p : Int)) (i := i) (by rw [← HL.out]; exact hlt))
          have HST := Lib.hid (fun (he : (p : Int) < (prL p).getD i 0 * (prL p).getD i 0) => tst_stop (l := prL p) (p := (p : Int)) (i := i) HQ.out (by rw [← HL.out]; omega) (Or.inr he))
          obtain ⟨x, hx⟩ : ∃ z, (prL p).getD i 0 = z := ⟨_, rfl⟩
          rw [hx] at c0 hxr HAN HST
          obtain ⟨hx2, hxp⟩ := hxr
          have hxx : x * x < 18446744073709551616 := by
            have h1 : x * x ≤ 410 * 410 := Int.mul_le_mul (by omega) (by omega) (by omega) (by omega)
            omega
          have hxx0 : 0 ≤ x * x := Int.mul_nonneg (by omega) (by omega)
          obtain ⟨y, hy⟩ : ∃ z, x * x = z := ⟨_, rfl⟩
          have hw : IntKind.u64.wrap (x * x) = y := by rw [IntKind.wrap_u64, hy]; omega
          have HX := Lib.hid hx
          have HY := Lib.hid hy
          have dI : decide (i < L) = true := dT hlt
          have pi0 : (0 : Int) ≤ (i : Int) := by omega
          have ri : (i : Int) < (L : Int) := by omega
          have HIL := Lib.hid hlt
          clear hx hy hxx hxx0
          by_cases hle : y ≤ (p : Int)
          · have dy := dT hle
            have HQ2 := Lib.hid (show ∀ j, j < i + 1 → (prL p).getD j 0 * (prL p).getD j 0 ≤ (p : Int) from fun j hj => by
              by_cases e : j = i
              · rw [e, HX.out, HY.out]; exact hle
              · exact HQ.out j (by omega))
            have pp0 : (0 : Int) ≤ (p : Int) := by omega
            have px0 : (0 : Int) < x := by omega
            clear hle hlt hil HQ HST
            go_upto_region 7 with (fail)
            go_quiet (fail)
            rename_i nq
            have hbq := below_drewN (Below.refl wr.heap.size wr) nq
            have HO9 := Lib.hid (own_below' HO.out hbq)
            have HB9 := Lib.hid (HB.out.trans (hbq.mono HB.out.size))
            obtain ⟨w9, hw9⟩ : ∃ z, wr.drewN nq = z := ⟨_, rfl⟩
            rw [hw9] at HO9 HB9 ⊢
            clear hbq hw9 HO HB
            cases b
            · have HT2 := Lib.hid (show false = ((prL p).take (i + 1)).all fun x => (p : Int) % x != 0 by rw [HAN.out, ← HT.out]; rfl)
              clear HT HAN
              go_wp2
              go_roundw
              case rel => exact ⟨i + 1, false, HIL.out, by go_num, rfl, HT2, HQ2, HO9, HB9⟩
              case measure =>
                simp only [intOf]
                have := HIL.out
                omega
            · obtain ⟨cx, hcx⟩ : ∃ z, ((p : Int) % x != 0) = z := ⟨_, rfl⟩
              have HT2 := Lib.hid (show cx = ((prL p).take (i + 1)).all fun x => (p : Int) % x != 0 by rw [HAN.out, ← HT.out, ← hcx]; rfl)
              have c0 := own_lc HO9.out HIL.out
              rw [HX.out] at c0
              have hxne : (x == 0) = false := eF (by omega)
              clear HT HAN
              go_wp2
              go_roundw
              case rel => exact ⟨i + 1, cx, HIL.out, by go_num, by first | rfl | (rw [← hcx]), HT2, HQ2, HO9, HB9⟩
              case measure =>
                simp only [intOf]
                have := HIL.out
                omega
          · have dy := dF hle
            have HTT := Lib.hid (show tst (prL p) (p : Int) = b by rw [HST.out (by rw [HY.out]; omega)]; exact HT.out.symm)
            clear hle hlt hil HQ HST HAN
            go_upto_region 7 with (fail)
            go_quiet (fail)
            rename_i nq
            have hbq := below_drewN (Below.refl wr.heap.size wr) nq
            have HO9 := Lib.hid (own_below' HO.out hbq)
            have HB9 := Lib.hid (HB.out.trans (hbq.mono HB.out.size))
            obtain ⟨w9, hw9⟩ : ∃ z, wr.drewN nq = z := ⟨_, rfl⟩
            rw [hw9] at HO9 HB9 ⊢
            clear hbq hw9 HO HB
            cases b
            · have HNX := Lib.hid (prL_no HTT.out)
              have HLN := Lib.hid (show L = (prL (p + 1)).length by rw [HNX.out]; exact HL.out)
              rw [← HNX.out] at HO9
              clear HTT HNX HT HL
              go_wp2
              go_roundw
              case rel => exact ⟨p + 1, L, by have := HP2.out; omega, by omega, by go_num, HLN, HO9, HB9⟩
              case measure => first | (simp [intOf]; done) | (simp [intOf]; omega)
            · have HNX := Lib.hid (prL_yes HP2.out HTT.out)
              have HLN := Lib.hid (show L + 1 = (prL (p + 1)).length by rw [HNX.out, List.length_append, ← HL.out]; rfl)
              clear HTT HT HL
              go_wp2_with (first | (at_builtin; refine wpList_append_own _ rfl _ _ 112 rfl w.heap.size 114 i0 (.int .u64 0) 1 8 Try.underlying112 HI.out HZ0.out HZ1.out HZ2.out rfl (by decide) _ L _ rfl (HO9.out.alloc _) ⟨w9.heap.size, 0, none⟩ 1 1 [.int .u64 (p : Int)] rfl rfl ?c1 ?c2 ?c3 ?c4 ?c5 ?_))
              case c1 => exact cell_one_new _ _ _
              case c2 => exact one_int _ _
              case c3 => unfold maxLen; omega
              case c4 => omega
              case c5 => have := HB9.out.size; simp; omega
              intro v5 w5 hown5 hgrow5 _
              have HB5 := Lib.hid ((HB9.out.alloc HB9.out.size _).grown hgrow5 (by have := HB9.out.size; simp; omega) (fun k hk => (HO9.out.lt k hk).1))
              rw [lc_snoc, ← HNX.out] at hown5
              have HO5 := Lib.hid hown5
              clear hown5 hgrow5 HO9 HB9 HNX
              go_wp2
              go_roundw
              case rel => exact ⟨p + 1, L + 1, by have := HP2.out; omega, by omega, by go_num, HLN, HO5, HB5⟩
              case measure => first | (simp [intOf]; done) | (simp [intOf]; omega)
        · have hiL : i = L := by omega
          have HTT := Lib.hid (show tst (prL p) (p : Int) = b by
            rw [tst_stop (l := prL p) (p := (p : Int)) (i := i) HQ.out (by rw [← HL.out]; omega) (Or.inl (by rw [← HL.out]; exact hiL))]
            exact HT.out.symm)
          have dI : decide (i < L) = false := dF hlt
          clear hlt hil hiL HQ
          go_upto_region 7 with (fail)
          go_quiet (fail)
          rename_i nq
          have hbq := below_drewN (Below.refl wr.heap.size wr) nq
          have HO9 := Lib.hid (own_below' HO.out hbq)
          have HB9 := Lib.hid (HB.out.trans (hbq.mono HB.out.size))
          obtain ⟨w9, hw9⟩ : ∃ z, wr.drewN nq = z := ⟨_, rfl⟩
          rw [hw9] at HO9 HB9 ⊢
          clear hbq hw9 HO HB
          cases b
          · have HNX := Lib.hid (prL_no HTT.out)
            have HLN := Lib.hid (show L = (prL (p + 1)).length by rw [HNX.out]; exact HL.out)
            rw [← HNX.out] at HO9
            clear HTT HNX HT HL
            go_wp2
            go_roundw
            case rel => exact ⟨p + 1, L, by have := HP2.out; omega, by omega, by go_num, HLN, HO9, HB9⟩
            case measure => first | (simp [intOf]; done) | (simp [intOf]; omega)
          · have HNX := Lib.hid (prL_yes HP2.out HTT.out)
            have HLN := Lib.hid (show L + 1 = (prL (p + 1)).length by rw [HNX.out, List.length_append, ← HL.out]; rfl)
            clear HTT HT HL
            go_wp2_with (first | (at_builtin; refine wpList_append_own _ rfl _ _ 112 rfl w.heap.size 114 i0 (.int .u64 0) 1 8 Try.underlying112 HI.out HZ0.out HZ1.out HZ2.out rfl (by decide) _ L _ rfl (HO9.out.alloc _) ⟨w9.heap.size, 0, none⟩ 1 1 [.int .u64 (p : Int)] rfl rfl ?c1 ?c2 ?c3 ?c4 ?c5 ?_))
            case c1 => exact cell_one_new _ _ _
            case c2 => exact one_int _ _
            case c3 => unfold maxLen; omega
            case c4 => omega
            case c5 => have := HB9.out.size; simp; omega
            intro v5 w5 hown5 hgrow5 _
            have HB5 := Lib.hid ((HB9.out.alloc HB9.out.size _).grown hgrow5 (by have := HB9.out.size; simp; omega) (fun k hk => (HO9.out.lt k hk).1))
            rw [lc_snoc, ← HNX.out] at hown5
            have HO5 := Lib.hid hown5
            clear hown5 hgrow5 HO9 HB9 HNX
            go_wp2
            go_roundw
            case rel => exact ⟨p + 1, L + 1, by have := HP2.out; omega, by omega, by go_num, HLN, HO5, HB5⟩
            case measure => first | (simp [intOf]; done) | (simp [intOf]; omega)
    · have hp410 : p = 410 := by omega
      have hL80 : L = 80 := by rw [HL.out, hp410, prL_all]; rfl
      have HO2 := Lib.hid (show wr.ownsRow w.heap.size 114 1 (.slice va 80 vc) 80 (arL .u64 80 prF) from by
        have h1 := HO.out
        rw [hp410, prL_all, lc_all, hL80] at h1
        exact h1)
      obtain ⟨g, rfl, hg⟩ : ∃ g, va = some ⟨g, 0, none⟩ ∧ w.heap.size ≤ g := by
        rcases HO2.out.2 with ⟨h1, h2⟩ | ⟨g, cap, cur, h1, h2, _⟩
        · omega
        · injection h1 with h1; exact ⟨g, h1, h2⟩
      have HA := Lib.hid (own_arA HO2.out)
      have HG := Lib.hid hg
      have dL : decide ((L : Int) < 80) = false := dF (by omega)
      have HL80 := Lib.hid hL80
      clear hp410 HL HO HO2 hp hp2 hp4 hg hL80
      go_wp2
      go_ret
      exact ⟨g, vc, by rw [HL80.out]; rfl, HG.out, HA.out, HB.out⟩
end Go.Proofs.Ytocfphijheidbaa
end
