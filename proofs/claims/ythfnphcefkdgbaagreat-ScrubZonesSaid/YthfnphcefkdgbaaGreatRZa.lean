/- The document's zone: one. -/
import Derived.Test.YthfnphcefkdgbaaGreatRGw
import Derived.Test.YthfnphcefkdgbaaGreatMgN
import Derived.Test.YthfnphcefkdgbaaGreatMgR
namespace Go.Proofs.YthfnphcefkdgbaaGreat
open Go.RowKit
def OkOZ (S : List SetP) (i : Nat) : Prop := (S.getD i ssD).k.t = 5 → (S.getD i ssD).data.length ≤ 1 ∧ (0 < i → (S.getD (i - 1) ssD).k.n ≠ (S.getD i ssD).k.n) ∧ (i + 1 < S.length → (S.getD (i + 1) ssD).k.n ≠ (S.getD i ssD).k.n)
open Classical in
noncomputable def oneB (S : List SetP) : Bool := decide (∀ i, i < S.length → OkOZ S i)
open Classical in
theorem one_no {S : List SetP} {k : Nat} (hk : k < S.length) (h : ¬ OkOZ S k) : oneB S = false := decide_eq_false (fun h2 => h (h2 k hk))
open Classical in
theorem one_yes {S : List SetP} (h : ∀ i, i < S.length → OkOZ S i) : oneB S = true := decide_eq_true h
theorem one_next {S : List SetP} {k : Nat} (h : ∀ i, i < k → OkOZ S i) (hk : OkOZ S k) : ∀ i, i < k + 1 → OkOZ S i := fun i hi => by
 by_cases e : i = k
 · rw [e]; exact hk
 · exact h i (by omega)
theorem strZ_ne {a b : ByteArray} (h : a ≠ b) : (a.toList == b.toList) = false := beq_eq_false_iff_ne.2 (fun e => h (toList_inj4 e))
theorem strZ_eq {a b : ByteArray} (h : a = b) : (a.toList == b.toList) = true := by rw [h]; simp
def AllZ (apex : ByteArray) (L : List SetP) : Prop := ∀ s ∈ L, undS s.k.n apex = true ∧ s.k.c = 1 ∧ (s.k.t = 6 → s.k.n = apex)
theorem allZ_next {apex : ByteArray} {L : List SetP} {k : Nat} {s : SetP} (h : AllZ apex (L.take k)) (hk : L[k]? = some s) (hs : undS s.k.n apex = true ∧ s.k.c = 1 ∧ (s.k.t = 6 → s.k.n = apex)) : AllZ apex (L.take (k + 1)) := by
 rw [List.take_add_one, hk]
 intro t ht
 rcases List.mem_append.1 ht with ht | ht
 · exact h t ht
 · obtain rfl : t = s := by simpa using ht
   exact hs
theorem soasN_snoc (L : List SetP) (s : SetP) : soasN (L ++ [s]) = soasN L + if s.k.t = 6 then s.data.length else 0 := by
 induction L with
 | nil => simp [soasN]
 | cons x L ih => rw [List.cons_append, soasN, soasN, ih]; omega
theorem soasN_next {L : List SetP} {k : Nat} {s : SetP} (hk : L[k]? = some s) : soasN (L.take (k + 1)) = soasN (L.take k) + if s.k.t = 6 then s.data.length else 0 := by
 rw [List.take_add_one, hk]; exact soasN_snoc _ _
theorem soasN_leZ (L : List SetP) : soasN L ≤ sumD L := by
 induction L with
 | nil => exact Nat.le_refl _
 | cons x L ih => rw [soasN, sumD]; split <;> omega
theorem sumD_takeZ (L : List SetP) (k : Nat) : sumD (L.take k) ≤ sumD L := by
 have h := sumD_append (L.take k) (L.drop k)
 rw [List.take_append_drop] at h
 omega
def RWhole (apex : ByteArray) (S : List SetP) : Prop := AllZ apex S ∧ soasN S = 1 ∧ (findK S ⟨apex, 2, 1⟩).isSome = true ∧ oneB S = true
def RZnAt (w : World) (q : Nat) (apex : ByteArray) (S : List SetP) : Prop := ∃ a c, CN w q [.string apex, .slice a S.length c] ∧ SetsAt w a S.length S
theorem RZnAt.below {w w' : World} {q : Nat} {apex : ByteArray} {S : List SetP} (h : RZnAt w q apex S) (hb : Below w.heap.size w w') : RZnAt w' q apex S := by
 obtain ⟨a, c, h1, h2⟩ := h
 exact ⟨a, c, h1.below hb, h2.below hb⟩
def RGotF (L : List SetP) (k : Ky) (e : Ending) : Prop := ∃ s p c, (findK L k).getD sZ = s ∧ e = .returned (.tuple #[.agg #[.string s.k.n, .int .i64 s.k.t, .int .i64 s.k.c, .int .i64 s.ttl, .slice p s.data.length c], .bool (findK L k).isSome])
theorem rgot_of {L : List SetP} {k : Ky} {w : World} {e : Ending} (h : RFound L k w e) : RGotF L k e := by
 rcases h with ⟨s, p, c, h1, h2, h3⟩ | ⟨h1, h2⟩
 · exact ⟨s, p, c, by rw [h1]; rfl, by rw [h1]; exact h2⟩
 · exact ⟨sZ, none, 0, by rw [h1]; rfl, by rw [h1]; exact h2⟩
def GtS (w0 wx : World) (q z : Nat) (kn : ByteArray) (kt kc : Int) (apex : ByteArray) (a : Option Addr) (n c : Nat) : Prop := (Hid (Below w0.heap.size w0 wx) ∨ True) ∧ CN wx q [.string kn, .int .i64 kt, .int .i64 kc] ∧ CN wx z [.string apex, .slice a n c]
set_option maxRecDepth 100000 in
set_option maxHeartbeats 8000000 in
theorem rone_any (a : Option Addr) (n c : Nat) (S : List SetP) (w : World) (h : SetsAt w a n S) (hn : n ≤ 100000) : Calls Tryz.prog 60 #[.slice a n c] w fun e w' => e = .returned (.bool (oneB S)) ∧ Below w.heap.size w w' := by
 have HR := Lib.hid h
 have HL := Lib.hid h.1
 clear h
 go_enter Tryz.func60, Tryz.ntmps60
 go_wp2_with fail
 go_loopw [3] (fun i wr => ∃ k m : Nat, k ≤ n ∧ i = .int .i64 k ∧ Hid (∀ i, i < k → OkOZ S i) ∧ wr = w.drewN m) (fun i _ => n - (intOf i).toNat)
 case atStart => exact ⟨0, 0, Nat.zero_le _, rfl, (fun i hi => absurd hi (by omega)), rfl⟩
 case round =>
  obtain ⟨k, m, hk, rfl, hall, rfl⟩ := hrel
  by_cases hlt : k < n
  · rcases HR.out.2 with h9 | ⟨b, o, rfl, hbl, hc⟩
    · omega
    obtain ⟨ps, cs, hs⟩ := hc k (by omega)
    obtain ⟨s, hss⟩ : ∃ s, S.getD k ssD = s := ⟨_, rfl⟩
    rw [hss] at hs
    have HSs := Lib.hid hss
    clear hss
    obtain ⟨⟨sn, st, sk⟩, su, sd⟩ := s
    obtain ⟨s0, s1, -, -, s4, -, -⟩ := hs
    replace s0 : w.cell? ⟨b, o + k * 5, none⟩ = some (.string sn) := s0
    replace s1 : w.cell? ⟨b, o + k * 5 + 1, none⟩ = some (.int .i64 st) := s1
    replace s4 : w.cell? ⟨b, o + k * 5 + 4, none⟩ = some (.slice ps sd.length cs) := s4
    have i1 : (0 : Int) ≤ (k : Int) := by omega
    have i2 : (k : Int) < (n : Int) := by omega
    by_cases h5 : st = 5
    case neg =>
      have f1 : (st != 5) = true := nT h5
      have H5 := Lib.hid h5
      clear h5 s0 s4 hc
      have HNX := Lib.hid (one_next hall.out (show OkOZ S k from fun h => absurd (by rw [HSs.out] at h; exact h) H5.out))
      go_wp2
      go_roundw
      case rel => exact ⟨k + 1, m, by omega, by go_num, HNX, rfl⟩
      case measure => simp [intOf]; omega
    obtain rfl : st = 5 := h5
    obtain ⟨dl, hdl⟩ : ∃ x, sd.length = x := ⟨_, rfl⟩
    rw [hdl] at s4
    have HDL := Lib.hid hdl
    clear hdl
    by_cases h1 : 1 < dl
    · have e1 : decide (1 < dl) = true := dT h1
      have e2 : decide ((1 : Int) < (dl : Int)) = true := dT (by omega)
      have H1 := Lib.hid h1
      clear h1 hc
      have HV := Lib.hid (show oneB S = false from one_no (by rw [HL.out]; exact hlt) (fun h => by have h2 := (h (by rw [HSs.out])).1; rw [HSs.out] at h2; have h3 : sd.length ≤ 1 := h2; rw [HDL.out] at h3; have := H1.out; omega))
      go_wp2_with fail
      go_quiet (fail)
      rename_i nq
      have HB9 := Lib.hid (show Below w.heap.size w ((w.drewN m).drewN nq) from below_drewN (below_drewN (Below.refl _ _) m) nq)
      go_wp2
      go_ret
      exact ⟨by rw [HV.out]; rfl, HB9.out⟩
    have e1 : decide (1 < dl) = false := dF h1
    have e2 : decide ((1 : Int) < (dl : Int)) = false := dF (by omega)
    have H1 := Lib.hid (show sd.length ≤ 1 by rw [HDL.out]; omega)
    clear h1
    by_cases hk0 : 0 < k
    · have e3 : decide ((0 : Int) < (k : Int)) = true := dT (by omega)
      have e4 : decide (0 < k) = true := dT hk0
      obtain ⟨k0, hk0e⟩ : ∃ x, k = x + 1 := ⟨k - 1, by omega⟩
      have HK0 := Lib.hid hk0e
      have f1 : (k : Int) - 1 = (k0 : Int) := by omega
      have f2 : IntKind.i64.wrap (k0 : Int) = (k0 : Int) := by rw [IntKind.wrap_i64]; omega
      have i3 : (0 : Int) ≤ (k0 : Int) := by omega
      have i4 : (k0 : Int) < (n : Int) := by omega
      clear hk0
      obtain ⟨pr, cr, hs⟩ := hc k0 (by omega)
      obtain ⟨s, hss⟩ : ∃ s, S.getD k0 ssD = s := ⟨_, rfl⟩
      rw [hss] at hs
      have HSr := Lib.hid hss
      clear hss
      obtain ⟨⟨rn, rt, rk⟩, ru, rd⟩ := s
      obtain ⟨r0, r1, -, -, r4, -, -⟩ := hs
      replace r0 : w.cell? ⟨b, o + k0 * 5, none⟩ = some (.string rn) := r0
      replace r1 : w.cell? ⟨b, o + k0 * 5 + 1, none⟩ = some (.int .i64 rt) := r1
      replace r4 : w.cell? ⟨b, o + k0 * 5 + 4, none⟩ = some (.slice pr rd.length cr) := r4
      by_cases hp : rn = sn
      · have g1 := strZ_eq hp
        have HP := Lib.hid hp
        clear hp hc hk0e
        have HV := Lib.hid (show oneB S = false from one_no (by rw [HL.out]; exact hlt) (fun h => by have h2 := (h (by rw [HSs.out])).2.1 (by have := HK0.out; omega); rw [HSs.out, show k - 1 = k0 by have := HK0.out; omega, HSr.out] at h2; exact h2 HP.out))
        go_wp2_with fail
        go_quiet (fail)
        rename_i nq
        have HB9 := Lib.hid (show Below w.heap.size w ((w.drewN m).drewN nq) from below_drewN (below_drewN (Below.refl _ _) m) nq)
        go_wp2
        go_ret
        exact ⟨by rw [HV.out]; rfl, HB9.out⟩
      · have g1 := strZ_ne hp
        have HP := Lib.hid hp
        clear hp hk0e
        by_cases hk1 : k + 1 < n
        · obtain ⟨k1, hk1e⟩ : ∃ x, k + 1 = x := ⟨_, rfl⟩
          rw [hk1e] at hk1
          have HK1 := Lib.hid hk1e
          obtain ⟨pq, cq, hs⟩ := hc k1 (by omega)
          obtain ⟨s, hss⟩ : ∃ s, S.getD k1 ssD = s := ⟨_, rfl⟩
          rw [hss] at hs
          have HSq := Lib.hid hss
          clear hss
          obtain ⟨⟨qn, qt, qk⟩, qu, qd⟩ := s
          obtain ⟨q0, q1, -, -, q4, -, -⟩ := hs
          replace q0 : w.cell? ⟨b, o + k1 * 5, none⟩ = some (.string qn) := q0
          replace q1 : w.cell? ⟨b, o + k1 * 5 + 1, none⟩ = some (.int .i64 qt) := q1
          replace q4 : w.cell? ⟨b, o + k1 * 5 + 4, none⟩ = some (.slice pq qd.length cq) := q4
          have f3 : (k : Int) + 1 = (k1 : Int) := by omega
          have f4 : IntKind.i64.wrap (k1 : Int) = (k1 : Int) := by rw [IntKind.wrap_i64]; omega
          have e5 : decide ((k1 : Int) < (n : Int)) = true := dT (by omega)
          have e6 : decide (k1 < n) = true := dT hk1
          have i5 : (0 : Int) ≤ (k1 : Int) := by omega
          have i6 : (k1 : Int) < (n : Int) := by omega
          by_cases hq : qn = sn
          · have g2 := strZ_eq hq
            have HQ := Lib.hid hq
            clear hq hc hk1e
            have HV := Lib.hid (show oneB S = false from one_no (by rw [HL.out]; exact hlt) (fun h => by have h2 := (h (by rw [HSs.out])).2.2 (by rw [HL.out, HK1.out]; exact hk1); rw [HSs.out, HK1.out, HSq.out] at h2; exact h2 HQ.out))
            go_wp2_with fail
            go_quiet (fail)
            rename_i nq
            have HB9 := Lib.hid (show Below w.heap.size w ((w.drewN m).drewN nq) from below_drewN (below_drewN (Below.refl _ _) m) nq)
            go_wp2
            go_ret
            exact ⟨by rw [HV.out]; rfl, HB9.out⟩
          · have g2 := strZ_ne hq
            have HQ := Lib.hid hq
            clear hq hc hk1e
            have HNX := Lib.hid (one_next hall.out (show OkOZ S k from fun _ => ⟨by rw [HSs.out]; exact H1.out, fun _ => by rw [HSs.out, show k - 1 = k0 by have := HK0.out; omega, HSr.out]; exact HP.out, fun _ => by rw [HSs.out, HK1.out, HSq.out]; exact HQ.out⟩))
            go_wp2_with fail
            go_quiet (fail)
            rename_i nq
            go_wp2
            go_roundw
            case rel => exact ⟨k + 1, m + nq, by omega, by go_num, HNX, by first | rfl | exact drewN_add _ _ _⟩
            case measure => simp [intOf]; omega
        · have e5 : decide ((k : Int) + 1 < (n : Int)) = false := dF (by omega)
          have e6 : decide (k + 1 < n) = false := dF hk1
          have HK1 := Lib.hid hk1
          clear hk1 hc
          have HNX := Lib.hid (one_next hall.out (show OkOZ S k from fun _ => ⟨by rw [HSs.out]; exact H1.out, fun _ => by rw [HSs.out, show k - 1 = k0 by have := HK0.out; omega, HSr.out]; exact HP.out, fun h => absurd (by rw [HL.out] at h; exact h) HK1.out⟩))
          go_wp2_with fail
          go_quiet (fail)
          rename_i nq
          go_wp2
          go_roundw
          case rel => exact ⟨k + 1, m + nq, by omega, by go_num, HNX, by first | rfl | exact drewN_add _ _ _⟩
          case measure => simp [intOf]; omega
    · have e3 : decide ((0 : Int) < (k : Int)) = false := dF (by omega)
      have e4 : decide (0 < k) = false := dF hk0
      have HK0 := Lib.hid hk0
      clear hk0
      by_cases hk1 : k + 1 < n
      · obtain ⟨k1, hk1e⟩ : ∃ x, k + 1 = x := ⟨_, rfl⟩
        rw [hk1e] at hk1
        have HK1 := Lib.hid hk1e
        obtain ⟨pq, cq, hs⟩ := hc k1 (by omega)
        obtain ⟨s, hss⟩ : ∃ s, S.getD k1 ssD = s := ⟨_, rfl⟩
        rw [hss] at hs
        have HSq := Lib.hid hss
        clear hss
        obtain ⟨⟨qn, qt, qk⟩, qu, qd⟩ := s
        obtain ⟨q0, q1, -, -, q4, -, -⟩ := hs
        replace q0 : w.cell? ⟨b, o + k1 * 5, none⟩ = some (.string qn) := q0
        replace q1 : w.cell? ⟨b, o + k1 * 5 + 1, none⟩ = some (.int .i64 qt) := q1
        replace q4 : w.cell? ⟨b, o + k1 * 5 + 4, none⟩ = some (.slice pq qd.length cq) := q4
        have f3 : (k : Int) + 1 = (k1 : Int) := by omega
        have f4 : IntKind.i64.wrap (k1 : Int) = (k1 : Int) := by rw [IntKind.wrap_i64]; omega
        have e5 : decide ((k1 : Int) < (n : Int)) = true := dT (by omega)
        have e6 : decide (k1 < n) = true := dT hk1
        have i5 : (0 : Int) ≤ (k1 : Int) := by omega
        have i6 : (k1 : Int) < (n : Int) := by omega
        by_cases hq : qn = sn
        · have g2 := strZ_eq hq
          have HQ := Lib.hid hq
          clear hq hc hk1e
          have HV := Lib.hid (show oneB S = false from one_no (by rw [HL.out]; exact hlt) (fun h => by have h2 := (h (by rw [HSs.out])).2.2 (by rw [HL.out, HK1.out]; exact hk1); rw [HSs.out, HK1.out, HSq.out] at h2; exact h2 HQ.out))
          go_wp2_with fail
          go_quiet (fail)
          rename_i nq
          have HB9 := Lib.hid (show Below w.heap.size w ((w.drewN m).drewN nq) from below_drewN (below_drewN (Below.refl _ _) m) nq)
          go_wp2
          go_ret
          exact ⟨by rw [HV.out]; rfl, HB9.out⟩
        · have g2 := strZ_ne hq
          have HQ := Lib.hid hq
          clear hq hc hk1e
          have HNX := Lib.hid (one_next hall.out (show OkOZ S k from fun _ => ⟨by rw [HSs.out]; exact H1.out, fun h => absurd h HK0.out, fun _ => by rw [HSs.out, HK1.out, HSq.out]; exact HQ.out⟩))
          go_wp2_with fail
          go_quiet (fail)
          rename_i nq
          go_wp2
          go_roundw
          case rel => exact ⟨k + 1, m + nq, by omega, by go_num, HNX, by first | rfl | exact drewN_add _ _ _⟩
          case measure => simp [intOf]; omega
      · have e5 : decide ((k : Int) + 1 < (n : Int)) = false := dF (by omega)
        have e6 : decide (k + 1 < n) = false := dF hk1
        have HK1 := Lib.hid hk1
        clear hk1 hc
        have HNX := Lib.hid (one_next hall.out (show OkOZ S k from fun _ => ⟨by rw [HSs.out]; exact H1.out, fun h => absurd h HK0.out, fun h => absurd (by rw [HL.out] at h; exact h) HK1.out⟩))
        go_wp2_with fail
        go_quiet (fail)
        rename_i nq
        go_wp2
        go_roundw
        case rel => exact ⟨k + 1, m + nq, by omega, by go_num, HNX, by first | rfl | exact drewN_add _ _ _⟩
        case measure => simp [intOf]; omega
  · obtain rfl : k = n := by omega
    have HV := Lib.hid (show oneB S = true from one_yes (fun i hi => hall.out i (by rw [← HL.out]; exact hi)))
    have HB9 := Lib.hid (show Below w.heap.size w (w.drewN m) from below_drewN (Below.refl _ _) m)
    go_wp2
    go_ret
    exact ⟨by rw [HV.out]; rfl, HB9.out⟩
set_option maxRecDepth 100000 in
set_option maxHeartbeats 8000000 in
theorem rzget_any (z : Nat) (apex : ByteArray) (S : List SetP) (kn : ByteArray) (kt kc : Int) (w : World) (h : RZnAt w z apex S) (hl : S.length ≤ 100000) : Calls Tryz.prog 14 #[.pointer (some ⟨z, 0, none⟩), .agg #[.string kn, .int .i64 kt, .int .i64 kc]] w fun e w' => RGotF S ⟨kn, kt, kc⟩ e ∧ Below w.heap.size w w' := by
 obtain ⟨a, c, hq, hsa⟩ := h
 obtain ⟨n, hn⟩ : ∃ x, S.length = x := ⟨_, rfl⟩
 rw [hn] at hq hsa hl
 have CZ := Lib.hid hq
 have HZL := Lib.hid hq.1
 have HSA := Lib.hid hsa
 have HB := Lib.hid (Below.refl w.heap.size w)
 clear hq hsa hn
 go_enter Tryz.func14, Tryz.ntmps14
 have hba := (Below.refl _ _ : Below w.heap.size w w).alloc (Nat.le_refl _) (.cells #[.string kn, .int .i64 kt, .int .i64 kc] 41)
 have CK := Lib.hid (CN.new w #[.string kn, .int .i64 kt, .int .i64 kc] 41)
 replace CZ := Lib.hid (CZ.out.below hba)
 replace HSA := Lib.hid (HSA.out.below hba)
 replace HB := Lib.hid (HB.out.trans (hba.mono HB.out.size))
 obtain ⟨w2, hw⟩ : ∃ x, w.alloc (.cells #[.string kn, .int .i64 kt, .int .i64 kc] 41) = x := ⟨_, rfl⟩
 obtain ⟨q2, hq⟩ : ∃ x, w.heap.size = x := ⟨_, rfl⟩
 rw [hw, hq] at CK
 rw [hw] at CZ HSA HB
 have HWw2 := Lib.hid hw
 have HQq2 := Lib.hid hq
 clear hba hw hq
 have hba := (Below.refl _ _ : Below w2.heap.size w2 w2).alloc (Nat.le_refl _) (.cells #[.string ⟨#[]⟩, .int .i64 0, .int .i64 0, .int .i64 0, .slice none 0 0] 43)
 have C5 := Lib.hid (CN.new w2 #[.string ⟨#[]⟩, .int .i64 0, .int .i64 0, .int .i64 0, .slice none 0 0] 43)
 replace CZ := Lib.hid (CZ.out.below hba)
 replace HSA := Lib.hid (HSA.out.below hba)
 replace HB := Lib.hid (HB.out.trans (hba.mono HB.out.size))
 replace CK := Lib.hid (CK.out.below hba)
 obtain ⟨w3, hw⟩ : ∃ x, w2.alloc (.cells #[.string ⟨#[]⟩, .int .i64 0, .int .i64 0, .int .i64 0, .slice none 0 0] 43) = x := ⟨_, rfl⟩
 obtain ⟨q3, hq⟩ : ∃ x, w2.heap.size = x := ⟨_, rfl⟩
 rw [hw, hq] at C5
 rw [hw] at CZ HSA HB CK
 have HSq3 := Lib.hid (show q2 + 1 = q3 by rw [← HQq2.out, ← hq, ← HWw2.out, World.size_alloc])
 have HWw3 := Lib.hid hw
 have HQq3 := Lib.hid hq
 clear hba hw hq
 go_upto_region 1 with (fail)
 rw [HWw2.out, HWw3.out]
 rw [show (Value.pointer (some { block := w.heap.size + 1, off := 0 })) = Value.pointer (some { block := q3, off := 0 }) by rw [HQq2.out, HSq3.out]]
 rw [show (Value.pointer (some { block := w.heap.size, off := 0 })) = Value.pointer (some { block := q2, off := 0 }) by rw [HQq2.out]]
 have HQ4 := Lib.hid (show w.heap.size ≤ q3 by have h1 := HSq3.out; have h2 := HQq2.out; omega)
 obtain ⟨wd, hwd⟩ : ∃ x, w3.drew = x := ⟨_, rfl⟩
 have HBD := Lib.hid (show Below w3.heap.size w3 wd by rw [← hwd]; exact (Below.refl _ _).drew)
 have HB5 := Lib.hid CK.out
 have HB6 := Lib.hid CZ.out
 have HN35 := Lib.hid (show some q2 ≠ some q3 from fun e => by injection e with e; have := HSq3.out; omega)
 have HNZ5 := Lib.hid (show some z ≠ some q3 from fun e => by injection e with e; have := HZL.out; have := HQ4.out; omega)
 refine wp_region_held_drew (S := (fun wx => GtS w3 wx q2 z kn kt kc apex a n c)) (by kernel_rfl) (by rw [hwd]; exact ⟨Or.inr trivial, HB5.out.below HBD.out, HB6.out.below HBD.out⟩) (fun hHeld => ?_)
 rw [hwd] at hHeld ⊢
 clear hwd
 refine Plan.of [0, 1, 2, 3, 4] ?_
 iterate 5 (refine Plan.w (v := ?_) rfl hHeld (by rfl) ?_ ?_; rotate_left; (focus (intro w hSw; (try dsimp only at hSw); obtain ⟨z0, z1⟩ := hSw.2.2.w2; obtain ⟨k0, k1, k2, _⟩ := hSw.2.1.v3; go_simp; try with_reducible rfl)); try simp only [Act.put, List.setIfInBounds_toArray, List.set_cons_zero, List.set_cons_succ])
 refine Plan.fin ?_
 refine wpAnyH_ready (rs := [5]) (by kernel_rfl) (by simp) ?_
 refine AllReadyH.cons (o := { dst := some 11, op := Go.Op.call { callee := Go.Callee.value (Go.Operand.func 65), args := #[Go.Operand.tmp 9, Go.Operand.tmp 10], argTypes := #[50, 41] }, type := 44, pos := "ref.go:62", after := #[{ on := 3, ground := Go.Ground.data }, { on := 4, ground := Go.Ground.data }], guard := none }) rfl (fun K hK => ?_) AllReadyH.nil
 go_simp
 refine (rfind_any a n c S kn kt kc wd (HSA.out.below HBD.out) hl).mono ?_; rintro e wx1 ⟨hf, hb⟩
 obtain ⟨s, fp, fc, hgs, rfl⟩ := rgot_of hf
 obtain ⟨⟨sn, st, sk⟩, su, sd⟩ := s
 obtain ⟨dl, hdl⟩ : ∃ x, sd.length = x := ⟨_, rfl⟩
 dsimp only
 rw [hdl]
 have HDL := Lib.hid hdl
 have HGS := Lib.hid hgs
 obtain ⟨fb, hfb⟩ : ∃ x, (findK S ⟨kn, kt, kc⟩).isSome = x := ⟨_, rfl⟩
 rw [hfb]
 have HFB := Lib.hid hfb
 have HBN := Lib.hid (HBD.out.trans (hb.mono HBD.out.size))
 clear hf hgs hdl hfb
 go_wp2_with fail
 refine hK.out _ _ (⟨Or.inr trivial, HB5.out.below HBN.out, HB6.out.below HBN.out⟩) (fun hHeld2 => ?_)
 clear hK K hHeld
 have hHeld := hHeld2
 clear hHeld2
 try simp only [Act.put, List.setIfInBounds_toArray, List.set_cons_zero, List.set_cons_succ]
 refine Plan.of [6, 7] ?_
 iterate 2 (refine Plan.w (v := ?_) rfl hHeld (by rfl) ?_ ?_; rotate_left; (focus (intro w hSw; (try dsimp only at hSw); obtain ⟨z0, z1⟩ := hSw.2.2.w2; obtain ⟨k0, k1, k2, _⟩ := hSw.2.1.v3; go_simp; try with_reducible rfl)); try simp only [Act.put, List.setIfInBounds_toArray, List.set_cons_zero, List.set_cons_succ])
 refine Plan.fin ?_
 refine wpAnyH_ready (rs := [8]) (by kernel_rfl) (by simp) ?_
 refine AllReadyH.cons (o := { dst := none, op := Go.Op.store 43 (Go.Operand.tmp 4) (Go.Operand.tmp 12), type := 0, pos := "ref.go:62", after := #[{ on := 6, ground := Go.Ground.data }, { on := 5, ground := Go.Ground.chain }, { on := 0, ground := Go.Ground.phase }, { on := 1, ground := Go.Ground.phase }, { on := 2, ground := Go.Ground.phase }, { on := 3, ground := Go.Ground.phase }, { on := 4, ground := Go.Ground.phase }, { on := 5, ground := Go.Ground.phase }, { on := 6, ground := Go.Ground.phase }, { on := 7, ground := Go.Ground.phase }], guard := none }) rfl (fun K hK => ?_) AllReadyH.nil
 obtain ⟨y0, y1, y2, y3, y4, f0, f1, f2, f3, f4⟩ := (C5.out.below HBN.out).u5
 have KZ := Lib.hid ((C5.out.below HBN.out).s5 (.string sn) (.int .i64 st) (.int .i64 sk) (.int .i64 su) (.slice fp dl fc))
 have HGZ := Lib.hid (grown_s5 wx1 q3 (.string sn) (.int .i64 st) (.int .i64 sk) (.int .i64 su) (.slice fp dl fc))
 go_wp2_with fail
 clear y0 y1 y2 y3 y4 f0 f1 f2 f3 f4
 obtain ⟨wz, hwz⟩ : ∃ x, (((((wx1.setCell ⟨q3, 0, none⟩ (.string sn)).setCell ⟨q3, 1, none⟩ (.int .i64 st)).setCell ⟨q3, 2, none⟩ (.int .i64 sk)).setCell ⟨q3, 3, none⟩ (.int .i64 su)).setCell ⟨q3, 4, none⟩ (.slice fp dl fc)) = x := ⟨_, rfl⟩
 rw [hwz] at KZ HGZ ⊢
 clear hwz
 refine hK.out _ _ (⟨Or.inr trivial, (HB5.out.below HBN.out).grown HGZ.out HN35.out, (HB6.out.below HBN.out).grown HGZ.out HNZ5.out⟩) (fun hHeld2 => ?_)
 clear hK K hHeld
 have hHeld := hHeld2
 clear hHeld2
 try simp only [Act.put, List.setIfInBounds_toArray, List.set_cons_zero, List.set_cons_succ]
 refine Plan.of [9] ?_
 refine Plan.w (v := ?_) rfl hHeld (by rfl) ?_ ?_; rotate_left; (focus (intro w hSw; (try dsimp only at hSw); obtain ⟨z0, z1⟩ := hSw.2.2.w2; obtain ⟨k0, k1, k2, _⟩ := hSw.2.1.v3; go_simp; try with_reducible rfl)); try simp only [Act.put, List.setIfInBounds_toArray, List.set_cons_zero, List.set_cons_succ]
 refine Plan.fin ?_
 refine wpAnyH_done (by kernel_rfl) ?_ _
 (try clear hHeld)
 go_wp2
 have HBW := Lib.hid (HB.out.trans (HBN.out.mono HB.out.size))
 have HBZ := Lib.hid (HBW.out.grown HGZ.out HBW.out.size (fun k hk => by injection hk with hk; rw [← hk]; exact HQ4.out))
 obtain ⟨z0, z1, z2, z3, z4, _⟩ := KZ.out.u5
 refine bodyPost_ret (v := .tuple #[.agg #[.string sn, .int .i64 st, .int .i64 sk, .int .i64 su, .slice fp dl fc], .bool fb]) (by simp [results, Tryz.results14, go_sem, z0, z1, z2, z3, z4]) rfl ⟨⟨⟨⟨sn, st, sk⟩, su, sd⟩, fp, fc, HGS.out, by rw [HFB.out, HDL.out]⟩, HBZ.out⟩
end Go.Proofs.YthfnphcefkdgbaaGreat
