/- The contract of name.May (chapter 2) over this seat's translation. -/
import Derived.Test.YtkoafkajmfodkaaByt
namespace Go.Proofs.Ytkoafkajmfodkaa
open Go.RowKit

def great (b : Nat) : Bool := decide (65 ≤ b ∧ b ≤ 90)
theorem isGreat_any (b : Nat) (w : World) (h : b < 256) : Calls Try.prog 124 #[.int .u8 b] w fun e w' => e = .returned (.bool (great b)) ∧ w = w' := by
  go_enter Try.func124, Try.ntmps124
  go_wp2
  all_goals (go_ret; refine ⟨ret_bool ?_, rfl⟩; rw [Bool.eq_iff_iff]; simp [great]; try omega)

def anyG (s : ByteArray) (at' : Nat) : Nat → Bool
  | 0 => false
  | k + 1 => anyG s at' k || great (byteAt s (at' + k))
theorem anyG_yes {s : ByteArray} {at' k n : Nat} (hk : k < n) (h : great (byteAt s (at' + k)) = true) : anyG s at' n = true := by
  induction n with
  | zero => omega
  | succ n ih =>
    simp only [anyG]
    by_cases e : k = n
    · subst e; rw [h]; simp
    · rw [ih (by omega)]; simp
theorem anyG_congr {s t : ByteArray} {a b n : Nat} (h : ∀ j, j < n → byteAt s (a + j) = byteAt t (b + j)) : anyG s a n = anyG t b n := by
  induction n with
  | zero => rfl
  | succ n ih => simp only [anyG]; rw [ih fun j hj => h j (by omega), h n (by omega)]

theorem hasGreat_any (s : ByteArray) (w : World) (hs : s.size ≤ 1000000) : Calls Try.prog 120 #[.string s] w fun e w' => e = .returned (.bool (anyG s 0 s.size)) ∧ w = w' := by
  go_enter Try.func120, Try.ntmps120
  go_wp2
  go_loop [6] (fun i => ∃ k : Nat, k ≤ s.size ∧ anyG s 0 k = false ∧ i = .int .i64 k) (fun i => s.size - (intOf i).toNat)
  case atStart => exact ⟨0, Nat.zero_le _, rfl, rfl⟩
  case round =>
    obtain ⟨k, hk, hg, rfl⟩ := hrel
    have HG := Lib.hid hg
    clear hg
    by_cases hlt : k < s.size
    · have hb := byte_get hlt
      have hb2 := byteAt_lt s k
      cases hgr : great (byteAt s k)
      · have HN := Lib.hid (show anyG s 0 (k + 1) = false by simp only [anyG]; rw [HG.out, Nat.zero_add, hgr]; rfl)
        go_wp2_with (go_at_call 124; refine (isGreat_any _ _ (by omega)).mono ?_; rintro e w' ⟨rfl, rfl⟩)
        go_round
        case rel => exact ⟨k + 1, by omega, HN.out, by go_num⟩
        case measure => simp [intOf]; omega
      · have HN := Lib.hid (anyG_yes (s := s) (at' := 0) hlt (by rw [Nat.zero_add]; exact hgr))
        go_wp2_with (go_at_call 124; refine (isGreat_any _ _ (by omega)).mono ?_; rintro e w' ⟨rfl, rfl⟩)
        go_ret
        exact ⟨ret_bool HN.out.symm, rfl⟩
    · have hkl : k = s.size := by omega
      subst hkl
      go_wp2
      go_ret
      exact ⟨ret_bool HG.out.symm, rfl⟩

theorem extract_size (s : ByteArray) (a b : Nat) (h : b ≤ s.size) : (s.extract a b).size = b - a := by rw [ByteArray.size_extract]; omega
theorem byteAt_extract (s : ByteArray) (a b j : Nat) (h : b ≤ s.size) (hj : a + j < b) : byteAt (s.extract a b) j = byteAt s (a + j) := by
  rw [← byte_get (s := s.extract a b) (i := j) (by rw [extract_size _ _ _ h]; omega), ← byte_get (s := s) (i := a + j) (by omega)]
  rw [ByteArray.getElem_extract]

/-- May the label of s that begins at a place be? -/
def okStep (s : ByteArray) (at' : Nat) : Bool := decide (1 ≤ byteAt s at') && decide (byteAt s at' ≤ 63) && decide (at' + 1 + byteAt s at' < s.size) && !anyG s (at' + 1) (byteAt s at')
def pastN (s : ByteArray) (at' : Nat) : Nat := if okStep s at' = true then at' + 1 + byteAt s at' else 0

theorem past_any (s : ByteArray) (A : Nat) (w : World) (hA : A < s.size) (hs : s.size ≤ 1000000) : Calls Try.prog 110 #[.string s, .int .i64 A] w fun e w' => e = .returned (.int .i64 (pastN s A : Nat)) ∧ w = w' := by
  have hb := byte_get hA
  have hb2 := byteAt_lt s A
  obtain ⟨k, hk⟩ : ∃ k, byteAt s A = k := ⟨_, rfl⟩
  have hok : okStep s A = (decide (1 ≤ k) && decide (k ≤ 63) && decide (A + 1 + k < s.size) && !anyG s (A + 1) k) := by rw [okStep, hk]
  have hp : pastN s A = if okStep s A = true then A + 1 + k else 0 := by rw [pastN, hk]
  have HOK := Lib.hid hok
  have HP := Lib.hid hp
  rw [hk] at hb hb2
  clear hok hp hk
  by_cases k0 : k = 0
  · subst k0
    have HZ := Lib.hid (show pastN s A = 0 by rw [HP.out, HOK.out]; simp)
    go_enter Try.func110, Try.ntmps110
    go_wp2
    go_ret
    exact ⟨ret_int (by rw [HZ.out]; rfl), rfl⟩
  · have e0 : ((k : Int) == 0) = false := eF (by omega)
    by_cases k63 : k ≤ 63
    · have e1 := dF (p := (63 : Int) < (k : Int)) (by omega)
      by_cases kn : A + 1 + k < s.size
      · have e2 := dF (p := (s.size : Int) ≤ (A : Int) + 1 + (k : Int)) (by omega)
        have hsz : (s.extract (A + 1) (A + 1 + k)).size = k := by rw [extract_size _ _ _ (by omega)]; omega
        have hg : anyG (s.extract (A + 1) (A + 1 + k)) 0 (s.extract (A + 1) (A + 1 + k)).size = anyG s (A + 1) k := by
          rw [hsz]
          refine anyG_congr ?_
          intro j hj
          rw [Nat.zero_add]
          exact byteAt_extract s (A + 1) (A + 1 + k) j (by omega) (by omega)
        cases hgv : anyG s (A + 1) k
        · rw [hgv] at hg
          have HG := Lib.hid hg
          have HZ := Lib.hid (show pastN s A = A + 1 + k by rw [HP.out, HOK.out, hgv]; simp; omega)
          clear hg hgv
          go_enter Try.func110, Try.ntmps110
          go_wp2_with fail
          refine (hasGreat_any _ _ (by rw [hsz]; omega)).mono ?_; rintro e w' ⟨rfl, rfl⟩
          rw [HG.out]
          go_wp2
          go_ret
          exact ⟨ret_int (by rw [HZ.out]; omega), rfl⟩
        · rw [hgv] at hg
          have HG := Lib.hid hg
          have HZ := Lib.hid (show pastN s A = 0 by rw [HP.out, HOK.out, hgv]; simp)
          clear hg hgv
          go_enter Try.func110, Try.ntmps110
          go_wp2_with fail
          refine (hasGreat_any _ _ (by rw [hsz]; omega)).mono ?_; rintro e w' ⟨rfl, rfl⟩
          rw [HG.out]
          go_wp2
          go_ret
          exact ⟨ret_int (by rw [HZ.out]; rfl), rfl⟩
      · have e2 := dT (p := (s.size : Int) ≤ (A : Int) + 1 + (k : Int)) (by omega)
        have HZ := Lib.hid (show pastN s A = 0 by rw [HP.out, HOK.out]; simp [kn])
        clear kn
        go_enter Try.func110, Try.ntmps110
        go_wp2
        go_ret
        exact ⟨ret_int (by rw [HZ.out]; rfl), rfl⟩
    · have e1 := dT (p := (63 : Int) < (k : Int)) (by omega)
      have HZ := Lib.hid (show pastN s A = 0 by rw [HP.out, HOK.out]; simp [k63])
      clear k63
      go_enter Try.func110, Try.ntmps110
      go_wp2
      go_ret
      exact ⟨ret_int (by rw [HZ.out]; rfl), rfl⟩

def mayRun (s : ByteArray) : Nat → Nat → Bool
  | 0, at' => byteAt s at' == 0
  | f + 1, at' => if at' + 1 < s.size then okStep s at' && mayRun s f (at' + 1 + byteAt s at') else byteAt s at' == 0
def mayN (s : ByteArray) : Bool := decide (1 ≤ s.size ∧ s.size ≤ 255) && mayRun s s.size 0

theorem mayRun_more (s : ByteArray) : ∀ (f at' : Nat), s.size ≤ at' + 1 + f → mayRun s (f + 1) at' = mayRun s f at' := by
  intro f
  induction f with
  | zero => intro at' h; show (if at' + 1 < s.size then _ else _) = _; rw [if_neg (by omega)]; rfl
  | succ f ih =>
    intro at' h
    show (if at' + 1 < s.size then okStep s at' && mayRun s (f + 1) (at' + 1 + byteAt s at') else byteAt s at' == 0) = (if at' + 1 < s.size then okStep s at' && mayRun s f (at' + 1 + byteAt s at') else byteAt s at' == 0)
    rw [ih _ (by omega)]
theorem mayRun_step (s : ByteArray) (at' : Nat) (h : at' + 1 < s.size) : mayRun s s.size at' = (okStep s at' && mayRun s s.size (at' + 1 + byteAt s at')) := by
  rw [← mayRun_more s s.size at' (by omega)]
  show (if at' + 1 < s.size then okStep s at' && mayRun s s.size (at' + 1 + byteAt s at') else byteAt s at' == 0) = _
  rw [if_pos h]
theorem mayRun_end (s : ByteArray) (f at' : Nat) (h : ¬ at' + 1 < s.size) : mayRun s f at' = (byteAt s at' == 0) := by
  cases f with
  | zero => rfl
  | succ f => show (if at' + 1 < s.size then _ else _) = _; rw [if_neg h]

theorem nmay_any (s : ByteArray) (w : World) (hs : s.size ≤ 1000000) : Calls Try.prog 90 #[.string s] w fun e w' => e = .returned (.bool (mayN s)) ∧ w = w' := by
  by_cases h1 : s.size = 0
  · have e1 : ((s.size : Int) == 0) = true := eT (by omega)
    have HN := Lib.hid (show mayN s = false by simp [mayN, h1])
    clear h1
    go_enter Try.func90, Try.ntmps90
    go_wp2
    go_ret
    exact ⟨ret_bool HN.out.symm, rfl⟩
  · have e1 : ((s.size : Int) == 0) = false := eF (by omega)
    by_cases h2 : s.size ≤ 255
    · have e2 := dF (p := (255 : Int) < (s.size : Int)) (by omega)
      have HN := Lib.hid (show mayN s = mayRun s s.size 0 by rw [mayN, dT (p := 1 ≤ s.size ∧ s.size ≤ 255) (by omega)]; rfl)
      have hpos : 0 < s.size := by omega
      clear h1
      go_enter Try.func90, Try.ntmps90
      go_wp2
      go_loop [3] (fun i => ∃ k : Nat, k < s.size ∧ Hid (mayRun s s.size 0 = mayRun s s.size k) ∧ i = .int .i64 k) (fun i => s.size - (intOf i).toNat)
      case atStart => exact ⟨0, hpos, rfl, rfl⟩
      case round =>
        obtain ⟨k, hk, hr, rfl⟩ := hrel
        by_cases hlt : k + 1 < s.size
        · have t1 : (k : Int) < (s.size : Int) - 1 := by omega
          have hst := mayRun_step s k hlt
          cases hok : okStep s k
          · have hp : pastN s k = 0 := by rw [pastN, hok]; rfl
            have HF := Lib.hid (show mayN s = false by rw [HN.out, hr.out, hst, hok]; rfl)
            clear hst hok hr
            go_wp2_with (go_at_call 110; refine (past_any _ _ _ hk hs).mono ?_; rintro e w' ⟨rfl, rfl⟩)
            go_ret
            exact ⟨ret_bool HF.out.symm, rfl⟩
          · obtain ⟨m, hm⟩ : ∃ m, k + 1 + byteAt s k = m := ⟨_, rfl⟩
            have hp : pastN s k = m := by rw [pastN, hok, ← hm]; rfl
            have hms : m < s.size := by
              simp only [okStep, Bool.and_eq_true, decide_eq_true_eq] at hok
              omega
            have hmk : k < m := by omega
            have HR := Lib.hid (show mayRun s s.size 0 = mayRun s s.size m by rw [hr.out, hst, hok, hm]; rfl)
            have e3 : ((m : Int) == 0) = false := eF (by omega)
            clear hst hok hr hm
            go_wp2_with (go_at_call 110; refine (past_any _ _ _ hk hs).mono ?_; rintro e w' ⟨rfl, rfl⟩)
            go_round
            case rel => exact ⟨m, hms, HR.out, rfl⟩
            case measure => simp [intOf]; omega
        · have t1 : ¬ (k : Int) < (s.size : Int) - 1 := by omega
          have he := mayRun_end s s.size k hlt
          have HF := Lib.hid (show mayN s = (byteAt s k == 0) by rw [HN.out, hr.out, he])
          have hb := byte_get hk
          have hb2 := byteAt_lt s k
          clear he hr hlt
          go_wp2
          go_ret
          exact ⟨ret_bool (by rw [HF.out, Bool.eq_iff_iff]; simp), rfl⟩
    · have e2 := dT (p := (255 : Int) < (s.size : Int)) (by omega)
      have HN := Lib.hid (show mayN s = false by simp [mayN]; omega)
      clear h2
      go_enter Try.func90, Try.ntmps90
      go_wp2
      go_ret
      exact ⟨ret_bool HN.out.symm, rfl⟩
end Go.Proofs.Ytkoafkajmfodkaa
