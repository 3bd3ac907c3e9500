/- Texts that others rest on, one behind the other: Tk, Base, Byt, Nm, Str, Tx, Lab, StA, MayR, MayN, Lbl, AppS, BRw, Row. -/
import Derived.Deep.RegionHeld
import Derived.KernelRfl
import Derived.Test.YthfnphcefkdgbaaGreatRows
import Derived.WalkKit
import Derived.WalkLawsBesides
import Derived.WalkSpells
import Derived.BigQuiet
import Derived.Deep.QuietTactic
import Derived.Handy
import Derived.Lib.Hide
import Derived.Lib.AppendStr
import Derived.Deep.MidRow
import Derived.Laws.ResultCell
import Derived.OwnWalk
import Derived.Outline
import Derived.Laws.AppendOwnNone
import Derived.Deep.Matrix
section
namespace Go.Proofs.YthfnphcefkdgbaaGreat
open Go
def opAt : List Oper → Nat → Option Oper
 | [], _ => none
 | o :: _, 0 => some o
 | _ :: l, i + 1 => opAt l i
theorem opAt_get : ∀ (l : List Oper) (i : Nat), opAt l i = l[i]?
 | [], _ => rfl
 | _ :: _, 0 => rfl
 | _ :: l, i + 1 => (opAt_get l i).trans List.getElem?_cons_succ.symm
theorem opAt_arr {ops : Array Oper} {i : Nat} {o : Oper} (h : opAt ops.toList i = some o) : ops[i]? = some o := by
 rw [opAt_get] at h
 rw [← h]; exact Array.getElem?_toList.symm
section
variable {P : Program} {ops : Array Oper} {Q : Exit → Act → World → Prop} {md : Region.Mode} {S : World → Prop}
def Plan (_ : List Nat) (p : Prop) : Prop := p
theorem Plan.of (l : List Nat) {p : Prop} (h : Plan l p) : p := h
theorem Plan.fin {p : Prop} (h : p) : Plan [] p := h
theorem Plan.w {i : Nat} {is : List Nat} {oi : Oper} {v : Value} {fuel : Nat} {listed : Array Bool} {a : Act} {w : World} (hi : opAt ops.toList i = some oi) (hS : S w)
  (hw : Region.wanted oi (yielded ops a.tmps) = true) (hy : ∀ w, S w → (execOp a.eval oi).run P w = .ok (.value v) w)
  (h : Plan is (wpAnyH P md ops Q S fuel (listed.setIfInBounds i true) (a.put oi.dst v) w))
  (hs : Region.noSelect ops = true := by kernel_rfl) (hf : Region.free md ops listed i = true := by kernel_rfl) (hr : (Region.ready md ops listed).contains i = true := by kernel_rfl)
  (hQ : ∀ c a w, Q (.panic c) (a.put oi.dst v) w → Q (.panic c) a w := by exact fun _ _ _ h => h) :
  Plan (i :: is) (wpAnyH P md ops Q S (fuel + 1) listed a w) :=
 wpAnyH_take (opAt_arr hi) hs hf hr hQ (Or.inl ⟨hw, hy⟩) hS h
theorem Plan.n {i : Nat} {is : List Nat} {oi : Oper} {fuel : Nat} {listed : Array Bool} {a : Act} {w : World} (hi : opAt ops.toList i = some oi) (hS : S w)
  (hw : Region.wanted oi (yielded ops a.tmps) = false)
  (h : Plan is (wpAnyH P md ops Q S fuel (listed.setIfInBounds i true) (a.put oi.dst undef) w))
  (hs : Region.noSelect ops = true := by kernel_rfl) (hf : Region.free md ops listed i = true := by kernel_rfl) (hr : (Region.ready md ops listed).contains i = true := by kernel_rfl)
  (hQ : ∀ c a w, Q (.panic c) (a.put oi.dst undef) w → Q (.panic c) a w := by exact fun _ _ _ h => h) :
  Plan (i :: is) (wpAnyH P md ops Q S (fuel + 1) listed a w) :=
 wpAnyH_take (opAt_arr hi) hs hf hr hQ (Or.inr ⟨hw, rfl⟩) hS h
end
end Go.Proofs.YthfnphcefkdgbaaGreat
end
section
namespace Go.Proofs.YthfnphcefkdgbaaGreat
open Go.RowKit
theorem ret_bool {a b : Bool} (h : a = b) : Ending.returned (.bool a) = Ending.returned (.bool b) := by rw [h]
theorem ret_int {k : IntKind} {a b : Int} (h : a = b) : Ending.returned (.int k a) = Ending.returned (.int k b) := by rw [h]
theorem ret_str {a b : ByteArray} (h : a = b) : Ending.returned (.string a) = Ending.returned (.string b) := by rw [h]
theorem dT {p : Prop} [Decidable p] (h : p) : decide p = true := by simp [h]
theorem dF {p : Prop} [Decidable p] (h : ¬ p) : decide p = false := by simp [h]
theorem eT {a b : Int} (h : a = b) : (a == b) = true := by simp [h]
theorem eF {a b : Int} (h : ¬ a = b) : (a == b) = false := by simp [h]
theorem nT {a b : Int} (h : ¬ a = b) : (a != b) = true := by simp [h]
theorem nF {a b : Int} (h : a = b) : (a != b) = false := by simp [h]
theorem below_drewN {B : Nat} {w w' : World} (h : Below B w w') (n : Nat) : Below B w (w'.drewN n) := by
 induction n with
 | zero => exact h
 | succ n ih => exact ih.drew
end Go.Proofs.YthfnphcefkdgbaaGreat
end
section
namespace Go.Proofs.YthfnphcefkdgbaaGreat
open Go.RowKit
def bc (l : List UInt8) : List Value := l.map fun b => Value.int .u8 (b.toNat : Int)
def bs (l : List UInt8) : ByteArray := ⟨l.toArray⟩
theorem bs_size (l : List UInt8) : (bs l).size = l.length := by simp [bs]; rfl
theorem bs_toList (l : List UInt8) : (bs l).toList = l := by simp [bs]
def byteAt (s : ByteArray) (i : Nat) : Nat := (s.data.toList.getD i 0).toNat
theorem byteAt_lt (s : ByteArray) (i : Nat) : byteAt s i < 256 := (s.data.toList.getD i 0).toNat_lt
theorem byte_get {s : ByteArray} {i : Nat} (h : i < s.size) : (s[i]).toNat = byteAt s i := by
 have h' : i < s.data.toList.length := by simpa using h
 unfold byteAt
 rw [List.getD_eq_getElem?_getD, List.getElem?_eq_getElem h']
 rfl
end Go.Proofs.YthfnphcefkdgbaaGreat
end
section
namespace Go.Proofs.YthfnphcefkdgbaaGreat
open Go.RowKit
def great (b : Nat) : Bool := decide (65 ≤ b ∧ b ≤ 90)
theorem isGreat_any (b : Nat) (w : World) (h : b < 256) : Calls Tryz.prog 166 #[.int .u8 b] w fun e w' => e = .returned (.bool (great b)) ∧ w = w' := by
 go_enter Tryz.func166, Tryz.ntmps166
 go_wp2
 all_goals (go_ret; refine ⟨ret_bool ?_, rfl⟩; rw [Bool.eq_iff_iff]; simp [great]; try omega)
def anyG (s : ByteArray) (at' : Nat) : Nat → Bool
 | 0 => false
 | k + 1 => anyG s at' k || great (byteAt s (at' + k))
theorem anyG_yes {s : ByteArray} {at' k n : Nat} (hk : k < n) (h : great (byteAt s (at' + k)) = true) : anyG s at' n = true := by
 induction n with
 | zero => omega
 | succ n ih =>
  simp only [anyG]
  by_cases e : k = n
  · subst e; rw [h]; simp
  · rw [ih (by omega)]; simp
theorem anyG_congr {s t : ByteArray} {a b n : Nat} (h : ∀ j, j < n → byteAt s (a + j) = byteAt t (b + j)) : anyG s a n = anyG t b n := by
 induction n with
 | zero => rfl
 | succ n ih => simp only [anyG]; rw [ih fun j hj => h j (by omega), h n (by omega)]
theorem hasGreat_any (s : ByteArray) (w : World) (hs : s.size ≤ 1000000) : Calls Tryz.prog 143 #[.string s] w fun e w' => e = .returned (.bool (anyG s 0 s.size)) ∧ w = w' := by
 go_enter Tryz.func143, Tryz.ntmps143
 go_wp2
 go_loop [6] (fun i => ∃ k : Nat, k ≤ s.size ∧ anyG s 0 k = false ∧ i = .int .i64 k) (fun i => s.size - (intOf i).toNat)
 case atStart => exact ⟨0, Nat.zero_le _, rfl, rfl⟩
 case round =>
  obtain ⟨k, hk, hg, rfl⟩ := hrel
  have HG := Lib.hid hg
  clear hg
  by_cases hlt : k < s.size
  · have hb := byte_get hlt
    have hb2 := byteAt_lt s k
    cases hgr : great (byteAt s k)
    · have HN := Lib.hid (show anyG s 0 (k + 1) = false by simp only [anyG]; rw [HG.out, Nat.zero_add, hgr]; rfl)
      go_wp2_with (go_at_call 166; refine (isGreat_any _ _ (by omega)).mono ?_; rintro e w' ⟨rfl, rfl⟩)
      go_round
      case rel => exact ⟨k + 1, by omega, HN.out, by go_num⟩
      case measure => simp [intOf]; omega
    · have HN := Lib.hid (anyG_yes (s := s) (at' := 0) hlt (by rw [Nat.zero_add]; exact hgr))
      go_wp2_with (go_at_call 166; refine (isGreat_any _ _ (by omega)).mono ?_; rintro e w' ⟨rfl, rfl⟩)
      go_ret
      exact ⟨ret_bool HN.out.symm, rfl⟩
  · have hkl : k = s.size := by omega
    subst hkl
    go_wp2
    go_ret
    exact ⟨ret_bool HG.out.symm, rfl⟩
theorem extract_size (s : ByteArray) (a b : Nat) (h : b ≤ s.size) : (s.extract a b).size = b - a := by rw [ByteArray.size_extract]; omega
theorem byteAt_extract (s : ByteArray) (a b j : Nat) (h : b ≤ s.size) (hj : a + j < b) : byteAt (s.extract a b) j = byteAt s (a + j) := by
 rw [← byte_get (s := s.extract a b) (i := j) (by rw [extract_size _ _ _ h]; omega), ← byte_get (s := s) (i := a + j) (by omega)]
 rw [ByteArray.getElem_extract]
def okStep (s : ByteArray) (at' : Nat) : Bool := decide (1 ≤ byteAt s at') && decide (byteAt s at' ≤ 63) && decide (at' + 1 + byteAt s at' < s.size) && !anyG s (at' + 1) (byteAt s at')
def pastN (s : ByteArray) (at' : Nat) : Nat := if okStep s at' = true then at' + 1 + byteAt s at' else 0
theorem past_any (s : ByteArray) (A : Nat) (w : World) (hA : A < s.size) (hs : s.size ≤ 1000000) : Calls Tryz.prog 99 #[.string s, .int .i64 A] w fun e w' => e = .returned (.int .i64 (pastN s A : Nat)) ∧ w = w' := by
 have hb := byte_get hA
 have hb2 := byteAt_lt s A
 obtain ⟨k, hk⟩ : ∃ k, byteAt s A = k := ⟨_, rfl⟩
 have hok : okStep s A = (decide (1 ≤ k) && decide (k ≤ 63) && decide (A + 1 + k < s.size) && !anyG s (A + 1) k) := by rw [okStep, hk]
 have hp : pastN s A = if okStep s A = true then A + 1 + k else 0 := by rw [pastN, hk]
 have HOK := Lib.hid hok
 have HP := Lib.hid hp
 rw [hk] at hb hb2
 clear hok hp hk
 by_cases k0 : k = 0
 · subst k0
   have HZ := Lib.hid (show pastN s A = 0 by rw [HP.out, HOK.out]; simp)
   go_enter Tryz.func99, Tryz.ntmps99
   go_wp2
   go_ret
   exact ⟨ret_int (by rw [HZ.out]; rfl), rfl⟩
 · have e0 : ((k : Int) == 0) = false := eF (by omega)
   by_cases k63 : k ≤ 63
   · have e1 := dF (p := (63 : Int) < (k : Int)) (by omega)
     by_cases kn : A + 1 + k < s.size
     · have e2 := dF (p := (s.size : Int) ≤ (A : Int) + 1 + (k : Int)) (by omega)
       have hsz : (s.extract (A + 1) (A + 1 + k)).size = k := by rw [extract_size _ _ _ (by omega)]; omega
       have hg : anyG (s.extract (A + 1) (A + 1 + k)) 0 (s.extract (A + 1) (A + 1 + k)).size = anyG s (A + 1) k := by
         rw [hsz]
         refine anyG_congr ?_
         intro j hj
         rw [Nat.zero_add]
         exact byteAt_extract s (A + 1) (A + 1 + k) j (by omega) (by omega)
       cases hgv : anyG s (A + 1) k
       · rw [hgv] at hg
         have HG := Lib.hid hg
         have HZ := Lib.hid (show pastN s A = A + 1 + k by rw [HP.out, HOK.out, hgv]; simp; omega)
         clear hg hgv
         go_enter Tryz.func99, Tryz.ntmps99
         go_wp2_with fail
         refine (hasGreat_any _ _ (by rw [hsz]; omega)).mono ?_; rintro e w' ⟨rfl, rfl⟩
         rw [HG.out]
         go_wp2
         go_ret
         exact ⟨ret_int (by rw [HZ.out]; omega), rfl⟩
       · rw [hgv] at hg
         have HG := Lib.hid hg
         have HZ := Lib.hid (show pastN s A = 0 by rw [HP.out, HOK.out, hgv]; simp)
         clear hg hgv
         go_enter Tryz.func99, Tryz.ntmps99
         go_wp2_with fail
         refine (hasGreat_any _ _ (by rw [hsz]; omega)).mono ?_; rintro e w' ⟨rfl, rfl⟩
         rw [HG.out]
         go_wp2
         go_ret
         exact ⟨ret_int (by rw [HZ.out]; rfl), rfl⟩
     · have e2 := dT (p := (s.size : Int) ≤ (A : Int) + 1 + (k : Int)) (by omega)
       have HZ := Lib.hid (show pastN s A = 0 by rw [HP.out, HOK.out]; simp [kn])
       clear kn
       go_enter Tryz.func99, Tryz.ntmps99
       go_wp2
       go_ret
       exact ⟨ret_int (by rw [HZ.out]; rfl), rfl⟩
   · have e1 := dT (p := (63 : Int) < (k : Int)) (by omega)
     have HZ := Lib.hid (show pastN s A = 0 by rw [HP.out, HOK.out]; simp [k63])
     clear k63
     go_enter Tryz.func99, Tryz.ntmps99
     go_wp2
     go_ret
     exact ⟨ret_int (by rw [HZ.out]; rfl), rfl⟩
def mayRun (s : ByteArray) : Nat → Nat → Bool
 | 0, at' => byteAt s at' == 0
 | f + 1, at' => if at' + 1 < s.size then okStep s at' && mayRun s f (at' + 1 + byteAt s at') else byteAt s at' == 0
def mayN (s : ByteArray) : Bool := decide (1 ≤ s.size ∧ s.size ≤ 255) && mayRun s s.size 0
theorem mayRun_more (s : ByteArray) : ∀ (f at' : Nat), s.size ≤ at' + 1 + f → mayRun s (f + 1) at' = mayRun s f at' := by
 intro f
 induction f with
 | zero => intro at' h; show (if at' + 1 < s.size then _ else _) = _; rw [if_neg (by omega)]; rfl
 | succ f ih =>
  intro at' h
  show (if at' + 1 < s.size then okStep s at' && mayRun s (f + 1) (at' + 1 + byteAt s at') else byteAt s at' == 0) = (if at' + 1 < s.size then okStep s at' && mayRun s f (at' + 1 + byteAt s at') else byteAt s at' == 0)
  rw [ih _ (by omega)]
theorem mayRun_step (s : ByteArray) (at' : Nat) (h : at' + 1 < s.size) : mayRun s s.size at' = (okStep s at' && mayRun s s.size (at' + 1 + byteAt s at')) := by
 rw [← mayRun_more s s.size at' (by omega)]
 show (if at' + 1 < s.size then okStep s at' && mayRun s s.size (at' + 1 + byteAt s at') else byteAt s at' == 0) = _
 rw [if_pos h]
theorem mayRun_end (s : ByteArray) (f at' : Nat) (h : ¬ at' + 1 < s.size) : mayRun s f at' = (byteAt s at' == 0) := by
 cases f with
 | zero => rfl
 | succ f => show (if at' + 1 < s.size then _ else _) = _; rw [if_neg h]
theorem nmay_any (s : ByteArray) (w : World) (hs : s.size ≤ 1000000) : Calls Tryz.prog 52 #[.string s] w fun e w' => e = .returned (.bool (mayN s)) ∧ w = w' := by
 by_cases h1 : s.size = 0
 · have e1 : ((s.size : Int) == 0) = true := eT (by omega)
   have HN := Lib.hid (show mayN s = false by simp [mayN, h1])
   clear h1
   go_enter Tryz.func52, Tryz.ntmps52
   go_wp2
   go_ret
   exact ⟨ret_bool HN.out.symm, rfl⟩
 · have e1 : ((s.size : Int) == 0) = false := eF (by omega)
   by_cases h2 : s.size ≤ 255
   · have e2 := dF (p := (255 : Int) < (s.size : Int)) (by omega)
     have HN := Lib.hid (show mayN s = mayRun s s.size 0 by rw [mayN, dT (p := 1 ≤ s.size ∧ s.size ≤ 255) (by omega)]; rfl)
     have hpos : 0 < s.size := by omega
     clear h1
     go_enter Tryz.func52, Tryz.ntmps52
     go_wp2
     go_loop [3] (fun i => ∃ k : Nat, k < s.size ∧ Hid (mayRun s s.size 0 = mayRun s s.size k) ∧ i = .int .i64 k) (fun i => s.size - (intOf i).toNat)
     case atStart => exact ⟨0, hpos, rfl, rfl⟩
     case round =>
      obtain ⟨k, hk, hr, rfl⟩ := hrel
      by_cases hlt : k + 1 < s.size
      · have t1 : (k : Int) < (s.size : Int) - 1 := by omega
        have hst := mayRun_step s k hlt
        cases hok : okStep s k
        · have hp : pastN s k = 0 := by rw [pastN, hok]; rfl
          have HF := Lib.hid (show mayN s = false by rw [HN.out, hr.out, hst, hok]; rfl)
          clear hst hok hr
          go_wp2_with (go_at_call 99; refine (past_any _ _ _ hk hs).mono ?_; rintro e w' ⟨rfl, rfl⟩)
          go_ret
          exact ⟨ret_bool HF.out.symm, rfl⟩
        · obtain ⟨m, hm⟩ : ∃ m, k + 1 + byteAt s k = m := ⟨_, rfl⟩
          have hp : pastN s k = m := by rw [pastN, hok, ← hm]; rfl
          have hms : m < s.size := by
           simp only [okStep, Bool.and_eq_true, decide_eq_true_eq] at hok
           omega
          have hmk : k < m := by omega
          have HR := Lib.hid (show mayRun s s.size 0 = mayRun s s.size m by rw [hr.out, hst, hok, hm]; rfl)
          have e3 : ((m : Int) == 0) = false := eF (by omega)
          clear hst hok hr hm
          go_wp2_with (go_at_call 99; refine (past_any _ _ _ hk hs).mono ?_; rintro e w' ⟨rfl, rfl⟩)
          go_round
          case rel => exact ⟨m, hms, HR.out, rfl⟩
          case measure => simp [intOf]; omega
      · have t1 : ¬ (k : Int) < (s.size : Int) - 1 := by omega
        have he := mayRun_end s s.size k hlt
        have HF := Lib.hid (show mayN s = (byteAt s k == 0) by rw [HN.out, hr.out, he])
        have hb := byte_get hk
        have hb2 := byteAt_lt s k
        clear he hr hlt
        go_wp2
        go_ret
        exact ⟨ret_bool (by rw [HF.out, Bool.eq_iff_iff]; simp), rfl⟩
   · have e2 := dT (p := (255 : Int) < (s.size : Int)) (by omega)
     have HN := Lib.hid (show mayN s = false by simp [mayN]; omega)
     clear h2
     go_enter Tryz.func52, Tryz.ntmps52
     go_wp2
     go_ret
     exact ⟨ret_bool HN.out.symm, rfl⟩
end Go.Proofs.YthfnphcefkdgbaaGreat
end
section
namespace Go.Proofs.YthfnphcefkdgbaaGreat
open Go.RowKit
def RowS (w : World) (a : Option Addr) (len : Nat) (l : List ByteArray) : Prop :=
 l.length = len ∧ (len = 0 ∨ ∃ b off, a = some ⟨b, off, none⟩ ∧ b < w.heap.size ∧ ∀ j, j < len → w.cell? ⟨b, off + j, none⟩ = some (.string (l.getD j ByteArray.empty)))
theorem RowS.below {w w' : World} {a : Option Addr} {len : Nat} {l : List ByteArray} (h : RowS w a len l) (hb : Below w.heap.size w w') : RowS w' a len l := by
 obtain ⟨h1, h2⟩ := h
 refine ⟨h1, ?_⟩
 rcases h2 with h2 | ⟨b, off, rfl, hlt, hc⟩
 · exact Or.inl h2
 · refine Or.inr ⟨b, off, rfl, Nat.lt_of_lt_of_le hlt hb.size, fun j hj => ?_⟩
   rw [hb.cell hlt]
   exact hc j hj
def IsRowS (w : World) (a : Option Addr) (len cap : Nat) (ss : List ByteArray) : Prop :=
 (a = none ∧ len = 0 ∧ cap = 0 ∧ ss = []) ∨
 ∃ x, a = some x ∧ len ≤ cap ∧ cap ≤ maxLen ∧ ss.length = cap ∧ (∀ i, i < ss.length → w.cell? (x.add i) = some (.string (ss.getD i ByteArray.empty))) ∧ ∀ s ∈ ss, s.size ≤ maxLen
theorem RowS.of {w : World} {a : Option Addr} {len cap : Nat} {ss : List ByteArray} (h : IsRowS w a len cap ss) : RowS w a len (ss.take len) ∧ (∀ s ∈ ss.take len, s.size ≤ maxLen) ∧ len ≤ maxLen := by
 rcases h with ⟨rfl, rfl, rfl, rfl⟩ | ⟨x, rfl, hl, hm, hz, hcell, hs⟩
 · exact ⟨⟨rfl, Or.inl rfl⟩, by simp, by decide⟩
 · refine ⟨⟨by simp; omega, ?_⟩, fun s hs2 => hs s (List.mem_of_mem_take hs2), by omega⟩
   by_cases h0 : len = 0
   · exact Or.inl h0
   · right
     obtain ⟨b, off, spot⟩ := x
     have hc := hcell 0 (by omega)
     have hspot : spot = none := by simpa [Addr.add] using World.cell?_spot hc
     subst hspot
     refine ⟨b, off, rfl, ?_, fun j hj => ?_⟩
     · have := block_lt_of_cell hc
       simpa [Addr.add] using this
     · have := hcell j (by omega)
       have e : (⟨b, off, none⟩ : Addr).add j = ⟨b, off + j, none⟩ := by simp only [Addr.add]; split <;> simp_all
       rw [e] at this
       rw [this]
       simp [List.getD, hj]
end Go.Proofs.YthfnphcefkdgbaaGreat
end
section
namespace Go.Proofs.YthfnphcefkdgbaaGreat
open Go.RowKit
theorem own_shape {w : World} {B n : Nat} {e : TypeId} {v : Value} {xs : List Value} (h : w.ownsRow B e 1 v n xs) : ∃ a c, v = .slice a n c := by
 rcases h.2 with ⟨rfl, rfl⟩ | ⟨g, cap, cur, rfl, _⟩
 · exact ⟨none, 0, rfl⟩
 · exact ⟨_, _, rfl⟩
def tx (l : List ByteArray) (k : Nat) : ByteArray := l.getD k ByteArray.empty
def txtTo (l : List ByteArray) : Nat → List UInt8
 | 0 => []
 | k + 1 => txtTo l k ++ (UInt8.ofNat (tx l k).size :: (tx l k).data.toList)
theorem txtTo_len (l : List ByteArray) (k : Nat) : (txtTo l (k + 1)).length = (txtTo l k).length + 1 + (tx l k).size := by
 simp [txtTo]
 omega
end Go.Proofs.YthfnphcefkdgbaaGreat
end
section
namespace Go.Proofs.YthfnphcefkdgbaaGreat
open Go.RowKit
def nameL (L : List ByteArray) : List UInt8 := txtTo L L.length ++ [0]
def nameB (L : List ByteArray) : ByteArray := bs (nameL L)
def off (L : List ByteArray) (k : Nat) : Nat := (txtTo L k).length
def OkL (L : List ByteArray) : Prop := ∀ k, k < L.length → 1 ≤ (tx L k).size ∧ (tx L k).size ≤ 63 ∧ anyG (tx L k) 0 (tx L k).size = false
theorem off_succ (L : List ByteArray) (k : Nat) : off L (k + 1) = off L k + 1 + (tx L k).size := txtTo_len L k
theorem off_zero (L : List ByteArray) : off L 0 = 0 := rfl
theorem off_mono (L : List ByteArray) {k n : Nat} (h : k ≤ n) : off L k ≤ off L n := by
 induction n with
 | zero =>
  have : k = 0 := by omega
  subst this; exact Nat.le_refl _
 | succ n ih =>
  by_cases e : k = n + 1
  · subst e; exact Nat.le_refl _
  · have := ih (by omega)
    rw [off_succ]; omega
theorem nameB_size (L : List ByteArray) : (nameB L).size = off L L.length + 1 := by rw [nameB, bs_size, nameL]; simp [off]
theorem tx_cons_zero (s : ByteArray) (L : List ByteArray) : tx (s :: L) 0 = s := rfl
theorem tx_cons_succ (s : ByteArray) (L : List ByteArray) (k : Nat) : tx (s :: L) (k + 1) = tx L k := by simp [tx]
theorem txtTo_cons (s : ByteArray) (L : List ByteArray) (k : Nat) : txtTo (s :: L) (k + 1) = UInt8.ofNat s.size :: (s.data.toList ++ txtTo L k) := by
 induction k with
 | zero => simp [txtTo, tx_cons_zero]
 | succ k ih =>
  rw [txtTo, ih, tx_cons_succ, txtTo]
  simp
theorem nameL_cons (s : ByteArray) (L : List ByteArray) : nameL (s :: L) = UInt8.ofNat s.size :: (s.data.toList ++ nameL L) := by
 rw [nameL, nameL, List.length_cons, txtTo_cons]
 simp
theorem byteAt_drop (s : ByteArray) (a j : Nat) : byteAt s (a + j) = ((s.data.toList.drop a).getD j 0).toNat := by
 rw [byteAt, List.getD_eq_getElem?_getD, List.getD_eq_getElem?_getD, List.getElem?_drop]
theorem extract_toList (s : ByteArray) (a b : Nat) : (s.extract a b).data.toList = (s.data.toList.drop a).take (b - a) := by
 rw [ByteArray.data_extract, Array.toList_extract, List.extract_eq_take_drop]
theorem ba_eq {s t : ByteArray} (h : s.data.toList = t.data.toList) : s = t := ByteArray.ext (Array.toList_inj.1 h)
theorem size_data (s : ByteArray) : s.data.toList.length = s.size := by simp
theorem okL_cons {s : ByteArray} {L : List ByteArray} (h1 : 1 ≤ s.size ∧ s.size ≤ 63 ∧ anyG s 0 s.size = false) (h : OkL L) : OkL (s :: L) := by
 intro k hk
 cases k with
 | zero => exact h1
 | succ k => rw [tx_cons_succ]; exact h k (by simpa using hk)
theorem okL_tail {s : ByteArray} {L : List ByteArray} (h : OkL (s :: L)) : OkL L := by
 intro k hk
 have := h (k + 1) (by simpa using hk)
 rwa [tx_cons_succ] at this
theorem run_labels (s : ByteArray) : ∀ d at', s.size - at' ≤ d → at' < s.size → mayRun s s.size at' = true → ∃ L, OkL L ∧ s.data.toList.drop at' = nameL L := by
 intro d
 induction d with
 | zero => intro at' h1 h2; omega
 | succ d ih =>
  intro at' h1 h2 hm
  by_cases hlt : at' + 1 < s.size
  · rw [mayRun_step s at' hlt, Bool.and_eq_true] at hm
    obtain ⟨hok, hm⟩ := hm
    obtain ⟨b, hb⟩ : ∃ b, byteAt s at' = b := ⟨_, rfl⟩
    rw [okStep, hb] at hok
    simp only [Bool.and_eq_true, decide_eq_true_eq, Bool.not_eq_true'] at hok
    obtain ⟨⟨⟨k1, k2⟩, k3⟩, k4⟩ := hok
    rw [hb] at hm
    obtain ⟨L, hL, hd⟩ := ih (at' + 1 + b) (by omega) k3 hm
    have hsz : (s.extract (at' + 1) (at' + 1 + b)).size = b := by rw [extract_size _ _ _ (by omega)]; omega
    refine ⟨s.extract (at' + 1) (at' + 1 + b) :: L, okL_cons ⟨by omega, by omega, ?_⟩ hL, ?_⟩
    · rw [hsz, ← k4]
      refine anyG_congr fun j hj => ?_
      rw [Nat.zero_add, byteAt_extract _ _ _ _ (by omega) (by omega)]
    · rw [nameL_cons, hsz, extract_toList, ← hd]
      have hl : at' < s.data.toList.length := by rw [size_data]; omega
      rw [List.drop_eq_getElem_cons hl]
      have hb' : s.data.toList[at'] = UInt8.ofNat b := by
       rw [← hb, byteAt, List.getD_eq_getElem?_getD, List.getElem?_eq_getElem hl]
       simp
      rw [hb', show at' + 1 + b - (at' + 1) = b by omega]
      congr 1
      have := (List.take_append_drop b (s.data.toList.drop (at' + 1))).symm
      rw [List.drop_drop] at this
      exact this
  · rw [mayRun_end s _ at' hlt, beq_iff_eq] at hm
    refine ⟨[], fun k hk => by simp at hk, ?_⟩
    have hl : at' < s.data.toList.length := by rw [size_data]; omega
    rw [List.drop_eq_getElem_cons hl]
    have h0 : s.data.toList[at'] = 0 := by
      rw [byteAt, List.getD_eq_getElem?_getD, List.getElem?_eq_getElem hl] at hm
      exact UInt8.toNat_inj.1 hm
    rw [h0, List.drop_eq_nil_of_le (by rw [size_data]; omega)]
    rfl
theorem may_labels {s : ByteArray} (h : mayN s = true) : ∃ L, OkL L ∧ off L L.length ≤ 254 ∧ s = nameB L := by
 simp only [mayN, Bool.and_eq_true, decide_eq_true_eq] at h
 obtain ⟨⟨h1, h2⟩, h3⟩ := h
 obtain ⟨L, hL, hd⟩ := run_labels s s.size 0 (by omega) (by omega) h3
 have hs : s = nameB L := ba_eq (by rw [List.drop_zero] at hd; rw [hd, nameB]; rfl)
 refine ⟨L, hL, ?_, hs⟩
 have := nameB_size L
 rw [← hs] at this
 omega
theorem name_drop (L : List ByteArray) (k : Nat) (hk : k ≤ L.length) : (nameB L).data.toList.drop (off L k) = nameL (L.drop k) := by
 induction k generalizing L with
 | zero => rfl
 | succ k ih =>
  cases L with
  | nil => simp at hk
  | cons s L =>
   have h1 := ih L (by simpa using hk)
   have e : off (s :: L) (k + 1) = (s.size + off L k) + 1 := by
    rw [off, txtTo_cons, off]; simp
   rw [e]
   show (nameL (s :: L)).drop _ = _
   rw [nameL_cons, List.drop_succ_cons, ← List.drop_drop]
   have : (s.data.toList ++ nameL L).drop s.size = nameL L := by
    rw [← size_data, List.drop_left]
   rw [this]
   exact h1
theorem drop_cons_tx (L : List ByteArray) (k : Nat) (hk : k < L.length) : L.drop k = tx L k :: L.drop (k + 1) := by
 rw [List.drop_eq_getElem_cons hk, tx, List.getD_eq_getElem?_getD, List.getElem?_eq_getElem hk]
 rfl
theorem name_byte (L : List ByteArray) (k : Nat) (hk : k < L.length) (h : (tx L k).size ≤ 255) : byteAt (nameB L) (off L k) = (tx L k).size := by
 have := byteAt_drop (nameB L) (off L k) 0
 rw [Nat.add_zero] at this
 rw [this, name_drop L k (by omega), drop_cons_tx L k hk, nameL_cons]
 exact UInt8.toNat_ofNat_of_lt' (by have : UInt8.size = 256 := rfl; omega)
theorem name_end (L : List ByteArray) : byteAt (nameB L) (off L L.length) = 0 := by
 have := byteAt_drop (nameB L) (off L L.length) 0
 rw [Nat.add_zero] at this
 rw [this, name_drop L _ (Nat.le_refl _), List.drop_length]
 rfl
theorem name_label (L : List ByteArray) (k : Nat) (hk : k < L.length) : (nameB L).extract (off L k + 1) (off L k + 1 + (tx L k).size) = tx L k := by
 apply ba_eq
 rw [extract_toList, ← List.drop_drop, name_drop L k (by omega), drop_cons_tx L k hk, nameL_cons]
 rw [show off L k + 1 + (tx L k).size - (off L k + 1) = (tx L k).data.toList.length by rw [size_data]; omega]
 rw [List.drop_succ_cons, List.drop_zero, List.take_left]
theorem name_suffix (L : List ByteArray) (k : Nat) (hk : k ≤ L.length) : (nameB L).extract (off L k) (nameB L).size = nameB (L.drop k) := by
 apply ba_eq
 rw [extract_toList, name_drop L k hk, List.take_of_length_le]
 · rfl
 · rw [← name_drop L k hk, List.length_drop, size_data]; omega
theorem labels_run (L : List ByteArray) (h : OkL L) : ∀ d k, L.length - k = d → k ≤ L.length → mayRun (nameB L) (nameB L).size (off L k) = true := by
 intro d
 induction d with
 | zero =>
  intro k h1 h2
  have : k = L.length := by omega
  subst this
  rw [mayRun_end _ _ _ (by rw [nameB_size]; omega), name_end]
  rfl
 | succ d ih =>
  intro k h1 h2
  have hk : k < L.length := by omega
  obtain ⟨g1, g2, g3⟩ := h k hk
  have hs := off_succ L k
  have hm := off_mono L (show k + 1 ≤ L.length by omega)
  rw [mayRun_step _ _ (by rw [nameB_size]; omega), name_byte L k hk (by omega), show off L k + 1 + (tx L k).size = off L (k + 1) by omega, ih (k + 1) (by omega) (by omega), Bool.and_true]
  rw [okStep, name_byte L k hk (by omega)]
  simp only [Bool.and_eq_true, decide_eq_true_eq, Bool.not_eq_true']
  refine ⟨⟨⟨g1, g2⟩, by rw [nameB_size]; omega⟩, ?_⟩
  rw [← g3]
  refine anyG_congr fun j hj => ?_
  rw [Nat.zero_add, ← byteAt_extract (nameB L) (off L k + 1) (off L k + 1 + (tx L k).size) j (by rw [nameB_size]; omega) (by omega), name_label L k hk]
theorem labels_may {L : List ByteArray} (h : OkL L) (hsz : off L L.length ≤ 254) : mayN (nameB L) = true := by
 have hz := nameB_size L
 simp only [mayN, Bool.and_eq_true, decide_eq_true_eq]
 exact ⟨by omega, labels_run L h L.length 0 (by omega) (by omega)⟩
theorem nameL_inj {L M : List ByteArray} (hL : OkL L) (hM : OkL M) (h : nameL L = nameL M) : L = M := by
 induction L generalizing M with
 | nil =>
  cases M with
  | nil => rfl
  | cons t M =>
   obtain ⟨g1, g2, _⟩ := hM 0 (by simp)
   rw [tx_cons_zero] at g1 g2
   rw [nameL_cons] at h
   have h0 : (0 : UInt8) = UInt8.ofNat t.size := (List.cons.inj h).1
   have := congrArg UInt8.toNat h0
   rw [UInt8.toNat_ofNat_of_lt' (by have : UInt8.size = 256 := rfl; omega)] at this
   simp at this
   exact absurd this (by omega)
 | cons s L ih =>
  obtain ⟨g1, g2, _⟩ := hL 0 (by simp)
  rw [tx_cons_zero] at g1 g2
  cases M with
  | nil =>
   rw [nameL_cons] at h
   have h0 : UInt8.ofNat s.size = 0 := (List.cons.inj h).1
   have := congrArg UInt8.toNat h0
   rw [UInt8.toNat_ofNat_of_lt' (by have : UInt8.size = 256 := rfl; omega)] at this
   have h9 : (0 : UInt8).toNat = 0 := rfl
   omega
  | cons t M =>
   obtain ⟨f1, f2, _⟩ := hM 0 (by simp)
   rw [tx_cons_zero] at f1 f2
   rw [nameL_cons, nameL_cons] at h
   obtain ⟨h0, h1⟩ := List.cons.inj h
   have h2 := congrArg UInt8.toNat h0
   rw [UInt8.toNat_ofNat_of_lt' (by have : UInt8.size = 256 := rfl; omega), UInt8.toNat_ofNat_of_lt' (by have : UInt8.size = 256 := rfl; omega)] at h2
   obtain ⟨k1, k2⟩ := List.append_inj h1 (by rw [size_data, size_data]; exact h2)
   rw [ba_eq k1, ih (okL_tail hL) (okL_tail hM) k2]
theorem nameB_inj {L M : List ByteArray} (hL : OkL L) (hM : OkL M) (h : nameB L = nameB M) : L = M := by
 apply nameL_inj hL hM
 have := congrArg (fun s : ByteArray => s.data.toList) h
 exact this
end Go.Proofs.YthfnphcefkdgbaaGreat
end
section
namespace Go.Proofs.YthfnphcefkdgbaaGreat
open Go.RowKit
set_option maxRecDepth 100000 in
theorem label_any (L : List ByteArray) (k : Nat) (w : World) (hL : OkL L) (hk : k < L.length) (hz : off L L.length ≤ 254) : Calls Tryz.prog 153 #[.string (nameB L), .int .u8 (off L k : Nat)] w fun e w' => e = .returned (.string (tx L k)) ∧ w = w' := by
 have hsz := nameB_size L
 have hm := off_mono L (show k + 1 ≤ L.length by omega)
 have hs := off_succ L k
 obtain ⟨g1, g2, _⟩ := hL k hk
 have hb := name_byte L k hk (by omega)
 have hlt : off L k < (nameB L).size := by omega
 have hg := byte_get hlt
 rw [hb] at hg
 have hl := name_label L k hk
 obtain ⟨s, hs1⟩ : ∃ s, nameB L = s := ⟨_, rfl⟩
 obtain ⟨a, ha⟩ : ∃ a, off L k = a := ⟨_, rfl⟩
 obtain ⟨t, ht⟩ : ∃ t, tx L k = t := ⟨_, rfl⟩
 simp only [hs1, ha, ht] at *
 have HL := Lib.hid hl
 clear hl hb
 go_enter Tryz.func153, Tryz.ntmps153
 go_wp2
 go_ret
 exact ⟨ret_str HL.out, rfl⟩
def ArrAt (w : World) (q : Nat) (f : Nat → Int) : Prop := ∀ j, j < 127 → w.cell? ⟨q, j, none⟩ = some (.int .u8 (f j)) ∧ w.frozen? ⟨q, j, none⟩ = false
def arrL (f : Nat → Int) : List Value := (List.range 127).map fun j => Value.int .u8 (f j)
theorem arrL_length (f : Nat → Int) : (arrL f).length = 127 := by simp [arrL]
theorem arrL_at (f : Nat → Int) (j : Nat) (v : Value) (h : (arrL f)[j]? = some v) : j < 127 ∧ v = .int .u8 (f j) := by
 have hj : j < 127 := by
  have := (List.getElem?_eq_some_iff.1 h).1
  rwa [arrL_length] at this
 refine ⟨hj, ?_⟩
 simp [arrL, hj] at h
 exact h.symm
theorem arrL_get (f : Nat → Int) (j : Nat) (h : j < 127) : (arrL f)[j]? = some (.int .u8 (f j)) := by simp [arrL, h]
theorem ArrAt.range {w : World} {q : Nat} {f : Nat → Int} (h : ArrAt w q f) : w.rangeAt q 0 (arrL f) := by
 intro j v hv
 obtain ⟨h1, rfl⟩ := arrL_at f j v hv
 rw [Nat.zero_add]
 exact (h j h1).1
theorem ArrAt.there {w : World} {q : Nat} {f : Nat → Int} (h : ArrAt w q f) : w.there q 0 127 := by
 intro j hj
 rw [Nat.zero_add, (h j hj).1, (h j hj).2]
 exact ⟨rfl, rfl⟩
theorem arr_one (f : Nat → Int) : (arrL f).toArray.all (·.oneCell') = true := by
 refine all_oneCell_toArray ?_
 intro v hv
 simp only [arrL, List.mem_map] at hv
 obtain ⟨_, _, rfl⟩ := hv
 rfl
theorem arr_stored {w : World} {q : Nat} {f g : Nat → Int} (h : ArrAt w q g) : ArrAt (w.setCells q 0 (arrL f)) q f := by
 have ht := h.there
 have h1 := World.rangeAt_setCells_same w q 0 (arrL f) (by rw [arrL_length]; exact ht)
 have h2 := World.there_setCells ht q 0 (arrL f)
 intro j hj
 have k1 := h1 j _ (arrL_get f j hj)
 have k2 := (h2 j hj).2
 rw [Nat.zero_add] at k1 k2
 exact ⟨k1, k2⟩
theorem ArrAt.below {w w' : World} {q : Nat} {f : Nat → Int} (h : ArrAt w q f) (hb : Below w.heap.size w w') : ArrAt w' q f := by
 intro j hj
 obtain ⟨h1, h2⟩ := h j hj
 have hlt : q < w.heap.size := block_lt_of_cell h1
 exact ⟨by rw [hb.cell hlt]; exact h1, by rw [hb.frozen hlt]; exact h2⟩
theorem ArrAt.set {w : World} {q : Nat} {f : Nat → Int} (h : ArrAt w q f) {k : Nat} (hk : k < 127) (v : Int) : ArrAt (w.setCell ⟨q, k, none⟩ (.int .u8 v)) q (fun j => if j = k then v else f j) := by
 intro j hj
 obtain ⟨h1, h2⟩ := h j hj
 refine ⟨?_, by simpa using h2⟩
 show _ = some (Value.int .u8 (if j = k then v else f j))
 by_cases e : j = k
 · subst e
   rw [if_pos rfl]
   exact World.cell?_setCell_same _ _ _ h1
 · rw [if_neg e, World.cell?_setCell_other _ _ _ _ (by simp)]
   exact h1
theorem ArrAt.other {w : World} {q : Nat} {f : Nat → Int} (h : ArrAt w q f) {p : Addr} (hk : p.block ≠ q) (v : Value) : ArrAt (w.setCell p v) q f := by
 intro j hj
 obtain ⟨h1, h2⟩ := h j hj
 refine ⟨?_, by simpa using h2⟩
 rw [World.cell?_setCell_other _ _ _ _ (by rintro rfl; exact hk rfl)]
 exact h1
theorem zero_at {j : Nat} (h : j < 127) : Tryz.zeroCells213[j]? = some (.int .u8 0) := by
 have e : Tryz.zeroCells213 = Array.replicate 127 (.int .u8 0) := by kernel_rfl
 rw [e, Array.getElem?_replicate, if_pos h]
theorem arr_new (w : World) : ArrAt (w.alloc (.cells Tryz.zeroCells213 213)) w.heap.size (fun _ => 0) := by
 intro j hj
 rw [World.cell?_alloc_new, World.frozen?_alloc_new]
 exact ⟨zero_at hj, rfl⟩
def stF (L : List ByteArray) (k j : Nat) : Int := if j < k then (off L j : Int) else 0
theorem stF_next (L : List ByteArray) (k : Nat) : (fun j => if j = k then (off L k : Int) else stF L k j) = stF L (k + 1) := by
 funext j
 unfold stF
 by_cases e : j = k
 · subst e; rw [if_pos rfl, if_pos (by omega)]
 · rw [if_neg e]
   by_cases h : j < k
   · rw [if_pos h, if_pos (by omega)]
   · rw [if_neg h, if_neg (by omega)]
theorem off_ge (L : List ByteArray) (hL : OkL L) (k : Nat) (hk : k ≤ L.length) : 2 * k ≤ off L k := by
 induction k with
 | zero => exact Nat.zero_le _
 | succ k ih =>
  have := ih (by omega)
  have := off_succ L k
  obtain ⟨g, _, _⟩ := hL k (by omega)
  omega
end Go.Proofs.YthfnphcefkdgbaaGreat
end
section
namespace Go.Proofs.YthfnphcefkdgbaaGreat
open Go.RowKit
def endRun (s : ByteArray) (A : Nat) : Nat → Nat → Int
 | 0, _ => -1
 | f + 1, i => if i < s.size then (if byteAt s i = 0 then (if 255 < i + 1 - A then -1 else ((i + 1 : Nat) : Int)) else if 63 < byteAt s i then -1 else endRun s A f (i + byteAt s i + 1)) else -1
def gRun (s : ByteArray) : Nat → Nat → Bool
 | 0, _ => false
 | f + 1, i => if i < s.size then anyG s (i + 1) (min (byteAt s i) (s.size - (i + 1))) || gRun s f (i + byteAt s i + 1) else false
theorem endRun_more (s : ByteArray) (A : Nat) : ∀ (f i : Nat), s.size ≤ i + f → endRun s A (f + 1) i = endRun s A f i := by
 intro f
 induction f with
 | zero => intro i h; show (if i < s.size then _ else _) = _; rw [if_neg (by omega)]; rfl
 | succ f ih =>
  intro i h
  show (if i < s.size then (if byteAt s i = 0 then (if 255 < i + 1 - A then -1 else ((i + 1 : Nat) : Int)) else if 63 < byteAt s i then -1 else endRun s A (f + 1) (i + byteAt s i + 1)) else -1) = (if i < s.size then (if byteAt s i = 0 then (if 255 < i + 1 - A then -1 else ((i + 1 : Nat) : Int)) else if 63 < byteAt s i then -1 else endRun s A f (i + byteAt s i + 1)) else -1)
  rw [ih _ (by omega)]
theorem endRun_step (s : ByteArray) (A i : Nat) : endRun s A s.size i = if i < s.size then (if byteAt s i = 0 then (if 255 < i + 1 - A then -1 else ((i + 1 : Nat) : Int)) else if 63 < byteAt s i then -1 else endRun s A s.size (i + byteAt s i + 1)) else -1 := by
 rw [← endRun_more s A s.size i (by omega)]
 rfl
theorem gRun_more (s : ByteArray) : ∀ (f i : Nat), s.size ≤ i + f → gRun s (f + 1) i = gRun s f i := by
 intro f
 induction f with
 | zero => intro i h; show (if i < s.size then _ else _) = _; rw [if_neg (by omega)]; rfl
 | succ f ih =>
  intro i h
  show (if i < s.size then anyG s (i + 1) (min (byteAt s i) (s.size - (i + 1))) || gRun s (f + 1) (i + byteAt s i + 1) else false) = (if i < s.size then anyG s (i + 1) (min (byteAt s i) (s.size - (i + 1))) || gRun s f (i + byteAt s i + 1) else false)
  rw [ih _ (by omega)]
theorem gRun_step (s : ByteArray) (i : Nat) : gRun s s.size i = if i < s.size then anyG s (i + 1) (min (byteAt s i) (s.size - (i + 1))) || gRun s s.size (i + byteAt s i + 1) else false := by
 rw [← gRun_more s s.size i (by omega)]
 rfl
theorem ref_run (s : ByteArray) (h255 : s.size ≤ 255) : ∀ (d i : Nat), i < s.size → s.size - i ≤ d → (!gRun s s.size i && endRun s 0 s.size i == (s.size : Int)) = mayRun s s.size i := by
 intro d
 induction d with
 | zero => intro i h1 h2; omega
 | succ d ih =>
  intro i h1 h2
  rw [gRun_step, endRun_step, if_pos h1, if_pos h1]
  by_cases hl : i + 1 < s.size
  · rw [mayRun_step s i hl]
    by_cases k0 : byteAt s i = 0
    · rw [if_pos k0, if_neg (by omega), okStep, k0]
      simp
      intros
      omega
    · rw [if_neg k0]
      by_cases k63 : 63 < byteAt s i
      · rw [if_pos k63, okStep, dF (p := byteAt s i ≤ 63) (by omega)]
        simp
      · rw [if_neg k63]
        by_cases kn : i + 1 + byteAt s i < s.size
        · have hi := ih (i + byteAt s i + 1) (by omega) (by omega)
          have e : i + 1 + byteAt s i = i + byteAt s i + 1 := by omega
          rw [e, ← hi, okStep, dT (p := 1 ≤ byteAt s i) (by omega), dT (p := byteAt s i ≤ 63) (by omega), dT kn, Nat.min_eq_left (by omega)]
          cases anyG s (i + 1) (byteAt s i) <;> simp
        · rw [endRun_step, if_neg (by omega), okStep, dF kn]
          simp
  · rw [mayRun_end s s.size i hl]
    by_cases k0 : byteAt s i = 0
    · rw [if_pos k0, if_neg (by omega), gRun_step, if_neg (by omega), k0]
      simp [anyG]
      omega
    · have e : (byteAt s i == 0) = false := by simpa using k0
      have e2 : endRun s 0 s.size (i + byteAt s i + 1) = -1 := by rw [endRun_step, if_neg (by omega)]
      rw [if_neg k0, e, e2]
      split <;> simp
theorem endRun_255 (s : ByteArray) : ∀ (f i : Nat), endRun s 0 f i ≤ 255 := by
 intro f
 induction f with
 | zero => intro i; simp [endRun]
 | succ f ih =>
  intro i
  simp only [endRun]
  repeat' split
  all_goals first | omega | exact ih _
theorem ref_may (s : ByteArray) : (!gRun s s.size 0 && endRun s 0 s.size 0 == (s.size : Int)) = mayN s := by
 by_cases h0 : s.size = 0
 · rw [endRun_step, if_neg (by omega), mayN, dF (p := 1 ≤ s.size ∧ s.size ≤ 255) (by omega)]
   simp
 · by_cases h : s.size ≤ 255
   · rw [ref_run s h s.size 0 (by omega) (by omega), mayN, dT (p := 1 ≤ s.size ∧ s.size ≤ 255) (by omega)]
     rfl
   · have := endRun_255 s s.size 0
     rw [mayN, dF (p := 1 ≤ s.size ∧ s.size ≤ 255) (by omega)]
     simp
     omega
theorem rend_any (s : ByteArray) (A : Nat) (w : World) (hs : s.size ≤ 1000000) (hA : A ≤ 1000000) : Calls Tryz.prog 108 #[.string s, .int .i64 A] w fun e w' => e = .returned (.int .i64 (endRun s A s.size A)) ∧ w = w' := by
 go_enter Tryz.func108, Tryz.ntmps108
 go_wp2
 go_loop [5] (fun i => ∃ k : Nat, A ≤ k ∧ k ≤ 1000300 ∧ Hid (endRun s A s.size A = endRun s A s.size k) ∧ i = .int .i64 k) (fun i => s.size - (intOf i).toNat)
 case atStart => exact ⟨A, Nat.le_refl _, by omega, rfl, rfl⟩
 case round =>
  obtain ⟨k, hA2, hk, hr, rfl⟩ := hrel
  by_cases hlt : k < s.size
  · have hb := byte_get hlt
    have hb2 := byteAt_lt s k
    have hst := endRun_step s A k
    rw [if_pos hlt] at hst
    obtain ⟨b, hbe⟩ : ∃ b, byteAt s k = b := ⟨_, rfl⟩
    rw [hbe] at hb hb2 hst
    by_cases k0 : b = 0
    · subst k0
      rw [if_pos rfl] at hst
      by_cases kl : 255 < k + 1 - A
      · rw [if_pos kl] at hst
        have e1 := dT (p := (255 : Int) < (k : Int) + 1 - (A : Int)) (by omega)
        have HF := Lib.hid (hr.out.trans hst)
        clear hst hbe kl hr
        go_wp2
        go_ret
        exact ⟨ret_int HF.out.symm, rfl⟩
      · rw [if_neg kl] at hst
        have e1 := dF (p := (255 : Int) < (k : Int) + 1 - (A : Int)) (by omega)
        have HF := Lib.hid (hr.out.trans hst)
        clear hst hbe kl hr
        go_wp2
        go_ret
        exact ⟨ret_int (by rw [HF.out]; omega), rfl⟩
    · rw [if_neg k0] at hst
      have e0 : ((b : Int) == 0) = false := eF (by omega)
      by_cases k63 : 63 < b
      · rw [if_pos k63] at hst
        have e1 := dT (p := (63 : Int) < (b : Int)) (by omega)
        have HF := Lib.hid (hr.out.trans hst)
        clear hst hbe hr k0
        go_wp2
        go_ret
        exact ⟨ret_int HF.out.symm, rfl⟩
      · rw [if_neg k63] at hst
        have e1 := dF (p := (63 : Int) < (b : Int)) (by omega)
        have HF := Lib.hid (hr.out.trans hst)
        clear hst hbe hr k0
        go_wp2
        go_round
        case rel => exact ⟨k + b + 1, by omega, by omega, HF.out, by go_num⟩
        case measure => simp [intOf]; omega
  · have hst := endRun_step s A k
    rw [if_neg hlt] at hst
    have HF := Lib.hid (hr.out.trans hst)
    clear hst hr
    go_wp2
    go_ret
    exact ⟨ret_int HF.out.symm, rfl⟩
end Go.Proofs.YthfnphcefkdgbaaGreat
end
section
namespace Go.Proofs.YthfnphcefkdgbaaGreat
open Go.RowKit
theorem anyG_up {s : ByteArray} {a n m : Nat} (h : anyG s a n = true) (hnm : n ≤ m) : anyG s a m = true := by
  induction m with
  | zero => have : n = 0 := by omega
            subst this; exact h
  | succ m ih =>
    by_cases e : n = m + 1
    · subst e; exact h
    · simp only [anyG]; rw [ih (by omega)]; simp
set_option maxRecDepth 100000 in
theorem rmay_any (s : ByteArray) (w : World) (hs : s.size ≤ 1000000) : Calls Tryz.prog 56 #[.string s] w fun e w' => e = .returned (.bool (mayN s)) ∧ w = w' := by
 have HM := Lib.hid (ref_may s)
 go_enter Tryz.func56, Tryz.ntmps56
 go_wp2
 go_loop [3] (fun i => ∃ k : Nat, k ≤ 1000300 ∧ Hid (gRun s s.size 0 = gRun s s.size k) ∧ i = .int .i64 k) (fun i => s.size - (intOf i).toNat)
 case atStart => exact ⟨0, by omega, rfl, rfl⟩
 case round =>
  obtain ⟨k, hk, hr, rfl⟩ := hrel
  by_cases hlt : k < s.size
  · have hb := byte_get hlt
    have hb2 := byteAt_lt s k
    have hst := gRun_step s k
    rw [if_pos hlt] at hst
    have HB := Lib.hid (show ∃ b, byteAt s k = b from ⟨_, rfl⟩)
    have hbe := HB.out
    obtain ⟨b, hbe⟩ := hbe
    rw [hbe] at hb hb2 hst
    have HS := Lib.hid hst
    have HR := hr
    clear hst hr HB hbe
    go_wp2
    go_loop [5] (fun j => ∃ m : Nat, k + 1 ≤ m ∧ m ≤ k + 1 + b ∧ m ≤ s.size ∧ Hid (anyG s (k + 1) (m - (k + 1)) = false) ∧ j = .int .i64 m) (fun j => s.size - (intOf j).toNat)
    case atStart => exact ⟨k + 1, by omega, by omega, by omega, (by rw [Nat.sub_self]; rfl), by go_num⟩
    case round =>
     obtain ⟨m, hm1, hm2, hm3, hg, rfl⟩ := hrel
     by_cases t1 : m ≤ k + b
     · by_cases t2 : m < s.size
       · have hc := byte_get t2
         have hc2 := byteAt_lt s m
         have hnext : anyG s (k + 1) (m + 1 - (k + 1)) = (anyG s (k + 1) (m - (k + 1)) || great (byteAt s m)) := by
           have e : m + 1 - (k + 1) = (m - (k + 1)) + 1 := by omega
           have e2 : k + 1 + (m - (k + 1)) = m := by omega
           rw [e]; simp only [anyG]; rw [e2]
         have HC := Lib.hid (show ∃ c, byteAt s m = c from ⟨_, rfl⟩)
         have hce := HC.out
         obtain ⟨c, hce⟩ := hce
         rw [hce] at hc hc2 hnext
         by_cases hgr : 65 ≤ c ∧ c ≤ 90
         · have e1 := dT (p := (65 : Int) ≤ (c : Int)) (by omega)
           have e2 := dT (p := (c : Int) ≤ (90 : Int)) (by omega)
           have hgt : great c = true := by simp [great]; omega
           rw [hgt, Bool.or_true] at hnext
           have hall : gRun s s.size k = true := by
             rw [HS.out, anyG_up hnext (by omega)]; rfl
           have HF := Lib.hid (show mayN s = false by rw [← HM.out, HR.out, hall]; rfl)
           clear hnext hall hgt hce HC hgr
           go_wp2
           go_ret
           exact ⟨ret_bool HF.out.symm, rfl⟩
         · have hgt : great c = false := by simp [great]; omega
           rw [hgt, Bool.or_false, hg.out] at hnext
           have HN := Lib.hid hnext
           clear hnext hgt hce HC hg
           by_cases h65 : 65 ≤ c
           · have e1 := dT (p := (65 : Int) ≤ (c : Int)) (by omega)
             have e2 := dF (p := (c : Int) ≤ (90 : Int)) (by omega)
             clear hgr
             go_wp2
             go_round
             case rel => exact ⟨m + 1, by omega, by omega, by omega, HN.out, by go_num⟩
             case measure => simp [intOf]; omega
           · have e1 := dF (p := (65 : Int) ≤ (c : Int)) (by omega)
             clear hgr
             go_wp2
             go_round
             case rel => exact ⟨m + 1, by omega, by omega, by omega, HN.out, by go_num⟩
             case measure => simp [intOf]; omega
       · have hms : m = s.size := by omega
         have HN := Lib.hid (show gRun s s.size 0 = gRun s s.size (k + b + 1) by
           rw [HR.out, HS.out, Nat.min_eq_right (by omega), ← hms, hg.out]; rfl)
         subst hms
         clear hg
         go_wp2
         go_round
         case rel => exact ⟨k + b + 1, by omega, HN.out, by go_num⟩
         case measure => simp [intOf]; omega
     · have hmb : m - (k + 1) = b := by omega
       have HN := Lib.hid (show gRun s s.size 0 = gRun s s.size (k + b + 1) by
         rw [HR.out, HS.out, Nat.min_eq_left (by omega), ← hmb, hg.out]; rfl)
       clear hg hmb
       go_wp2
       go_round
       case rel => exact ⟨k + b + 1, by omega, HN.out, by go_num⟩
       case measure => simp [intOf]; omega
  · have hst := gRun_step s k
    rw [if_neg hlt] at hst
    have HF := Lib.hid (show mayN s = (endRun s 0 s.size 0 == (s.size : Int)) by rw [← HM.out, hr.out, hst]; rfl)
    clear hst hr
    go_wp2_with (go_at_call 108; refine (rend_any s 0 _ hs (by omega)).mono ?_; rintro e w' ⟨rfl, rfl⟩)
    go_ret
    exact ⟨ret_bool (by rw [HF.out]), rfl⟩
end Go.Proofs.YthfnphcefkdgbaaGreat
end
section
namespace Go.Proofs.YthfnphcefkdgbaaGreat
open Go.RowKit
def sc (l : List ByteArray) : List Value := l.map Value.string
theorem sc_oneCell (l : List ByteArray) : ∀ u ∈ sc l, u.oneCell' = true := by
 intro u hu
 simp only [sc, List.mem_map] at hu
 obtain ⟨_, _, rfl⟩ := hu
 rfl
theorem sc_append (l m : List ByteArray) : sc (l ++ m) = sc l ++ sc m := by simp [sc]
theorem infoStr : (Tryz.prog.info? 9).map (fun i => (i.zero, i.size, i.bytes)) = some (some (.string ⟨#[]⟩), 1, 16) := by kernel_rfl
theorem rowS_of_own {w : World} {B n : Nat} {v : Value} {l : List ByteArray} (h : w.ownsRow B 9 1 v n (sc l)) : ∃ a c, v = .slice a n c ∧ RowS w a n l ∧ (a = none → n = 0 ∧ c = 0) := by
 have hl : l.length = n := by have := h.1; simp only [sc, List.length_map, Nat.mul_one] at this; exact this
 rcases h.2 with ⟨rfl, rfl⟩ | ⟨g, cap, cur, rfl, hb, hg, rest⟩
 · exact ⟨none, 0, rfl, ⟨hl, Or.inl rfl⟩, fun _ => ⟨rfl, rfl⟩⟩
 · refine ⟨_, _, rfl, ⟨hl, Or.inr ⟨g, 0, rfl, (Array.getElem?_eq_some_iff.1 hg).1, fun j hj => ?_⟩⟩, fun h => by cases h⟩
   rw [Nat.zero_add, h.cellAt j (by omega)]
   simp [sc, show j < l.length by omega]
theorem one_str (s : ByteArray) : ∀ u ∈ [Value.string s], u.oneCell' = true := by
 intro u hu
 simp only [List.mem_cons, List.not_mem_nil, or_false] at hu
 subst hu
 rfl
theorem below_appendS {w wr w' : World} {v : Value} {B n : Nat} {xs : List Value} {o : Obj} (hb : Below B w wr) (hB : B ≤ wr.heap.size) (hown : wr.ownsRow B 9 1 v n xs) (hg : (wr.alloc o).grownBy w' v.ownBlock) : Below B w w' :=
 (hb.alloc hB o).grown hg (by simp; omega) (fun k hk => (hown.lt k hk).1)
set_option maxRecDepth 100000 in
theorem rlabels_yes (L : List ByteArray) (w : World) (hL : OkL L) (hz : off L L.length ≤ 254) : Calls Tryz.prog 112 #[.string (nameB L)] w fun e w' => ∃ a c, e = .returned (.slice a L.length c) ∧ RowS w' a L.length L ∧ Below w.heap.size w w' := by
 have hm := labels_may hL hz
 have hsz := nameB_size L
 obtain ⟨i0, hi, hz0, hz1, hz2⟩ := info_parts infoStr
 have HI := Lib.hid hi
 have HZ0 := Lib.hid hz0
 have HZ1 := Lib.hid hz1
 have HZ2 := Lib.hid hz2
 have hge := off_ge L hL L.length (Nat.le_refl _)
 have HM := Lib.hid hm
 have HL := Lib.hid hL
 obtain ⟨s, hs1⟩ : ∃ s, nameB L = s := ⟨_, rfl⟩
 obtain ⟨n, hn⟩ : ∃ n, L.length = n := ⟨_, rfl⟩
 have HS := Lib.hid hs1
 have HN := Lib.hid hn
 rw [hs1] at HM hsz ⊢
 rw [hn] at hsz hge hz ⊢
 clear hi hz0 hz1 hz2 hm hL hs1 hn
 go_enter Tryz.func112, Tryz.ntmps112
 go_wp2_with fail
 refine (rmay_any _ _ (by omega)).mono ?_; rintro e w' ⟨rfl, rfl⟩
 rw [HM.out]
 go_wp2_with fail
 go_loopw [3, 4] (fun v i wr => ∃ k : Nat, k ≤ n ∧ i = .int .i64 (off L k : Nat) ∧ wr.ownsRow w.heap.size 9 1 v k (sc (L.take k)) ∧ Below w.heap.size w wr) (fun _ i _ => s.size - (intOf i).toNat)
 case atStart => exact ⟨0, Nat.zero_le _, rfl, World.ownsRow_nil _ _ _ _, Below.refl _ _⟩
 case round =>
  obtain ⟨k, hk, rfl, ho, hb⟩ := hrel
  obtain ⟨va, vc, rfl⟩ := own_shape ho
  have HO := Lib.hid ho
  have HB := Lib.hid hb
  have hsz2 := hb.size
  clear ho hb
  have hm := off_mono L hk
  by_cases hlt : k < n
  · have hs := off_succ L k
    have hm2 := off_mono L (show k + 1 ≤ n by omega)
    obtain ⟨g1, g2, _⟩ := HL.out k (by rw [HN.out]; exact hlt)
    have hb := name_byte L k (by rw [HN.out]; exact hlt) (by omega)
    have hlab := name_label L k (by rw [HN.out]; exact hlt)
    rw [HS.out] at hb hlab
    have HT := Lib.hid (show sc (L.take k) ++ [Value.string (tx L k)] = sc (L.take (k + 1)) by
     rw [List.take_succ_eq_append_getElem (by rw [HN.out]; exact hlt), sc_append]
     simp [sc, tx, List.getD_eq_getElem?_getD, List.getElem?_eq_getElem (show k < L.length by rw [HN.out]; exact hlt)])
    obtain ⟨a, ha⟩ : ∃ a, off L k = a := ⟨_, rfl⟩
    obtain ⟨a2, ha2⟩ : ∃ a, off L (k + 1) = a := ⟨_, rfl⟩
    obtain ⟨x, hx⟩ : ∃ x, tx L k = x := ⟨_, rfl⟩
    obtain ⟨t, ht⟩ : ∃ t, x.size = t := ⟨_, rfl⟩
    rw [hx] at HT
    simp only [hx, ht, ha, ha2] at hs hm2 hb g1 g2 hm hlab ⊢
    have hlt2 : a < s.size := by omega
    have hg := (byte_get hlt2).trans hb
    have e0 : ((t : Int) != 0) = true := nT (by omega)
    have HA2 := Lib.hid ha2
    have HLAB := Lib.hid hlab
    clear ha ha2 ht hb hx hlab
    go_wp2_with (first | (at_builtin; refine wpList_append_own _ rfl _ _ 36 rfl w.heap.size 9 i0 (.string ⟨#[]⟩) 1 16 Tryz.underlying36 HI.out HZ0.out HZ1.out HZ2.out rfl (by decide) _ k _ rfl (HO.out.alloc _) ⟨wr.heap.size, 0, none⟩ 1 1 [.string (s.extract (a + 1) (a + 1 + t))] rfl rfl ?c1 ?c2 ?c3 ?c4 ?c5 ?_))
    case c1 => exact cell_one_new _ _ _
    case c2 => exact one_str _
    case c3 => unfold maxLen; omega
    case c4 => omega
    case c5 => simp; omega
    intro v2 w2 hown2 hgrow2 _
    rw [HLAB.out, HT.out] at hown2
    have HO2 := Lib.hid hown2
    have HB2 := Lib.hid (below_appendS HB.out hsz2 HO.out hgrow2)
    clear hown2 hgrow2
    go_wp2
    go_roundw
    case rel => exact ⟨k + 1, by omega, by rw [HA2.out, hs]; go_num, HO2.out, HB2.out⟩
    case measure => simp [intOf]; omega
  · have hkn : k = n := by omega
    subst hkn
    have hb := name_end L
    rw [HS.out, HN.out] at hb
    have hR := HO.out
    rw [show L.take k = L by rw [← HN.out]; exact List.take_length] at hR
    obtain ⟨a, c, hv, hrow, _⟩ := rowS_of_own hR
    injection hv with hv1 hv2 hv3
    subst hv1
    have HR := Lib.hid hrow
    obtain ⟨p, hp⟩ : ∃ p, off L k = p := ⟨_, rfl⟩
    simp only [hp] at hb hsz ⊢
    have hlt2 : p < s.size := by omega
    have hg := (byte_get hlt2).trans hb
    clear hR hrow hb hp
    go_wp2
    go_ret
    exact ⟨_, ⟨_, rfl⟩, HR.out, HB.out⟩
end Go.Proofs.YthfnphcefkdgbaaGreat
end
section
namespace Go.Proofs.YthfnphcefkdgbaaGreat
open Go.RowKit
theorem append_rowS {w : World} {ops : Array Oper} {rest : List Oper} {o : Oper} {act : Act} {Q : Exit → Act → World → Prop} (hgd : o.guard = none) (s x : Operand)
  (ho : o.op = .call { callee := .builtin .append, args := #[s, x], argTypes := #[36, 36] })
  (B : Nat) (v : Value) (n : Nat) (xs : List Value) (hs : act.eval s = v) (hown : w.ownsRow B 9 1 v n xs)
  (a : Option Addr) (len cap : Nat) (l : List ByteArray) (hx : act.eval x = .slice a len cap) (hn : a = none → len = 0 ∧ cap = 0) (hr : RowS w a len l)
  (hb : n + len ≤ 1000000) (hbase : B ≤ w.heap.size)
  (h : ∀ v' w', w'.ownsRow B 9 1 v' (n + len) (xs ++ sc l) → w.grownBy w' v.ownBlock → wpList Tryz.prog ops Q rest (act.put o.dst v') w') : wpList Tryz.prog ops Q (o :: rest) act w := by
 obtain ⟨i0, hi, hz0, hz1, hz2⟩ := info_parts infoStr
 cases a with
 | none =>
  obtain ⟨rfl, rfl⟩ := hn rfl
  have hl : l = [] := List.eq_nil_of_length_eq_zero hr.1
  subst hl
  refine wpList_append_own_none hgd s x 36 ho B 9 i0 1 Tryz.underlying36 hi v n xs hs hown hx ?_
  refine h v w ?_ (World.grownBy.refl _ _)
  simpa [sc] using hown
 | some ad =>
  refine wpList_append_own w hgd s x 36 ho B 9 i0 (.string ⟨#[]⟩) 1 16 Tryz.underlying36 hi hz0 hz1 hz2 rfl (by decide) v n xs hs hown ad len cap (sc l) hx (by simp [sc, hr.1]) ?_ (sc_oneCell l) (by unfold maxLen; omega) (by omega) hbase (fun v' w' h1 h2 _ => h v' w' h1 h2)
  intro j u hj
  have hjl : j < l.length := by
    have := (List.getElem?_eq_some_iff.1 hj).1
    simpa [sc] using this
  rcases hr.2 with h0 | ⟨b, off, hab, _, hc⟩
  · have := hr.1; omega
  · simp only [Option.some.injEq] at hab
    subst hab
    have e : (⟨b, off, none⟩ : Addr).add j = ⟨b, off + j, none⟩ := by simp only [Addr.add]; split <;> simp_all
    rw [e, hc j (by rw [← hr.1]; exact hjl)]
    simp only [sc, List.getElem?_map, List.getElem?_eq_getElem hjl, Option.map_some, Option.some.injEq] at hj
    rw [← hj, List.getD_eq_getElem?_getD, List.getElem?_eq_getElem hjl]
    rfl
theorem RowS.nil {w : World} {a : Option Addr} {len cap : Nat} {ss : List ByteArray} (h : IsRowS w a len cap ss) : a = none → len = 0 ∧ cap = 0 := by
 intro ha
 rcases h with ⟨_, h1, h2, _⟩ | ⟨x, hx, _⟩
 · exact ⟨h1, h2⟩
 · rw [ha] at hx; cases hx
end Go.Proofs.YthfnphcefkdgbaaGreat
end
section
namespace Go.Proofs.YthfnphcefkdgbaaGreat
open Go.RowKit
def CellsAt (w : World) (a : Option Addr) (n : Nat) (cs : List Value) : Prop :=
 cs.length = n ∧ (n = 0 ∨ ∃ b off, a = some ⟨b, off, none⟩ ∧ b < w.heap.size ∧ ∀ j u, cs[j]? = some u → w.cell? ⟨b, off + j, none⟩ = some u)
theorem CellsAt.below {w w' : World} {a : Option Addr} {n : Nat} {cs : List Value} (h : CellsAt w a n cs) (hb : Below w.heap.size w w') : CellsAt w' a n cs := by
 refine ⟨h.1, ?_⟩
 rcases h.2 with h2 | ⟨b, off, rfl, hlt, hc⟩
 · exact Or.inl h2
 · exact Or.inr ⟨b, off, rfl, Nat.lt_of_lt_of_le hlt hb.size, fun j u hj => by rw [hb.cell hlt]; exact hc j u hj⟩
theorem cells_own {w : World} {B n : Nat} {e : TypeId} {v : Value} {xs : List Value} (h : w.ownsRow B e 1 v n xs) : ∃ a c, v = .slice a n c ∧ CellsAt w a n xs ∧ (a = none → n = 0 ∧ c = 0) := by
 have hl : xs.length = n := by have := h.1; omega
 rcases h.2 with ⟨rfl, rfl⟩ | ⟨g, cap, cur, rfl, hb, hg, rest⟩
 · exact ⟨none, 0, rfl, ⟨hl, Or.inl rfl⟩, fun _ => ⟨rfl, rfl⟩⟩
 · refine ⟨_, _, rfl, ⟨hl, Or.inr ⟨g, 0, rfl, (Array.getElem?_eq_some_iff.1 hg).1, fun j u hj => ?_⟩⟩, fun h => by cases h⟩
   have := h.cells (g := g) rfl j u hj
   rw [show (⟨g, 0, none⟩ : Addr).add j = ⟨g, 0 + j, none⟩ by simp only [Addr.add]; split <;> simp_all] at this
   exact this
theorem append_cells {w : World} {ops : Array Oper} {rest : List Oper} {o : Oper} {act : Act} {Q : Exit → Act → World → Prop} (hgd : o.guard = none) (s x : Operand) (t e : TypeId)
  (ho : o.op = .call { callee := .builtin .append, args := #[s, x], argTypes := #[t, t] })
  (i : TypeInfo) (z : Value) (bytes : Nat) (ht : Tryz.prog.underlying t = some (.slice e)) (hi : Tryz.prog.info? e = some i) (hz : i.zero = some z) (hsize : i.size = 1) (hby : i.bytes = bytes) (hzs : z.cells.size = 1)
  (B : Nat) (v : Value) (n : Nat) (xs : List Value) (hs : act.eval s = v) (hown : w.ownsRow B e 1 v n xs)
  (a : Option Addr) (len cap : Nat) (cs : List Value) (hx : act.eval x = .slice a len cap) (hn : a = none → len = 0 ∧ cap = 0) (hr : CellsAt w a len cs) (h1 : ∀ u ∈ cs, u.oneCell' = true)
  (hb : n + len ≤ 1000000) (hb2 : bytes ≤ 64) (hbase : B ≤ w.heap.size)
  (h : ∀ v' w', w'.ownsRow B e 1 v' (n + len) (xs ++ cs) → w.grownBy w' v.ownBlock → wpList Tryz.prog ops Q rest (act.put o.dst v') w') : wpList Tryz.prog ops Q (o :: rest) act w := by
 cases a with
 | none =>
  obtain ⟨rfl, rfl⟩ := hn rfl
  have hl : cs = [] := List.eq_nil_of_length_eq_zero hr.1
  subst hl
  refine wpList_append_own_none hgd s x t ho B e i 1 ht hi v n xs hs hown hx ?_
  refine h v w ?_ (World.grownBy.refl _ _)
  simpa using hown
 | some ad =>
  have hm : (n + len) * bytes ≤ 1000000 * 64 := Nat.mul_le_mul hb hb2
  refine wpList_append_own w hgd s x t ho B e i z 1 bytes ht hi hz hsize hby hzs (by decide) v n xs hs hown ad len cap cs hx (by rw [hr.1, Nat.mul_one]) ?_ h1 (by unfold maxLen; omega) (by omega) hbase (fun v' w' h1 h2 _ => h v' w' h1 h2)
  intro j u hj
  rcases hr.2 with h0 | ⟨b, off, hab, _, hc⟩
  · have h3 := hr.1
    have h4 := (List.getElem?_eq_some_iff.1 hj).1
    omega
  · simp only [Option.some.injEq] at hab
    subst hab
    rw [show (⟨b, off, none⟩ : Addr).add j = ⟨b, off + j, none⟩ by simp only [Addr.add]; split <;> simp_all]
    exact hc j u hj
theorem own_below' {w w' : World} {base : Nat} {e : TypeId} {size : Nat} {v : Value} {n : Nat} {xs : List Value} (h : w.ownsRow base e size v n xs) (hb : Below w.heap.size w w') : w'.ownsRow base e size v n xs :=
 h.kept (row := none) ⟨hb.os, hb.tape, hb.output, hb.size, fun k hk _ => hb.block k hk⟩ (by cases hv : v.ownBlock with
  | none => exact Or.inl rfl
  | some x => exact Or.inr (by simp))
end Go.Proofs.YthfnphcefkdgbaaGreat
end
section
namespace Go.Proofs.YthfnphcefkdgbaaGreat
open Go.RowKit
def Row (w : World) (a : Option Addr) (len : Nat) (l : List Int) : Prop :=
 l.length = len ∧ (len = 0 ∨ ∃ b off, a = some ⟨b, off, none⟩ ∧ b < w.heap.size ∧ ∀ j, j < len → w.cell? ⟨b, off + j, none⟩ = some (.int .i64 (l.getD j 0)))
theorem Row.below {w w' : World} {a : Option Addr} {len : Nat} {l : List Int} (h : Row w a len l) (hb : Below w.heap.size w w') : Row w' a len l := by
 obtain ⟨h1, h2⟩ := h
 refine ⟨h1, ?_⟩
 rcases h2 with h2 | ⟨b, off, rfl, hlt, hc⟩
 · exact Or.inl h2
 · refine Or.inr ⟨b, off, rfl, Nat.lt_of_lt_of_le hlt hb.size, fun j hj => ?_⟩
   rw [hb.cell hlt]
   exact hc j hj
theorem Row.of {w : World} {a : Option Addr} {len cap : Nat} {zs : List Int}
   (h : (a = none ∧ len = 0 ∧ cap = 0 ∧ zs = []) ∨ ∃ x, a = some x ∧ len ≤ cap ∧ cap ≤ maxLen ∧ zs.length = cap ∧ (∀ i, i < zs.length → w.cell? (x.add i) = some (.int .i64 (zs.getD i 0))) ∧ ∀ n ∈ zs, (Lit.int .i64 n).wf = true) :
   Row w a len (zs.take len) := by
 rcases h with ⟨rfl, rfl, rfl, rfl⟩ | ⟨x, rfl, hl, hm, hz, hcell, _⟩
 · exact ⟨rfl, Or.inl rfl⟩
 · refine ⟨by simp; omega, ?_⟩
   by_cases h0 : len = 0
   · exact Or.inl h0
   · right
     obtain ⟨b, off, spot⟩ := x
     have hc := hcell 0 (by omega)
     have hspot : spot = none := by simpa [Addr.add] using World.cell?_spot hc
     subst hspot
     refine ⟨b, off, rfl, ?_, fun j hj => ?_⟩
     · have := block_lt_of_cell hc
       simpa [Addr.add] using this
     · have := hcell j (by omega)
       have e : (⟨b, off, none⟩ : Addr).add j = ⟨b, off + j, none⟩ := by simp only [Addr.add]; split <;> simp_all
       rw [e] at this
       rw [this]
       simp [List.getD, hj]
theorem Row.nil {w : World} {a : Option Addr} {len cap : Nat} {zs : List Int}
   (h : (a = none ∧ len = 0 ∧ cap = 0 ∧ zs = []) ∨ ∃ x, a = some x ∧ len ≤ cap ∧ cap ≤ maxLen ∧ zs.length = cap ∧ (∀ i, i < zs.length → w.cell? (x.add i) = some (.int .i64 (zs.getD i 0))) ∧ ∀ n ∈ zs, (Lit.int .i64 n).wf = true) :
   a = none → len = 0 ∧ cap = 0 := by
 intro ha
 rcases h with ⟨_, h1, h2, _⟩ | ⟨x, hx, _⟩
 · exact ⟨h1, h2⟩
 · rw [ha] at hx; cases hx
end Go.Proofs.YthfnphcefkdgbaaGreat
end
