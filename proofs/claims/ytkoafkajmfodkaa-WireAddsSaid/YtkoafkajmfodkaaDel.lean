/- Is a record an OPT; slices.IndexFunc, slices.DeleteFunc at records, over whatever predicate. -/
import Derived.Test.YtkoafkajmfodkaaCct
import Derived.Test.YtkoafkajmfodkaaFew5
import Derived.Deep.RegionLaw
import Derived.Deep.AppendLies
import Derived.Deep.DeepCutAuto
import Derived.Shelf.Abstract
namespace Go.Proofs.Ytkoafkajmfodkaa
open Go.RowKit

def optB (r : R5) : Bool := r.k.t == 41
def optN (r : R5) : Bool := !(r.k.t == 41)
/-- A function of records that tells p, and only makes memory. -/
def Tells (f : FuncId) (p : R5 → Bool) : Prop := (∀ (args : Array Value) (w : World), (callFunc f args).run Try.prog w = .ok (.enter f args) w) ∧ ∀ (n : ByteArray) (t c u : Int) (d : ByteArray) (w : World), Calls Try.prog f #[.agg #[.string n, .int .i64 t, .int .i64 c, .int .i64 u, .string d]] w fun e w' => e = .returned (.bool (p ⟨⟨n, t, c⟩, u, d⟩)) ∧ Below w.heap.size w w'
set_option maxRecDepth 100000 in
theorem isOpt_any : Tells 83 optB := by
  refine ⟨enters_of Try.func83 (by kernel_rfl) rfl, ?_⟩
  intro n t c u d w
  go_enter Try.func83, Try.ntmps83
  go_wp2
  go_ret
  exact ⟨ret_bool rfl, (Below.refl _ _).alloc (Nat.le_refl _) _⟩
set_option maxRecDepth 100000 in
theorem notOpt_any : Tells 82 optN := by
  refine ⟨enters_of Try.func82 (by kernel_rfl) rfl, ?_⟩
  intro n t c u d w
  have HB := Lib.hid ((Below.refl w.heap.size w).alloc (Nat.le_refl _) (.cells #[.string n, .int .i64 t, .int .i64 c, .int .i64 u, .string d] 75))
  go_enter Try.func82, Try.ntmps82
  go_wp2_with fail
  refine (isOpt_any.2 _ _ _ _ _ _).mono ?_; rintro e w1 ⟨rfl, hb⟩
  have HB2 := Lib.hid (HB.out.trans (hb.mono HB.out.size))
  clear hb
  obtain ⟨x, hx⟩ : ∃ x, optB ⟨⟨n, t, c⟩, u, d⟩ = x := ⟨_, rfl⟩
  rw [hx]
  have HX := Lib.hid hx
  clear hx
  go_wp2
  go_ret
  exact ⟨ret_bool (by rw [← HX.out]; rfl), HB2.out⟩
/-- Where the first of which p holds stands. -/
def idxP (p : R5 → Bool) (l : List R5) : Int := if l.findIdx p < l.length then (l.findIdx p : Int) else -1
theorem none_till {p : R5 → Bool} {l : List R5} {k : Nat} (h : ∀ j r, j < k → l[j]? = some r → p r = false) (hk : k < l.length) (r : R5) (hr : l[k]? = some r) (hp : p r = true) : l.findIdx p = k := by
  have hk2 : l[k] = r := by rw [List.getElem?_eq_getElem hk] at hr; exact Option.some.inj hr
  rw [List.findIdx_eq hk]
  refine ⟨by rw [hk2]; exact hp, fun j hj => ?_⟩
  have := h j (l[j]'(by omega)) hj (List.getElem?_eq_getElem (by omega))
  simpa using this
theorem none_all {p : R5 → Bool} {l : List R5} (h : ∀ j r, j < l.length → l[j]? = some r → p r = false) : l.findIdx p = l.length := by
  rw [List.findIdx_eq_length]
  intro x hx
  obtain ⟨i, hi⟩ := List.getElem?_of_mem hx
  have hlt := (List.getElem?_eq_some_iff.1 hi).1
  exact h i x hlt hi

set_option maxRecDepth 100000 in
set_option maxHeartbeats 1600000 in
theorem indexRR (f : FuncId) (p : R5 → Bool) (hf : Tells f p) (a : Option Addr) (n c : Nat) (l : List R5) (w : World) (h : RowR w a n l) (hn : n ≤ 100000) :
    Calls Try.prog 104 #[.slice a n c, .func (.func f) #[] #[]] w fun e w' => e = .returned (.int .i64 (idxP p l)) ∧ Below w.heap.size w w' := by
  have HR := Lib.hid h
  have HF := Lib.hid hf.2
  have eg := hf.1
  have HL := Lib.hid h.1
  clear h hf
  go_enter Try.func104, Try.ntmps104
  go_wp2_with fail
  go_loopw [8] (fun i wr => ∃ k : Nat, k ≤ n ∧ i = .int .i64 k ∧ Hid (∀ j r, j < k → l[j]? = some r → p r = false) ∧ Hid (Below w.heap.size w wr)) (fun i _ => n - (intOf i).toNat)
  case atStart => exact ⟨0, Nat.zero_le _, rfl, (fun j r hj => absurd hj (by omega)), Below.refl _ _⟩
  case round =>
    obtain ⟨k, hk, rfl, ha, hbw⟩ := hrel
    by_cases hlt : k < n
    · obtain ⟨b, o, r, rfl, hbl, hr, c0, c1, c2, c3, c4⟩ := (HR.out.below hbw.out).at k hlt
      obtain ⟨⟨rn, rt, rc⟩, ru, rd⟩ := r
      replace c0 : wr.cell? ⟨b, o + k * 5, none⟩ = some (.string rn) := c0
      replace c1 : wr.cell? ⟨b, o + k * 5 + 1, none⟩ = some (.int .i64 rt) := c1
      replace c2 : wr.cell? ⟨b, o + k * 5 + 2, none⟩ = some (.int .i64 rc) := c2
      replace c3 : wr.cell? ⟨b, o + k * 5 + 3, none⟩ = some (.int .i64 ru) := c3
      replace c4 : wr.cell? ⟨b, o + k * 5 + 4, none⟩ = some (.string rd) := c4
      have HRK := Lib.hid hr
      clear hr
      go_wp2_with fail
      refine (HF.out rn rt rc ru rd _).mono ?_; rintro e w1 ⟨rfl, hb⟩
      have HB1 := Lib.hid (hbw.out.trans (hb.mono hbw.out.size))
      obtain ⟨x, hx⟩ : ∃ x, p ⟨⟨rn, rt, rc⟩, ru, rd⟩ = x := ⟨_, rfl⟩
      rw [hx]
      have HX := Lib.hid hx
      clear hx hb c0 c1 c2 c3 c4
      cases x with
      | true =>
        go_wp2
        go_ret
        refine ⟨ret_int ?_, HB1.out⟩
        have h1 := none_till ha.out (by have := HL.out; omega) _ HRK.out HX.out
        rw [idxP, h1, if_pos (by have := HL.out; omega)]
      | false =>
        have HA := Lib.hid (show ∀ j r, j < k + 1 → l[j]? = some r → p r = false from fun j r hj hjr => by
          rcases (by omega : j < k ∨ j = k) with h1 | rfl
          · exact ha.out j r h1 hjr
          · rw [HRK.out] at hjr
            rw [← Option.some.inj hjr]; exact HX.out)
        clear ha
        go_wp2
        go_roundw
        case rel => exact ⟨k + 1, by omega, by go_num, HA, HB1⟩
        case measure => simp [intOf]; omega
    · go_wp2
      go_ret
      refine ⟨ret_int ?_, hbw.out⟩
      have h1 := none_all (p := p) (l := l) (fun j r hj hr => ha.out j r (by have := HL.out; omega) hr)
      rw [idxP, h1, if_neg (by omega)]
end Go.Proofs.Ytkoafkajmfodkaa
