/- Texts that others rest on, one behind the other: ShE, ShF, ShG, CcB, ShH, ShI. -/
import Derived.Test.YtmhiglhgkgannaaMgI
import Derived.Test.YtmhiglhgkgannaaMgH
import Derived.Laws.CopyOwn
import Derived.Lib.AppendZerosOnto
import Derived.Test.YtmhiglhgkgannaaMgC
import Derived.Laws.OwnMore
section
namespace Go.Proofs.Ytmhiglhgkgannaa
open Go.RowKit

def rf (l : List UInt8) (j : Nat) : Int := ((l.getD j 0).toNat : Int)
theorem rf_rng (l : List UInt8) (j : Nat) : 0 ≤ rf l j ∧ rf l j < 256 := by
  have := (l.getD j 0).toNat_lt
  unfold rf
  omega
def sliceLen : Value → Nat
  | .slice _ n _ => n
  | _ => 0
/-- A State that was told these bytes. -/
def ShL (w : World) (q : Nat) (l : List UInt8) : Prop := ∃ rl : List UInt8, rl.length = 128 ∧ ShS w q (hsh l (l.length / 128)) (rf rl) (l.length : Int) ∧ rl.take (l.length % 128) = l.drop (128 * (l.length / 128))
theorem ShL.lt {w : World} {q : Nat} {l : List UInt8} (s : ShL w q l) : q < w.heap.size := by
  obtain ⟨_, _, s, _⟩ := s
  exact s.lt
theorem ShL.oth {w w' : World} {p q : Nat} {l : List UInt8} (s : ShL w p l) (g : Oth w w' q) (hp : p ≠ q) : ShL w' p l := by
  obtain ⟨rl, h1, h2, h3⟩ := s
  exact ⟨rl, h1, h2.oth g hp, h3⟩
theorem ShL.below {w w' : World} {q : Nat} {l : List UInt8} (s : ShL w q l) (g : Below w.heap.size w w') : ShL w' q l := by
  obtain ⟨rl, h1, h2, h3⟩ := s
  exact ⟨rl, h1, h2.below g, h3⟩
theorem ShS.len {w : World} {q : Nat} {h r : Nat → Int} {n : Int} (s : ShS w q h r n) (m : Int) : ShS (w.setCell ⟨q, 136, none⟩ (.int .i64 m)) q h r m := by
  obtain ⟨h1, h2, h3, h4⟩ := s
  refine ⟨fun j hj => ?_, fun j hj => ?_, World.cell?_setCell_same _ _ _ h3, by simpa using h4⟩
  · obtain ⟨a, b⟩ := h1 j hj
    refine ⟨?_, by simpa using b⟩
    rw [World.cell?_setCell_other _ _ _ _ (by intro e; injection e with _ e _; omega)]
    exact a
  · obtain ⟨a, b⟩ := h2 j hj
    refine ⟨?_, by simpa using b⟩
    rw [World.cell?_setCell_other _ _ _ _ (by intro e; injection e with _ e _; omega)]
    exact a
theorem rf_splice {rl x : List UInt8} {a : Nat} (ha : a + x.length ≤ rl.length) (j : Nat) : rf (splice rl a x) j = if a ≤ j ∧ j < a + x.length then rf x (j - a) else rf rl j := by
  simp only [rf, splice, List.getD_eq_getElem?_getD]
  by_cases h1 : j < a
  · rw [List.getElem?_append_left (by rw [List.length_take]; omega), List.getElem?_take, if_pos h1, if_neg (by omega)]
  · rw [List.getElem?_append_right (by rw [List.length_take]; omega), List.length_take, Nat.min_eq_left (by omega)]
    by_cases h2 : j < a + x.length
    · rw [List.getElem?_append_left (by omega), if_pos ⟨by omega, h2⟩]
    · rw [List.getElem?_append_right (by omega), List.getElem?_drop, if_neg (by omega)]
      rw [show a + x.length + (j - a - x.length) = j by omega]
theorem ShS.fill {w : World} {q : Nat} {h : Nat → Int} {rl x : List UInt8} {n : Int} (s : ShS w q h (rf rl) n) {a : Nat} (ha : a + x.length ≤ 128) (hl : rl.length = 128) : ShS (w.setCells q (8 + a) (bc x)) q h (rf (splice rl a x)) n := by
  obtain ⟨h1, h2, h3, h4⟩ := s
  have hx : (bc x).length = x.length := bc_length x
  refine ⟨fun j hj => ?_, fun j hj => ?_, ?_, by rw [World.frozen?_setCells]; exact h4⟩
  · obtain ⟨c, d⟩ := h1 j hj
    refine ⟨?_, by rw [World.frozen?_setCells]; exact d⟩
    rw [World.cell?_setCells_out q _ _ _ _ (fun _ _ => Or.inl (by simp; omega))]
    exact c
  · obtain ⟨c, d⟩ := h2 j hj
    refine ⟨?_, by rw [World.frozen?_setCells]; exact d⟩
    rw [rf_splice (by omega)]
    by_cases hin : a ≤ j ∧ j < a + x.length
    · rw [if_pos hin]
      have := World.cell?_setCells_in q (bc x) (8 + a) w (fun i hi => by
        have h5 := (h2 (a + i) (by omega)).1
        rw [show 8 + a + i = 8 + (a + i) by omega, h5]
        rfl) (j - a) (by omega)
      rw [show 8 + a + (j - a) = 8 + j by omega] at this
      rw [this]
      simp [bc, rf, List.getD_eq_getElem?_getD, List.getElem?_eq_getElem (show j - a < x.length by omega)]
    · rw [if_neg hin, World.cell?_setCells_out q _ _ _ _ (fun _ _ => by simp only [hx]; omega)]
      exact c
  · rw [World.cell?_setCells_out q _ _ _ _ (fun _ _ => Or.inr (by simp only [hx]; omega))]
    exact h3
/-- Bytes that fill no block. -/
theorem fill_part {rl l x : List UInt8} (hl : rl.length = 128) (ht : rl.take (l.length % 128) = l.drop (128 * (l.length / 128))) (hx : l.length % 128 + x.length < 128) :
    (splice rl (l.length % 128) x).length = 128 ∧ (l ++ x).length / 128 = l.length / 128 ∧ hsh (l ++ x) ((l ++ x).length / 128) = hsh l (l.length / 128) ∧ (splice rl (l.length % 128) x).take ((l ++ x).length % 128) = (l ++ x).drop (128 * ((l ++ x).length / 128)) := by
  have e1 : (l ++ x).length / 128 = l.length / 128 := by rw [List.length_append]; omega
  have e2 : (l ++ x).length % 128 = l.length % 128 + x.length := by rw [List.length_append]; omega
  refine ⟨by rw [length_splice _ _ _ (by omega)]; exact hl, e1, ?_, ?_⟩
  · rw [e1]; exact hsh_app l x _ (by omega)
  · rw [e1, e2, splice, ← List.append_assoc, List.take_append_of_le_length (by rw [List.length_append, List.length_take]; omega), List.take_of_length_le (by rw [List.length_append, List.length_take]; omega), ht, List.drop_append_of_le_length (by omega)]
/-- Bytes that fill a block. -/
theorem fill_all {rl l x : List UInt8} (hl : rl.length = 128) (ht : rl.take (l.length % 128) = l.drop (128 * (l.length / 128))) (hx : l.length % 128 + x.length = 128) :
    (splice rl (l.length % 128) x).length = 128 ∧ mixF (hsh l (l.length / 128)) (rf (splice rl (l.length % 128) x)) = hsh (l ++ x) ((l ++ x).length / 128) ∧ (splice rl (l.length % 128) x).take ((l ++ x).length % 128) = (l ++ x).drop (128 * ((l ++ x).length / 128)) := by
  have e1 : (l ++ x).length / 128 = l.length / 128 + 1 := by rw [List.length_append]; omega
  have e2 : (l ++ x).length % 128 = 0 := by rw [List.length_append]; omega
  have hs : splice rl (l.length % 128) x = (l ++ x).drop (128 * (l.length / 128)) := by
    rw [splice, List.drop_of_length_le (by omega), List.append_nil, ht, List.drop_append_of_le_length (by omega)]
  refine ⟨by rw [length_splice _ _ _ (by omega)]; exact hl, ?_, ?_⟩
  · rw [e1, hsh, hsh_app l x _ (by omega), hs]
    refine mixF_congr fun j _ => ?_
    simp only [rf, blk, List.getD_eq_getElem?_getD, List.getElem?_drop]
  · rw [e1, e2, List.take_zero, List.drop_of_length_le (by rw [List.length_append]; omega)]
/-- b[l:], wherever b lies. -/
theorem slice_rest (av : Option Addr) (n cap l : Nat) (hav : av = none → n = 0 ∧ cap = 0) (hsp : ∀ x, av = some x → n = 0 ∨ x.spot = none) (h1 : l ≤ n) (h2 : n ≤ cap) :
    ∃ ad : Option Addr, (∀ W, (Instr.slice 40 (.slice av n cap) (some (.int .i64 (l : Int))) none none).run Try.prog W = .ok (.slice ad (n - l) (cap - l)) W) ∧ (ad = none → n - l = 0 ∧ cap - l = 0) ∧ (l < n → ∀ β off, av = some ⟨β, off, none⟩ → ad = some ⟨β, off + l, none⟩) ∧ (∀ x, ad = some x → n - l = 0 ∨ x.spot = none) := by
  obtain ⟨i0, hi, hz0, hz1, hz2⟩ := info_parts infoU8
  have he : Try.prog.elem 40 = 5 := by simp [Program.elem, Try.underlying40]
  have hu : Try.prog.underlying 40 = some (.slice (Try.prog.elem 40)) := by rw [he]; exact Try.underlying40
  refine ⟨if cap = l then av else av.map (·.add (l * 1)), fun W => ?_, fun h3 => ?_, fun h3 β off h4 => ?_, fun x h3 => ?_⟩
  · rw [run_slice_l (P := Try.prog) (w := W) 40 av n cap hu .i64 (l : Int) (by omega) (by omega), he]
    simp [sizeOf, typeInfo, hi, hz1, Result.andThen, sliced]
  · cases av with
    | none => obtain ⟨a, b⟩ := hav rfl; omega
    | some y => split at h3 <;> simp at h3
  · subst h4
    rw [if_neg (by omega), Option.map_some, Addr.add_mid, Nat.mul_one]
  · by_cases h0 : n - l = 0
    · exact Or.inl h0
    right
    cases av with
    | none => obtain ⟨a, b⟩ := hav rfl; omega
    | some y =>
      rcases hsp y rfl with h4 | h4
      · omega
      obtain ⟨b, o, sp⟩ := y
      simp only at h4
      subst h4
      rw [if_neg (by omega), Option.map_some, Addr.add_mid] at h3
      have h5 := Option.some.inj h3
      subst h5
      rfl
theorem RowB.rest {w : World} {av ad : Option Addr} {n l : Nat} {k : List UInt8} (hr : RowB w av n k) (h1 : l ≤ n) (ha : l < n → ∀ β off, av = some ⟨β, off, none⟩ → ad = some ⟨β, off + l, none⟩) : RowB w ad (n - l) (k.drop l) := by
  have hl := hr.len
  by_cases h0 : n - l = 0
  · exact ⟨by rw [bc_length, List.length_drop]; omega, Or.inl h0⟩
  · obtain ⟨b, off, rfl, _, _⟩ := hr.at (by omega)
    have := RowB.part hr l n h1 (Nat.le_refl _) ad (fun hlt => ha hlt _ _ rfl)
    rwa [List.take_of_length_le (by rw [List.length_drop]; omega)] at this
theorem RowB.oth {w w' : World} {a : Option Addr} {n q : Nat} {l : List UInt8} (h : RowB w a n l) (g : Oth w w' q) (hq : ∀ b off, a = some ⟨b, off, none⟩ → n = 0 ∨ b ≠ q) : RowB w' a n l := by
  refine ⟨h.1, ?_⟩
  rcases h.2 with h0 | ⟨b, off, rfl, hlt, hc⟩
  · exact Or.inl h0
  · rcases hq b off rfl with h0 | hne
    · exact Or.inl h0
    · exact Or.inr ⟨b, off, rfl, Nat.lt_of_lt_of_le hlt g.size, fun j u hj => g.keeps (hc j u hj) hne⟩
/-- copy into the midst of a block. -/
theorem wpList_copy_mid {w : World} {ops : Array Oper} {rest : List Oper} {o : Oper} {a : Act} {Q : Exit → Act → World → Prop} (hgd : o.guard = none) (d s : Operand) (dT sT : TypeId)
    (ho : o.op = .call { callee := .builtin .copy, args := #[d, s], argTypes := #[dT, sT] }) (elem : TypeId) (hu : Try.prog.underlying dT = some (.slice elem)) (hsz : (Try.prog.info? elem).map (·.size) = some 1)
    (dp sp : Option Addr) (dLen dCap sLen sCap : Nat) (hd : a.eval d = .slice dp dLen dCap) (hs : a.eval s = .slice sp sLen sCap)
    (g off : Nat) (cs : List Value) (hn : cs.length = Nat.min sLen dLen)
    (hpos : 0 < cs.length → dp = some ⟨g, off, none⟩ ∧ ∃ ad, sp = some ad ∧ ∀ j v, cs[j]? = some v → w.cell? (ad.add j) = some v)
    (hc : ∀ j, j < cs.length → (w.cell? ⟨g, off + j, none⟩).isSome = true) (hf : ∀ j, j < cs.length → w.frozen? ⟨g, off + j, none⟩ = false) (h1 : ∀ v ∈ cs, v.oneCell' = true)
    (h : wpList Try.prog ops Q rest (a.put o.dst (goInt cs.length)) (w.setCells g off cs)) : wpList Try.prog ops Q (o :: rest) a w := by
  by_cases h0 : cs.length = 0
  · obtain rfl : cs = [] := List.eq_nil_of_length_eq_zero h0
    exact wpList_copy_nothing hgd d s dT sT ho elem hu hsz dp sp dLen dCap sLen sCap hd hs (by simpa using hn.symm) h
  · obtain ⟨rfl, ad, rfl, hsrc⟩ := hpos (by omega)
    have hrun := run_copy_cells (P := Try.prog) w dT sT o.type elem g off dLen dCap ad sLen sCap cs hu hsz hn hsrc hc hf h1
    refine wpList_plain hgd fun K hK => ?_
    unfold Oper.wp
    simp [execOp, ho, resolve, invoke, builtin, hd, hs, hrun, Result.andThen]
    exact hK _ _ h

theorem arr_rest (q a : Nat) (ha : a < 128) (W : World) : (Instr.sliceAt 82 (.pointer (some ⟨q, 8, none⟩)) (some (.int .i64 (a : Int))) none none).run Try.prog W = .ok (.slice (some ⟨q, 8 + a, none⟩) (128 - a) (128 - a)) W := by
  obtain ⟨i0, hi, hz0, hz1, hz2⟩ := info_parts infoU8
  have he : Try.prog.elem 82 = 5 := by simp [Program.elem, Try.underlying82]
  have hl : Try.prog.arrayLen 82 = 128 := by simp [Program.arrayLen, Try.underlying82]
  have hu : Try.prog.underlying 82 = some (.array (Try.prog.arrayLen 82) (Try.prog.elem 82)) := by rw [he, hl]; exact Try.underlying82
  rw [run_sliceAt_array_l (P := Try.prog) W 82 ⟨q, 8, none⟩ hu .i64 (a : Int) (by omega) (by rw [hl]; omega), he, hl]
  have h2 : (128 = a) = False := eq_false (by omega)
  simp [sizeOf, typeInfo, hi, hz1, Result.andThen, slicedAt, h2, Addr.add_mid]

set_option maxRecDepth 100000 in
set_option maxHeartbeats 4000000 in
theorem write_any (q : Nat) (l : List UInt8) (ba : Option Addr) (n c : Nat) (bl : List UInt8) (w : World) (hs : ShL w q l) (hr : RowB w ba n bl) (hn : ba = none → n = 0 ∧ c = 0) (hc : n ≤ c) (hsp : ∀ x, ba = some x → n = 0 ∨ x.spot = none) (hfar : ∀ b off, ba = some ⟨b, off, none⟩ → n = 0 ∨ b ≠ q) (hsz : l.length + n ≤ 1000000000) :
    Calls Try.prog 56 #[.pointer (some ⟨q, 0, none⟩), .slice ba n c] w fun e w' => e = .returned (.tuple #[]) ∧ ShL w' q (l ++ bl) ∧ Oth w w' q := by
  have HBL := Lib.hid hr.len
  have HS := Lib.hid hs
  have HR := Lib.hid hr
  have HN := Lib.hid hn
  have HP := Lib.hid hsp
  have HF := Lib.hid hfar
  clear hs hr hn hsp hfar
  go_enter Try.func56, Try.ntmps56
  go_wp2_with fail
  go_loopw [1] (fun v wr => ∃ (k m cm : Nat) (ad : Option Addr), k ≤ n ∧ Hid (m = n - k) ∧ v = .slice ad m cm ∧ m ≤ cm ∧ Hid (ShL wr q (l ++ bl.take k)) ∧ Hid (RowB wr ad m (bl.drop k)) ∧ Hid (ad = none → m = 0 ∧ cm = 0) ∧ Hid (∀ x, ad = some x → m = 0 ∨ x.spot = none) ∧ Hid (∀ b off, ad = some ⟨b, off, none⟩ → m = 0 ∨ b ≠ q) ∧ Hid (Oth w wr q)) (fun v _ => sliceLen v)
  case atStart => exact ⟨0, n, c, ba, Nat.zero_le _, rfl, rfl, hc, Lib.hid (by rw [List.take_zero, List.append_nil]; exact HS.out), HR, HN, HP, HF, Oth.refl _ _⟩
  case round =>
    clear HS HR HN HP HF
    obtain ⟨k, m, cm, ad, hk, hm, rfl, hcm, HS, HR, HN, HP, HF, HO⟩ := hrel
    by_cases hlt : 0 < m
    · obtain ⟨rl, hrl, hss, htk⟩ := HS.out
      obtain ⟨L, hL⟩ : ∃ x, l ++ bl.take k = x := ⟨_, rfl⟩
      rw [hL] at hss htk
      have HLE := Lib.hid hL
      have HTK := Lib.hid htk
      have HRL := Lib.hid hrl
      have HSS := Lib.hid hss
      obtain ⟨N, hN⟩ : ∃ x, L.length = x := ⟨_, rfl⟩
      have c136 := hss.2.2.1
      have f136 := hss.2.2.2
      rw [hN] at c136
      clear hL hss htk hrl hN
      obtain ⟨a, ha⟩ : ∃ x, N % 128 = x := ⟨_, rfl⟩
      have ham : (N : Int) % 128 = (a : Int) := by omega
      have hal : a < 128 := by omega
      obtain ⟨mm, hmm⟩ : ∃ x, Nat.min m (128 - a) = x := ⟨_, rfl⟩
      have hmm1 : mm ≤ m := by rw [← hmm]; exact Nat.min_le_left _ _
      have hmm2 : mm ≤ 128 - a := by rw [← hmm]; exact Nat.min_le_right _ _
      have hmm3 : mm = m ∨ mm = 128 - a := by rw [← hmm]; simp only [Nat.min_def]; split <;> simp
      obtain ⟨x, hx⟩ : ∃ y, (bl.drop k).take mm = y := ⟨_, rfl⟩
      have hxl : x.length = mm := by rw [← hx, List.length_take, List.length_drop, HBL.out]; have := hm.out; omega
      have hLx : L ++ x = l ++ bl.take (k + mm) := by rw [← HLE.out, ← hx, List.take_add, List.append_assoc]
      have hkm : k + mm ≤ n := by have := hm.out; omega
      have HKM := Lib.hid hkm
      have hLn : L.length = N := by have := HSS.out.2.2.1; rw [c136] at this; injection this with this; injection this with _ this; omega
      have hNb : N + mm ≤ 1000000000 := by rw [← hLn, ← HLE.out, List.length_append, List.length_take, HBL.out]; have := hm.out; omega
      have hsl : ∀ W, (Instr.sliceAt 82 (.pointer (some ⟨q, 8, none⟩)) (some (.int .i64 (a : Int))) none none).run Try.prog W = .ok (.slice (some ⟨q, 8 + a, none⟩) (128 - a) (128 - a)) W := arr_rest q a hal
      obtain ⟨ad2, hsl2, hn2, ha2, hsp2⟩ := slice_rest ad m cm mm HN.out HP.out hmm1 hcm
      obtain ⟨m2, hm2⟩ : ∃ y, m - mm = y := ⟨_, rfl⟩
      obtain ⟨cm2, hcm2⟩ : ∃ y, cm - mm = y := ⟨_, rfl⟩
      obtain ⟨ra, hra⟩ : ∃ y, 128 - a = y := ⟨_, rfl⟩
      have hR2 := HR.out.rest hmm1 ha2
      rw [List.drop_drop, hm2] at hR2
      rw [hm2, hcm2] at hsl2 hn2
      rw [hm2] at hsp2
      rw [hra] at hsl hmm hmm2 hmm3
      have HF2 := Lib.hid (show ∀ b off, ad2 = some ⟨b, off, none⟩ → m2 = 0 ∨ b ≠ q from fun b off e => by
        by_cases h0 : m2 = 0
        · exact Or.inl h0
        right
        obtain ⟨β, o', hav, _, _⟩ := HR.out.at hlt
        have e2 := ha2 (by omega) β o' hav
        rw [e2] at e
        injection e with e
        injection e with e3 _
        rcases HF.out β o' hav with h1 | h1
        · omega
        · omega)
      have hss2 := HSS.out.fill (a := a) (x := x) (by omega) HRL.out
      have HO2 := HO.out.sets (8 + a) (bc x)
      have hOr := (Oth.refl wr q).sets (8 + a) (bc x)
      have HCL := Lib.hid (show goInt (bc x).length = .int .i64 (mm : Int) by rw [bc_length, hxl]; rfl)
      have HCN := Lib.hid (show (bc x).length = Nat.min m ra by rw [bc_length, hxl, hmm])
      have HPOS := Lib.hid (show 0 < (bc x).length → (some ⟨q, 8 + a, none⟩ : Option Addr) = some ⟨q, 8 + a, none⟩ ∧ ∃ ad', ad = some ad' ∧ ∀ j v, (bc x)[j]? = some v → wr.cell? (ad'.add j) = some v from fun _ => by
        refine ⟨rfl, ?_⟩
        rcases HR.out.2 with h1 | ⟨b, o', rfl, _, hc⟩
        · omega
        · refine ⟨_, rfl, fun j v hv => ?_⟩
          rw [Addr.add_mid]
          refine hc j v ?_
          rw [← hx, bc, List.getElem?_map, List.getElem?_take] at hv
          split at hv
          · rw [bc, List.getElem?_map]; exact hv
          · simp at hv)
      have HC1 := Lib.hid (show ∀ j, j < (bc x).length → (wr.cell? ⟨q, 8 + a + j, none⟩).isSome = true from fun j hj => by
        rw [bc_length] at hj
        rw [Nat.add_assoc, (HSS.out.2.1 (a + j) (by omega)).1]; rfl)
      have HC2 := Lib.hid (show ∀ j, j < (bc x).length → wr.frozen? ⟨q, 8 + a + j, none⟩ = false from fun j hj => by
        rw [bc_length] at hj
        rw [Nat.add_assoc]; exact (HSS.out.2.1 (a + j) (by omega)).2)
      have HX1 := Lib.hid (bc_oneCell x)
      obtain ⟨w2, hw2⟩ : ∃ y, wr.setCells q (8 + a) (bc x) = y := ⟨_, rfl⟩
      rw [hw2] at hss2 HO2 hOr
      have HOR2 := Lib.hid hOr
      clear hOr
      have HW2 := Lib.hid hw2
      have HS2 := Lib.hid hss2
      have HOO2 := Lib.hid HO2
      have hcc := hss2.2.2.1
      have hff := hss2.2.2.2
      rw [hLn] at hcc
      have HR2 := Lib.hid hR2
      have HN2 := Lib.hid hn2
      have HP2 := Lib.hid hsp2
      have HM2 := Lib.hid (show m2 = n - (k + mm) by have := hm.out; omega)
      have hcm3 : m2 ≤ cm2 := by omega
      have HME := Lib.hid (show m2 < m by rcases hmm3 with h | h <;> omega)
      have HXL := Lib.hid hxl
      have HLX := Lib.hid hLx
      have HAE := Lib.hid ha
      have HLN := Lib.hid hLn
      have HMM := Lib.hid (show a + mm ≤ 128 by omega)
      clear hx hxl hLx hLn hm2 hcm2 hra hR2 hn2 hsp2 ha2 hss2 HO2 hw2 hmm hmm3 ha hkm hmm2
      have HAM := Lib.hid ham
      clear ham
      go_upto_region 2 with (fail)
      rw [HAM.out]
      clear HAM c136 f136
      go_upto_region 3 with (refine wpList_copy_mid rfl (.tmp 18) (.tmp 19) 40 40 rfl 5 Try.underlying40 (by kernel_rfl) _ _ ra ra m cm rfl rfl q (8 + a) (bc x) HCN.out HPOS.out HC1.out HC2.out HX1.out ?_; rw [HCL.out, HW2.out])
      clear hsl
      go_upto_region 4 with (fail)
      have HS3 := Lib.hid (HS2.out.len ((N : Int) + (mm : Int)))
      have HOO3 := Lib.hid (HOO2.out.set 136 (.int .i64 ((N : Int) + (mm : Int))))
      have HOR3 := Lib.hid (HOR2.out.set 136 (.int .i64 ((N : Int) + (mm : Int))))
      go_upto_region 5 with (fail)
      obtain ⟨w3, hw3⟩ : ∃ y, w2.setCell ⟨q, 136, none⟩ (.int .i64 ((N : Int) + (mm : Int))) = y := ⟨_, rfl⟩
      rw [hw3] at HS3 HOO3 HOR3 ⊢
      clear hw3 hcc hff hsl2
      have HTA := Lib.hid (show rl.take (L.length % 128) = L.drop (128 * (L.length / 128)) from HTK.out)
      by_cases hfull : a + mm = 128
      · have hfu := fill_all (x := x) HRL.out HTA.out (by rw [HLN.out, HAE.out, HXL.out]; exact hfull)
        rw [HLN.out, HAE.out] at hfu
        have HFU := Lib.hid hfu
        have d1 : ((a : Int) + (mm : Int) == 128) = true := eT (by omega)
        have HS4 := Lib.hid (show ShS w3 q (hsh L (N / 128)) (rf (splice rl a x)) ((N : Int) + (mm : Int)) from by rw [← HLN.out]; rw [HLN.out]; have := HS3.out; rw [HLN.out] at this; exact this)
        have HEX := Lib.hid (show mixF (hsh L (N / 128)) (rf (splice rl a x)) = hsh (L ++ x) ((L ++ x).length / 128) from HFU.out.2.1)
        have HCX := Lib.hid (show ((L ++ x).length : Int) = (N : Int) + (mm : Int) by rw [List.length_append, HLN.out, HXL.out]; omega)
        clear hfu HS3 HS2 HSS HS
        go_wp2_with fail
        refine (mix_any q _ _ _ _ HS4.out (rf_rng _)).mono ?_; rintro e w5 ⟨rfl, hs5, ho5⟩
        have HL5 := Lib.hid (show ShL w5 q (l ++ bl.take (k + mm)) from by
          rw [← HLX.out]
          exact ⟨_, HFU.out.1, by rw [← HEX.out, HCX.out]; exact hs5, HFU.out.2.2⟩)
        have HO5 := Lib.hid (HOO3.out.trans ho5)
        have HR5 := Lib.hid (HR2.out.oth (HOR3.out.trans ho5) HF2.out)
        clear hs5 ho5 HS4
        go_wp2
        go_roundw
        case rel => exact ⟨k + mm, m2, cm2, ad2, HKM.out, HM2, rfl, hcm3, HL5, HR5, HN2, HP2, HF2, HO5⟩
        case measure =>
          simp only [sliceLen]
          exact HME.out
      · have hmn : a + mm < 128 := by have := HMM.out; omega
        have hfu := fill_part (x := x) HRL.out HTA.out (by rw [HLN.out, HAE.out, HXL.out]; exact hmn)
        rw [HLN.out, HAE.out] at hfu
        have d1 : ((a : Int) + (mm : Int) == 128) = false := eF (by omega)
        have HL5 := Lib.hid (show ShL w3 q (l ++ bl.take (k + mm)) from by
          rw [← HLX.out]
          refine ⟨_, hfu.1, ?_, hfu.2.2.2⟩
          have h3 := HS3.out
          rw [HLN.out] at h3
          rw [hfu.2.2.1, show ((L ++ x).length : Int) = (N : Int) + (mm : Int) by rw [List.length_append, HLN.out, HXL.out]; omega]
          exact h3)
        have HR5 := Lib.hid (HR2.out.oth HOR3.out HF2.out)
        clear hfu HS3 HS2 HSS HS hfull
        go_wp2
        go_roundw
        case rel => exact ⟨k + mm, m2, cm2, ad2, HKM.out, HM2, rfl, hcm3, HL5, HR5, HN2, HP2, HF2, HOO3⟩
        case measure =>
          simp only [sliceLen]
          exact HME.out
    · have hm0 : m = 0 := by omega
      have HSF := Lib.hid (show ShL wr q (l ++ bl) from by
        have h1 := HS.out
        have h2 := hm.out
        rwa [List.take_of_length_le (by rw [HBL.out]; omega)] at h1)
      subst hm0
      clear HS HR HN HP HF hlt
      go_wp2
      refine bodyPost_end (v := .tuple #[]) (by simp [results, Try.results56, go_sem]) rfl ⟨rfl, HSF.out, HO.out⟩
end Go.Proofs.Ytmhiglhgkgannaa
end

section
namespace Go.Proofs.Ytmhiglhgkgannaa
open Go.RowKit

/-- The cells of a State. -/
def shC (h r : Nat → Int) (n : Int) : List Value := arL .u64 8 h ++ (arL .u8 128 r ++ [.int .i64 n])
theorem shC_length (h r : Nat → Int) (n : Int) : (shC h r n).length = 137 := by simp [shC, arL_length]
theorem shC_at {h r : Nat → Int} {n : Int} {j : Nat} (hj : j < 137) : (shC h r n)[j]? = some (if j < 8 then .int .u64 (h j) else if j < 136 then .int .u8 (r (j - 8)) else .int .i64 n) := by
  unfold shC
  by_cases h1 : j < 8
  · rw [List.getElem?_append_left (by rw [arL_length]; exact h1), arL_get h1, if_pos h1]
  · rw [List.getElem?_append_right (by rw [arL_length]; omega), arL_length, if_neg h1]
    by_cases h2 : j < 136
    · rw [List.getElem?_append_left (by rw [arL_length]; omega), arL_get (by omega), if_pos h2]
    · have : j = 136 := by omega
      subst this
      rw [List.getElem?_append_right (by rw [arL_length]; omega), arL_length, if_neg h2]
      rfl
theorem ShS.range {w : World} {q : Nat} {h r : Nat → Int} {n : Int} (s : ShS w q h r n) : w.rangeAt q 0 (shC h r n) := by
  intro j v hv
  have hj : j < 137 := by have := (List.getElem?_eq_some_iff.1 hv).1; rwa [shC_length] at this
  rw [shC_at hj] at hv
  obtain ⟨h1, h2, h3, h4⟩ := s
  rw [Nat.zero_add]
  by_cases e1 : j < 8
  · rw [if_pos e1] at hv
    have := (h1 j e1).1
    rw [Nat.zero_add] at this
    rw [this, hv]
  · rw [if_neg e1] at hv
    by_cases e2 : j < 136
    · rw [if_pos e2] at hv
      have := (h2 (j - 8) (by omega)).1
      rw [show 8 + (j - 8) = j by omega] at this
      rw [this, hv]
    · rw [if_neg e2] at hv
      rw [show j = 136 by omega, h3, hv]
theorem ShS.of {w : World} {q : Nat} {h r : Nat → Int} {n : Int} (hr : w.rangeAt q 0 (shC h r n)) (hf : ∀ j, j < 137 → w.frozen? ⟨q, j, none⟩ = false) : ShS w q h r n := by
  refine ⟨fun j hj => ?_, fun j hj => ?_, ?_, hf 136 (by omega)⟩
  · refine ⟨?_, hf _ (by omega)⟩
    have := hr j (.int .u64 (h j)) (by rw [shC_at (by omega), if_pos hj])
    exact this
  · refine ⟨?_, hf _ (by omega)⟩
    have := hr (8 + j) (.int .u8 (r j)) (by rw [shC_at (by omega), if_neg (by omega), if_pos (by omega), show 8 + j - 8 = j by omega])
    rwa [Nat.zero_add] at this
  · have := hr 136 (.int .i64 n) (by rw [shC_at (by omega)]; rfl)
    rwa [Nat.zero_add] at this
theorem shC_one (h r : Nat → Int) (n : Int) : (shC h r n).toArray.all (·.oneCell') = true := by
  refine all_oneCell_toArray ?_
  intro v hv
  obtain ⟨j, hj, e⟩ := List.mem_iff_getElem.1 hv
  have h1 : (shC h r n)[j]? = some v := by rw [List.getElem?_eq_getElem hj, e]
  rw [shC_at (by rw [shC_length] at hj; exact hj)] at h1
  injection h1 with h1
  rw [← h1]
  split
  · rfl
  · split <;> rfl
theorem shS_new (w : World) (T : TypeId) (h r : Nat → Int) (n : Int) : ShS (w.alloc (.cells (shC h r n).toArray T)) w.heap.size h r n := by
  refine ShS.of (fun j v hv => ?_) (fun j hj => by rw [World.frozen?_alloc_new])
  rw [World.cell?_alloc_new, Nat.zero_add, List.getElem?_toArray]
  exact hv
set_option maxRecDepth 100000 in
theorem sha_built : Try.prog.built 84 [(0, .agg (arL .u64 8 iniF).toArray)] = some (shC iniF (fun _ => 0) 0).toArray := by kernel_rfl
set_option maxRecDepth 100000 in
theorem zeroSha : Try.zeroCells84 = (shC (fun _ => 0) (fun _ => 0) 0).toArray := by kernel_rfl

/-- Slices of slices that lie apart from a block. -/
def FarC (w : World) (q : Nat) (a : Option Addr) (n : Nat) (M : List (List UInt8)) : Prop :=
  ∃ cs, CellsAt w a n cs ∧ (∀ b off, a = some ⟨b, off, none⟩ → n = 0 ∨ b ≠ q) ∧ M.length = n ∧ ∀ j u, cs[j]? = some u → ValC w u (M.getD j []) ∧ ∀ b off l c, u = .slice (some ⟨b, off, none⟩) l c → l = 0 ∨ b ≠ q
theorem FarC.at {w : World} {q : Nat} {a : Option Addr} {n : Nat} {M : List (List UInt8)} (h : FarC w q a n M) (j : Nat) (hj : j < n) : ∃ b off ai ci, a = some ⟨b, off, none⟩ ∧ b < w.heap.size ∧ w.cell? ⟨b, off + j, none⟩ = some (.slice ai (M.getD j []).length ci) ∧ (M.getD j []).length ≤ ci ∧ RowB w ai (M.getD j []).length (M.getD j []) ∧ (ai = none → (M.getD j []).length = 0 ∧ ci = 0) ∧ (∀ x, ai = some x → (M.getD j []).length = 0 ∨ x.spot = none) ∧ (∀ b off, ai = some ⟨b, off, none⟩ → (M.getD j []).length = 0 ∨ b ≠ q) := by
  obtain ⟨cs, h1, h4, h2, h3⟩ := h
  have hl := h1.1
  rcases h1.2 with h0 | ⟨b, off, rfl, hlt, hc⟩
  · omega
  · obtain ⟨u, hu⟩ : ∃ u, cs[j]? = some u := ⟨cs[j]'(by omega), List.getElem?_eq_getElem (by omega)⟩
    obtain ⟨⟨ai, ci, rfl, hm, hr, hn⟩, hq⟩ := h3 j u hu
    refine ⟨b, off, ai, ci, rfl, hlt, hc j _ hu, hm, hr, hn, fun x hx => ?_, fun b' o' e => hq b' o' _ _ (by rw [e])⟩
    by_cases h0 : (M.getD j []).length = 0
    · exact Or.inl h0
    · obtain ⟨b2, o2, e2, _⟩ := hr.at (by omega)
      rw [e2] at hx
      injection hx with hx
      exact Or.inr (by rw [← hx])
theorem FarC.oth {w w' : World} {q : Nat} {a : Option Addr} {n : Nat} {M : List (List UInt8)} (h : FarC w q a n M) (g : Oth w w' q) : FarC w' q a n M := by
  obtain ⟨cs, h1, h4, h2, h3⟩ := h
  refine ⟨cs, ⟨h1.1, ?_⟩, h4, h2, fun j u hj => ?_⟩
  · rcases h1.2 with h0 | ⟨b, off, rfl, hlt, hc⟩
    · exact Or.inl h0
    · rcases h4 b off rfl with h0 | hne
      · exact Or.inl h0
      · exact Or.inr ⟨b, off, rfl, Nat.lt_of_lt_of_le hlt g.size, fun j u hj => g.keeps (hc j u hj) hne⟩
  · obtain ⟨⟨ai, ci, rfl, hm, hr, hn⟩, hq⟩ := h3 j u hj
    exact ⟨⟨ai, ci, rfl, hm, hr.oth g (fun b off e => hq b off _ _ (by rw [e])), hn⟩, hq⟩
theorem ValC.lt {w : World} {u : Value} {m : List UInt8} (h : ValC w u m) : ∀ b off l c, u = .slice (some ⟨b, off, none⟩) l c → l = 0 ∨ b < w.heap.size := by
  intro b off l c e
  have := h.b.lt ⟨b, off, none⟩ l c e
  exact this
theorem FarC.of {w0 w : World} {q : Nat} {a : Option Addr} {n : Nat} {M : List (List UInt8)} (h : RowBC w0 a n M) (hb : Below w0.heap.size w0 w) (hq : w0.heap.size ≤ q) : FarC w q a n M := by
  obtain ⟨cs, h1, h2, h3⟩ := h
  refine ⟨cs, h1.below hb, fun b off e => ?_, h2, fun j u hj => ⟨(h3 j u hj).below hb, fun b off l c e => ?_⟩⟩
  · rcases h1.2 with h0 | ⟨b', o', e', hlt, _⟩
    · exact Or.inl h0
    · rw [e] at e'; injection e' with e'; injection e' with e1 _
      exact Or.inr (by omega)
  · rcases (h3 j u hj).lt b off l c e with h0 | h0
    · exact Or.inl h0
    · exact Or.inr (by omega)
/-- A literal of one slice. -/
theorem FarC.one {w : World} {q : Nat} {u : Value} {m : List UInt8} (h : ValC w u m) (hu : ∀ b off l c, u = .slice (some ⟨b, off, none⟩) l c → l = 0 ∨ b ≠ q) (hq : q < w.heap.size) (H : Nat) (hH : H = w.heap.size) : FarC (w.alloc (.cells #[u] 40)) q (some ⟨H, 0, none⟩) 1 [m] := by
  subst hH
  have hb := (Below.refl w.heap.size w).alloc (Nat.le_refl _) (.cells #[u] 40)
  refine ⟨[u], ⟨rfl, Or.inr ⟨w.heap.size, 0, rfl, by simp, fun j v hj => ?_⟩⟩, fun b off e => ?_, rfl, fun j v hj => ?_⟩
  · have hj2 : j < 1 := (List.getElem?_eq_some_iff.1 hj).1
    have : j = 0 := by omega
    subst this
    simp at hj; subst hj
    simp [World.cell?_alloc_at]
  · injection e with e; injection e with e _
    exact Or.inr (by omega)
  · have hj2 : j < 1 := (List.getElem?_eq_some_iff.1 hj).1
    have : j = 0 := by omega
    subst this
    simp at hj; subst hj
    exact ⟨h.below hb, hu⟩
theorem flat_le (M : List (List UInt8)) (k : Nat) : (M.take k).flatten.length ≤ M.flatten.length := by
  have h : M.flatten = (M.take k).flatten ++ (M.drop k).flatten := by rw [← List.flatten_append, List.take_append_drop]
  rw [h, List.length_append]; omega
theorem flat_next {M : List (List UInt8)} {k : Nat} (hk : k < M.length) : (M.take (k + 1)).flatten = (M.take k).flatten ++ M.getD k [] := by
  rw [List.take_succ_eq_append_getElem hk, List.flatten_append, List.getD_eq_getElem?_getD, List.getElem?_eq_getElem hk]
  simp

set_option maxRecDepth 100000 in
set_option maxHeartbeats 4000000 in
theorem writes_any (q : Nat) (l : List UInt8) (a : Option Addr) (n c : Nat) (M : List (List UInt8)) (w : World) (hs : ShL w q l) (hf : FarC w q a n M) (hn : n ≤ 1000000) (hsz : l.length + M.flatten.length ≤ 1000000000) :
    Calls Try.prog 38 #[.pointer (some ⟨q, 0, none⟩), .slice a n c] w fun e w' => e = .returned (.tuple #[]) ∧ ShL w' q (l ++ M.flatten) ∧ Oth w w' q := by
  have HML := Lib.hid (show M.length = n from hf.choose_spec.2.2.1)
  have HS := Lib.hid hs
  have HF := Lib.hid hf
  clear hs hf
  go_enter Try.func38, Try.ntmps38
  go_wp2_with fail
  go_loopw [8] (fun i wr => ∃ k : Nat, k ≤ n ∧ i = .int .i64 k ∧ Hid (ShL wr q (l ++ (M.take k).flatten)) ∧ Hid (FarC wr q a n M) ∧ Hid (Oth w wr q)) (fun i _ => n - (intOf i).toNat)
  case atStart => exact ⟨0, Nat.zero_le _, rfl, Lib.hid (by rw [List.take_zero, List.flatten_nil, List.append_nil]; exact HS.out), HF, Lib.hid (Oth.refl _ _)⟩
  case round =>
    clear HS HF
    obtain ⟨k, hk, rfl, HS, HF, HO⟩ := hrel
    by_cases hlt : k < n
    · obtain ⟨b1, o1, ai, ci, rfl, hbl1, c0, hci, r1, n1, s1, q1⟩ := HF.out.at k hlt
      have hnx := flat_next (M := M) (k := k) (by rw [HML.out]; exact hlt)
      have hle := flat_le M (k + 1)
      obtain ⟨m, hm⟩ : ∃ m, M.getD k [] = m := ⟨_, rfl⟩
      rw [hm] at c0 hci r1 n1 s1 q1 hnx
      have HR := Lib.hid r1
      have HN := Lib.hid n1
      have HP := Lib.hid s1
      have HQ := Lib.hid q1
      have HX := Lib.hid (show (l ++ (M.take k).flatten) ++ m = l ++ (M.take (k + 1)).flatten by rw [hnx, List.append_assoc])
      have hsm : (l ++ (M.take k).flatten).length + m.length ≤ 1000000000 := by rw [hnx, List.length_append] at hle; rw [List.length_append]; omega
      have HK := Lib.hid hlt
      obtain ⟨s, hs2⟩ : ∃ s, m.length = s := ⟨_, rfl⟩
      rw [hs2] at c0 hci HR HN HP HQ hsm
      clear r1 n1 s1 q1 hm hnx hle hs2
      go_wp2_with fail
      refine (write_any q _ ai s ci m _ HS.out HR.out HN.out hci HP.out HQ.out hsm).mono ?_; rintro e w2 ⟨rfl, hs3, ho3⟩
      have HS3 := Lib.hid (show ShL w2 q (l ++ (M.take (k + 1)).flatten) by rw [← HX.out]; exact hs3)
      have HO3 := Lib.hid (HO.out.trans ho3)
      have HF3 := Lib.hid (HF.out.oth ho3)
      clear hs3 ho3 HS HO HF
      go_wp2
      go_roundw
      case rel => exact ⟨k + 1, HK.out, by go_num, HS3, HF3, HO3⟩
      case measure =>
        simp only [intOf]
        have := HK.out
        omega
    · have hkn : k = n := by omega
      have HSF := Lib.hid (show ShL wr q (l ++ M.flatten) from by
        have h1 := HS.out
        rwa [List.take_of_length_le (by rw [HML.out, hkn]; exact Nat.le_refl _)] at h1)
      subst hkn
      clear HS HF
      go_wp2
      refine bodyPost_end (v := .tuple #[]) (by simp [results, Try.results38, go_sem]) rfl ⟨rfl, HSF.out, HO.out⟩
end Go.Proofs.Ytmhiglhgkgannaa
end

section
namespace Go.Proofs.Ytmhiglhgkgannaa
open Go.RowKit

set_option maxRecDepth 100000 in
theorem new_lit : List.foldl (fun (cs : Array Value) (x : Value × Nat) => cs.setIfInBounds x.snd x.fst) Try.zeroCells84 (arL .u64 8 iniF).zipIdx = (shC iniF (rf (List.replicate 128 0)) 0).toArray := by kernel_rfl
set_option maxRecDepth 100000 in
set_option maxHeartbeats 4000000 in
theorem new_any (w : World) : Calls Try.prog 35 #[] w fun e w' => ∃ q, e = .returned (.pointer (some ⟨q, 0, none⟩)) ∧ w.heap.size ≤ q ∧ ShL w' q [] ∧ Below w.heap.size w w' := by
  go_enter Try.func35, Try.ntmps35
  go_wp2_with fail
  refine (first_any _).mono ?_; rintro e w1 ⟨rfl, hb⟩
  have HB := Lib.hid hb
  clear hb
  go_wp2_with fail
  rw [new_lit]
  have hs := shS_new w1 84 iniF (rf (List.replicate 128 0)) 0
  refine bodyPost_ret (v := .pointer (some ⟨w1.heap.size, 0, none⟩)) (by simp [results, Try.results35, go_sem]) rfl ⟨w1.heap.size, rfl, HB.out.size, ⟨List.replicate 128 0, List.length_replicate, hs, rfl⟩, HB.out.alloc HB.out.size _⟩
set_option maxRecDepth 100000 in
set_option maxHeartbeats 4000000 in
theorem shaCopy_any (q : Nat) (l : List UInt8) (w : World) (hs : ShL w q l) : Calls Try.prog 57 #[.pointer (some ⟨q, 0, none⟩)] w fun e w' => ∃ p, e = .returned (.pointer (some ⟨p, 0, none⟩)) ∧ w.heap.size ≤ p ∧ ShL w' p l ∧ Below w.heap.size w w' := by
  obtain ⟨rl, hl, hss, ht⟩ := hs
  have HS := Lib.hid hss
  have HZ := Lib.hid zeroSha
  have hz := shS_new w 84 (fun _ => 0) (fun _ => 0) 0
  rw [← zeroSha] at hz
  have hbz := (Below.refl w.heap.size w).alloc (Nat.le_refl _) (.cells Try.zeroCells84 84)
  obtain ⟨C, hC⟩ : ∃ x, shC (hsh l (l.length / 128)) (rf rl) (l.length : Int) = x := ⟨_, rfl⟩
  have HR := Lib.hid (show w.rangeAt q 0 C by rw [← hC]; exact hss.range)
  have HL := Lib.hid (show C.length = 137 by rw [← hC]; exact shC_length _ _ _)
  have H1 := Lib.hid (show C.toArray.all (·.oneCell') = true by rw [← hC]; exact shC_one _ _ _)
  have HT := Lib.hid (show (w.alloc (.cells Try.zeroCells84 84)).there w.heap.size 0 C.toArray.size from fun j hj => by
    rw [List.size_toArray, HL.out] at hj
    rw [Nat.zero_add]
    obtain ⟨a1, a2, a3, a4⟩ := hz
    by_cases e1 : j < 8
    · have := a1 j e1; rw [Nat.zero_add] at this; rw [this.1, this.2]; exact ⟨rfl, rfl⟩
    · by_cases e2 : j < 136
      · have := a2 (j - 8) (by omega); rw [show 8 + (j - 8) = j by omega] at this; rw [this.1, this.2]; exact ⟨rfl, rfl⟩
      · rw [show j = 136 by omega, a3, a4]; exact ⟨rfl, rfl⟩)
  have HSZ := Lib.hid (show (Try.prog.info? 84).map (·.size) = some C.length by rw [HL.out]; kernel_rfl)
  have HC := Lib.hid hC
  have HB := Lib.hid hbz
  clear hss hz hbz hC
  go_enter Try.func57, Try.ntmps57
  go_wp2_with (first | (refine wpList_load_mid rfl 84 (.tmp 5) rfl q 0 rfl C _ HR.out Try.underlying84 rfl HSZ.out ?_) | (refine wpList_store_mid rfl 84 (.tmp 3) (.tmp 6) rfl _ _ C.toArray rfl rfl HT.out (by rw [List.size_toArray]; exact HSZ.out) H1.out ?_))
  have hf : ∀ j, j < 137 → ((w.alloc (.cells Try.zeroCells84 84)).setCells w.heap.size 0 C).frozen? ⟨w.heap.size, j, none⟩ = false := fun j hj => by
    rw [World.frozen?_setCells]
    have := (HT.out j (by rw [List.size_toArray, HL.out]; exact hj)).2
    rwa [Nat.zero_add] at this
  have hr := World.rangeAt_setCells_same (w.alloc (.cells Try.zeroCells84 84)) w.heap.size 0 C (by have := HT.out; rwa [List.size_toArray] at this)
  refine bodyPost_ret (v := .pointer (some ⟨w.heap.size, 0, none⟩)) (by simp [results, Try.results57, go_sem]) rfl ⟨w.heap.size, rfl, Nat.le_refl _, ⟨rl, hl, ShS.of (by rw [HC.out]; exact hr) hf, ht⟩, shb_setCells HB.out (Nat.le_refl _) _ _⟩
end Go.Proofs.Ytmhiglhgkgannaa
end

section
namespace Go.Proofs.Ytmhiglhgkgannaa
open Go.RowKit

def catB (M : List (List UInt8)) (k : Nat) : List UInt8 := (M.take k).flatten
theorem catB_next {M : List (List UInt8)} {k : Nat} (hk : k < M.length) : catB M (k + 1) = catB M k ++ M.getD k [] := by
  rw [catB, catB, List.take_succ_eq_append_getElem hk, List.flatten_append, List.getD_eq_getElem?_getD, List.getElem?_eq_getElem hk]
  simp
theorem catB_all {M : List (List UInt8)} {n : Nat} (h : M.length = n) : catB M n = M.flatten := by
  rw [catB, List.take_of_length_le (by omega)]
theorem catB_le (M : List (List UInt8)) (k : Nat) : (catB M k).length ≤ M.flatten.length := by
  have h : M.flatten = catB M k ++ (M.drop k).flatten := by rw [catB, ← List.flatten_append, List.take_append_drop]
  rw [h, List.length_append]; omega

set_option maxRecDepth 100000 in
set_option maxHeartbeats 1600000 in
theorem growB0 (n : Nat) (w : World) (hn : n ≤ 100000) : Calls Try.prog 90 #[.slice none 0 0, .int .i64 (n : Int)] w fun e w' => ∃ v, e = .returned v ∧ w'.ownsRow w.heap.size 5 1 v 0 [] ∧ Below w.heap.size w w' := by
  obtain ⟨i0, hi, hz0, hz1, hz2⟩ := info_parts infoU8
  rcases Nat.eq_zero_or_pos n with rfl | hp
  · go_enter Try.func90, Try.ntmps90
    go_wp2
    go_ret
    exact ⟨_, rfl, World.ownsRow_nil _ _ _ _, Below.refl _ _⟩
  · have hrz : ∀ ty, (Builtin.append_ #[40, 3] ty #[.slice none 0 0, .int .i64 (n : Int)]).run Try.prog w =
        .ok (.slice (some ⟨w.heap.size, 0, none⟩) n (grownCap w n 0 5)) (w.drew.alloc (.cells ((([] : List Value).toArray) ++ Builtin.zeroCells (Value.int .u8 0).cells n ++ Builtin.zeroCells (Value.int .u8 0).cells (grownCap w n 0 5 - n)) 5)) := fun ty => by
      have h := Lib.run_append_grow_zeros w 40 3 ty 5 i0 _ .i64 .i64 Try.underlying40 Try.underlying3 hi hz0 none 0 0 [] (run_firstCells_none w.drew i0.size 0 0 0) n hp (by omega) (by omega) (by omega) (by rw [hz2]; omega) (by rw [hz2]; simp only [Builtin.nextslicecap, Nat.zero_add, Nat.mul_zero, if_pos hp]; omega)
      rw [Nat.zero_add] at h
      exact h
    have hGn : n ≤ grownCap w n 0 5 := grownCap_ge w _ _ _
    have hG63 := grownCap_le_maxLen w n 0 5 (by unfold maxLen; omega)
    obtain ⟨G, hG⟩ : ∃ G, G = grownCap w n 0 5 := ⟨_, rfl⟩
    rw [← hG] at hrz hGn hG63
    have HMX := Lib.hid hG63
    unfold maxLen at hG63
    obtain ⟨cs, hcs⟩ : ∃ cs, cs = ((([] : List Value).toArray) ++ Builtin.zeroCells (Value.int .u8 0).cells n ++ Builtin.zeroCells (Value.int .u8 0).cells (G - n)) := ⟨_, rfl⟩
    have hsz : cs.size = G := by
      rw [hcs]
      simp only [Builtin.zeroCells, Value.cells, Array.size_append, Array.size_map, Array.size_range]
      simp
      omega
    rw [← hcs] at hrz
    have HB := Lib.hid (((Below.refl w.heap.size w).drew).alloc (Nat.le_refl _) (.cells cs 5))
    have HO := Lib.hid (show (w.drew.alloc (.cells cs 5)).ownsRow w.heap.size 5 1 (.slice (some ⟨w.heap.size, 0, none⟩) 0 G) 0 [] from World.ownsRow_made w.drew cs G (Nat.le_refl _) HMX.out (by omega))
    clear hcs hG hsz hi hz0 hz1 hz2
    go_enter Try.func90, Try.ntmps90
    go_wp2_with (at_builtin; refine Lib.wpList_append_run _ rfl _ _ _ _ rfl _ _ rfl rfl _ _ (hrz _) ?_)
    go_wp2
    go_ret
    exact ⟨_, rfl, HO.out, HB.out⟩

set_option maxRecDepth 100000 in
set_option maxHeartbeats 3200000 in
theorem concatB (a : Option Addr) (n c : Nat) (M : List (List UInt8)) (w : World) (h : RowBB w a n M) (hn : n ≤ 1000) (hsum : M.flatten.length ≤ 100000) :
    Calls Try.prog 71 #[.slice a n c] w fun e w' => ∃ v, e = .returned v ∧ w'.ownsRow w.heap.size 5 1 v M.flatten.length (bc M.flatten) ∧ Below w.heap.size w w' := by
  obtain ⟨i0, hi, hz0, hz1, hz2⟩ := info_parts infoU8
  have HR := Lib.hid h
  have HL := Lib.hid h.choose_spec.2.1
  clear h
  go_enter Try.func71, Try.ntmps71
  go_wp2_with fail
  go_loopw [3, 11] (fun t i wr => ∃ k s : Nat, k ≤ n ∧ s ≤ 100000 ∧ i = .int .i64 k ∧ t = .int .i64 s ∧ Hid ((catB M k).length = s) ∧ w = wr) (fun _ i _ => n - (intOf i).toNat)
  case atStart => exact ⟨0, 0, Nat.zero_le _, Nat.zero_le _, rfl, rfl, rfl, rfl⟩
  case round =>
    obtain ⟨k, s, hk, hs, rfl, rfl, hc, rfl⟩ := hrel
    by_cases hlt : k < n
    · obtain ⟨b, o, ai, ci, rfl, hbl, c0, hrow, hnil⟩ := HR.out.at k hlt
      obtain ⟨m, hm⟩ : ∃ m, M.getD k [] = m := ⟨_, rfl⟩
      have hm9 := catB_next (M := M) (k := k) (by rw [HL.out]; exact hlt)
      rw [hm] at c0 hrow hnil hm9
      obtain ⟨ml, hml⟩ : ∃ x, m.length = x := ⟨_, rfl⟩
      rw [hml] at c0 hrow hnil
      have hnx := hm9
      have hle := catB_le M (k + 1)
      have hsl := hc.out
      rw [hnx, List.length_append, hsl, hml] at hle
      have HNX := Lib.hid (show (catB M (k + 1)).length = s + ml by rw [hnx, List.length_append, hsl, hml])
      have d1 := dF (p := (s : Int) + (ml : Int) < 0) (by omega)
      have hs2 : s + ml ≤ 100000 := by omega
      clear hm hml hrow hnil hnx hle hsl hc hm9
      go_wp2
      go_roundw
      case rel => exact ⟨k + 1, s + ml, by omega, hs2, by go_num, by go_num, HNX, trivial⟩
      case measure => simp [intOf]; omega
    · have hkn : k = n := by omega
      subst hkn
      go_wp2_with fail
      refine (growB0 s _ hs).mono ?_; rintro e w1 ⟨v, rfl, ho, hb⟩
      have HO := Lib.hid ho
      have HB := Lib.hid hb
      clear ho hb
      go_wp2_with fail
      go_loopw [6, 27] (fun v i wr => ∃ j m : Nat, j ≤ k ∧ i = .int .i64 j ∧ Hid ((catB M j).length = m) ∧ Hid (wr.ownsRow w.heap.size 5 1 v m (bc (catB M j))) ∧ Hid (Below w.heap.size w wr)) (fun _ i _ => k - (intOf i).toNat)
      case atStart => exact ⟨0, 0, Nat.zero_le _, rfl, rfl, HO, HB⟩
      case round =>
        obtain ⟨j, q, hj, rfl, hm, ho, hbw⟩ := hrel
        by_cases hlt : j < k
        · obtain ⟨b, o, ai, ci, rfl, hbl, c0, hrow, hnil⟩ := (HR.out.below hbw.out).at j hlt
          obtain ⟨m, hmj⟩ : ∃ m, M.getD j [] = m := ⟨_, rfl⟩
          have hm9 := catB_next (M := M) (k := j) (by rw [HL.out]; exact hlt)
          rw [hmj] at c0 hrow hnil hm9
          obtain ⟨ml, hml⟩ : ∃ x, m.length = x := ⟨_, rfl⟩
          rw [hml] at c0 hrow hnil
          have hnx := hm9
          have hle := catB_le M (j + 1)
          have hsl := hm.out
          rw [hnx, List.length_append, hsl, hml] at hle
          have HNX := Lib.hid hnx
          have HML := Lib.hid hml
          have HROW := Lib.hid hrow
          have HNIL := Lib.hid hnil
          have hqb : q + ml ≤ 1000000 := by omega
          clear hmj hml hrow hnil hnx hle hsl hm9
          go_wp2_with (at_builtin; refine append_cells rfl _ _ 40 5 rfl i0 (.int .u8 0) 1 Try.underlying40 hi hz0 hz1 hz2 rfl w.heap.size _ q _ rfl ho.out ai ml ci (bc m) rfl HNIL.out HROW.out (bc_oneCell m) hqb (by decide) hbw.out.size ?_)
          intro v' w3 hown' hgrow'
          have HO3 := Lib.hid hown'
          have HB3 := Lib.hid (hbw.out.grown hgrow' hbw.out.size (fun k hk => (ho.out.lt k hk).1))
          clear hown' hgrow'
          go_wp2
          go_roundw
          case rel => exact ⟨j + 1, q + ml, by omega, by go_num, Lib.hid (by rw [HNX.out, List.length_append, hm.out, HML.out]), Lib.hid (by rw [HNX.out, bc_append]; exact HO3.out), HB3⟩
          case measure => simp [intOf]; omega
        · have hkj : j = k := by omega
          subst hkj
          have HF := Lib.hid (show wr.ownsRow w.heap.size 5 1 u6 M.flatten.length (bc M.flatten) by
            have h1 := ho.out
            have h2 := hm.out
            rw [catB_all HL.out] at h1 h2
            rw [h2]; exact h1)
          clear ho hm
          go_wp2
          go_ret
          exact ⟨_, rfl, HF.out, hbw.out⟩
end Go.Proofs.Ytmhiglhgkgannaa
end

section
namespace Go.Proofs.Ytmhiglhgkgannaa
open Go.RowKit

theorem bc_cons (x : UInt8) (l : List UInt8) : bc (x :: l) = .int .u8 (x.toNat : Int) :: bc l := rfl
theorem pad_more (k : Nat) : bc ((0x80 : UInt8) :: List.replicate k 0) ++ [Value.int .u8 0] = bc ((0x80 : UInt8) :: List.replicate (k + 1) 0) := by
  rw [List.replicate_succ', ← List.cons_append, bc_append]
  rfl
theorem rowBB_lit3 (w : World) (u1 u2 u3 : Value) (m1 m2 m3 : List UInt8) (H : Nat) (hH : H = w.heap.size) (h1 : ValB w u1 m1) (h2 : ValB w u2 m2) (h3 : ValB w u3 m3) : RowBB (w.alloc (.cells #[u1, u2, u3] 40)) (some ⟨H, 0, none⟩) 3 [m1, m2, m3] := by
  subst hH
  have hb := (Below.refl w.heap.size w).alloc (Nat.le_refl _) (.cells #[u1, u2, u3] 40)
  refine ⟨[u1, u2, u3], ⟨rfl, Or.inr ⟨w.heap.size, 0, rfl, by simp, fun j u hj => ?_⟩⟩, rfl, fun j u hj => ?_⟩
  · rw [Nat.zero_add, World.cell?_alloc_new, ← hj]
    simp
  · have hj2 : j < 3 := (List.getElem?_eq_some_iff.1 hj).1
    rcases (by omega : j = 0 ∨ j = 1 ∨ j = 2) with rfl | rfl | rfl
    · simp at hj; subst hj; exact h1.below hb
    · simp at hj; subst hj; exact h2.below hb
    · simp at hj; subst hj; exact h3.below hb
theorem own_lower {w : World} {B B' n : Nat} {e : TypeId} {size : Nat} {v : Value} {xs : List Value} (h : w.ownsRow B e size v n xs) (hB : B' ≤ B) : w.ownsRow B' e size v n xs := by
  refine ⟨h.1, ?_⟩
  rcases h.2 with h1 | ⟨g, cap, cur, h1, h2, h3⟩
  · exact Or.inl h1
  · exact Or.inr ⟨g, cap, cur, h1, Nat.le_trans hB h2, h3⟩
theorem end_put (n : Nat) : putTo (8 * (n : Int)) 6 6 = (List.range 6).map fun i => by8 ((8 * (n : Int)) / 2 ^ (8 * (5 - i))) := rfl
set_option maxRecDepth 100000 in
set_option maxHeartbeats 4000000 in
theorem ending_any (n : Nat) (w : World) (hn : n ≤ 1000000000) : Calls Try.prog 58 #[.int .i64 (n : Int)] w fun e w' => ∃ v, e = .returned v ∧ w'.ownsRow w.heap.size 5 1 v (endL n).length (bc (endL n)) ∧ Below w.heap.size w w' := by
  obtain ⟨i0, hi, hz0, hz1, hz2⟩ := info_parts infoU8
  have HI := Lib.hid hi
  have HZ0 := Lib.hid hz0
  have HZ1 := Lib.hid hz1
  have HZ2 := Lib.hid hz2
  have HR0 := Lib.hid (World.ownsRow_lit (base := w.heap.size) (e := 5) (size := 1) w #[.int .u8 128] 1 (Nat.le_refl _) (by decide) rfl)
  have HB0 := Lib.hid ((Below.refl w.heap.size w).alloc (Nat.le_refl _) (.cells #[.int .u8 128] 5))
  clear hi hz0 hz1 hz2
  go_enter Try.func58, Try.ntmps58
  go_wp2_with fail
  go_loopw [3] (fun v wr => ∃ k L : Nat, k ≤ padN n ∧ L ≤ 200 ∧ Hid (L = 1 + k) ∧ Hid (wr.ownsRow w.heap.size 5 1 v L (bc ((0x80 : UInt8) :: List.replicate k 0))) ∧ Hid (Below w.heap.size w wr)) (fun v _ => padN n + 1 - sliceLen v)
  case atStart => exact ⟨0, 1, Nat.zero_le _, by omega, rfl, HR0, HB0⟩
  case round =>
    clear HR0 HB0
    obtain ⟨k, L, hk, hL, HL, HO, HB⟩ := hrel
    obtain ⟨va, vc, rfl⟩ := own_shape HO.out
    have hpe := pad_end n k hk
    have HLK := HL
    by_cases hlt : k = padN n
    · have d1 : (((n : Int) + (L : Int) + 16) % 128 != 0) = false := nF (by have := hpe.2 hlt; have := HL.out; omega)
      clear hpe hk
      have hp := put_yes (8 * (n : Int)) 6
      have HP := Lib.hid (fun w => put_yes (8 * (n : Int)) 6 w (by omega) (by omega) (by omega) (dF (by omega)))
      rw [end_put] at HP
      obtain ⟨X, hX⟩ : ∃ x, ((List.range 6).map fun i => by8 ((8 * (n : Int)) / 2 ^ (8 * (5 - i)))) = x := ⟨_, rfl⟩
      rw [hX] at HP
      have HX := Lib.hid (show endL n = ((0x80 : UInt8) :: List.replicate k 0) ++ (List.replicate 10 0 ++ X) by
        rw [endL, hX, ← hlt, List.cons_append, ← List.append_assoc (List.replicate k 0), List.replicate_append_replicate])
      have HX6 := Lib.hid (show (bs X).size = 6 by rw [bs_size, ← hX]; simp)
      clear hp hX hlt
      go_wp2_with fail
      refine (HP.out _).mono ?_; rintro e w2 ⟨rfl, hb⟩
      have HB2 := Lib.hid (HB.out.trans (hb.mono HB.out.size))
      have HO2 := Lib.hid (own_below' HO.out hb)
      clear hb HB HO
      have hx6 := HX6.out
      obtain ⟨S, hS⟩ : ∃ y, bs X = y := ⟨_, rfl⟩
      rw [hS] at hx6 ⊢
      have HSS := Lib.hid hS
      clear hS
      go_wp2_with (at_make; refine wpList_make_full _ rfl _ _ 40 rfl w.heap.size 5 i0 (.int .u8 0) 1 Try.underlying40 HI.out HZ0.out HZ1.out .i64 .i64 _ _ 10 rfl rfl rfl rfl ?b2 ?b3 HB2.out.size ?_)
      case b2 => rw [HZ2.out]; omega
      case b3 => unfold maxLen; omega
      intro w3 hown hgrow
      have HB3 := Lib.hid (HB2.out.grown hgrow HB2.out.size (by simp))
      have hb23 := (Below.refl w2.heap.size w2).grown hgrow (Nat.le_refl _) (by simp)
      have HO3 := Lib.hid (own_below' HO2.out hb23)
      rw [toList_madeCells_one] at hown
      have HM3 := Lib.hid (show w3.ownsRow w.heap.size 5 1 (.slice (some ⟨w2.heap.size, 0, none⟩) 10 10) 10 (bc (List.replicate 10 0)) from hown)
      clear hown hgrow hb23
      go_wp2_with (refine conv_bytes rfl _ rfl S rfl ?_)
      intro cap w4 hcap hb hsz hcell hfr
      have HB4 := Lib.hid (HB3.out.trans (hb.mono HB3.out.size))
      have hv1 := ValB.own (own_below' HO3.out hb)
      have hv2 := ValB.own (own_below' HM3.out hb)
      have hv3 : ValB w4 (.slice (some ⟨w3.heap.size, 0, none⟩) 6 cap) X := by
        have h6 : X.length = 6 := by have := HX6.out; rwa [bs_size] at this
        refine ⟨some ⟨w3.heap.size, 0, none⟩, cap, by rw [h6], ?_, fun h => by cases h⟩
        refine ⟨by rw [bc_length], Or.inr ⟨w3.heap.size, 0, rfl, by omega, fun j u hj => ?_⟩⟩
        have hj2 : j < 6 := by have := (List.getElem?_eq_some_iff.1 hj).1; rw [bc_length] at this; omega
        rw [Nat.zero_add, hcell j (by omega), ← hj, ← HSS.out]
        simp [bc, bs, show j < X.length by omega]
      have HL := Lib.hid (rowBB_lit3 w4 _ _ _ _ _ _ _ rfl hv1 hv2 hv3)
      have HB5 := Lib.hid (HB4.out.alloc HB4.out.size (.cells #[.slice va L vc, .slice (some ⟨w2.heap.size, 0, none⟩) 10 10, .slice (some ⟨w3.heap.size, 0, none⟩) 6 cap] 40))
      have hs4 := HB4.out.size
      clear hb hsz hcell hfr hv1 hv2 hv3 hcap
      go_wp2_with fail
      refine (concatB _ _ _ _ _ HL.out (by omega) (by
        have h6 : X.length = 6 := by have := HX6.out; rwa [bs_size] at this
        have h8 : L = 1 + k := HLK.out
        simp only [List.flatten_cons, List.flatten_nil, List.append_nil, List.length_append, List.length_cons, List.length_replicate]
        omega)).mono ?_; rintro e w6 ⟨v6, rfl, ho6, hb6⟩
      have HO6 := Lib.hid (own_lower ho6 HB5.out.size)
      have HB6 := Lib.hid (HB5.out.trans (hb6.mono HB5.out.size))
      have HE := Lib.hid (show [(0x80 : UInt8) :: List.replicate k 0, List.replicate 10 0, X].flatten = endL n by
        rw [HX.out]
        simp only [List.flatten_cons, List.flatten_nil, List.append_nil])
      rw [HE.out] at HO6
      clear ho6 hb6
      go_wp2
      go_ret
      exact ⟨v6, rfl, HO6.out, HB6.out⟩
    · have d1 : (((n : Int) + (L : Int) + 16) % 128 != 0) = true := nT (by have h1 := mt hpe.1 hlt; have := HL.out; omega)
      have HK := Lib.hid (show k + 1 ≤ padN n by omega)
      have HK2 := Lib.hid (show L + 1 ≤ 200 by
        have h1 : padN n < 128 := by unfold padN; omega
        have := HL.out
        omega)
      clear hpe hk hlt
      go_wp2_with (first | (at_builtin; refine wpList_append_own _ rfl _ _ 40 rfl w.heap.size 5 i0 (.int .u8 0) 1 1 Try.underlying40 HI.out HZ0.out HZ1.out HZ2.out rfl (by decide) _ L _ rfl (HO.out.alloc _) ⟨wr.heap.size, 0, none⟩ 1 1 [.int .u8 0] rfl rfl ?c1 ?c2 ?c3 ?c4 ?c5 ?_))
      case c1 => exact cell_one_new _ _ _
      case c2 => exact one_int _ _
      case c3 => unfold maxLen; omega
      case c4 => omega
      case c5 => have := HB.out.size; simp; omega
      intro v4 w4 hown4 hgrow4 _
      have HB4 := Lib.hid (below_append HB.out HB.out.size HO.out hgrow4)
      rw [pad_more] at hown4
      have HO4 := Lib.hid hown4
      obtain ⟨v4a, v4c, rfl⟩ := own_shape hown4
      clear hown4 hgrow4 HO HB
      go_wp2
      go_roundw
      case rel => exact ⟨k + 1, L + 1, HK.out, HK2.out, Lib.hid (by rw [HL.out]; omega), HO4, HB4⟩
      case measure =>
        simp only [sliceLen]
        have := HK.out
        have := HL.out
        omega
end Go.Proofs.Ytmhiglhgkgannaa
end

section
namespace Go.Proofs.Ytmhiglhgkgannaa
open Go.RowKit

theorem words_next (h : Nat → Int) (i j : Nat) (hj : j < 8) : words h (8 * i + (j + 1)) = words h (8 * i + j) ++ [by8 (h i / 2 ^ (56 - 8 * j))] := by
  rw [← Nat.add_assoc, words_succ, show (8 * i + j) / 8 = i by omega, show (8 * i + j) % 8 = j by omega]
theorem head6 (q : Nat) (W : World) : (Instr.sliceAt 80 (.pointer (some ⟨q, 0, none⟩)) none (some (.int .i64 6)) none).run Try.prog W = .ok (.slice (some ⟨q, 0, none⟩) 6 8) W := by
  have he : Try.prog.elem 80 = 79 := by simp [Program.elem, Try.underlying80]
  have hl : Try.prog.arrayLen 80 = 8 := by simp [Program.arrayLen, Try.underlying80]
  have hu : Try.prog.underlying 80 = some (.array (Try.prog.arrayLen 80) (Try.prog.elem 80)) := by rw [he, hl]; exact Try.underlying80
  have z := Try.sizeOf79
  rw [run_sliceAt_array_h (P := Try.prog) W 80 ⟨q, 0, none⟩ hu .i64 6 (by omega) (by rw [hl]; omega), he, hl]
  simp [go_sem, z, Result.andThen, slicedAt, Addr.add]
set_option maxRecDepth 100000 in
set_option maxHeartbeats 4000000 in
theorem sum_any (q : Nat) (l : List UInt8) (w : World) (hs : ShL w q l) (hsz : l.length ≤ 100000000) : Calls Try.prog 39 #[.pointer (some ⟨q, 0, none⟩)] w fun e w' => ∃ v, e = .returned v ∧ w'.ownsRow w.heap.size 5 1 v 48 (bc (shaL l)) ∧ Below w.heap.size w w' := by
  obtain ⟨i0, hi, hz0, hz1, hz2⟩ := info_parts infoU8
  have HI := Lib.hid hi
  have HZ0 := Lib.hid hz0
  have HZ1 := Lib.hid hz1
  have HZ2 := Lib.hid hz2
  have HS := Lib.hid hs
  have hql := hs.lt
  have HEN := Lib.hid (endL_length l.length)
  have HPD := Lib.hid (show padN l.length < 128 by unfold padN; omega)
  clear hi hz0 hz1 hz2 hs
  go_enter Try.func39, Try.ntmps39
  go_wp2_with fail
  refine (shaCopy_any q l _ HS.out).mono ?_; rintro e w1 ⟨p, rfl, hp, hsp, hb⟩
  have HB1 := Lib.hid hb
  have HS1 := Lib.hid (HS.out.below hb)
  have HP1 := Lib.hid hsp
  have hpl := hsp.lt
  clear hb hsp HS
  obtain ⟨rl, hrl, ⟨h1, h2, c136, h4⟩, ht⟩ := HS1.out
  obtain ⟨N, hN⟩ : ∃ x, l.length = x := ⟨_, rfl⟩
  rw [hN] at c136
  have HN := Lib.hid hN
  clear hrl h1 h2 h4 ht
  have hs1 := HB1.out.size
  have hN2 : N ≤ 100000000 := by omega
  clear hN
  go_wp2_with fail
  refine (ending_any N _ (by omega)).mono ?_; rintro e w2 ⟨v2, rfl, ho2, hb2⟩
  have HB2 := Lib.hid (HB1.out.trans (hb2.mono HB1.out.size))
  have HP2 := Lib.hid (HP1.out.below hb2)
  obtain ⟨a2, c2, hc2, ⟨hr2, hn2⟩⟩ : ∃ a c, v2 = .slice a (endL N).length c ∧ RowB w2 a (endL N).length (endL N) ∧ (a = none → (endL N).length = 0 ∧ c = 0) := ValB.own ho2
  have hcc : (endL N).length ≤ c2 := by
    rcases ho2.2 with ⟨e, _⟩ | ⟨g, cap, cur, e, _, _, h4, _⟩
    · rw [e] at hc2; injection hc2 with _ e1 e2; omega
    · rw [e] at hc2; injection hc2 with _ e1 e2; omega
  have HF2 := Lib.hid (show ∀ b off, a2 = some ⟨b, off, none⟩ → (endL N).length = 0 ∨ b ≠ p from fun b off e => by
    right
    have := (ho2.lt b (by rw [hc2, e]; rfl)).1
    omega)
  have HP2s := Lib.hid (show ∀ x, a2 = some x → (endL N).length = 0 ∨ x.spot = none from fun x e => by
    rcases Nat.eq_zero_or_pos (endL N).length with h0 | h0
    · exact Or.inl h0
    · obtain ⟨b, o, e2, _⟩ := hr2.at h0
      rw [e2] at e; injection e with e
      exact Or.inr (by rw [← e]))
  have HR2 := Lib.hid hr2
  have HN2 := Lib.hid hn2
  subst hc2
  rw [HN.out] at HEN
  obtain ⟨E, hE⟩ : ∃ x, endL N = x := ⟨_, rfl⟩
  rw [hE] at HEN HF2 HP2s HR2 HN2 hcc ⊢
  obtain ⟨ne, hne⟩ : ∃ x, E.length = x := ⟨_, rfl⟩
  rw [hne] at HEN HF2 HP2s HR2 HN2 hcc ⊢
  have hneb : l.length + ne ≤ 1000000000 := by have := HEN.out; have := HPD.out; have := HN.out; rw [← HN.out] at HEN; have := HEN.out; omega
  have HE := Lib.hid (show l ++ E = whole l by rw [whole, HN.out, hE])
  clear ho2 hb2 hr2 hn2 hE hne c136
  go_wp2_with fail
  refine (write_any p l a2 ne c2 E _ HP2.out HR2.out HN2.out hcc HP2s.out HF2.out hneb).mono ?_; rintro e w3 ⟨rfl, hs3, ho3⟩
  have HB3 := Lib.hid (ho3.under HB2.out hp HB2.out.size)
  rw [HE.out] at hs3
  obtain ⟨rl, -, ⟨h3, -, -, -⟩, -⟩ := hs3
  have HA3 := Lib.hid h3
  have HSH := Lib.hid (show words (hsh (whole l) ((whole l).length / 128)) 48 = shaL l from rfl)
  obtain ⟨h, hh⟩ : ∃ x, hsh (whole l) ((whole l).length / 128) = x := ⟨_, rfl⟩
  rw [hh] at HA3 HSH
  clear hh ho3 h3 HB2 HP2 HR2 HN2 HF2 HP2s
  have hs3 := HB3.out.size
  have hpl3 : p < w3.heap.size := block_lt_of_cell (HA3.out 0 (by decide)).1
  have hsl := head6 p
  go_wp2_with (at_make; refine wpList_make_own _ rfl _ _ 40 rfl w3.heap.size 5 i0 (.int .u8 0) 1 Try.underlying40 HI.out HZ0.out HZ1.out .i64 .i64 _ 48 rfl rfl rfl ?b2 ?b3 (Nat.le_refl _) ?_)
  case b2 => rw [HZ2.out]; omega
  case b3 => unfold maxLen; omega
  intro w4 hown hgrow
  have hb34 := (Below.refl w3.heap.size w3).grown hgrow (Nat.le_refl _) (by simp)
  have HB4 := Lib.hid hb34
  have HO4 := Lib.hid (show w4.ownsRow w3.heap.size 5 1 (.slice (some ⟨w3.heap.size, 0, none⟩) 0 48) 0 (bc (words h (8 * 0))) from hown)
  clear hown hgrow hb34

  go_wp2_with fail
  clear hsl
  go_loopw [4, 23] (fun v i wr => ∃ k L : Nat, k ≤ 6 ∧ L ≤ 48 ∧ i = .int .i64 k ∧ Hid (L = 8 * k) ∧ Hid (wr.ownsRow w3.heap.size 5 1 v L (bc (words h (8 * k)))) ∧ Hid (Below w3.heap.size w3 wr)) (fun _ i _ => 6 - (intOf i).toNat)
  case atStart => exact ⟨0, 0, Nat.zero_le _, Nat.zero_le _, rfl, rfl, HO4, HB4⟩
  case round =>
    clear HO4 HB4
    obtain ⟨k, L, hk, hL, rfl, HL, HO, HB⟩ := hrel
    by_cases hlt : k < 6
    · obtain ⟨cx, -⟩ := (HA3.out.below HB.out) k (by omega)
      rw [Nat.zero_add] at cx
      obtain ⟨x, hx⟩ : ∃ y, h k = y := ⟨_, rfl⟩
      rw [hx] at cx
      have HX := Lib.hid hx
      have HK := Lib.hid hlt
      have d1 : decide ((k : Int) < 6) = true := dT (by omega)
      clear hx
      go_wp2_with fail
      go_loopw [4, 7] (fun v i wr => ∃ (j L : Nat) (s : Int), j ≤ 8 ∧ L ≤ 48 ∧ i = .int .i64 s ∧ Hid (s = 56 - 8 * (j : Int)) ∧ Hid (L = 8 * k + j) ∧ Hid (wr.ownsRow w3.heap.size 5 1 v L (bc (words h (8 * k + j)))) ∧ Hid (Below w3.heap.size w3 wr)) (fun _ i _ => (intOf i + 8).toNat)
      case atStart => exact ⟨0, L, 56, Nat.zero_le _, hL, rfl, Lib.hid (by omega), HL, HO, HB⟩
      case round =>
        clear HO HB HL cx
        obtain ⟨j, L2, s, hj, hL2, rfl, HSE, HL, HO, HB⟩ := hrel
        obtain ⟨va, vc, rfl⟩ := own_shape HO.out
        by_cases hjl : j < 8
        · have hs0 : 0 ≤ s := by have := HSE.out; omega
          have hs1 : s ≤ 56 := by have := HSE.out; omega
          have hL3 : L2 + 1 ≤ 48 := by have := HL.out; omega
          have HJ := Lib.hid hjl
          clear hjl hj
          go_wp2_with (first | (at_builtin; refine wpList_append_own _ rfl _ _ 40 rfl w3.heap.size 5 i0 (.int .u8 0) 1 1 Try.underlying40 HI.out HZ0.out HZ1.out HZ2.out rfl (by decide) _ L2 _ rfl (HO.out.alloc _) ⟨wr.heap.size, 0, none⟩ 1 1 [.int .u8 (x / 2 ^ s.toNat % 256)] rfl rfl ?c1 ?c2 ?c3 ?c4 ?c5 ?_))
          case c1 => exact cell_one_new _ _ _
          case c2 => exact one_int _ _
          case c3 => unfold maxLen; omega
          case c4 => omega
          case c5 => have := HB.out.size; simp; omega
          intro v5 w5 hown5 hgrow5 _
          have HB5 := Lib.hid (below_append HB.out HB.out.size HO.out hgrow5)
          have HO5 := Lib.hid (show w5.ownsRow w3.heap.size 5 1 v5 (L2 + 1) (bc (words h (8 * k + (j + 1)))) from by
            rw [words_next h k j HJ.out, bc_append, bc_one, HX.out]
            have e : 56 - 8 * j = s.toNat := by have := HSE.out; have := HJ.out; omega
            rw [e]
            exact hown5)
          obtain ⟨v5a, v5c, rfl⟩ := own_shape hown5
          clear hown5 hgrow5 HO HB
          go_wp2
          go_roundw
          case rel => exact ⟨j + 1, L2 + 1, s - 8, HJ.out, hL3, rfl, Lib.hid (by have := HSE.out; omega), Lib.hid (by have := HL.out; omega), HO5, HB5⟩
          case measure =>
            simp only [intOf]
            omega
        · have hj8 : j = 8 := by omega
          subst hj8
          have hsm : s < 0 := by have := HSE.out; omega
          have HO8 := Lib.hid (show wr.ownsRow w3.heap.size 5 1 (.slice va L2 vc) L2 (bc (words h (8 * (k + 1)))) from HO.out)
          have HL8 := Lib.hid (show L2 = 8 * (k + 1) from by have := HL.out; omega)
          clear HO HL HSE hjl hj
          go_wp2
          go_roundw
          case rel => exact ⟨k + 1, L2, HK.out, hL2, by go_num, HL8, HO8, HB⟩
          case measure =>
            simp only [intOf]
            have := HK.out
            omega
    · have hk6 : k = 6 := by omega
      subst hk6
      have d1 : decide (((6 : Nat) : Int) < 6) = false := by decide
      obtain ⟨va, vc, rfl⟩ := own_shape HO.out
      have hL48 : L = 48 := HL.out
      have HF := Lib.hid (show wr.ownsRow w.heap.size 5 1 (.slice va L vc) 48 (bc (shaL l)) from by rw [← HSH.out]; have := own_lower HO.out HB3.out.size; rw [hL48] at this ⊢; exact this)
      clear HO hL48 HL hlt hk
      go_wp2
      go_ret
      exact ⟨_, rfl, HF.out, HB3.out.trans (HB.out.mono HB3.out.size)⟩
end Go.Proofs.Ytmhiglhgkgannaa
end
