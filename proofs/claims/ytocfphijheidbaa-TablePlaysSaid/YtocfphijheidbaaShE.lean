/- Bytes written to a State: contracts of write and Write. -/
import Derived.Test.YtocfphijheidbaaShD
import Derived.Test.YtocfphijheidbaaFrC
import Derived.Laws.CopyOwn
namespace Go.Proofs.Ytocfphijheidbaa
open Go.RowKit

def rf (l : List UInt8) (j : Nat) : Int := ((l.getD j 0).toNat : Int)
theorem rf_rng (l : List UInt8) (j : Nat) : 0 ≤ rf l j ∧ rf l j < 256 := by
  have := (l.getD j 0).toNat_lt
  unfold rf
  omega
def sliceLen : Value → Nat
  | .slice _ n _ => n
  | _ => 0
/-- A State that was told these bytes. -/
def ShL (w : World) (q : Nat) (l : List UInt8) : Prop := ∃ rl : List UInt8, rl.length = 128 ∧ ShS w q (hsh l (l.length / 128)) (rf rl) (l.length : Int) ∧ rl.take (l.length % 128) = l.drop (128 * (l.length / 128))
theorem ShL.lt {w : World} {q : Nat} {l : List UInt8} (s : ShL w q l) : q < w.heap.size := by
  obtain ⟨_, _, s, _⟩ := s
  exact s.lt
theorem ShL.oth {w w' : World} {p q : Nat} {l : List UInt8} (s : ShL w p l) (g : Oth w w' q) (hp : p ≠ q) : ShL w' p l := by
  obtain ⟨rl, h1, h2, h3⟩ := s
  exact ⟨rl, h1, h2.oth g hp, h3⟩
theorem ShL.below {w w' : World} {q : Nat} {l : List UInt8} (s : ShL w q l) (g : Below w.heap.size w w') : ShL w' q l := by
  obtain ⟨rl, h1, h2, h3⟩ := s
  exact ⟨rl, h1, h2.below g, h3⟩
theorem ShS.len {w : World} {q : Nat} {h r : Nat → Int} {n : Int} (s : ShS w q h r n) (m : Int) : ShS (w.setCell ⟨q, 136, none⟩ (.int .i64 m)) q h r m := by
  obtain ⟨h1, h2, h3, h4⟩ := s
  refine ⟨fun j hj => ?_, fun j hj => ?_, World.cell?_setCell_same _ _ _ h3, by simpa using h4⟩
  · obtain ⟨a, b⟩ := h1 j hj
    refine ⟨?_, by simpa using b⟩
    rw [World.cell?_setCell_other _ _ _ _ (by intro e; injection e with _ e _; omega)]
    exact a
  · obtain ⟨a, b⟩ := h2 j hj
    refine ⟨?_, by simpa using b⟩
    rw [World.cell?_setCell_other _ _ _ _ (by intro e; injection e with _ e _; omega)]
    exact a
theorem rf_splice {rl x : List UInt8} {a : Nat} (ha : a + x.length ≤ rl.length) (j : Nat) : rf (splice rl a x) j = if a ≤ j ∧ j < a + x.length then rf x (j - a) else rf rl j := by
  simp only [rf, splice, List.getD_eq_getElem?_getD]
  by_cases h1 : j < a
  · rw [List.getElem?_append_left (by rw [List.length_take]; omega), List.getElem?_take, if_pos h1, if_neg (by omega)]
  · rw [List.getElem?_append_right (by rw [List.length_take]; omega), List.length_take, Nat.min_eq_left (by omega)]
    by_cases h2 : j < a + x.length
    · rw [List.getElem?_append_left (by omega), if_pos ⟨by omega, h2⟩]
    · rw [List.getElem?_append_right (by omega), List.getElem?_drop, if_neg (by omega)]
      rw [show a + x.length + (j - a - x.length) = j by omega]
theorem ShS.fill {w : World} {q : Nat} {h : Nat → Int} {rl x : List UInt8} {n : Int} (s : ShS w q h (rf rl) n) {a : Nat} (ha : a + x.length ≤ 128) (hl : rl.length = 128) : ShS (w.setCells q (8 + a) (bc x)) q h (rf (splice rl a x)) n := by
  obtain ⟨h1, h2, h3, h4⟩ := s
  have hx : (bc x).length = x.length := bc_length x
  refine ⟨fun j hj => ?_, fun j hj => ?_, ?_, by rw [World.frozen?_setCells]; exact h4⟩
  · obtain ⟨c, d⟩ := h1 j hj
    refine ⟨?_, by rw [World.frozen?_setCells]; exact d⟩
    rw [World.cell?_setCells_out q _ _ _ _ (fun _ _ => Or.inl (by simp; omega))]
    exact c
  · obtain ⟨c, d⟩ := h2 j hj
    refine ⟨?_, by rw [World.frozen?_setCells]; exact d⟩
    rw [rf_splice (by omega)]
    by_cases hin : a ≤ j ∧ j < a + x.length
    · rw [if_pos hin]
      have := World.cell?_setCells_in q (bc x) (8 + a) w (fun i hi => by
        have h5 := (h2 (a + i) (by omega)).1
        rw [show 8 + a + i = 8 + (a + i) by omega, h5]
        rfl) (j - a) (by omega)
      rw [show 8 + a + (j - a) = 8 + j by omega] at this
      rw [this]
      simp [bc, rf, List.getD_eq_getElem?_getD, List.getElem?_eq_getElem (show j - a < x.length by omega)]
    · rw [if_neg hin, World.cell?_setCells_out q _ _ _ _ (fun _ _ => by simp only [hx]; omega)]
      exact c
  · rw [World.cell?_setCells_out q _ _ _ _ (fun _ _ => Or.inr (by simp only [hx]; omega))]
    exact h3
/-- Bytes that fill no block. -/
theorem fill_part {rl l x : List UInt8} (hl : rl.length = 128) (ht : rl.take (l.length % 128) = l.drop (128 * (l.length / 128))) (hx : l.length % 128 + x.length < 128) :
    (splice rl (l.length % 128) x).length = 128 ∧ (l ++ x).length / 128 = l.length / 128 ∧ hsh (l ++ x) ((l ++ x).length / 128) = hsh l (l.length / 128) ∧ (splice rl (l.length % 128) x).take ((l ++ x).length % 128) = (l ++ x).drop (128 * ((l ++ x).length / 128)) := by
  have e1 : (l ++ x).length / 128 = l.length / 128 := by rw [List.length_append]; omega
  have e2 : (l ++ x).length % 128 = l.length % 128 + x.length := by rw [List.length_append]; omega
  refine ⟨by rw [length_splice _ _ _ (by omega)]; exact hl, e1, ?_, ?_⟩
  · rw [e1]; exact hsh_app l x _ (by omega)
  · rw [e1, e2, splice, ← List.append_assoc, List.take_append_of_le_length (by rw [List.length_append, List.length_take]; omega), List.take_of_length_le (by rw [List.length_append, List.length_take]; omega), ht, List.drop_append_of_le_length (by omega)]
/-- Bytes that fill a block. -/
theorem fill_all {rl l x : List UInt8} (hl : rl.length = 128) (ht : rl.take (l.length % 128) = l.drop (128 * (l.length / 128))) (hx : l.length % 128 + x.length = 128) :
    (splice rl (l.length % 128) x).length = 128 ∧ mixF (hsh l (l.length / 128)) (rf (splice rl (l.length % 128) x)) = hsh (l ++ x) ((l ++ x).length / 128) ∧ (splice rl (l.length % 128) x).take ((l ++ x).length % 128) = (l ++ x).drop (128 * ((l ++ x).length / 128)) := by
  have e1 : (l ++ x).length / 128 = l.length / 128 + 1 := by rw [List.length_append]; omega
  have e2 : (l ++ x).length % 128 = 0 := by rw [List.length_append]; omega
  have hs : splice rl (l.length % 128) x = (l ++ x).drop (128 * (l.length / 128)) := by
    rw [splice, List.drop_of_length_le (by omega), List.append_nil, ht, List.drop_append_of_le_length (by omega)]
  refine ⟨by rw [length_splice _ _ _ (by omega)]; exact hl, ?_, ?_⟩
  · rw [e1, hsh, hsh_app l x _ (by omega), hs]
    refine mixF_congr fun j _ => ?_
    simp only [rf, blk, List.getD_eq_getElem?_getD, List.getElem?_drop]
  · rw [e1, e2, List.take_zero, List.drop_of_length_le (by rw [List.length_append]; omega)]
/-- b[l:], wherever b lies. -/
theorem slice_rest (av : Option Addr) (n cap l : Nat) (hav : av = none → n = 0 ∧ cap = 0) (hsp : ∀ x, av = some x → n = 0 ∨ x.spot = none) (h1 : l ≤ n) (h2 : n ≤ cap) :
    ∃ ad : Option Addr, (∀ W, (Instr.slice 25 (.slice av n cap) (some (.int .i64 (l : Int))) none none).run Try.prog W = .ok (.slice ad (n - l) (cap - l)) W) ∧ (ad = none → n - l = 0 ∧ cap - l = 0) ∧ (l < n → ∀ β off, av = some ⟨β, off, none⟩ → ad = some ⟨β, off + l, none⟩) ∧ (∀ x, ad = some x → n - l = 0 ∨ x.spot = none) := by
  obtain ⟨i0, hi, hz0, hz1, hz2⟩ := info_parts infoU8
  have he : Try.prog.elem 25 = 5 := by simp [Program.elem, Try.underlying25]
  have hu : Try.prog.underlying 25 = some (.slice (Try.prog.elem 25)) := by rw [he]; exact Try.underlying25
  refine ⟨if cap = l then av else av.map (·.add (l * 1)), fun W => ?_, fun h3 => ?_, fun h3 β off h4 => ?_, fun x h3 => ?_⟩
  · rw [run_slice_l (P := Try.prog) (w := W) 25 av n cap hu .i64 (l : Int) (by omega) (by omega), he]
    simp [sizeOf, typeInfo, hi, hz1, Result.andThen, sliced]
  · cases av with
    | none => obtain ⟨a, b⟩ := hav rfl; omega
    | some y => split at h3 <;> simp at h3
  · subst h4
    rw [if_neg (by omega), Option.map_some, Addr.add_mid, Nat.mul_one]
  · by_cases h0 : n - l = 0
    · exact Or.inl h0
    right
    cases av with
    | none => obtain ⟨a, b⟩ := hav rfl; omega
    | some y =>
      rcases hsp y rfl with h4 | h4
      · omega
      obtain ⟨b, o, sp⟩ := y
      simp only at h4
      subst h4
      rw [if_neg (by omega), Option.map_some, Addr.add_mid] at h3
      have h5 := Option.some.inj h3
      subst h5
      rfl
theorem RowB.rest {w : World} {av ad : Option Addr} {n l : Nat} {k : List UInt8} (hr : RowB w av n k) (h1 : l ≤ n) (ha : l < n → ∀ β off, av = some ⟨β, off, none⟩ → ad = some ⟨β, off + l, none⟩) : RowB w ad (n - l) (k.drop l) := by
  have hl := hr.len
  by_cases h0 : n - l = 0
  · exact ⟨by rw [bc_length, List.length_drop]; omega, Or.inl h0⟩
  · obtain ⟨b, off, rfl, _, _⟩ := hr.at (by omega)
    have := RowB.part hr l n h1 (Nat.le_refl _) ad (fun hlt => ha hlt _ _ rfl)
    rwa [List.take_of_length_le (by rw [List.length_drop]; omega)] at this
theorem RowB.oth {w w' : World} {a : Option Addr} {n q : Nat} {l : List UInt8} (h : RowB w a n l) (g : Oth w w' q) (hq : ∀ b off, a = some ⟨b, off, none⟩ → n = 0 ∨ b ≠ q) : RowB w' a n l := by
  refine ⟨h.1, ?_⟩
  rcases h.2 with h0 | ⟨b, off, rfl, hlt, hc⟩
  · exact Or.inl h0
  · rcases hq b off rfl with h0 | hne
    · exact Or.inl h0
    · exact Or.inr ⟨b, off, rfl, Nat.lt_of_lt_of_le hlt g.size, fun j u hj => g.keeps (hc j u hj) hne⟩
/-- copy into the midst of a block. -/
theorem wpList_copy_mid {w : World} {ops : Array Oper} {rest : List Oper} {o : Oper} {a : Act} {Q : Exit → Act → World → Prop} (hgd : o.guard = none) (d s : Operand) (dT sT : TypeId)
    (ho : o.op = .call { callee := .builtin .copy, args := #[d, s], argTypes := #[dT, sT] }) (elem : TypeId) (hu : Try.prog.underlying dT = some (.slice elem)) (hsz : (Try.prog.info? elem).map (·.size) = some 1)
    (dp sp : Option Addr) (dLen dCap sLen sCap : Nat) (hd : a.eval d = .slice dp dLen dCap) (hs : a.eval s = .slice sp sLen sCap)
    (g off : Nat) (cs : List Value) (hn : cs.length = Nat.min sLen dLen)
    (hpos : 0 < cs.length → dp = some ⟨g, off, none⟩ ∧ ∃ ad, sp = some ad ∧ ∀ j v, cs[j]? = some v → w.cell? (ad.add j) = some v)
    (hc : ∀ j, j < cs.length → (w.cell? ⟨g, off + j, none⟩).isSome = true) (hf : ∀ j, j < cs.length → w.frozen? ⟨g, off + j, none⟩ = false) (h1 : ∀ v ∈ cs, v.oneCell' = true)
    (h : wpList Try.prog ops Q rest (a.put o.dst (goInt cs.length)) (w.setCells g off cs)) : wpList Try.prog ops Q (o :: rest) a w := by
  by_cases h0 : cs.length = 0
  · obtain rfl : cs = [] := List.eq_nil_of_length_eq_zero h0
    exact wpList_copy_nothing hgd d s dT sT ho elem hu hsz dp sp dLen dCap sLen sCap hd hs (by simpa using hn.symm) h
  · obtain ⟨rfl, ad, rfl, hsrc⟩ := hpos (by omega)
    have hrun := run_copy_cells (P := Try.prog) w dT sT o.type elem g off dLen dCap ad sLen sCap cs hu hsz hn hsrc hc hf h1
    refine wpList_plain hgd fun K hK => ?_
    unfold Oper.wp
    simp [execOp, ho, resolve, invoke, builtin, hd, hs, hrun, Result.andThen]
    exact hK _ _ h

theorem arr_rest (q a : Nat) (ha : a < 128) (W : World) : (Instr.sliceAt 120 (.pointer (some ⟨q, 8, none⟩)) (some (.int .i64 (a : Int))) none none).run Try.prog W = .ok (.slice (some ⟨q, 8 + a, none⟩) (128 - a) (128 - a)) W := by
  obtain ⟨i0, hi, hz0, hz1, hz2⟩ := info_parts infoU8
  have he : Try.prog.elem 120 = 5 := by simp [Program.elem, Try.underlying120]
  have hl : Try.prog.arrayLen 120 = 128 := by simp [Program.arrayLen, Try.underlying120]
  have hu : Try.prog.underlying 120 = some (.array (Try.prog.arrayLen 120) (Try.prog.elem 120)) := by rw [he, hl]; exact Try.underlying120
  rw [run_sliceAt_array_l (P := Try.prog) W 120 ⟨q, 8, none⟩ hu .i64 (a : Int) (by omega) (by rw [hl]; omega), he, hl]
  have h2 : (128 = a) = False := eq_false (by omega)
  simp [sizeOf, typeInfo, hi, hz1, Result.andThen, slicedAt, h2, Addr.add_mid]

set_option maxRecDepth 100000 in
set_option maxHeartbeats 4000000 in
theorem write_any (q : Nat) (l : List UInt8) (ba : Option Addr) (n c : Nat) (bl : List UInt8) (w : World) (hs : ShL w q l) (hr : RowB w ba n bl) (hn : ba = none → n = 0 ∧ c = 0) (hc : n ≤ c) (hsp : ∀ x, ba = some x → n = 0 ∨ x.spot = none) (hfar : ∀ b off, ba = some ⟨b, off, none⟩ → n = 0 ∨ b ≠ q) (hsz : l.length + n ≤ 1000000000) :
    Calls Try.prog 65 #[.pointer (some ⟨q, 0, none⟩), .slice ba n c] w fun e w' => e = .returned (.tuple #[]) ∧ ShL w' q (l ++ bl) ∧ Oth w w' q := by
  have HBL := Lib.hid hr.len
  have HS := Lib.hid hs
  have HR := Lib.hid hr
  have HN := Lib.hid hn
  have HP := Lib.hid hsp
  have HF := Lib.hid hfar
  clear hs hr hn hsp hfar
  go_enter Try.func65, Try.ntmps65
  go_wp2_with fail
  go_loopw [1] (fun v wr => ∃ (k m cm : Nat) (ad : Option Addr), k ≤ n ∧ Hid (m = n - k) ∧ v = .slice ad m cm ∧ m ≤ cm ∧ Hid (ShL wr q (l ++ bl.take k)) ∧ Hid (RowB wr ad m (bl.drop k)) ∧ Hid (ad = none → m = 0 ∧ cm = 0) ∧ Hid (∀ x, ad = some x → m = 0 ∨ x.spot = none) ∧ Hid (∀ b off, ad = some ⟨b, off, none⟩ → m = 0 ∨ b ≠ q) ∧ Hid (Oth w wr q)) (fun v _ => sliceLen v)
  case atStart => exact ⟨0, n, c, ba, Nat.zero_le _, rfl, rfl, hc, Lib.hid (by rw [List.take_zero, List.append_nil]; exact HS.out), HR, HN, HP, HF, Oth.refl _ _⟩
  case round =>
    clear HS HR HN HP HF
    obtain ⟨k, m, cm, ad, hk, hm, rfl, hcm, HS, HR, HN, HP, HF, HO⟩ := hrel
    by_cases hlt : 0 < m
    · obtain ⟨rl, hrl, hss, htk⟩ := HS.out
      obtain ⟨L, hL⟩ : ∃ x, l ++ bl.take k = x := ⟨_, rfl⟩
      rw [hL] at hss htk
      have HLE := Lib.hid hL
      have HTK := Lib.hid htk
      have HRL := Lib.hid hrl
      have HSS := Lib.hid hss
      obtain ⟨N, hN⟩ : ∃ x, L.length = x := ⟨_, rfl⟩
      have c136 := hss.2.2.1
      have f136 := hss.2.2.2
      rw [hN] at c136
      clear hL hss htk hrl hN
      obtain ⟨a, ha⟩ : ∃ x, N % 128 = x := ⟨_, rfl⟩
      have ham : (N : Int) % 128 = (a : Int) := by omega
      have hal : a < 128 := by omega
      obtain ⟨mm, hmm⟩ : ∃ x, Nat.min m (128 - a) = x := ⟨_, rfl⟩
      have hmm1 : mm ≤ m := by rw [← hmm]; exact Nat.min_le_left _ _
      have hmm2 : mm ≤ 128 - a := by rw [← hmm]; exact Nat.min_le_right _ _
      have hmm3 : mm = m ∨ mm = 128 - a := by rw [← hmm]; simp only [Nat.min_def]; split <;> simp
      obtain ⟨x, hx⟩ : ∃ y, (bl.drop k).take mm = y := ⟨_, rfl⟩
      have hxl : x.length = mm := by rw [← hx, List.length_take, List.length_drop, HBL.out]; have := hm.out; omega
      have hLx : L ++ x = l ++ bl.take (k + mm) := by rw [← HLE.out, ← hx, List.take_add, List.append_assoc]
      have hkm : k + mm ≤ n := by have := hm.out; omega
      have HKM := Lib.hid hkm
      have hLn : L.length = N := by have := HSS.out.2.2.1; rw [c136] at this; injection this with this; injection this with _ this; omega
      have hNb : N + mm ≤ 1000000000 := by rw [← hLn, ← HLE.out, List.length_append, List.length_take, HBL.out]; have := hm.out; omega
      have hsl : ∀ W, (Instr.sliceAt 120 (.pointer (some ⟨q, 8, none⟩)) (some (.int .i64 (a : Int))) none none).run Try.prog W = .ok (.slice (some ⟨q, 8 + a, none⟩) (128 - a) (128 - a)) W := arr_rest q a hal
      obtain ⟨ad2, hsl2, hn2, ha2, hsp2⟩ := slice_rest ad m cm mm HN.out HP.out hmm1 hcm
      obtain ⟨m2, hm2⟩ : ∃ y, m - mm = y := ⟨_, rfl⟩
      obtain ⟨cm2, hcm2⟩ : ∃ y, cm - mm = y := ⟨_, rfl⟩
      obtain ⟨ra, hra⟩ : ∃ y, 128 - a = y := ⟨_, rfl⟩
      have hR2 := HR.out.rest hmm1 ha2
      rw [List.drop_drop, hm2] at hR2
      rw [hm2, hcm2] at hsl2 hn2
      rw [hm2] at hsp2
      rw [hra] at hsl hmm hmm2 hmm3
      have HF2 := Lib.hid (show ∀ b off, ad2 = some ⟨b, off, none⟩ → m2 = 0 ∨ b ≠ q from fun b off e => by
        by_cases h0 : m2 = 0
        · exact Or.inl h0
        right
        obtain ⟨β, o', hav, _, _⟩ := HR.out.at hlt
        have e2 := ha2 (by omega) β o' hav
        rw [e2] at e
        injection e with e
        injection e with e3 _
        rcases HF.out β o' hav with h1 | h1
        · omega
        · omega)
      have hss2 := HSS.out.fill (a := a) (x := x) (by omega) HRL.out
      have HO2 := HO.out.sets (8 + a) (bc x)
      have hOr := (Oth.refl wr q).sets (8 + a) (bc x)
      have HCL := Lib.hid (show goInt (bc x).length = .int .i64 (mm : Int) by rw [bc_length, hxl]; rfl)
      have HCN := Lib.hid (show (bc x).length = Nat.min m ra by rw [bc_length, hxl, hmm])
      have HPOS := Lib.hid (show 0 < (bc x).length → (some ⟨q, 8 + a, none⟩ : Option Addr) = some ⟨q, 8 + a, none⟩ ∧ ∃ ad', ad = some ad' ∧ ∀ j v, (bc x)[j]? = some v → wr.cell? (ad'.add j) = some v from fun _ => by
        refine ⟨rfl, ?_⟩
        rcases HR.out.2 with h1 | ⟨b, o', rfl, _, hc⟩
        · omega
        · refine ⟨_, rfl, fun j v hv => ?_⟩
          rw [Addr.add_mid]
          refine hc j v ?_
          rw [← hx, bc, List.getElem?_map, List.getElem?_take] at hv
          split at hv
          · rw [bc, List.getElem?_map]; exact hv
          · simp at hv)
      have HC1 := Lib.hid (show ∀ j, j < (bc x).length → (wr.cell? ⟨q, 8 + a + j, none⟩).isSome = true from fun j hj => by
        rw [bc_length] at hj
        rw [Nat.add_assoc, (HSS.out.2.1 (a + j) (by omega)).1]; rfl)
      have HC2 := Lib.hid (show ∀ j, j < (bc x).length → wr.frozen? ⟨q, 8 + a + j, none⟩ = false from fun j hj => by
        rw [bc_length] at hj
        rw [Nat.add_assoc]; exact (HSS.out.2.1 (a + j) (by omega)).2)
      have HX1 := Lib.hid (bc_oneCell x)
      obtain ⟨w2, hw2⟩ : ∃ y, wr.setCells q (8 + a) (bc x) = y := ⟨_, rfl⟩
      rw [hw2] at hss2 HO2 hOr
      have HOR2 := Lib.hid hOr
      clear hOr
      have HW2 := Lib.hid hw2
      have HS2 := Lib.hid hss2
      have HOO2 := Lib.hid HO2
      have hcc := hss2.2.2.1
      have hff := hss2.2.2.2
      rw [hLn] at hcc
      have HR2 := Lib.hid hR2
      have HN2 := Lib.hid hn2
      have HP2 := Lib.hid hsp2
      have HM2 := Lib.hid (show m2 = n - (k + mm) by have := hm.out; omega)
      have hcm3 : m2 ≤ cm2 := by omega
      have HME := Lib.hid (show m2 < m by rcases hmm3 with h | h <;> omega)
      have HXL := Lib.hid hxl
      have HLX := Lib.hid hLx
      have HAE := Lib.hid ha
      have HLN := Lib.hid hLn
      have HMM := Lib.hid (show a + mm ≤ 128 by omega)
      clear hx hxl hLx hLn hm2 hcm2 hra hR2 hn2 hsp2 ha2 hss2 HO2 hw2 hmm hmm3 ha hkm hmm2
      have HAM := Lib.hid ham
      clear ham
      go_upto_region 2 with (fail)
      rw [HAM.out]
      clear HAM c136 f136
      go_upto_region 3 with (refine wpList_copy_mid rfl (.tmp 18) (.tmp 19) 25 25 rfl 5 Try.underlying25 (by kernel_rfl) _ _ ra ra m cm rfl rfl q (8 + a) (bc x) HCN.out HPOS.out HC1.out HC2.out HX1.out ?_; rw [HCL.out, HW2.out])
      clear hsl
      go_upto_region 4 with (fail)
      have HS3 := Lib.hid (HS2.out.len ((N : Int) + (mm : Int)))
      have HOO3 := Lib.hid (HOO2.out.set 136 (.int .i64 ((N : Int) + (mm : Int))))
      have HOR3 := Lib.hid (HOR2.out.set 136 (.int .i64 ((N : Int) + (mm : Int))))
      go_upto_region 5 with (fail)
      obtain ⟨w3, hw3⟩ : ∃ y, w2.setCell ⟨q, 136, none⟩ (.int .i64 ((N : Int) + (mm : Int))) = y := ⟨_, rfl⟩
      rw [hw3] at HS3 HOO3 HOR3 ⊢
      clear hw3 hcc hff hsl2
      have HTA := Lib.hid (show rl.take (L.length % 128) = L.drop (128 * (L.length / 128)) from HTK.out)
      by_cases hfull : a + mm = 128
      · have hfu := fill_all (x := x) HRL.out HTA.out (by rw [HLN.out, HAE.out, HXL.out]; exact hfull)
        rw [HLN.out, HAE.out] at hfu
        have HFU := Lib.hid hfu
        have d1 : ((a : Int) + (mm : Int) == 128) = true := eT (by omega)
        have HS4 := Lib.hid (show ShS w3 q (hsh L (N / 128)) (rf (splice rl a x)) ((N : Int) + (mm : Int)) from by rw [← HLN.out]; rw [HLN.out]; have := HS3.out; rw [HLN.out] at this; exact this)
        have HEX := Lib.hid (show mixF (hsh L (N / 128)) (rf (splice rl a x)) = hsh (L ++ x) ((L ++ x).length / 128) from HFU.out.2.1)
        have HCX := Lib.hid (show ((L ++ x).length : Int) = (N : Int) + (mm : Int) by rw [List.length_append, HLN.out, HXL.out]; omega)
        clear hfu HS3 HS2 HSS HS
        go_wp2_with fail
        refine (mix_any q _ _ _ _ HS4.out (rf_rng _)).mono ?_; rintro e w5 ⟨rfl, hs5, ho5⟩
        have HL5 := Lib.hid (show ShL w5 q (l ++ bl.take (k + mm)) from by
          rw [← HLX.out]
          exact ⟨_, HFU.out.1, by rw [← HEX.out, HCX.out]; exact hs5, HFU.out.2.2⟩)
        have HO5 := Lib.hid (HOO3.out.trans ho5)
        have HR5 := Lib.hid (HR2.out.oth (HOR3.out.trans ho5) HF2.out)
        clear hs5 ho5 HS4
        go_wp2
        go_roundw
        case rel => exact ⟨k + mm, m2, cm2, ad2, HKM.out, HM2, rfl, hcm3, HL5, HR5, HN2, HP2, HF2, HO5⟩
        case measure =>
          simp only [sliceLen]
          exact HME.out
      · have hmn : a + mm < 128 := by have := HMM.out; omega
        have hfu := fill_part (x := x) HRL.out HTA.out (by rw [HLN.out, HAE.out, HXL.out]; exact hmn)
        rw [HLN.out, HAE.out] at hfu
        have d1 : ((a : Int) + (mm : Int) == 128) = false := eF (by omega)
        have HL5 := Lib.hid (show ShL w3 q (l ++ bl.take (k + mm)) from by
          rw [← HLX.out]
          refine ⟨_, hfu.1, ?_, hfu.2.2.2⟩
          have h3 := HS3.out
          rw [HLN.out] at h3
          rw [hfu.2.2.1, show ((L ++ x).length : Int) = (N : Int) + (mm : Int) by rw [List.length_append, HLN.out, HXL.out]; omega]
          exact h3)
        have HR5 := Lib.hid (HR2.out.oth HOR3.out HF2.out)
        clear hfu HS3 HS2 HSS HS hfull
        go_wp2
        go_roundw
        case rel => exact ⟨k + mm, m2, cm2, ad2, HKM.out, HM2, rfl, hcm3, HL5, HR5, HN2, HP2, HF2, HOO3⟩
        case measure =>
          simp only [sliceLen]
          exact HME.out
    · have hm0 : m = 0 := by omega
      have HSF := Lib.hid (show ShL wr q (l ++ bl) from by
        have h1 := HS.out
        have h2 := hm.out
        rwa [List.take_of_length_le (by rw [HBL.out]; omega)] at h1)
      subst hm0
      clear HS HR HN HP HF hlt
      go_wp2
      refine bodyPost_end (v := .tuple #[]) (by simp [results, Try.results65, go_sem]) rfl ⟨rfl, HSF.out, HO.out⟩
end Go.Proofs.Ytocfphijheidbaa
