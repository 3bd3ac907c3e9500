/- What the chapter's example fixes. -/
import Derived.Test.YtocfphijheidbaaDkK
import Derived.Test.YtocfphijheidbaaDkC
import Derived.Test.YtocfphijheidbaaShJ
namespace Go.Proofs.Ytocfphijheidbaa
open Go.RowKit

def zB (n : Nat) : List UInt8 := List.replicate n 0
theorem zB_len (n : Nat) : (zB n).length = n := List.length_replicate
theorem made_zB (n : Nat) : madeCells (Value.int .u8 0).cells n = (bc (zB n)).toArray := by
  apply Array.ext
  · rw [size_madeCells, List.size_toArray, bc_length, zB_len]
  · intro i h1 h2
    rw [size_madeCells] at h1
    simp [madeCells, Value.cells, bc, zB, Nat.mod_one]
theorem make_run8 (n : Nat) (hn : n ≤ 2048) (w : World) : (Instr.makeSlice 25 (.int .i64 (n : Int)) (.int .i64 (n : Int))).run Try.prog w = .ok (.slice (some ⟨w.heap.size, 0, none⟩) n n) (w.alloc (.cells (bc (zB n)).toArray 5)) := by
  obtain ⟨i0, hi, hz0, hz1, hz2⟩ := info_parts infoU8
  have h := run_make (P := Try.prog) w 25 5 i0 _ Try.underlying25 hi hz0 .i64 .i64 (n : Int) (n : Int) (by omega) (by omega) (by rw [hz2]; omega) (by omega)
  rw [hz1, Int.toNat_natCast, Nat.mul_one, made_zB] at h
  exact h
theorem valC_set {w : World} {b o n c : Nat} {m : List UInt8} (h : ValC w (.slice (some ⟨b, o, none⟩) n c) m) (j : Nat) (hj : j < n) (x : UInt8) : ValC (w.setCell ⟨b, o + j, none⟩ (.int .u8 (x.toNat : Int))) (.slice (some ⟨b, o, none⟩) n c) (m.set j x) := by
  obtain ⟨h1, h2, h3, h4⟩ := h.open
  obtain ⟨b2, o2, e, hlt, hc⟩ := h3.at (by omega)
  injection e with e
  injection e with e1 e2
  subst e1; subst e2
  refine ⟨_, c, by rw [List.length_set, h1], by rw [List.length_set, h1]; exact h2, ⟨by rw [bc_length], Or.inr ⟨_, _, rfl, by simpa using hlt, fun i u hi => ?_⟩⟩, fun e => by cases e⟩
  have hil : i < n := by
    have := (List.getElem?_eq_some_iff.1 hi).1
    rw [bc_length, List.length_set, h1] at this
    exact this
  by_cases e : i = j
  · subst e
    rw [World.cell?_setCell_same _ _ _ (hc i hil), ← hi, bc, List.getElem?_map, List.getElem?_set_self (by omega)]
    rfl
  · rw [World.cell?_setCell_other _ _ _ _ (by intro e2; injection e2; omega), hc i hil, ← hi, bc, List.getElem?_map, List.getElem?_set_ne (by omega), List.getD_eq_getElem?_getD, List.getElem?_eq_getElem (by omega)]
    rfl
theorem valC_oth {w : World} {b o n c : Nat} {m : List UInt8} (h : ValC w (.slice (some ⟨b, o, none⟩) n c) m) (a : Addr) (ha : a.block ≠ b) (v : Value) : ValC (w.setCell a v) (.slice (some ⟨b, o, none⟩) n c) m :=
  h.kept (by simp) (fun b' off l c' e => Or.inr (by injection e with e; injection e with e; injection e with e _; subst e; exact Below.heap_setCell _ _ _ _ (fun e2 => ha e2.symm)))
theorem two_new (w : World) (n1 n2 : Nat) (C1 C2 : Array Value) (h1 : (bc (zB n1)).toArray = C1) (h2 : (bc (zB n2)).toArray = C2) :
    ValC ((w.alloc (.cells C1 5)).alloc (.cells C2 5)).drew (.slice (some ⟨w.heap.size, 0, none⟩) n1 n1) (zB n1) ∧ ValC ((w.alloc (.cells C1 5)).alloc (.cells C2 5)).drew (.slice (some ⟨w.heap.size + 1, 0, none⟩) n2 n2) (zB n2) ∧ Below w.heap.size w ((w.alloc (.cells C1 5)).alloc (.cells C2 5)).drew ∧ (∀ j, ((w.alloc (.cells C1 5)).alloc (.cells C2 5)).drew.frozen? ⟨w.heap.size, j, none⟩ = false) ∧ ∀ j, ((w.alloc (.cells C1 5)).alloc (.cells C2 5)).drew.frozen? ⟨w.heap.size + 1, j, none⟩ = false := by
  have a1 := valC_mark w C1 (zB n1) h1.symm 5 (0, 0) w.heap.size n1 rfl (zB_len n1).symm
  have b1 := (Below.refl w.heap.size w).alloc (Nat.le_refl _) (.cells C1 5)
  have f1 : ∀ j, (w.alloc (.cells C1 5)).frozen? ⟨w.heap.size, j, none⟩ = false := fun j => by rw [World.frozen?_alloc_new]
  obtain ⟨w1, hw1⟩ : ∃ z, w.alloc (.cells C1 5) = z := ⟨_, rfl⟩
  have s1 : w1.heap.size = w.heap.size + 1 := by rw [← hw1, World.size_alloc]
  rw [hw1] at a1 b1 f1 ⊢
  have a2 := valC_mark w1 C2 (zB n2) h2.symm 5 (0, 0) w1.heap.size n2 rfl (zB_len n2).symm
  have b2 := (Below.refl w1.heap.size w1).alloc (Nat.le_refl _) (.cells C2 5)
  have f2 : ∀ j, (w1.alloc (.cells C2 5)).frozen? ⟨w1.heap.size, j, none⟩ = false := fun j => by rw [World.frozen?_alloc_new]
  rw [s1] at a2 f2
  refine ⟨(a1.below b2).below (Below.refl _ _).drew, a2.below (Below.refl _ _).drew, ((b1.trans (b2.mono (by omega))).drew), fun j => ?_, fun j => f2 j⟩
  exact (World.frozen?_of_block (a := ⟨w.heap.size, j, none⟩) (b2.block w.heap.size (by omega))).trans (f1 j)
def exX : List UInt8 := (zB 256).set 0 1
def exY : List UInt8 := ((zB 300).set 0 2).set 256 3
theorem three_set (w W : World) (gx gy : Nat) (hx : ValC W (.slice (some ⟨gx, 0, none⟩) 256 256) (zB 256)) (hy : ValC W (.slice (some ⟨gy, 0, none⟩) 300 300) (zB 300)) (hne : gx ≠ gy) (hb : Below w.heap.size w W) (h1 : w.heap.size ≤ gx) (h2 : w.heap.size ≤ gy) :
    ValC (((W.setCell ⟨gx, 0, none⟩ (.int .u8 1)).setCell ⟨gy, 0, none⟩ (.int .u8 2)).setCell ⟨gy, 256, none⟩ (.int .u8 3)) (.slice (some ⟨gx, 0, none⟩) 256 256) exX ∧ ValC (((W.setCell ⟨gx, 0, none⟩ (.int .u8 1)).setCell ⟨gy, 0, none⟩ (.int .u8 2)).setCell ⟨gy, 256, none⟩ (.int .u8 3)) (.slice (some ⟨gy, 0, none⟩) 300 300) exY ∧ Below w.heap.size w (((W.setCell ⟨gx, 0, none⟩ (.int .u8 1)).setCell ⟨gy, 0, none⟩ (.int .u8 2)).setCell ⟨gy, 256, none⟩ (.int .u8 3)) := by
  refine ⟨?_, ?_, ?_⟩
  · exact valC_oth (valC_oth (valC_set hx 0 (by omega) 1) ⟨gy, 0, none⟩ (fun e => hne e.symm) _) ⟨gy, 256, none⟩ (fun e => hne e.symm) _
  · have h3 := valC_set (valC_set (valC_oth hy ⟨gx, 0, none⟩ hne (.int .u8 1)) 0 (by omega) 2) 256 (by omega) 3
    exact h3
  · exact ((hb.setCell (p := ⟨gx, 0, none⟩) h1 _).setCell (p := ⟨gy, 0, none⟩) h2 _).setCell (p := ⟨gy, 256, none⟩) h2 _
theorem valC_at {w : World} {b o n c : Nat} {m : List UInt8} (h : ValC w (.slice (some ⟨b, o, none⟩) n c) m) (j : Nat) (hj : j < n) : w.cell? ⟨b, o + j, none⟩ = some (.int .u8 ((m.getD j 0).toNat : Int)) := by
  obtain ⟨b2, o2, e, hlt, hc⟩ := h.open.2.2.1.at (by omega)
  injection e with e
  injection e with e1 e2
  subst e1; subst e2
  exact hc j hj
def d5 : DkP := ⟨5, fun _ => zeroS, fun _ => zeroS, [], false, 0, 0, [], 5, 5⟩
def d6 : DkP := { d5 with R := updS (fun _ => zeroS) 0 (secP exX 0), P := [(0, secP exX 0)], wr := 1 }
def d7 : DkP := { d6 with D := d6.R, P := [] }
def d10 : DkP := { crash { d7 with R := updS (updS d7.R 0 (secP exY 0)) 1 (secP exY 1), P := [(0, secP exY 0), (1, secP exY 1)], wr := 3 } [2] with down := false }
def d8 : DkP := { d7 with R := updS (updS d7.R 0 (secP exY 0)) 1 (secP exY 1), P := [(0, secP exY 0), (1, secP exY 1)], wr := 3 }
set_option maxRecDepth 100000 in
theorem lenX : exX.length = 256 := by decide +kernel
set_option maxRecDepth 100000 in
theorem lenY : exY.length = 300 := by decide +kernel
theorem flat1 (b : List UInt8) : [b].flatten = b := by simp
set_option maxRecDepth 100000 in
theorem r0 : (bc (d10.R 0))[0]? = some (.int .u8 1) := by rfl
set_option maxRecDepth 100000 in
theorem r1 : (bc (d10.R 1))[0]? = some (.int .u8 3) := by rfl
theorem ValC.frm {w w' : World} {bs : List Nat} {g o n c : Nat} {m : List UInt8} (h : ValC w (.slice (some ⟨g, o, none⟩) n c) m) (hf : Frm w w' bs) (hg : g ∉ bs) : ValC w' (.slice (some ⟨g, o, none⟩) n c) m :=
  h.kept hf.size (fun b off l c' e => by
    rcases h.lt b off l c' e with h1 | h1
    · exact Or.inl h1
    · injection e with e; injection e with e; injection e with e _; subst e
      exact Or.inr (hf.block _ h1 hg))
theorem wr6 : writeP d5 0 [exX].flatten = (d6, 0) := by
  rw [flat1, writeP, lenX]
  rfl
theorem wr8 : writeP d7 0 [exY].flatten = (d8, 0) := by
  rw [flat1, writeP, lenY]
  rfl
set_option maxRecDepth 100000 in
set_option maxHeartbeats 8000000 in
theorem first13 (w : World) : Calls Try.prog 23 #[] w fun e w' => e = .returned (.bool true) ∧ Below w.heap.size w w' := by
  have hm1 : ∀ w, (Instr.makeSlice 25 (.int .i64 256) (.int .i64 256)).run Try.prog w = .ok (.slice (some ⟨w.heap.size, 0, none⟩) 256 256) (w.alloc (.cells (bc (zB 256)).toArray 5)) := make_run8 256 (by decide)
  have hm2 : ∀ w, (Instr.makeSlice 25 (.int .i64 300) (.int .i64 300)).run Try.prog w = .ok (.slice (some ⟨w.heap.size, 0, none⟩) 300 300) (w.alloc (.cells (bc (zB 300)).toArray 5)) := make_run8 300 (by decide)
  obtain ⟨C1, hC1⟩ : ∃ C, (bc (zB 256)).toArray = C := ⟨_, rfl⟩
  obtain ⟨C2, hC2⟩ : ∃ C, (bc (zB 300)).toArray = C := ⟨_, rfl⟩
  simp only [hC1] at hm1
  simp only [hC2] at hm2
  have HC1 := Lib.hid hC1
  have HC2 := Lib.hid hC2
  clear hC1 hC2
  go_enter Try.func23, Try.ntmps23
  go_wp2_with fail
  refine (newD_yes 5 w (by decide) (by decide)).mono ?_; rintro e w1 ⟨q, bs, rfl, hs1, hbs, hb1⟩
  have HS1 := Lib.hid hs1
  have HBS := Lib.hid hbs
  have HB1 := Lib.hid hb1
  clear hs1 hbs hb1
  go_upto_region 4 with (fail)
  go_region
  obtain ⟨hx, hy, hb, fx, fy⟩ := two_new w1 256 300 C1 C2 HC1.out HC2.out
  obtain ⟨W, hW⟩ : ∃ z, ((w1.alloc (.cells C1 5)).alloc (.cells C2 5)).drew = z := ⟨_, rfl⟩
  rw [hW] at hx hy hb fx fy ⊢
  obtain ⟨gy, hgy⟩ : ∃ g, w1.heap.size + 1 = g := ⟨_, rfl⟩
  rw [hgy] at hy fy ⊢
  obtain ⟨gx, hgx⟩ : ∃ g, w1.heap.size  = g := ⟨_, rfl⟩
  rw [hgx] at hx fx ⊢
  have hne : gx ≠ gy := by omega
  have hne2 : gy ≠ gx := by omega
  have h3 := three_set w1 W gx gy hx hy hne hb (by omega) (by omega)
  have HGY := Lib.hid (show w1.heap.size ≤ gy by omega)
  clear hW hgx hgy hb hm1 hm2 HC1 HC2
  rotate_left
  obtain ⟨hy, hx, hb, fy, fx⟩ := two_new w1 300 256 C2 C1 HC2.out HC1.out
  obtain ⟨W, hW⟩ : ∃ z, ((w1.alloc (.cells C2 5)).alloc (.cells C1 5)).drew = z := ⟨_, rfl⟩
  rw [hW] at hx hy hb fx fy ⊢
  obtain ⟨gx, hgx⟩ : ∃ g, w1.heap.size + 1 = g := ⟨_, rfl⟩
  rw [hgx] at hx fx ⊢
  obtain ⟨gy, hgy⟩ : ∃ g, w1.heap.size  = g := ⟨_, rfl⟩
  rw [hgy] at hy fy ⊢
  have hne : gx ≠ gy := by omega
  have hne2 : gy ≠ gx := by omega
  have h3 := three_set w1 W gx gy hx hy hne hb (by omega) (by omega)
  have HGY := Lib.hid (show w1.heap.size ≤ gy by omega)
  clear hW hgx hgy hb hm1 hm2 HC1 HC2
  all_goals
    have k0x : W.cell? ⟨gx, 0, none⟩ = some (.int .u8 0) := valC_at hx 0 (by decide)
    have k0y : W.cell? ⟨gy, 0, none⟩ = some (.int .u8 0) := valC_at hy 0 (by decide)
    have k1y : W.cell? ⟨gy, 256, none⟩ = some (.int .u8 0) := by have := valC_at hy 256 (by decide); rw [Nat.zero_add] at this; exact this
    have f0x := fx 0
    have f0y := fy 0
    have f1y := fy 256
    have H3 := Lib.hid h3
    clear h3 hx hy fx fy
    go_upto_region 6 with (fail)
    obtain ⟨w5, hw5⟩ : ∃ z, (((W.setCell ⟨gx, 0, none⟩ (.int .u8 1)).setCell ⟨gy, 0, none⟩ (.int .u8 2)).setCell ⟨gy, 256, none⟩ (.int .u8 3)) = z := ⟨_, rfl⟩
    rw [hw5] at H3 ⊢
    clear hw5 k0x k0y k1y f0x f0y f1y
    have HS5 := Lib.hid (show DkS w5 bs q d5 from HS1.out.below H3.out.2.2)
    have HM5 := Lib.hid (rowBC_lit1 w5 (.slice (some ⟨gx, 0, none⟩) 256 256) exX w5.heap.size rfl H3.out.1).bb
    have hba := (Below.refl w5.heap.size w5).alloc (Nat.le_refl _) (.cells #[.slice (some ⟨gx, 0, none⟩) 256 256] 25)
    have HS5A := Lib.hid (HS5.out.below hba)
    have HBA := Lib.hid hba
    clear hba
    have HB5A := Lib.hid ((HB1.out.trans (H3.out.2.2.mono HB1.out.size)).trans (HBA.out.mono (Nat.le_trans HB1.out.size H3.out.2.2.size)))
    have HGB := Lib.hid (show gy ∉ bs from fun e => by have h1 := HS1.out.lt gy e; have h2 := HGY.out; omega)
    have HY5 := Lib.hid (H3.out.2.1.below HBA.out)
    have HYL := Lib.hid (show gy < (w5.alloc (.cells #[.slice (some ⟨gx, 0, none⟩) 256 256] 25)).heap.size by
      rcases HY5.out.lt gy 0 300 300 rfl with h1 | h1
      · omega
      · exact h1)
    go_wp2_with fail
    refine (write_up q 0 (some ⟨w5.heap.size, 0, none⟩) 1 1 [exX] bs d5 _ HS5A.out rfl HM5.out (by decide) (by rw [flat1, lenX]; decide) (by decide) (by decide) (by decide) (by decide) (by decide)).mono ?_; rintro e w6 ⟨rfl, ⟨cs, hs6, hcs6⟩, hf6⟩
    rw [wr6] at hs6 ⊢
    have HS6 := Lib.hid hs6
    have HB6 := Lib.hid (hf6.under HB5A.out HBS.out HB5A.out.size)
    have HCS := Lib.hid (show ∀ g ∈ cs, w.heap.size ≤ g from fun g hg => by
      rcases hcs6 g hg with h1 | h1
      · exact HBS.out g h1
      · exact Nat.le_trans HB5A.out.size h1)
    have HGC := Lib.hid (show gy ∉ cs from fun e => by
      rcases hcs6 gy e with h1 | h1
      · exact HGB.out h1
      · exact absurd HYL.out (Nat.not_lt_of_le h1))
    have HY6 := Lib.hid (HY5.out.frm hf6 HGB.out)
    clear hs6 hcs6 hf6 HM5 HS5A HBA HB5A HY5 HYL HGB HS5 H3
    go_wp2_with fail
    refine (flush_any q cs d6 w6 HS6.out rfl).mono ?_; rintro e w7 ⟨rfl, hs7, hf7⟩
    have HS7 := Lib.hid (show DkS w7 cs q d7 from hs7)
    have HB7 := Lib.hid (hf7.under HB6.out HCS.out HB6.out.size)
    have HY7 := Lib.hid (HY6.out.frm hf7 HGC.out)
    have hba := (Below.refl w7.heap.size w7).alloc (Nat.le_refl _) (.cells #[.slice (some ⟨gy, 0, none⟩) 300 300] 25)
    have HM7 := Lib.hid (rowBC_lit1 w7 (.slice (some ⟨gy, 0, none⟩) 300 300) exY w7.heap.size rfl HY7.out).bb
    have HS7A := Lib.hid (HS7.out.below hba)
    have HB7A := Lib.hid (HB7.out.trans (hba.mono HB7.out.size))
    clear hs7 hf7 hba HY6
    go_wp2_with fail
    refine (write_up q 0 (some ⟨w7.heap.size, 0, none⟩) 1 1 [exY] cs d7 _ HS7A.out rfl HM7.out (by decide) (by rw [flat1, lenY]; decide) (by decide) (by decide) (by decide) (by decide) (by decide)).mono ?_; rintro e w8 ⟨rfl, ⟨ds, hs8, hds8⟩, hf8⟩
    rw [wr8] at hs8 ⊢
    have HS8 := Lib.hid hs8
    have HB8 := Lib.hid (hf8.under HB7A.out HCS.out HB7A.out.size)
    have HDS := Lib.hid (show ∀ g ∈ ds, w.heap.size ≤ g from fun g hg => by
      rcases hds8 g hg with h1 | h1
      · exact HCS.out g h1
      · exact Nat.le_trans HB7A.out.size h1)
    clear hs8 hds8 hf8 HM7 HS7A HB7A HY7
    have hba := (Below.refl w8.heap.size w8).alloc (Nat.le_refl _) (.cells #[.int .u8 2] 5)
    have HS8A := Lib.hid (HS8.out.below hba)
    have HB8A := Lib.hid (HB8.out.trans (hba.mono HB8.out.size))
    have HV8 := Lib.hid (valC_mark w8 #[.int .u8 2] [2] rfl 5 (0, 0) w8.heap.size 1 rfl rfl)
    have HDL := Lib.hid (show w8.heap.size ∉ ds from fun e => by have h1 := HS8.out.lt _ e; omega)
    clear hba
    go_wp2_with fail
    obtain ⟨qd9, qr9, pv9, mv9, hB9, hA9, hW9⟩ := HS8A.out
    refine (crash_core q qd9 qr9 pv9 mv9 ds d8 (some ⟨w8.heap.size, 0, none⟩) 1 1 [2] _ hB9 hA9 hW9 rfl HV8.out (fun b off e => Or.inr (by injection e with e; injection e with e _; subst e; exact fun e2 => HDL.out (by rw [e2]; exact hA9.1.2.2.1))) (by decide) (by decide)).mono ?_; rintro e w9 ⟨rfl, hs9, hf9⟩
    have HS9 := Lib.hid hs9
    have HB9 := Lib.hid (hf9.under HB8A.out HDS.out HB8A.out.size)
    clear hB9 hA9 hW9 hs9 hf9 HS8A HB8A HV8 HDL
    go_wp2_with fail
    refine (reboot_any q ds _ w9 HS9.out).mono ?_; rintro e w10 ⟨rfl, hs10, hf10⟩
    have HS10 := Lib.hid (show DkS w10 ds q d10 from hs10)
    have HB10 := Lib.hid (hf10.under HB9.out HDS.out HB9.out.size)
    clear hs10 hf10
    go_wp2_with fail
    refine (read_yes q 0 ds d10 w10 HS10.out (by decide) rfl).mono ?_; rintro e w11 ⟨v11, rfl, ho11, hb11⟩
    obtain ⟨g11, c11, rfl, ho11'⟩ : ∃ g c, v11 = .slice (some ⟨g, 0, none⟩) 256 c ∧ True := by
      rcases ho11.2 with ⟨_, h1⟩ | ⟨g, c', d', h1, _⟩
      · omega
      · exact ⟨g, c', h1, trivial⟩
    have k11 := ownsRow_at ho11 0 _ r0
    have HB11 := Lib.hid (HB10.out.trans (hb11.mono HB10.out.size))
    have HS11 := Lib.hid (HS10.out.below hb11)
    clear ho11' hb11 ho11
    go_wp2_with fail
    refine (read_yes q 1 ds d10 w11 HS11.out (by decide) rfl).mono ?_; rintro e w12 ⟨v12, rfl, ho12, hb12⟩
    obtain ⟨g12, c12, rfl, ho12'⟩ : ∃ g c, v12 = .slice (some ⟨g, 0, none⟩) 256 c ∧ True := by
      rcases ho12.2 with ⟨_, h1⟩ | ⟨g, c', d', h1, _⟩
      · omega
      · exact ⟨g, c', h1, trivial⟩
    have k12 := ownsRow_at ho12 0 _ r1
    have k11' := cell_later hb12 k11
    have HB12 := Lib.hid (HB11.out.trans (hb12.mono HB11.out.size))
    clear ho12' hb12 ho12 k11
    go_wp2
    go_ret
    exact ⟨rfl, HB12.out⟩
end Go.Proofs.Ytocfphijheidbaa
