/- Waits parted: contracts of part (at Expire's closure, at Drop's), of Expire, Drop, Waits and Len. -/
import Derived.Test.YtocfphijheidbaaTbC
namespace Go.Proofs.Ytocfphijheidbaa
open Go.RowKit

def zWt : Value := .agg #[.int .i64 0, .int .i64 0, .string ⟨#[]⟩, .bool false, .string ⟨#[]⟩, .int .i64 0, .int .i64 0, .int .i64 0, .int .i64 0]
theorem infoWt : (Try.prog.info? 79).map (fun i => (i.zero, i.size, i.bytes)) = some (some zWt, 9, 88) := by kernel_rfl
/-- Two rows of Waits, apart from each other. -/
structure Prt (B : Nat) (w : World) (v5 v6 : Value) (A C : List WtP) : Prop where
  a : w.ownsRow 0 79 9 v5 A.length (flatW A)
  c : w.ownsRow 0 79 9 v6 C.length (flatW C)
  ba : ∀ g, v5.ownBlock = some g → B ≤ g
  bc : ∀ g, v6.ownBlock = some g → B ≤ g
  ne : ∀ g, v5.ownBlock = some g → v6.ownBlock ≠ some g
theorem Prt.below {B : Nat} {w w' : World} {v5 v6 : Value} {A C : List WtP} (h : Prt B w v5 v6 A C) (hb : Below w.heap.size w w') : Prt B w' v5 v6 A C :=
  ⟨own_below' h.a hb, own_below' h.c hb, h.ba, h.bc, h.ne⟩
theorem Prt.more5 {B : Nat} {w w' : World} {v5 v6 v' : Value} {A C : List WtP} {r : WtP} (h : Prt B w v5 v6 A C) (hB : B ≤ w.heap.size) (h1 : w'.ownsRow 0 79 9 v' (A.length + 1) (flatW A ++ encW r)) (h2 : w.grownBy w' v5.ownBlock) (h3 : ∀ g, v'.ownBlock = some g → v5.ownBlock = some g ∨ w.heap.size ≤ g) : Prt B w' v' v6 (A ++ [r]) C := by
  refine ⟨by rw [List.length_append, List.length_singleton, flatW_app, flatW_one1]; exact h1, h.c.kept h2 ?_, fun g hg => ?_, h.bc, fun g hg e => ?_⟩
  · cases e : v6.ownBlock with
    | none => exact Or.inl rfl
    | some g => exact Or.inr (fun e2 => h.ne g e2.symm e)
  · rcases h3 g hg with h4 | h4
    · exact h.ba g h4
    · exact Nat.le_trans hB h4
  · rcases h3 g hg with h4 | h4
    · exact h.ne g h4 e
    · have := (h.c.lt g e).2; omega
theorem Prt.more6 {B : Nat} {w w' : World} {v5 v6 v' : Value} {A C : List WtP} {r : WtP} (h : Prt B w v5 v6 A C) (hB : B ≤ w.heap.size) (h1 : w'.ownsRow 0 79 9 v' (C.length + 1) (flatW C ++ encW r)) (h2 : w.grownBy w' v6.ownBlock) (h3 : ∀ g, v'.ownBlock = some g → v6.ownBlock = some g ∨ w.heap.size ≤ g) : Prt B w' v5 v' A (C ++ [r]) := by
  refine ⟨h.a.kept h2 ?_, by rw [List.length_append, List.length_singleton, flatW_app, flatW_one1]; exact h1, h.ba, fun g hg => ?_, fun g hg e => ?_⟩
  · cases e : v5.ownBlock with
    | none => exact Or.inl rfl
    | some g => exact Or.inr (fun e2 => h.ne g e e2.symm)
  · rcases h3 g hg with h4 | h4
    · exact h.bc g h4
    · exact Nat.le_trans hB h4
  · rcases h3 g e with h4 | h4
    · exact h.ne g hg h4
    · have := (h.a.lt g hg).2; omega
theorem take_more {l : List WtP} {k : Nat} {r : WtP} (h : l[k]? = some r) : l.take (k + 1) = l.take k ++ [r] := by
  obtain ⟨h1, h2⟩ := List.getElem?_eq_some_iff.1 h
  rw [List.take_succ_eq_append_getElem h1, h2]
theorem filt_yes {l : List WtP} {k : Nat} {r : WtP} {p : WtP → Bool} (h : l[k]? = some r) (hp : p r = true) : (l.take (k + 1)).filter p = (l.take k).filter p ++ [r] ∧ (l.take (k + 1)).filter (fun x => !p x) = (l.take k).filter (fun x => !p x) := by
  rw [take_more h, List.filter_append, List.filter_append]
  simp [List.filter, hp]
theorem filt_no {l : List WtP} {k : Nat} {r : WtP} {p : WtP → Bool} (h : l[k]? = some r) (hp : p r = false) : (l.take (k + 1)).filter p = (l.take k).filter p ∧ (l.take (k + 1)).filter (fun x => !p x) = (l.take k).filter (fun x => !p x) ++ [r] := by
  rw [take_more h, List.filter_append, List.filter_append]
  simp [List.filter, hp]
theorem filt_len (l : List WtP) (p : WtP → Bool) (k : Nat) : ((l.take k).filter p).length ≤ k := Nat.le_trans (List.length_filter_le _ _) (by rw [List.length_take]; exact Nat.min_le_left _ _)
/-- What part leaves. -/
def PartPost (w : World) (bs : List Nat) (q : Nat) (s : TbP) (p : WtP → Bool) (v : Value) (w' : World) : Prop :=
  w'.ownsRow w.heap.size 79 9 v (s.ws.filter p).length (flatW (s.ws.filter p)) ∧ (∃ cs, TbS w' cs q { s with ws := s.ws.filter (fun x => !p x) } ∧ (∀ g ∈ cs, g ∈ bs ∨ w.heap.size ≤ g) ∧ ∀ g, v.ownBlock = some g → g ∉ cs) ∧ Frm w w' [q]
theorem part_end {w wr : World} {bs : List Nat} {q : Nat} {s : TbP} {p : WtP → Bool} {v5 v6 : Value} (h : TbS w bs q s) (hb : Below w.heap.size w wr) (hp : Prt w.heap.size wr v5 v6 (s.ws.filter p) (s.ws.filter (fun x => !p x))) : PartPost w bs q s p v5 (wr.setCell ⟨q, 2, none⟩ v6) := by
  have hq := h.lt q h.choose_spec.2.1.1
  have hk : ∀ g, g ≠ q → (wr.setCell ⟨q, 2, none⟩ v6).heap[g]? = wr.heap[g]? := fun g hg => Below.heap_setCell _ _ _ _ hg
  obtain ⟨wv, ⟨h1, -⟩, ⟨a1, -⟩, -⟩ := h.below hb
  have hpa : ∀ g, v5.ownBlock = some g → g ≠ q := fun g hg e => by have := hp.ba g hg; omega
  have hpc : ∀ g, v6.ownBlock = some g → g ≠ q := fun g hg e => by have := hp.bc g hg; omega
  have h5 := own_kept hp.a (fun g hg => hk g (hpa g hg))
  have h6 := own_kept hp.c (fun g hg => hk g (hpc g hg))
  have hmm : ∀ x, x ∈ q :: v6.ownBlock.toList ↔ x = q ∨ v6.ownBlock = some x := by
    intro x
    simp [Option.mem_toList]
  refine ⟨⟨h5.1, ?_⟩, ⟨q :: v6.ownBlock.toList, ⟨v6, ⟨h1.set 2 (by simp) _, h6⟩, ⟨(hmm _).2 (Or.inl rfl), fun g hg => ⟨(hmm _).2 (Or.inr hg), hpc g hg⟩⟩, fun b hx => ?_⟩, fun g hg => ?_, fun g hg e => ?_⟩, ((Frm.refl w [q]).below hb (Nat.le_refl _)).set q 2 (Or.inl (by simp)) _⟩
  · rcases h5.2 with e | ⟨g, cap, cur, e, _, e3⟩
    · exact Or.inl e
    · exact Or.inr ⟨g, cap, cur, e, hp.ba g (by rw [e]; rfl), e3⟩
  · rw [show (wr.setCell ⟨q, 2, none⟩ v6).heap.size = wr.heap.size by simp]
    rcases (hmm b).1 hx with rfl | e
    · exact Nat.lt_of_lt_of_le hq hb.size
    · exact (hp.c.lt b e).2
  · rcases (hmm g).1 hg with rfl | e
    · exact Or.inl h.choose_spec.2.1.1
    · exact Or.inr (hp.bc g e)
  · rcases (hmm g).1 e with h7 | h7
    · exact hpa g hg h7
    · exact hp.ne g hg h7
set_option maxRecDepth 100000 in
set_option maxHeartbeats 4000000 in
theorem part_exp (bs : List Nat) (q : Nat) (s : TbP) (now : Int) (g : Nat) (w : World) (h : TbS w bs q s) (hn : s.ws.length ≤ 10000) (hk : w.cell? ⟨g, 0, none⟩ = some (.int .i64 now)) :
    Calls Try.prog 86 #[.pointer (some ⟨q, 0, none⟩), .func (Fn.func 87) #[] #[.pointer (some ⟨g, 0, none⟩)]] w fun e w' => ∃ v, e = .returned v ∧ PartPost w bs q s (fun x => decide (x.until_ ≤ now)) v w' := by
  have HT := Lib.hid h
  obtain ⟨wv, ⟨hc, ho⟩, -, -⟩ := h
  obtain ⟨-, -, c2, -, -⟩ := hc.u3
  obtain ⟨a, c, rfl, -, hnil⟩ := cellsK_own ho
  obtain ⟨i0, hi, hz0, hz1, hz2⟩ := info_parts infoWt
  have HI := Lib.hid hi
  have HZ0 := Lib.hid hz0
  have HZ1 := Lib.hid hz1
  have HZ2 := Lib.hid hz2
  have HO := Lib.hid ho
  have HK := Lib.hid hk
  clear hk
  have HNN := Lib.hid hn
  obtain ⟨l, hl⟩ : ∃ z, s.ws = z := ⟨_, rfl⟩
  rw [hl] at HO c2 HNN
  have HWS := Lib.hid hl
  obtain ⟨n, hln⟩ : ∃ z, l.length = z := ⟨_, rfl⟩
  rw [hln] at HO c2 HNN
  have HL := Lib.hid hln
  have hn2 := HNN.out
  clear hi hz0 hz1 hz2 hc ho hnil hn hl hln
  go_enter Try.func86, Try.ntmps86
  go_wp2_with fail
  go_loopw [5, 6, 14] (fun v5 v6 i wr => ∃ k : Nat, k ≤ n ∧ i = .int .i64 k ∧ Hid (Prt w.heap.size wr v5 v6 ((l.take k).filter (fun x => decide (x.until_ ≤ now))) ((l.take k).filter (fun x => !(fun x => decide (x.until_ ≤ now)) x))) ∧ Hid (Below w.heap.size w wr)) (fun _ _ i _ => n - (intOf i).toNat)
  case atStart => exact ⟨0, Nat.zero_le _, rfl, Lib.hid ⟨World.ownsRow_nil _ _ _ _, World.ownsRow_nil _ _ _ _, (fun g hg => by cases hg), (fun g hg => by cases hg), (fun g hg => by cases hg)⟩, Lib.hid (Below.refl _ _)⟩
  case round =>
    obtain ⟨k, hk, rfl, HP, HB⟩ := hrel
    by_cases hlt : k < n
    · obtain ⟨gb, c', e⟩ : ∃ gb c', (Value.slice a n c) = .slice (some ⟨gb, 0, none⟩) n c' := by
        rcases HO.out.2 with ⟨_, h1⟩ | ⟨g', cap, cur, e, _⟩
        · omega
        · exact ⟨g', cap, e⟩
      injection e with e1 _ e3
      subst e1
      subst e3
      obtain ⟨x, hs⟩ : ∃ s, l[k]? = some s := ⟨_, List.getElem?_eq_getElem (by have := HL.out; omega)⟩
      have HS := Lib.hid hs
      obtain ⟨f0, f1, f2, f3, f4, f5, f6, f7, f8⟩ := row_cellsW (own_below' HO.out HB.out) hs
      obtain ⟨⟨mi, mp, mx, mt⟩, ⟨mn, my, mc⟩, mj, mu⟩ := x
      have i1 : (0 : Int) ≤ (k : Int) := by omega
      have i2 : (k : Int) < (n : Int) := by omega
      have d0 : decide (k < n) = true := dT hlt
      have HLT := Lib.hid hlt
      have hba := (Below.refl wr.heap.size wr).alloc (Nat.le_refl _) (.cells #[.int .i64 mi, .int .i64 mp, .string mx, .bool mt, .string mn, .int .i64 my, .int .i64 mc, .int .i64 mj, .int .i64 mu] 79)
      have HQ := Lib.hid (show DC (wr.alloc (.cells #[.int .i64 mi, .int .i64 mp, .string mx, .bool mt, .string mn, .int .i64 my, .int .i64 mc, .int .i64 mj, .int .i64 mu] 79)) wr.heap.size [.int .i64 mi, .int .i64 mp, .string mx, .bool mt, .string mn, .int .i64 my, .int .i64 mc, .int .i64 mj, .int .i64 mu] from fun j c hj => by rw [World.cell?_alloc_new, World.frozen?_alloc_new, ← hj]; exact ⟨by simp, rfl⟩)
      have HB1 := Lib.hid (HB.out.trans (hba.mono HB.out.size))
      have HP1 := Lib.hid (HP.out.below hba)
      have HSZ := Lib.hid (show wr.heap.size < (wr.alloc (.cells #[.int .i64 mi, .int .i64 mp, .string mx, .bool mt, .string mn, .int .i64 my, .int .i64 mc, .int .i64 mj, .int .i64 mu] 79)).heap.size from by rw [World.size_alloc]; omega)
      obtain ⟨w1, hw1⟩ : ∃ z, wr.alloc (.cells #[.int .i64 mi, .int .i64 mp, .string mx, .bool mt, .string mn, .int .i64 my, .int .i64 mc, .int .i64 mj, .int .i64 mu] 79) = z := ⟨_, rfl⟩
      obtain ⟨gB, hgB⟩ : ∃ z, wr.heap.size = z := ⟨_, rfl⟩
      rw [hw1] at HQ HB1 HP1 HSZ
      rw [hgB] at HQ HSZ
      have HW1 := Lib.hid hw1
      have HGB := Lib.hid hgB
      clear hs hba hw1 hgB hlt
      go_upto_region 5 with (fail)
      rw [HW1.out, HGB.out]
      clear HW1 HGB f0 f1 f2 f3 f4 f5 f6 f7 f8 HP HB
      have b0 := (HQ.out 0 _ rfl).1
      have b1 := (HQ.out 1 _ rfl).1
      have b2 := (HQ.out 2 _ rfl).1
      have b3 := (HQ.out 3 _ rfl).1
      have b4 := (HQ.out 4 _ rfl).1
      have b5 := (HQ.out 5 _ rfl).1
      have b6 := (HQ.out 6 _ rfl).1
      have b7 := (HQ.out 7 _ rfl).1
      have b8 := (HQ.out 8 _ rfl).1
      go_wp2_with fail
      refine (exp1_any mi mp mx mt mn my mc mj mu now g w1 (cell_later HB1.out HK.out)).mono ?_; rintro e w2 ⟨rfl, hb2⟩
      have HQ2 := Lib.hid (HQ.out.kept (hb2.block gB HSZ.out))
      have HB2 := Lib.hid (HB1.out.trans (hb2.mono HB1.out.size))
      have HP2 := Lib.hid (HP1.out.below hb2)
      clear hb2 b0 b1 b2 b3 b4 b5 b6 b7 b8 HQ HB1 HP1
      have b0 := (HQ2.out 0 _ rfl).1
      have b1 := (HQ2.out 1 _ rfl).1
      have b2 := (HQ2.out 2 _ rfl).1
      have b3 := (HQ2.out 3 _ rfl).1
      have b4 := (HQ2.out 4 _ rfl).1
      have b5 := (HQ2.out 5 _ rfl).1
      have b6 := (HQ2.out 6 _ rfl).1
      have b7 := (HQ2.out 7 _ rfl).1
      have b8 := (HQ2.out 8 _ rfl).1
      obtain ⟨A, hA⟩ : ∃ z, (l.take k).filter (fun x => decide (x.until_ ≤ now)) = z := ⟨_, rfl⟩
      obtain ⟨C, hC⟩ : ∃ z, (l.take k).filter (fun x => !(fun x => decide (x.until_ ≤ now)) x) = z := ⟨_, rfl⟩
      rw [hA, hC] at HP2
      have HAE := Lib.hid hA
      have HCE := Lib.hid hC
      have hal := (Below.refl w2.heap.size w2).alloc (Nat.le_refl _) (.cells #[.int .i64 mi, .int .i64 mp, .string mx, .bool mt, .string mn, .int .i64 my, .int .i64 mc, .int .i64 mj, .int .i64 mu] 79)
      have HPA := Lib.hid (HP2.out.below hal)
      have HBA := Lib.hid (HB2.out.trans (hal.mono HB2.out.size))
      have HCA := Lib.hid (show CellsAt (w2.alloc (.cells #[.int .i64 mi, .int .i64 mp, .string mx, .bool mt, .string mn, .int .i64 my, .int .i64 mc, .int .i64 mj, .int .i64 mu] 79)) (some ⟨w2.heap.size, 0, none⟩) (1 * 9) (encW ⟨⟨mi, mp, mx, mt⟩, ⟨mn, my, mc⟩, mj, mu⟩) from cells_lit w2 #[.int .i64 mi, .int .i64 mp, .string mx, .bool mt, .string mn, .int .i64 my, .int .i64 mc, .int .i64 mj, .int .i64 mu] 79)
      obtain ⟨a5, c5, rfl, -, -⟩ := cellsK_own HPA.out.a
      obtain ⟨a6, c6, rfl, -, -⟩ := cellsK_own HPA.out.c
      have HLA := Lib.hid (show A.length ≤ 10000 ∧ C.length ≤ 10000 from by rw [← hA, ← hC]; exact ⟨Nat.le_trans (filt_len l _ k) (by omega), Nat.le_trans (filt_len l _ k) (by omega)⟩)
      clear hA hC hal
      obtain ⟨ok, hok⟩ : ∃ z, decide (mu ≤ now) = z := ⟨_, rfl⟩
      rw [hok]
      have HOK := Lib.hid hok
      clear hok
      cases ok
      · go_wp2_with (refine wpList_append_fr rfl (.tmp 25) (.tmp 27) 102 79 rfl i0 zWt 9 88 Try.underlying102 HI.out HZ0.out HZ1.out HZ2.out rfl (by decide) (.slice a6 C.length c6) C.length (flatW C) rfl HPA.out.c ⟨w2.heap.size, 0, none⟩ 1 1 (encW ⟨⟨mi, mp, mx, mt⟩, ⟨mn, my, mc⟩, mj, mu⟩) rfl HCA.out (encW_one _) (by have := HLA.out; omega) (by decide) ?_)
        intro v' w3 g1 g2 g3
        have HP3 := Lib.hid (HPA.out.more6 HBA.out.size g1 g2 (by rw [World.size_alloc]; exact g3))
        have HB3 := Lib.hid (HBA.out.grown g2 HBA.out.size (fun j hj => HPA.out.bc j hj))
        clear g1 g2 g3 b0 b1 b2 b3 b4 b5 b6 b7 b8
        go_wp2
        go_roundw
        case rel => exact ⟨k + 1, HLT.out, by go_num, Lib.hid (by
          obtain ⟨y1, y2⟩ := filt_no (p := (fun x => decide (x.until_ ≤ now))) HS.out HOK.out
          rw [y1, y2, HAE.out, HCE.out]
          exact HP3.out), HB3⟩
        case measure =>
          simp only [intOf]
          have := HLT.out
          omega
      · go_wp2_with (refine wpList_append_fr rfl (.tmp 21) (.tmp 23) 102 79 rfl i0 zWt 9 88 Try.underlying102 HI.out HZ0.out HZ1.out HZ2.out rfl (by decide) (.slice a5 A.length c5) A.length (flatW A) rfl HPA.out.a ⟨w2.heap.size, 0, none⟩ 1 1 (encW ⟨⟨mi, mp, mx, mt⟩, ⟨mn, my, mc⟩, mj, mu⟩) rfl HCA.out (encW_one _) (by have := HLA.out; omega) (by decide) ?_)
        intro v' w3 g1 g2 g3
        have HP3 := Lib.hid (HPA.out.more5 HBA.out.size g1 g2 (by rw [World.size_alloc]; exact g3))
        have HB3 := Lib.hid (HBA.out.grown g2 HBA.out.size (fun j hj => HPA.out.ba j hj))
        clear g1 g2 g3 b0 b1 b2 b3 b4 b5 b6 b7 b8
        go_wp2
        go_roundw
        case rel => exact ⟨k + 1, HLT.out, by go_num, Lib.hid (by
          obtain ⟨y1, y2⟩ := filt_yes (p := (fun x => decide (x.until_ ≤ now))) HS.out HOK.out
          rw [y1, y2, HAE.out, HCE.out]
          exact HP3.out), HB3⟩
        case measure =>
          simp only [intOf]
          have := HLT.out
          omega
    · have d0 : decide (k < n) = false := dF hlt
      have hkn : k = n := by omega
      subst hkn
      have HPE := Lib.hid (show Prt w.heap.size wr u5 u6 (s.ws.filter (fun x => decide (x.until_ ≤ now))) (s.ws.filter (fun x => !(fun x => decide (x.until_ ≤ now)) x)) from by
        have h1 := HP.out
        rw [List.take_of_length_le (by rw [HL.out]; exact Nat.le_refl _)] at h1
        rw [HWS.out]
        exact h1)
      have HEND := Lib.hid (part_end HT.out HB.out HPE.out)
      obtain ⟨wv2, ⟨hc2, -⟩, -, -⟩ := HT.out.below HB.out
      have k2 := hc2.u3.2.2.1
      have kf := hc2.u3.2.2.2.2
      obtain ⟨a6, c6, e6, -, -⟩ := cellsK_own HPE.out.c
      subst e6
      clear hc2 hlt hk
      go_wp2
      go_ret
      exact ⟨_, rfl, HEND.out⟩
set_option maxRecDepth 100000 in
set_option maxHeartbeats 4000000 in
theorem part_drop (bs : List Nat) (q : Nat) (s : TbP) (ja : Option Addr) (jn jc : Nat) (jl : List Int) (g : Nat) (w : World) (h : TbS w bs q s) (hn : s.ws.length ≤ 10000) (hk : w.cell? ⟨g, 0, none⟩ = some (.slice ja jn jc)) (hj : Row w ja jn jl) (hjn : jn ≤ 1000000) :
    Calls Try.prog 86 #[.pointer (some ⟨q, 0, none⟩), .func (Fn.func 88) #[] #[.pointer (some ⟨g, 0, none⟩)]] w fun e w' => ∃ v, e = .returned v ∧ PartPost w bs q s (fun x => decide (x.job ∈ jl)) v w' := by
  have HT := Lib.hid h
  obtain ⟨wv, ⟨hc, ho⟩, -, -⟩ := h
  obtain ⟨-, -, c2, -, -⟩ := hc.u3
  obtain ⟨a, c, rfl, -, hnil⟩ := cellsK_own ho
  obtain ⟨i0, hi, hz0, hz1, hz2⟩ := info_parts infoWt
  have HI := Lib.hid hi
  have HZ0 := Lib.hid hz0
  have HZ1 := Lib.hid hz1
  have HZ2 := Lib.hid hz2
  have HO := Lib.hid ho
  have HK := Lib.hid hk
  have HJ := Lib.hid hj
  clear hk hj
  have HNN := Lib.hid hn
  obtain ⟨l, hl⟩ : ∃ z, s.ws = z := ⟨_, rfl⟩
  rw [hl] at HO c2 HNN
  have HWS := Lib.hid hl
  obtain ⟨n, hln⟩ : ∃ z, l.length = z := ⟨_, rfl⟩
  rw [hln] at HO c2 HNN
  have HL := Lib.hid hln
  have hn2 := HNN.out
  clear hi hz0 hz1 hz2 hc ho hnil hn hl hln
  go_enter Try.func86, Try.ntmps86
  go_wp2_with fail
  go_loopw [5, 6, 14] (fun v5 v6 i wr => ∃ k : Nat, k ≤ n ∧ i = .int .i64 k ∧ Hid (Prt w.heap.size wr v5 v6 ((l.take k).filter (fun x => decide (x.job ∈ jl))) ((l.take k).filter (fun x => !(fun x => decide (x.job ∈ jl)) x))) ∧ Hid (Below w.heap.size w wr)) (fun _ _ i _ => n - (intOf i).toNat)
  case atStart => exact ⟨0, Nat.zero_le _, rfl, Lib.hid ⟨World.ownsRow_nil _ _ _ _, World.ownsRow_nil _ _ _ _, (fun g hg => by cases hg), (fun g hg => by cases hg), (fun g hg => by cases hg)⟩, Lib.hid (Below.refl _ _)⟩
  case round =>
    obtain ⟨k, hk, rfl, HP, HB⟩ := hrel
    by_cases hlt : k < n
    · obtain ⟨gb, c', e⟩ : ∃ gb c', (Value.slice a n c) = .slice (some ⟨gb, 0, none⟩) n c' := by
        rcases HO.out.2 with ⟨_, h1⟩ | ⟨g', cap, cur, e, _⟩
        · omega
        · exact ⟨g', cap, e⟩
      injection e with e1 _ e3
      subst e1
      subst e3
      obtain ⟨x, hs⟩ : ∃ s, l[k]? = some s := ⟨_, List.getElem?_eq_getElem (by have := HL.out; omega)⟩
      have HS := Lib.hid hs
      obtain ⟨f0, f1, f2, f3, f4, f5, f6, f7, f8⟩ := row_cellsW (own_below' HO.out HB.out) hs
      obtain ⟨⟨mi, mp, mx, mt⟩, ⟨mn, my, mc⟩, mj, mu⟩ := x
      have i1 : (0 : Int) ≤ (k : Int) := by omega
      have i2 : (k : Int) < (n : Int) := by omega
      have d0 : decide (k < n) = true := dT hlt
      have HLT := Lib.hid hlt
      have hba := (Below.refl wr.heap.size wr).alloc (Nat.le_refl _) (.cells #[.int .i64 mi, .int .i64 mp, .string mx, .bool mt, .string mn, .int .i64 my, .int .i64 mc, .int .i64 mj, .int .i64 mu] 79)
      have HQ := Lib.hid (show DC (wr.alloc (.cells #[.int .i64 mi, .int .i64 mp, .string mx, .bool mt, .string mn, .int .i64 my, .int .i64 mc, .int .i64 mj, .int .i64 mu] 79)) wr.heap.size [.int .i64 mi, .int .i64 mp, .string mx, .bool mt, .string mn, .int .i64 my, .int .i64 mc, .int .i64 mj, .int .i64 mu] from fun j c hj => by rw [World.cell?_alloc_new, World.frozen?_alloc_new, ← hj]; exact ⟨by simp, rfl⟩)
      have HB1 := Lib.hid (HB.out.trans (hba.mono HB.out.size))
      have HP1 := Lib.hid (HP.out.below hba)
      have HSZ := Lib.hid (show wr.heap.size < (wr.alloc (.cells #[.int .i64 mi, .int .i64 mp, .string mx, .bool mt, .string mn, .int .i64 my, .int .i64 mc, .int .i64 mj, .int .i64 mu] 79)).heap.size from by rw [World.size_alloc]; omega)
      obtain ⟨w1, hw1⟩ : ∃ z, wr.alloc (.cells #[.int .i64 mi, .int .i64 mp, .string mx, .bool mt, .string mn, .int .i64 my, .int .i64 mc, .int .i64 mj, .int .i64 mu] 79) = z := ⟨_, rfl⟩
      obtain ⟨gB, hgB⟩ : ∃ z, wr.heap.size = z := ⟨_, rfl⟩
      rw [hw1] at HQ HB1 HP1 HSZ
      rw [hgB] at HQ HSZ
      have HW1 := Lib.hid hw1
      have HGB := Lib.hid hgB
      clear hs hba hw1 hgB hlt
      go_upto_region 5 with (fail)
      rw [HW1.out, HGB.out]
      clear HW1 HGB f0 f1 f2 f3 f4 f5 f6 f7 f8 HP HB
      have b0 := (HQ.out 0 _ rfl).1
      have b1 := (HQ.out 1 _ rfl).1
      have b2 := (HQ.out 2 _ rfl).1
      have b3 := (HQ.out 3 _ rfl).1
      have b4 := (HQ.out 4 _ rfl).1
      have b5 := (HQ.out 5 _ rfl).1
      have b6 := (HQ.out 6 _ rfl).1
      have b7 := (HQ.out 7 _ rfl).1
      have b8 := (HQ.out 8 _ rfl).1
      go_wp2_with fail
      refine (drop1_any mi mp mx mt mn my mc mj mu ja jn jc jl g w1 (cell_later HB1.out HK.out) (HJ.out.below HB1.out) hjn).mono ?_; rintro e w2 ⟨rfl, hb2⟩
      have HQ2 := Lib.hid (HQ.out.kept (hb2.block gB HSZ.out))
      have HB2 := Lib.hid (HB1.out.trans (hb2.mono HB1.out.size))
      have HP2 := Lib.hid (HP1.out.below hb2)
      clear hb2 b0 b1 b2 b3 b4 b5 b6 b7 b8 HQ HB1 HP1
      have b0 := (HQ2.out 0 _ rfl).1
      have b1 := (HQ2.out 1 _ rfl).1
      have b2 := (HQ2.out 2 _ rfl).1
      have b3 := (HQ2.out 3 _ rfl).1
      have b4 := (HQ2.out 4 _ rfl).1
      have b5 := (HQ2.out 5 _ rfl).1
      have b6 := (HQ2.out 6 _ rfl).1
      have b7 := (HQ2.out 7 _ rfl).1
      have b8 := (HQ2.out 8 _ rfl).1
      obtain ⟨A, hA⟩ : ∃ z, (l.take k).filter (fun x => decide (x.job ∈ jl)) = z := ⟨_, rfl⟩
      obtain ⟨C, hC⟩ : ∃ z, (l.take k).filter (fun x => !(fun x => decide (x.job ∈ jl)) x) = z := ⟨_, rfl⟩
      rw [hA, hC] at HP2
      have HAE := Lib.hid hA
      have HCE := Lib.hid hC
      have hal := (Below.refl w2.heap.size w2).alloc (Nat.le_refl _) (.cells #[.int .i64 mi, .int .i64 mp, .string mx, .bool mt, .string mn, .int .i64 my, .int .i64 mc, .int .i64 mj, .int .i64 mu] 79)
      have HPA := Lib.hid (HP2.out.below hal)
      have HBA := Lib.hid (HB2.out.trans (hal.mono HB2.out.size))
      have HCA := Lib.hid (show CellsAt (w2.alloc (.cells #[.int .i64 mi, .int .i64 mp, .string mx, .bool mt, .string mn, .int .i64 my, .int .i64 mc, .int .i64 mj, .int .i64 mu] 79)) (some ⟨w2.heap.size, 0, none⟩) (1 * 9) (encW ⟨⟨mi, mp, mx, mt⟩, ⟨mn, my, mc⟩, mj, mu⟩) from cells_lit w2 #[.int .i64 mi, .int .i64 mp, .string mx, .bool mt, .string mn, .int .i64 my, .int .i64 mc, .int .i64 mj, .int .i64 mu] 79)
      obtain ⟨a5, c5, rfl, -, -⟩ := cellsK_own HPA.out.a
      obtain ⟨a6, c6, rfl, -, -⟩ := cellsK_own HPA.out.c
      have HLA := Lib.hid (show A.length ≤ 10000 ∧ C.length ≤ 10000 from by rw [← hA, ← hC]; exact ⟨Nat.le_trans (filt_len l _ k) (by omega), Nat.le_trans (filt_len l _ k) (by omega)⟩)
      clear hA hC hal
      obtain ⟨ok, hok⟩ : ∃ z, decide (mj ∈ jl) = z := ⟨_, rfl⟩
      rw [hok]
      have HOK := Lib.hid hok
      clear hok
      cases ok
      · go_wp2_with (refine wpList_append_fr rfl (.tmp 25) (.tmp 27) 102 79 rfl i0 zWt 9 88 Try.underlying102 HI.out HZ0.out HZ1.out HZ2.out rfl (by decide) (.slice a6 C.length c6) C.length (flatW C) rfl HPA.out.c ⟨w2.heap.size, 0, none⟩ 1 1 (encW ⟨⟨mi, mp, mx, mt⟩, ⟨mn, my, mc⟩, mj, mu⟩) rfl HCA.out (encW_one _) (by have := HLA.out; omega) (by decide) ?_)
        intro v' w3 g1 g2 g3
        have HP3 := Lib.hid (HPA.out.more6 HBA.out.size g1 g2 (by rw [World.size_alloc]; exact g3))
        have HB3 := Lib.hid (HBA.out.grown g2 HBA.out.size (fun j hj => HPA.out.bc j hj))
        clear g1 g2 g3 b0 b1 b2 b3 b4 b5 b6 b7 b8
        go_wp2
        go_roundw
        case rel => exact ⟨k + 1, HLT.out, by go_num, Lib.hid (by
          obtain ⟨y1, y2⟩ := filt_no (p := (fun x => decide (x.job ∈ jl))) HS.out HOK.out
          rw [y1, y2, HAE.out, HCE.out]
          exact HP3.out), HB3⟩
        case measure =>
          simp only [intOf]
          have := HLT.out
          omega
      · go_wp2_with (refine wpList_append_fr rfl (.tmp 21) (.tmp 23) 102 79 rfl i0 zWt 9 88 Try.underlying102 HI.out HZ0.out HZ1.out HZ2.out rfl (by decide) (.slice a5 A.length c5) A.length (flatW A) rfl HPA.out.a ⟨w2.heap.size, 0, none⟩ 1 1 (encW ⟨⟨mi, mp, mx, mt⟩, ⟨mn, my, mc⟩, mj, mu⟩) rfl HCA.out (encW_one _) (by have := HLA.out; omega) (by decide) ?_)
        intro v' w3 g1 g2 g3
        have HP3 := Lib.hid (HPA.out.more5 HBA.out.size g1 g2 (by rw [World.size_alloc]; exact g3))
        have HB3 := Lib.hid (HBA.out.grown g2 HBA.out.size (fun j hj => HPA.out.ba j hj))
        clear g1 g2 g3 b0 b1 b2 b3 b4 b5 b6 b7 b8
        go_wp2
        go_roundw
        case rel => exact ⟨k + 1, HLT.out, by go_num, Lib.hid (by
          obtain ⟨y1, y2⟩ := filt_yes (p := (fun x => decide (x.job ∈ jl))) HS.out HOK.out
          rw [y1, y2, HAE.out, HCE.out]
          exact HP3.out), HB3⟩
        case measure =>
          simp only [intOf]
          have := HLT.out
          omega
    · have d0 : decide (k < n) = false := dF hlt
      have hkn : k = n := by omega
      subst hkn
      have HPE := Lib.hid (show Prt w.heap.size wr u5 u6 (s.ws.filter (fun x => decide (x.job ∈ jl))) (s.ws.filter (fun x => !(fun x => decide (x.job ∈ jl)) x)) from by
        have h1 := HP.out
        rw [List.take_of_length_le (by rw [HL.out]; exact Nat.le_refl _)] at h1
        rw [HWS.out]
        exact h1)
      have HEND := Lib.hid (part_end HT.out HB.out HPE.out)
      obtain ⟨wv2, ⟨hc2, -⟩, -, -⟩ := HT.out.below HB.out
      have k2 := hc2.u3.2.2.1
      have kf := hc2.u3.2.2.2.2
      obtain ⟨a6, c6, e6, -, -⟩ := cellsK_own HPE.out.c
      subst e6
      clear hc2 hlt hk
      go_wp2
      go_ret
      exact ⟨_, rfl, HEND.out⟩
end Go.Proofs.Ytocfphijheidbaa
