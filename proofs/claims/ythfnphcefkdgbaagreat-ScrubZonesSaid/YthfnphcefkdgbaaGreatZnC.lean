/- Zones: Cut. -/
import Derived.Test.YthfnphcefkdgbaaGreatMgA
import Derived.Test.YthfnphcefkdgbaaGreatZnB
import Derived.Test.YthfnphcefkdgbaaGreatMgB
import Derived.Test.YthfnphcefkdgbaaGreatLst
namespace Go.Proofs.YthfnphcefkdgbaaGreat
open Go.RowKit
def sZ : SetP := ⟨⟨⟨#[]⟩, 0, 0⟩, 0, []⟩
noncomputable def cutI (S : List SetP) (P : Nat → ByteArray) : Nat → Nat → Option SetP → Option SetP
 | 0, _, acc => acc
 | r + 1, i, acc => cutI S P r (i + 1) (match findK S ⟨P i, 2, 1⟩ with | some s => some s | none => acc)
noncomputable def cutP (S : List SetP) (apex n : ByteArray) : Option SetP :=
 if undS n apex = true then cutI S (fun i => nameB ((labs n).drop i)) ((labs n).length - (labs apex).length) 0 none else none
structure Path (apex n : ByteArray) (P : Nat → ByteArray) (d : Nat) : Prop where
 zero : P 0 = n
 mid : ∀ k, k < d → ((P k).toList == apex.toList) = false ∧ undS (P k) apex = true ∧ (P k).size ≤ 1000000 ∧ ∃ L, P k = nameB L ∧ OkL L ∧ off L L.length ≤ 254 ∧ parS L = P (k + 1) ∧ parB L = true
 last : P d = apex ∧ undS n apex = true ∨ undS (P d) apex = false ∧ d = 0
 size : (P d).size ≤ 1000000
 up : ∀ k, k < d → undS n (P k) = true
theorem cut_path (S : List SetP) (apex n : ByteArray) (hn : n.size ≤ 1000000) : ∃ P d, Path apex n P d ∧ cutP S apex n = cutI S P d 0 none := by
 by_cases hu : undS n apex = true
 · have hu2 := hu
   rw [undS, Bool.and_eq_true, Bool.and_eq_true] at hu2
   obtain ⟨⟨hm, ha⟩, hul⟩ := hu2
   obtain ⟨hL, hlz, hnl⟩ := labs_spec hm
   obtain ⟨hA, haz, hal⟩ := labs_spec ha
   unfold undL at hul
   obtain ⟨h1, h2⟩ := of_decide_eq_true hul
   obtain ⟨L, hLe⟩ : ∃ x, labs n = x := ⟨_, rfl⟩
   obtain ⟨M, hMe⟩ : ∃ x, labs apex = x := ⟨_, rfl⟩
   refine ⟨fun i => nameB ((labs n).drop i), (labs n).length - (labs apex).length, ⟨?_, ?_, ?_, ?_, ?_⟩, if_pos hu⟩
   · show nameB ((labs n).drop 0) = n
     rw [List.drop_zero]; exact hnl.symm
   · rw [hLe] at hL hlz
     rw [hLe, hMe] at h1 h2 ⊢
     rw [hMe] at hA haz hal
     intro k hk
     have hkl : k < L.length := by omega
     have ho := drop_ok hL k
     have hoz := Nat.le_trans (off_drop L k (by omega)) hlz
     have hcons := drop_cons_tx L k hkl
     refine ⟨?_, ?_, ?_, L.drop k, rfl, ho, hoz, by rw [hcons]; rfl, by rw [hcons]; rfl⟩
     · rw [beq_eq_false_iff_ne]
       intro h
       have h3 := nameB_inj ho hA ((toList_inj h).trans hal)
       have h4 := congrArg List.length h3
       rw [List.length_drop] at h4
       omega
     · rw [undS, labels_may ho hoz, ha, labs_name ho hoz, hMe]
       simp only [Bool.true_and]
       refine (undL_iff _ _).2 ⟨L.length - M.length - k, by rw [List.length_drop]; omega, ?_⟩
       rw [List.drop_drop, show k + (L.length - M.length - k) = L.length - M.length by omega]
       exact h2
     · show (nameB (L.drop k)).size ≤ _
       rw [nameB_size]; omega
   · refine Or.inl ⟨?_, hu⟩
     show nameB ((labs n).drop _) = apex
     rw [h2]; exact hal.symm
   · show (nameB ((labs n).drop _)).size ≤ _
     rw [h2, nameB_size]; omega
   · rw [hLe] at hL hlz
     rw [hLe, hMe]
     intro k hk
     have ho := drop_ok hL k
     have hoz := Nat.le_trans (off_drop L k (by omega)) hlz
     show undS n (nameB (L.drop k)) = true
     rw [undS, hm, labels_may ho hoz, labs_name ho hoz, hLe]
     simp only [Bool.true_and]
     exact (undL_iff _ _).2 ⟨k, by omega, rfl⟩
 · have hu' : undS n apex = false := by simpa using hu
   exact ⟨fun _ => n, 0, ⟨rfl, fun k hk => absurd hk (by omega), Or.inr ⟨hu', rfl⟩, hn, fun k hk => absurd hk (by omega)⟩, if_neg hu⟩
set_option maxRecDepth 100000 in
set_option maxHeartbeats 8000000 in
theorem zcut_any (z : Nat) (apex n : ByteArray) (S : List SetP) (w : World) (h : ZnAt w z apex S) (hr : RiseS S) (hz : SzZ S) (hne : ∀ s ∈ S, s.data ≠ []) (ha : apex.size ≤ 1000000) (hn : n.size ≤ 1000000) :
  Calls Tryz.prog 16 #[.pointer (some ⟨z, 0, none⟩), .string n] w fun e w' => (∃ (X : SetP) (a : Option Addr) (c : Nat), (cutP S apex n).getD sZ = X ∧ e = .returned (.tuple #[.agg #[.string X.k.n, .int .i64 X.k.t, .int .i64 X.k.c, .int .i64 X.ttl, .slice a X.data.length c], .bool (cutP S apex n).isSome]) ∧ w'.ownsRow w.heap.size 9 1 (.slice a X.data.length c) X.data.length (sc X.data)) ∧ Below w.heap.size w w' := by
 obtain ⟨P, d, hp, hcp⟩ := cut_path S apex n hn
 rw [hcp]
 have HPZ := Lib.hid hp.zero
 have HPM := Lib.hid hp.mid
 have HPL := Lib.hid (show P d = apex ∨ undS (P d) apex = false from hp.last.imp And.left And.left)
 have HPS := Lib.hid hp.size
 have HZA := Lib.hid h
 have HRI := Lib.hid hr
 have HSZ := Lib.hid hz
 have HNE := Lib.hid hne
 have HAS := Lib.hid ha
 obtain ⟨a0, c0, hz2, -⟩ := id h
 have HY := Lib.hid hz2
 clear hp hcp h hr hz hne hz2 ha hn
 have hq1 := (Below.refl w.heap.size w).alloc (Nat.le_refl _) (.cells #[.string ⟨#[]⟩, .int .i64 0, .int .i64 0, .int .i64 0, .slice none 0 0] 38)
 have hq2 := (Below.refl _ (w.alloc (.cells #[.string ⟨#[]⟩, .int .i64 0, .int .i64 0, .int .i64 0, .slice none 0 0] 38))).alloc (Nat.le_refl _) (.cells #[.string ⟨#[]⟩, .int .i64 0, .int .i64 0, .int .i64 0, .slice none 0 0] 38)
 have HC4 := Lib.hid ((c5_new w (.string ⟨#[]⟩) (.int .i64 0) (.int .i64 0) (.int .i64 0) (.slice none 0 0) 38).below hq2)
 have hc := c5_new (w.alloc (.cells #[.string ⟨#[]⟩, .int .i64 0, .int .i64 0, .int .i64 0, .slice none 0 0] 38)) (.string ⟨#[]⟩) (.int .i64 0) (.int .i64 0) (.int .i64 0) (.slice none 0 0) 38
 rw [World.size_alloc] at hc
 have HC6 := Lib.hid hc
 have HB := Lib.hid (hq1.trans (hq2.mono hq1.size))
 have HSZ2 := Lib.hid (show w.heap.size + 2 ≤ ((w.alloc (.cells #[.string ⟨#[]⟩, .int .i64 0, .int .i64 0, .int .i64 0, .slice none 0 0] 38)).alloc (.cells #[.string ⟨#[]⟩, .int .i64 0, .int .i64 0, .int .i64 0, .slice none 0 0] 38)).heap.size by simp [World.size_alloc])
 clear hq1 hq2 hc
 go_enter Tryz.func16, Tryz.ntmps16
 go_wp2_with fail
 obtain ⟨w1, hw1⟩ : ∃ x, ((w.alloc (.cells #[.string ⟨#[]⟩, .int .i64 0, .int .i64 0, .int .i64 0, .slice none 0 0] 38)).alloc (.cells #[.string ⟨#[]⟩, .int .i64 0, .int .i64 0, .int .i64 0, .slice none 0 0] 38)) = x := ⟨_, rfl⟩
 rw [hw1] at HC4 HC6 HB HSZ2 ⊢
 clear hw1
 obtain ⟨q6, hq6⟩ : ∃ q, w.heap.size + 1 = q := ⟨_, rfl⟩
 rw [hq6] at HC6 ⊢
 have HQ6 := Lib.hid hq6
 obtain ⟨q4, hq4⟩ : ∃ q, w.heap.size = q := ⟨_, rfl⟩
 rw [show (Value.pointer (some { block := w.heap.size, off := 0 })) = Value.pointer (some { block := q4, off := 0 }) by rw [hq4]]
 replace HC4 : Hid (C5 w1 q4 (.string ⟨#[]⟩) (.int .i64 0) (.int .i64 0) (.int .i64 0) (.slice none 0 0)) := by rw [← hq4]; exact HC4
 have HQ4 := Lib.hid hq4
 clear hq4 hq6
 go_loopw [1] (fun nv wr => ∃ (k : Nat) (p : ByteArray) (acc : Option SetP) (X : SetP) (a : Option Addr) (c l : Nat), k ≤ d ∧ nv = .string p ∧ Hid (p = P k) ∧ Hid (cutI S P (d - k) k acc = cutI S P d 0 none) ∧ Hid (acc.getD sZ = X ∧ X.data.length = l ∧ acc.isSome = decide (0 < l)) ∧ Hid (C5 wr q6 (.string X.k.n) (.int .i64 X.k.t) (.int .i64 X.k.c) (.int .i64 X.ttl) (.slice a l c)) ∧ Hid (wr.ownsRow (w.heap.size + 2) 9 1 (.slice a l c) l (sc X.data)) ∧ Hid (C5 wr q4 (.string ⟨#[]⟩) (.int .i64 0) (.int .i64 0) (.int .i64 0) (.slice none 0 0)) ∧ Hid (Below w.heap.size w wr) ∧ Hid (w.heap.size + 2 ≤ wr.heap.size)) (fun nv _ => match nv with | .string p => p.size | _ => 0)
 case atStart => exact ⟨0, n, none, sZ, none, 0, 0, Nat.zero_le _, rfl, Lib.hid HPZ.out.symm, Lib.hid rfl, Lib.hid ⟨rfl, rfl, rfl⟩, HC6, Lib.hid (World.ownsRow_nil _ _ _ _), HC4, HB, HSZ2⟩
 case round =>
  obtain ⟨k, p, acc, X, a, c, l, hk, rfl, hpk, hcut, hacc, hc6, hown, hc4, hbw, hsz⟩ := hrel
  clear HC4 HC6 HB HSZ2
  obtain ⟨⟨⟨xn, xt, xc⟩, xu, xd⟩, hX⟩ : ∃ x, X = x := ⟨_, rfl⟩
  subst hX
  replace hc6 : Hid (C5 wr q6 (.string xn) (.int .i64 xt) (.int .i64 xc) (.int .i64 xu) (.slice a l c)) := hc6
  replace hown : Hid (wr.ownsRow (w.heap.size + 2) 9 1 (.slice a l c) l (sc xd)) := hown
  have HY1 := Lib.hid (HY.out.below hbw.out)
  by_cases hlt : k < d
  · obtain ⟨e1, e2, e3, L, e4, e5, e6, e7, e8⟩ := HPM.out k hlt
    rw [← hpk.out] at e1 e2 e3 e4
    have HUN := Lib.hid (fun wx => under_any p apex wx e3 HAS.out)
    rw [e2] at HUN
    have HPA := Lib.hid (fun wx => parent_yes L wx e5 e6)
    rw [← e4, e7] at HPA
    have HP3 := Lib.hid e3
    have HDEC := Lib.hid (show (P (k + 1)).size < p.size by
      have h1 := tail_ok e5 e6 (by rintro rfl; cases e8)
      rw [← e7, h1.2.2.1, e4]; exact h1.2.2.2)
    have HCK := Lib.hid (show cutI S P (d - (k + 1)) (k + 1) (match findK S ⟨p, 2, 1⟩ with | some s => some s | none => acc) = cutI S P d 0 none by
      rw [← hcut.out, show d - k = (d - (k + 1)) + 1 by omega, cutI, ← hpk.out])
    obtain ⟨p2, hp2⟩ : ∃ x, P (k + 1) = x := ⟨_, rfl⟩
    rw [hp2] at HPA HDEC
    have HP2 := Lib.hid hp2.symm
    have HLT := Lib.hid hlt
    obtain ⟨y0, -⟩ := HY1.out.w2
    clear e2 e3 e4 e5 e6 e7 e8 hp2 hlt
    go_wp2_with fail
    refine (HUN.out _).mono ?_; rintro e wx ⟨rfl, rfl⟩
    clear y0 e1
    go_wp2_with fail
    refine (zkey_any p 2 _).mono ?_; rintro e w2 ⟨rfl, hb2⟩
    have HBW2 := Lib.hid (hbw.out.trans (hb2.mono hbw.out.size))
    go_wp2_with fail
    refine (zget_any z apex S p 2 1 w2 (HZA.out.below HBW2.out) HRI.out HSZ.out HP3.out).mono ?_; rintro e w3 ⟨hf, hb3⟩
    have HB3 := Lib.hid (hb2.trans (hb3.mono hb2.size))
    have HBW3 := Lib.hid (hbw.out.trans (HB3.out.mono hbw.out.size))
    have HSZ3 := Lib.hid (Nat.le_trans hsz.out HB3.out.size)
    have HS23 := Lib.hid (Nat.le_trans hsz.out hb2.size)
    have HC63 := Lib.hid (hc6.out.below HB3.out)
    have HC43 := Lib.hid (hc4.out.below HB3.out)
    have HOW3 := Lib.hid (own_below' hown.out HB3.out)
    clear hb2 hb3 HB3 hc6 hc4 hown hbw hsz HY1 HBW2
    rcases hf with ⟨s, dv, hfs, rfl, ho⟩ | ⟨hfn, rfl⟩
    · have HFS := Lib.hid hfs
      have HSD := Lib.hid (show 0 < s.data.length from List.length_pos_iff.2 (HNE.out s (by rw [findK] at hfs; exact List.mem_of_find?_eq_some hfs)))
      obtain ⟨⟨sn, st, sc1⟩, su, sd⟩ := s
      replace ho : w3.ownsRow w2.heap.size 9 1 dv sd.length (sc sd) := ho
      obtain ⟨dl, hdl⟩ : ∃ x, sd.length = x := ⟨_, rfl⟩
      replace HSD : Hid (0 < sd.length) := HSD
      rw [hdl] at ho HSD
      have HDL := Lib.hid hdl
      obtain ⟨a', c', rfl, _⟩ := cells_own ho
      have HO3 := Lib.hid (own_mono4 (base' := w.heap.size + 2) ho HS23.out)
      have hba := (Below.refl w3.heap.size w3).alloc (Nat.le_refl _) (.cells #[.string sn, .int .i64 st, .int .i64 sc1, .int .i64 su, .slice a' dl c'] 38)
      have HC7 := Lib.hid (c5_new w3 (.string sn) (.int .i64 st) (.int .i64 sc1) (.int .i64 su) (.slice a' dl c') 38)
      have HBA := Lib.hid hba
      clear hfs hdl ho hba HS23
      dsimp only
      go_upto_region 4 with (fail)
      obtain ⟨w4, hw4⟩ : ∃ x, w3.alloc (.cells #[.string sn, .int .i64 st, .int .i64 sc1, .int .i64 su, .slice a' dl c'] 38) = x := ⟨_, rfl⟩
      rw [hw4] at HBA HC7 ⊢
      clear hw4
      have HC64 := Lib.hid (HC63.out.below HBA.out)
      have HC44 := Lib.hid (HC43.out.below HBA.out)
      have HO4 := Lib.hid (own_below' HO3.out HBA.out)
      have HBW4 := Lib.hid (HBW3.out.trans (HBA.out.mono HBW3.out.size))
      have HSZ4 := Lib.hid (Nat.le_trans HSZ3.out HBA.out.size)
      clear HBA HC63 HC43 HO3 HBW3 HOW3 hacc
      have HC65 := Lib.hid (HC64.out.set (.string sn) (.int .i64 st) (.int .i64 sc1) (.int .i64 su) (.slice a' dl c'))
      have HC45 := Lib.hid (HC44.out.far5 (g := q6) (by have := HQ4.out; have := HQ6.out; omega) 0 (.string sn) (.int .i64 st) (.int .i64 sc1) (.int .i64 su) (.slice a' dl c'))
      have HO5 := Lib.hid (own_set5 HO4.out (q := q6) (by have := HQ6.out; omega) (.string sn) (.int .i64 st) (.int .i64 sc1) (.int .i64 su) (.slice a' dl c'))
      have HB5 := Lib.hid (below_set5 HBW4.out (q := q6) (by have := HQ6.out; omega) (.string sn) (.int .i64 st) (.int .i64 sc1) (.int .i64 su) (.slice a' dl c'))
      have HSZ5 := Lib.hid (show w.heap.size + 2 ≤ (((((w4.setCell { block := q6, off := 0 } (Value.string sn)).setCell { block := q6, off := 1 } (Value.int IntKind.i64 st)).setCell { block := q6, off := 2 } (Value.int IntKind.i64 sc1)).setCell { block := q6, off := 3 } (Value.int IntKind.i64 su)).setCell { block := q6, off := 4 } (Value.slice a' dl c')).heap.size by simpa using HSZ4.out)
      obtain ⟨_, r0, r1, r2, r3, r4, f0, f1, f2, f3, f4⟩ := HC64.out
      obtain ⟨_, x0, x1, x2, x3, x4, _⟩ := HC7.out
      go_upto_region 6 with (fail)
      obtain ⟨w5, hw5⟩ : ∃ x, (((((w4.setCell { block := q6, off := 0 } (Value.string sn)).setCell { block := q6, off := 1 } (Value.int IntKind.i64 st)).setCell { block := q6, off := 2 } (Value.int IntKind.i64 sc1)).setCell { block := q6, off := 3 } (Value.int IntKind.i64 su)).setCell { block := q6, off := 4 } (Value.slice a' dl c')) = x := ⟨_, rfl⟩
      rw [hw5] at HC65 HC45 HO5 HB5 HSZ5 ⊢
      clear hw5 r0 r1 r2 r3 r4 f0 f1 f2 f3 f4 x0 x1 x2 x3 x4 HC64 HC44 HC7 HO4 HBW4 HSZ4
      go_wp2_with fail
      refine (HPA.out _).mono ?_; rintro e wx ⟨rfl, rfl⟩
      go_wp2
      go_roundw
      case rel => exact ⟨k + 1, p2, some ⟨⟨sn, st, sc1⟩, su, sd⟩, ⟨⟨sn, st, sc1⟩, su, sd⟩, a', c', dl, HLT.out, rfl, HP2, Lib.hid (by have h1 := HCK.out; rw [HFS.out] at h1; exact h1), Lib.hid ⟨rfl, HDL.out, (dT HSD.out).symm⟩, HC65, HO5, HC45, HB5, HSZ5⟩
      case measure => exact HDEC.out
    · have HFN := Lib.hid hfn
      have hba := (Below.refl w3.heap.size w3).alloc (Nat.le_refl _) (.cells #[.string ⟨#[]⟩, .int .i64 0, .int .i64 0, .int .i64 0, .slice none 0 0] 38)
      have HBA := Lib.hid hba
      clear hfn hba HS23
      dsimp only
      go_upto_region 4 with (fail)
      obtain ⟨w4, hw4⟩ : ∃ x, w3.alloc (.cells #[.string ⟨#[]⟩, .int .i64 0, .int .i64 0, .int .i64 0, .slice none 0 0] 38) = x := ⟨_, rfl⟩
      rw [hw4] at HBA ⊢
      clear hw4
      have HC64 := Lib.hid (HC63.out.below HBA.out)
      have HC44 := Lib.hid (HC43.out.below HBA.out)
      have HO4 := Lib.hid (own_below' HOW3.out HBA.out)
      have HBW4 := Lib.hid (HBW3.out.trans (HBA.out.mono HBW3.out.size))
      have HSZ4 := Lib.hid (Nat.le_trans HSZ3.out HBA.out.size)
      clear HBA HC63 HC43 HOW3 HBW3 HSZ3
      go_wp2_with fail
      refine (HPA.out _).mono ?_; rintro e wx ⟨rfl, rfl⟩
      go_wp2
      go_roundw
      case rel => exact ⟨k + 1, p2, acc, ⟨⟨xn, xt, xc⟩, xu, xd⟩, a, c, l, HLT.out, rfl, HP2, Lib.hid (by have h1 := HCK.out; rw [HFN.out] at h1; exact h1), hacc, HC64, HO4, HC44, HBW4, HSZ4⟩
      case measure => exact HDEC.out
  · obtain rfl : k = d := by omega
    clear hlt
    have HL2 := Lib.hid (show cutI S P k 0 none = acc by rw [← hcut.out, Nat.sub_self]; rfl)
    obtain ⟨y0, -⟩ := HY1.out.w2
    have HUN := Lib.hid (fun wx => under_any p apex wx (by rw [hpk.out]; exact HPS.out) HAS.out)
    have hex : (p.toList == apex.toList) = true ∨ (p.toList == apex.toList) = false ∧ undS p apex = false := by
      rcases HPL.out with h1 | h1
      · exact Or.inl (by rw [hpk.out, h1]; simp)
      · by_cases h2 : (p.toList == apex.toList) = true
        · exact Or.inl h2
        · exact Or.inr ⟨by simpa using h2, by rw [hpk.out]; exact h1⟩
    obtain ⟨bb, hbb⟩ : ∃ x, decide (0 < l) = x := ⟨_, rfl⟩
    have HBB := Lib.hid (show acc.isSome = bb by rw [hacc.out.2.2]; exact hbb)
    have hbi : decide ((0 : Int) < (l : Int)) = bb := by rw [← hbb]; exact decide_eq_decide.2 (by omega)
    have HBN := Lib.hid hbb
    clear hbb
    rcases hex with e1 | ⟨e1, e2⟩
    · go_upto_region 7 with (fail)
      clear y0 e1
      have hbd := (Below.refl wr.heap.size wr).drew
      have HC6D := Lib.hid (hc6.out.below hbd)
      refine wp_region_held_drew (S := (fun wx => wx.cell? ⟨q6, 0, none⟩ = some (.string xn) ∧ wx.cell? ⟨q6, 1, none⟩ = some (.int .i64 xt) ∧ wx.cell? ⟨q6, 2, none⟩ = some (.int .i64 xc) ∧ wx.cell? ⟨q6, 3, none⟩ = some (.int .i64 xu) ∧ wx.cell? ⟨q6, 4, none⟩ = some (.slice a l c))) (by kernel_rfl) (⟨HC6D.out.2.1, HC6D.out.2.2.1, HC6D.out.2.2.2.1, HC6D.out.2.2.2.2.1, HC6D.out.2.2.2.2.2.1⟩) (fun hHeld => ?_)
      replace hc4 := Lib.hid (hc4.out.below hbd)
      replace hown := Lib.hid (own_below' hown.out hbd)
      replace hbw := Lib.hid (hbw.out.drew)
      obtain ⟨wd, hwd⟩ : ∃ x, wr.drew = x := ⟨_, rfl⟩
      rw [hwd] at hc4 hown hbw HC6D hHeld ⊢
      clear hwd hbd hc6 HY1 HUN hsz
      have HC6N := Lib.hid (HC6D.out.far5 (g := q4) (by have := HQ4.out; have := HQ6.out; omega) 0 (.string xn) (.int .i64 xt) (.int .i64 xc) (.int .i64 xu) (.slice a l c))
      have HC9 := Lib.hid (hc4.out.set (.string xn) (.int .i64 xt) (.int .i64 xc) (.int .i64 xu) (.slice a l c))
      have HO9 := Lib.hid (own_set5 hown.out (q := q4) (by have := HQ4.out; omega) (.string xn) (.int .i64 xt) (.int .i64 xc) (.int .i64 xu) (.slice a l c))
      have HB9 := Lib.hid (below_set5 hbw.out (q := q4) (by have := HQ4.out; omega) (.string xn) (.int .i64 xt) (.int .i64 xc) (.int .i64 xu) (.slice a l c))
      obtain ⟨_, r0, r1, r2, r3, r4, f0, f1, f2, f3, f4⟩ := hc4.out
      refine Plan.of [0, 1, 2, 3, 4] ?_
      iterate 5 (refine Plan.w (v := ?_) rfl hHeld (by rfl) ?_ ?_; rotate_left; (focus (intro w hSw; (try dsimp only at hSw); go_simp; try with_reducible rfl)); try simp only [Act.put, List.setIfInBounds_toArray, List.set_cons_zero, List.set_cons_succ])
      refine Plan.fin ?_
      refine wpAnyH_ready (rs := [5]) (by kernel_rfl) (by simp) ?_
      refine AllReadyH.cons (o := { dst := none, op := Go.Op.store 38 (Go.Operand.tmp 4) (Go.Operand.tmp 37), type := 0, pos := "zone.go:105", after := #[{ on := 0, ground := Go.Ground.data }, { on := 0, ground := Go.Ground.phase }, { on := 1, ground := Go.Ground.textOnly Go.Departure.lateStores }, { on := 2, ground := Go.Ground.textOnly Go.Departure.lateStores }, { on := 3, ground := Go.Ground.textOnly Go.Departure.lateStoresUnsure }, { on := 4, ground := Go.Ground.textOnly Go.Departure.lateStores }], guard := none }) rfl (fun K hK => ?_) AllReadyH.nil
      go_wp2_with fail
      refine hK.out _ _ (⟨HC6N.out.2.1, HC6N.out.2.2.1, HC6N.out.2.2.2.1, HC6N.out.2.2.2.2.1, HC6N.out.2.2.2.2.2.1⟩) (fun hHeld2 => ?_)
      clear hK K hHeld
      have hHeld := hHeld2
      clear hHeld2
      try simp only [Act.put, List.setIfInBounds_toArray, List.set_cons_zero, List.set_cons_succ]
      refine Plan.of [6] ?_
      refine Plan.w (v := ?_) rfl hHeld (by rfl) ?_ ?_; rotate_left; (focus (intro w hSw; (try dsimp only at hSw); go_simp; try with_reducible rfl)); try simp only [Act.put, List.setIfInBounds_toArray, List.set_cons_zero, List.set_cons_succ]
      refine Plan.fin ?_
      refine wpAnyH_done (by kernel_rfl) ?_ _
      go_wp2
      obtain ⟨wz, hwz⟩ : ∃ x, (((((wd.setCell { block := q4, off := 0 } (Value.string xn)).setCell { block := q4, off := 1 } (Value.int IntKind.i64 xt)).setCell { block := q4, off := 2 } (Value.int IntKind.i64 xc)).setCell { block := q4, off := 3 } (Value.int IntKind.i64 xu)).setCell { block := q4, off := 4 } (Value.slice a l c)) = x := ⟨_, rfl⟩
      rw [hwz] at HC9 HO9 HB9 ⊢
      clear hHeld HC6N HC6D hwz r0 r1 r2 r3 r4 f0 f1 f2 f3 f4
      obtain ⟨_, z0, z1, z2, z3, z4, _⟩ := HC9.out
      refine bodyPost_ret (v := .tuple #[.agg #[.string xn, .int .i64 xt, .int .i64 xc, .int .i64 xu, .slice a l c], .bool bb]) (by simp [results, Tryz.results16, go_sem, z0, z1, z2, z3, z4]; exact HBN.out) rfl ⟨⟨⟨⟨xn, xt, xc⟩, xu, xd⟩, a, c, by rw [HL2.out]; exact hacc.out.1, ?_, ?_⟩, HB9.out⟩
      · rw [HL2.out, HBB.out]
        show _ = Ending.returned (.tuple #[.agg #[.string xn, .int .i64 xt, .int .i64 xc, .int .i64 xu, .slice a xd.length c], .bool bb])
        rw [show xd.length = l from hacc.out.2.1]
      · show World.ownsRow _ _ _ _ (.slice a xd.length c) xd.length (sc xd)
        rw [show xd.length = l from hacc.out.2.1]
        exact own_mono4 HO9.out (by omega)
    · rw [e2] at HUN
      go_wp2_with fail
      refine (HUN.out _).mono ?_; rintro e wx ⟨rfl, rfl⟩
      go_upto_region 7 with (fail)
      clear y0 e1 e2
      have hbd := (Below.refl wr.heap.size wr).drew
      have HC6D := Lib.hid (hc6.out.below hbd)
      refine wp_region_held_drew (S := (fun wx => wx.cell? ⟨q6, 0, none⟩ = some (.string xn) ∧ wx.cell? ⟨q6, 1, none⟩ = some (.int .i64 xt) ∧ wx.cell? ⟨q6, 2, none⟩ = some (.int .i64 xc) ∧ wx.cell? ⟨q6, 3, none⟩ = some (.int .i64 xu) ∧ wx.cell? ⟨q6, 4, none⟩ = some (.slice a l c))) (by kernel_rfl) (⟨HC6D.out.2.1, HC6D.out.2.2.1, HC6D.out.2.2.2.1, HC6D.out.2.2.2.2.1, HC6D.out.2.2.2.2.2.1⟩) (fun hHeld => ?_)
      replace hc4 := Lib.hid (hc4.out.below hbd)
      replace hown := Lib.hid (own_below' hown.out hbd)
      replace hbw := Lib.hid (hbw.out.drew)
      obtain ⟨wd, hwd⟩ : ∃ x, wr.drew = x := ⟨_, rfl⟩
      rw [hwd] at hc4 hown hbw HC6D hHeld ⊢
      clear hwd hbd hc6 HY1 HUN hsz
      have HC6N := Lib.hid (HC6D.out.far5 (g := q4) (by have := HQ4.out; have := HQ6.out; omega) 0 (.string xn) (.int .i64 xt) (.int .i64 xc) (.int .i64 xu) (.slice a l c))
      have HC9 := Lib.hid (hc4.out.set (.string xn) (.int .i64 xt) (.int .i64 xc) (.int .i64 xu) (.slice a l c))
      have HO9 := Lib.hid (own_set5 hown.out (q := q4) (by have := HQ4.out; omega) (.string xn) (.int .i64 xt) (.int .i64 xc) (.int .i64 xu) (.slice a l c))
      have HB9 := Lib.hid (below_set5 hbw.out (q := q4) (by have := HQ4.out; omega) (.string xn) (.int .i64 xt) (.int .i64 xc) (.int .i64 xu) (.slice a l c))
      obtain ⟨_, r0, r1, r2, r3, r4, f0, f1, f2, f3, f4⟩ := hc4.out
      refine Plan.of [0, 1, 2, 3, 4] ?_
      iterate 5 (refine Plan.w (v := ?_) rfl hHeld (by rfl) ?_ ?_; rotate_left; (focus (intro w hSw; (try dsimp only at hSw); go_simp; try with_reducible rfl)); try simp only [Act.put, List.setIfInBounds_toArray, List.set_cons_zero, List.set_cons_succ])
      refine Plan.fin ?_
      refine wpAnyH_ready (rs := [5]) (by kernel_rfl) (by simp) ?_
      refine AllReadyH.cons (o := { dst := none, op := Go.Op.store 38 (Go.Operand.tmp 4) (Go.Operand.tmp 37), type := 0, pos := "zone.go:105", after := #[{ on := 0, ground := Go.Ground.data }, { on := 0, ground := Go.Ground.phase }, { on := 1, ground := Go.Ground.textOnly Go.Departure.lateStores }, { on := 2, ground := Go.Ground.textOnly Go.Departure.lateStores }, { on := 3, ground := Go.Ground.textOnly Go.Departure.lateStoresUnsure }, { on := 4, ground := Go.Ground.textOnly Go.Departure.lateStores }], guard := none }) rfl (fun K hK => ?_) AllReadyH.nil
      go_wp2_with fail
      refine hK.out _ _ (⟨HC6N.out.2.1, HC6N.out.2.2.1, HC6N.out.2.2.2.1, HC6N.out.2.2.2.2.1, HC6N.out.2.2.2.2.2.1⟩) (fun hHeld2 => ?_)
      clear hK K hHeld
      have hHeld := hHeld2
      clear hHeld2
      try simp only [Act.put, List.setIfInBounds_toArray, List.set_cons_zero, List.set_cons_succ]
      refine Plan.of [6] ?_
      refine Plan.w (v := ?_) rfl hHeld (by rfl) ?_ ?_; rotate_left; (focus (intro w hSw; (try dsimp only at hSw); go_simp; try with_reducible rfl)); try simp only [Act.put, List.setIfInBounds_toArray, List.set_cons_zero, List.set_cons_succ]
      refine Plan.fin ?_
      refine wpAnyH_done (by kernel_rfl) ?_ _
      go_wp2
      obtain ⟨wz, hwz⟩ : ∃ x, (((((wd.setCell { block := q4, off := 0 } (Value.string xn)).setCell { block := q4, off := 1 } (Value.int IntKind.i64 xt)).setCell { block := q4, off := 2 } (Value.int IntKind.i64 xc)).setCell { block := q4, off := 3 } (Value.int IntKind.i64 xu)).setCell { block := q4, off := 4 } (Value.slice a l c)) = x := ⟨_, rfl⟩
      rw [hwz] at HC9 HO9 HB9 ⊢
      clear hHeld HC6N HC6D hwz r0 r1 r2 r3 r4 f0 f1 f2 f3 f4
      obtain ⟨_, z0, z1, z2, z3, z4, _⟩ := HC9.out
      refine bodyPost_ret (v := .tuple #[.agg #[.string xn, .int .i64 xt, .int .i64 xc, .int .i64 xu, .slice a l c], .bool bb]) (by simp [results, Tryz.results16, go_sem, z0, z1, z2, z3, z4]; exact HBN.out) rfl ⟨⟨⟨⟨xn, xt, xc⟩, xu, xd⟩, a, c, by rw [HL2.out]; exact hacc.out.1, ?_, ?_⟩, HB9.out⟩
      · rw [HL2.out, HBB.out]
        show _ = Ending.returned (.tuple #[.agg #[.string xn, .int .i64 xt, .int .i64 xc, .int .i64 xu, .slice a xd.length c], .bool bb])
        rw [show xd.length = l from hacc.out.2.1]
      · show World.ownsRow _ _ _ _ (.slice a xd.length c) xd.length (sc xd)
        rw [show xd.length = l from hacc.out.2.1]
        exact own_mono4 HO9.out (by omega)
end Go.Proofs.YthfnphcefkdgbaaGreat
