/- The document's writer's name. -/
import Derived.Test.YtkoafkajmfodkaaRwB
import Derived.Deep.AppendLies
namespace Go.Proofs.Ytkoafkajmfodkaa
open Go.RowKit

/-- .. and all else is as it was. -/
def DrN (w : World) (B q : Nat) (nv : Value) (f : Pls) (Y : List UInt8) (w' : World) : Prop := ∃ nv' E', DrS w' B q nv' E' Y ∧ lkE E' = f ∧ Below B w w' ∧ Kd w w' nv ∧ Ow w nv nv'
theorem cn_news {w : World} {a : Nat} {cs : List Value} (h : CN w a cs) : ∀ j u, cs[j]? = some u → w.cell? ((⟨a, 0, none⟩ : Addr).add j) = some u := fun j u hj => by
  rw [show (⟨a, 0, none⟩ : Addr).add j = ⟨a, j, none⟩ by unfold Addr.add; split <;> simp_all]
  exact (h.2 j u hj).1
theorem cn_cells {w : World} {a : Nat} {cs : List Value} (h : CN w a cs) : CellsAt w (some ⟨a, 0, none⟩) cs.length cs :=
  ⟨rfl, Or.inr ⟨a, 0, rfl, h.1, fun j u hj => by rw [Nat.zero_add]; exact (h.2 j u hj).1⟩⟩
theorem Kd.rowN {w w' : World} {nv : Value} (hg : w.grownBy w' nv.ownBlock) : Kd w w' nv := fun j _ _ hj _ _ _ h4 => hg.block j (Array.getElem?_eq_some_iff.1 hj).1 (fun e => h4 e.symm)
theorem Kd.rowB {w w' : World} {B n : Nat} {nv v : Value} {xs : List Value} (ho : w.ownsRow B 5 1 v n xs) (hg : w.grownBy w' v.ownBlock) : Kd w w' nv := fun j cur _T hj _ h2 _ _ =>
  hg.block j (Array.getElem?_eq_some_iff.1 hj).1 (fun e => own_ne ho ⟨cur, hj⟩ (fun e2 => h2 e2.symm) e.symm)
theorem Kd.rowI {w w' : World} {B n : Nat} {nv v : Value} {xs : List Value} (ho : w.ownsRow B 3 1 v n xs) (hg : w.grownBy w' v.ownBlock) : Kd w w' nv := fun j cur _T hj _ _ h3 _ =>
  hg.block j (Array.getElem?_eq_some_iff.1 hj).1 (fun e => own_ne ho ⟨cur, hj⟩ (fun e2 => h3 e2.symm) e.symm)
theorem Kd.set {w : World} {q : Nat} {nv : Value} (ht : TB w q 108) (i : Nat) (v : Value) : Kd w (w.setCell ⟨q, i, none⟩ v) nv := fun j cur T hj h1 _ _ _ =>
  heap_setCell_other w ⟨q, i, none⟩ j v (fun e => by
    obtain ⟨c, ht⟩ := ht
    rw [e, ht] at hj
    injection hj with hj
    injection hj with _ hj
    exact h1 hj.symm)
/-- The writer's three rows. -/
structure R5s (w : World) (B q : Nat) (bv nv av : Value) (xl el : Nat) (xs ns as' : List Value) : Prop where
  cn : CN w q [bv, nv, av]
  tb : TB w q 108
  row : w.ownsRow B 5 1 bv xl xs
  names : w.ownsRow B 9 1 nv el ns
  ats : w.ownsRow B 3 1 av el as'
  le : B ≤ w.heap.size
/-- .. when a name was appended: all but the row of names. -/
structure R4s (w : World) (B q : Nat) (bv nv av : Value) (xl el : Nat) (xs as' : List Value) : Prop where
  cn : CN w q [bv, nv, av]
  tb : TB w q 108
  row : w.ownsRow B 5 1 bv xl xs
  ats : w.ownsRow B 3 1 av el as'
  le : B ≤ w.heap.size
theorem R5s.below {w w' : World} {B q : Nat} {bv nv av : Value} {xl el : Nat} {xs ns as' : List Value} (h : R5s w B q bv nv av xl el xs ns as') (hb : Below w.heap.size w w') : R5s w' B q bv nv av xl el xs ns as' :=
  ⟨h.cn.below hb, h.tb.below hb, own_below' h.row hb, own_below' h.names hb, own_below' h.ats hb, Nat.le_trans h.le hb.size⟩
theorem R5s.drew {w : World} {B q : Nat} {bv nv av : Value} {xl el : Nat} {xs ns as' : List Value} (h : R5s w B q bv nv av xl el xs ns as') : R5s w.drew B q bv nv av xl el xs ns as' := ⟨h.cn, h.tb, h.row, h.names, h.ats, h.le⟩
theorem R4s.below {w w' : World} {B q : Nat} {bv nv av : Value} {xl el : Nat} {xs as' : List Value} (h : R4s w B q bv nv av xl el xs as') (hb : Below w.heap.size w w') : R4s w' B q bv nv av xl el xs as' :=
  ⟨h.cn.below hb, h.tb.below hb, own_below' h.row hb, own_below' h.ats hb, Nat.le_trans h.le hb.size⟩
theorem R5s.names8 {w w' : World} {B q : Nat} {bv nv av : Value} {xl el : Nat} {xs ns as' : List Value} (h : R5s w B q bv nv av xl el xs ns as') (hg : w.grownBy w' nv.ownBlock) : R4s w' B q bv nv av xl el xs as' :=
  ⟨h.cn.grown hg (fun e => own_ne h.names h.tb (by decide) e.symm), h.tb.grown hg (own_ne h.names h.tb (by decide)), own_other h.row h.names (by decide) hg, own_other h.ats h.names (by decide) hg, Nat.le_trans h.le hg.size⟩
theorem infoInt5 : (Try.prog.info? 3).map (fun i => (i.zero, i.size, i.bytes)) = some (some (.int .i64 0), 1, 8) := by kernel_rfl
theorem putTo2 (n : Int) : putTo n 2 2 = [by8 (n / 256), by8 n] := by
  have e : (2 : Int) ^ (8 : Nat) = 256 := by decide
  have e0 : (2 : Int) ^ (0 : Nat) = 1 := by decide
  show [by8 (n / 2 ^ (8 * (2 - 1 - 0))), by8 (n / 2 ^ (8 * (2 - 1 - 1)))] = _
  rw [show 8 * (2 - 1 - 0) = 8 from rfl, show 8 * (2 - 1 - 1) = 0 from rfl, e, e0, Int.ediv_one]
theorem place2 {p : Nat} (h : p < 16384) : joinL 2 [(49152 : Int) + p] = [by8 ((192 : Int) + ((p / 256 : Nat) : Int)), by8 (p : Int)] := by
  have hj : joinOk 2 [(49152 : Int) + p] = true := join_yes (by omega) (fun j hj => by
    have : j = 0 := by simp at hj; omega
    subst this
    exact fits_place h)
  rw [joinL, if_pos hj]
  show joinTo 2 [(49152 : Int) + p] 1 = _
  show [] ++ putTo ((49152 : Int) + p) 2 2 = _
  rw [List.nil_append, putTo2]
  have e1 : ((49152 : Int) + p) / 256 = (192 : Int) + ((p / 256 : Nat) : Int) := by omega
  have e2 : by8 ((49152 : Int) + p) = by8 (p : Int) := by
    apply UInt8.toNat_inj.1
    have h1 := by8_toNat ((49152 : Int) + p)
    have h2 := by8_toNat (p : Int)
    omega
  rw [e1, e2]
/-- The writer's state when k labels of L are written. -/
def DrI (w : World) (B q m : Nat) (nv : Value) (f : Pls) (X : List UInt8) (L : List ByteArray) (k : Nat) (wx : World) : Prop :=
  ∃ (nv1 : Value) (E1 : Ents) (X1 : List UInt8), DrS wx B q nv1 E1 X1 ∧ wNm f X L = wNm (lkE E1) X1 (L.drop k) ∧ X1.length ≤ m + off L k ∧ Below B w wx ∧ Kd w wx nv ∧ Ow w nv nv1

set_option maxRecDepth 100000 in
set_option maxHeartbeats 8000000 in
theorem rname_any (q B : Nat) (nv : Value) (E : Ents) (X : List UInt8) (L : List ByteArray) (w : World) (hL : OkL L) (hz : off L L.length ≤ 254) (hs : DrS w B q nv E X) (hB : B ≤ q) (hm : X.length + 300 ≤ 1000000) :
    Calls Try.prog 56 #[.pointer (some ⟨q, 0, none⟩), .string (nameB L)] w fun e w' => e = .returned (.tuple #[]) ∧ DrN w B q nv (wNm (lkE E) X L).2 (wNm (lkE E) X L).1 w' := by
  obtain ⟨i0, hi, hz0, hz1, hz2⟩ := info_parts infoU8
  obtain ⟨j0, gi, gz0, gz1, gz2⟩ := info_parts infoStr
  obtain ⟨k0, li, lz0, lz1, lz2⟩ := info_parts infoInt5
  have HI := Lib.hid hi
  have HZ0 := Lib.hid hz0
  have HZ1 := Lib.hid hz1
  have HZ2 := Lib.hid hz2
  have HJ := Lib.hid (show Try.prog.info? 9 = some j0 ∧ j0.zero = some (.string ⟨#[]⟩) ∧ j0.size = 1 ∧ j0.bytes = 16 from ⟨gi, gz0, gz1, gz2⟩)
  have HLI := Lib.hid (show Try.prog.info? 3 = some k0 ∧ k0.zero = some (.int .i64 0) ∧ k0.size = 1 ∧ k0.bytes = 8 from ⟨li, lz0, lz1, lz2⟩)
  have HBS := Lib.hid (show B ≤ w.heap.size from Nat.le_trans hB (Nat.le_of_lt hs.lt))
  have HQ := Lib.hid hB
  obtain ⟨m, hmm⟩ : ∃ x, X.length = x := ⟨_, rfl⟩
  have HM := Lib.hid (show m + 300 ≤ 1000000 from by omega)
  have HL := Lib.hid (show OkL L ∧ off L L.length ≤ 254 from ⟨hL, hz⟩)
  obtain ⟨f, hf⟩ : ∃ x, lkE E = x := ⟨_, rfl⟩
  rw [hf]
  have HW := Lib.hid (show DrI w B q m nv f X L 0 w from ⟨nv, E, X, hs, by rw [hf]; rfl, by rw [off_zero]; omega, Below.refl B w, Kd.refl w nv, Ow.refl w nv⟩)
  clear hi hz0 hz1 hz2 gi gz0 gz1 gz2 li lz0 lz1 lz2 hs hB hm hL hz hmm hf
  go_enter Try.func56, Try.ntmps56
  go_wp2_with fail
  go_loopw [1] (fun s wx => ∃ k : Nat, k ≤ L.length ∧ s = .string (nameB (L.drop k)) ∧ DrI w B q m nv f X L k wx) (fun s _ => strOf s)
  case atStart => exact ⟨0, Nat.zero_le _, rfl, HW.out⟩
  case round =>
  obtain ⟨k, hk, rfl, nv1, E1, X1, hs, he, hX, hb, hkd, how⟩ := hrel
  have HS := Lib.hid hs
  have HE := Lib.hid he
  have HX := Lib.hid hX
  have HB := Lib.hid hb
  have HKD := Lib.hid hkd
  have HOW := Lib.hid how
  have HK := Lib.hid hk
  have HLD := Lib.hid (show OkL (L.drop k) ∧ off (L.drop k) (L.drop k).length ≤ 254 from ⟨okL_drop HL.out.1 k, Nat.le_trans (off_drop L k hk) HL.out.2⟩)
  have HXM := Lib.hid (show X1.length ≤ 999954 from by have := off_mono L hk; have := HL.out.2; have := HM.out; omega)
  have HLE := Lib.hid (show B ≤ wr.heap.size from Nat.le_trans HBS.out hb.size)
  clear hs he hX hb hkd how hk
  obtain ⟨M, hM⟩ : ∃ M, L.drop k = M := ⟨_, rfl⟩
  rw [hM] at HE HLD ⊢
  have HMK := Lib.hid hM
  clear hM
  have hr := root_toList M HLD.out.1
  cases M with
  | nil =>
    have hr' : ((nameB []).toList == [0]) = true := hr
    obtain ⟨s, hsn⟩ : ∃ s, nameB [] = s := ⟨_, rfl⟩
    rw [hsn] at hr' ⊢
    clear hr
    obtain ⟨bv, av, hc, ht, h1, h2, h3, hok, hle⟩ := HS.out
    have hba := (Below.refl wr.heap.size wr).alloc (Nat.le_refl _) (.cells #[.int .u8 0] 5)
    have HLT := Lib.hid (CN.new wr #[.int .u8 0] 5)
    have HC := Lib.hid (hc.below hba)
    have HT := Lib.hid (ht.below hba)
    have H1 := Lib.hid (own_below' h1 hba)
    have H2 := Lib.hid (own_below' h2 hba)
    have H3 := Lib.hid (own_below' h3 hba)
    have HOK := Lib.hid hok
    have HEL := Lib.hid hle
    have HB1 := Lib.hid (HB.out.trans (hba.mono HLE.out))
    have HKD1 := Lib.hid (HKD.out.trans HOW.out (Kd.below nv1 hba))
    have HLE1 := Lib.hid (Nat.le_trans HLE.out hba.size)
    have c0 := (hc.2 0 _ rfl).1
    obtain ⟨va, hva⟩ : ∃ x, wr.alloc (.cells #[.int .u8 0] 5) = x := ⟨_, rfl⟩
    obtain ⟨ga, hga⟩ : ∃ x, wr.heap.size = x := ⟨_, rfl⟩
    have HSZ := Lib.hid (show wr.heap.size ≤ va.heap.size by rw [← hva]; simp)
    rw [hva] at HLT HC HT H1 H2 H3 HB1 HKD1 HLE1
    rw [hga] at HLT
    clear hc ht h1 h2 h3 hok hle hba
    go_wp2_with (at_builtin; refine append_cells rfl _ _ 35 5 rfl i0 (.int .u8 0) 1 Try.underlying35 HI.out HZ0.out HZ1.out HZ2.out rfl B _ X1.length _ rfl H1.out (some ⟨ga, 0, none⟩) 1 1 [.int .u8 0] rfl (fun h => by cases h) (cn_cells HLT.out) (by intro u hu; obtain rfl : u = _ := (by simpa using hu); rfl) ?c1 (by decide) HLE1.out ?_)
    case c1 => have := HXM.out; omega
    intro bv' w2 hown hgrow
    obtain ⟨sa, sc, rfl, -⟩ := cellsK_own hown
    have hne := own_ne H1.out HT.out (by decide)
    have HC2 := Lib.hid (HC.out.grown hgrow (fun e => hne e.symm))
    have HT2 := Lib.hid (HT.out.grown hgrow hne)
    have HCZ := Lib.hid (HC2.out.set 0 (by simp) (.slice sa (X1.length + 1) sc))
    have HTZ := Lib.hid (HT2.out.set 0 (.slice sa (X1.length + 1) sc))
    have HOZ := Lib.hid (own_keeps hown HT2.out (by decide) (grown_cell w2 q 0 (.slice sa (X1.length + 1) sc)))
    have H2Z := Lib.hid (own_keeps (own_other H2.out H1.out (by decide) hgrow) HT2.out (by decide) (grown_cell w2 q 0 (.slice sa (X1.length + 1) sc)))
    have H3Z := Lib.hid (own_keeps (own_other H3.out H1.out (by decide) hgrow) HT2.out (by decide) (grown_cell w2 q 0 (.slice sa (X1.length + 1) sc)))
    have HBZ := Lib.hid ((HB1.out.grown hgrow HLE1.out (fun k hk => (H1.out.lt k hk).1)).setCell HQ.out (.slice sa (X1.length + 1) sc) (p := ⟨q, 0, none⟩))
    have HKZ := Lib.hid ((HKD1.out.trans HOW.out (Kd.rowB H1.out hgrow)).trans HOW.out (Kd.set HT2.out 0 (.slice sa (X1.length + 1) sc)))
    have c0' := (HC2.out.2 0 _ rfl).1
    have f0' := (HC2.out.2 0 _ rfl).2
    clear c0 hown hgrow hne hva hga
    go_wp2
    refine bodyPost_end (v := .tuple #[]) (by simp [results, Try.results56, go_sem]) rfl ⟨rfl, ?_⟩
    rw [HE.out]
    refine ⟨nv1, E1, ⟨.slice sa (X1.length + 1) sc, av, HCZ.out, HTZ.out, ?_, H2Z.out, H3Z.out, HOK.out, ?_⟩, rfl, HBZ.out, HKZ.out, HOW.out⟩
    · show World.ownsRow _ B _ 1 _ (X1 ++ [0]).length (bc (X1 ++ [0]))
      rw [List.length_append, bc_append]
      exact HOZ.out
    · show E1.length ≤ (X1 ++ [0]).length
      rw [List.length_append]; have := HEL.out; omega
  | cons t M =>
    have hr' : ((nameB (t :: M)).toList == [0]) = false := hr
    obtain ⟨s, hsn⟩ : ∃ s, nameB (t :: M) = s := ⟨_, rfl⟩
    rw [hsn] at hr' ⊢
    clear hr
    have HSN := Lib.hid hsn
    cases hf1 : lkE E1 (t :: M) with
    | some p =>
      have HE1 := Lib.hid (HE.out.trans (wNm_yes hf1))
      obtain ⟨bv, av, hc, ht, h1, h2, h3, hok, hle⟩ := HS.out
      have HP := Lib.hid (show p < 16384 by
        unfold lkE at hf1
        cases h5 : E1.find? (fun e => decide (e.1 = t :: M)) with
        | none => rw [h5] at hf1; cases hf1
        | some e =>
          rw [h5] at hf1
          obtain rfl : e.2 = p := by injection hf1
          exact (hok e (List.mem_of_find?_eq_some h5)).2.2)
      have HFV := Lib.hid (show fdV (lkE E1 (t :: M)) = (p : Int) by rw [hf1]; rfl)
      clear hc ht h1 h2 h3 hok hle hf1 hsn
      go_wp2_with fail
      rw [← HSN.out]
      refine (find_any q B nv1 E1 X1 (t :: M) wr HLD.out.1 HS.out (by have := HXM.out; omega)).mono ?_; rintro e w1 ⟨rfl, rfl⟩
      rw [HFV.out, HSN.out]
      obtain ⟨bv, av, hc, ht, h1, h2, h3, hok, hle⟩ := HS.out
      obtain ⟨y, hy⟩ : ∃ y : Nat, 192 + p / 256 = y := ⟨_, rfl⟩
      have xo : bits .or .i64 192 ((p : Int) / 256) = (y : Int) := by
        have h := or_shift 6 3 (p / 256) (by have := HP.out; omega) (by have := HP.out; omega)
        have e : ((2 ^ 6 * 3 : Nat) : Int) = 192 := by decide
        rw [e] at h
        rw [show (p : Int) / 256 = ((p / 256 : Nat) : Int) by omega, h, ← hy]
      obtain ⟨u0, hu0⟩ : ∃ x, by8 ((192 : Int) + ((p / 256 : Nat) : Int)) = x := ⟨_, rfl⟩
      obtain ⟨u1, hu1⟩ : ∃ x, by8 (p : Int) = x := ⟨_, rfl⟩
      have x2 : IntKind.u8.wrap (y : Int) = (u0.toNat : Int) := by
        rw [IntKind.wrap_u8, ← hu0, by8_toNat]; omega
      have x3 : IntKind.u8.wrap (p : Int) = (u1.toNat : Int) := by
        rw [IntKind.wrap_u8, ← hu1, by8_toNat]
      have HPL := Lib.hid (show joinL 2 [(49152 : Int) + p] = [u0, u1] by rw [place2 HP.out, hu0, hu1])
      have hp0 : (0 : Int) ≤ (p : Int) := by omega
      have hba := (Below.refl wr.heap.size wr).alloc (Nat.le_refl _) (.cells #[.int .u8 (u0.toNat : Int), .int .u8 (u1.toNat : Int)] 5)
      have HLT := Lib.hid (CN.new wr #[.int .u8 (u0.toNat : Int), .int .u8 (u1.toNat : Int)] 5)
      have HC := Lib.hid (hc.below hba)
      have HT := Lib.hid (ht.below hba)
      have H1 := Lib.hid (own_below' h1 hba)
      have H2 := Lib.hid (own_below' h2 hba)
      have H3 := Lib.hid (own_below' h3 hba)
      have HOK := Lib.hid hok
      have HEL := Lib.hid hle
      have HB1 := Lib.hid (HB.out.trans (hba.mono HLE.out))
      have HKD1 := Lib.hid (HKD.out.trans HOW.out (Kd.below nv1 hba))
      have HLE1 := Lib.hid (Nat.le_trans HLE.out hba.size)
      have c0 := (hc.2 0 _ rfl).1
      obtain ⟨va, hva⟩ : ∃ x, wr.alloc (.cells #[.int .u8 (u0.toNat : Int), .int .u8 (u1.toNat : Int)] 5) = x := ⟨_, rfl⟩
      obtain ⟨ga, hga⟩ : ∃ x, wr.heap.size = x := ⟨_, rfl⟩
      have HSZ := Lib.hid (show wr.heap.size ≤ va.heap.size by rw [← hva]; simp)
      rw [hva] at HLT HC HT H1 H2 H3 HB1 HKD1 HLE1
      rw [hga] at HLT
      clear hc ht h1 h2 h3 hok hle hba hy hu0 hu1
      go_wp2_with (at_builtin; refine append_cells rfl _ _ 35 5 rfl i0 (.int .u8 0) 1 Try.underlying35 HI.out HZ0.out HZ1.out HZ2.out rfl B _ X1.length _ rfl H1.out (some ⟨ga, 0, none⟩) 2 2 [.int .u8 (u0.toNat : Int), .int .u8 (u1.toNat : Int)] rfl (fun h => by cases h) (cn_cells HLT.out) (by intro u hu; simp only [List.mem_cons, List.not_mem_nil, or_false] at hu; rcases hu with rfl | rfl <;> rfl) ?c1 (by decide) HLE1.out ?_)
      case c1 => have := HXM.out; omega
      intro bv' w2 hown hgrow
      obtain ⟨sa, sc, rfl, -⟩ := cellsK_own hown
      have hne := own_ne H1.out HT.out (by decide)
      have HC2 := Lib.hid (HC.out.grown hgrow (fun e => hne e.symm))
      have HT2 := Lib.hid (HT.out.grown hgrow hne)
      have HCZ := Lib.hid (HC2.out.set 0 (by simp) (.slice sa (X1.length + 2) sc))
      have HTZ := Lib.hid (HT2.out.set 0 (.slice sa (X1.length + 2) sc))
      have HOZ := Lib.hid (own_keeps hown HT2.out (by decide) (grown_cell w2 q 0 (.slice sa (X1.length + 2) sc)))
      have H2Z := Lib.hid (own_keeps (own_other H2.out H1.out (by decide) hgrow) HT2.out (by decide) (grown_cell w2 q 0 (.slice sa (X1.length + 2) sc)))
      have H3Z := Lib.hid (own_keeps (own_other H3.out H1.out (by decide) hgrow) HT2.out (by decide) (grown_cell w2 q 0 (.slice sa (X1.length + 2) sc)))
      have HBZ := Lib.hid ((HB1.out.grown hgrow HLE1.out (fun k hk => (H1.out.lt k hk).1)).setCell HQ.out (.slice sa (X1.length + 2) sc) (p := ⟨q, 0, none⟩))
      have HKZ := Lib.hid ((HKD1.out.trans HOW.out (Kd.rowB H1.out hgrow)).trans HOW.out (Kd.set HT2.out 0 (.slice sa (X1.length + 2) sc)))
      have c0' := (HC2.out.2 0 _ rfl).1
      have f0' := (HC2.out.2 0 _ rfl).2
      clear c0 hown hgrow hne hva hga
      go_wp2
      refine bodyPost_ret (v := .tuple #[]) (by simp [results, Try.results56, go_sem]) rfl ⟨rfl, ?_⟩
      rw [HE1.out]
      refine ⟨nv1, E1, ⟨.slice sa (X1.length + 2) sc, av, HCZ.out, HTZ.out, ?_, H2Z.out, H3Z.out, HOK.out, ?_⟩, rfl, HBZ.out, HKZ.out, HOW.out⟩
      · show World.ownsRow _ B _ 1 _ (X1 ++ joinL 2 [(49152 : Int) + p]).length (bc (X1 ++ joinL 2 [(49152 : Int) + p]))
        rw [HPL.out, List.length_append, bc_append]
        exact HOZ.out
      · show E1.length ≤ (X1 ++ joinL 2 [(49152 : Int) + p]).length
        rw [List.length_append]; have := HEL.out; omega
    | none =>
      have HE1 := Lib.hid (HE.out.trans (wNm_no hf1))
      have HFV := Lib.hid (show fdV (lkE E1 (t :: M)) = -1 by rw [hf1]; rfl)
      have HF1 := Lib.hid hf1
      clear hf1 hsn
      go_wp2_with fail
      rw [← HSN.out]
      refine (find_any q B nv1 E1 X1 (t :: M) wr HLD.out.1 HS.out (by have := HXM.out; omega)).mono ?_; rintro e w1 ⟨rfl, rfl⟩
      rw [HFV.out, HSN.out]
      obtain ⟨bv, av, hc, ht, h1, h2, h3, hok, hle⟩ := HS.out
      obtain ⟨xl, hxl⟩ : ∃ x, X1.length = x := ⟨_, rfl⟩
      obtain ⟨el, hel⟩ : ∃ x, E1.length = x := ⟨_, rfl⟩
      rw [hxl] at h1
      rw [hel] at h2 h3
      obtain ⟨sa, sc, rfl, -⟩ := cellsK_own h1
      have HXL := Lib.hid hxl
      have HELN := Lib.hid hel
      have HOK := Lib.hid hok
      have HEL := Lib.hid (show E1.length ≤ X1.length from hle)
      have HXS := Lib.hid (show xl ≤ 999954 by rw [← hxl]; exact HXM.out)
      have HELX := Lib.hid (show el ≤ 999954 by have := HXM.out; omega)
      rw [hxl] at HE1
      have HR := Lib.hid (show R5s wr B q (.slice sa xl sc) nv1 av xl el (bc X1) (nmsC E1) (atsC E1) from ⟨hc, ht, h1, h2, h3, HLE.out⟩)
      have c0 := (hc.2 0 _ rfl).1
      clear hc ht h1 h2 h3 hok hle hxl hel
      have hsz := nameB_size (t :: M)
      have hof := off_cons t M
      have hex := name_head t M
      have hx := name_suffix (t :: M) 1 (by simp)
      have ho1 : off (t :: M) 1 = 1 + t.size := by rw [off_succ, tx_cons_zero, off_zero, Nat.zero_add]
      rw [ho1] at hx
      have hb := name_byte (t :: M) 0 (by simp) (by obtain ⟨_, g, _⟩ := HLD.out.1 0 (by simp); omega)
      rw [tx_cons_zero, off_zero, HSN.out] at hb
      rw [HSN.out] at hsz hex hx
      have hx' : s.extract (1 + t.size) s.size = nameB M := hx
      obtain ⟨ls, hls⟩ : ∃ ls, s.size = ls := ⟨_, rfl⟩
      obtain ⟨ts, hts⟩ : ∃ d, t.size = d := ⟨_, rfl⟩
      obtain ⟨d, hd⟩ : ∃ d, 1 + ts = d := ⟨_, rfl⟩
      rw [hls] at hsz
      rw [hts] at hex hx' hb hof
      rw [hd] at hex hx'
      have hts63 : ts ≤ 63 := by obtain ⟨_, g, _⟩ := HLD.out.1 0 (by simp); rw [← hts]; exact g
      have HDS := Lib.hid (show ls = d + (off M M.length + 1) ∧ ls ≤ 300 ∧ 1 ≤ d by have := HLD.out.2; omega)
      have hl0 : 0 < s.size := by omega
      have hg := (byte_get hl0).trans hb
      have hwr : IntKind.i64.wrap (1 + (ts : Int)) = (d : Int) := by rw [IntKind.wrap_i64]; omega
      have hdl : d ≤ ls := by have := HDS.out; omega
      obtain ⟨Y, hY⟩ : ∃ Y, UInt8.ofNat t.size :: t.data.toList = Y := ⟨_, rfl⟩
      rw [hY] at HE1
      have hex2 : s.extract 0 d = bs Y := by rw [← hY, hts]; exact hex
      have HYL := Lib.hid (show Y.length = d by rw [← hY, List.length_cons, size_data]; omega)
      have HEX := Lib.hid hex2
      have HSUF := Lib.hid (show s.extract d ls = nameB M by rw [hls] at hx'; exact hx')
      have HLSR := Lib.hid (show s.size = ls ∧ 1 ≤ d from ⟨hls, by omega⟩)
      have HOF := Lib.hid (show off L (k + 1) = off L k + d by rw [off_succ]; have e := HMK.out; have hkl : k < L.length := by { rcases Nat.lt_or_ge k L.length with h | h; exact h; rw [List.drop_eq_nil_of_le h] at e; cases e }; rw [drop_cons_tx L k hkl] at e; injection e with e1 _; rw [e1]; omega)
      clear hsz hof hd hY hex hex2 hx hx' ho1 hb hts
      by_cases hlt : xl < 16384
      · have d1 := dT (p := (xl : Int) < 16384) (by omega)
        have HLT := Lib.hid hlt
        clear hlt
        go_upto_region 5 with (fail)
        clear c0
        obtain ⟨wd, hwd⟩ : ∃ x, wr.drew = x := ⟨_, rfl⟩
        replace HR := Lib.hid (show R5s wd B q (.slice sa xl sc) nv1 av xl el (bc X1) (nmsC E1) (atsC E1) by rw [← hwd]; exact HR.out.drew)
        have HKK := Lib.hid (show Kd wr wd nv1 by rw [← hwd]; exact (Kd.refl wr nv1).drew)
        have HBB := Lib.hid (show Below B w wd by rw [← hwd]; exact HB.out.drew)
        have HGR := Lib.hid (show wr.heap.size ≤ wd.heap.size by rw [← hwd]; exact Nat.le_refl _)
        refine wp_region_store_drew (S := (fun wx => CN wx q [.slice sa xl sc, nv1, av])) (L := 22) (by kernel_rfl) (by rw [hwd]; exact HR.out.cn) (fun hHeld => ?_)
        rw [hwd] at hHeld ⊢
        clear hwd
        refine wpAnyU_take0 (i := 0) (oi := { dst := some 34, op := Go.Op.move (Go.Operand.tmp 0), type := 105, pos := "ref.go:112", after := #[], guard := none }) (v := ?v0_410101) rfl (by decide) (by kernel_rfl) (by kernel_rfl) (by kernel_rfl) (fun _ _ _ h => h) (Or.inl ⟨by rfl, ?y0_410101⟩) (fun _ => hHeld) ?r0_410101
        case y0_410101 => intro w hSw; clear hSw; go_simp; try with_reducible rfl
        try simp only [Act.put, List.setIfInBounds_toArray, List.set_cons_zero, List.set_cons_succ]
        refine wpAnyU_take0 (i := 1) (oi := { dst := some 35, op := Go.Op.move (Go.Operand.tmp 0), type := 105, pos := "ref.go:112", after := #[{ on := 22, ground := Go.Ground.gcOnly Go.Departure.lateStores }], guard := none }) (v := ?v1_410101) rfl (by decide) (by kernel_rfl) (by kernel_rfl) (by kernel_rfl) (fun _ _ _ h => h) (Or.inl ⟨by rfl, ?y1_410101⟩) (fun _ => hHeld) ?r1_410101
        case y1_410101 => intro w hSw; clear hSw; go_simp; try with_reducible rfl
        try simp only [Act.put, List.setIfInBounds_toArray, List.set_cons_zero, List.set_cons_succ]
        refine wpAnyU_take0 (i := 2) (oi := { dst := some 36, op := Go.Op.move (Go.Operand.tmp 0), type := 105, pos := "ref.go:112", after := #[], guard := none }) (v := ?v2_410101) rfl (by decide) (by kernel_rfl) (by kernel_rfl) (by kernel_rfl) (fun _ _ _ h => h) (Or.inl ⟨by rfl, ?y2_410101⟩) (fun _ => hHeld) ?r2_410101
        case y2_410101 => intro w hSw; clear hSw; go_simp; try with_reducible rfl
        try simp only [Act.put, List.setIfInBounds_toArray, List.set_cons_zero, List.set_cons_succ]
        refine wpAnyU_take0 (i := 3) (oi := { dst := some 37, op := Go.Op.nilCheck (Go.Operand.tmp 36), type := 0, pos := "ref.go:112", after := #[{ on := 2, ground := Go.Ground.data }], guard := none }) (v := ?v3_410101) rfl (by decide) (by kernel_rfl) (by kernel_rfl) (by kernel_rfl) (fun _ _ _ h => h) (Or.inl ⟨by rfl, ?y3_410101⟩) (fun _ => hHeld) ?r3_410101
        case y3_410101 => intro w hSw; clear hSw; go_simp; try with_reducible rfl
        try simp only [Act.put, List.setIfInBounds_toArray, List.set_cons_zero, List.set_cons_succ]
        refine wpAnyU_take0 (i := 4) (oi := { dst := some 38, op := Go.Op.fieldAddr 108 (Go.Operand.tmp 37) 1, type := 0, pos := "ref.go:112", after := #[{ on := 3, ground := Go.Ground.data }], guard := none }) (v := ?v4_410101) rfl (by decide) (by kernel_rfl) (by kernel_rfl) (by kernel_rfl) (fun _ _ _ h => h) (Or.inl ⟨by rfl, ?y4_410101⟩) (fun _ => hHeld) ?r4_410101
        case y4_410101 => intro w hSw; clear hSw; go_simp; try with_reducible rfl
        try simp only [Act.put, List.setIfInBounds_toArray, List.set_cons_zero, List.set_cons_succ]
        refine wpAnyU_take0 (i := 6) (oi := { dst := some 40, op := Go.Op.move (Go.Operand.tmp 1), type := 9, pos := "ref.go:112", after := #[], guard := none }) (v := ?v6_410101) rfl (by decide) (by kernel_rfl) (by kernel_rfl) (by kernel_rfl) (fun _ _ _ h => h) (Or.inl ⟨by rfl, ?y6_410101⟩) (fun _ => hHeld) ?r6_410101
        case y6_410101 => intro w hSw; clear hSw; go_simp; try with_reducible rfl
        try simp only [Act.put, List.setIfInBounds_toArray, List.set_cons_zero, List.set_cons_succ]
        refine wpAnyU_take0 (i := 9) (oi := { dst := some 43, op := Go.Op.move (Go.Operand.tmp 0), type := 105, pos := "ref.go:112", after := #[], guard := none }) (v := ?v9_410101) rfl (by decide) (by kernel_rfl) (by kernel_rfl) (by kernel_rfl) (fun _ _ _ h => h) (Or.inl ⟨by rfl, ?y9_410101⟩) (fun _ => hHeld) ?r9_410101
        case y9_410101 => intro w hSw; clear hSw; go_simp; try with_reducible rfl
        try simp only [Act.put, List.setIfInBounds_toArray, List.set_cons_zero, List.set_cons_succ]
        refine wpAnyU_take0 (i := 10) (oi := { dst := some 44, op := Go.Op.nilCheck (Go.Operand.tmp 43), type := 0, pos := "ref.go:112", after := #[{ on := 9, ground := Go.Ground.data }], guard := none }) (v := ?v10_410101) rfl (by decide) (by kernel_rfl) (by kernel_rfl) (by kernel_rfl) (fun _ _ _ h => h) (Or.inl ⟨by rfl, ?y10_410101⟩) (fun _ => hHeld) ?r10_410101
        case y10_410101 => intro w hSw; clear hSw; go_simp; try with_reducible rfl
        try simp only [Act.put, List.setIfInBounds_toArray, List.set_cons_zero, List.set_cons_succ]
        refine wpAnyU_take0 (i := 11) (oi := { dst := some 45, op := Go.Op.fieldAddr 108 (Go.Operand.tmp 44) 2, type := 0, pos := "ref.go:112", after := #[{ on := 10, ground := Go.Ground.data }], guard := none }) (v := ?v11_410101) rfl (by decide) (by kernel_rfl) (by kernel_rfl) (by kernel_rfl) (fun _ _ _ h => h) (Or.inl ⟨by rfl, ?y11_410101⟩) (fun _ => hHeld) ?r11_410101
        case y11_410101 => intro w hSw; clear hSw; go_simp; try with_reducible rfl
        try simp only [Act.put, List.setIfInBounds_toArray, List.set_cons_zero, List.set_cons_succ]
        refine wpAnyU_take0 (i := 13) (oi := { dst := some 47, op := Go.Op.move (Go.Operand.tmp 0), type := 105, pos := "ref.go:112", after := #[], guard := none }) (v := ?v13_410101) rfl (by decide) (by kernel_rfl) (by kernel_rfl) (by kernel_rfl) (fun _ _ _ h => h) (Or.inl ⟨by rfl, ?y13_410101⟩) (fun _ => hHeld) ?r13_410101
        case y13_410101 => intro w hSw; clear hSw; go_simp; try with_reducible rfl
        try simp only [Act.put, List.setIfInBounds_toArray, List.set_cons_zero, List.set_cons_succ]
        refine wpAnyU_take0 (i := 14) (oi := { dst := some 48, op := Go.Op.nilCheck (Go.Operand.tmp 47), type := 0, pos := "ref.go:112", after := #[{ on := 13, ground := Go.Ground.data }], guard := none }) (v := ?v14_410101) rfl (by decide) (by kernel_rfl) (by kernel_rfl) (by kernel_rfl) (fun _ _ _ h => h) (Or.inl ⟨by rfl, ?y14_410101⟩) (fun _ => hHeld) ?r14_410101
        case y14_410101 => intro w hSw; clear hSw; go_simp; try with_reducible rfl
        try simp only [Act.put, List.setIfInBounds_toArray, List.set_cons_zero, List.set_cons_succ]
        refine wpAnyU_take0 (i := 15) (oi := { dst := some 49, op := Go.Op.fieldAddr 108 (Go.Operand.tmp 48) 0, type := 0, pos := "ref.go:112", after := #[{ on := 14, ground := Go.Ground.data }], guard := none }) (v := ?v15_410101) rfl (by decide) (by kernel_rfl) (by kernel_rfl) (by kernel_rfl) (fun _ _ _ h => h) (Or.inl ⟨by rfl, ?y15_410101⟩) (fun _ => hHeld) ?r15_410101
        case y15_410101 => intro w hSw; clear hSw; go_simp; try with_reducible rfl
        try simp only [Act.put, List.setIfInBounds_toArray, List.set_cons_zero, List.set_cons_succ]
        refine wpAnyU_take (i := 5) (oi := { dst := some 39, op := Go.Op.load 72 (Go.Operand.tmp 38), type := 72, pos := "ref.go:112", after := #[{ on := 4, ground := Go.Ground.data }], guard := none }) (v := ?v5_410101) rfl (by kernel_rfl) (by decide) (by kernel_rfl) (by kernel_rfl) (by kernel_rfl) (by kernel_rfl) (by kernel_rfl) (fun _ _ _ h => h) (Or.inl ⟨by rfl, ?y5_410101⟩) hHeld ?r5_410101
        case y5_410101 => intro w hSw; (try dsimp only at hSw); have y0 := (hSw.2 0 _ rfl).1; have y1 := (hSw.2 1 _ rfl).1; have y2 := (hSw.2 2 _ rfl).1; go_simp; try with_reducible rfl
        try simp only [Act.put, List.setIfInBounds_toArray, List.set_cons_zero, List.set_cons_succ]
        refine wpAnyU_take (i := 12) (oi := { dst := some 46, op := Go.Op.load 106 (Go.Operand.tmp 45), type := 106, pos := "ref.go:112", after := #[{ on := 11, ground := Go.Ground.data }], guard := none }) (v := ?v12_410101) rfl (by kernel_rfl) (by decide) (by kernel_rfl) (by kernel_rfl) (by kernel_rfl) (by kernel_rfl) (by kernel_rfl) (fun _ _ _ h => h) (Or.inl ⟨by rfl, ?y12_410101⟩) hHeld ?r12_410101
        case y12_410101 => intro w hSw; (try dsimp only at hSw); have y0 := (hSw.2 0 _ rfl).1; have y1 := (hSw.2 1 _ rfl).1; have y2 := (hSw.2 2 _ rfl).1; go_simp; try with_reducible rfl
        try simp only [Act.put, List.setIfInBounds_toArray, List.set_cons_zero, List.set_cons_succ]
        refine wpAnyU_take (i := 16) (oi := { dst := some 50, op := Go.Op.load 35 (Go.Operand.tmp 49), type := 35, pos := "ref.go:112", after := #[{ on := 15, ground := Go.Ground.data }], guard := none }) (v := ?v16_410101) rfl (by kernel_rfl) (by decide) (by kernel_rfl) (by kernel_rfl) (by kernel_rfl) (by kernel_rfl) (by kernel_rfl) (fun _ _ _ h => h) (Or.inl ⟨by rfl, ?y16_410101⟩) hHeld ?r16_410101
        case y16_410101 => intro w hSw; (try dsimp only at hSw); have y0 := (hSw.2 0 _ rfl).1; have y1 := (hSw.2 1 _ rfl).1; have y2 := (hSw.2 2 _ rfl).1; go_simp; try with_reducible rfl
        try simp only [Act.put, List.setIfInBounds_toArray, List.set_cons_zero, List.set_cons_succ]
        refine wpAnyU_take0 (i := 17) (oi := { dst := some 51, op := Go.Op.call { callee := Go.Callee.builtin Go.Builtin.len, args := #[Go.Operand.tmp 50], argTypes := #[35] }, type := 3, pos := "ref.go:112", after := #[{ on := 16, ground := Go.Ground.data }], guard := none }) (v := ?v17_410101) rfl (by decide) (by kernel_rfl) (by kernel_rfl) (by kernel_rfl) (fun _ _ _ h => h) (Or.inl ⟨by rfl, ?y17_410101⟩) (fun _ => hHeld) ?r17_410101
        case y17_410101 => intro w hSw; clear hSw; go_simp; try with_reducible rfl
        try simp only [Act.put, List.setIfInBounds_toArray, List.set_cons_zero, List.set_cons_succ]
        refine wpAnyU_ready (rs := [7, 18]) (by kernel_rfl) (by simp) ?_
        refine AllReadyU.cons (o := { dst := some 41, op := Go.Op.buildSlice 72 1 #[(0, Go.Operand.tmp 40)], type := 72, pos := "ref.go:112", after := #[{ on := 6, ground := Go.Ground.data }], guard := none }) rfl (fun K hK => ?_) (AllReadyU.cons (o := { dst := some 52, op := Go.Op.buildSlice 106 1 #[(0, Go.Operand.tmp 51)], type := 106, pos := "ref.go:112", after := #[{ on := 17, ground := Go.Ground.data }], guard := none }) rfl (fun K hK => ?_) AllReadyU.nil)
        · go_simp
          obtain ⟨z7, hzl7⟩ : ∃ x, wd.alloc (.cells #[.string s] 9) = x := ⟨_, rfl⟩
          obtain ⟨g7, hg7⟩ : ∃ x, wd.heap.size = x := ⟨_, rfl⟩
          have hba := (Below.refl wd.heap.size wd).alloc (Nat.le_refl _) (.cells #[.string s] 9)
          have HL7 := Lib.hid (CN.new wd #[.string s] 9)
          have HTL7 := Lib.hid (TB.new wd #[.string s] 9)
          rw [hzl7] at hba HL7 HTL7 ⊢
          rw [hg7] at HL7 HTL7 ⊢
          have HR7 := Lib.hid (HR.out.below hba)
          have HKK7 := Lib.hid (HKK.out.trans (Ow.refl _ _) (Kd.below nv1 hba))
          have HBB7 := Lib.hid (HBB.out.trans (hba.mono HR.out.le))
          have HGR7 := Lib.hid (Nat.le_trans HGR.out hba.size)
          clear hba hzl7 hg7
          refine hK.out _ _ (HR7.out.cn) (fun hHeld2 => ?_)
          clear hK K hHeld
          have hHeld := hHeld2
          clear hHeld2
          try simp only [Act.put, List.setIfInBounds_toArray, List.set_cons_zero, List.set_cons_succ]
          refine wpAnyU_ready (rs := [8, 18]) (by kernel_rfl) (by simp) ?_
          refine AllReadyU.cons (o := { dst := some 42, op := Go.Op.call { callee := Go.Callee.builtin Go.Builtin.append, args := #[Go.Operand.tmp 39, Go.Operand.tmp 41], argTypes := #[72, 72] }, type := 72, pos := "ref.go:112", after := #[{ on := 5, ground := Go.Ground.data }, { on := 7, ground := Go.Ground.data }], guard := none }) rfl (fun K hK => ?_) (AllReadyU.cons (o := { dst := some 52, op := Go.Op.buildSlice 106 1 #[(0, Go.Operand.tmp 51)], type := 106, pos := "ref.go:112", after := #[{ on := 17, ground := Go.Ground.data }], guard := none }) rfl (fun K hK => ?_) AllReadyU.nil)
          · refine step_append_lies _ (by rfl) _ _ 72 (by rfl) B 9 j0 (.string ⟨#[]⟩) 1 16 Try.underlying72 HJ.out.1 HJ.out.2.1 HJ.out.2.2.1 HJ.out.2.2.2 rfl (by decide) nv1 el (nmsC E1) (by rfl) HR7.out.names ⟨g7, 0, none⟩ 1 1 [.string s] (by rfl) rfl (cn_news HL7.out) (by intro u hu; obtain rfl : u = _ := (by simpa using hu); rfl) (by decide) (by have := HELX.out; unfold maxLen; omega) (by have := HELX.out; omega) HR7.out.le _ rfl ?_
            intro g8 cap8 z78 ho8 hg8 hlie8 hlt8
            have HLIE := Lib.hid hlie8
            have HO8 := Lib.hid ho8
            have HR78 := Lib.hid (HR7.out.names8 hg8)
            have HKK78 := Lib.hid (HKK7.out.trans (Ow.refl _ _) (Kd.rowN hg8))
            have HSZ8 := Lib.hid HBB7.out.size
            have HGE8 := Lib.hid (HGR7.out)
            have HBB78 := Lib.hid (HBB7.out.grown hg8 HR7.out.le (fun k hk => (HR7.out.names.lt k hk).1))
            have HGR78 := Lib.hid (Nat.le_trans HGR7.out hg8.size)
            clear ho8 hg8 hlie8 hlt8
            refine hK.out _ _ (HR78.out.cn) (fun hHeld2 => ?_)
            clear hK K hHeld
            have hHeld := hHeld2
            clear hHeld2
            try simp only [Act.put, List.setIfInBounds_toArray, List.set_cons_zero, List.set_cons_succ]
            refine wpAnyU_ready (rs := [18]) (by kernel_rfl) (by simp) ?_
            refine AllReadyU.cons (o := { dst := some 52, op := Go.Op.buildSlice 106 1 #[(0, Go.Operand.tmp 51)], type := 106, pos := "ref.go:112", after := #[{ on := 17, ground := Go.Ground.data }], guard := none }) rfl (fun K hK => ?_) AllReadyU.nil
            go_simp
            obtain ⟨z7818, hzl18⟩ : ∃ x, z78.alloc (.cells #[.int .i64 (xl : Int)] 3) = x := ⟨_, rfl⟩
            obtain ⟨g18, hg18⟩ : ∃ x, z78.heap.size = x := ⟨_, rfl⟩
            have hba := (Below.refl z78.heap.size z78).alloc (Nat.le_refl _) (.cells #[.int .i64 (xl : Int)] 3)
            have HL18 := Lib.hid (CN.new z78 #[.int .i64 (xl : Int)] 3)
            have HTL18 := Lib.hid (TB.new z78 #[.int .i64 (xl : Int)] 3)
            rw [hzl18] at hba HL18 HTL18 ⊢
            rw [hg18] at HL18 HTL18 ⊢
            have HR7818 := Lib.hid (HR78.out.below hba)
            have HKK7818 := Lib.hid (HKK78.out.trans (Ow.refl _ _) (Kd.below nv1 hba))
            have HBB7818 := Lib.hid (HBB78.out.trans (hba.mono HR78.out.le))
            have HOX7818 := Lib.hid (own_below' HO8.out hba)
            have HGR7818 := Lib.hid (Nat.le_trans HGR78.out hba.size)
            clear hba hzl18 hg18
            refine hK.out _ _ (HR7818.out.cn) (fun hHeld2 => ?_)
            clear hK K hHeld
            have hHeld := hHeld2
            clear hHeld2
            try simp only [Act.put, List.setIfInBounds_toArray, List.set_cons_zero, List.set_cons_succ]
            refine wpAnyU_ready (rs := [19]) (by kernel_rfl) (by simp) ?_
            refine AllReadyU.cons (o := { dst := some 53, op := Go.Op.call { callee := Go.Callee.builtin Go.Builtin.append, args := #[Go.Operand.tmp 46, Go.Operand.tmp 52], argTypes := #[106, 106] }, type := 106, pos := "ref.go:112", after := #[{ on := 12, ground := Go.Ground.data }, { on := 18, ground := Go.Ground.data }, { on := 8, ground := Go.Ground.chain }], guard := none }) rfl (fun K hK => ?_) AllReadyU.nil
            skip
            refine step_append_lies _ (by rfl) _ _ 106 (by rfl) B 3 k0 (.int .i64 0) 1 8 Try.underlying106 HLI.out.1 HLI.out.2.1 HLI.out.2.2.1 HLI.out.2.2.2 rfl (by decide) av el (atsC E1) (by rfl) HR7818.out.ats ⟨g18, 0, none⟩ 1 1 [.int .i64 (xl : Int)] (by rfl) rfl (cn_news HL18.out) (by intro u hu; obtain rfl : u = _ := (by simpa using hu); rfl) (by decide) (by have := HELX.out; unfold maxLen; omega) (by have := HELX.out; omega) HR7818.out.le _ rfl ?_
            intro g9 cap9 z781819 ho9 hg9 hlie9 hlt9
            have HO9 := Lib.hid ho9
            have HC9 := Lib.hid (HR7818.out.cn.grown hg9 (fun e => own_ne HR7818.out.ats HR7818.out.tb (by decide) e.symm))
            have HT9 := Lib.hid (HR7818.out.tb.grown hg9 (own_ne HR7818.out.ats HR7818.out.tb (by decide)))
            have HB9 := Lib.hid (own_other HR7818.out.row HR7818.out.ats (by decide) hg9)
            have HN9 := Lib.hid (own_other (HOX7818.out) HR7818.out.ats (by decide) hg9)
            have HKK9 := Lib.hid (HKK7818.out.trans (Ow.refl _ _) (Kd.rowI HR7818.out.ats hg9))
            have HBB9 := Lib.hid (HBB7818.out.grown hg9 HR7818.out.le (fun k hk => (HR7818.out.ats.lt k hk).1))
            have HLE9 := Lib.hid (Nat.le_trans HR7818.out.le hg9.size)
            clear ho9 hg9 hlie9 hlt9
            refine hK.out _ _ (HC9.out) (fun hHeld2 => ?_)
            clear hK K hHeld
            have hHeld := hHeld2
            clear hHeld2
            try simp only [Act.put, List.setIfInBounds_toArray, List.set_cons_zero, List.set_cons_succ]
            refine wpAnyU_take0 (i := 20) (oi := { dst := some 54, op := Go.Op.nilCheck (Go.Operand.tmp 34), type := 0, pos := "ref.go:112", after := #[{ on := 0, ground := Go.Ground.data }, { on := 0, ground := Go.Ground.phase }, { on := 1, ground := Go.Ground.textOnly Go.Departure.lateStores }, { on := 2, ground := Go.Ground.phase }, { on := 3, ground := Go.Ground.phase }, { on := 4, ground := Go.Ground.phase }, { on := 5, ground := Go.Ground.phase }, { on := 6, ground := Go.Ground.phase }, { on := 7, ground := Go.Ground.phase }, { on := 8, ground := Go.Ground.phase }, { on := 9, ground := Go.Ground.textOnly Go.Departure.lateStores }, { on := 10, ground := Go.Ground.textOnly Go.Departure.lateStoresUnsure }, { on := 11, ground := Go.Ground.textOnly Go.Departure.lateStoresUnsure }, { on := 12, ground := Go.Ground.phase }, { on := 13, ground := Go.Ground.textOnly Go.Departure.lateStores }, { on := 14, ground := Go.Ground.textOnly Go.Departure.lateStoresUnsure }, { on := 15, ground := Go.Ground.textOnly Go.Departure.lateStoresUnsure }, { on := 16, ground := Go.Ground.phase }, { on := 17, ground := Go.Ground.textOnly Go.Departure.lateStoresUnsure }, { on := 18, ground := Go.Ground.textOnly Go.Departure.lateStoresUnsure }, { on := 19, ground := Go.Ground.phase }], guard := none }) (v := ?v20_410105) rfl (by decide) (by kernel_rfl) (by kernel_rfl) (by kernel_rfl) (fun _ _ _ h => h) (Or.inl ⟨by rfl, ?y20_410105⟩) (fun _ => hHeld) ?r20_410105
            case y20_410105 => intro w hSw; clear hSw; go_simp; try with_reducible rfl
            try simp only [Act.put, List.setIfInBounds_toArray, List.set_cons_zero, List.set_cons_succ]
            refine wpAnyU_take0 (i := 21) (oi := { dst := some 55, op := Go.Op.fieldAddr 108 (Go.Operand.tmp 54) 1, type := 0, pos := "ref.go:112", after := #[{ on := 20, ground := Go.Ground.data }, { on := 0, ground := Go.Ground.phase }, { on := 1, ground := Go.Ground.textOnly Go.Departure.lateStores }, { on := 2, ground := Go.Ground.phase }, { on := 3, ground := Go.Ground.phase }, { on := 4, ground := Go.Ground.phase }, { on := 5, ground := Go.Ground.phase }, { on := 6, ground := Go.Ground.phase }, { on := 7, ground := Go.Ground.phase }, { on := 8, ground := Go.Ground.phase }, { on := 9, ground := Go.Ground.textOnly Go.Departure.lateStores }, { on := 10, ground := Go.Ground.textOnly Go.Departure.lateStoresUnsure }, { on := 11, ground := Go.Ground.textOnly Go.Departure.lateStoresUnsure }, { on := 12, ground := Go.Ground.phase }, { on := 13, ground := Go.Ground.textOnly Go.Departure.lateStores }, { on := 14, ground := Go.Ground.textOnly Go.Departure.lateStoresUnsure }, { on := 15, ground := Go.Ground.textOnly Go.Departure.lateStoresUnsure }, { on := 16, ground := Go.Ground.phase }, { on := 17, ground := Go.Ground.textOnly Go.Departure.lateStoresUnsure }, { on := 18, ground := Go.Ground.textOnly Go.Departure.lateStoresUnsure }, { on := 19, ground := Go.Ground.phase }], guard := none }) (v := ?v21_410105) rfl (by decide) (by kernel_rfl) (by kernel_rfl) (by kernel_rfl) (fun _ _ _ h => h) (Or.inl ⟨by rfl, ?y21_410105⟩) (fun _ => hHeld) ?r21_410105
            case y21_410105 => intro w hSw; clear hSw; go_simp; try with_reducible rfl
            try simp only [Act.put, List.setIfInBounds_toArray, List.set_cons_zero, List.set_cons_succ]
            refine wpAnyU_ready (rs := [22]) (by kernel_rfl) (by simp) ?_
            refine AllReadyU.last (o := { dst := none, op := Go.Op.store 72 (Go.Operand.tmp 55) (Go.Operand.tmp 42), type := 0, pos := "ref.go:112", after := #[{ on := 21, ground := Go.Ground.data }, { on := 8, ground := Go.Ground.data }, { on := 19, ground := Go.Ground.chain }, { on := 0, ground := Go.Ground.phase }, { on := 1, ground := Go.Ground.textOnly Go.Departure.lateStores }, { on := 2, ground := Go.Ground.phase }, { on := 3, ground := Go.Ground.phase }, { on := 4, ground := Go.Ground.phase }, { on := 5, ground := Go.Ground.phase }, { on := 6, ground := Go.Ground.phase }, { on := 7, ground := Go.Ground.phase }, { on := 8, ground := Go.Ground.phase }, { on := 9, ground := Go.Ground.textOnly Go.Departure.lateStores }, { on := 10, ground := Go.Ground.textOnly Go.Departure.lateStoresUnsure }, { on := 11, ground := Go.Ground.textOnly Go.Departure.lateStoresUnsure }, { on := 12, ground := Go.Ground.phase }, { on := 13, ground := Go.Ground.textOnly Go.Departure.lateStores }, { on := 14, ground := Go.Ground.textOnly Go.Departure.lateStoresUnsure }, { on := 15, ground := Go.Ground.textOnly Go.Departure.lateStoresUnsure }, { on := 16, ground := Go.Ground.phase }, { on := 17, ground := Go.Ground.textOnly Go.Departure.lateStoresUnsure }, { on := 18, ground := Go.Ground.textOnly Go.Departure.lateStoresUnsure }, { on := 19, ground := Go.Ground.phase }], guard := none }) rfl (by kernel_rfl) (fun K hK => ?_) AllReadyU.nil
            have y0 := (HC9.out.2 1 _ rfl).1
            have f0 := (HC9.out.2 1 _ rfl).2
            go_simp
            refine hK.out _ _ trivial (fun _ => ?_)
            clear hK K
            try simp only [Act.put, List.setIfInBounds_toArray, List.set_cons_zero, List.set_cons_succ]
            refine wpAnyU_take0 (i := 23) (oi := { dst := some 56, op := Go.Op.nilCheck (Go.Operand.tmp 35), type := 0, pos := "ref.go:112", after := #[{ on := 1, ground := Go.Ground.data }, { on := 0, ground := Go.Ground.phase }, { on := 1, ground := Go.Ground.phase }, { on := 2, ground := Go.Ground.phase }, { on := 3, ground := Go.Ground.phase }, { on := 4, ground := Go.Ground.phase }, { on := 5, ground := Go.Ground.phase }, { on := 6, ground := Go.Ground.phase }, { on := 7, ground := Go.Ground.phase }, { on := 8, ground := Go.Ground.phase }, { on := 9, ground := Go.Ground.phase }, { on := 10, ground := Go.Ground.phase }, { on := 11, ground := Go.Ground.phase }, { on := 12, ground := Go.Ground.phase }, { on := 13, ground := Go.Ground.phase }, { on := 14, ground := Go.Ground.phase }, { on := 15, ground := Go.Ground.phase }, { on := 16, ground := Go.Ground.phase }, { on := 17, ground := Go.Ground.phase }, { on := 18, ground := Go.Ground.phase }, { on := 19, ground := Go.Ground.phase }, { on := 20, ground := Go.Ground.phase }, { on := 21, ground := Go.Ground.phase }, { on := 22, ground := Go.Ground.phase }], guard := none }) (v := ?v23_410106) rfl (by decide) (by kernel_rfl) (by kernel_rfl) (by kernel_rfl) (fun _ _ _ h => h) (Or.inl ⟨by rfl, ?y23_410106⟩) (fun h => absurd (h.symm.trans (by kernel_rfl)) Bool.false_ne_true) ?r23_410106
            case y23_410106 => intro w hSw; clear hSw; go_simp; try with_reducible rfl
            try simp only [Act.put, List.setIfInBounds_toArray, List.set_cons_zero, List.set_cons_succ]
            refine wpAnyU_take0 (i := 24) (oi := { dst := some 57, op := Go.Op.fieldAddr 108 (Go.Operand.tmp 56) 2, type := 0, pos := "ref.go:112", after := #[{ on := 23, ground := Go.Ground.data }, { on := 0, ground := Go.Ground.phase }, { on := 1, ground := Go.Ground.phase }, { on := 2, ground := Go.Ground.phase }, { on := 3, ground := Go.Ground.phase }, { on := 4, ground := Go.Ground.phase }, { on := 5, ground := Go.Ground.phase }, { on := 6, ground := Go.Ground.phase }, { on := 7, ground := Go.Ground.phase }, { on := 8, ground := Go.Ground.phase }, { on := 9, ground := Go.Ground.phase }, { on := 10, ground := Go.Ground.phase }, { on := 11, ground := Go.Ground.phase }, { on := 12, ground := Go.Ground.phase }, { on := 13, ground := Go.Ground.phase }, { on := 14, ground := Go.Ground.phase }, { on := 15, ground := Go.Ground.phase }, { on := 16, ground := Go.Ground.phase }, { on := 17, ground := Go.Ground.phase }, { on := 18, ground := Go.Ground.phase }, { on := 19, ground := Go.Ground.phase }, { on := 20, ground := Go.Ground.phase }, { on := 21, ground := Go.Ground.phase }, { on := 22, ground := Go.Ground.phase }], guard := none }) (v := ?v24_410106) rfl (by decide) (by kernel_rfl) (by kernel_rfl) (by kernel_rfl) (fun _ _ _ h => h) (Or.inl ⟨by rfl, ?y24_410106⟩) (fun h => absurd (h.symm.trans (by kernel_rfl)) Bool.false_ne_true) ?r24_410106
            case y24_410106 => intro w hSw; clear hSw; go_simp; try with_reducible rfl
            try simp only [Act.put, List.setIfInBounds_toArray, List.set_cons_zero, List.set_cons_succ]
            refine wpAnyU_ready (rs := [25]) (by kernel_rfl) (by simp) ?_
            refine AllReadyU.last (o := { dst := none, op := Go.Op.store 106 (Go.Operand.tmp 57) (Go.Operand.tmp 53), type := 0, pos := "ref.go:112", after := #[{ on := 24, ground := Go.Ground.data }, { on := 19, ground := Go.Ground.data }, { on := 22, ground := Go.Ground.chain }, { on := 0, ground := Go.Ground.phase }, { on := 1, ground := Go.Ground.phase }, { on := 2, ground := Go.Ground.phase }, { on := 3, ground := Go.Ground.phase }, { on := 4, ground := Go.Ground.phase }, { on := 5, ground := Go.Ground.phase }, { on := 6, ground := Go.Ground.phase }, { on := 7, ground := Go.Ground.phase }, { on := 8, ground := Go.Ground.phase }, { on := 9, ground := Go.Ground.phase }, { on := 10, ground := Go.Ground.phase }, { on := 11, ground := Go.Ground.phase }, { on := 12, ground := Go.Ground.phase }, { on := 13, ground := Go.Ground.phase }, { on := 14, ground := Go.Ground.phase }, { on := 15, ground := Go.Ground.phase }, { on := 16, ground := Go.Ground.phase }, { on := 17, ground := Go.Ground.phase }, { on := 18, ground := Go.Ground.phase }, { on := 19, ground := Go.Ground.phase }, { on := 20, ground := Go.Ground.phase }, { on := 21, ground := Go.Ground.phase }, { on := 22, ground := Go.Ground.phase }], guard := none }) rfl (by kernel_rfl) (fun K hK => ?_) AllReadyU.nil
            have y0 := ((HC9.out.set 1 (by simp) (.slice (some ⟨g8, 0, none⟩) (el + 1) cap8)).2 2 _ rfl).1
            have f0 := ((HC9.out.set 1 (by simp) (.slice (some ⟨g8, 0, none⟩) (el + 1) cap8)).2 2 _ rfl).2
            go_simp
            refine hK.out _ _ trivial (fun _ => ?_)
            clear hK K
            try simp only [Act.put, List.setIfInBounds_toArray, List.set_cons_zero, List.set_cons_succ]
            refine wpAnyU_done (by kernel_rfl) ?_ _
            obtain ⟨wz, hwz⟩ : ∃ x, ((z781819.setCell ⟨q, 1, none⟩ (.slice (some ⟨g8, 0, none⟩) (el + 1) cap8)).setCell ⟨q, 2, none⟩ (.slice (some ⟨g9, 0, none⟩) (el + 1) cap9)) = x := ⟨_, rfl⟩
            have hgz : z781819.grownBy wz (some q) := by rw [← hwz]; exact (grown_cell z781819 q 1 (.slice (some ⟨g8, 0, none⟩) (el + 1) cap8)).trans (grown_cell _ q 2 (.slice (some ⟨g9, 0, none⟩) (el + 1) cap9))
            have HCW := Lib.hid (show CN wz q [.slice sa xl sc, (.slice (some ⟨g8, 0, none⟩) (el + 1) cap8), (.slice (some ⟨g9, 0, none⟩) (el + 1) cap9)] by rw [← hwz]; exact (HC9.out.set 1 (by simp) (.slice (some ⟨g8, 0, none⟩) (el + 1) cap8)).set 2 (by simp) (.slice (some ⟨g9, 0, none⟩) (el + 1) cap9))
            have HTW := Lib.hid (show TB wz q 108 by rw [← hwz]; exact (HT9.out.set 1 (.slice (some ⟨g8, 0, none⟩) (el + 1) cap8)).set 2 (.slice (some ⟨g9, 0, none⟩) (el + 1) cap9))
            have H1W := Lib.hid (own_keeps HB9.out HT9.out (by decide) hgz)
            have H2W := Lib.hid (show wz.ownsRow B 9 1 (.slice (some ⟨g8, 0, none⟩) (el + 1) cap8) (E1 ++ [(t :: M, xl)]).length (nmsC (E1 ++ [(t :: M, xl)])) by have h := own_keeps HN9.out HT9.out (by decide) hgz; rw [show nmsC (E1 ++ [(t :: M, xl)]) = nmsC E1 ++ [.string s] by simp [nmsC, HSN.out], List.length_append, HELN.out]; exact h)
            have H3W := Lib.hid (show wz.ownsRow B 3 1 (.slice (some ⟨g9, 0, none⟩) (el + 1) cap9) (E1 ++ [(t :: M, xl)]).length (atsC (E1 ++ [(t :: M, xl)])) by have h := own_keeps HO9.out HT9.out (by decide) hgz; rw [show atsC (E1 ++ [(t :: M, xl)]) = atsC E1 ++ [.int .i64 (xl : Int)] by simp [atsC], List.length_append, HELN.out]; exact h)
            have HBW := Lib.hid (show Below B w wz by rw [← hwz]; exact ((HBB9.out.setCell HQ.out (.slice (some ⟨g8, 0, none⟩) (el + 1) cap8) (p := ⟨q, 1, none⟩)).setCell HQ.out (.slice (some ⟨g9, 0, none⟩) (el + 1) cap9) (p := ⟨q, 2, none⟩)))
            have HKW := Lib.hid (show Kd w wz nv by rw [← hwz]; exact HKD.out.trans HOW.out ((HKK9.out.trans (Ow.refl _ _) (Kd.set HT9.out 1 (.slice (some ⟨g8, 0, none⟩) (el + 1) cap8))).trans (Ow.refl _ _) (Kd.set (HT9.out.set 1 (.slice (some ⟨g8, 0, none⟩) (el + 1) cap8)) 2 (.slice (some ⟨g9, 0, none⟩) (el + 1) cap9))))
            have HLW := Lib.hid (show B ≤ wz.heap.size from Nat.le_trans HLE9.out hgz.size)
            have HOW2 := Lib.hid (show Ow w nv (.slice (some ⟨g8, 0, none⟩) (el + 1) cap8) from HOW.out.trans HB.out.size (fun j hj => by injection hj with hj; have hj2 : g8 = j := hj; rcases HLIE.out with h | h; exact Or.inl (by rw [← hj2]; exact h); exact Or.inr (by rw [← hj2, h]; exact HGE8.out)))
            have HOK2 := Lib.hid (show EntOk (E1 ++ [(t :: M, xl)]) from fun e he => by rcases List.mem_append.1 he with h | h; exact HOK.out e h; obtain rfl : e = _ := (by simpa using h); exact ⟨HLD.out.1, HLD.out.2, HLT.out⟩)
            have HNW := Lib.hid (show (E1 ++ [(t :: M, xl)]).length ≤ xl + 1 by rw [List.length_append]; have := HEL.out; have := HXL.out; simp only [List.length_cons, List.length_nil]; omega)
            have HEW := Lib.hid (show wNm f X L = wNm (lkE (E1 ++ [(t :: M, xl)])) (X1 ++ Y) M by rw [lkE_snoc xl HF1.out, HE1.out]; unfold putPl; rw [if_pos HLT.out])
            rw [hwz]
            clear hgz hwz hHeld
            go_upto_region 7 with (fail)
            refine wp_region_store_drew (S := (fun wx => CN wx q [.slice sa xl sc, (.slice (some ⟨g8, 0, none⟩) (el + 1) cap8), (.slice (some ⟨g9, 0, none⟩) (el + 1) cap9)])) (L := 11) (by kernel_rfl) (HCW.out) (fun hHeld => ?_)
            refine wpAnyU_take0 (i := 0) (oi := { dst := some 62, op := Go.Op.move (Go.Operand.tmp 0), type := 105, pos := "ref.go:115", after := #[], guard := none }) (v := ?v0_420301) rfl (by decide) (by kernel_rfl) (by kernel_rfl) (by kernel_rfl) (fun _ _ _ h => h) (Or.inl ⟨by rfl, ?y0_420301⟩) (fun _ => hHeld) ?r0_420301
            case y0_420301 => intro w hSw; clear hSw; go_simp; try with_reducible rfl
            try simp only [Act.put, List.setIfInBounds_toArray, List.set_cons_zero, List.set_cons_succ]
            refine wpAnyU_take0 (i := 1) (oi := { dst := some 63, op := Go.Op.move (Go.Operand.tmp 0), type := 105, pos := "ref.go:115", after := #[], guard := none }) (v := ?v1_420301) rfl (by decide) (by kernel_rfl) (by kernel_rfl) (by kernel_rfl) (fun _ _ _ h => h) (Or.inl ⟨by rfl, ?y1_420301⟩) (fun _ => hHeld) ?r1_420301
            case y1_420301 => intro w hSw; clear hSw; go_simp; try with_reducible rfl
            try simp only [Act.put, List.setIfInBounds_toArray, List.set_cons_zero, List.set_cons_succ]
            refine wpAnyU_take0 (i := 2) (oi := { dst := some 64, op := Go.Op.nilCheck (Go.Operand.tmp 63), type := 0, pos := "ref.go:115", after := #[{ on := 1, ground := Go.Ground.data }], guard := none }) (v := ?v2_420301) rfl (by decide) (by kernel_rfl) (by kernel_rfl) (by kernel_rfl) (fun _ _ _ h => h) (Or.inl ⟨by rfl, ?y2_420301⟩) (fun _ => hHeld) ?r2_420301
            case y2_420301 => intro w hSw; clear hSw; go_simp; try with_reducible rfl
            try simp only [Act.put, List.setIfInBounds_toArray, List.set_cons_zero, List.set_cons_succ]
            refine wpAnyU_take0 (i := 3) (oi := { dst := some 65, op := Go.Op.fieldAddr 108 (Go.Operand.tmp 64) 0, type := 0, pos := "ref.go:115", after := #[{ on := 2, ground := Go.Ground.data }], guard := none }) (v := ?v3_420301) rfl (by decide) (by kernel_rfl) (by kernel_rfl) (by kernel_rfl) (fun _ _ _ h => h) (Or.inl ⟨by rfl, ?y3_420301⟩) (fun _ => hHeld) ?r3_420301
            case y3_420301 => intro w hSw; clear hSw; go_simp; try with_reducible rfl
            try simp only [Act.put, List.setIfInBounds_toArray, List.set_cons_zero, List.set_cons_succ]
            refine wpAnyU_take0 (i := 5) (oi := { dst := some 67, op := Go.Op.move (Go.Operand.tmp 1), type := 9, pos := "ref.go:115", after := #[], guard := none }) (v := ?v5_420301) rfl (by decide) (by kernel_rfl) (by kernel_rfl) (by kernel_rfl) (fun _ _ _ h => h) (Or.inl ⟨by rfl, ?y5_420301⟩) (fun _ => hHeld) ?r5_420301
            case y5_420301 => intro w hSw; clear hSw; go_simp; try with_reducible rfl
            try simp only [Act.put, List.setIfInBounds_toArray, List.set_cons_zero, List.set_cons_succ]
            refine wpAnyU_take0 (i := 6) (oi := { dst := some 68, op := Go.Op.move (Go.Operand.tmp 5), type := 3, pos := "ref.go:115", after := #[], guard := none }) (v := ?v6_420301) rfl (by decide) (by kernel_rfl) (by kernel_rfl) (by kernel_rfl) (fun _ _ _ h => h) (Or.inl ⟨by rfl, ?y6_420301⟩) (fun _ => hHeld) ?r6_420301
            case y6_420301 => intro w hSw; clear hSw; go_simp; try with_reducible rfl
            try simp only [Act.put, List.setIfInBounds_toArray, List.set_cons_zero, List.set_cons_succ]
            refine wpAnyU_take0 (i := 7) (oi := { dst := some 69, op := Go.Op.slice 9 (Go.Operand.tmp 67) none (some (Go.Operand.tmp 68)) none, type := 9, pos := "ref.go:115", after := #[{ on := 5, ground := Go.Ground.data }, { on := 6, ground := Go.Ground.data }], guard := none }) (v := ?v7_420301) rfl (by decide) (by kernel_rfl) (by kernel_rfl) (by kernel_rfl) (fun _ _ _ h => h) (Or.inl ⟨by rfl, ?y7_420301⟩) (fun _ => hHeld) ?r7_420301
            case y7_420301 => intro w hSw; clear hSw; go_simp; try with_reducible rfl
            try simp only [Act.put, List.setIfInBounds_toArray, List.set_cons_zero, List.set_cons_succ]
            refine wpAnyU_take (i := 4) (oi := { dst := some 66, op := Go.Op.load 35 (Go.Operand.tmp 65), type := 35, pos := "ref.go:115", after := #[{ on := 3, ground := Go.Ground.data }], guard := none }) (v := ?v4_420301) rfl (by kernel_rfl) (by decide) (by kernel_rfl) (by kernel_rfl) (by kernel_rfl) (by kernel_rfl) (by kernel_rfl) (fun _ _ _ h => h) (Or.inl ⟨by rfl, ?y4_420301⟩) hHeld ?r4_420301
            case y4_420301 => intro w hSw; (try dsimp only at hSw); have y0 := (hSw.2 0 _ rfl).1; go_simp; try with_reducible rfl
            try simp only [Act.put, List.setIfInBounds_toArray, List.set_cons_zero, List.set_cons_succ]
            refine wpAnyU_ready (rs := [8]) (by kernel_rfl) (by simp) ?_
            refine AllReadyU.cons (o := { dst := some 70, op := Go.Op.call { callee := Go.Callee.builtin Go.Builtin.append, args := #[Go.Operand.tmp 66, Go.Operand.tmp 69], argTypes := #[35, 9] }, type := 35, pos := "ref.go:115", after := #[{ on := 4, ground := Go.Ground.data }, { on := 7, ground := Go.Ground.data }], guard := none }) rfl (fun K hK => ?_) AllReadyU.nil
            refine step_append_str5 (by rfl) _ _ 35 9 (by rfl) B 5 i0 Try.underlying35 Try.underlying9 HI.out HZ0.out HZ1.out HZ2.out (.slice sa xl sc) xl (bc X1) (by rfl) (show World.ownsRow wz.drew B _ 1 (.slice sa xl sc) xl (bc X1) from H1W.out) (s.extract 0 d) (by rfl) (by rw [HEX.out, bs_size, HYL.out]; have := HDS.out; have := HXS.out; unfold maxLen; omega) (by rw [HEX.out, bs_size, HYL.out]; have := HDS.out; have := HXS.out; omega) HLW.out ?_
            intro v7 w7 ho7 hg7
            rw [HEX.out, bs_size, HYL.out, strCells_bs, ← bc_append] at ho7
            obtain ⟨sa7, sc7, rfl, -⟩ := cellsK_own ho7
            have hne7 := own_ne H1W.out HTW.out (by decide)
            have HC7 := Lib.hid ((show CN wz.drew q [.slice sa xl sc, (.slice (some ⟨g8, 0, none⟩) (el + 1) cap8), (.slice (some ⟨g9, 0, none⟩) (el + 1) cap9)] from HCW.out).grown hg7 (fun e => hne7 e.symm))
            have HT7 := Lib.hid ((show TB wz.drew q 108 from HTW.out).grown hg7 hne7)
            have HO7 := Lib.hid ho7
            have HG7 := Lib.hid hg7
            clear ho7 hg7 hne7
            refine hK.out _ _ (HC7.out) (fun hHeld2 => ?_)
            clear hK K hHeld
            have hHeld := hHeld2
            clear hHeld2
            try simp only [Act.put, List.setIfInBounds_toArray, List.set_cons_zero, List.set_cons_succ]
            refine wpAnyU_take0 (i := 9) (oi := { dst := some 71, op := Go.Op.nilCheck (Go.Operand.tmp 62), type := 0, pos := "ref.go:115", after := #[{ on := 0, ground := Go.Ground.data }, { on := 0, ground := Go.Ground.phase }, { on := 1, ground := Go.Ground.phase }, { on := 2, ground := Go.Ground.phase }, { on := 3, ground := Go.Ground.phase }, { on := 4, ground := Go.Ground.phase }, { on := 5, ground := Go.Ground.phase }, { on := 6, ground := Go.Ground.phase }, { on := 7, ground := Go.Ground.phase }, { on := 8, ground := Go.Ground.phase }], guard := none }) (v := ?v9_420302) rfl (by decide) (by kernel_rfl) (by kernel_rfl) (by kernel_rfl) (fun _ _ _ h => h) (Or.inl ⟨by rfl, ?y9_420302⟩) (fun _ => hHeld) ?r9_420302
            case y9_420302 => intro w hSw; clear hSw; go_simp; try with_reducible rfl
            try simp only [Act.put, List.setIfInBounds_toArray, List.set_cons_zero, List.set_cons_succ]
            refine wpAnyU_take0 (i := 10) (oi := { dst := some 72, op := Go.Op.fieldAddr 108 (Go.Operand.tmp 71) 0, type := 0, pos := "ref.go:115", after := #[{ on := 9, ground := Go.Ground.data }, { on := 0, ground := Go.Ground.phase }, { on := 1, ground := Go.Ground.phase }, { on := 2, ground := Go.Ground.phase }, { on := 3, ground := Go.Ground.phase }, { on := 4, ground := Go.Ground.phase }, { on := 5, ground := Go.Ground.phase }, { on := 6, ground := Go.Ground.phase }, { on := 7, ground := Go.Ground.phase }, { on := 8, ground := Go.Ground.phase }], guard := none }) (v := ?v10_420302) rfl (by decide) (by kernel_rfl) (by kernel_rfl) (by kernel_rfl) (fun _ _ _ h => h) (Or.inl ⟨by rfl, ?y10_420302⟩) (fun _ => hHeld) ?r10_420302
            case y10_420302 => intro w hSw; clear hSw; go_simp; try with_reducible rfl
            try simp only [Act.put, List.setIfInBounds_toArray, List.set_cons_zero, List.set_cons_succ]
            refine wpAnyU_ready (rs := [11]) (by kernel_rfl) (by simp) ?_
            refine AllReadyU.last (o := { dst := none, op := Go.Op.store 35 (Go.Operand.tmp 72) (Go.Operand.tmp 70), type := 0, pos := "ref.go:115", after := #[{ on := 10, ground := Go.Ground.data }, { on := 8, ground := Go.Ground.data }, { on := 8, ground := Go.Ground.chain }, { on := 0, ground := Go.Ground.phase }, { on := 1, ground := Go.Ground.phase }, { on := 2, ground := Go.Ground.phase }, { on := 3, ground := Go.Ground.phase }, { on := 4, ground := Go.Ground.phase }, { on := 5, ground := Go.Ground.phase }, { on := 6, ground := Go.Ground.phase }, { on := 7, ground := Go.Ground.phase }, { on := 8, ground := Go.Ground.phase }], guard := none }) rfl (by kernel_rfl) (fun K hK => ?_) AllReadyU.nil
            have y0 := (HC7.out.2 0 _ rfl).1
            have g0 := (HC7.out.2 0 _ rfl).2
            go_simp
            refine hK.out _ _ trivial (fun _ => ?_)
            clear hK K
            try simp only [Act.put, List.setIfInBounds_toArray, List.set_cons_zero, List.set_cons_succ]
            refine wpAnyU_done (by kernel_rfl) ?_ _
            have HC8 := Lib.hid (HC7.out.set 0 (by simp) (.slice sa7 (xl + d) sc7))
            have HT8 := Lib.hid (HT7.out.set 0 (.slice sa7 (xl + d) sc7))
            have HO8 := Lib.hid (own_keeps HO7.out HT7.out (by decide) (grown_cell w7 q 0 (.slice sa7 (xl + d) sc7)))
            have H28 := Lib.hid (own_keeps (own_other (show World.ownsRow wz.drew B 9 1 _ _ _ from H2W.out) (show World.ownsRow wz.drew B _ 1 (.slice sa xl sc) xl (bc X1) from H1W.out) (by decide) HG7.out) HT7.out (by decide) (grown_cell w7 q 0 (.slice sa7 (xl + d) sc7)))
            have H38 := Lib.hid (own_keeps (own_other (show World.ownsRow wz.drew B 3 1 _ _ _ from H3W.out) (show World.ownsRow wz.drew B _ 1 (.slice sa xl sc) xl (bc X1) from H1W.out) (by decide) HG7.out) HT7.out (by decide) (grown_cell w7 q 0 (.slice sa7 (xl + d) sc7)))
            have HB8 := Lib.hid ((HBW.out.drew.grown HG7.out HLW.out (fun k hk => (H1W.out.lt k hk).1)).setCell HQ.out (.slice sa7 (xl + d) sc7) (p := ⟨q, 0, none⟩))
            have HK8 := Lib.hid ((HKW.out.drew.trans HOW2.out (Kd.rowB (show World.ownsRow wz.drew B _ 1 (.slice sa xl sc) xl (bc X1) from H1W.out) HG7.out)).trans HOW2.out (Kd.set HT7.out 0 (.slice sa7 (xl + d) sc7)))
            skip
            have hdl : d ≤ ls := by have := HDS.out; omega
            have hls := HLSR.out.1
            go_wp2
            go_roundw
            case rel =>
              refine ⟨k + 1, ?_, ?_, (.slice (some ⟨g8, 0, none⟩) (el + 1) cap8), (E1 ++ [(t :: M, xl)]), X1 ++ Y, ⟨(.slice sa7 (xl + d) sc7), _, HC8.out, HT8.out, ?_, H28.out, H38.out, HOK2.out, ?_⟩, ?_, ?_, HB8.out, HK8.out, HOW2.out⟩
              · rcases Nat.lt_or_ge k L.length with h | h
                · exact h
                · have e := HMK.out; rw [List.drop_eq_nil_of_le h] at e; cases e
              · rw [HSUF.out]; have e := HMK.out; rw [show L.drop (k + 1) = M by rw [← List.drop_drop, e]; rfl]
              · rw [List.length_append, HXL.out, HYL.out]; exact HO8.out
              · have e2 : (X1 ++ Y).length = xl + d := by rw [List.length_append, HXL.out, HYL.out]
                rw [e2]; have := HNW.out; have := HDS.out; omega
              · rw [show L.drop (k + 1) = M by rw [← List.drop_drop, HMK.out]; rfl]; exact HEW.out
              · rw [List.length_append, HXL.out, HYL.out, HOF.out]; have := HX.out; have := HXL.out; omega
            case measure => show (s.extract d ls).size < s.size; rw [extract_size _ _ _ (by have := HLSR.out; omega)]; have := HDS.out; have := HLSR.out; omega
          · go_simp
            obtain ⟨z718, hzl18⟩ : ∃ x, z7.alloc (.cells #[.int .i64 (xl : Int)] 3) = x := ⟨_, rfl⟩
            obtain ⟨g18, hg18⟩ : ∃ x, z7.heap.size = x := ⟨_, rfl⟩
            have hba := (Below.refl z7.heap.size z7).alloc (Nat.le_refl _) (.cells #[.int .i64 (xl : Int)] 3)
            have HL18 := Lib.hid (CN.new z7 #[.int .i64 (xl : Int)] 3)
            have HTL18 := Lib.hid (TB.new z7 #[.int .i64 (xl : Int)] 3)
            rw [hzl18] at hba HL18 HTL18 ⊢
            rw [hg18] at HL18 HTL18 ⊢
            have HR718 := Lib.hid (HR7.out.below hba)
            have HKK718 := Lib.hid (HKK7.out.trans (Ow.refl _ _) (Kd.below nv1 hba))
            have HBB718 := Lib.hid (HBB7.out.trans (hba.mono HR7.out.le))
            replace HL7 := Lib.hid (HL7.out.below hba)
            replace HTL7 := Lib.hid (HTL7.out.below hba)
            have HGR718 := Lib.hid (Nat.le_trans HGR7.out hba.size)
            clear hba hzl18 hg18
            refine hK.out _ _ (HR718.out.cn) (fun hHeld2 => ?_)
            clear hK K hHeld
            have hHeld := hHeld2
            clear hHeld2
            try simp only [Act.put, List.setIfInBounds_toArray, List.set_cons_zero, List.set_cons_succ]
            refine wpAnyU_ready (rs := [8]) (by kernel_rfl) (by simp) ?_
            refine AllReadyU.cons (o := { dst := some 42, op := Go.Op.call { callee := Go.Callee.builtin Go.Builtin.append, args := #[Go.Operand.tmp 39, Go.Operand.tmp 41], argTypes := #[72, 72] }, type := 72, pos := "ref.go:112", after := #[{ on := 5, ground := Go.Ground.data }, { on := 7, ground := Go.Ground.data }], guard := none }) rfl (fun K hK => ?_) AllReadyU.nil
            refine step_append_lies _ (by rfl) _ _ 72 (by rfl) B 9 j0 (.string ⟨#[]⟩) 1 16 Try.underlying72 HJ.out.1 HJ.out.2.1 HJ.out.2.2.1 HJ.out.2.2.2 rfl (by decide) nv1 el (nmsC E1) (by rfl) HR718.out.names ⟨g7, 0, none⟩ 1 1 [.string s] (by rfl) rfl (cn_news HL7.out) (by intro u hu; obtain rfl : u = _ := (by simpa using hu); rfl) (by decide) (by have := HELX.out; unfold maxLen; omega) (by have := HELX.out; omega) HR718.out.le _ rfl ?_
            intro g8 cap8 z7188 ho8 hg8 hlie8 hlt8
            have HLIE := Lib.hid hlie8
            have HO8 := Lib.hid ho8
            have HR7188 := Lib.hid (HR718.out.names8 hg8)
            have HKK7188 := Lib.hid (HKK718.out.trans (Ow.refl _ _) (Kd.rowN hg8))
            have HSZ8 := Lib.hid HBB718.out.size
            have HGE8 := Lib.hid (HGR718.out)
            have HBB7188 := Lib.hid (HBB718.out.grown hg8 HR718.out.le (fun k hk => (HR718.out.names.lt k hk).1))
            replace HL18 := Lib.hid (HL18.out.grown hg8 (fun e => own_ne HR718.out.names HTL18.out (by decide) e.symm))
            have HGR7188 := Lib.hid (Nat.le_trans HGR718.out hg8.size)
            clear ho8 hg8 hlie8 hlt8
            refine hK.out _ _ (HR7188.out.cn) (fun hHeld2 => ?_)
            clear hK K hHeld
            have hHeld := hHeld2
            clear hHeld2
            try simp only [Act.put, List.setIfInBounds_toArray, List.set_cons_zero, List.set_cons_succ]
            refine wpAnyU_ready (rs := [19]) (by kernel_rfl) (by simp) ?_
            refine AllReadyU.cons (o := { dst := some 53, op := Go.Op.call { callee := Go.Callee.builtin Go.Builtin.append, args := #[Go.Operand.tmp 46, Go.Operand.tmp 52], argTypes := #[106, 106] }, type := 106, pos := "ref.go:112", after := #[{ on := 12, ground := Go.Ground.data }, { on := 18, ground := Go.Ground.data }, { on := 8, ground := Go.Ground.chain }], guard := none }) rfl (fun K hK => ?_) AllReadyU.nil
            have HOX7188 := HO8
            refine step_append_lies _ (by rfl) _ _ 106 (by rfl) B 3 k0 (.int .i64 0) 1 8 Try.underlying106 HLI.out.1 HLI.out.2.1 HLI.out.2.2.1 HLI.out.2.2.2 rfl (by decide) av el (atsC E1) (by rfl) HR7188.out.ats ⟨g18, 0, none⟩ 1 1 [.int .i64 (xl : Int)] (by rfl) rfl (cn_news HL18.out) (by intro u hu; obtain rfl : u = _ := (by simpa using hu); rfl) (by decide) (by have := HELX.out; unfold maxLen; omega) (by have := HELX.out; omega) HR7188.out.le _ rfl ?_
            intro g9 cap9 z718819 ho9 hg9 hlie9 hlt9
            have HO9 := Lib.hid ho9
            have HC9 := Lib.hid (HR7188.out.cn.grown hg9 (fun e => own_ne HR7188.out.ats HR7188.out.tb (by decide) e.symm))
            have HT9 := Lib.hid (HR7188.out.tb.grown hg9 (own_ne HR7188.out.ats HR7188.out.tb (by decide)))
            have HB9 := Lib.hid (own_other HR7188.out.row HR7188.out.ats (by decide) hg9)
            have HN9 := Lib.hid (own_other (HOX7188.out) HR7188.out.ats (by decide) hg9)
            have HKK9 := Lib.hid (HKK7188.out.trans (Ow.refl _ _) (Kd.rowI HR7188.out.ats hg9))
            have HBB9 := Lib.hid (HBB7188.out.grown hg9 HR7188.out.le (fun k hk => (HR7188.out.ats.lt k hk).1))
            have HLE9 := Lib.hid (Nat.le_trans HR7188.out.le hg9.size)
            clear ho9 hg9 hlie9 hlt9
            refine hK.out _ _ (HC9.out) (fun hHeld2 => ?_)
            clear hK K hHeld
            have hHeld := hHeld2
            clear hHeld2
            try simp only [Act.put, List.setIfInBounds_toArray, List.set_cons_zero, List.set_cons_succ]
            refine wpAnyU_take0 (i := 20) (oi := { dst := some 54, op := Go.Op.nilCheck (Go.Operand.tmp 34), type := 0, pos := "ref.go:112", after := #[{ on := 0, ground := Go.Ground.data }, { on := 0, ground := Go.Ground.phase }, { on := 1, ground := Go.Ground.textOnly Go.Departure.lateStores }, { on := 2, ground := Go.Ground.phase }, { on := 3, ground := Go.Ground.phase }, { on := 4, ground := Go.Ground.phase }, { on := 5, ground := Go.Ground.phase }, { on := 6, ground := Go.Ground.phase }, { on := 7, ground := Go.Ground.phase }, { on := 8, ground := Go.Ground.phase }, { on := 9, ground := Go.Ground.textOnly Go.Departure.lateStores }, { on := 10, ground := Go.Ground.textOnly Go.Departure.lateStoresUnsure }, { on := 11, ground := Go.Ground.textOnly Go.Departure.lateStoresUnsure }, { on := 12, ground := Go.Ground.phase }, { on := 13, ground := Go.Ground.textOnly Go.Departure.lateStores }, { on := 14, ground := Go.Ground.textOnly Go.Departure.lateStoresUnsure }, { on := 15, ground := Go.Ground.textOnly Go.Departure.lateStoresUnsure }, { on := 16, ground := Go.Ground.phase }, { on := 17, ground := Go.Ground.textOnly Go.Departure.lateStoresUnsure }, { on := 18, ground := Go.Ground.textOnly Go.Departure.lateStoresUnsure }, { on := 19, ground := Go.Ground.phase }], guard := none }) (v := ?v20_410110) rfl (by decide) (by kernel_rfl) (by kernel_rfl) (by kernel_rfl) (fun _ _ _ h => h) (Or.inl ⟨by rfl, ?y20_410110⟩) (fun _ => hHeld) ?r20_410110
            case y20_410110 => intro w hSw; clear hSw; go_simp; try with_reducible rfl
            try simp only [Act.put, List.setIfInBounds_toArray, List.set_cons_zero, List.set_cons_succ]
            refine wpAnyU_take0 (i := 21) (oi := { dst := some 55, op := Go.Op.fieldAddr 108 (Go.Operand.tmp 54) 1, type := 0, pos := "ref.go:112", after := #[{ on := 20, ground := Go.Ground.data }, { on := 0, ground := Go.Ground.phase }, { on := 1, ground := Go.Ground.textOnly Go.Departure.lateStores }, { on := 2, ground := Go.Ground.phase }, { on := 3, ground := Go.Ground.phase }, { on := 4, ground := Go.Ground.phase }, { on := 5, ground := Go.Ground.phase }, { on := 6, ground := Go.Ground.phase }, { on := 7, ground := Go.Ground.phase }, { on := 8, ground := Go.Ground.phase }, { on := 9, ground := Go.Ground.textOnly Go.Departure.lateStores }, { on := 10, ground := Go.Ground.textOnly Go.Departure.lateStoresUnsure }, { on := 11, ground := Go.Ground.textOnly Go.Departure.lateStoresUnsure }, { on := 12, ground := Go.Ground.phase }, { on := 13, ground := Go.Ground.textOnly Go.Departure.lateStores }, { on := 14, ground := Go.Ground.textOnly Go.Departure.lateStoresUnsure }, { on := 15, ground := Go.Ground.textOnly Go.Departure.lateStoresUnsure }, { on := 16, ground := Go.Ground.phase }, { on := 17, ground := Go.Ground.textOnly Go.Departure.lateStoresUnsure }, { on := 18, ground := Go.Ground.textOnly Go.Departure.lateStoresUnsure }, { on := 19, ground := Go.Ground.phase }], guard := none }) (v := ?v21_410110) rfl (by decide) (by kernel_rfl) (by kernel_rfl) (by kernel_rfl) (fun _ _ _ h => h) (Or.inl ⟨by rfl, ?y21_410110⟩) (fun _ => hHeld) ?r21_410110
            case y21_410110 => intro w hSw; clear hSw; go_simp; try with_reducible rfl
            try simp only [Act.put, List.setIfInBounds_toArray, List.set_cons_zero, List.set_cons_succ]
            refine wpAnyU_ready (rs := [22]) (by kernel_rfl) (by simp) ?_
            refine AllReadyU.last (o := { dst := none, op := Go.Op.store 72 (Go.Operand.tmp 55) (Go.Operand.tmp 42), type := 0, pos := "ref.go:112", after := #[{ on := 21, ground := Go.Ground.data }, { on := 8, ground := Go.Ground.data }, { on := 19, ground := Go.Ground.chain }, { on := 0, ground := Go.Ground.phase }, { on := 1, ground := Go.Ground.textOnly Go.Departure.lateStores }, { on := 2, ground := Go.Ground.phase }, { on := 3, ground := Go.Ground.phase }, { on := 4, ground := Go.Ground.phase }, { on := 5, ground := Go.Ground.phase }, { on := 6, ground := Go.Ground.phase }, { on := 7, ground := Go.Ground.phase }, { on := 8, ground := Go.Ground.phase }, { on := 9, ground := Go.Ground.textOnly Go.Departure.lateStores }, { on := 10, ground := Go.Ground.textOnly Go.Departure.lateStoresUnsure }, { on := 11, ground := Go.Ground.textOnly Go.Departure.lateStoresUnsure }, { on := 12, ground := Go.Ground.phase }, { on := 13, ground := Go.Ground.textOnly Go.Departure.lateStores }, { on := 14, ground := Go.Ground.textOnly Go.Departure.lateStoresUnsure }, { on := 15, ground := Go.Ground.textOnly Go.Departure.lateStoresUnsure }, { on := 16, ground := Go.Ground.phase }, { on := 17, ground := Go.Ground.textOnly Go.Departure.lateStoresUnsure }, { on := 18, ground := Go.Ground.textOnly Go.Departure.lateStoresUnsure }, { on := 19, ground := Go.Ground.phase }], guard := none }) rfl (by kernel_rfl) (fun K hK => ?_) AllReadyU.nil
            have y0 := (HC9.out.2 1 _ rfl).1
            have f0 := (HC9.out.2 1 _ rfl).2
            go_simp
            refine hK.out _ _ trivial (fun _ => ?_)
            clear hK K
            try simp only [Act.put, List.setIfInBounds_toArray, List.set_cons_zero, List.set_cons_succ]
            refine wpAnyU_take0 (i := 23) (oi := { dst := some 56, op := Go.Op.nilCheck (Go.Operand.tmp 35), type := 0, pos := "ref.go:112", after := #[{ on := 1, ground := Go.Ground.data }, { on := 0, ground := Go.Ground.phase }, { on := 1, ground := Go.Ground.phase }, { on := 2, ground := Go.Ground.phase }, { on := 3, ground := Go.Ground.phase }, { on := 4, ground := Go.Ground.phase }, { on := 5, ground := Go.Ground.phase }, { on := 6, ground := Go.Ground.phase }, { on := 7, ground := Go.Ground.phase }, { on := 8, ground := Go.Ground.phase }, { on := 9, ground := Go.Ground.phase }, { on := 10, ground := Go.Ground.phase }, { on := 11, ground := Go.Ground.phase }, { on := 12, ground := Go.Ground.phase }, { on := 13, ground := Go.Ground.phase }, { on := 14, ground := Go.Ground.phase }, { on := 15, ground := Go.Ground.phase }, { on := 16, ground := Go.Ground.phase }, { on := 17, ground := Go.Ground.phase }, { on := 18, ground := Go.Ground.phase }, { on := 19, ground := Go.Ground.phase }, { on := 20, ground := Go.Ground.phase }, { on := 21, ground := Go.Ground.phase }, { on := 22, ground := Go.Ground.phase }], guard := none }) (v := ?v23_410111) rfl (by decide) (by kernel_rfl) (by kernel_rfl) (by kernel_rfl) (fun _ _ _ h => h) (Or.inl ⟨by rfl, ?y23_410111⟩) (fun h => absurd (h.symm.trans (by kernel_rfl)) Bool.false_ne_true) ?r23_410111
            case y23_410111 => intro w hSw; clear hSw; go_simp; try with_reducible rfl
            try simp only [Act.put, List.setIfInBounds_toArray, List.set_cons_zero, List.set_cons_succ]
            refine wpAnyU_take0 (i := 24) (oi := { dst := some 57, op := Go.Op.fieldAddr 108 (Go.Operand.tmp 56) 2, type := 0, pos := "ref.go:112", after := #[{ on := 23, ground := Go.Ground.data }, { on := 0, ground := Go.Ground.phase }, { on := 1, ground := Go.Ground.phase }, { on := 2, ground := Go.Ground.phase }, { on := 3, ground := Go.Ground.phase }, { on := 4, ground := Go.Ground.phase }, { on := 5, ground := Go.Ground.phase }, { on := 6, ground := Go.Ground.phase }, { on := 7, ground := Go.Ground.phase }, { on := 8, ground := Go.Ground.phase }, { on := 9, ground := Go.Ground.phase }, { on := 10, ground := Go.Ground.phase }, { on := 11, ground := Go.Ground.phase }, { on := 12, ground := Go.Ground.phase }, { on := 13, ground := Go.Ground.phase }, { on := 14, ground := Go.Ground.phase }, { on := 15, ground := Go.Ground.phase }, { on := 16, ground := Go.Ground.phase }, { on := 17, ground := Go.Ground.phase }, { on := 18, ground := Go.Ground.phase }, { on := 19, ground := Go.Ground.phase }, { on := 20, ground := Go.Ground.phase }, { on := 21, ground := Go.Ground.phase }, { on := 22, ground := Go.Ground.phase }], guard := none }) (v := ?v24_410111) rfl (by decide) (by kernel_rfl) (by kernel_rfl) (by kernel_rfl) (fun _ _ _ h => h) (Or.inl ⟨by rfl, ?y24_410111⟩) (fun h => absurd (h.symm.trans (by kernel_rfl)) Bool.false_ne_true) ?r24_410111
            case y24_410111 => intro w hSw; clear hSw; go_simp; try with_reducible rfl
            try simp only [Act.put, List.setIfInBounds_toArray, List.set_cons_zero, List.set_cons_succ]
            refine wpAnyU_ready (rs := [25]) (by kernel_rfl) (by simp) ?_
            refine AllReadyU.last (o := { dst := none, op := Go.Op.store 106 (Go.Operand.tmp 57) (Go.Operand.tmp 53), type := 0, pos := "ref.go:112", after := #[{ on := 24, ground := Go.Ground.data }, { on := 19, ground := Go.Ground.data }, { on := 22, ground := Go.Ground.chain }, { on := 0, ground := Go.Ground.phase }, { on := 1, ground := Go.Ground.phase }, { on := 2, ground := Go.Ground.phase }, { on := 3, ground := Go.Ground.phase }, { on := 4, ground := Go.Ground.phase }, { on := 5, ground := Go.Ground.phase }, { on := 6, ground := Go.Ground.phase }, { on := 7, ground := Go.Ground.phase }, { on := 8, ground := Go.Ground.phase }, { on := 9, ground := Go.Ground.phase }, { on := 10, ground := Go.Ground.phase }, { on := 11, ground := Go.Ground.phase }, { on := 12, ground := Go.Ground.phase }, { on := 13, ground := Go.Ground.phase }, { on := 14, ground := Go.Ground.phase }, { on := 15, ground := Go.Ground.phase }, { on := 16, ground := Go.Ground.phase }, { on := 17, ground := Go.Ground.phase }, { on := 18, ground := Go.Ground.phase }, { on := 19, ground := Go.Ground.phase }, { on := 20, ground := Go.Ground.phase }, { on := 21, ground := Go.Ground.phase }, { on := 22, ground := Go.Ground.phase }], guard := none }) rfl (by kernel_rfl) (fun K hK => ?_) AllReadyU.nil
            have y0 := ((HC9.out.set 1 (by simp) (.slice (some ⟨g8, 0, none⟩) (el + 1) cap8)).2 2 _ rfl).1
            have f0 := ((HC9.out.set 1 (by simp) (.slice (some ⟨g8, 0, none⟩) (el + 1) cap8)).2 2 _ rfl).2
            go_simp
            refine hK.out _ _ trivial (fun _ => ?_)
            clear hK K
            try simp only [Act.put, List.setIfInBounds_toArray, List.set_cons_zero, List.set_cons_succ]
            refine wpAnyU_done (by kernel_rfl) ?_ _
            obtain ⟨wz, hwz⟩ : ∃ x, ((z718819.setCell ⟨q, 1, none⟩ (.slice (some ⟨g8, 0, none⟩) (el + 1) cap8)).setCell ⟨q, 2, none⟩ (.slice (some ⟨g9, 0, none⟩) (el + 1) cap9)) = x := ⟨_, rfl⟩
            have hgz : z718819.grownBy wz (some q) := by rw [← hwz]; exact (grown_cell z718819 q 1 (.slice (some ⟨g8, 0, none⟩) (el + 1) cap8)).trans (grown_cell _ q 2 (.slice (some ⟨g9, 0, none⟩) (el + 1) cap9))
            have HCW := Lib.hid (show CN wz q [.slice sa xl sc, (.slice (some ⟨g8, 0, none⟩) (el + 1) cap8), (.slice (some ⟨g9, 0, none⟩) (el + 1) cap9)] by rw [← hwz]; exact (HC9.out.set 1 (by simp) (.slice (some ⟨g8, 0, none⟩) (el + 1) cap8)).set 2 (by simp) (.slice (some ⟨g9, 0, none⟩) (el + 1) cap9))
            have HTW := Lib.hid (show TB wz q 108 by rw [← hwz]; exact (HT9.out.set 1 (.slice (some ⟨g8, 0, none⟩) (el + 1) cap8)).set 2 (.slice (some ⟨g9, 0, none⟩) (el + 1) cap9))
            have H1W := Lib.hid (own_keeps HB9.out HT9.out (by decide) hgz)
            have H2W := Lib.hid (show wz.ownsRow B 9 1 (.slice (some ⟨g8, 0, none⟩) (el + 1) cap8) (E1 ++ [(t :: M, xl)]).length (nmsC (E1 ++ [(t :: M, xl)])) by have h := own_keeps HN9.out HT9.out (by decide) hgz; rw [show nmsC (E1 ++ [(t :: M, xl)]) = nmsC E1 ++ [.string s] by simp [nmsC, HSN.out], List.length_append, HELN.out]; exact h)
            have H3W := Lib.hid (show wz.ownsRow B 3 1 (.slice (some ⟨g9, 0, none⟩) (el + 1) cap9) (E1 ++ [(t :: M, xl)]).length (atsC (E1 ++ [(t :: M, xl)])) by have h := own_keeps HO9.out HT9.out (by decide) hgz; rw [show atsC (E1 ++ [(t :: M, xl)]) = atsC E1 ++ [.int .i64 (xl : Int)] by simp [atsC], List.length_append, HELN.out]; exact h)
            have HBW := Lib.hid (show Below B w wz by rw [← hwz]; exact ((HBB9.out.setCell HQ.out (.slice (some ⟨g8, 0, none⟩) (el + 1) cap8) (p := ⟨q, 1, none⟩)).setCell HQ.out (.slice (some ⟨g9, 0, none⟩) (el + 1) cap9) (p := ⟨q, 2, none⟩)))
            have HKW := Lib.hid (show Kd w wz nv by rw [← hwz]; exact HKD.out.trans HOW.out ((HKK9.out.trans (Ow.refl _ _) (Kd.set HT9.out 1 (.slice (some ⟨g8, 0, none⟩) (el + 1) cap8))).trans (Ow.refl _ _) (Kd.set (HT9.out.set 1 (.slice (some ⟨g8, 0, none⟩) (el + 1) cap8)) 2 (.slice (some ⟨g9, 0, none⟩) (el + 1) cap9))))
            have HLW := Lib.hid (show B ≤ wz.heap.size from Nat.le_trans HLE9.out hgz.size)
            have HOW2 := Lib.hid (show Ow w nv (.slice (some ⟨g8, 0, none⟩) (el + 1) cap8) from HOW.out.trans HB.out.size (fun j hj => by injection hj with hj; have hj2 : g8 = j := hj; rcases HLIE.out with h | h; exact Or.inl (by rw [← hj2]; exact h); exact Or.inr (by rw [← hj2, h]; exact HGE8.out)))
            have HOK2 := Lib.hid (show EntOk (E1 ++ [(t :: M, xl)]) from fun e he => by rcases List.mem_append.1 he with h | h; exact HOK.out e h; obtain rfl : e = _ := (by simpa using h); exact ⟨HLD.out.1, HLD.out.2, HLT.out⟩)
            have HNW := Lib.hid (show (E1 ++ [(t :: M, xl)]).length ≤ xl + 1 by rw [List.length_append]; have := HEL.out; have := HXL.out; simp only [List.length_cons, List.length_nil]; omega)
            have HEW := Lib.hid (show wNm f X L = wNm (lkE (E1 ++ [(t :: M, xl)])) (X1 ++ Y) M by rw [lkE_snoc xl HF1.out, HE1.out]; unfold putPl; rw [if_pos HLT.out])
            rw [hwz]
            clear hgz hwz hHeld
            go_upto_region 7 with (fail)
            refine wp_region_store_drew (S := (fun wx => CN wx q [.slice sa xl sc, (.slice (some ⟨g8, 0, none⟩) (el + 1) cap8), (.slice (some ⟨g9, 0, none⟩) (el + 1) cap9)])) (L := 11) (by kernel_rfl) (HCW.out) (fun hHeld => ?_)
            refine wpAnyU_take0 (i := 0) (oi := { dst := some 62, op := Go.Op.move (Go.Operand.tmp 0), type := 105, pos := "ref.go:115", after := #[], guard := none }) (v := ?v0_420401) rfl (by decide) (by kernel_rfl) (by kernel_rfl) (by kernel_rfl) (fun _ _ _ h => h) (Or.inl ⟨by rfl, ?y0_420401⟩) (fun _ => hHeld) ?r0_420401
            case y0_420401 => intro w hSw; clear hSw; go_simp; try with_reducible rfl
            try simp only [Act.put, List.setIfInBounds_toArray, List.set_cons_zero, List.set_cons_succ]
            refine wpAnyU_take0 (i := 1) (oi := { dst := some 63, op := Go.Op.move (Go.Operand.tmp 0), type := 105, pos := "ref.go:115", after := #[], guard := none }) (v := ?v1_420401) rfl (by decide) (by kernel_rfl) (by kernel_rfl) (by kernel_rfl) (fun _ _ _ h => h) (Or.inl ⟨by rfl, ?y1_420401⟩) (fun _ => hHeld) ?r1_420401
            case y1_420401 => intro w hSw; clear hSw; go_simp; try with_reducible rfl
            try simp only [Act.put, List.setIfInBounds_toArray, List.set_cons_zero, List.set_cons_succ]
            refine wpAnyU_take0 (i := 2) (oi := { dst := some 64, op := Go.Op.nilCheck (Go.Operand.tmp 63), type := 0, pos := "ref.go:115", after := #[{ on := 1, ground := Go.Ground.data }], guard := none }) (v := ?v2_420401) rfl (by decide) (by kernel_rfl) (by kernel_rfl) (by kernel_rfl) (fun _ _ _ h => h) (Or.inl ⟨by rfl, ?y2_420401⟩) (fun _ => hHeld) ?r2_420401
            case y2_420401 => intro w hSw; clear hSw; go_simp; try with_reducible rfl
            try simp only [Act.put, List.setIfInBounds_toArray, List.set_cons_zero, List.set_cons_succ]
            refine wpAnyU_take0 (i := 3) (oi := { dst := some 65, op := Go.Op.fieldAddr 108 (Go.Operand.tmp 64) 0, type := 0, pos := "ref.go:115", after := #[{ on := 2, ground := Go.Ground.data }], guard := none }) (v := ?v3_420401) rfl (by decide) (by kernel_rfl) (by kernel_rfl) (by kernel_rfl) (fun _ _ _ h => h) (Or.inl ⟨by rfl, ?y3_420401⟩) (fun _ => hHeld) ?r3_420401
            case y3_420401 => intro w hSw; clear hSw; go_simp; try with_reducible rfl
            try simp only [Act.put, List.setIfInBounds_toArray, List.set_cons_zero, List.set_cons_succ]
            refine wpAnyU_take0 (i := 5) (oi := { dst := some 67, op := Go.Op.move (Go.Operand.tmp 1), type := 9, pos := "ref.go:115", after := #[], guard := none }) (v := ?v5_420401) rfl (by decide) (by kernel_rfl) (by kernel_rfl) (by kernel_rfl) (fun _ _ _ h => h) (Or.inl ⟨by rfl, ?y5_420401⟩) (fun _ => hHeld) ?r5_420401
            case y5_420401 => intro w hSw; clear hSw; go_simp; try with_reducible rfl
            try simp only [Act.put, List.setIfInBounds_toArray, List.set_cons_zero, List.set_cons_succ]
            refine wpAnyU_take0 (i := 6) (oi := { dst := some 68, op := Go.Op.move (Go.Operand.tmp 5), type := 3, pos := "ref.go:115", after := #[], guard := none }) (v := ?v6_420401) rfl (by decide) (by kernel_rfl) (by kernel_rfl) (by kernel_rfl) (fun _ _ _ h => h) (Or.inl ⟨by rfl, ?y6_420401⟩) (fun _ => hHeld) ?r6_420401
            case y6_420401 => intro w hSw; clear hSw; go_simp; try with_reducible rfl
            try simp only [Act.put, List.setIfInBounds_toArray, List.set_cons_zero, List.set_cons_succ]
            refine wpAnyU_take0 (i := 7) (oi := { dst := some 69, op := Go.Op.slice 9 (Go.Operand.tmp 67) none (some (Go.Operand.tmp 68)) none, type := 9, pos := "ref.go:115", after := #[{ on := 5, ground := Go.Ground.data }, { on := 6, ground := Go.Ground.data }], guard := none }) (v := ?v7_420401) rfl (by decide) (by kernel_rfl) (by kernel_rfl) (by kernel_rfl) (fun _ _ _ h => h) (Or.inl ⟨by rfl, ?y7_420401⟩) (fun _ => hHeld) ?r7_420401
            case y7_420401 => intro w hSw; clear hSw; go_simp; try with_reducible rfl
            try simp only [Act.put, List.setIfInBounds_toArray, List.set_cons_zero, List.set_cons_succ]
            refine wpAnyU_take (i := 4) (oi := { dst := some 66, op := Go.Op.load 35 (Go.Operand.tmp 65), type := 35, pos := "ref.go:115", after := #[{ on := 3, ground := Go.Ground.data }], guard := none }) (v := ?v4_420401) rfl (by kernel_rfl) (by decide) (by kernel_rfl) (by kernel_rfl) (by kernel_rfl) (by kernel_rfl) (by kernel_rfl) (fun _ _ _ h => h) (Or.inl ⟨by rfl, ?y4_420401⟩) hHeld ?r4_420401
            case y4_420401 => intro w hSw; (try dsimp only at hSw); have y0 := (hSw.2 0 _ rfl).1; go_simp; try with_reducible rfl
            try simp only [Act.put, List.setIfInBounds_toArray, List.set_cons_zero, List.set_cons_succ]
            refine wpAnyU_ready (rs := [8]) (by kernel_rfl) (by simp) ?_
            refine AllReadyU.cons (o := { dst := some 70, op := Go.Op.call { callee := Go.Callee.builtin Go.Builtin.append, args := #[Go.Operand.tmp 66, Go.Operand.tmp 69], argTypes := #[35, 9] }, type := 35, pos := "ref.go:115", after := #[{ on := 4, ground := Go.Ground.data }, { on := 7, ground := Go.Ground.data }], guard := none }) rfl (fun K hK => ?_) AllReadyU.nil
            refine step_append_str5 (by rfl) _ _ 35 9 (by rfl) B 5 i0 Try.underlying35 Try.underlying9 HI.out HZ0.out HZ1.out HZ2.out (.slice sa xl sc) xl (bc X1) (by rfl) (show World.ownsRow wz.drew B _ 1 (.slice sa xl sc) xl (bc X1) from H1W.out) (s.extract 0 d) (by rfl) (by rw [HEX.out, bs_size, HYL.out]; have := HDS.out; have := HXS.out; unfold maxLen; omega) (by rw [HEX.out, bs_size, HYL.out]; have := HDS.out; have := HXS.out; omega) HLW.out ?_
            intro v7 w7 ho7 hg7
            rw [HEX.out, bs_size, HYL.out, strCells_bs, ← bc_append] at ho7
            obtain ⟨sa7, sc7, rfl, -⟩ := cellsK_own ho7
            have hne7 := own_ne H1W.out HTW.out (by decide)
            have HC7 := Lib.hid ((show CN wz.drew q [.slice sa xl sc, (.slice (some ⟨g8, 0, none⟩) (el + 1) cap8), (.slice (some ⟨g9, 0, none⟩) (el + 1) cap9)] from HCW.out).grown hg7 (fun e => hne7 e.symm))
            have HT7 := Lib.hid ((show TB wz.drew q 108 from HTW.out).grown hg7 hne7)
            have HO7 := Lib.hid ho7
            have HG7 := Lib.hid hg7
            clear ho7 hg7 hne7
            refine hK.out _ _ (HC7.out) (fun hHeld2 => ?_)
            clear hK K hHeld
            have hHeld := hHeld2
            clear hHeld2
            try simp only [Act.put, List.setIfInBounds_toArray, List.set_cons_zero, List.set_cons_succ]
            refine wpAnyU_take0 (i := 9) (oi := { dst := some 71, op := Go.Op.nilCheck (Go.Operand.tmp 62), type := 0, pos := "ref.go:115", after := #[{ on := 0, ground := Go.Ground.data }, { on := 0, ground := Go.Ground.phase }, { on := 1, ground := Go.Ground.phase }, { on := 2, ground := Go.Ground.phase }, { on := 3, ground := Go.Ground.phase }, { on := 4, ground := Go.Ground.phase }, { on := 5, ground := Go.Ground.phase }, { on := 6, ground := Go.Ground.phase }, { on := 7, ground := Go.Ground.phase }, { on := 8, ground := Go.Ground.phase }], guard := none }) (v := ?v9_420402) rfl (by decide) (by kernel_rfl) (by kernel_rfl) (by kernel_rfl) (fun _ _ _ h => h) (Or.inl ⟨by rfl, ?y9_420402⟩) (fun _ => hHeld) ?r9_420402
            case y9_420402 => intro w hSw; clear hSw; go_simp; try with_reducible rfl
            try simp only [Act.put, List.setIfInBounds_toArray, List.set_cons_zero, List.set_cons_succ]
            refine wpAnyU_take0 (i := 10) (oi := { dst := some 72, op := Go.Op.fieldAddr 108 (Go.Operand.tmp 71) 0, type := 0, pos := "ref.go:115", after := #[{ on := 9, ground := Go.Ground.data }, { on := 0, ground := Go.Ground.phase }, { on := 1, ground := Go.Ground.phase }, { on := 2, ground := Go.Ground.phase }, { on := 3, ground := Go.Ground.phase }, { on := 4, ground := Go.Ground.phase }, { on := 5, ground := Go.Ground.phase }, { on := 6, ground := Go.Ground.phase }, { on := 7, ground := Go.Ground.phase }, { on := 8, ground := Go.Ground.phase }], guard := none }) (v := ?v10_420402) rfl (by decide) (by kernel_rfl) (by kernel_rfl) (by kernel_rfl) (fun _ _ _ h => h) (Or.inl ⟨by rfl, ?y10_420402⟩) (fun _ => hHeld) ?r10_420402
            case y10_420402 => intro w hSw; clear hSw; go_simp; try with_reducible rfl
            try simp only [Act.put, List.setIfInBounds_toArray, List.set_cons_zero, List.set_cons_succ]
            refine wpAnyU_ready (rs := [11]) (by kernel_rfl) (by simp) ?_
            refine AllReadyU.last (o := { dst := none, op := Go.Op.store 35 (Go.Operand.tmp 72) (Go.Operand.tmp 70), type := 0, pos := "ref.go:115", after := #[{ on := 10, ground := Go.Ground.data }, { on := 8, ground := Go.Ground.data }, { on := 8, ground := Go.Ground.chain }, { on := 0, ground := Go.Ground.phase }, { on := 1, ground := Go.Ground.phase }, { on := 2, ground := Go.Ground.phase }, { on := 3, ground := Go.Ground.phase }, { on := 4, ground := Go.Ground.phase }, { on := 5, ground := Go.Ground.phase }, { on := 6, ground := Go.Ground.phase }, { on := 7, ground := Go.Ground.phase }, { on := 8, ground := Go.Ground.phase }], guard := none }) rfl (by kernel_rfl) (fun K hK => ?_) AllReadyU.nil
            have y0 := (HC7.out.2 0 _ rfl).1
            have g0 := (HC7.out.2 0 _ rfl).2
            go_simp
            refine hK.out _ _ trivial (fun _ => ?_)
            clear hK K
            try simp only [Act.put, List.setIfInBounds_toArray, List.set_cons_zero, List.set_cons_succ]
            refine wpAnyU_done (by kernel_rfl) ?_ _
            have HC8 := Lib.hid (HC7.out.set 0 (by simp) (.slice sa7 (xl + d) sc7))
            have HT8 := Lib.hid (HT7.out.set 0 (.slice sa7 (xl + d) sc7))
            have HO8 := Lib.hid (own_keeps HO7.out HT7.out (by decide) (grown_cell w7 q 0 (.slice sa7 (xl + d) sc7)))
            have H28 := Lib.hid (own_keeps (own_other (show World.ownsRow wz.drew B 9 1 _ _ _ from H2W.out) (show World.ownsRow wz.drew B _ 1 (.slice sa xl sc) xl (bc X1) from H1W.out) (by decide) HG7.out) HT7.out (by decide) (grown_cell w7 q 0 (.slice sa7 (xl + d) sc7)))
            have H38 := Lib.hid (own_keeps (own_other (show World.ownsRow wz.drew B 3 1 _ _ _ from H3W.out) (show World.ownsRow wz.drew B _ 1 (.slice sa xl sc) xl (bc X1) from H1W.out) (by decide) HG7.out) HT7.out (by decide) (grown_cell w7 q 0 (.slice sa7 (xl + d) sc7)))
            have HB8 := Lib.hid ((HBW.out.drew.grown HG7.out HLW.out (fun k hk => (H1W.out.lt k hk).1)).setCell HQ.out (.slice sa7 (xl + d) sc7) (p := ⟨q, 0, none⟩))
            have HK8 := Lib.hid ((HKW.out.drew.trans HOW2.out (Kd.rowB (show World.ownsRow wz.drew B _ 1 (.slice sa xl sc) xl (bc X1) from H1W.out) HG7.out)).trans HOW2.out (Kd.set HT7.out 0 (.slice sa7 (xl + d) sc7)))
            skip
            have hdl : d ≤ ls := by have := HDS.out; omega
            have hls := HLSR.out.1
            go_wp2
            go_roundw
            case rel =>
              refine ⟨k + 1, ?_, ?_, (.slice (some ⟨g8, 0, none⟩) (el + 1) cap8), (E1 ++ [(t :: M, xl)]), X1 ++ Y, ⟨(.slice sa7 (xl + d) sc7), _, HC8.out, HT8.out, ?_, H28.out, H38.out, HOK2.out, ?_⟩, ?_, ?_, HB8.out, HK8.out, HOW2.out⟩
              · rcases Nat.lt_or_ge k L.length with h | h
                · exact h
                · have e := HMK.out; rw [List.drop_eq_nil_of_le h] at e; cases e
              · rw [HSUF.out]; have e := HMK.out; rw [show L.drop (k + 1) = M by rw [← List.drop_drop, e]; rfl]
              · rw [List.length_append, HXL.out, HYL.out]; exact HO8.out
              · have e2 : (X1 ++ Y).length = xl + d := by rw [List.length_append, HXL.out, HYL.out]
                rw [e2]; have := HNW.out; have := HDS.out; omega
              · rw [show L.drop (k + 1) = M by rw [← List.drop_drop, HMK.out]; rfl]; exact HEW.out
              · rw [List.length_append, HXL.out, HYL.out, HOF.out]; have := HX.out; have := HXL.out; omega
            case measure => show (s.extract d ls).size < s.size; rw [extract_size _ _ _ (by have := HLSR.out; omega)]; have := HDS.out; have := HLSR.out; omega
        · go_simp
          obtain ⟨z18, hzl18⟩ : ∃ x, wd.alloc (.cells #[.int .i64 (xl : Int)] 3) = x := ⟨_, rfl⟩
          obtain ⟨g18, hg18⟩ : ∃ x, wd.heap.size = x := ⟨_, rfl⟩
          have hba := (Below.refl wd.heap.size wd).alloc (Nat.le_refl _) (.cells #[.int .i64 (xl : Int)] 3)
          have HL18 := Lib.hid (CN.new wd #[.int .i64 (xl : Int)] 3)
          have HTL18 := Lib.hid (TB.new wd #[.int .i64 (xl : Int)] 3)
          rw [hzl18] at hba HL18 HTL18 ⊢
          rw [hg18] at HL18 HTL18 ⊢
          have HR18 := Lib.hid (HR.out.below hba)
          have HKK18 := Lib.hid (HKK.out.trans (Ow.refl _ _) (Kd.below nv1 hba))
          have HBB18 := Lib.hid (HBB.out.trans (hba.mono HR.out.le))
          have HGR18 := Lib.hid (Nat.le_trans HGR.out hba.size)
          clear hba hzl18 hg18
          refine hK.out _ _ (HR18.out.cn) (fun hHeld2 => ?_)
          clear hK K hHeld
          have hHeld := hHeld2
          clear hHeld2
          try simp only [Act.put, List.setIfInBounds_toArray, List.set_cons_zero, List.set_cons_succ]
          refine wpAnyU_ready (rs := [7]) (by kernel_rfl) (by simp) ?_
          refine AllReadyU.cons (o := { dst := some 41, op := Go.Op.buildSlice 72 1 #[(0, Go.Operand.tmp 40)], type := 72, pos := "ref.go:112", after := #[{ on := 6, ground := Go.Ground.data }], guard := none }) rfl (fun K hK => ?_) AllReadyU.nil
          go_simp
          obtain ⟨z187, hzl7⟩ : ∃ x, z18.alloc (.cells #[.string s] 9) = x := ⟨_, rfl⟩
          obtain ⟨g7, hg7⟩ : ∃ x, z18.heap.size = x := ⟨_, rfl⟩
          have hba := (Below.refl z18.heap.size z18).alloc (Nat.le_refl _) (.cells #[.string s] 9)
          have HL7 := Lib.hid (CN.new z18 #[.string s] 9)
          have HTL7 := Lib.hid (TB.new z18 #[.string s] 9)
          rw [hzl7] at hba HL7 HTL7 ⊢
          rw [hg7] at HL7 HTL7 ⊢
          have HR187 := Lib.hid (HR18.out.below hba)
          have HKK187 := Lib.hid (HKK18.out.trans (Ow.refl _ _) (Kd.below nv1 hba))
          have HBB187 := Lib.hid (HBB18.out.trans (hba.mono HR18.out.le))
          replace HL18 := Lib.hid (HL18.out.below hba)
          replace HTL18 := Lib.hid (HTL18.out.below hba)
          have HGR187 := Lib.hid (Nat.le_trans HGR18.out hba.size)
          clear hba hzl7 hg7
          refine hK.out _ _ (HR187.out.cn) (fun hHeld2 => ?_)
          clear hK K hHeld
          have hHeld := hHeld2
          clear hHeld2
          try simp only [Act.put, List.setIfInBounds_toArray, List.set_cons_zero, List.set_cons_succ]
          refine wpAnyU_ready (rs := [8]) (by kernel_rfl) (by simp) ?_
          refine AllReadyU.cons (o := { dst := some 42, op := Go.Op.call { callee := Go.Callee.builtin Go.Builtin.append, args := #[Go.Operand.tmp 39, Go.Operand.tmp 41], argTypes := #[72, 72] }, type := 72, pos := "ref.go:112", after := #[{ on := 5, ground := Go.Ground.data }, { on := 7, ground := Go.Ground.data }], guard := none }) rfl (fun K hK => ?_) AllReadyU.nil
          refine step_append_lies _ (by rfl) _ _ 72 (by rfl) B 9 j0 (.string ⟨#[]⟩) 1 16 Try.underlying72 HJ.out.1 HJ.out.2.1 HJ.out.2.2.1 HJ.out.2.2.2 rfl (by decide) nv1 el (nmsC E1) (by rfl) HR187.out.names ⟨g7, 0, none⟩ 1 1 [.string s] (by rfl) rfl (cn_news HL7.out) (by intro u hu; obtain rfl : u = _ := (by simpa using hu); rfl) (by decide) (by have := HELX.out; unfold maxLen; omega) (by have := HELX.out; omega) HR187.out.le _ rfl ?_
          intro g8 cap8 z1878 ho8 hg8 hlie8 hlt8
          have HLIE := Lib.hid hlie8
          have HO8 := Lib.hid ho8
          have HR1878 := Lib.hid (HR187.out.names8 hg8)
          have HKK1878 := Lib.hid (HKK187.out.trans (Ow.refl _ _) (Kd.rowN hg8))
          have HSZ8 := Lib.hid HBB187.out.size
          have HGE8 := Lib.hid (HGR187.out)
          have HBB1878 := Lib.hid (HBB187.out.grown hg8 HR187.out.le (fun k hk => (HR187.out.names.lt k hk).1))
          replace HL18 := Lib.hid (HL18.out.grown hg8 (fun e => own_ne HR187.out.names HTL18.out (by decide) e.symm))
          have HGR1878 := Lib.hid (Nat.le_trans HGR187.out hg8.size)
          clear ho8 hg8 hlie8 hlt8
          refine hK.out _ _ (HR1878.out.cn) (fun hHeld2 => ?_)
          clear hK K hHeld
          have hHeld := hHeld2
          clear hHeld2
          try simp only [Act.put, List.setIfInBounds_toArray, List.set_cons_zero, List.set_cons_succ]
          refine wpAnyU_ready (rs := [19]) (by kernel_rfl) (by simp) ?_
          refine AllReadyU.cons (o := { dst := some 53, op := Go.Op.call { callee := Go.Callee.builtin Go.Builtin.append, args := #[Go.Operand.tmp 46, Go.Operand.tmp 52], argTypes := #[106, 106] }, type := 106, pos := "ref.go:112", after := #[{ on := 12, ground := Go.Ground.data }, { on := 18, ground := Go.Ground.data }, { on := 8, ground := Go.Ground.chain }], guard := none }) rfl (fun K hK => ?_) AllReadyU.nil
          have HOX1878 := HO8
          refine step_append_lies _ (by rfl) _ _ 106 (by rfl) B 3 k0 (.int .i64 0) 1 8 Try.underlying106 HLI.out.1 HLI.out.2.1 HLI.out.2.2.1 HLI.out.2.2.2 rfl (by decide) av el (atsC E1) (by rfl) HR1878.out.ats ⟨g18, 0, none⟩ 1 1 [.int .i64 (xl : Int)] (by rfl) rfl (cn_news HL18.out) (by intro u hu; obtain rfl : u = _ := (by simpa using hu); rfl) (by decide) (by have := HELX.out; unfold maxLen; omega) (by have := HELX.out; omega) HR1878.out.le _ rfl ?_
          intro g9 cap9 z187819 ho9 hg9 hlie9 hlt9
          have HO9 := Lib.hid ho9
          have HC9 := Lib.hid (HR1878.out.cn.grown hg9 (fun e => own_ne HR1878.out.ats HR1878.out.tb (by decide) e.symm))
          have HT9 := Lib.hid (HR1878.out.tb.grown hg9 (own_ne HR1878.out.ats HR1878.out.tb (by decide)))
          have HB9 := Lib.hid (own_other HR1878.out.row HR1878.out.ats (by decide) hg9)
          have HN9 := Lib.hid (own_other (HOX1878.out) HR1878.out.ats (by decide) hg9)
          have HKK9 := Lib.hid (HKK1878.out.trans (Ow.refl _ _) (Kd.rowI HR1878.out.ats hg9))
          have HBB9 := Lib.hid (HBB1878.out.grown hg9 HR1878.out.le (fun k hk => (HR1878.out.ats.lt k hk).1))
          have HLE9 := Lib.hid (Nat.le_trans HR1878.out.le hg9.size)
          clear ho9 hg9 hlie9 hlt9
          refine hK.out _ _ (HC9.out) (fun hHeld2 => ?_)
          clear hK K hHeld
          have hHeld := hHeld2
          clear hHeld2
          try simp only [Act.put, List.setIfInBounds_toArray, List.set_cons_zero, List.set_cons_succ]
          refine wpAnyU_take0 (i := 20) (oi := { dst := some 54, op := Go.Op.nilCheck (Go.Operand.tmp 34), type := 0, pos := "ref.go:112", after := #[{ on := 0, ground := Go.Ground.data }, { on := 0, ground := Go.Ground.phase }, { on := 1, ground := Go.Ground.textOnly Go.Departure.lateStores }, { on := 2, ground := Go.Ground.phase }, { on := 3, ground := Go.Ground.phase }, { on := 4, ground := Go.Ground.phase }, { on := 5, ground := Go.Ground.phase }, { on := 6, ground := Go.Ground.phase }, { on := 7, ground := Go.Ground.phase }, { on := 8, ground := Go.Ground.phase }, { on := 9, ground := Go.Ground.textOnly Go.Departure.lateStores }, { on := 10, ground := Go.Ground.textOnly Go.Departure.lateStoresUnsure }, { on := 11, ground := Go.Ground.textOnly Go.Departure.lateStoresUnsure }, { on := 12, ground := Go.Ground.phase }, { on := 13, ground := Go.Ground.textOnly Go.Departure.lateStores }, { on := 14, ground := Go.Ground.textOnly Go.Departure.lateStoresUnsure }, { on := 15, ground := Go.Ground.textOnly Go.Departure.lateStoresUnsure }, { on := 16, ground := Go.Ground.phase }, { on := 17, ground := Go.Ground.textOnly Go.Departure.lateStoresUnsure }, { on := 18, ground := Go.Ground.textOnly Go.Departure.lateStoresUnsure }, { on := 19, ground := Go.Ground.phase }], guard := none }) (v := ?v20_410116) rfl (by decide) (by kernel_rfl) (by kernel_rfl) (by kernel_rfl) (fun _ _ _ h => h) (Or.inl ⟨by rfl, ?y20_410116⟩) (fun _ => hHeld) ?r20_410116
          case y20_410116 => intro w hSw; clear hSw; go_simp; try with_reducible rfl
          try simp only [Act.put, List.setIfInBounds_toArray, List.set_cons_zero, List.set_cons_succ]
          refine wpAnyU_take0 (i := 21) (oi := { dst := some 55, op := Go.Op.fieldAddr 108 (Go.Operand.tmp 54) 1, type := 0, pos := "ref.go:112", after := #[{ on := 20, ground := Go.Ground.data }, { on := 0, ground := Go.Ground.phase }, { on := 1, ground := Go.Ground.textOnly Go.Departure.lateStores }, { on := 2, ground := Go.Ground.phase }, { on := 3, ground := Go.Ground.phase }, { on := 4, ground := Go.Ground.phase }, { on := 5, ground := Go.Ground.phase }, { on := 6, ground := Go.Ground.phase }, { on := 7, ground := Go.Ground.phase }, { on := 8, ground := Go.Ground.phase }, { on := 9, ground := Go.Ground.textOnly Go.Departure.lateStores }, { on := 10, ground := Go.Ground.textOnly Go.Departure.lateStoresUnsure }, { on := 11, ground := Go.Ground.textOnly Go.Departure.lateStoresUnsure }, { on := 12, ground := Go.Ground.phase }, { on := 13, ground := Go.Ground.textOnly Go.Departure.lateStores }, { on := 14, ground := Go.Ground.textOnly Go.Departure.lateStoresUnsure }, { on := 15, ground := Go.Ground.textOnly Go.Departure.lateStoresUnsure }, { on := 16, ground := Go.Ground.phase }, { on := 17, ground := Go.Ground.textOnly Go.Departure.lateStoresUnsure }, { on := 18, ground := Go.Ground.textOnly Go.Departure.lateStoresUnsure }, { on := 19, ground := Go.Ground.phase }], guard := none }) (v := ?v21_410116) rfl (by decide) (by kernel_rfl) (by kernel_rfl) (by kernel_rfl) (fun _ _ _ h => h) (Or.inl ⟨by rfl, ?y21_410116⟩) (fun _ => hHeld) ?r21_410116
          case y21_410116 => intro w hSw; clear hSw; go_simp; try with_reducible rfl
          try simp only [Act.put, List.setIfInBounds_toArray, List.set_cons_zero, List.set_cons_succ]
          refine wpAnyU_ready (rs := [22]) (by kernel_rfl) (by simp) ?_
          refine AllReadyU.last (o := { dst := none, op := Go.Op.store 72 (Go.Operand.tmp 55) (Go.Operand.tmp 42), type := 0, pos := "ref.go:112", after := #[{ on := 21, ground := Go.Ground.data }, { on := 8, ground := Go.Ground.data }, { on := 19, ground := Go.Ground.chain }, { on := 0, ground := Go.Ground.phase }, { on := 1, ground := Go.Ground.textOnly Go.Departure.lateStores }, { on := 2, ground := Go.Ground.phase }, { on := 3, ground := Go.Ground.phase }, { on := 4, ground := Go.Ground.phase }, { on := 5, ground := Go.Ground.phase }, { on := 6, ground := Go.Ground.phase }, { on := 7, ground := Go.Ground.phase }, { on := 8, ground := Go.Ground.phase }, { on := 9, ground := Go.Ground.textOnly Go.Departure.lateStores }, { on := 10, ground := Go.Ground.textOnly Go.Departure.lateStoresUnsure }, { on := 11, ground := Go.Ground.textOnly Go.Departure.lateStoresUnsure }, { on := 12, ground := Go.Ground.phase }, { on := 13, ground := Go.Ground.textOnly Go.Departure.lateStores }, { on := 14, ground := Go.Ground.textOnly Go.Departure.lateStoresUnsure }, { on := 15, ground := Go.Ground.textOnly Go.Departure.lateStoresUnsure }, { on := 16, ground := Go.Ground.phase }, { on := 17, ground := Go.Ground.textOnly Go.Departure.lateStoresUnsure }, { on := 18, ground := Go.Ground.textOnly Go.Departure.lateStoresUnsure }, { on := 19, ground := Go.Ground.phase }], guard := none }) rfl (by kernel_rfl) (fun K hK => ?_) AllReadyU.nil
          have y0 := (HC9.out.2 1 _ rfl).1
          have f0 := (HC9.out.2 1 _ rfl).2
          go_simp
          refine hK.out _ _ trivial (fun _ => ?_)
          clear hK K
          try simp only [Act.put, List.setIfInBounds_toArray, List.set_cons_zero, List.set_cons_succ]
          refine wpAnyU_take0 (i := 23) (oi := { dst := some 56, op := Go.Op.nilCheck (Go.Operand.tmp 35), type := 0, pos := "ref.go:112", after := #[{ on := 1, ground := Go.Ground.data }, { on := 0, ground := Go.Ground.phase }, { on := 1, ground := Go.Ground.phase }, { on := 2, ground := Go.Ground.phase }, { on := 3, ground := Go.Ground.phase }, { on := 4, ground := Go.Ground.phase }, { on := 5, ground := Go.Ground.phase }, { on := 6, ground := Go.Ground.phase }, { on := 7, ground := Go.Ground.phase }, { on := 8, ground := Go.Ground.phase }, { on := 9, ground := Go.Ground.phase }, { on := 10, ground := Go.Ground.phase }, { on := 11, ground := Go.Ground.phase }, { on := 12, ground := Go.Ground.phase }, { on := 13, ground := Go.Ground.phase }, { on := 14, ground := Go.Ground.phase }, { on := 15, ground := Go.Ground.phase }, { on := 16, ground := Go.Ground.phase }, { on := 17, ground := Go.Ground.phase }, { on := 18, ground := Go.Ground.phase }, { on := 19, ground := Go.Ground.phase }, { on := 20, ground := Go.Ground.phase }, { on := 21, ground := Go.Ground.phase }, { on := 22, ground := Go.Ground.phase }], guard := none }) (v := ?v23_410117) rfl (by decide) (by kernel_rfl) (by kernel_rfl) (by kernel_rfl) (fun _ _ _ h => h) (Or.inl ⟨by rfl, ?y23_410117⟩) (fun h => absurd (h.symm.trans (by kernel_rfl)) Bool.false_ne_true) ?r23_410117
          case y23_410117 => intro w hSw; clear hSw; go_simp; try with_reducible rfl
          try simp only [Act.put, List.setIfInBounds_toArray, List.set_cons_zero, List.set_cons_succ]
          refine wpAnyU_take0 (i := 24) (oi := { dst := some 57, op := Go.Op.fieldAddr 108 (Go.Operand.tmp 56) 2, type := 0, pos := "ref.go:112", after := #[{ on := 23, ground := Go.Ground.data }, { on := 0, ground := Go.Ground.phase }, { on := 1, ground := Go.Ground.phase }, { on := 2, ground := Go.Ground.phase }, { on := 3, ground := Go.Ground.phase }, { on := 4, ground := Go.Ground.phase }, { on := 5, ground := Go.Ground.phase }, { on := 6, ground := Go.Ground.phase }, { on := 7, ground := Go.Ground.phase }, { on := 8, ground := Go.Ground.phase }, { on := 9, ground := Go.Ground.phase }, { on := 10, ground := Go.Ground.phase }, { on := 11, ground := Go.Ground.phase }, { on := 12, ground := Go.Ground.phase }, { on := 13, ground := Go.Ground.phase }, { on := 14, ground := Go.Ground.phase }, { on := 15, ground := Go.Ground.phase }, { on := 16, ground := Go.Ground.phase }, { on := 17, ground := Go.Ground.phase }, { on := 18, ground := Go.Ground.phase }, { on := 19, ground := Go.Ground.phase }, { on := 20, ground := Go.Ground.phase }, { on := 21, ground := Go.Ground.phase }, { on := 22, ground := Go.Ground.phase }], guard := none }) (v := ?v24_410117) rfl (by decide) (by kernel_rfl) (by kernel_rfl) (by kernel_rfl) (fun _ _ _ h => h) (Or.inl ⟨by rfl, ?y24_410117⟩) (fun h => absurd (h.symm.trans (by kernel_rfl)) Bool.false_ne_true) ?r24_410117
          case y24_410117 => intro w hSw; clear hSw; go_simp; try with_reducible rfl
          try simp only [Act.put, List.setIfInBounds_toArray, List.set_cons_zero, List.set_cons_succ]
          refine wpAnyU_ready (rs := [25]) (by kernel_rfl) (by simp) ?_
          refine AllReadyU.last (o := { dst := none, op := Go.Op.store 106 (Go.Operand.tmp 57) (Go.Operand.tmp 53), type := 0, pos := "ref.go:112", after := #[{ on := 24, ground := Go.Ground.data }, { on := 19, ground := Go.Ground.data }, { on := 22, ground := Go.Ground.chain }, { on := 0, ground := Go.Ground.phase }, { on := 1, ground := Go.Ground.phase }, { on := 2, ground := Go.Ground.phase }, { on := 3, ground := Go.Ground.phase }, { on := 4, ground := Go.Ground.phase }, { on := 5, ground := Go.Ground.phase }, { on := 6, ground := Go.Ground.phase }, { on := 7, ground := Go.Ground.phase }, { on := 8, ground := Go.Ground.phase }, { on := 9, ground := Go.Ground.phase }, { on := 10, ground := Go.Ground.phase }, { on := 11, ground := Go.Ground.phase }, { on := 12, ground := Go.Ground.phase }, { on := 13, ground := Go.Ground.phase }, { on := 14, ground := Go.Ground.phase }, { on := 15, ground := Go.Ground.phase }, { on := 16, ground := Go.Ground.phase }, { on := 17, ground := Go.Ground.phase }, { on := 18, ground := Go.Ground.phase }, { on := 19, ground := Go.Ground.phase }, { on := 20, ground := Go.Ground.phase }, { on := 21, ground := Go.Ground.phase }, { on := 22, ground := Go.Ground.phase }], guard := none }) rfl (by kernel_rfl) (fun K hK => ?_) AllReadyU.nil
          have y0 := ((HC9.out.set 1 (by simp) (.slice (some ⟨g8, 0, none⟩) (el + 1) cap8)).2 2 _ rfl).1
          have f0 := ((HC9.out.set 1 (by simp) (.slice (some ⟨g8, 0, none⟩) (el + 1) cap8)).2 2 _ rfl).2
          go_simp
          refine hK.out _ _ trivial (fun _ => ?_)
          clear hK K
          try simp only [Act.put, List.setIfInBounds_toArray, List.set_cons_zero, List.set_cons_succ]
          refine wpAnyU_done (by kernel_rfl) ?_ _
          obtain ⟨wz, hwz⟩ : ∃ x, ((z187819.setCell ⟨q, 1, none⟩ (.slice (some ⟨g8, 0, none⟩) (el + 1) cap8)).setCell ⟨q, 2, none⟩ (.slice (some ⟨g9, 0, none⟩) (el + 1) cap9)) = x := ⟨_, rfl⟩
          have hgz : z187819.grownBy wz (some q) := by rw [← hwz]; exact (grown_cell z187819 q 1 (.slice (some ⟨g8, 0, none⟩) (el + 1) cap8)).trans (grown_cell _ q 2 (.slice (some ⟨g9, 0, none⟩) (el + 1) cap9))
          have HCW := Lib.hid (show CN wz q [.slice sa xl sc, (.slice (some ⟨g8, 0, none⟩) (el + 1) cap8), (.slice (some ⟨g9, 0, none⟩) (el + 1) cap9)] by rw [← hwz]; exact (HC9.out.set 1 (by simp) (.slice (some ⟨g8, 0, none⟩) (el + 1) cap8)).set 2 (by simp) (.slice (some ⟨g9, 0, none⟩) (el + 1) cap9))
          have HTW := Lib.hid (show TB wz q 108 by rw [← hwz]; exact (HT9.out.set 1 (.slice (some ⟨g8, 0, none⟩) (el + 1) cap8)).set 2 (.slice (some ⟨g9, 0, none⟩) (el + 1) cap9))
          have H1W := Lib.hid (own_keeps HB9.out HT9.out (by decide) hgz)
          have H2W := Lib.hid (show wz.ownsRow B 9 1 (.slice (some ⟨g8, 0, none⟩) (el + 1) cap8) (E1 ++ [(t :: M, xl)]).length (nmsC (E1 ++ [(t :: M, xl)])) by have h := own_keeps HN9.out HT9.out (by decide) hgz; rw [show nmsC (E1 ++ [(t :: M, xl)]) = nmsC E1 ++ [.string s] by simp [nmsC, HSN.out], List.length_append, HELN.out]; exact h)
          have H3W := Lib.hid (show wz.ownsRow B 3 1 (.slice (some ⟨g9, 0, none⟩) (el + 1) cap9) (E1 ++ [(t :: M, xl)]).length (atsC (E1 ++ [(t :: M, xl)])) by have h := own_keeps HO9.out HT9.out (by decide) hgz; rw [show atsC (E1 ++ [(t :: M, xl)]) = atsC E1 ++ [.int .i64 (xl : Int)] by simp [atsC], List.length_append, HELN.out]; exact h)
          have HBW := Lib.hid (show Below B w wz by rw [← hwz]; exact ((HBB9.out.setCell HQ.out (.slice (some ⟨g8, 0, none⟩) (el + 1) cap8) (p := ⟨q, 1, none⟩)).setCell HQ.out (.slice (some ⟨g9, 0, none⟩) (el + 1) cap9) (p := ⟨q, 2, none⟩)))
          have HKW := Lib.hid (show Kd w wz nv by rw [← hwz]; exact HKD.out.trans HOW.out ((HKK9.out.trans (Ow.refl _ _) (Kd.set HT9.out 1 (.slice (some ⟨g8, 0, none⟩) (el + 1) cap8))).trans (Ow.refl _ _) (Kd.set (HT9.out.set 1 (.slice (some ⟨g8, 0, none⟩) (el + 1) cap8)) 2 (.slice (some ⟨g9, 0, none⟩) (el + 1) cap9))))
          have HLW := Lib.hid (show B ≤ wz.heap.size from Nat.le_trans HLE9.out hgz.size)
          have HOW2 := Lib.hid (show Ow w nv (.slice (some ⟨g8, 0, none⟩) (el + 1) cap8) from HOW.out.trans HB.out.size (fun j hj => by injection hj with hj; have hj2 : g8 = j := hj; rcases HLIE.out with h | h; exact Or.inl (by rw [← hj2]; exact h); exact Or.inr (by rw [← hj2, h]; exact HGE8.out)))
          have HOK2 := Lib.hid (show EntOk (E1 ++ [(t :: M, xl)]) from fun e he => by rcases List.mem_append.1 he with h | h; exact HOK.out e h; obtain rfl : e = _ := (by simpa using h); exact ⟨HLD.out.1, HLD.out.2, HLT.out⟩)
          have HNW := Lib.hid (show (E1 ++ [(t :: M, xl)]).length ≤ xl + 1 by rw [List.length_append]; have := HEL.out; have := HXL.out; simp only [List.length_cons, List.length_nil]; omega)
          have HEW := Lib.hid (show wNm f X L = wNm (lkE (E1 ++ [(t :: M, xl)])) (X1 ++ Y) M by rw [lkE_snoc xl HF1.out, HE1.out]; unfold putPl; rw [if_pos HLT.out])
          rw [hwz]
          clear hgz hwz hHeld
          go_upto_region 7 with (fail)
          refine wp_region_store_drew (S := (fun wx => CN wx q [.slice sa xl sc, (.slice (some ⟨g8, 0, none⟩) (el + 1) cap8), (.slice (some ⟨g9, 0, none⟩) (el + 1) cap9)])) (L := 11) (by kernel_rfl) (HCW.out) (fun hHeld => ?_)
          refine wpAnyU_take0 (i := 0) (oi := { dst := some 62, op := Go.Op.move (Go.Operand.tmp 0), type := 105, pos := "ref.go:115", after := #[], guard := none }) (v := ?v0_420501) rfl (by decide) (by kernel_rfl) (by kernel_rfl) (by kernel_rfl) (fun _ _ _ h => h) (Or.inl ⟨by rfl, ?y0_420501⟩) (fun _ => hHeld) ?r0_420501
          case y0_420501 => intro w hSw; clear hSw; go_simp; try with_reducible rfl
          try simp only [Act.put, List.setIfInBounds_toArray, List.set_cons_zero, List.set_cons_succ]
          refine wpAnyU_take0 (i := 1) (oi := { dst := some 63, op := Go.Op.move (Go.Operand.tmp 0), type := 105, pos := "ref.go:115", after := #[], guard := none }) (v := ?v1_420501) rfl (by decide) (by kernel_rfl) (by kernel_rfl) (by kernel_rfl) (fun _ _ _ h => h) (Or.inl ⟨by rfl, ?y1_420501⟩) (fun _ => hHeld) ?r1_420501
          case y1_420501 => intro w hSw; clear hSw; go_simp; try with_reducible rfl
          try simp only [Act.put, List.setIfInBounds_toArray, List.set_cons_zero, List.set_cons_succ]
          refine wpAnyU_take0 (i := 2) (oi := { dst := some 64, op := Go.Op.nilCheck (Go.Operand.tmp 63), type := 0, pos := "ref.go:115", after := #[{ on := 1, ground := Go.Ground.data }], guard := none }) (v := ?v2_420501) rfl (by decide) (by kernel_rfl) (by kernel_rfl) (by kernel_rfl) (fun _ _ _ h => h) (Or.inl ⟨by rfl, ?y2_420501⟩) (fun _ => hHeld) ?r2_420501
          case y2_420501 => intro w hSw; clear hSw; go_simp; try with_reducible rfl
          try simp only [Act.put, List.setIfInBounds_toArray, List.set_cons_zero, List.set_cons_succ]
          refine wpAnyU_take0 (i := 3) (oi := { dst := some 65, op := Go.Op.fieldAddr 108 (Go.Operand.tmp 64) 0, type := 0, pos := "ref.go:115", after := #[{ on := 2, ground := Go.Ground.data }], guard := none }) (v := ?v3_420501) rfl (by decide) (by kernel_rfl) (by kernel_rfl) (by kernel_rfl) (fun _ _ _ h => h) (Or.inl ⟨by rfl, ?y3_420501⟩) (fun _ => hHeld) ?r3_420501
          case y3_420501 => intro w hSw; clear hSw; go_simp; try with_reducible rfl
          try simp only [Act.put, List.setIfInBounds_toArray, List.set_cons_zero, List.set_cons_succ]
          refine wpAnyU_take0 (i := 5) (oi := { dst := some 67, op := Go.Op.move (Go.Operand.tmp 1), type := 9, pos := "ref.go:115", after := #[], guard := none }) (v := ?v5_420501) rfl (by decide) (by kernel_rfl) (by kernel_rfl) (by kernel_rfl) (fun _ _ _ h => h) (Or.inl ⟨by rfl, ?y5_420501⟩) (fun _ => hHeld) ?r5_420501
          case y5_420501 => intro w hSw; clear hSw; go_simp; try with_reducible rfl
          try simp only [Act.put, List.setIfInBounds_toArray, List.set_cons_zero, List.set_cons_succ]
          refine wpAnyU_take0 (i := 6) (oi := { dst := some 68, op := Go.Op.move (Go.Operand.tmp 5), type := 3, pos := "ref.go:115", after := #[], guard := none }) (v := ?v6_420501) rfl (by decide) (by kernel_rfl) (by kernel_rfl) (by kernel_rfl) (fun _ _ _ h => h) (Or.inl ⟨by rfl, ?y6_420501⟩) (fun _ => hHeld) ?r6_420501
          case y6_420501 => intro w hSw; clear hSw; go_simp; try with_reducible rfl
          try simp only [Act.put, List.setIfInBounds_toArray, List.set_cons_zero, List.set_cons_succ]
          refine wpAnyU_take0 (i := 7) (oi := { dst := some 69, op := Go.Op.slice 9 (Go.Operand.tmp 67) none (some (Go.Operand.tmp 68)) none, type := 9, pos := "ref.go:115", after := #[{ on := 5, ground := Go.Ground.data }, { on := 6, ground := Go.Ground.data }], guard := none }) (v := ?v7_420501) rfl (by decide) (by kernel_rfl) (by kernel_rfl) (by kernel_rfl) (fun _ _ _ h => h) (Or.inl ⟨by rfl, ?y7_420501⟩) (fun _ => hHeld) ?r7_420501
          case y7_420501 => intro w hSw; clear hSw; go_simp; try with_reducible rfl
          try simp only [Act.put, List.setIfInBounds_toArray, List.set_cons_zero, List.set_cons_succ]
          refine wpAnyU_take (i := 4) (oi := { dst := some 66, op := Go.Op.load 35 (Go.Operand.tmp 65), type := 35, pos := "ref.go:115", after := #[{ on := 3, ground := Go.Ground.data }], guard := none }) (v := ?v4_420501) rfl (by kernel_rfl) (by decide) (by kernel_rfl) (by kernel_rfl) (by kernel_rfl) (by kernel_rfl) (by kernel_rfl) (fun _ _ _ h => h) (Or.inl ⟨by rfl, ?y4_420501⟩) hHeld ?r4_420501
          case y4_420501 => intro w hSw; (try dsimp only at hSw); have y0 := (hSw.2 0 _ rfl).1; go_simp; try with_reducible rfl
          try simp only [Act.put, List.setIfInBounds_toArray, List.set_cons_zero, List.set_cons_succ]
          refine wpAnyU_ready (rs := [8]) (by kernel_rfl) (by simp) ?_
          refine AllReadyU.cons (o := { dst := some 70, op := Go.Op.call { callee := Go.Callee.builtin Go.Builtin.append, args := #[Go.Operand.tmp 66, Go.Operand.tmp 69], argTypes := #[35, 9] }, type := 35, pos := "ref.go:115", after := #[{ on := 4, ground := Go.Ground.data }, { on := 7, ground := Go.Ground.data }], guard := none }) rfl (fun K hK => ?_) AllReadyU.nil
          refine step_append_str5 (by rfl) _ _ 35 9 (by rfl) B 5 i0 Try.underlying35 Try.underlying9 HI.out HZ0.out HZ1.out HZ2.out (.slice sa xl sc) xl (bc X1) (by rfl) (show World.ownsRow wz.drew B _ 1 (.slice sa xl sc) xl (bc X1) from H1W.out) (s.extract 0 d) (by rfl) (by rw [HEX.out, bs_size, HYL.out]; have := HDS.out; have := HXS.out; unfold maxLen; omega) (by rw [HEX.out, bs_size, HYL.out]; have := HDS.out; have := HXS.out; omega) HLW.out ?_
          intro v7 w7 ho7 hg7
          rw [HEX.out, bs_size, HYL.out, strCells_bs, ← bc_append] at ho7
          obtain ⟨sa7, sc7, rfl, -⟩ := cellsK_own ho7
          have hne7 := own_ne H1W.out HTW.out (by decide)
          have HC7 := Lib.hid ((show CN wz.drew q [.slice sa xl sc, (.slice (some ⟨g8, 0, none⟩) (el + 1) cap8), (.slice (some ⟨g9, 0, none⟩) (el + 1) cap9)] from HCW.out).grown hg7 (fun e => hne7 e.symm))
          have HT7 := Lib.hid ((show TB wz.drew q 108 from HTW.out).grown hg7 hne7)
          have HO7 := Lib.hid ho7
          have HG7 := Lib.hid hg7
          clear ho7 hg7 hne7
          refine hK.out _ _ (HC7.out) (fun hHeld2 => ?_)
          clear hK K hHeld
          have hHeld := hHeld2
          clear hHeld2
          try simp only [Act.put, List.setIfInBounds_toArray, List.set_cons_zero, List.set_cons_succ]
          refine wpAnyU_take0 (i := 9) (oi := { dst := some 71, op := Go.Op.nilCheck (Go.Operand.tmp 62), type := 0, pos := "ref.go:115", after := #[{ on := 0, ground := Go.Ground.data }, { on := 0, ground := Go.Ground.phase }, { on := 1, ground := Go.Ground.phase }, { on := 2, ground := Go.Ground.phase }, { on := 3, ground := Go.Ground.phase }, { on := 4, ground := Go.Ground.phase }, { on := 5, ground := Go.Ground.phase }, { on := 6, ground := Go.Ground.phase }, { on := 7, ground := Go.Ground.phase }, { on := 8, ground := Go.Ground.phase }], guard := none }) (v := ?v9_420502) rfl (by decide) (by kernel_rfl) (by kernel_rfl) (by kernel_rfl) (fun _ _ _ h => h) (Or.inl ⟨by rfl, ?y9_420502⟩) (fun _ => hHeld) ?r9_420502
          case y9_420502 => intro w hSw; clear hSw; go_simp; try with_reducible rfl
          try simp only [Act.put, List.setIfInBounds_toArray, List.set_cons_zero, List.set_cons_succ]
          refine wpAnyU_take0 (i := 10) (oi := { dst := some 72, op := Go.Op.fieldAddr 108 (Go.Operand.tmp 71) 0, type := 0, pos := "ref.go:115", after := #[{ on := 9, ground := Go.Ground.data }, { on := 0, ground := Go.Ground.phase }, { on := 1, ground := Go.Ground.phase }, { on := 2, ground := Go.Ground.phase }, { on := 3, ground := Go.Ground.phase }, { on := 4, ground := Go.Ground.phase }, { on := 5, ground := Go.Ground.phase }, { on := 6, ground := Go.Ground.phase }, { on := 7, ground := Go.Ground.phase }, { on := 8, ground := Go.Ground.phase }], guard := none }) (v := ?v10_420502) rfl (by decide) (by kernel_rfl) (by kernel_rfl) (by kernel_rfl) (fun _ _ _ h => h) (Or.inl ⟨by rfl, ?y10_420502⟩) (fun _ => hHeld) ?r10_420502
          case y10_420502 => intro w hSw; clear hSw; go_simp; try with_reducible rfl
          try simp only [Act.put, List.setIfInBounds_toArray, List.set_cons_zero, List.set_cons_succ]
          refine wpAnyU_ready (rs := [11]) (by kernel_rfl) (by simp) ?_
          refine AllReadyU.last (o := { dst := none, op := Go.Op.store 35 (Go.Operand.tmp 72) (Go.Operand.tmp 70), type := 0, pos := "ref.go:115", after := #[{ on := 10, ground := Go.Ground.data }, { on := 8, ground := Go.Ground.data }, { on := 8, ground := Go.Ground.chain }, { on := 0, ground := Go.Ground.phase }, { on := 1, ground := Go.Ground.phase }, { on := 2, ground := Go.Ground.phase }, { on := 3, ground := Go.Ground.phase }, { on := 4, ground := Go.Ground.phase }, { on := 5, ground := Go.Ground.phase }, { on := 6, ground := Go.Ground.phase }, { on := 7, ground := Go.Ground.phase }, { on := 8, ground := Go.Ground.phase }], guard := none }) rfl (by kernel_rfl) (fun K hK => ?_) AllReadyU.nil
          have y0 := (HC7.out.2 0 _ rfl).1
          have g0 := (HC7.out.2 0 _ rfl).2
          go_simp
          refine hK.out _ _ trivial (fun _ => ?_)
          clear hK K
          try simp only [Act.put, List.setIfInBounds_toArray, List.set_cons_zero, List.set_cons_succ]
          refine wpAnyU_done (by kernel_rfl) ?_ _
          have HC8 := Lib.hid (HC7.out.set 0 (by simp) (.slice sa7 (xl + d) sc7))
          have HT8 := Lib.hid (HT7.out.set 0 (.slice sa7 (xl + d) sc7))
          have HO8 := Lib.hid (own_keeps HO7.out HT7.out (by decide) (grown_cell w7 q 0 (.slice sa7 (xl + d) sc7)))
          have H28 := Lib.hid (own_keeps (own_other (show World.ownsRow wz.drew B 9 1 _ _ _ from H2W.out) (show World.ownsRow wz.drew B _ 1 (.slice sa xl sc) xl (bc X1) from H1W.out) (by decide) HG7.out) HT7.out (by decide) (grown_cell w7 q 0 (.slice sa7 (xl + d) sc7)))
          have H38 := Lib.hid (own_keeps (own_other (show World.ownsRow wz.drew B 3 1 _ _ _ from H3W.out) (show World.ownsRow wz.drew B _ 1 (.slice sa xl sc) xl (bc X1) from H1W.out) (by decide) HG7.out) HT7.out (by decide) (grown_cell w7 q 0 (.slice sa7 (xl + d) sc7)))
          have HB8 := Lib.hid ((HBW.out.drew.grown HG7.out HLW.out (fun k hk => (H1W.out.lt k hk).1)).setCell HQ.out (.slice sa7 (xl + d) sc7) (p := ⟨q, 0, none⟩))
          have HK8 := Lib.hid ((HKW.out.drew.trans HOW2.out (Kd.rowB (show World.ownsRow wz.drew B _ 1 (.slice sa xl sc) xl (bc X1) from H1W.out) HG7.out)).trans HOW2.out (Kd.set HT7.out 0 (.slice sa7 (xl + d) sc7)))
          skip
          have hdl : d ≤ ls := by have := HDS.out; omega
          have hls := HLSR.out.1
          go_wp2
          go_roundw
          case rel =>
            refine ⟨k + 1, ?_, ?_, (.slice (some ⟨g8, 0, none⟩) (el + 1) cap8), (E1 ++ [(t :: M, xl)]), X1 ++ Y, ⟨(.slice sa7 (xl + d) sc7), _, HC8.out, HT8.out, ?_, H28.out, H38.out, HOK2.out, ?_⟩, ?_, ?_, HB8.out, HK8.out, HOW2.out⟩
            · rcases Nat.lt_or_ge k L.length with h | h
              · exact h
              · have e := HMK.out; rw [List.drop_eq_nil_of_le h] at e; cases e
            · rw [HSUF.out]; have e := HMK.out; rw [show L.drop (k + 1) = M by rw [← List.drop_drop, e]; rfl]
            · rw [List.length_append, HXL.out, HYL.out]; exact HO8.out
            · have e2 : (X1 ++ Y).length = xl + d := by rw [List.length_append, HXL.out, HYL.out]
              rw [e2]; have := HNW.out; have := HDS.out; omega
            · rw [show L.drop (k + 1) = M by rw [← List.drop_drop, HMK.out]; rfl]; exact HEW.out
            · rw [List.length_append, HXL.out, HYL.out, HOF.out]; have := HX.out; have := HXL.out; omega
          case measure => show (s.extract d ls).size < s.size; rw [extract_size _ _ _ (by have := HLSR.out; omega)]; have := HDS.out; have := HLSR.out; omega
      · have d1 := dF (p := (xl : Int) < 16384) (by omega)
        have HLT := Lib.hid hlt
        clear hlt
        have HCW := Lib.hid HR.out.cn
        have HTW := Lib.hid HR.out.tb
        have H1W := Lib.hid HR.out.row
        have H2W := Lib.hid (show wr.ownsRow B 9 1 nv1 E1.length (nmsC E1) by rw [HELN.out]; exact HR.out.names)
        have H3W := Lib.hid (show wr.ownsRow B 3 1 av E1.length (atsC E1) by rw [HELN.out]; exact HR.out.ats)
        have HBW := HB
        have HKW := HKD
        have HLW := HLE
        have HOW2 := HOW
        have HOK2 := HOK
        have HNW := Lib.hid (show E1.length ≤ xl + 1 by have := HEL.out; have := HXL.out; omega)
        have HEW := Lib.hid (show wNm f X L = wNm (lkE E1) (X1 ++ Y) M by rw [HE1.out]; unfold putPl; rw [if_neg HLT.out])
        go_upto_region 7 with (fail)
        clear c0
        refine wp_region_store_drew (S := (fun wx => CN wx q [.slice sa xl sc, nv1, av])) (L := 11) (by kernel_rfl) (HCW.out) (fun hHeld => ?_)
        refine wpAnyU_take0 (i := 0) (oi := { dst := some 62, op := Go.Op.move (Go.Operand.tmp 0), type := 105, pos := "ref.go:115", after := #[], guard := none }) (v := ?v0_420201) rfl (by decide) (by kernel_rfl) (by kernel_rfl) (by kernel_rfl) (fun _ _ _ h => h) (Or.inl ⟨by rfl, ?y0_420201⟩) (fun _ => hHeld) ?r0_420201
        case y0_420201 => intro w hSw; clear hSw; go_simp; try with_reducible rfl
        try simp only [Act.put, List.setIfInBounds_toArray, List.set_cons_zero, List.set_cons_succ]
        refine wpAnyU_take0 (i := 1) (oi := { dst := some 63, op := Go.Op.move (Go.Operand.tmp 0), type := 105, pos := "ref.go:115", after := #[], guard := none }) (v := ?v1_420201) rfl (by decide) (by kernel_rfl) (by kernel_rfl) (by kernel_rfl) (fun _ _ _ h => h) (Or.inl ⟨by rfl, ?y1_420201⟩) (fun _ => hHeld) ?r1_420201
        case y1_420201 => intro w hSw; clear hSw; go_simp; try with_reducible rfl
        try simp only [Act.put, List.setIfInBounds_toArray, List.set_cons_zero, List.set_cons_succ]
        refine wpAnyU_take0 (i := 2) (oi := { dst := some 64, op := Go.Op.nilCheck (Go.Operand.tmp 63), type := 0, pos := "ref.go:115", after := #[{ on := 1, ground := Go.Ground.data }], guard := none }) (v := ?v2_420201) rfl (by decide) (by kernel_rfl) (by kernel_rfl) (by kernel_rfl) (fun _ _ _ h => h) (Or.inl ⟨by rfl, ?y2_420201⟩) (fun _ => hHeld) ?r2_420201
        case y2_420201 => intro w hSw; clear hSw; go_simp; try with_reducible rfl
        try simp only [Act.put, List.setIfInBounds_toArray, List.set_cons_zero, List.set_cons_succ]
        refine wpAnyU_take0 (i := 3) (oi := { dst := some 65, op := Go.Op.fieldAddr 108 (Go.Operand.tmp 64) 0, type := 0, pos := "ref.go:115", after := #[{ on := 2, ground := Go.Ground.data }], guard := none }) (v := ?v3_420201) rfl (by decide) (by kernel_rfl) (by kernel_rfl) (by kernel_rfl) (fun _ _ _ h => h) (Or.inl ⟨by rfl, ?y3_420201⟩) (fun _ => hHeld) ?r3_420201
        case y3_420201 => intro w hSw; clear hSw; go_simp; try with_reducible rfl
        try simp only [Act.put, List.setIfInBounds_toArray, List.set_cons_zero, List.set_cons_succ]
        refine wpAnyU_take0 (i := 5) (oi := { dst := some 67, op := Go.Op.move (Go.Operand.tmp 1), type := 9, pos := "ref.go:115", after := #[], guard := none }) (v := ?v5_420201) rfl (by decide) (by kernel_rfl) (by kernel_rfl) (by kernel_rfl) (fun _ _ _ h => h) (Or.inl ⟨by rfl, ?y5_420201⟩) (fun _ => hHeld) ?r5_420201
        case y5_420201 => intro w hSw; clear hSw; go_simp; try with_reducible rfl
        try simp only [Act.put, List.setIfInBounds_toArray, List.set_cons_zero, List.set_cons_succ]
        refine wpAnyU_take0 (i := 6) (oi := { dst := some 68, op := Go.Op.move (Go.Operand.tmp 5), type := 3, pos := "ref.go:115", after := #[], guard := none }) (v := ?v6_420201) rfl (by decide) (by kernel_rfl) (by kernel_rfl) (by kernel_rfl) (fun _ _ _ h => h) (Or.inl ⟨by rfl, ?y6_420201⟩) (fun _ => hHeld) ?r6_420201
        case y6_420201 => intro w hSw; clear hSw; go_simp; try with_reducible rfl
        try simp only [Act.put, List.setIfInBounds_toArray, List.set_cons_zero, List.set_cons_succ]
        refine wpAnyU_take0 (i := 7) (oi := { dst := some 69, op := Go.Op.slice 9 (Go.Operand.tmp 67) none (some (Go.Operand.tmp 68)) none, type := 9, pos := "ref.go:115", after := #[{ on := 5, ground := Go.Ground.data }, { on := 6, ground := Go.Ground.data }], guard := none }) (v := ?v7_420201) rfl (by decide) (by kernel_rfl) (by kernel_rfl) (by kernel_rfl) (fun _ _ _ h => h) (Or.inl ⟨by rfl, ?y7_420201⟩) (fun _ => hHeld) ?r7_420201
        case y7_420201 => intro w hSw; clear hSw; go_simp; try with_reducible rfl
        try simp only [Act.put, List.setIfInBounds_toArray, List.set_cons_zero, List.set_cons_succ]
        refine wpAnyU_take (i := 4) (oi := { dst := some 66, op := Go.Op.load 35 (Go.Operand.tmp 65), type := 35, pos := "ref.go:115", after := #[{ on := 3, ground := Go.Ground.data }], guard := none }) (v := ?v4_420201) rfl (by kernel_rfl) (by decide) (by kernel_rfl) (by kernel_rfl) (by kernel_rfl) (by kernel_rfl) (by kernel_rfl) (fun _ _ _ h => h) (Or.inl ⟨by rfl, ?y4_420201⟩) hHeld ?r4_420201
        case y4_420201 => intro w hSw; (try dsimp only at hSw); have y0 := (hSw.2 0 _ rfl).1; go_simp; try with_reducible rfl
        try simp only [Act.put, List.setIfInBounds_toArray, List.set_cons_zero, List.set_cons_succ]
        refine wpAnyU_ready (rs := [8]) (by kernel_rfl) (by simp) ?_
        refine AllReadyU.cons (o := { dst := some 70, op := Go.Op.call { callee := Go.Callee.builtin Go.Builtin.append, args := #[Go.Operand.tmp 66, Go.Operand.tmp 69], argTypes := #[35, 9] }, type := 35, pos := "ref.go:115", after := #[{ on := 4, ground := Go.Ground.data }, { on := 7, ground := Go.Ground.data }], guard := none }) rfl (fun K hK => ?_) AllReadyU.nil
        refine step_append_str5 (by rfl) _ _ 35 9 (by rfl) B 5 i0 Try.underlying35 Try.underlying9 HI.out HZ0.out HZ1.out HZ2.out (.slice sa xl sc) xl (bc X1) (by rfl) (show World.ownsRow wr.drew B _ 1 (.slice sa xl sc) xl (bc X1) from H1W.out) (s.extract 0 d) (by rfl) (by rw [HEX.out, bs_size, HYL.out]; have := HDS.out; have := HXS.out; unfold maxLen; omega) (by rw [HEX.out, bs_size, HYL.out]; have := HDS.out; have := HXS.out; omega) HLW.out ?_
        intro v7 w7 ho7 hg7
        rw [HEX.out, bs_size, HYL.out, strCells_bs, ← bc_append] at ho7
        obtain ⟨sa7, sc7, rfl, -⟩ := cellsK_own ho7
        have hne7 := own_ne H1W.out HTW.out (by decide)
        have HC7 := Lib.hid ((show CN wr.drew q [.slice sa xl sc, nv1, av] from HCW.out).grown hg7 (fun e => hne7 e.symm))
        have HT7 := Lib.hid ((show TB wr.drew q 108 from HTW.out).grown hg7 hne7)
        have HO7 := Lib.hid ho7
        have HG7 := Lib.hid hg7
        clear ho7 hg7 hne7
        refine hK.out _ _ (HC7.out) (fun hHeld2 => ?_)
        clear hK K hHeld
        have hHeld := hHeld2
        clear hHeld2
        try simp only [Act.put, List.setIfInBounds_toArray, List.set_cons_zero, List.set_cons_succ]
        refine wpAnyU_take0 (i := 9) (oi := { dst := some 71, op := Go.Op.nilCheck (Go.Operand.tmp 62), type := 0, pos := "ref.go:115", after := #[{ on := 0, ground := Go.Ground.data }, { on := 0, ground := Go.Ground.phase }, { on := 1, ground := Go.Ground.phase }, { on := 2, ground := Go.Ground.phase }, { on := 3, ground := Go.Ground.phase }, { on := 4, ground := Go.Ground.phase }, { on := 5, ground := Go.Ground.phase }, { on := 6, ground := Go.Ground.phase }, { on := 7, ground := Go.Ground.phase }, { on := 8, ground := Go.Ground.phase }], guard := none }) (v := ?v9_420202) rfl (by decide) (by kernel_rfl) (by kernel_rfl) (by kernel_rfl) (fun _ _ _ h => h) (Or.inl ⟨by rfl, ?y9_420202⟩) (fun _ => hHeld) ?r9_420202
        case y9_420202 => intro w hSw; clear hSw; go_simp; try with_reducible rfl
        try simp only [Act.put, List.setIfInBounds_toArray, List.set_cons_zero, List.set_cons_succ]
        refine wpAnyU_take0 (i := 10) (oi := { dst := some 72, op := Go.Op.fieldAddr 108 (Go.Operand.tmp 71) 0, type := 0, pos := "ref.go:115", after := #[{ on := 9, ground := Go.Ground.data }, { on := 0, ground := Go.Ground.phase }, { on := 1, ground := Go.Ground.phase }, { on := 2, ground := Go.Ground.phase }, { on := 3, ground := Go.Ground.phase }, { on := 4, ground := Go.Ground.phase }, { on := 5, ground := Go.Ground.phase }, { on := 6, ground := Go.Ground.phase }, { on := 7, ground := Go.Ground.phase }, { on := 8, ground := Go.Ground.phase }], guard := none }) (v := ?v10_420202) rfl (by decide) (by kernel_rfl) (by kernel_rfl) (by kernel_rfl) (fun _ _ _ h => h) (Or.inl ⟨by rfl, ?y10_420202⟩) (fun _ => hHeld) ?r10_420202
        case y10_420202 => intro w hSw; clear hSw; go_simp; try with_reducible rfl
        try simp only [Act.put, List.setIfInBounds_toArray, List.set_cons_zero, List.set_cons_succ]
        refine wpAnyU_ready (rs := [11]) (by kernel_rfl) (by simp) ?_
        refine AllReadyU.last (o := { dst := none, op := Go.Op.store 35 (Go.Operand.tmp 72) (Go.Operand.tmp 70), type := 0, pos := "ref.go:115", after := #[{ on := 10, ground := Go.Ground.data }, { on := 8, ground := Go.Ground.data }, { on := 8, ground := Go.Ground.chain }, { on := 0, ground := Go.Ground.phase }, { on := 1, ground := Go.Ground.phase }, { on := 2, ground := Go.Ground.phase }, { on := 3, ground := Go.Ground.phase }, { on := 4, ground := Go.Ground.phase }, { on := 5, ground := Go.Ground.phase }, { on := 6, ground := Go.Ground.phase }, { on := 7, ground := Go.Ground.phase }, { on := 8, ground := Go.Ground.phase }], guard := none }) rfl (by kernel_rfl) (fun K hK => ?_) AllReadyU.nil
        have y0 := (HC7.out.2 0 _ rfl).1
        have g0 := (HC7.out.2 0 _ rfl).2
        go_simp
        refine hK.out _ _ trivial (fun _ => ?_)
        clear hK K
        try simp only [Act.put, List.setIfInBounds_toArray, List.set_cons_zero, List.set_cons_succ]
        refine wpAnyU_done (by kernel_rfl) ?_ _
        have HC8 := Lib.hid (HC7.out.set 0 (by simp) (.slice sa7 (xl + d) sc7))
        have HT8 := Lib.hid (HT7.out.set 0 (.slice sa7 (xl + d) sc7))
        have HO8 := Lib.hid (own_keeps HO7.out HT7.out (by decide) (grown_cell w7 q 0 (.slice sa7 (xl + d) sc7)))
        have H28 := Lib.hid (own_keeps (own_other (show World.ownsRow wr.drew B 9 1 _ _ _ from H2W.out) (show World.ownsRow wr.drew B _ 1 (.slice sa xl sc) xl (bc X1) from H1W.out) (by decide) HG7.out) HT7.out (by decide) (grown_cell w7 q 0 (.slice sa7 (xl + d) sc7)))
        have H38 := Lib.hid (own_keeps (own_other (show World.ownsRow wr.drew B 3 1 _ _ _ from H3W.out) (show World.ownsRow wr.drew B _ 1 (.slice sa xl sc) xl (bc X1) from H1W.out) (by decide) HG7.out) HT7.out (by decide) (grown_cell w7 q 0 (.slice sa7 (xl + d) sc7)))
        have HB8 := Lib.hid ((HBW.out.drew.grown HG7.out HLW.out (fun k hk => (H1W.out.lt k hk).1)).setCell HQ.out (.slice sa7 (xl + d) sc7) (p := ⟨q, 0, none⟩))
        have HK8 := Lib.hid ((HKW.out.drew.trans HOW2.out (Kd.rowB (show World.ownsRow wr.drew B _ 1 (.slice sa xl sc) xl (bc X1) from H1W.out) HG7.out)).trans HOW2.out (Kd.set HT7.out 0 (.slice sa7 (xl + d) sc7)))
        skip
        have hdl : d ≤ ls := by have := HDS.out; omega
        have hls := HLSR.out.1
        go_wp2
        go_roundw
        case rel =>
          refine ⟨k + 1, ?_, ?_, nv1, E1, X1 ++ Y, ⟨(.slice sa7 (xl + d) sc7), _, HC8.out, HT8.out, ?_, H28.out, H38.out, HOK2.out, ?_⟩, ?_, ?_, HB8.out, HK8.out, HOW2.out⟩
          · rcases Nat.lt_or_ge k L.length with h | h
            · exact h
            · have e := HMK.out; rw [List.drop_eq_nil_of_le h] at e; cases e
          · rw [HSUF.out]; have e := HMK.out; rw [show L.drop (k + 1) = M by rw [← List.drop_drop, e]; rfl]
          · rw [List.length_append, HXL.out, HYL.out]; exact HO8.out
          · have e2 : (X1 ++ Y).length = xl + d := by rw [List.length_append, HXL.out, HYL.out]
            rw [e2]; have := HNW.out; have := HDS.out; omega
          · rw [show L.drop (k + 1) = M by rw [← List.drop_drop, HMK.out]; rfl]; exact HEW.out
          · rw [List.length_append, HXL.out, HYL.out, HOF.out]; have := HX.out; have := HXL.out; omega
        case measure => show (s.extract d ls).size < s.size; rw [extract_size _ _ _ (by have := HLSR.out; omega)]; have := HDS.out; have := HLSR.out; omega
end Go.Proofs.Ytkoafkajmfodkaa
