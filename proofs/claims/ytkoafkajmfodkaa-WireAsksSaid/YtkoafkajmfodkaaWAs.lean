/- WireAsks: the walk. -/
import Derived.Test.YtkoafkajmfodkaaMgH
namespace Go.Proofs.Ytkoafkajmfodkaa
open Go.RowKit

set_option maxRecDepth 100000 in
set_option maxHeartbeats 32000000 in
theorem walkAsks5 (id : Int) (aq : Option Addr) (lq cq : Nat) (Q : List Ky) (al : Option Addr) (ll cl : Nat) (L : List R5) (w : World) (hq : RowQ w aq lq Q) (hqn : aq = none → lq = 0 ∧ cq = 0) (hqz : ∀ r ∈ Q, r.n.size ≤ 9223372036854775807) (hl : RowR w al ll L) (hln : al = none → ll = 0 ∧ cl = 0) (hll : ll ≤ 9223372036854775807) (hlz : ∀ r ∈ L, SzR r) :
    Calls Try.prog 9 #[.int .i64 id, .slice aq lq cq, .slice al ll cl] w fun e w' => e = .returned (.bool true) ∧ Below w.heap.size w w' := by
  have HQ0 := Lib.hid hq
  have HQN := Lib.hid hqn
  have HQZ := Lib.hid hqz
  have HL0 := Lib.hid hl
  have HLN := Lib.hid hln
  have HLL := Lib.hid hll
  have HLZ := Lib.hid hlz
  have HQL := Lib.hid hq.1
  have HLE := Lib.hid hl.1
  have HB := Lib.hid (Below.refl w.heap.size w)
  clear hq hqn hqz hl hln hll hlz
  by_cases g1 : 100 < lq
  · have d1 := dT (p := (100 : Int) < (lq : Int)) (by omega)
    clear g1
    go_enter Try.func9, Try.ntmps9
    go_wp2_with fail
    refine (first5 _).mono ?_; rintro e w2 ⟨rfl, hb⟩
    replace HB := Lib.hid (HB.out.trans (hb.mono HB.out.size))
    clear hb
    go_wp2_with fail
    refine (first5 _).mono ?_; rintro e w3 ⟨rfl, hb⟩
    replace HB := Lib.hid (HB.out.trans (hb.mono HB.out.size))
    clear hb
    go_wp2
    go_ret
    exact ⟨rfl, HB.out⟩
  have d1 := dF (p := (100 : Int) < (lq : Int)) (by omega)
  have HLQ := Lib.hid (show lq ≤ 100 by omega)
  clear g1
  go_enter Try.func9, Try.ntmps9
  go_wp2_with fail
  refine (first5 _).mono ?_; rintro e w2 ⟨rfl, hb⟩
  replace HB := Lib.hid (HB.out.trans (hb.mono HB.out.size))
  clear hb
  go_wp2_with fail
  refine (few4B al ll cl L _ (HL0.out.below HB.out) HLL.out HLZ.out).mono ?_; rintro e w3 ⟨he, hb⟩
  replace HB := Lib.hid (HB.out.trans (hb.mono HB.out.size))
  clear hb
  rcases he with rfl | ⟨rfl, hs1, hs2⟩
  · go_wp2_with fail
    refine (first5 _).mono ?_; rintro e w4 ⟨rfl, hb⟩
    replace HB := Lib.hid (HB.out.trans (hb.mono HB.out.size))
    clear hb
    go_wp2
    go_ret
    exact ⟨rfl, HB.out⟩
  have HS1 := Lib.hid hs1
  have HS2 := Lib.hid hs2
  clear hs1 hs2 d1
  have HB3 := Lib.hid (Below.refl w3.heap.size w3)
  go_wp2_with fail
  refine (ask_ex id aq lq cq Q _ (HQ0.out.below HB.out) HQN.out (by have := HLQ.out; omega)).mono ?_; rintro e w4 ⟨qa, qc, rfl, ho, hb⟩
  replace HB := Lib.hid (HB.out.trans (hb.mono HB.out.size))
  replace HB3 := Lib.hid (HB3.out.trans (hb.mono HB3.out.size))
  clear hb
  have HOQ := Lib.hid ho
  have HAP := Lib.hid (fun k (hk : Value.ownBlock (.slice qa lq qc) = some k) => (ho.lt k hk).2)
  clear ho
  have HAQ := Lib.hid (show Apt (.slice qa lq qc) w4.heap.size from fun k hk e => by have := HAP.out k hk; injection e with e; omega)
  have HQ5 := Lib.hid (show w.heap.size ≤ w4.heap.size ∧ w3.heap.size ≤ w4.heap.size from ⟨HB.out.size, HB3.out.size⟩)
  clear HAP
  have hba := (Below.refl _ _ : Below w4.heap.size w4 w4).alloc (Nat.le_refl _) (.cells #[.int .i64 id, .int .i64 0, .int .i64 0, .bool false, .bool false, .bool false, .bool false, .bool false, .slice qa lq qc, .slice none 0 0, .slice none 0 0, .slice none 0 0] 27)
  have HC := Lib.hid (CN.new w4 #[.int .i64 id, .int .i64 0, .int .i64 0, .bool false, .bool false, .bool false, .bool false, .bool false, .slice qa lq qc, .slice none 0 0, .slice none 0 0, .slice none 0 0] 27)
  replace HB := Lib.hid (HB.out.trans (hba.mono HB.out.size))
  replace HB3 := Lib.hid (HB3.out.trans (hba.mono HB3.out.size))
  replace HOQ := Lib.hid (own_below' HOQ.out hba)
  obtain ⟨w5, hw⟩ : ∃ x, w4.alloc (.cells #[.int .i64 id, .int .i64 0, .int .i64 0, .bool false, .bool false, .bool false, .bool false, .bool false, .slice qa lq qc, .slice none 0 0, .slice none 0 0, .slice none 0 0] 27) = x := ⟨_, rfl⟩
  obtain ⟨q5, hq⟩ : ∃ x, w4.heap.size = x := ⟨_, rfl⟩
  rw [hw, hq] at HC
  rw [hq] at HAQ HQ5
  rw [hw] at HB HB3 HOQ
  have HW := Lib.hid hw
  have HQ_ := Lib.hid hq
  clear hba hw hq
  go_upto_region 6 with (fail)
  rw [HW.out, HQ_.out]
  clear HW HQ_
  obtain ⟨y0, y1, y2, y3, y4, y5, y6, y7, y8, y9, y10, y11, _⟩ := HC.out.u12
  have eI : (id != id) = false := nF rfl
  have eQ : ((lq : Int) != (lq : Int)) = false := nF rfl
  go_wp2_with fail
  refine (all_ex id 0 0 false false false false false qa none none none lq qc 0 0 0 0 0 0 [] [] [] _ ⟨rfl, rfl, Or.inl rfl⟩ (fun _ => ⟨rfl, rfl⟩) ⟨rfl, rfl, Or.inl rfl⟩ (fun _ => ⟨rfl, rfl⟩) ⟨rfl, rfl, Or.inl rfl⟩ (fun _ => ⟨rfl, rfl⟩) (by omega)).mono ?_; rintro e w6 ⟨v, rfl, ho, hb⟩
  clear y0 y1 y2 y3 y4 y5 y6 y7 y8 y9 y10 y11
  replace HB := Lib.hid (HB.out.trans (hb.mono HB.out.size))
  replace HB3 := Lib.hid (HB3.out.trans (hb.mono HB3.out.size))
  replace HOQ := Lib.hid (own_below' HOQ.out hb)
  replace HC := Lib.hid (HC.out.below hb)
  clear hb
  obtain ⟨a6, c6, rfl, -⟩ := rowR_own ho
  clear ho
  have HMS := Lib.hid (msB_ask HC.out HOQ.out HAQ.out HQL.out)
  clear HC HOQ HAQ
  go_upto_block 0 with (fail)
  clear eI eQ
  go_cut [] (fun wx => Hid (MsB wx w3.heap.size q5 (asg (askM id Q) L ll)) ∧ Hid (Below w.heap.size w wx) ∧ Hid (Below w3.heap.size w3 wx))
  case first =>
    go_wp2_with fail
    go_loopw [8] (fun i wr => ∃ k : Nat, k ≤ ll ∧ i = .int .i64 k ∧ Hid (MsB wr w3.heap.size q5 (asg (askM id Q) L k)) ∧ Hid (Below w.heap.size w wr) ∧ Hid (Below w3.heap.size w3 wr)) (fun i _ => ll - (intOf i).toNat)
    case atStart => exact ⟨0, Nat.zero_le _, rfl, HMS, HB, HB3⟩
    case round =>
      clear HMS HB HB3
      obtain ⟨k, hk, rfl, HMS, HB, HB3⟩ := hrel
      by_cases hlt : k < ll
      rotate_left
      · have d0 := dF (p := k < ll) hlt
        have e : ll = k := by omega
        have HM2 := Lib.hid (show MsB wr w3.heap.size q5 (asg (askM id Q) L ll) from by rw [e]; exact HMS.out)
        clear hlt hk e
        go_wp2
        go_meet
        exact ⟨HM2, HB, HB3⟩
      have d0 := dT (p := k < ll) hlt
      have hkb : k ≤ 400 := by have := HS1.out; omega
      obtain ⟨b, o, r, rfl, hbl, hr, x0, x1, x2, x3, x4⟩ := HL0.out.at k hlt
      obtain ⟨⟨rn, rt, rc⟩, ru, rd⟩ := r
      have HKL := Lib.hid hlt
      have HX := Lib.hid (show b < w.heap.size ∧ w.cell? ⟨b, o + k * 5, none⟩ = some (.string rn) ∧ w.cell? ⟨b, o + k * 5 + 1, none⟩ = some (.int .i64 rt) ∧ w.cell? ⟨b, o + k * 5 + 2, none⟩ = some (.int .i64 rc) ∧ w.cell? ⟨b, o + k * 5 + 3, none⟩ = some (.int .i64 ru) ∧ w.cell? ⟨b, o + k * 5 + 4, none⟩ = some (.string rd) from ⟨hbl, x0, x1, x2, x3, x4⟩)
      have HRK := Lib.hid (show L.getD k r50 = ⟨⟨rn, rt, rc⟩, ru, rd⟩ by rw [List.getD_eq_getElem?_getD, hr]; rfl)
      clear hbl hr x0 x1 x2 x3 x4 hlt hk
      obtain ⟨r3, hr3⟩ : ∃ x, k % 3 = x := ⟨_, rfl⟩
      have HR3 := Lib.hid hr3
      have HR3L := Lib.hid (show r3 < 3 by omega)
      have hm3 : (k : Int).tmod 3 = (r3 : Int) := by rw [← hr3]; exact (Int.ofNat_tmod k 3).symm
      obtain ⟨s3, hs3⟩ : ∃ x, r3 + 1 = x := ⟨_, rfl⟩
      have HS3 := Lib.hid hs3
      have hw3 : IntKind.i64.wrap (1 + (r3 : Int)) = (s3 : Int) := by rw [IntKind.wrap_i64]; omega
      clear hs3
      have c0 : wr.cell? ⟨b, o + k * 5, none⟩ = some (.string rn) := by rw [HB.out.cell HX.out.1]; exact HX.out.2.1
      have c1 : wr.cell? ⟨b, o + k * 5 + 1, none⟩ = some (.int .i64 rt) := by rw [HB.out.cell HX.out.1]; exact HX.out.2.2.1
      have c2 : wr.cell? ⟨b, o + k * 5 + 2, none⟩ = some (.int .i64 rc) := by rw [HB.out.cell HX.out.1]; exact HX.out.2.2.2.1
      have c3 : wr.cell? ⟨b, o + k * 5 + 3, none⟩ = some (.int .i64 ru) := by rw [HB.out.cell HX.out.1]; exact HX.out.2.2.2.2.1
      have c4 : wr.cell? ⟨b, o + k * 5 + 4, none⟩ = some (.string rd) := by rw [HB.out.cell HX.out.1]; exact HX.out.2.2.2.2.2
      have hba := (Below.refl _ _ : Below wr.heap.size wr wr).alloc (Nat.le_refl _) (.cells #[.string rn, .int .i64 rt, .int .i64 rc, .int .i64 ru, .string rd] 75)
      have HRO := Lib.hid (rowR_one wr rn rt rc ru rd)
      replace HMS := Lib.hid (HMS.out.below hba)
      replace HB := Lib.hid (HB.out.trans (hba.mono HB.out.size))
      replace HB3 := Lib.hid (HB3.out.trans (hba.mono HB3.out.size))
      obtain ⟨wa, hw⟩ : ∃ x, wr.alloc (.cells #[.string rn, .int .i64 rt, .int .i64 rc, .int .i64 ru, .string rd] 75) = x := ⟨_, rfl⟩
      obtain ⟨ga, hg⟩ : ∃ x, wr.heap.size = x := ⟨_, rfl⟩
      rw [hw] at HRO HMS HB HB3
      rw [hg] at HRO
      have HW := Lib.hid hw
      have HG := Lib.hid hg
      clear hba hw hg
      go_wp2_with fail
      rw [HW.out, HG.out]
      refine (addS w3.heap.size q5 r3 s3 HR3L.out HS3.out.symm _ (some ⟨ga, 0, none⟩) 1 1 [⟨⟨rn, rt, rc⟩, ru, rd⟩] _ HMS.out HB3.out.size HRO.out (fun h => by cases h) (by obtain ⟨l1, l2, l3, -⟩ := asg_parts (askM id Q) L ⟨rfl, rfl, rfl⟩ k; omega)).mono ?_; rintro e w2a ⟨rfl, hms, hg⟩
      replace HMS := Lib.hid hms
      replace HB := Lib.hid (HB.out.grown hg HB.out.size (fun j hj => by injection hj with hj; have := HQ5.out; omega))
      replace HB3 := Lib.hid (HB3.out.grown hg HB3.out.size (fun j hj => by injection hj with hj; have := HQ5.out; omega))
      clear hms hg HW HG HRO c0 c1 c2 c3 c4 hm3 hw3
      have c0 : w2a.cell? ⟨b, o + k * 5, none⟩ = some (.string rn) := by rw [HB.out.cell HX.out.1]; exact HX.out.2.1
      have c1 : w2a.cell? ⟨b, o + k * 5 + 1, none⟩ = some (.int .i64 rt) := by rw [HB.out.cell HX.out.1]; exact HX.out.2.2.1
      have c2 : w2a.cell? ⟨b, o + k * 5 + 2, none⟩ = some (.int .i64 rc) := by rw [HB.out.cell HX.out.1]; exact HX.out.2.2.2.1
      have c3 : w2a.cell? ⟨b, o + k * 5 + 3, none⟩ = some (.int .i64 ru) := by rw [HB.out.cell HX.out.1]; exact HX.out.2.2.2.2.1
      have c4 : w2a.cell? ⟨b, o + k * 5 + 4, none⟩ = some (.string rd) := by rw [HB.out.cell HX.out.1]; exact HX.out.2.2.2.2.2
      have hba := (Below.refl _ _ : Below w2a.heap.size w2a w2a).alloc (Nat.le_refl _) (.cells #[.string rn, .int .i64 rt, .int .i64 rc, .int .i64 ru, .string rd] 75)
      have HRO := Lib.hid (rowR_one w2a rn rt rc ru rd)
      replace HMS := Lib.hid (HMS.out.below hba)
      replace HB := Lib.hid (HB.out.trans (hba.mono HB.out.size))
      replace HB3 := Lib.hid (HB3.out.trans (hba.mono HB3.out.size))
      obtain ⟨wb, hw⟩ : ∃ x, w2a.alloc (.cells #[.string rn, .int .i64 rt, .int .i64 rc, .int .i64 ru, .string rd] 75) = x := ⟨_, rfl⟩
      obtain ⟨gb, hg⟩ : ∃ x, w2a.heap.size = x := ⟨_, rfl⟩
      rw [hw] at HRO HMS HB HB3
      rw [hg] at HRO
      have HW := Lib.hid hw
      have HG := Lib.hid hg
      clear hba hw hg
      go_wp2_with fail
      rw [HW.out, HG.out]
      refine (add0 q5 0 (some ⟨gb, 0, none⟩) 1 1 _ (by decide) (by decide) (by decide)).mono ?_; rintro e wz ⟨rfl, rfl⟩
      clear HW HG HRO c0 c1 c2 c3 c4
      have c0 : wb.cell? ⟨b, o + k * 5, none⟩ = some (.string rn) := by rw [HB.out.cell HX.out.1]; exact HX.out.2.1
      have c1 : wb.cell? ⟨b, o + k * 5 + 1, none⟩ = some (.int .i64 rt) := by rw [HB.out.cell HX.out.1]; exact HX.out.2.2.1
      have c2 : wb.cell? ⟨b, o + k * 5 + 2, none⟩ = some (.int .i64 rc) := by rw [HB.out.cell HX.out.1]; exact HX.out.2.2.2.1
      have c3 : wb.cell? ⟨b, o + k * 5 + 3, none⟩ = some (.int .i64 ru) := by rw [HB.out.cell HX.out.1]; exact HX.out.2.2.2.2.1
      have c4 : wb.cell? ⟨b, o + k * 5 + 4, none⟩ = some (.string rd) := by rw [HB.out.cell HX.out.1]; exact HX.out.2.2.2.2.2
      have hba := (Below.refl _ _ : Below wb.heap.size wb wb).alloc (Nat.le_refl _) (.cells #[.string rn, .int .i64 rt, .int .i64 rc, .int .i64 ru, .string rd] 75)
      have HRO := Lib.hid (rowR_one wb rn rt rc ru rd)
      replace HMS := Lib.hid (HMS.out.below hba)
      replace HB := Lib.hid (HB.out.trans (hba.mono HB.out.size))
      replace HB3 := Lib.hid (HB3.out.trans (hba.mono HB3.out.size))
      obtain ⟨wd, hw⟩ : ∃ x, wb.alloc (.cells #[.string rn, .int .i64 rt, .int .i64 rc, .int .i64 ru, .string rd] 75) = x := ⟨_, rfl⟩
      obtain ⟨gd, hg⟩ : ∃ x, wb.heap.size = x := ⟨_, rfl⟩
      rw [hw] at HRO HMS HB HB3
      rw [hg] at HRO
      have HW := Lib.hid hw
      have HG := Lib.hid hg
      clear hba hw hg
      go_wp2_with fail
      rw [HW.out, HG.out]
      refine (add0 q5 4 (some ⟨gd, 0, none⟩) 1 1 _ (by decide) (by decide) (by decide)).mono ?_; rintro e wz ⟨rfl, rfl⟩
      clear HW HG HRO c0 c1 c2 c3 c4
      have HMN := Lib.hid (show MsB wd w3.heap.size q5 (asg (askM id Q) L (k + 1)) from by rw [asg, HR3.out, HRK.out]; exact HMS.out)
      clear hr3
      go_wp2
      go_roundw
      case rel => exact ⟨k + 1, HKL.out, by go_num, HMN, HB, HB3⟩
      case measure =>
        simp only [intOf]
        have := HKL.out
        omega
  case rest =>
    clear HMS HB HB3
    obtain ⟨HMS, HB, HB3⟩ := hcut
    obtain ⟨w8, hw8⟩ : ∃ x, wc = x := ⟨_, rfl⟩
    rw [hw8] at HMS HB HB3 ⊢
    clear hw8
    have hh := asg_head (askM id Q) L ll
    have hsum := asg_len (askM id Q) L ⟨rfl, rfl, rfl⟩
    have hall := asg_all (askM id Q) L ⟨rfl, rfl, rfl⟩
    have hsz := asg_sz (P := SmR) (askM id Q) L ⟨rfl, rfl, rfl⟩ HS2.out L.length (Nat.le_refl _)
    rw [HLE.out] at hsum hall hsz
    obtain ⟨⟨mi, mo, mr, b1, b2, b3, b4, b5, Qm, A, N, X⟩, hM⟩ : ∃ x, asg (askM id Q) L ll = x := ⟨_, rfl⟩
    rw [hM] at hh hsum hall hsz HMS
    clear hM
    obtain ⟨h1, h2, h3, h4, h5, h6, h7, h8, h9⟩ := hh
    replace h1 : id = mi := h1.symm
    replace h2 : 0 = mo := h2.symm
    replace h3 : 0 = mr := h3.symm
    replace h4 : false = b1 := h4.symm
    replace h5 : false = b2 := h5.symm
    replace h6 : false = b3 := h6.symm
    replace h7 : false = b4 := h7.symm
    replace h8 : false = b5 := h8.symm
    replace h9 : Q = Qm := h9.symm
    subst h1 h2 h3 h4 h5 h6 h7 h8 h9
    dsimp only at hsum hall hsz
    have HSUM := Lib.hid hsum
    have HALL := Lib.hid hall
    have HSZ := Lib.hid hsz
    clear hsum hall hsz
    obtain ⟨qa1, qc1, na1, nl1, nc1, sa1, sl1, sc1, xa1, xl1, xc1, hc, ⟨hl1, hl2, hl3⟩, hma, hra, hrn, hrx⟩ := HMS.out.open2 HQL.out
    have HC1 := Lib.hid hc
    have HMA1 := Lib.hid hma
    have HRA1 := Lib.hid hra
    have HRN1 := Lib.hid hrn
    have HRX1 := Lib.hid hrx
    have HLS1 := Lib.hid (show A.length = nl1 ∧ N.length = sl1 ∧ X.length = xl1 from ⟨hl1, hl2, hl3⟩)
    clear hc hl1 hl2 hl3 hma hra hrn hrx
    obtain ⟨y0, y1, y2, y3, y4, y5, y6, y7, y8, y9, y10, y11, _⟩ := HC1.out.u12
    have HSM := Lib.hid (show nl1 + sl1 + xl1 = ll by have h1 := HSUM.out; have h2 := HLS1.out; omega)
    have HQ5W := Lib.hid (show q5 < w8.heap.size from HC1.out.1)
    go_wp2_with fail
    refine (all_ex id 0 0 false false false false false qa1 na1 sa1 xa1 lq qc1 nl1 nc1 sl1 sc1 xl1 xc1 A N X _ HRA1.out.1 HRA1.out.2 HRN1.out.1 HRN1.out.2 HRX1.out.1 HRX1.out.2 (by have := HSM.out; have := HS1.out; omega)).mono ?_; rintro e w61 ⟨v9, rfl, ho, hb⟩
    clear y0 y1 y2 y3 y4 y5 y6 y7 y8 y9 y10 y11
    replace HB := Lib.hid (HB.out.trans (hb.mono HB.out.size))
    replace HB3 := Lib.hid (HB3.out.trans (hb.mono HB3.out.size))
    replace HMS := Lib.hid (HMS.out.below hb)
    clear hb
    rw [HSM.out] at ho
    obtain ⟨a9, c9, rfl, -⟩ := rowR_own ho
    have HV9 := Lib.hid ho
    clear ho HC1 HMA1 HRA1 HRN1 HRX1 HLS1 HSM
    have eL : ((ll : Int) != (ll : Int)) = false := nF rfl
    go_wp2_with fail
    refine (addS w3.heap.size q5 1 2 (by decide) rfl (⟨id, 0, 0, false, false, false, false, false, Q, A, N, X⟩ : MsgP) none 0 0 [] _ HMS.out HB3.out.size ⟨rfl, rfl, Or.inl rfl⟩ (fun _ => ⟨rfl, rfl⟩) (by have h1 := HSUM.out; have := HS1.out; show A.length + 0 ≤ 100000 ∧ N.length + 0 ≤ 100000 ∧ X.length + 0 ≤ 100000; omega)).mono ?_; rintro e w10 ⟨rfl, hms, hg⟩
    rw [sec3_nil] at hms
    replace HMS := Lib.hid hms
    replace HV9 := Lib.hid (own_apart HV9.out hg (apt_new HV9.out HQ5W.out))
    replace HB := Lib.hid (HB.out.grown hg HB.out.size (fun j hj => by injection hj with hj; have := HQ5.out; omega))
    replace HB3 := Lib.hid (HB3.out.grown hg HB3.out.size (fun j hj => by injection hj with hj; have := HQ5.out; omega))
    clear hms hg eL
    go_upto_block 2 with (fail)
    go_cut [] (fun wx => Hid (Below w10.heap.size w10 wx))
    case first =>
      go_wp2_with fail
      go_loopw [10, 11] (fun kv sv wr => ∃ s x : Nat, s ≤ 3 ∧ sv = .int .i64 s ∧ kv = .int .i64 x ∧ Hid (x = secAt ll s) ∧ Hid (Below w10.heap.size w10 wr)) (fun _ sv _ => 3 - (intOf sv).toNat)
      case atStart => exact ⟨0, 0, by omega, rfl, rfl, Lib.hid rfl, Lib.hid (Below.refl _ _)⟩
      case round =>
        obtain ⟨s, x, hs, rfl, rfl, HXS, HW⟩ := hrel
        by_cases hs3 : s < 3
        rotate_left
        · have d0 := dF (p := s < 3) hs3
          have d0i : decide ((s : Int) < 3) = false := dF (by omega)
          clear hs3 hs
          go_wp2
          go_meet
          exact HW
        have d0 := dT (p := s < 3) hs3
        have d0i : decide ((s : Int) < 3) = true := dT (by omega)
        have HS3 := Lib.hid hs3
        have hsb : s ≤ 400 := by omega
        clear hs3 hs
        go_wp2_with fail
        go_loopw [10, 12] (fun kv iv wr => ∃ j x i : Nat, iv = .int .i64 i ∧ kv = .int .i64 x ∧ i ≤ 1000 ∧ Hid (i = s + 3 * j ∧ x = secAt ll s + j ∧ (j = 0 ∨ s + 3 * (j - 1) < ll)) ∧ Hid (Below w10.heap.size w10 wr)) (fun _ iv _ => ll + 3 - (intOf iv).toNat)
        case atStart => exact ⟨0, x, s, rfl, rfl, by omega, Lib.hid ⟨rfl, by rw [HXS.out]; rfl, Or.inl rfl⟩, HW⟩
        case round =>
          clear HW
          obtain ⟨j, x2, i, rfl, rfl, hib, HJ, HW⟩ := hrel
          by_cases hi : i < ll
          rotate_left
          · have d1 := dF (p := i < ll) hi
            have HNX := Lib.hid (show x2 = secAt ll (s + 1) from by obtain ⟨h1, h2, h3⟩ := HJ.out; rw [h2]; exact sec_end HS3.out (by omega) h3)
            clear hi hib
            go_wp2
            go_roundw
            case rel => exact ⟨s + 1, x2, HS3.out, by go_num, rfl, HNX, HW⟩
            case measure =>
              simp only [intOf]
              have := HS3.out
              omega
          have d1 := dT (p := i < ll) hi
          have HIL := Lib.hid hi
          have hrec := HALL.out s j HS3.out (by have := HJ.out.1; omega)
          rw [← HJ.out.2.1, ← HJ.out.1] at hrec
          have hxl : x2 < ll := by have h1 := (List.getElem?_eq_some_iff.1 hrec).1; have h2 := HSUM.out; rw [List.length_append, List.length_append] at h1; omega
          obtain ⟨p1, o1, r1, e1, hp1, hr1, y0, y1, y2, y3, y4⟩ := ((rowR_own2 HV9.out).1.below HW.out).at x2 hxl
          obtain ⟨p2, o2, r2, e2, hp2, hr2, z0, z1, z2, z3, z4⟩ := (HL0.out.below (HB.out.trans (HW.out.mono HB.out.size))).at i hi
          subst e1 e2
          have er : r1 = r2 := by rw [hr1, List.getD_eq_getElem?_getD, hr2] at hrec; exact Option.some.inj hrec
          subst er
          obtain ⟨⟨rn, rt, rc⟩, ru, rd⟩ := r1
          replace y0 : wr.cell? ⟨p1, o1 + x2 * 5, none⟩ = some (.string rn) := y0
          replace y1 : wr.cell? ⟨p1, o1 + x2 * 5 + 1, none⟩ = some (.int .i64 rt) := y1
          replace y2 : wr.cell? ⟨p1, o1 + x2 * 5 + 2, none⟩ = some (.int .i64 rc) := y2
          replace y3 : wr.cell? ⟨p1, o1 + x2 * 5 + 3, none⟩ = some (.int .i64 ru) := y3
          replace y4 : wr.cell? ⟨p1, o1 + x2 * 5 + 4, none⟩ = some (.string rd) := y4
          replace z0 : wr.cell? ⟨p2, o2 + i * 5, none⟩ = some (.string rn) := z0
          replace z1 : wr.cell? ⟨p2, o2 + i * 5 + 1, none⟩ = some (.int .i64 rt) := z1
          replace z2 : wr.cell? ⟨p2, o2 + i * 5 + 2, none⟩ = some (.int .i64 rc) := z2
          replace z3 : wr.cell? ⟨p2, o2 + i * 5 + 3, none⟩ = some (.int .i64 ru) := z3
          replace z4 : wr.cell? ⟨p2, o2 + i * 5 + 4, none⟩ = some (.string rd) := z4
          have hke : ∀ W, (binOp .neq 75 (.agg #[.string rn, .int .i64 rt, .int .i64 rc, .int .i64 ru, .string rd]) (.agg #[.string rn, .int .i64 rt, .int .i64 rc, .int .i64 ru, .string rd])).run Try.prog W = .ok (.bool false) W := fun W => by
            rw [rr_neq, (rr_same rn rn rt rt rc rc ru ru rd rd).2 rfl]; rfl
          have i1 : (0 : Int) ≤ (i : Int) := by omega
          have i2 : (i : Int) < (ll : Int) := by omega
          have i3 : (0 : Int) ≤ (x2 : Int) := by omega
          have i4 : (x2 : Int) < (ll : Int) := by omega
          have hxb : x2 ≤ 1000 := by have := HS1.out; omega
          clear hrec hr1 hr2 hp1 hp2 hi hxl
          go_wp2_with fail
          go_quiet (fail)
          go_wp2
          rename_i nq
          have HW2 := Lib.hid (below_drewN HW.out nq)
          go_roundw
          case rel => exact ⟨j + 1, x2 + 1, i + 3, by go_num, by go_num, by have := HIL.out; have := HS1.out; omega, Lib.hid ⟨by have := HJ.out.1; omega, by have := HJ.out.2.1; omega, Or.inr (by have h1 := HJ.out.1; have h2 := HIL.out; rw [Nat.add_sub_cancel]; omega)⟩, HW2⟩
          case measure =>
            simp only [intOf]
            have := HIL.out
            omega
    case rest =>
      have hb := hcut.out
      obtain ⟨w25, hw25⟩ : ∃ x, wc = x := ⟨_, rfl⟩
      rw [hw25] at hb ⊢
      replace HB := Lib.hid (HB.out.trans (hb.mono HB.out.size))
      replace HB3 := Lib.hid (HB3.out.trans (hb.mono HB3.out.size))
      replace HMS := Lib.hid (HMS.out.below hb)
      replace HV9 := Lib.hid (own_below' HV9.out hb)
      clear hb hw25 hcut
      obtain ⟨qa2, qc2, na2, nl2, nc2, sa2, sl2, sc2, xa2, xl2, xc2, hc, ⟨hl1, hl2, hl3⟩, hma, hra, hrn, hrx⟩ := HMS.out.open2 HQL.out
      have HC2 := Lib.hid hc
      have HMA2 := Lib.hid hma
      have HRA2 := Lib.hid hra
      have HRN2 := Lib.hid hrn
      have HRX2 := Lib.hid hrx
      have HLS2 := Lib.hid (show A.length = nl2 ∧ N.length = sl2 ∧ X.length = xl2 from ⟨hl1, hl2, hl3⟩)
      clear hc hl1 hl2 hl3 hma hra hrn hrx
      have HMO := Lib.hid (show Mok2 (⟨id, 0, 0, false, false, false, false, false, Q, A, N, X⟩ : MsgP) from ⟨⟨by show Q.length ≤ 100000; have h1 := HQL.out; have h2 := HLQ.out; omega, by show A.length ≤ 30000; have h1 := HSUM.out; have h2 := HS1.out; omega, by show N.length ≤ 30000; have h1 := HSUM.out; have h2 := HS1.out; omega, by show X.length ≤ 30000; have h1 := HSUM.out; have h2 := HS1.out; omega⟩, HQZ.out, fun r hr => by have := HSZ.out.1 r hr; unfold SmR at this; omega, fun r hr => by have := HSZ.out.2.1 r hr; unfold SmR at this; omega, fun r hr => by have := HSZ.out.2.2 r hr; unfold SmR at this; omega⟩)
      obtain ⟨EE, hEE⟩ : ∃ x, encE2 (⟨id, 0, 0, false, false, false, false, false, Q, A, N, X⟩ : MsgP) 16000 = x := ⟨_, rfl⟩
      obtain ⟨LL, hLL⟩ : ∃ x, encL2 (⟨id, 0, 0, false, false, false, false, false, Q, A, N, X⟩ : MsgP) 16000 = x := ⟨_, rfl⟩
      have HEE := Lib.hid hEE
      have HLLL := Lib.hid hLL
      clear hEE hLL
      obtain ⟨y0, y1, y2, y3, y4, y5, y6, y7, y8, y9, y10, y11, _⟩ := HC2.out.u12
      go_wp2_with fail
      refine (enc_z _ (⟨id, 0, 0, false, false, false, false, false, Q, A, N, X⟩ : MsgP) 16000 _ HMA2.out HMO.out).mono ?_; rintro e w81 ⟨v26, rfl, ho, hb⟩
      clear y0 y1 y2 y3 y4 y5 y6 y7 y8 y9 y10 y11
      replace HB := Lib.hid (HB.out.trans (hb.mono HB.out.size))
      replace HB3 := Lib.hid (HB3.out.trans (hb.mono HB3.out.size))
      replace HMS := Lib.hid (HMS.out.below hb)
      replace HV9 := Lib.hid (own_below' HV9.out hb)
      replace HC2 := Lib.hid (HC2.out.below hb)
      replace HMA2 := Lib.hid (HMA2.out.below hb)
      clear hb
      rw [HLLL.out] at ho
      rw [HEE.out]
      obtain ⟨n9, hn9⟩ : ∃ x, LL.length = x := ⟨_, rfl⟩
      rw [hn9] at ho
      have HN9 := Lib.hid hn9
      obtain ⟨a26, c26, rfl, -⟩ := cellsK_own ho
      have HV26 := Lib.hid ho
      clear ho hn9
      by_cases eE : EE = 0
      rotate_left
      · have n19 := nT eE
        clear eE
        go_wp2_with fail
        refine (first5 _).mono ?_; rintro e w82 ⟨rfl, hb⟩
        replace HB := Lib.hid (HB.out.trans (hb.mono HB.out.size))
        replace HB3 := Lib.hid (HB3.out.trans (hb.mono HB3.out.size))
        replace HMS := Lib.hid (HMS.out.below hb)
        replace HV9 := Lib.hid (own_below' HV9.out hb)
        replace HC2 := Lib.hid (HC2.out.below hb)
        replace HMA2 := Lib.hid (HMA2.out.below hb)
        replace HV26 := Lib.hid (own_below' HV26.out hb)
        clear hb
        go_wp2
        go_ret
        exact ⟨rfl, HB.out⟩
      have n19 := nF eE
      obtain ⟨hm, hl, hz1, hz2⟩ := enc_ok (HEE.out.trans eE)
      have hdd := enc_dec (HEE.out.trans eE)
      have HX := Lib.hid (show encY2 (⟨id, 0, 0, false, false, false, false, false, Q, A, N, X⟩ : MsgP) = LL from hl.symm.trans HLLL.out)
      rw [HX.out] at hz1 hz2 hdd
      rw [HN9.out] at hz1 hz2
      have HZ := Lib.hid (show 12 ≤ n9 ∧ n9 ≤ 16000 from ⟨hz1, hz2⟩)
      have HDD := Lib.hid hdd
      have HMK := Lib.hid (mok2_may HMO.out hm)
      subst eE
      clear hm hl hz1 hz2 hdd
      go_wp2_with fail
      refine (decode_ok LL (⟨id, 0, 0, false, false, false, false, false, Q, A, N, X⟩ : MsgP) a26 n9 c26 _ (rowB_own HV26.out).1 (rowB_own HV26.out).2 (by have := HZ.out; omega) HDD.out).mono ?_; rintro e w82 ⟨v29, rfl, ho, -, hb⟩
      replace HB := Lib.hid (HB.out.trans (hb.mono HB.out.size))
      replace HB3 := Lib.hid (HB3.out.trans (hb.mono HB3.out.size))
      replace HMS := Lib.hid (HMS.out.below hb)
      replace HV9 := Lib.hid (own_below' HV9.out hb)
      replace HC2 := Lib.hid (HC2.out.below hb)
      replace HMA2 := Lib.hid (HMA2.out.below hb)
      replace HV26 := Lib.hid (own_below' HV26.out hb)
      clear hb
      obtain ⟨qa5, ql5, qc5, na5, nl5, nc5, sa5, sl5, sc5, xa5, xl5, xc5, rfl, hp⟩ := ho.at.parts
      have h5 : ql5 = lq := (hp.ql).symm.trans HQL.out
      have HQ55 := Lib.hid h5
      rw [h5] at hp ⊢
      have H5 := Lib.hid hp
      clear hp ho n19 h5
      have hba := (Below.refl _ _ : Below w82.heap.size w82 w82).alloc (Nat.le_refl _) (.cells #[.int .i64 id, .int .i64 0, .int .i64 0, .bool false, .bool false, .bool false, .bool false, .bool false, .slice qa5 lq qc5, .slice na5 nl5 nc5, .slice sa5 sl5 sc5, .slice xa5 xl5 xc5] 27)
      have HC5 := Lib.hid (CN.new w82 #[.int .i64 id, .int .i64 0, .int .i64 0, .bool false, .bool false, .bool false, .bool false, .bool false, .slice qa5 lq qc5, .slice na5 nl5 nc5, .slice sa5 sl5 sc5, .slice xa5 xl5 xc5] 27)
      replace HB := Lib.hid (HB.out.trans (hba.mono HB.out.size))
      replace HB3 := Lib.hid (HB3.out.trans (hba.mono HB3.out.size))
      replace HMS := Lib.hid (HMS.out.below hba)
      replace HV9 := Lib.hid (own_below' HV9.out hba)
      replace HC2 := Lib.hid (HC2.out.below hba)
      replace HMA2 := Lib.hid (HMA2.out.below hba)
      replace HV26 := Lib.hid (own_below' HV26.out hba)
      replace H5 := Lib.hid (H5.out.below hba)
      obtain ⟨w83, hw⟩ : ∃ x, w82.alloc (.cells #[.int .i64 id, .int .i64 0, .int .i64 0, .bool false, .bool false, .bool false, .bool false, .bool false, .slice qa5 lq qc5, .slice na5 nl5 nc5, .slice sa5 sl5 sc5, .slice xa5 xl5 xc5] 27) = x := ⟨_, rfl⟩
      obtain ⟨q83, hq⟩ : ∃ x, w82.heap.size = x := ⟨_, rfl⟩
      rw [hw, hq] at HC5
      rw [hw] at HB HB3 HMS HV9 HC2 HMA2 HV26 H5
      have HW := Lib.hid hw
      have HQ_ := Lib.hid hq
      clear hba hw hq
      go_upto_region 30 with (fail)
      rw [HW.out, HQ_.out]
      clear HW HQ_
      have eQ2 : ((lq : Int) == (lq : Int)) = true := beq_self_eq_true _
      go_wp2_with fail
      refine (first5 _).mono ?_; rintro e w84 ⟨rfl, hb⟩
      replace HB := Lib.hid (HB.out.trans (hb.mono HB.out.size))
      replace HB3 := Lib.hid (HB3.out.trans (hb.mono HB3.out.size))
      replace HMS := Lib.hid (HMS.out.below hb)
      replace HV9 := Lib.hid (own_below' HV9.out hb)
      replace HC2 := Lib.hid (HC2.out.below hb)
      replace HMA2 := Lib.hid (HMA2.out.below hb)
      replace HV26 := Lib.hid (own_below' HV26.out hb)
      replace H5 := Lib.hid (H5.out.below hb)
      replace HC5 := Lib.hid (HC5.out.below hb)
      clear hb
      obtain ⟨z0, z1, z2, z3, z4, z5, z6, z7, z8, z9, z10, z11, _⟩ := HC5.out.u12
      obtain ⟨y0, y1, y2, y3, y4, y5, y6, y7, y8, y9, y10, y11, _⟩ := HC2.out.u12
      go_wp2_with fail
      refine (same_y _ _ (⟨id, 0, 0, false, false, false, false, false, Q, A, N, X⟩ : MsgP) _ H5.out HMA2.out (mok_sm HMK.out)).mono ?_; rintro e w85 ⟨rfl, hb⟩
      clear z0 z1 z2 z3 z4 z5 z6 z7 z8 z9 z10 z11 y0 y1 y2 y3 y4 y5 y6 y7 y8 y9 y10 y11
      replace HB := Lib.hid (HB.out.trans (hb.mono HB.out.size))
      replace HB3 := Lib.hid (HB3.out.trans (hb.mono HB3.out.size))
      replace HMS := Lib.hid (HMS.out.below hb)
      replace HV9 := Lib.hid (own_below' HV9.out hb)
      replace HC2 := Lib.hid (HC2.out.below hb)
      replace HMA2 := Lib.hid (HMA2.out.below hb)
      replace HV26 := Lib.hid (own_below' HV26.out hb)
      replace H5 := Lib.hid (H5.out.below hb)
      replace HC5 := Lib.hid (HC5.out.below hb)
      clear hb
      obtain ⟨z0, z1, z2, z3, z4, z5, z6, z7, z8, z9, z10, z11, _⟩ := HC5.out.u12
      go_wp2
      go_ret
      exact ⟨rfl, HB.out⟩
end Go.Proofs.Ytkoafkajmfodkaa
