/- Reply: contract. -/
import Derived.Test.YtgppkpdjpcegbaaMgL
import Derived.Test.YtgppkpdjpcegbaaFtD
namespace Go.Proofs.Ytgppkpdjpcegbaa
open Go.RowKit

/-- A reply: whole, or cut off. -/
def repM (q : Ky) (id rc : Int) (rd ed tc : Bool) (A : List R5) : MsgP := ⟨id, 0, rc, true, false, tc, rd, true, [q], A, [], if ed then [putR (optW 0)] else []⟩
noncomputable def replyL (q : Ky) (id rc sz : Int) (rd ed : Bool) (A : List R5) : List UInt8 := if 0 < (encL2 (repM q id rc rd ed false A) sz).length then encL2 (repM q id rc rd ed false A) sz else encL2 (repM q id rc rd ed true []) sz
theorem failOwn {w : World} {B : Nat} {v : Value} {id op rc : Int} {rd : Bool} {Q : List Ky} {ql : Nat} (h : MsgOwn w B v (failM id op rc rd Q)) (e : Q.length = ql) : ∃ (qa : Option Addr) (qc : Nat) (na : Option Addr) (nc : Nat) (sa : Option Addr) (sc : Nat) (xa : Option Addr) (xc : Nat), v = .agg #[.int .i64 id, .int .i64 op, .int .i64 rc, .bool true, .bool false, .bool false, .bool rd, .bool true, .slice qa ql qc, .slice na 0 nc, .slice sa 0 sc, .slice xa 0 xc] ∧ w.ownsRow B 27 3 (.slice qa ql qc) ql (flatQ Q) ∧ (sa = none → sc = 0) ∧ (xa = none → xc = 0) := by
  subst e
  obtain ⟨qa, qc, na, nc, sa, sc, xa, xc, rfl, h1, -, h3, h4⟩ := h
  exact ⟨qa, qc, na, nc, sa, sc, xa, xc, rfl, h1, fun h => ((rowR_own2 h3).2 h).2, fun h => ((rowR_own2 h4).2 h).2⟩
theorem msgAt_f {w : World} {B B2 B4 ql qc nl nc sc xl xc : Nat} {qa na sa xa : Option Addr} {Q : List Ky} {A X : List R5} (id op rc : Int) (b1 b2 b3 b4 b5 : Bool) (h : w.ownsRow B 27 3 (.slice qa ql qc) ql (flatQ Q)) (e : Q.length = ql) (h2 : w.ownsRow B2 77 5 (.slice na nl nc) nl (flatR A)) (e2 : A.length = nl) (h3 : sa = none → sc = 0) (h4 : w.ownsRow B4 77 5 (.slice xa xl xc) xl (flatR X)) (e4 : X.length = xl) : MsgAt w (.agg #[.int .i64 id, .int .i64 op, .int .i64 rc, .bool b1, .bool b2, .bool b3, .bool b4, .bool b5, .slice qa ql qc, .slice na nl nc, .slice sa 0 sc, .slice xa xl xc]) ⟨id, op, rc, b1, b2, b3, b4, b5, Q, A, [], X⟩ := by
  subst e e2 e4
  exact ⟨qa, qc, na, nc, sa, sc, xa, xc, rfl, rowQ_own2 h, rowR_own2 h2, ⟨⟨rfl, rfl, Or.inl rfl⟩, fun h => ⟨rfl, h3 h⟩⟩, rowR_own2 h4⟩
def SzA (A : List R5) : Prop := A.length ≤ 30000 ∧ SzN A
theorem mok_rep {q : Ky} {id rc : Int} {rd ed tc : Bool} {A : List R5} (hq : q.n.size ≤ 1000000) (hA : SzA A) : Mok (repM q id rc rd ed tc A) := by
  refine ⟨⟨by show (1 : Nat) ≤ 100000; decide, hA.1, Nat.zero_le _, ?_⟩, fun r hr => ?_, hA.2, (fun r hr => by cases hr), ?_⟩
  · cases ed
    · exact Nat.zero_le _
    · exact (show (1 : Nat) ≤ 30000 by decide)
  · rw [List.mem_singleton.1 hr]; exact hq
  · show SzN (if ed = true then [putR (optW 0)] else [])
    cases ed
    · exact fun r hr => by cases hr
    · intro r hr
      rw [if_pos rfl, List.mem_singleton] at hr
      rw [hr, putR_ok (putE_w (Or.inl rfl))]
      exact ⟨by show (ByteArray.mk #[0]).size ≤ _; decide, by show (ByteArray.mk #[]).size ≤ _; decide⟩
theorem msgAt_g {w : World} {B B2 ql qc nl nc sc xc : Nat} {qa na sa xa : Option Addr} {Q : List Ky} {A : List R5} (id op rc : Int) (b1 b2 b3 b4 b5 : Bool) (h : w.ownsRow B 27 3 (.slice qa ql qc) ql (flatQ Q)) (e : Q.length = ql) (h2 : w.ownsRow B2 77 5 (.slice na nl nc) nl (flatR A)) (e2 : A.length = nl) (h3 : sa = none → sc = 0) (h4 : xa = none → xc = 0) : MsgAt w (.agg #[.int .i64 id, .int .i64 op, .int .i64 rc, .bool b1, .bool b2, .bool b3, .bool b4, .bool b5, .slice qa ql qc, .slice na nl nc, .slice sa 0 sc, .slice xa 0 xc]) ⟨id, op, rc, b1, b2, b3, b4, b5, Q, A, [], []⟩ := by
  subst e e2
  exact ⟨qa, qc, na, nc, sa, sc, xa, xc, rfl, rowQ_own2 h, rowR_own2 h2, ⟨⟨rfl, rfl, Or.inl rfl⟩, fun h => ⟨rfl, h3 h⟩⟩, ⟨rfl, rfl, Or.inl rfl⟩, fun h => ⟨rfl, h4 h⟩⟩
set_option maxRecDepth 100000 in
set_option maxHeartbeats 16000000 in
theorem reply_any (qn : ByteArray) (qt qk : Int) (fr : ByteArray) (id sz : Int) (rd ed tc : Bool) (rc : Int) (a : Option Addr) (len cap : Nat) (L : List SetP) (w : World) (h : SetsAt w a len L) (hlen : len ≤ 100000) (hsum : (flatP L).length ≤ 30000) (hsz : SzN (flatP L)) (hq : qn.size ≤ 1000000) : Calls Try.prog 12 #[.agg #[.string qn, .int .i64 qt, .int .i64 qk, .string fr, .int .i64 id, .int .i64 sz, .bool rd, .bool ed, .bool tc], .int .i64 rc, .slice a len cap] w fun e w' => ∃ u, e = .returned u ∧ w'.ownsRow w.heap.size 5 1 u (replyL ⟨qn, qt, qk⟩ id rc sz rd ed (flatP L)).length (bc (replyL ⟨qn, qt, qk⟩ id rc sz rd ed (flatP L))) ∧ Below w.heap.size w w' := by
  have HL := Lib.hid h
  have HSUM := Lib.hid hsum
  have HQS := Lib.hid hq
  obtain ⟨FL, hFL⟩ : ∃ x, flatP L = x := ⟨_, rfl⟩
  have HFL := Lib.hid hFL
  rw [hFL] at hsum hsz ⊢
  have HSA := Lib.hid (show SzA FL from ⟨hsum, hsz⟩)
  obtain ⟨nF, hnF⟩ : ∃ x, FL.length = x := ⟨_, rfl⟩
  have HNF := Lib.hid hnF
  obtain ⟨RL, hRL⟩ : ∃ x, replyL ⟨qn, qt, qk⟩ id rc sz rd ed FL = x := ⟨_, rfl⟩
  rw [hRL]
  have HRL := Lib.hid hRL
  obtain ⟨nR, hnR⟩ : ∃ x, RL.length = x := ⟨_, rfl⟩
  rw [hnR]
  have HNR := Lib.hid hnR
  have HB := Lib.hid (Below.refl w.heap.size w)
  clear h hsum hq hFL hsz hnF hRL hnR
  go_enter Try.func12, Try.ntmps12
  have hba := (Below.refl _ _ : Below w.heap.size w w).alloc (Nat.le_refl _) (.cells #[.string qn, .int .i64 qt, .int .i64 qk, .string fr, .int .i64 id, .int .i64 sz, .bool rd, .bool ed, .bool tc] 29)
  have HC := Lib.hid (CN.new w #[.string qn, .int .i64 qt, .int .i64 qk, .string fr, .int .i64 id, .int .i64 sz, .bool rd, .bool ed, .bool tc] 29)
  replace HL := Lib.hid (HL.out.below hba)
  replace HB := Lib.hid (HB.out.trans (hba.mono HB.out.size))
  obtain ⟨w2, hw⟩ : ∃ x, w.alloc (.cells #[.string qn, .int .i64 qt, .int .i64 qk, .string fr, .int .i64 id, .int .i64 sz, .bool rd, .bool ed, .bool tc] 29) = x := ⟨_, rfl⟩
  obtain ⟨q2, hq⟩ : ∃ x, w.heap.size = x := ⟨_, rfl⟩
  rw [hw, hq] at HC
  rw [hw] at HL HB
  have HW := Lib.hid hw
  have HQ_ := Lib.hid hq
  clear hba hw hq
  go_upto_region 1 with (fail)
  rw [HW.out, HQ_.out]
  clear HW HQ_
  obtain ⟨p0, p1, p2, p3, p4, p5, p6, p7, p8, _⟩ := HC.out.v9
  have hba := (Below.refl w2.heap.size w2).alloc (Nat.le_refl _) (.cells #[.string qn, .int .i64 qt, .int .i64 qk] 27)
  have HRQ := Lib.hid (rowQ_one w2 qn qt qk)
  replace HL := Lib.hid (HL.out.below hba)
  replace HB := Lib.hid (HB.out.trans (hba.mono HB.out.size))
  replace HC := Lib.hid (HC.out.below hba)
  obtain ⟨wq, hwq⟩ : ∃ x, w2.alloc (.cells #[.string qn, .int .i64 qt, .int .i64 qk] 27) = x := ⟨_, rfl⟩
  obtain ⟨qq, hqq⟩ : ∃ x, w2.heap.size = x := ⟨_, rfl⟩
  rw [hwq, hqq] at HRQ
  rw [hwq] at HL HB HC
  have HW := Lib.hid hwq
  have HQ_ := Lib.hid hqq
  clear hba hwq hqq
  go_wp2_with fail
  rw [HW.out, HQ_.out]
  clear HW HQ_
  refine (failure_any id 0 rc rd (some ⟨qq, 0, none⟩) 1 1 [⟨qn, qt, qk⟩] _ HRQ.out (fun h => by cases h) (by decide)).mono ?_; rintro e w3 ⟨v, rfl, ho, hb⟩
  replace HL := Lib.hid (HL.out.below hb)
  replace HB := Lib.hid (HB.out.trans (hb.mono HB.out.size))
  replace HC := Lib.hid (HC.out.below hb)
  clear hb
  clear p0 p1 p2 p3 p4 p5 p6 p7 p8
  obtain ⟨qa, qc, na, nc, sa, sc, xa, xc, rfl, h1, h3, h4⟩ := failOwn ho rfl
  have HOQ := Lib.hid (show World.ownsRow _ _ _ _ (.slice qa 1 qc) 1 _ from h1)
  have HSN := Lib.hid h3
  have HXN := Lib.hid h4
  clear ho h1 h3 h4 HRQ
  have hap : Apt (.slice qa 1 qc) w3.heap.size := fun k hk e => by have := (HOQ.out.lt k hk).2; injection e with e; omega
  have HSZ := Lib.hid HB.out.size
  have HS3 := Lib.hid (show q2 < w3.heap.size from HC.out.1)
  have hba := (Below.refl _ _ : Below w3.heap.size w3 w3).alloc (Nat.le_refl _) (.cells #[.int .i64 id, .int .i64 0, .int .i64 rc, .bool true, .bool false, .bool false, .bool rd, .bool true, .slice qa 1 qc, .slice na 0 nc, .slice sa 0 sc, .slice xa 0 xc] 37)
  have HM := Lib.hid (CN.new w3 #[.int .i64 id, .int .i64 0, .int .i64 rc, .bool true, .bool false, .bool false, .bool rd, .bool true, .slice qa 1 qc, .slice na 0 nc, .slice sa 0 sc, .slice xa 0 xc] 37)
  replace HL := Lib.hid (HL.out.below hba)
  replace HB := Lib.hid (HB.out.trans (hba.mono HB.out.size))
  replace HC := Lib.hid (HC.out.below hba)
  replace HOQ := Lib.hid (own_below' HOQ.out hba)
  obtain ⟨w4, hw⟩ : ∃ x, w3.alloc (.cells #[.int .i64 id, .int .i64 0, .int .i64 rc, .bool true, .bool false, .bool false, .bool rd, .bool true, .slice qa 1 qc, .slice na 0 nc, .slice sa 0 sc, .slice xa 0 xc] 37) = x := ⟨_, rfl⟩
  obtain ⟨q4, hq⟩ : ∃ x, w3.heap.size = x := ⟨_, rfl⟩
  rw [hw, hq] at HM
  rw [hw] at HL HB HC HOQ
  have HW := Lib.hid hw
  have HQ_ := Lib.hid hq
  have HAP := Lib.hid (show Apt (.slice qa 1 qc) q4 from by rw [← hq]; exact hap)
  have HQL := Lib.hid (show w.heap.size ≤ q4 from by rw [← hq]; exact HSZ.out)
  have HNE := Lib.hid (show q2 < q4 from by rw [← hq]; exact HS3.out)
  clear hap
  clear hba hw hq
  go_upto_region 2 with (fail)
  rw [HW.out, HQ_.out]
  clear HW HQ_
  have HQ7 := Lib.hid (show q4 < w4.heap.size from HM.out.1)
  go_wp2_with fail
  refine (flat_any a len cap L _ HL.out hlen (by have := HSUM.out; omega)).mono ?_; rintro e w5 ⟨v, rfl, ho, hb⟩
  replace HL := Lib.hid (HL.out.below hb)
  replace HB := Lib.hid (HB.out.trans (hb.mono HB.out.size))
  replace HC := Lib.hid (HC.out.below hb)
  replace HOQ := Lib.hid (own_below' HOQ.out hb)
  replace HM := Lib.hid (HM.out.below hb)
  clear hb
  rw [HFL.out, HNF.out] at ho
  obtain ⟨va, vc, rfl, -⟩ := rowR_own ho
  have HOA := Lib.hid ho
  clear ho
  clear HL
  obtain ⟨y0, y1, y2, y3, y4, y5, y6, y7, y8, y9, y10, y11, f0, f1, f2, f3, f4, f5, f6, f7, f8, f9, f10, f11⟩ := HM.out.u12
  have K1 := Lib.hid (show CN (w5.setCell ⟨q4, 9, none⟩ (.slice va nF vc)) q4 [.int .i64 id, .int .i64 0, .int .i64 rc, .bool true, .bool false, .bool false, .bool rd, .bool true, .slice qa 1 qc, .slice va nF vc, .slice sa 0 sc, .slice xa 0 xc] from (HM.out.set 9 (by simp) (.slice va nF vc)))
  have hg : w5.grownBy (w5.setCell ⟨q4, 9, none⟩ (.slice va nF vc)) (some q4) := (grown_cell w5 q4 9 (.slice va nF vc))
  replace HB := Lib.hid (HB.out.grown hg HB.out.size (fun k hk => by injection hk with hk; rw [← hk]; exact HQL.out))
  replace HC := Lib.hid (HC.out.grown hg (fun e => by have := HNE.out; injection e with e; omega))
  replace HOQ := Lib.hid (own_apart7 HOQ.out hg HAP.out)
  replace HOA := Lib.hid (own_apart7 HOA.out hg (fun k hk e => by have h1 := (HOA.out.lt k hk).1; have h2 := HQ7.out; injection e with e; omega))
  clear hg
  go_upto_region 3 with (fail)
  obtain ⟨wy6, hwy⟩ : ∃ x, (w5.setCell ⟨q4, 9, none⟩ (.slice va nF vc)) = x := ⟨_, rfl⟩
  rw [hwy] at K1 HB HC HOQ HOA ⊢
  clear hwy y0 y1 y2 y3 y4 y5 y6 y7 y8 y9 y10 y11 f0 f1 f2 f3 f4 f5 f6 f7 f8 f9 f10 f11
  replace HM := K1
  clear K1
  cases ed
  · obtain ⟨LL, hLL⟩ : ∃ x, encL2 (repM ⟨qn, qt, qk⟩ id rc rd false false FL) sz = x := ⟨_, rfl⟩
    have HLL := Lib.hid hLL
    clear hLL
    obtain ⟨y0, y1, y2, y3, y4, y5, y6, y7, y8, y9, y10, y11, f0, f1, f2, f3, f4, f5, f6, f7, f8, f9, f10, f11⟩ := HM.out.u12
    obtain ⟨p0, p1, p2, p3, p4, p5, p6, p7, p8, _⟩ := HC.out.v9
    have HSW := Lib.hid HB.out.size
    go_wp2_with fail
    refine (fencode_any _ (repM ⟨qn, qt, qk⟩ id rc rd false false FL) sz _ (msgAt_g id 0 rc true false false rd true HOQ.out rfl HOA.out HNF.out HSN.out HXN.out) (mok_rep HQS.out HSA.out)).mono ?_; rintro e w7 ⟨u, rfl, ho, hb⟩
    replace HB := Lib.hid (HB.out.trans (hb.mono HB.out.size))
    replace HC := Lib.hid (HC.out.below hb)
    replace HOQ := Lib.hid (own_below' HOQ.out hb)
    replace HM := Lib.hid (HM.out.below hb)
    replace HOA := Lib.hid (own_below' HOA.out hb)
    clear hb
    clear y0 y1 y2 y3 y4 y5 y6 y7 y8 y9 y10 y11 f0 f1 f2 f3 f4 f5 f6 f7 f8 f9 f10 f11
    clear p0 p1 p2 p3 p4 p5 p6 p7 p8
    rw [HLL.out] at ho
    obtain ⟨nL, hnL⟩ : ∃ x, LL.length = x := ⟨_, rfl⟩
    rw [hnL] at ho
    have HNL := Lib.hid hnL
    obtain ⟨ua, uc, rfl, -⟩ := cellsK_own ho
    have HU := Lib.hid (own_mono4 ho HSW.out)
    clear ho hnL
    by_cases g0 : 0 < nL
    · have e0 := dT (p := 0 < nL) g0
      have hx : RL = LL := by rw [← HRL.out, replyL, HLL.out, if_pos (by rw [HNL.out]; exact g0)]
      have HXX := Lib.hid (show nL = nR from by rw [← HNL.out, ← HNR.out, hx])
      have HXY := Lib.hid hx
      clear hx
      go_wp2
      go_ret
      exact ⟨_, rfl, by rw [HXY.out, ← HXX.out]; exact HU.out, HB.out⟩
    have e0 := dF (p := 0 < nL) g0
    have HR2 := Lib.hid (show encL2 (repM ⟨qn, qt, qk⟩ id rc rd false true []) sz = RL by rw [← HRL.out, replyL, HLL.out, if_neg (by rw [HNL.out]; exact g0)])
    clear g0
    clear HOA
    go_upto_region 8 with (fail)
    obtain ⟨y0, y1, y2, y3, y4, y5, y6, y7, y8, y9, y10, y11, f0, f1, f2, f3, f4, f5, f6, f7, f8, f9, f10, f11⟩ := HM.out.u12
    have K1 := Lib.hid (show CN ((w7.setCell ⟨q4, 5, none⟩ (.bool true)).setCell ⟨q4, 9, none⟩ (.slice none 0 0)) q4 [.int .i64 id, .int .i64 0, .int .i64 rc, .bool true, .bool false, .bool true, .bool rd, .bool true, .slice qa 1 qc, .slice none 0 0, .slice sa 0 sc, .slice xa 0 xc] from ((HM.out.set 5 (by simp) (.bool true)).set 9 (by simp) (.slice none 0 0)))
    have hg : w7.grownBy ((w7.setCell ⟨q4, 5, none⟩ (.bool true)).setCell ⟨q4, 9, none⟩ (.slice none 0 0)) (some q4) := ((grown_cell w7 q4 5 (.bool true)).trans (grown_cell _ q4 9 (.slice none 0 0)))
    replace HB := Lib.hid (HB.out.grown hg HB.out.size (fun k hk => by injection hk with hk; rw [← hk]; exact HQL.out))
    replace HC := Lib.hid (HC.out.grown hg (fun e => by have := HNE.out; injection e with e; omega))
    replace HOQ := Lib.hid (own_apart7 HOQ.out hg HAP.out)
    clear hg
    go_upto_region 9 with (fail)
    obtain ⟨wy8, hwy⟩ : ∃ x, ((w7.setCell ⟨q4, 5, none⟩ (.bool true)).setCell ⟨q4, 9, none⟩ (.slice none 0 0)) = x := ⟨_, rfl⟩
    rw [hwy] at K1 HB HC HOQ ⊢
    clear hwy y0 y1 y2 y3 y4 y5 y6 y7 y8 y9 y10 y11 f0 f1 f2 f3 f4 f5 f6 f7 f8 f9 f10 f11
    replace HM := K1
    clear K1
    obtain ⟨y0, y1, y2, y3, y4, y5, y6, y7, y8, y9, y10, y11, f0, f1, f2, f3, f4, f5, f6, f7, f8, f9, f10, f11⟩ := HM.out.u12
    obtain ⟨p0, p1, p2, p3, p4, p5, p6, p7, p8, _⟩ := HC.out.v9
    have HSW := Lib.hid HB.out.size
    go_wp2_with fail
    refine (fencode_any _ (repM ⟨qn, qt, qk⟩ id rc rd false true []) sz _ (msgAt_g id 0 rc true false true rd true HOQ.out rfl (World.ownsRow_nil _ 0 _ _) rfl HSN.out HXN.out) (mok_rep HQS.out ⟨Nat.zero_le _, fun r hr => by cases hr⟩)).mono ?_; rintro e w9 ⟨u, rfl, ho, hb⟩
    replace HB := Lib.hid (HB.out.trans (hb.mono HB.out.size))
    replace HC := Lib.hid (HC.out.below hb)
    replace HOQ := Lib.hid (own_below' HOQ.out hb)
    replace HM := Lib.hid (HM.out.below hb)
    clear hb
    clear y0 y1 y2 y3 y4 y5 y6 y7 y8 y9 y10 y11 f0 f1 f2 f3 f4 f5 f6 f7 f8 f9 f10 f11
    clear p0 p1 p2 p3 p4 p5 p6 p7 p8
    rw [HR2.out, HNR.out] at ho
    obtain ⟨ua2, uc2, rfl, -⟩ := cellsK_own ho
    have HU2 := Lib.hid (own_mono4 ho HSW.out)
    clear ho
    go_wp2
    go_ret
    exact ⟨_, rfl, HU2.out, HB.out⟩
  obtain ⟨y0, y1, y2, y3, y4, y5, y6, y7, y8, y9, y10, y11, f0, f1, f2, f3, f4, f5, f6, f7, f8, f9, f10, f11⟩ := HM.out.u12
  obtain ⟨p0, p1, p2, p3, p4, p5, p6, p7, p8, _⟩ := HC.out.v9
  have HS4 := Lib.hid (show q4 < wy6.heap.size from HM.out.1)
  go_upto_region 4 with (fail)
  go_wp2_with fail
  refine (withOpt_any _ _ 0 _ (msgAt_g id 0 rc true false false rd true HOQ.out rfl HOA.out HNF.out HSN.out HXN.out) ⟨(by show (1 : Nat) ≤ 10000; decide), HSA.out.1, Nat.zero_le _, Nat.zero_le _⟩).mono ?_; rintro e w7 ⟨⟨v, rfl, ho⟩, hb⟩
  replace HB := Lib.hid (HB.out.trans (hb.mono HB.out.size))
  replace HC := Lib.hid (HC.out.below hb)
  replace HOQ := Lib.hid (own_below' HOQ.out hb)
  replace HM := Lib.hid (HM.out.below hb)
  replace HOA := Lib.hid (own_below' HOA.out hb)
  clear hb
  clear p0 p1 p2 p3 p4 p5 p6 p7 p8
  clear y0 y1 y2 y3 y4 y5 y6 y7 y8 y9 y10 y11 f0 f1 f2 f3 f4 f5 f6 f7 f8 f9 f10 f11
  rw [withP_one _ (putE_w (Or.inl rfl)) rfl] at ho
  obtain ⟨qa2, qc2, na2, nc2, sa2, sc2, xa2, xc2, rfl, k1, k2, k3, k4⟩ := MsgOwn.open (mi := id) (mo := 0) (mr := rc) (b1 := true) (b2 := false) (b3 := false) (b4 := rd) (b5 := true) (Q := [⟨qn, qt, qk⟩]) (A := FL) (N := []) (X := [putR (optW 0)]) (ql := 1) (nl := nF) (sl := 0) (xl := 1) ho rfl HNF.out rfl rfl
  clear HOQ HOA
  replace HSN := Lib.hid (fun h => ((rowR_own2 k3).2 h).2)
  have HOQ := Lib.hid k1
  have HOA := Lib.hid k2
  have HOX := Lib.hid k4
  clear ho k1 k2 k3 k4 HXN
  obtain ⟨y0, y1, y2, y3, y4, y5, y6, y7, y8, y9, y10, y11, f0, f1, f2, f3, f4, f5, f6, f7, f8, f9, f10, f11⟩ := HM.out.u12
  have K1 := Lib.hid (show CN ((((((((((((w7.setCell ⟨q4, 0, none⟩ (.int .i64 id)).setCell ⟨q4, 1, none⟩ (.int .i64 0)).setCell ⟨q4, 2, none⟩ (.int .i64 rc)).setCell ⟨q4, 3, none⟩ (.bool true)).setCell ⟨q4, 4, none⟩ (.bool false)).setCell ⟨q4, 5, none⟩ (.bool false)).setCell ⟨q4, 6, none⟩ (.bool rd)).setCell ⟨q4, 7, none⟩ (.bool true)).setCell ⟨q4, 8, none⟩ (.slice qa2 1 qc2)).setCell ⟨q4, 9, none⟩ (.slice na2 nF nc2)).setCell ⟨q4, 10, none⟩ (.slice sa2 0 sc2)).setCell ⟨q4, 11, none⟩ (.slice xa2 1 xc2)) q4 [.int .i64 id, .int .i64 0, .int .i64 rc, .bool true, .bool false, .bool false, .bool rd, .bool true, .slice qa2 1 qc2, .slice na2 nF nc2, .slice sa2 0 sc2, .slice xa2 1 xc2] from ((((((((((((HM.out.set 0 (by simp) (.int .i64 id)).set 1 (by simp) (.int .i64 0)).set 2 (by simp) (.int .i64 rc)).set 3 (by simp) (.bool true)).set 4 (by simp) (.bool false)).set 5 (by simp) (.bool false)).set 6 (by simp) (.bool rd)).set 7 (by simp) (.bool true)).set 8 (by simp) (.slice qa2 1 qc2)).set 9 (by simp) (.slice na2 nF nc2)).set 10 (by simp) (.slice sa2 0 sc2)).set 11 (by simp) (.slice xa2 1 xc2)))
  have hg : w7.grownBy ((((((((((((w7.setCell ⟨q4, 0, none⟩ (.int .i64 id)).setCell ⟨q4, 1, none⟩ (.int .i64 0)).setCell ⟨q4, 2, none⟩ (.int .i64 rc)).setCell ⟨q4, 3, none⟩ (.bool true)).setCell ⟨q4, 4, none⟩ (.bool false)).setCell ⟨q4, 5, none⟩ (.bool false)).setCell ⟨q4, 6, none⟩ (.bool rd)).setCell ⟨q4, 7, none⟩ (.bool true)).setCell ⟨q4, 8, none⟩ (.slice qa2 1 qc2)).setCell ⟨q4, 9, none⟩ (.slice na2 nF nc2)).setCell ⟨q4, 10, none⟩ (.slice sa2 0 sc2)).setCell ⟨q4, 11, none⟩ (.slice xa2 1 xc2)) (some q4) := ((((((((((((grown_cell w7 q4 0 (.int .i64 id)).trans (grown_cell _ q4 1 (.int .i64 0))).trans (grown_cell _ q4 2 (.int .i64 rc))).trans (grown_cell _ q4 3 (.bool true))).trans (grown_cell _ q4 4 (.bool false))).trans (grown_cell _ q4 5 (.bool false))).trans (grown_cell _ q4 6 (.bool rd))).trans (grown_cell _ q4 7 (.bool true))).trans (grown_cell _ q4 8 (.slice qa2 1 qc2))).trans (grown_cell _ q4 9 (.slice na2 nF nc2))).trans (grown_cell _ q4 10 (.slice sa2 0 sc2))).trans (grown_cell _ q4 11 (.slice xa2 1 xc2)))
  replace HB := Lib.hid (HB.out.grown hg HB.out.size (fun k hk => by injection hk with hk; rw [← hk]; exact HQL.out))
  replace HC := Lib.hid (HC.out.grown hg (fun e => by have := HNE.out; injection e with e; omega))
  replace HOQ := Lib.hid (own_apart7 HOQ.out hg (fun k hk e => by have h1 := (HOQ.out.lt k hk).1; have h2 := HS4.out; injection e with e; omega))
  replace HOA := Lib.hid (own_apart7 HOA.out hg (fun k hk e => by have h1 := (HOA.out.lt k hk).1; have h2 := HS4.out; injection e with e; omega))
  replace HOX := Lib.hid (own_apart7 HOX.out hg (fun k hk e => by have h1 := (HOX.out.lt k hk).1; have h2 := HS4.out; injection e with e; omega))
  clear hg
  go_upto_region 5 with (fail)
  obtain ⟨wy8, hwy⟩ : ∃ x, ((((((((((((w7.setCell ⟨q4, 0, none⟩ (.int .i64 id)).setCell ⟨q4, 1, none⟩ (.int .i64 0)).setCell ⟨q4, 2, none⟩ (.int .i64 rc)).setCell ⟨q4, 3, none⟩ (.bool true)).setCell ⟨q4, 4, none⟩ (.bool false)).setCell ⟨q4, 5, none⟩ (.bool false)).setCell ⟨q4, 6, none⟩ (.bool rd)).setCell ⟨q4, 7, none⟩ (.bool true)).setCell ⟨q4, 8, none⟩ (.slice qa2 1 qc2)).setCell ⟨q4, 9, none⟩ (.slice na2 nF nc2)).setCell ⟨q4, 10, none⟩ (.slice sa2 0 sc2)).setCell ⟨q4, 11, none⟩ (.slice xa2 1 xc2)) = x := ⟨_, rfl⟩
  rw [hwy] at K1 HB HC HOQ HOA HOX ⊢
  clear hwy y0 y1 y2 y3 y4 y5 y6 y7 y8 y9 y10 y11 f0 f1 f2 f3 f4 f5 f6 f7 f8 f9 f10 f11
  replace HM := K1
  clear K1
  obtain ⟨LL, hLL⟩ : ∃ x, encL2 (repM ⟨qn, qt, qk⟩ id rc rd true false FL) sz = x := ⟨_, rfl⟩
  have HLL := Lib.hid hLL
  clear hLL
  obtain ⟨y0, y1, y2, y3, y4, y5, y6, y7, y8, y9, y10, y11, f0, f1, f2, f3, f4, f5, f6, f7, f8, f9, f10, f11⟩ := HM.out.u12
  obtain ⟨p0, p1, p2, p3, p4, p5, p6, p7, p8, _⟩ := HC.out.v9
  have HSW := Lib.hid HB.out.size
  go_wp2_with fail
  refine (fencode_any _ (repM ⟨qn, qt, qk⟩ id rc rd true false FL) sz _ (msgAt_f id 0 rc true false false rd true HOQ.out rfl HOA.out HNF.out HSN.out HOX.out rfl) (mok_rep HQS.out HSA.out)).mono ?_; rintro e w9 ⟨u, rfl, ho, hb⟩
  replace HB := Lib.hid (HB.out.trans (hb.mono HB.out.size))
  replace HC := Lib.hid (HC.out.below hb)
  replace HM := Lib.hid (HM.out.below hb)
  replace HOQ := Lib.hid (own_below' HOQ.out hb)
  replace HOA := Lib.hid (own_below' HOA.out hb)
  replace HOX := Lib.hid (own_below' HOX.out hb)
  clear hb
  clear y0 y1 y2 y3 y4 y5 y6 y7 y8 y9 y10 y11 f0 f1 f2 f3 f4 f5 f6 f7 f8 f9 f10 f11
  clear p0 p1 p2 p3 p4 p5 p6 p7 p8
  rw [HLL.out] at ho
  obtain ⟨nL, hnL⟩ : ∃ x, LL.length = x := ⟨_, rfl⟩
  rw [hnL] at ho
  have HNL := Lib.hid hnL
  obtain ⟨ua, uc, rfl, -⟩ := cellsK_own ho
  have HU := Lib.hid (own_mono4 ho HSW.out)
  clear ho hnL
  by_cases g0 : 0 < nL
  · have e0 := dT (p := 0 < nL) g0
    have hx : RL = LL := by rw [← HRL.out, replyL, HLL.out, if_pos (by rw [HNL.out]; exact g0)]
    have HXX := Lib.hid (show nL = nR from by rw [← HNL.out, ← HNR.out, hx])
    have HXY := Lib.hid hx
    clear hx
    go_wp2
    go_ret
    exact ⟨_, rfl, by rw [HXY.out, ← HXX.out]; exact HU.out, HB.out⟩
  have e0 := dF (p := 0 < nL) g0
  have HR2 := Lib.hid (show encL2 (repM ⟨qn, qt, qk⟩ id rc rd true true []) sz = RL by rw [← HRL.out, replyL, HLL.out, if_neg (by rw [HNL.out]; exact g0)])
  clear g0
  clear HOA
  go_upto_region 8 with (fail)
  obtain ⟨y0, y1, y2, y3, y4, y5, y6, y7, y8, y9, y10, y11, f0, f1, f2, f3, f4, f5, f6, f7, f8, f9, f10, f11⟩ := HM.out.u12
  have K1 := Lib.hid (show CN ((w9.setCell ⟨q4, 5, none⟩ (.bool true)).setCell ⟨q4, 9, none⟩ (.slice none 0 0)) q4 [.int .i64 id, .int .i64 0, .int .i64 rc, .bool true, .bool false, .bool true, .bool rd, .bool true, .slice qa2 1 qc2, .slice none 0 0, .slice sa2 0 sc2, .slice xa2 1 xc2] from ((HM.out.set 5 (by simp) (.bool true)).set 9 (by simp) (.slice none 0 0)))
  have hg : w9.grownBy ((w9.setCell ⟨q4, 5, none⟩ (.bool true)).setCell ⟨q4, 9, none⟩ (.slice none 0 0)) (some q4) := ((grown_cell w9 q4 5 (.bool true)).trans (grown_cell _ q4 9 (.slice none 0 0)))
  replace HB := Lib.hid (HB.out.grown hg HB.out.size (fun k hk => by injection hk with hk; rw [← hk]; exact HQL.out))
  replace HC := Lib.hid (HC.out.grown hg (fun e => by have := HNE.out; injection e with e; omega))
  replace HOQ := Lib.hid (own_apart7 HOQ.out hg (fun k hk e => by have h1 := (HOQ.out.lt k hk).1; have h2 := HS4.out; injection e with e; omega))
  replace HOX := Lib.hid (own_apart7 HOX.out hg (fun k hk e => by have h1 := (HOX.out.lt k hk).1; have h2 := HS4.out; injection e with e; omega))
  clear hg
  go_upto_region 9 with (fail)
  obtain ⟨wy10, hwy⟩ : ∃ x, ((w9.setCell ⟨q4, 5, none⟩ (.bool true)).setCell ⟨q4, 9, none⟩ (.slice none 0 0)) = x := ⟨_, rfl⟩
  rw [hwy] at K1 HB HC HOQ HOX ⊢
  clear hwy y0 y1 y2 y3 y4 y5 y6 y7 y8 y9 y10 y11 f0 f1 f2 f3 f4 f5 f6 f7 f8 f9 f10 f11
  replace HM := K1
  clear K1
  obtain ⟨y0, y1, y2, y3, y4, y5, y6, y7, y8, y9, y10, y11, f0, f1, f2, f3, f4, f5, f6, f7, f8, f9, f10, f11⟩ := HM.out.u12
  obtain ⟨p0, p1, p2, p3, p4, p5, p6, p7, p8, _⟩ := HC.out.v9
  have HSW := Lib.hid HB.out.size
  go_wp2_with fail
  refine (fencode_any _ (repM ⟨qn, qt, qk⟩ id rc rd true true []) sz _ (msgAt_f id 0 rc true false true rd true HOQ.out rfl (World.ownsRow_nil _ 0 _ _) rfl HSN.out HOX.out rfl) (mok_rep HQS.out ⟨Nat.zero_le _, fun r hr => by cases hr⟩)).mono ?_; rintro e w11 ⟨u, rfl, ho, hb⟩
  replace HB := Lib.hid (HB.out.trans (hb.mono HB.out.size))
  replace HC := Lib.hid (HC.out.below hb)
  replace HM := Lib.hid (HM.out.below hb)
  replace HOQ := Lib.hid (own_below' HOQ.out hb)
  replace HOX := Lib.hid (own_below' HOX.out hb)
  clear hb
  clear y0 y1 y2 y3 y4 y5 y6 y7 y8 y9 y10 y11 f0 f1 f2 f3 f4 f5 f6 f7 f8 f9 f10 f11
  clear p0 p1 p2 p3 p4 p5 p6 p7 p8
  rw [HR2.out, HNR.out] at ho
  obtain ⟨ua2, uc2, rfl, -⟩ := cellsK_own ho
  have HU2 := Lib.hid (own_mono4 ho HSW.out)
  clear ho
  go_wp2
  go_ret
  exact ⟨_, rfl, HU2.out, HB.out⟩


end Go.Proofs.Ytgppkpdjpcegbaa
