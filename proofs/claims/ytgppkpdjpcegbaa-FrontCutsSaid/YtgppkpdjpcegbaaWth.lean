/- edns.With: a message with OPTs. -/
import Derived.Test.YtgppkpdjpcegbaaMsg
import Derived.Deep.DeepCutAuto
namespace Go.Proofs.Ytgppkpdjpcegbaa
open Go.RowKit

def encO (o : OptP) : List Value := [.int .i64 o.size, .int .i64 o.ver, .int .i64 o.rc, .bool o.d, .string o.data]
def flatO (l : List OptP) : List Value := l.flatMap encO
theorem encO_len (o : OptP) : (encO o).length = 5 := rfl
/-- The OPTs of a slice. -/
def RowO (w : World) (a : Option Addr) (n : Nat) (l : List OptP) : Prop := l.length = n ∧ CellsAt w a (n * 5) (flatO l)
theorem RowO.below {w w' : World} {a : Option Addr} {n : Nat} {l : List OptP} (h : RowO w a n l) (hb : Below w.heap.size w w') : RowO w' a n l := ⟨h.1, h.2.below hb⟩
theorem RowO.at {w : World} {a : Option Addr} {n : Nat} {l : List OptP} (h : RowO w a n l) (j : Nat) (hj : j < n) : ∃ b off r, a = some ⟨b, off, none⟩ ∧ b < w.heap.size ∧ l[j]? = some r ∧ w.cell? ⟨b, off + j * 5, none⟩ = some (.int .i64 r.size) ∧ w.cell? ⟨b, off + j * 5 + 1, none⟩ = some (.int .i64 r.ver) ∧ w.cell? ⟨b, off + j * 5 + 2, none⟩ = some (.int .i64 r.rc) ∧ w.cell? ⟨b, off + j * 5 + 3, none⟩ = some (.bool r.d) ∧ w.cell? ⟨b, off + j * 5 + 4, none⟩ = some (.string r.data) := by
  obtain ⟨h1, h2, h3⟩ := h
  rcases h3 with h0 | ⟨b, off, rfl, hlt, hc⟩
  · omega
  obtain ⟨r, hr⟩ : ∃ r, l[j]? = some r := ⟨l[j]'(by omega), List.getElem?_eq_getElem (by omega)⟩
  have hg : ∀ i, i < 5 → ∀ u, (encO r)[i]? = some u → w.cell? ⟨b, off + j * 5 + i, none⟩ = some u := fun i hi u hu => by
    have h4 := hc (j * 5 + i) u (by
      rw [flatO, flatMap_get encO 5 encO_len (by omega), show (j * 5 + i) / 5 = j by omega, show (j * 5 + i) % 5 = i by omega, hr]
      exact hu)
    rw [Nat.add_assoc]; exact h4
  exact ⟨b, off, r, rfl, hlt, hr, hg 0 (by omega) _ rfl, hg 1 (by omega) _ rfl, hg 2 (by omega) _ rfl, hg 3 (by omega) _ rfl, hg 4 (by omega) _ rfl⟩
/-- The first error of OPTs. -/
def withE : List OptP → Int
  | [] => 0
  | o :: l => if putE o = 0 then withE l else putE o
theorem withE_drop {L : List OptP} {k : Nat} {o : OptP} (h : L[k]? = some o) : withE (L.drop k) = if putE o = 0 then withE (L.drop (k + 1)) else putE o := by
  have hk := (List.getElem?_eq_some_iff.1 h).1
  rw [List.drop_eq_getElem_cons hk, withE]
  have : L[k] = o := by rw [List.getElem?_eq_getElem hk] at h; exact Option.some.inj h
  rw [this]
theorem take_put_next {L : List OptP} {n k : Nat} {o : OptP} (hl : L.length = n) (h : L[k]? = some o) : ((L.take k).map putR ++ List.replicate (n - k) rr0).set k (putR o) = (L.take (k + 1)).map putR ++ List.replicate (n - (k + 1)) rr0 := by
  have hk := (List.getElem?_eq_some_iff.1 h).1
  have h1 : ((L.take k).map putR).length = k := by rw [List.length_map, List.length_take]; omega
  rw [List.set_append_right _ _ (by omega), h1, Nat.sub_self, show n - k = (n - (k + 1)) + 1 by omega, List.replicate_succ, List.set_cons_zero, List.take_add_one, h, List.map_append, List.append_assoc]
  rfl
theorem msgOwn_mk {w : World} {B : Nat} {mi mo mr : Int} {b1 b2 b3 b4 b5 : Bool} {qa na sa xa : Option Addr} {ql qc nl nc sl sc xl xc : Nat} {Q : List Ky} {A N X : List R5} (e1 : Q.length = ql) (e2 : A.length = nl) (e3 : N.length = sl) (e4 : X.length = xl) (h1 : w.ownsRow B 27 3 (.slice qa ql qc) ql (flatQ Q)) (h2 : w.ownsRow B 77 5 (.slice na nl nc) nl (flatR A)) (h3 : w.ownsRow B 77 5 (.slice sa sl sc) sl (flatR N)) (h4 : w.ownsRow B 77 5 (.slice xa xl xc) xl (flatR X)) : MsgOwn w B (.agg #[.int .i64 mi, .int .i64 mo, .int .i64 mr, .bool b1, .bool b2, .bool b3, .bool b4, .bool b5, .slice qa ql qc, .slice na nl nc, .slice sa sl sc, .slice xa xl xc]) ⟨mi, mo, mr, b1, b2, b3, b4, b5, Q, A, N, X⟩ := by
  subst e1 e2 e3 e4
  exact ⟨qa, qc, na, nc, sa, sc, xa, xc, rfl, h1, h2, h3, h4⟩
theorem MsgOwn.open {w : World} {B : Nat} {mi mo mr : Int} {b1 b2 b3 b4 b5 : Bool} {v : Value} {Q : List Ky} {A N X : List R5} {ql nl sl xl : Nat} (h : MsgOwn w B v ⟨mi, mo, mr, b1, b2, b3, b4, b5, Q, A, N, X⟩) (e1 : Q.length = ql) (e2 : A.length = nl) (e3 : N.length = sl) (e4 : X.length = xl) : ∃ (qa : Option Addr) (qc : Nat) (na : Option Addr) (nc : Nat) (sa : Option Addr) (sc : Nat) (xa : Option Addr) (xc : Nat), v = .agg #[.int .i64 mi, .int .i64 mo, .int .i64 mr, .bool b1, .bool b2, .bool b3, .bool b4, .bool b5, .slice qa ql qc, .slice na nl nc, .slice sa sl sc, .slice xa xl xc] ∧ w.ownsRow B 27 3 (.slice qa ql qc) ql (flatQ Q) ∧ w.ownsRow B 77 5 (.slice na nl nc) nl (flatR A) ∧ w.ownsRow B 77 5 (.slice sa sl sc) sl (flatR N) ∧ w.ownsRow B 77 5 (.slice xa xl xc) xl (flatR X) := by
  subst e1 e2 e3 e4
  exact h
theorem CN.row {w w' : World} {q : Nat} {cs : List Value} (h : CN w q cs) {g : Nat} (hg : w.grownBy w' (some g)) (hne : g ≠ q) : CN w' q cs := h.grown hg (fun e => hne (Option.some.inj e).symm)

set_option maxRecDepth 100000 in
set_option maxHeartbeats 16000000 in
theorem with_ex (mi mo mr : Int) (b1 b2 b3 b4 b5 : Bool) (qa na sa xa : Option Addr) (ql qc nl nc sl sc xl xc : Nat) (Q : List Ky) (A N X : List R5) (la : Option Addr) (n lc : Nat) (L : List OptP) (w : World) (hq : RowQ w qa ql Q) (hqn : qa = none → ql = 0 ∧ qc = 0) (ha : RowR w na nl A) (han : na = none → nl = 0 ∧ nc = 0) (hn : RowR w sa sl N) (hnn : sa = none → sl = 0 ∧ sc = 0) (hx : RowR w xa xl X) (hxn : xa = none → xl = 0 ∧ xc = 0) (hql : ql ≤ 10000) (hnl : nl ≤ 10000) (hsl : sl ≤ 10000) (hxl : xl ≤ 10000) (hl : RowO w la n L) (hln : n ≤ 1000) (hlz : ∀ o ∈ L, o.data.size ≤ 9223372036854775807) :
    Calls Try.prog 19 #[.agg #[.int .i64 mi, .int .i64 mo, .int .i64 mr, .bool b1, .bool b2, .bool b3, .bool b4, .bool b5, .slice qa ql qc, .slice na nl nc, .slice sa sl sc, .slice xa xl xc], .slice la n lc] w fun e w' => ((withE L = 0 ∧ ∃ v', e = .returned (.tuple #[v', .int .i64 0]) ∧ MsgOwn w' w.heap.size v' ⟨mi, mo, mr, b1, b2, b3, b4, b5, Q, A, N, keepR optB X ++ L.map putR⟩) ∨ (withE L ≠ 0 ∧ e = .returned (.tuple #[.agg #[.int .i64 0, .int .i64 0, .int .i64 0, .bool false, .bool false, .bool false, .bool false, .bool false, .slice none 0 0, .slice none 0 0, .slice none 0 0, .slice none 0 0], .int .i64 (withE L)]))) ∧ Below w.heap.size w w' := by
  obtain ⟨i0, hi, hz0, hz1, hz2⟩ := info_parts infoRR
  have hm0 : MsgAt w (.agg #[.int .i64 mi, .int .i64 mo, .int .i64 mr, .bool b1, .bool b2, .bool b3, .bool b4, .bool b5, .slice qa ql qc, .slice na nl nc, .slice sa sl sc, .slice xa xl xc]) ⟨mi, mo, mr, b1, b2, b3, b4, b5, Q, A, N, X⟩ := by
    have e1 := hq.1
    have e2 := ha.1
    have e3 := hn.1
    have e4 := hx.1
    subst e1 e2 e3 e4
    exact ⟨qa, qc, na, nc, sa, sc, xa, xc, rfl, ⟨hq, hqn⟩, ⟨ha, han⟩, ⟨hn, hnn⟩, ⟨hx, hxn⟩⟩
  have hsm : SmM ⟨mi, mo, mr, b1, b2, b3, b4, b5, Q, A, N, X⟩ := ⟨by rw [hq.1]; omega, by rw [ha.1]; omega, by rw [hn.1]; omega, by rw [hx.1]; omega⟩
  have hpl : (keepR optB X).length ≤ 10000 := by
    have h1 := List.length_filter_le (fun r => !optB r) X
    have h2 := hx.1
    rw [keepR]; omega
  have HSM := Lib.hid hsm
  have HPL := Lib.hid hpl
  have HLQ := Lib.hid (show Q.length = ql ∧ A.length = nl ∧ N.length = sl from ⟨hq.1, ha.1, hn.1⟩)
  have hb1 := (Below.refl w.heap.size w).alloc (Nat.le_refl _) (.cells #[.int .i64 mi, .int .i64 mo, .int .i64 mr, .bool b1, .bool b2, .bool b3, .bool b4, .bool b5, .slice qa ql qc, .slice na nl nc, .slice sa sl sc, .slice xa xl xc] 37)
  have hb2 := hb1.alloc (by simp) (.cells #[.int .i64 0, .int .i64 0, .int .i64 0, .bool false, .bool false, .bool false, .bool false, .bool false, .slice none 0 0, .slice none 0 0, .slice none 0 0, .slice none 0 0] 37)
  have hc1 := (CN.new w #[.int .i64 mi, .int .i64 mo, .int .i64 mr, .bool b1, .bool b2, .bool b3, .bool b4, .bool b5, .slice qa ql qc, .slice na nl nc, .slice sa sl sc, .slice xa xl xc] 37).below ((Below.refl _ (w.alloc (.cells #[.int .i64 mi, .int .i64 mo, .int .i64 mr, .bool b1, .bool b2, .bool b3, .bool b4, .bool b5, .slice qa ql qc, .slice na nl nc, .slice sa sl sc, .slice xa xl xc] 37))).alloc (Nat.le_refl _) (.cells #[.int .i64 0, .int .i64 0, .int .i64 0, .bool false, .bool false, .bool false, .bool false, .bool false, .slice none 0 0, .slice none 0 0, .slice none 0 0, .slice none 0 0] 37))
  have hc2 := CN.new (w.alloc (.cells #[.int .i64 mi, .int .i64 mo, .int .i64 mr, .bool b1, .bool b2, .bool b3, .bool b4, .bool b5, .slice qa ql qc, .slice na nl nc, .slice sa sl sc, .slice xa xl xc] 37)) #[.int .i64 0, .int .i64 0, .int .i64 0, .bool false, .bool false, .bool false, .bool false, .bool false, .slice none 0 0, .slice none 0 0, .slice none 0 0, .slice none 0 0] 37
  obtain ⟨w2, hw2⟩ : ∃ x, (w.alloc (.cells #[.int .i64 mi, .int .i64 mo, .int .i64 mr, .bool b1, .bool b2, .bool b3, .bool b4, .bool b5, .slice qa ql qc, .slice na nl nc, .slice sa sl sc, .slice xa xl xc] 37)).alloc (.cells #[.int .i64 0, .int .i64 0, .int .i64 0, .bool false, .bool false, .bool false, .bool false, .bool false, .slice none 0 0, .slice none 0 0, .slice none 0 0, .slice none 0 0] 37) = x := ⟨_, rfl⟩
  have hs2 : w2.heap.size = w.heap.size + 2 := by rw [← hw2, World.size_alloc, World.size_alloc]
  rw [World.size_alloc] at hc2
  rw [hw2] at hb2 hc1 hc2
  obtain ⟨w3, hmk, hown, hgr⟩ := run_make_full (P := Try.prog) w2 w2.heap.size 35 77 i0 _ 5 Try.underlying35 hi hz0 hz1 .i64 .i64 n (by rw [hz2]; omega) (by unfold maxLen; omega) (Nat.le_refl _)
  rw [made_rr] at hown
  have hb3 := (Below.refl _ w2).grown hgr (Nat.le_refl _) (fun k hk => by cases hk)
  obtain ⟨g, hg⟩ : ∃ g, w2.heap.size = g := ⟨_, rfl⟩
  rw [hg] at hmk hown
  have HG := Lib.hid (show g = w.heap.size + 2 by omega)
  have HW2 := Lib.hid hw2
  have HC1 := Lib.hid (hc1.below hb3)
  have HC2 := Lib.hid (hc2.below hb3)
  have HB3 := Lib.hid (hb2.trans (hb3.mono hb2.size))
  have HO := Lib.hid (show w3.ownsRow (w.heap.size + 2) 77 5 (.slice (some ⟨g, 0, none⟩) n n) n (flatR ((L.take 0).map putR ++ List.replicate (n - 0) rr0)) by
    have h9 := own_mono4 hown (show w.heap.size + 2 ≤ g by omega)
    simpa using h9)
  have HM := Lib.hid hm0
  have HL := Lib.hid hl
  have HLL := Lib.hid hl.1
  have HLZ := Lib.hid hlz
  clear hq hqn ha han hn hnn hx hxn hm0 hsm hpl hb1 hb2 hb3 hc1 hc2 hgr hown hl hlz hs2 hw2 hg hi hz0 hz1 hz2
  rw [← HW2.out] at hmk
  clear HW2
  go_enter Try.func19, Try.ntmps19
  go_wp2_with fail
  go_loopw [16] (fun i wr => ∃ k : Nat, k ≤ n ∧ i = .int .i64 k ∧ Hid (withE L = withE (L.drop k)) ∧ Hid (CN wr w.heap.size [.int .i64 mi, .int .i64 mo, .int .i64 mr, .bool b1, .bool b2, .bool b3, .bool b4, .bool b5, .slice qa ql qc, .slice na nl nc, .slice sa sl sc, .slice xa xl xc]) ∧ Hid (CN wr (w.heap.size + 1) [.int .i64 0, .int .i64 0, .int .i64 0, .bool false, .bool false, .bool false, .bool false, .bool false, .slice none 0 0, .slice none 0 0, .slice none 0 0, .slice none 0 0]) ∧ Hid (wr.ownsRow (w.heap.size + 2) 77 5 (.slice (some ⟨g, 0, none⟩) n n) n (flatR ((L.take k).map putR ++ List.replicate (n - k) rr0))) ∧ Hid (Below w.heap.size w wr)) (fun i _ => n - (intOf i).toNat)
  case atStart => exact ⟨0, Nat.zero_le _, rfl, rfl, HC1, HC2, HO, HB3⟩
  case round =>
    obtain ⟨k, hk, rfl, he, hc1, hc2, ho, hbw⟩ := hrel
    clear HC1 HC2 HO HB3 hmk
    by_cases hlt : k < n
    · obtain ⟨b, f, r, rfl, hbl, hr, c0, c1, c2, c3, c4⟩ := (HL.out.below hbw.out).at k hlt
      have HE := Lib.hid (he.out.trans (withE_drop hr))
      have HNX := Lib.hid (take_put_next HLL.out hr)
      have HRZ := Lib.hid (HLZ.out r (List.mem_of_getElem? hr))
      obtain ⟨os, ov, orc, od, odt⟩ := r
      simp only at c0 c1 c2 c3 c4
      have hba := (Below.refl wr.heap.size wr).alloc (Nat.le_refl _) (.cells #[.int .i64 os, .int .i64 ov, .int .i64 orc, .bool od, .string odt] 42)
      have HBA := Lib.hid (hbw.out.trans (hba.mono hbw.out.size))
      have HCA1 := Lib.hid (hc1.out.below hba)
      have HCA2 := Lib.hid (hc2.out.below hba)
      have HOA := Lib.hid (own_below' ho.out hba)
      clear hr hba he hc1 hc2 ho
      go_wp2_with fail
      refine (putO_any ⟨os, ov, orc, od, odt⟩ _ HRZ.out).mono ?_; rintro e w4 ⟨rfl, hb⟩
      have HB4 := Lib.hid (HBA.out.trans (hb.mono HBA.out.size))
      have HC41 := Lib.hid (HCA1.out.below hb)
      have HC42 := Lib.hid (HCA2.out.below hb)
      have HO4 := Lib.hid (own_below' HOA.out hb)
      obtain ⟨⟨⟨rn, rt, rk⟩, ru, rd⟩, hR⟩ : ∃ R, putR ⟨os, ov, orc, od, odt⟩ = R := ⟨_, rfl⟩
      obtain ⟨E, hE⟩ : ∃ E, putE ⟨os, ov, orc, od, odt⟩ = E := ⟨_, rfl⟩
      rw [hR] at HNX ⊢
      rw [hE] at HE ⊢
      have hb5 := (Below.refl w4.heap.size w4).alloc (Nat.le_refl _) (.cells #[.string rn, .int .i64 rt, .int .i64 rk, .int .i64 ru, .string rd] 77)
      have HB5 := Lib.hid (HB4.out.trans (hb5.mono HB4.out.size))
      have HC51 := Lib.hid (HC41.out.below hb5)
      have HC52 := Lib.hid (HC42.out.below hb5)
      have HO5 := Lib.hid (own_below' HO4.out hb5)
      clear hb hb5 HCA1 HCA2 HOA HBA hR hE
      by_cases hE0 : E = 0
      · subst hE0
        have HE2 := Lib.hid (show withE L = withE (L.drop (k + 1)) by rw [HE.out, if_pos rfl])
        have hgl : g < w4.heap.size := (HO4.out.lt g rfl).2
        obtain ⟨v0, v1, v2, v3, v4, y0, y1, y2, y3, y4⟩ := own_cells5 HO4.out k hlt
        have f0 := HO4.out.frozenAt (k * 5)
        have f1 := HO4.out.frozenAt (k * 5 + 1)
        have f2 := HO4.out.frozenAt (k * 5 + 2)
        have f3 := HO4.out.frozenAt (k * 5 + 3)
        have f4 := HO4.out.frozenAt (k * 5 + 4)
        have hgs := grown_set5 w4 g (k * 5) (.string rn) (.int .i64 rt) (.int .i64 rk) (.int .i64 ru) (.string rd)
        have hos := own_set_rr HO4.out k (by rw [List.length_append, List.length_map, List.length_take, List.length_replicate, HLL.out]; omega) ⟨⟨rn, rt, rk⟩, ru, rd⟩
        rw [HNX.out] at hos
        have hcs1 := HC41.out.row hgs (by have := HG.out; omega)
        have hcs2 := HC42.out.row hgs (by have := HG.out; omega)
        have hbs := HB4.out.grown hgs HB4.out.size (fun j hj => by injection hj with hj; have := HG.out; omega)
        have hba := (Below.refl _ (((((w4.setCell ⟨g, k * 5, none⟩ (.string rn)).setCell ⟨g, k * 5 + 1, none⟩ (.int .i64 rt)).setCell ⟨g, k * 5 + 2, none⟩ (.int .i64 rk)).setCell ⟨g, k * 5 + 3, none⟩ (.int .i64 ru)).setCell ⟨g, k * 5 + 4, none⟩ (.string rd))).alloc (Nat.le_refl _) (.cells #[.string rn, .int .i64 rt, .int .i64 rk, .int .i64 ru, .string rd] 77)
        have HO6 := Lib.hid (own_below' hos hba)
        have HC61 := Lib.hid (hcs1.below hba)
        have HC62 := Lib.hid (hcs2.below hba)
        have HB6 := Lib.hid (hbs.trans (hba.mono hbs.size))
        clear hgs hos hcs1 hcs2 hbs hba HC51 HC52 HB5 HO5 HNX HE
        go_wp2
        go_roundw
        case rel => exact ⟨k + 1, by omega, by go_num, HE2, HC61, HC62, HO6, HB6⟩
        case measure => simp [intOf]; omega
      · have d1 := nT hE0
        have HE2 := Lib.hid (show withE L = E by rw [HE.out, if_neg hE0])
        have HN0 := Lib.hid hE0
        clear hE0 HO5 HNX HE HO4 HC41 HC51 HC42
        go_upto_region 7 with fail
        obtain ⟨wx, hwx⟩ : ∃ x, w4.alloc (.cells #[.string rn, .int .i64 rt, .int .i64 rk, .int .i64 ru, .string rd] 77) = x := ⟨_, rfl⟩
        rw [hwx] at HC52 HB5 ⊢
        clear hwx
        have hql := HC52.out.1
        obtain ⟨y0, y1, y2, y3, y4, y5, y6, y7, y8, y9, y10, y11, g0, g1, g2, g3, g4, g5, g6, g7, g8, g9, g10, g11⟩ := HC52.out.u12
        have KZ := Lib.hid (HC52.out.s12 (.int .i64 0) (.int .i64 0) (.int .i64 0) (.bool false) (.bool false) (.bool false) (.bool false) (.bool false) (.slice none 0 0) (.slice none 0 0) (.slice none 0 0) (.slice none 0 0))
        have HBZ := Lib.hid (HB5.out.grown (grown_s12 wx (w.heap.size + 1) (.int .i64 0) (.int .i64 0) (.int .i64 0) (.bool false) (.bool false) (.bool false) (.bool false) (.bool false) (.slice none 0 0) (.slice none 0 0) (.slice none 0 0) (.slice none 0 0)) HB5.out.size (fun j hj => by injection hj with hj; omega))
        go_wp2
        obtain ⟨wz, hwz⟩ : ∃ x, ((((((((((((wx.setCell ⟨w.heap.size + 1, 0, none⟩ (.int .i64 0)).setCell ⟨w.heap.size + 1, 1, none⟩ (.int .i64 0)).setCell ⟨w.heap.size + 1, 2, none⟩ (.int .i64 0)).setCell ⟨w.heap.size + 1, 3, none⟩ (.bool false)).setCell ⟨w.heap.size + 1, 4, none⟩ (.bool false)).setCell ⟨w.heap.size + 1, 5, none⟩ (.bool false)).setCell ⟨w.heap.size + 1, 6, none⟩ (.bool false)).setCell ⟨w.heap.size + 1, 7, none⟩ (.bool false)).setCell ⟨w.heap.size + 1, 8, none⟩ (.slice none 0 0)).setCell ⟨w.heap.size + 1, 9, none⟩ (.slice none 0 0)).setCell ⟨w.heap.size + 1, 10, none⟩ (.slice none 0 0)).setCell ⟨w.heap.size + 1, 11, none⟩ (.slice none 0 0)) = x := ⟨_, rfl⟩
        rw [hwz] at KZ HBZ ⊢
        clear hwz y0 g0 y1 g1 y2 g2 y3 g3 y4 g4 y5 g5 y6 g6 y7 g7 y8 g8 y9 g9 y10 g10 y11 g11
        obtain ⟨z0, z1, z2, z3, z4, z5, z6, z7, z8, z9, z10, z11, _⟩ := KZ.out.u12
        refine bodyPost_ret (v := .tuple #[.agg #[.int .i64 0, .int .i64 0, .int .i64 0, .bool false, .bool false, .bool false, .bool false, .bool false, .slice none 0 0, .slice none 0 0, .slice none 0 0, .slice none 0 0], .int .i64 E]) (by simp [results, Try.results19, go_sem, z0, z1, z2, z3, z4, z5, z6, z7, z8, z9, z10, z11]) rfl ⟨Or.inr ⟨by rw [HE2.out]; exact HN0.out, by rw [HE2.out]⟩, HBZ.out⟩
    · have hkn : k = n := by omega
      subst hkn
      obtain ⟨pl, hpl⟩ : ∃ y, (keepR optB X).length = y := ⟨_, rfl⟩
      have HP := Lib.hid hpl
      have HPB := Lib.hid (show pl ≤ 10000 by rw [← hpl]; exact HPL.out)
      have HE2 := Lib.hid (show withE L = 0 by
        have h1 := he.out
        rw [List.drop_of_length_le (by rw [HLL.out]; exact Nat.le_refl _)] at h1
        exact h1)
      have HOL := Lib.hid (show wr.ownsRow (w.heap.size + 2) 77 5 (.slice (some ⟨g, 0, none⟩) k k) k (flatR (L.map putR)) by
        have h1 := ho.out
        rw [Nat.sub_self, List.replicate_zero, List.append_nil, List.take_of_length_le (by rw [HLL.out]; exact Nat.le_refl _)] at h1
        exact h1)
      clear hpl he ho
      have hwl := hc1.out.1
      have hwl2 := hc2.out.1
      have HMR := Lib.hid (HM.out.below hbw.out)
      obtain ⟨y0, y1, y2, y3, y4, y5, y6, y7, y8, y9, y10, y11, g0, g1, g2, g3, g4, g5, g6, g7, g8, g9, g10, g11⟩ := hc1.out.u12
      go_wp2_with fail
      refine (stripM_any _ _ _ HMR.out HSM.out).mono ?_; rintro e w5 ⟨v5, rfl, hmo, hb⟩
      obtain ⟨qa2, qc2, na2, nc2, sa2, sc2, xa2, xc2, rfl, o1, o2, o3, o4⟩ := hmo.open HLQ.out.1 HLQ.out.2.1 HLQ.out.2.2 HP.out
      clear y0 g0 y1 g1 y2 g2 y3 g3 y4 g4 y5 g5 y6 g6 y7 g7 y8 g8 y9 g9 y10 g10 y11 g11 hmo
      have HC51 := Lib.hid (hc1.out.below hb)
      have HC52 := Lib.hid (hc2.out.below hb)
      have HB5 := Lib.hid (hbw.out.trans (hb.mono hbw.out.size))
      have HOL5 := Lib.hid (own_below' HOL.out hb)
      have HS1 := Lib.hid (grown_s12 w5 w.heap.size (.int .i64 mi) (.int .i64 mo) (.int .i64 mr) (.bool b1) (.bool b2) (.bool b3) (.bool b4) (.bool b5) (.slice qa2 ql qc2) (.slice na2 nl nc2) (.slice sa2 sl sc2) (.slice xa2 pl xc2))
      have HG1 := Lib.hid (own_keep o1 HS1.out hwl)
      have HG2 := Lib.hid (own_keep o2 HS1.out hwl)
      have HG3 := Lib.hid (own_keep o3 HS1.out hwl)
      have HG4 := Lib.hid (own_keep o4 HS1.out hwl)
      have HOL6 := Lib.hid (own_keep HOL5.out HS1.out (by omega))
      have HK1 := Lib.hid (HC51.out.s12 (.int .i64 mi) (.int .i64 mo) (.int .i64 mr) (.bool b1) (.bool b2) (.bool b3) (.bool b4) (.bool b5) (.slice qa2 ql qc2) (.slice na2 nl nc2) (.slice sa2 sl sc2) (.slice xa2 pl xc2))
      have HK2 := Lib.hid (HC52.out.row HS1.out (by omega))
      have HB6 := Lib.hid (HB5.out.grown HS1.out HB5.out.size (fun j hj => by injection hj with hj; omega))
      have HWL := Lib.hid (show wr.heap.size ≤ w5.heap.size from hb.size)
      obtain ⟨y0, y1, y2, y3, y4, y5, y6, y7, y8, y9, y10, y11, g0, g1, g2, g3, g4, g5, g6, g7, g8, g9, g10, g11⟩ := HC51.out.u12
      clear o1 o2 o3 o4 hb HOL HOL5 HC52 hc1 hc2
      go_wp2_with fail
      obtain ⟨w6, hw6⟩ : ∃ x, ((((((((((((w5.setCell ⟨w.heap.size, 0, none⟩ (.int .i64 mi)).setCell ⟨w.heap.size, 1, none⟩ (.int .i64 mo)).setCell ⟨w.heap.size, 2, none⟩ (.int .i64 mr)).setCell ⟨w.heap.size, 3, none⟩ (.bool b1)).setCell ⟨w.heap.size, 4, none⟩ (.bool b2)).setCell ⟨w.heap.size, 5, none⟩ (.bool b3)).setCell ⟨w.heap.size, 6, none⟩ (.bool b4)).setCell ⟨w.heap.size, 7, none⟩ (.bool b5)).setCell ⟨w.heap.size, 8, none⟩ (.slice qa2 ql qc2)).setCell ⟨w.heap.size, 9, none⟩ (.slice na2 nl nc2)).setCell ⟨w.heap.size, 10, none⟩ (.slice sa2 sl sc2)).setCell ⟨w.heap.size, 11, none⟩ (.slice xa2 pl xc2)) = x := ⟨_, rfl⟩
      rw [hw6] at HG1 HG2 HG3 HG4 HOL6 HK1 HK2 HB6 ⊢
      have HW6 := Lib.hid (show wr.heap.size ≤ w6.heap.size by rw [← hw6]; exact Nat.le_trans HWL.out HS1.out.size)
      clear hw6 HS1 y0 g0 y1 g1 y2 g2 y3 g3 y4 g4 y5 g5 y6 g6 y7 g7 y8 g8 y9 g9 y10 g10 y11 g11 HC51
      refine (add3 w.heap.size _ _ _ _ _ _ _ _ _ _ _ xa2 (some ⟨g, 0, none⟩) pl xc2 k k (keepR optB X) (L.map putR) w6 HK1.out (rowR_own2 HG4.out).1 (rowR_own2 HG4.out).2 (rowR_own2 HOL6.out).1 (rowR_own2 HOL6.out).2 (by have := HPB.out; omega)).mono ?_; rintro e w7 ⟨v7, rfl, hk7, ho7, hg7⟩
      obtain ⟨xa3, xc3, rfl, _⟩ := rowR_own ho7
      have HK7 := Lib.hid hk7
      have HZ7 := Lib.hid (HK2.out.row hg7 (by omega))
      have HB7 := Lib.hid (HB6.out.grown hg7 HB6.out.size (fun j hj => by injection hj with hj; omega))
      have HQ7 := Lib.hid (own_keep HG1.out hg7 hwl)
      have HA7 := Lib.hid (own_keep HG2.out hg7 hwl)
      have HN7 := Lib.hid (own_keep HG3.out hg7 hwl)
      have HX7 := Lib.hid (own_mono4 ho7 HW6.out)
      have HS8 := Lib.hid (grown_s12 w7 (w.heap.size + 1) (.int .i64 mi) (.int .i64 mo) (.int .i64 mr) (.bool b1) (.bool b2) (.bool b3) (.bool b4) (.bool b5) (.slice qa2 ql qc2) (.slice na2 nl nc2) (.slice sa2 sl sc2) (.slice xa3 (pl + k) xc3))
      have HQ8 := Lib.hid (own_mono4 (own_keep HQ7.out HS8.out hwl2) (Nat.le_of_lt hwl))
      have HA8 := Lib.hid (own_mono4 (own_keep HA7.out HS8.out hwl2) (Nat.le_of_lt hwl))
      have HN8 := Lib.hid (own_mono4 (own_keep HN7.out HS8.out hwl2) (Nat.le_of_lt hwl))
      have HX8 := Lib.hid (own_mono4 (own_keep HX7.out HS8.out hwl2) (Nat.le_of_lt hwl))
      have KZ := Lib.hid (HZ7.out.s12 (.int .i64 mi) (.int .i64 mo) (.int .i64 mr) (.bool b1) (.bool b2) (.bool b3) (.bool b4) (.bool b5) (.slice qa2 ql qc2) (.slice na2 nl nc2) (.slice sa2 sl sc2) (.slice xa3 (pl + k) xc3))
      have HBZ := Lib.hid (HB7.out.grown HS8.out HB7.out.size (fun j hj => by injection hj with hj; omega))
      clear hk7 ho7 hg7 HG1 HG2 HG3 HG4 HOL6 HK1 HK2 HB6 HQ7 HA7 HN7 HX7 HB5
      have hz7 := HZ7.out.1
      obtain ⟨y0, y1, y2, y3, y4, y5, y6, y7, y8, y9, y10, y11, g0, g1, g2, g3, g4, g5, g6, g7, g8, g9, g10, g11⟩ := HK7.out.u12
      obtain ⟨x0, x1, x2, x3, x4, x5, x6, x7, x8, x9, x10, x11, u0, u1, u2, u3, u4, u5, u6, u7, u8, u9, u10, u11⟩ := HZ7.out.u12
      go_wp2
      obtain ⟨wz, hwz⟩ : ∃ x, ((((((((((((w7.setCell ⟨w.heap.size + 1, 0, none⟩ (.int .i64 mi)).setCell ⟨w.heap.size + 1, 1, none⟩ (.int .i64 mo)).setCell ⟨w.heap.size + 1, 2, none⟩ (.int .i64 mr)).setCell ⟨w.heap.size + 1, 3, none⟩ (.bool b1)).setCell ⟨w.heap.size + 1, 4, none⟩ (.bool b2)).setCell ⟨w.heap.size + 1, 5, none⟩ (.bool b3)).setCell ⟨w.heap.size + 1, 6, none⟩ (.bool b4)).setCell ⟨w.heap.size + 1, 7, none⟩ (.bool b5)).setCell ⟨w.heap.size + 1, 8, none⟩ (.slice qa2 ql qc2)).setCell ⟨w.heap.size + 1, 9, none⟩ (.slice na2 nl nc2)).setCell ⟨w.heap.size + 1, 10, none⟩ (.slice sa2 sl sc2)).setCell ⟨w.heap.size + 1, 11, none⟩ (.slice xa3 (pl + k) xc3)) = x := ⟨_, rfl⟩
      rw [hwz] at KZ HBZ HQ8 HA8 HN8 HX8 ⊢
      clear hwz HS8 HZ7 HK7 y0 g0 y1 g1 y2 g2 y3 g3 y4 g4 y5 g5 y6 g6 y7 g7 y8 g8 y9 g9 y10 g10 y11 g11 x0 u0 x1 u1 x2 u2 x3 u3 x4 u4 x5 u5 x6 u6 x7 u7 x8 u8 x9 u9 x10 u10 x11 u11
      obtain ⟨z0, z1, z2, z3, z4, z5, z6, z7, z8, z9, z10, z11, _⟩ := KZ.out.u12
      refine bodyPost_ret (v := .tuple #[.agg #[.int .i64 mi, .int .i64 mo, .int .i64 mr, .bool b1, .bool b2, .bool b3, .bool b4, .bool b5, .slice qa2 ql qc2, .slice na2 nl nc2, .slice sa2 sl sc2, .slice xa3 (pl + k) xc3], .int .i64 0]) (by simp [results, Try.results19, go_sem, z0, z1, z2, z3, z4, z5, z6, z7, z8, z9, z10, z11]) rfl ⟨Or.inl ⟨HE2.out, _, rfl, msgOwn_mk HLQ.out.1 HLQ.out.2.1 HLQ.out.2.2 (by rw [List.length_append, List.length_map, HP.out, HLL.out]) HQ8.out HA8.out HN8.out HX8.out⟩, HBZ.out⟩
end Go.Proofs.Ytgppkpdjpcegbaa
