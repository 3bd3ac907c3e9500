/- What TablePlays asks of both tables, in one form (written by mktci.py). -/
import Derived.Test.YtocfphijheidbaaTcE
import Derived.Test.YtocfphijheidbaaMgQ
namespace Go.Proofs.Ytocfphijheidbaa
open Go.RowKit

set_option maxRecDepth 100000 in
set_option maxHeartbeats 4000000 in
theorem few20m (a : Option Addr) (n c : Nat) (L : List O20) (w : World) (h : Row20 w a n L) (hn : n ≤ 9223372036854775807) :
    Calls Try.prog 40 #[.slice a n c] w fun e w' => (e = .returned (.bool false) ∨ e = .returned (.bool true) ∧ n ≤ 100 ∧ ∀ j, j < n → (L.getD j o20D).J.length ≤ 100 ∧ SmallM (L.getD j o20D).m) ∧ Below w.heap.size w w' := by
  have HR := Lib.hid h
  clear h
  go_enter Try.func40, Try.ntmps40
  go_wp2_with fail
  go_loopw [3] (fun i wr => ∃ k : Nat, k ≤ n ∧ k ≤ 100 ∧ i = .int .i64 k ∧ Hid (∀ j, j < k → (L.getD j o20D).J.length ≤ 100 ∧ SmallM (L.getD j o20D).m) ∧ Hid (Below w.heap.size w wr)) (fun i _ => n - (intOf i).toNat)
  case atStart => exact ⟨0, Nat.zero_le _, Nat.zero_le _, rfl, Lib.hid (fun j hj => by omega), Lib.hid (Below.refl _ _)⟩
  case round =>
    obtain ⟨k, hk, hk60, rfl, HS, HB⟩ := hrel
    by_cases hlt : k < n ∧ k < 100
    · obtain ⟨l1, l2⟩ := hlt
      obtain ⟨b, off, rfl, h9⟩ := (HR.out.below HB.out).at k l1
      obtain ⟨o, ho⟩ : ∃ z, L.getD k o20D = z := ⟨_, rfl⟩
      rw [ho] at h9
      obtain ⟨ja, jc, qa, qc, na, nc, sa, sc, xa, xc, h0, h1, h2, h3⟩ := h9
      have HO := Lib.hid ho
      have HM := Lib.hid (show MsgAt wr (.agg #[.int .i64 o.m.i, .int .i64 o.m.o, .int .i64 o.m.r, .bool o.m.b1, .bool o.m.b2, .bool o.m.b3, .bool o.m.b4, .bool o.m.b5, .slice qa o.m.q.length qc, .slice na o.m.a.length nc, .slice sa o.m.n.length sc, .slice xa o.m.x.length xc]) o.m from h2)
      have HZ := Lib.hid h3
      have c5 := h0 5 _ rfl
      have c7 := h0 7 _ rfl
      have c10 := h0 10 _ rfl
      have c13 := h0 13 _ rfl
      have HRG := Lib.hid (show wr.rangeAt b (off + k * 27 + 15) (msgL o.m qa qc na nc sa sc xa xc) from fun j v hj => by
        rw [Nat.add_assoc (off + k * 27) 15 j]
        exact h0 (15 + j) v (by rw [List.getElem?_append_right (by show 15 ≤ 15 + j; omega)]; show (msgL o.m qa qc na nc sa sc xa xc)[15 + j - 15]? = _; rw [Nat.add_sub_cancel_left]; exact hj))
      clear h0 h1 h2 h3 ho
      have i1 : (0 : Int) ≤ (k : Int) := by omega
      have i2 : (k : Int) < (n : Int) := by omega
      have d1 : decide (k < n) = true := dT l1
      have d2 : decide ((k : Int) < 100) = true := dT (by omega)
      go_upto_region 4 with (fail)
      have z5 := HZ.out.tx
      have z7 := HZ.out.qn
      have z10 := HZ.out.jn
      have z13 := HZ.out.mx
      replace c5 : wr.cell? ⟨b, off + k * 27 + 5, none⟩ = some (.string o.tx) := c5
      replace c7 : wr.cell? ⟨b, off + k * 27 + 7, none⟩ = some (.string o.q.name) := c7
      replace c10 : wr.cell? ⟨b, off + k * 27 + 10, none⟩ = some (.slice ja o.J.length jc) := c10
      replace c13 : wr.cell? ⟨b, off + k * 27 + 13, none⟩ = some (.string o.k.tx) := c13
      by_cases h5 : 1000 < o.tx.size
      · have d5 : decide ((1000 : Int) < (o.tx.size : Int)) = true := dT (by omega)
        go_wp2
        go_ret
        exact ⟨Or.inl rfl, HB.out⟩
      have d5 : decide ((1000 : Int) < (o.tx.size : Int)) = false := dF (by omega)
      by_cases h7 : 1000 < o.q.name.size
      · have d7 : decide ((1000 : Int) < (o.q.name.size : Int)) = true := dT (by omega)
        go_wp2
        go_ret
        exact ⟨Or.inl rfl, HB.out⟩
      have d7 : decide ((1000 : Int) < (o.q.name.size : Int)) = false := dF (by omega)
      by_cases h10 : 100 < o.J.length
      · have d10 : decide ((100 : Int) < (o.J.length : Int)) = true := dT (by omega)
        go_wp2
        go_ret
        exact ⟨Or.inl rfl, HB.out⟩
      have d10 : decide ((100 : Int) < (o.J.length : Int)) = false := dF (by omega)
      have HJ := Lib.hid (show o.J.length ≤ 100 by omega)
      clear h5 h7 h10
      have hrg := HRG.out
      have m0 : wr.cell? ⟨b, off + k * 27 + 15, none⟩ = some (.int .i64 o.m.i) := hrg 0 _ rfl
      have m1 : wr.cell? ⟨b, off + k * 27 + 15 + 1, none⟩ = some (.int .i64 o.m.o) := hrg 1 _ rfl
      have m2 : wr.cell? ⟨b, off + k * 27 + 15 + 2, none⟩ = some (.int .i64 o.m.r) := hrg 2 _ rfl
      have m3 : wr.cell? ⟨b, off + k * 27 + 15 + 3, none⟩ = some (.bool o.m.b1) := hrg 3 _ rfl
      have m4 : wr.cell? ⟨b, off + k * 27 + 15 + 4, none⟩ = some (.bool o.m.b2) := hrg 4 _ rfl
      have m5 : wr.cell? ⟨b, off + k * 27 + 15 + 5, none⟩ = some (.bool o.m.b3) := hrg 5 _ rfl
      have m6 : wr.cell? ⟨b, off + k * 27 + 15 + 6, none⟩ = some (.bool o.m.b4) := hrg 6 _ rfl
      have m7 : wr.cell? ⟨b, off + k * 27 + 15 + 7, none⟩ = some (.bool o.m.b5) := hrg 7 _ rfl
      have m8 : wr.cell? ⟨b, off + k * 27 + 15 + 8, none⟩ = some (.slice qa o.m.q.length qc) := hrg 8 _ rfl
      have m9 : wr.cell? ⟨b, off + k * 27 + 15 + 9, none⟩ = some (.slice na o.m.a.length nc) := hrg 9 _ rfl
      have m10 : wr.cell? ⟨b, off + k * 27 + 15 + 10, none⟩ = some (.slice sa o.m.n.length sc) := hrg 10 _ rfl
      have m11 : wr.cell? ⟨b, off + k * 27 + 15 + 11, none⟩ = some (.slice xa o.m.x.length xc) := hrg 11 _ rfl
      clear hrg
      go_wp2_with fail
      clear m0 m1 m2 m3 m4 m5 m6 m7 m8 m9 m10 m11
      refine (few5_any _ o.m wr HM.out HZ.out.sz).mono ?_; rintro e w2 ⟨he, hb2⟩
      have HB2 := Lib.hid (HB.out.trans (hb2.mono HB.out.size))
      have hc13 := cell_later hb2 c13
      clear c5 c7 c10 c13 hb2 HRG HM
      have c13 := hc13
      clear hc13
      rcases he with rfl | ⟨rfl, hsm⟩
      · go_wp2
        go_ret
        exact ⟨Or.inl rfl, HB2.out⟩
      have HSM := Lib.hid hsm
      clear hsm
      by_cases h13 : 1000 < o.k.tx.size
      · have d13 : decide ((1000 : Int) < (o.k.tx.size : Int)) = true := dT (by omega)
        go_wp2
        go_ret
        exact ⟨Or.inl rfl, HB2.out⟩
      have d13 : decide ((1000 : Int) < (o.k.tx.size : Int)) = false := dF (by omega)
      go_wp2
      go_roundw
      case rel => exact ⟨k + 1, by omega, by omega, by go_num, Lib.hid (fun j hj => by
        rcases Nat.lt_succ_iff_lt_or_eq.1 hj with h | rfl
        · exact HS.out j h
        · rw [HO.out]; exact ⟨HJ.out, HSM.out⟩), HB2⟩
      case measure => simp [intOf]; omega
    · have hd : decide (k < n) = false ∨ decide (k < n) = true ∧ decide ((k : Int) < 100) = false := by
        simp only [decide_eq_true_eq, decide_eq_false_iff_not]; omega
      by_cases h6 : n ≤ 100
      · have e6 : decide ((n : Int) ≤ 100) = true := dT (by omega)
        have HF := Lib.hid (show ∀ j, j < n → (L.getD j o20D).J.length ≤ 100 ∧ SmallM (L.getD j o20D).m from fun j hj => HS.out j (by omega))
        rcases hd with d1 | ⟨d1, d2⟩
        all_goals
          go_wp2
          go_ret
          exact ⟨Or.inr ⟨rfl, h6, HF.out⟩, HB.out⟩
      · have e6 : decide ((n : Int) ≤ 100) = false := dF (by omega)
        rcases hd with d1 | ⟨d1, d2⟩
        all_goals
          go_wp2
          go_ret
          exact ⟨Or.inl rfl, HB.out⟩
def wt0 : WtP := ⟨⟨0, 0, ⟨#[]⟩, false⟩, ⟨⟨#[]⟩, 0, 0⟩, 0, 0⟩
/-- What Open answers, and what it leaves. -/
def openF (s : TbP) (now job : Int) (tx : ByteArray) (tcp : Bool) (q : QsP) : WtP × Int × TbP :=
  if s.most ≤ (s.ws.length : Int) then (wt0, 8, s) else if now < 0 ∨ 1099511627776 < now then (wt0, 1, s) else (openW s now job tx tcp q, 0, openP s now job tx tcp q)
theorem openC_any (bs : List Nat) (q : Nat) (s : TbP) (now job : Int) (tx : ByteArray) (tcp : Bool) (nm : ByteArray) (ty cl : Int) (w : World) (h : TbS w bs q s) (hn : s.ws.length ≤ 5000) :
    Calls Try.prog 43 #[.pointer (some ⟨q, 0, none⟩), .int .i64 now, .int .i64 job, .string tx, .bool tcp, .agg #[.string nm, .int .i64 ty, .int .i64 cl]] w fun e w' => e = .returned (.tuple #[.agg (encW (openF s now job tx tcp ⟨nm, ty, cl⟩).1).toArray, .int .i64 (openF s now job tx tcp ⟨nm, ty, cl⟩).2.1]) ∧ (∃ cs, TbS w' cs q (openF s now job tx tcp ⟨nm, ty, cl⟩).2.2 ∧ ∀ g ∈ cs, g ∈ bs ∨ w.heap.size ≤ g) ∧ Frm w w' bs := by
  unfold openF
  by_cases h1 : s.most ≤ (s.ws.length : Int)
  · rw [if_pos h1]
    refine (open_no bs q s now job tx tcp nm ty cl 8 w h hn (Or.inl ⟨h1, rfl⟩)).mono ?_
    rintro e w' ⟨rfl, h2, h3⟩
    exact ⟨rfl, ⟨bs, h2, fun g hg => Or.inl hg⟩, h3⟩
  · rw [if_neg h1]
    by_cases h2 : now < 0 ∨ 1099511627776 < now
    · rw [if_pos h2]
      refine (open_no bs q s now job tx tcp nm ty cl 1 w h hn (Or.inr ⟨by omega, h2, rfl⟩)).mono ?_
      rintro e w' ⟨rfl, h2, h3⟩
      exact ⟨rfl, ⟨bs, h2, fun g hg => Or.inl hg⟩, h3⟩
    · rw [if_neg h2]
      exact open_yes bs q s now job tx tcp nm ty cl w h hn (by omega) (by omega)
theorem openD_any (bs : List Nat) (q : Nat) (s : TbP) (now job : Int) (tx : ByteArray) (tcp : Bool) (nm : ByteArray) (ty cl : Int) (w : World) (h : RTs w bs q s) (hx : 0 ≤ s.x ∧ s.x < 4294967296) (hn : s.ws.length ≤ 5000) :
    Calls Try.prog 44 #[.pointer (some ⟨q, 0, none⟩), .int .i64 now, .int .i64 job, .string tx, .bool tcp, .agg #[.string nm, .int .i64 ty, .int .i64 cl]] w fun e w' => e = .returned (.tuple #[.agg (encW (openF s now job tx tcp ⟨nm, ty, cl⟩).1).toArray, .int .i64 (openF s now job tx tcp ⟨nm, ty, cl⟩).2.1]) ∧ (∃ cs, RTs w' cs q (openF s now job tx tcp ⟨nm, ty, cl⟩).2.2 ∧ ∀ g ∈ cs, g ∈ bs ∨ w.heap.size ≤ g) ∧ Frm w w' bs := by
  unfold openF
  by_cases h1 : s.most ≤ (s.ws.length : Int)
  · rw [if_pos h1]
    refine (openR_no bs q s now job tx tcp nm ty cl 8 w h hn (Or.inl ⟨h1, rfl⟩)).mono ?_
    rintro e w' ⟨rfl, h2, h3⟩
    exact ⟨rfl, ⟨bs, h2, fun g hg => Or.inl hg⟩, h3⟩
  · rw [if_neg h1]
    by_cases h2 : now < 0 ∨ 1099511627776 < now
    · rw [if_pos h2]
      refine (openR_no bs q s now job tx tcp nm ty cl 1 w h hn (Or.inr ⟨by omega, h2, rfl⟩)).mono ?_
      rintro e w' ⟨rfl, h2, h3⟩
      exact ⟨rfl, ⟨bs, h2, fun g hg => Or.inl hg⟩, h3⟩
    · rw [if_neg h2]
      exact openR_yes bs q s now job tx tcp nm ty cl w h hx hn (by omega) (by omega)
/-- What Match answers, and what it leaves. -/
def MX (s : TbP) (k : MkP) (id op : Int) (qr : Bool) (Q : List QsP) (r : WtP) (ok : Bool) (s' : TbP) : Prop :=
  (∃ i, FirstM s.ws k i r ∧ GoodM k id op qr Q r ∧ ok = true ∧ s' = { s with ws := s.ws.eraseIdx i }) ∨ ((∀ i r, FirstM s.ws k i r → ¬ GoodM k id op qr Q r) ∧ ok = false ∧ r = wt0 ∧ s' = s)
theorem MX.one {s s1 s2 : TbP} {k : MkP} {id op : Int} {qr : Bool} {Q : List QsP} {r1 r2 : WtP} {o1 o2 : Bool} (h : MX s k id op qr Q r1 o1 s1) (g : MX s k id op qr Q r2 o2 s2) : r1 = r2 ∧ o1 = o2 ∧ s1 = s2 := by
  rcases h with ⟨i, a1, a2, rfl, rfl⟩ | ⟨a1, rfl, rfl, rfl⟩ <;> rcases g with ⟨j, b1, b2, rfl, rfl⟩ | ⟨b1, rfl, rfl, rfl⟩
  · obtain ⟨rfl, rfl⟩ := a1.one b1
    exact ⟨rfl, rfl, rfl⟩
  · exact absurd a2 (b1 i r1 a1)
  · exact absurd b2 (a1 j r2 b1)
  · exact ⟨rfl, rfl, rfl⟩
theorem MX.mark {s s' : TbP} {k : MkP} {id op : Int} {qr : Bool} {Q : List QsP} {r : WtP} (h : MX s k id op qr Q r true s') : sameM k r.m = true := by
  rcases h with ⟨i, a1, _, _, _⟩ | ⟨_, h, _⟩
  · exact (sameM_iff _ _).2 ((sameM_iff _ _).1 a1.2.1).symm
  · cases h
theorem matchC_any (bs : List Nat) (q : Nat) (s : TbP) (ki kp : Int) (kx : ByteArray) (kt : Bool) (xi xo xc : Int) (b0 b1 b2 b3 b4 : Bool) (qa s1 s2 s3 : Option Addr) (qn qc n1 c1 n2 c2 n3 c3 : Nat) (Q : List QsP) (w : World) (h : TbS w bs q s) (hn : s.ws.length ≤ 5000) (hQ : RowQs w qa qn Q) (hqn : qn ≤ 1000000) :
    Calls Try.prog 47 #[.pointer (some ⟨q, 0, none⟩), .agg #[.int .i64 ki, .int .i64 kp, .string kx, .bool kt], .agg #[.int .i64 xi, .int .i64 xo, .int .i64 xc, .bool b0, .bool b1, .bool b2, .bool b3, .bool b4, .slice qa qn qc, .slice s1 n1 c1, .slice s2 n2 c2, .slice s3 n3 c3]] w fun e w' =>
      ∃ r ok s', e = .returned (.tuple #[.agg (encW r).toArray, .bool ok]) ∧ MX s ⟨ki, kp, kx, kt⟩ xi xo b0 Q r ok s' ∧ TbS w' bs q s' ∧ Frm w w' bs := by
  refine (match_any bs q s ki kp kx kt xi xo xc b0 b1 b2 b3 b4 qa s1 s2 s3 qn qc n1 c1 n2 c2 n3 c3 Q w h hn hQ hqn).mono ?_
  rintro e w' ⟨hc, hf⟩
  rcases hc with ⟨i, r, h1, h2, rfl, h4⟩ | ⟨h1, rfl, h4⟩
  · exact ⟨r, true, _, rfl, Or.inl ⟨i, h1, h2, rfl, rfl⟩, h4, hf⟩
  · exact ⟨wt0, false, s, rfl, Or.inr ⟨h1, rfl, rfl, rfl⟩, h4, hf⟩
theorem matchDX_any (bs : List Nat) (q : Nat) (s : TbP) (ki kp : Int) (kx : ByteArray) (kt : Bool) (xi xo xc : Int) (b0 b1 b2 b3 b4 : Bool) (qa s1 s2 s3 : Option Addr) (qn qc n1 c1 n2 c2 n3 c3 : Nat) (Q : List QsP) (w : World) (h : RTs w bs q s) (hok : WsOk s.ws) (hn : s.ws.length ≤ 5000) (hQ : RowQs w qa qn Q) (hqn : qn ≤ 1000000) :
    Calls Try.prog 48 #[.pointer (some ⟨q, 0, none⟩), .agg #[.int .i64 ki, .int .i64 kp, .string kx, .bool kt], .agg #[.int .i64 xi, .int .i64 xo, .int .i64 xc, .bool b0, .bool b1, .bool b2, .bool b3, .bool b4, .slice qa qn qc, .slice s1 n1 c1, .slice s2 n2 c2, .slice s3 n3 c3]] w fun e w' =>
      ∃ r ok s', e = .returned (.tuple #[.agg (encW r).toArray, .bool ok]) ∧ MX s ⟨ki, kp, kx, kt⟩ xi xo b0 Q r ok s' ∧ (∃ cs, RTs w' cs q s' ∧ ∀ g ∈ cs, g ∈ bs ∨ w.heap.size ≤ g) ∧ Frm w w' bs := by
  refine (matchD_any bs q s ki kp kx kt xi xo xc b0 b1 b2 b3 b4 qa s1 s2 s3 qn qc n1 c1 n2 c2 n3 c3 Q w h hok hn hQ hqn).mono ?_
  rintro e w' ⟨hc, hf⟩
  rcases hc with ⟨i, r, h1, h2, rfl, h4⟩ | ⟨h1, rfl, h4⟩
  · exact ⟨r, true, _, rfl, Or.inl ⟨i, h1, h2, rfl, rfl⟩, h4, hf⟩
  · exact ⟨wt0, false, s, rfl, Or.inr ⟨h1, rfl, rfl, rfl⟩, ⟨bs, h4, fun g hg => Or.inl hg⟩, hf⟩
/-- Both tables, side by side. -/
structure Pl (w wx : World) (q p : Nat) (c d : List Nat) (s t : TbP) : Prop where
  cd : TbS wx c q s
  dc : RTs wx d p t
  ap : ∀ x ∈ c, x ∉ d
  gc : ∀ x ∈ c, w.heap.size ≤ x
  gd : ∀ x ∈ d, w.heap.size ≤ x
  bel : Below w.heap.size w wx
theorem Pl.below {w wx wy : World} {q p : Nat} {c d : List Nat} {s t : TbP} (h : Pl w wx q p c d s t) (hb : Below wx.heap.size wx wy) : Pl w wy q p c d s t :=
  ⟨h.cd.below hb, h.dc.below hb, h.ap, h.gc, h.gd, h.bel.trans (hb.mono h.bel.size)⟩
theorem Pl.code {w wx wy : World} {q p : Nat} {c d c' bs : List Nat} {s t s' : TbP} (h : Pl w wx q p c d s t) (hs : TbS wy c' q s') (hc : ∀ x ∈ c', x ∈ c ∨ wx.heap.size ≤ x) (hf : Frm wx wy bs) (hb : ∀ x ∈ bs, x ∈ c) : Pl w wy q p c' d s' t :=
  ⟨hs, h.dc.frm hf (fun x hx e => h.ap x (hb x e) hx), fun x hx e => (hc x hx).elim (fun h1 => h.ap x h1 e) (fun h1 => by have := h.dc.lt x e; omega), fun x hx => (hc x hx).elim (h.gc x) (Nat.le_trans h.bel.size), h.gd, hf.under h.bel (fun x hx => h.gc x (hb x hx)) h.bel.size⟩
theorem Pl.doc {w wx wy : World} {q p : Nat} {c d d' bs : List Nat} {s t t' : TbP} (h : Pl w wx q p c d s t) (hs : RTs wy d' p t') (hc : ∀ x ∈ d', x ∈ d ∨ wx.heap.size ≤ x) (hf : Frm wx wy bs) (hb : ∀ x ∈ bs, x ∈ d) : Pl w wy q p c d' s t' :=
  ⟨h.cd.frm hf (fun x hx e => h.ap x hx (hb x e)), hs, fun x hx e => (hc x e).elim (fun h1 => h.ap x hx h1) (fun h1 => by have := h.cd.lt x hx; omega), h.gc, fun x hx => (hc x hx).elim (h.gd x) (Nat.le_trans h.bel.size), hf.under h.bel (fun x hx => h.gd x (hb x hx)) h.bel.size⟩
/-- What stays so from call to call. -/
structure Inv20 (most : Int) (s : TbP) : Prop where
  mst : s.most = most
  ok : WsOk s.ws
  len : (s.ws.length : Int) ≤ most
  x : 0 ≤ s.x ∧ s.x < 4294967296
theorem Inv20.sub {most : Int} {s t : TbP} (h : Inv20 most s) (hm : t.most = s.most) (hx : t.x = s.x) (hs : t.ws.Sublist s.ws) : Inv20 most t :=
  ⟨hm.trans h.mst, h.ok.sub hs, by have := h.len; have := hs.length_le; omega, by rw [hx]; exact h.x⟩
theorem Inv20.mx {most : Int} {s s' : TbP} {k : MkP} {id op : Int} {qr : Bool} {Q : List QsP} {r : WtP} {ok : Bool} (h : Inv20 most s) (hm : MX s k id op qr Q r ok s') : Inv20 most s' := by
  rcases hm with ⟨i, _, _, _, rfl⟩ | ⟨_, _, _, rfl⟩
  · exact h.sub rfl rfl (List.eraseIdx_sublist _ _)
  · exact h
theorem Inv20.opened {most : Int} {s : TbP} (h : Inv20 most s) (hm : most ≤ 1000) (now job : Int) (tx : ByteArray) (tcp : Bool) (q : QsP) : Inv20 most (openF s now job tx tcp q).2.2 := by
  unfold openF
  split
  · exact h
  · split
    · exact h
    · rename_i h1 _
      rw [h.mst] at h1
      exact ⟨h.mst, h.ok.opened now job tx tcp q (by omega), by show ((s.ws ++ [_]).length : Int) ≤ most; rw [List.length_append, List.length_singleton]; omega, nxD_in _⟩
def toQ (k : Ky) : QsP := ⟨k.n, k.t, k.c⟩
theorem rowQs_of {w : World} {a : Option Addr} {n : Nat} {l : List Ky} (h : RowQ w a n l) : RowQs w a n (l.map toQ) := by
  refine ⟨by rw [List.length_map]; exact h.1, ?_⟩
  rcases h.2.2 with h0 | ⟨b, off, rfl, hlt, hc⟩
  · exact Or.inl (by omega)
  · refine Or.inr ⟨b, off, rfl, hlt, fun j r hj => ?_⟩
    rw [List.getElem?_map] at hj
    obtain ⟨k, hk, rfl⟩ := Option.map_eq_some_iff.1 hj
    have hg : ∀ i, i < 3 → ∀ u, (encK k)[i]? = some u → w.cell? ⟨b, off + j * 3 + i, none⟩ = some u := fun i hi u hu => by
      rw [Nat.add_assoc]
      refine hc _ u ?_
      rw [flatQ, flatMap_get encK 3 encK_len (by omega), show (j * 3 + i) / 3 = j by omega, show (j * 3 + i) % 3 = i by omega, hk]
      exact hu
    exact ⟨hg 0 (by omega) _ rfl, hg 1 (by omega) _ rfl, hg 2 (by omega) _ rfl⟩
set_option maxRecDepth 100000 in
theorem rw_eql (i p : Int) (x : ByteArray) (t : Bool) (n : ByteArray) (y c j u : Int) (W : World) : (binOp .eql 84 (.agg #[.int .i64 i, .int .i64 p, .string x, .bool t, .string n, .int .i64 y, .int .i64 c, .int .i64 j, .int .i64 u]) (.agg #[.int .i64 i, .int .i64 p, .string x, .bool t, .string n, .int .i64 y, .int .i64 c, .int .i64 j, .int .i64 u])).run Try.prog W = .ok (.bool true) W := by
  have u3 := Try.underlying3
  have a3 := Try.isAgg3
  have z3 := Try.sizeOf3
  have u9 := Try.underlying9
  have a9 := Try.isAgg9
  have z9 := Try.sizeOf9
  have u4 := Try.underlying4
  have a4 := Try.isAgg4
  have z4 := Try.sizeOf4
  have hS : Try.prog.underlying 84 = some (.struct (Try.prog.fieldsOf 84)) := by
    simp [Program.fieldsOf, Try.underlying84]
  rw [run_eql_struct, show (10000 : Nat) = 9999 + 1 from rfl, run_equalIn_agg W 9999 84 _ _ hS (by kernel_rfl)]
  simp only [Program.fieldsOf, Try.underlying84]
  go_simp
end Go.Proofs.Ytocfphijheidbaa
