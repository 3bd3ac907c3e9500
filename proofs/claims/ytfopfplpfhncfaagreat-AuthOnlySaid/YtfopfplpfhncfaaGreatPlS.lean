/- Sets for the document; lists of sets alike. -/
import Derived.Test.YtfopfplpfhncfaaGreatRec
import Derived.Test.YtfopfplpfhncfaaGreatSkD
namespace Go.Proofs.YtfopfplpfhncfaaGreat
open Go.RowKit

/-- Sets with the values of their data. -/
def DataAt (w : World) (p : SetP × Value) : Prop := ∃ a c, p.2 = .slice a p.1.data.length c ∧ RowS w a p.1.data.length p.1.data ∧ (a = none → p.1.data.length = 0 ∧ c = 0)
theorem DataAt.below {w w' : World} {p : SetP × Value} (h : DataAt w p) (hb : Below w.heap.size w w') : DataAt w' p := by
  obtain ⟨a, c, h1, h2, h3⟩ := h
  exact ⟨a, c, h1, h2.below hb, h3⟩
theorem flatS_at {w : World} {a : Option Addr} {n : Nat} {L : List (SetP × Value)} (h : CellsAt w a (n * 5) (flatS L)) (hn : L.length = n) (hd : ∀ p ∈ L, DataAt w p) : SetsAt w a n (L.map Prod.fst) := by
  refine ⟨by rw [List.length_map]; exact hn, ?_⟩
  rcases h.2 with h0 | ⟨b, off, rfl, hlt, hc⟩
  · exact Or.inl (by omega)
  refine Or.inr ⟨b, off, rfl, hlt, fun k hk => ?_⟩
  obtain ⟨p, hp⟩ : ∃ p, L[k]? = some p := ⟨_, List.getElem?_eq_getElem (by omega)⟩
  obtain ⟨da, dc, h1, h2, h3⟩ := hd p (List.mem_of_getElem? hp)
  have hg : ∀ i, i < 5 → ∀ u, (encS p)[i]? = some u → w.cell? ⟨b, off + k * 5 + i, none⟩ = some u := fun i hi u hu => by
    have h4 := hc (k * 5 + i) u (by
      rw [flatS, flatMap_get encS 5 encS_len (by omega), show (k * 5 + i) / 5 = k by omega, show (k * 5 + i) % 5 = i by omega, hp]
      exact hu)
    rw [Nat.add_assoc]; exact h4
  have hgd : (L.map Prod.fst).getD k ssD = p.1 := by
    rw [List.getD_eq_getElem?_getD, List.getElem?_map, hp]; rfl
  rw [hgd]
  exact ⟨da, dc, hg 0 (by omega) _ rfl, hg 1 (by omega) _ rfl, hg 2 (by omega) _ rfl, hg 3 (by omega) _ rfl, by rw [← h1]; exact hg 4 (by omega) _ rfl, h2, h3⟩
theorem setsAt_own {w : World} {B n : Nat} {e : TypeId} {v : Value} {L : List (SetP × Value)} (h : w.ownsRow B e 5 v n (flatS L)) (hd : ∀ p ∈ L, DataAt w p) : ∃ a c, v = .slice a n c ∧ SetsAt w a n (L.map Prod.fst) ∧ (a = none → n = 0 ∧ c = 0) := by
  obtain ⟨a, c, e, h1, h2⟩ := cellsK_own h
  exact ⟨a, c, e, flatS_at h1 (by have := h.1; rw [flatS_len] at this; omega) hd, h2⟩
theorem infoRSet : (Tryz.prog.info? 43).map (fun i => (i.zero, i.size, i.bytes)) = some (some (.agg #[.string ⟨#[]⟩, .int .i64 0, .int .i64 0, .int .i64 0, .slice none 0 0]), 5, 64) := by kernel_rfl
theorem encS_one (p : SetP × Value) (h : ∃ a n c, p.2 = .slice a n c) : ∀ u ∈ encS p, u.oneCell' = true := by
  obtain ⟨a, n, c, h⟩ := h
  intro u hu
  simp only [encS, List.mem_cons, List.not_mem_nil, or_false] at hu
  rcases hu with rfl | rfl | rfl | rfl | rfl
  · rfl
  · rfl
  · rfl
  · rfl
  · rw [h]; rfl

set_option maxRecDepth 100000 in
set_option maxHeartbeats 1600000 in
theorem plains_any (a : Option Addr) (len cap : Nat) (L : List SetP) (w : World) (h : SetsAt w a len L) (hlen : len ≤ 100000) :
    Calls Tryz.prog 25 #[.slice a len cap] w fun e w' => (∃ a' c', e = .returned (.slice a' len c') ∧ SetsAt w' a' len L) ∧ Below w.heap.size w w' := by
  obtain ⟨i0, hi, hz0, hz1, hz2⟩ := info_parts infoRSet
  have HR := Lib.hid h
  have HL := Lib.hid h.1
  clear h
  go_enter Tryz.func25, Tryz.ntmps25
  go_wp2_with fail
  go_loopw [3, 4] (fun v i wr => ∃ (k : Nat) (P : List (SetP × Value)), k ≤ len ∧ i = .int .i64 k ∧ Hid (P.map Prod.fst = L.take k ∧ (∀ p ∈ P, DataAt w p)) ∧ Hid (wr.ownsRow w.heap.size 43 5 v k (flatS P)) ∧ Hid (Below w.heap.size w wr)) (fun _ i _ => len - (intOf i).toNat)
  case atStart => exact ⟨0, [], Nat.zero_le _, rfl, ⟨rfl, (fun p hp => by cases hp)⟩, World.ownsRow_nil _ _ _ _, Below.refl _ _⟩
  case round =>
    obtain ⟨k, P, hk, rfl, hP, ho, hbw⟩ := hrel
    by_cases hlt : k < len
    · rcases HR.out.2 with h9 | ⟨b, o, rfl, hbl, hc⟩
      · omega
      obtain ⟨p, c, hs⟩ := hc k hlt
      have hLk : L[k]? = some (L.getD k ssD) := by
        rw [List.getD_eq_getElem?_getD, List.getElem?_eq_getElem (by have := HL.out; omega)]; rfl
      obtain ⟨s, hss⟩ : ∃ s, L.getD k ssD = s := ⟨_, rfl⟩
      rw [hss] at hs hLk
      have hrow : RowS w p s.data.length s.data := hs.2.2.2.2.2.1
      replace hs := hs.below hbl hbw.out
      obtain ⟨⟨sn, st, sc1⟩, su, sd⟩ := s
      obtain ⟨dl, hdl2⟩ : ∃ x, sd.length = x := ⟨_, rfl⟩
      obtain ⟨c0, c1, c2, c3, c4, -, hnil⟩ := hs
      replace c0 : wr.cell? ⟨b, o + k * 5, none⟩ = some (.string sn) := c0
      replace c1 : wr.cell? ⟨b, o + k * 5 + 1, none⟩ = some (.int .i64 st) := c1
      replace c2 : wr.cell? ⟨b, o + k * 5 + 2, none⟩ = some (.int .i64 sc1) := c2
      replace c3 : wr.cell? ⟨b, o + k * 5 + 3, none⟩ = some (.int .i64 su) := c3
      replace c4 : wr.cell? ⟨b, o + k * 5 + 4, none⟩ = some (.slice p sd.length c) := c4
      replace hrow : RowS w p sd.length sd := hrow
      replace hnil : p = none → sd.length = 0 ∧ c = 0 := hnil
      have HDA := Lib.hid (show DataAt w (⟨⟨sn, st, sc1⟩, su, sd⟩, .slice p sd.length c) from ⟨p, c, rfl, hrow, hnil⟩)
      rw [hdl2] at c4 HDA
      have HTK := Lib.hid (show (P ++ [((⟨⟨sn, st, sc1⟩, su, sd⟩ : SetP), Value.slice p dl c)]).map Prod.fst = L.take (k + 1) by
        rw [List.map_append, hP.out.1, List.take_add_one, hLk]; rfl)
      clear hc hss hdl2 hrow hnil hLk
      go_wp2_with fail
      refine (plain_any sn st sc1 su p dl c wr).mono ?_; rintro e w2 ⟨rfl, hb⟩
      have HO2 := Lib.hid (own_below' ho.out hb)
      have HB2 := Lib.hid (hbw.out.trans (hb.mono hbw.out.size))
      have HP2 := Lib.hid (show ∀ q ∈ P ++ [((⟨⟨sn, st, sc1⟩, su, sd⟩ : SetP), Value.slice p dl c)], DataAt w q from fun q hq => by
        rcases List.mem_append.1 hq with h1 | h1
        · exact hP.out.2 q h1
        · obtain rfl := List.mem_singleton.1 h1; exact HDA.out)
      have HBA := Lib.hid ((Below.refl w2.heap.size w2).alloc (Nat.le_refl _) (.cells #[.string sn, .int .i64 st, .int .i64 sc1, .int .i64 su, .slice p dl c] 43))
      clear hb c0 c1 c2 c3 c4
      go_wp2_with (at_builtin; refine append_cellsK rfl _ _ 50 43 rfl i0 _ 5 64 Tryz.underlying50 hi hz0 hz1 hz2 rfl (by decide) w.heap.size _ k _ rfl (own_below' HO2.out HBA.out) (some ⟨w2.heap.size, 0, none⟩) 1 1 (encS (⟨⟨sn, st, sc1⟩, su, sd⟩, .slice p dl c)) rfl (fun h => by cases h) (cells_lit w2 #[.string sn, .int .i64 st, .int .i64 sc1, .int .i64 su, .slice p dl c] _) (encS_one _ ⟨_, _, _, rfl⟩) (by omega) (by decide) (by have := HB2.out.size; simp; omega) ?_)
      intro v' w3 hown' hgrow'
      have HO3 := Lib.hid hown'
      have HBT := Lib.hid ((HB2.out.trans (HBA.out.mono HB2.out.size)).grown hgrow' (by have := HB2.out.size; simp; omega) (fun k hk => (HO2.out.lt k hk).1))
      clear hown' hgrow'
      go_wp2
      go_roundw
      case rel => exact ⟨k + 1, P ++ [((⟨⟨sn, st, sc1⟩, su, sd⟩ : SetP), Value.slice p dl c)], by omega, by go_num, ⟨HTK.out, HP2.out⟩, Lib.hid (by rw [flatS_append]; simpa [flatS] using HO3.out), HBT⟩
      case measure => simp [intOf]; omega
    · have hkn : k = len := by omega
      subst hkn
      obtain ⟨a', c', rfl, hsa, _⟩ := setsAt_own ho.out (fun p hp => (hP.out.2 p hp).below hbw.out)
      rw [hP.out.1, List.take_of_length_le (by rw [HL.out]; exact Nat.le_refl _)] at hsa
      have HS := Lib.hid hsa
      clear ho hP hsa
      go_wp2
      go_ret
      exact ⟨⟨_, _, rfl, HS.out⟩, hbw.out⟩

/-- Two sets lie there. -/
def S2 (w : World) (b1 o1 b2 o2 : Nat) (s t : SetP) (p1 p2 : Option Addr) (c1 c2 : Nat) (wx : World) : Prop := Below w.heap.size w wx ∧ b1 < w.heap.size ∧ b2 < w.heap.size ∧ SetAt w b1 o1 s p1 c1 ∧ SetAt w b2 o2 t p2 c2
def S2S (b1 o1 b2 o2 : Nat) (sn tn : ByteArray) (st sc su tt tc tu : Int) (dv1 dv2 : Value) (P : World → Prop) (wx : World) : Prop := Hid (P wx) ∧ wx.cell? ⟨b1, o1, none⟩ = some (.string sn) ∧ wx.cell? ⟨b1, o1 + 1, none⟩ = some (.int .i64 st) ∧ wx.cell? ⟨b1, o1 + 2, none⟩ = some (.int .i64 sc) ∧ wx.cell? ⟨b1, o1 + 3, none⟩ = some (.int .i64 su) ∧ wx.cell? ⟨b1, o1 + 4, none⟩ = some dv1 ∧ wx.cell? ⟨b2, o2, none⟩ = some (.string tn) ∧ wx.cell? ⟨b2, o2 + 1, none⟩ = some (.int .i64 tt) ∧ wx.cell? ⟨b2, o2 + 2, none⟩ = some (.int .i64 tc) ∧ wx.cell? ⟨b2, o2 + 3, none⟩ = some (.int .i64 tu) ∧ wx.cell? ⟨b2, o2 + 4, none⟩ = some dv2
theorem S2.shown {w : World} {b1 o1 b2 o2 : Nat} {sn tn : ByteArray} {st sc su tt tc tu : Int} {sd td : List ByteArray} {p1 p2 : Option Addr} {c1 c2 : Nat} {wx : World} (h : S2 w b1 o1 b2 o2 ⟨⟨sn, st, sc⟩, su, sd⟩ ⟨⟨tn, tt, tc⟩, tu, td⟩ p1 p2 c1 c2 wx) : S2S b1 o1 b2 o2 sn tn st sc su tt tc tu (.slice p1 sd.length c1) (.slice p2 td.length c2) (S2 w b1 o1 b2 o2 ⟨⟨sn, st, sc⟩, su, sd⟩ ⟨⟨tn, tt, tc⟩, tu, td⟩ p1 p2 c1 c2) wx := by
  have h' := Lib.hid h
  obtain ⟨hb, l1, l2, h1, h2⟩ := h
  obtain ⟨x0, x1, x2, x3, x4, _⟩ := h1.below l1 hb
  obtain ⟨y0, y1, y2, y3, y4, _⟩ := h2.below l2 hb
  exact ⟨h', x0, x1, x2, x3, x4, y0, y1, y2, y3, y4⟩
theorem S2S.next {w : World} {b1 o1 b2 o2 : Nat} {sn tn : ByteArray} {st sc su tt tc tu : Int} {sd td : List ByteArray} {p1 p2 : Option Addr} {c1 c2 n1 n2 : Nat} {wx wy : World} (hb : Below wx.heap.size wx wy) (h1 : Hid (sd.length = n1)) (h2 : Hid (td.length = n2)) (h : S2S b1 o1 b2 o2 sn tn st sc su tt tc tu (.slice p1 n1 c1) (.slice p2 n2 c2) (S2 w b1 o1 b2 o2 ⟨⟨sn, st, sc⟩, su, sd⟩ ⟨⟨tn, tt, tc⟩, tu, td⟩ p1 p2 c1 c2) wx) : S2S b1 o1 b2 o2 sn tn st sc su tt tc tu (.slice p1 n1 c1) (.slice p2 n2 c2) (S2 w b1 o1 b2 o2 ⟨⟨sn, st, sc⟩, su, sd⟩ ⟨⟨tn, tt, tc⟩, tu, td⟩ p1 p2 c1 c2) wy := by
  obtain ⟨k1, k2, k3⟩ := h.1.out
  have h5 : S2 w b1 o1 b2 o2 ⟨⟨sn, st, sc⟩, su, sd⟩ ⟨⟨tn, tt, tc⟩, tu, td⟩ p1 p2 c1 c2 wy := ⟨k1.trans (hb.mono k1.size), k2, k3⟩
  have h6 := h5.shown
  rw [h1.out, h2.out] at h6
  exact h6
theorem S2S.get {w : World} {b1 o1 b2 o2 : Nat} {sn tn : ByteArray} {st sc su tt tc tu : Int} {sd td : List ByteArray} {p1 p2 : Option Addr} {c1 c2 : Nat} {dv1 dv2 : Value} {wx : World} (h : S2S b1 o1 b2 o2 sn tn st sc su tt tc tu dv1 dv2 (S2 w b1 o1 b2 o2 ⟨⟨sn, st, sc⟩, su, sd⟩ ⟨⟨tn, tt, tc⟩, tu, td⟩ p1 p2 c1 c2) wx) : Below w.heap.size w wx := h.1.out.1
theorem rsame_at2 (an : ByteArray) (at1 ac au : Int) (ad : List ByteArray) (bn : ByteArray) (bt bc bu : Int) (bd : List ByteArray) (pa pb : Option Addr) (al bl ca cb : Nat) (w : World) (ha : RowS w pa al ad) (hb : RowS w pb bl bd) (hl : al ≤ 1000000) : Calls Tryz.prog 30 #[.agg #[.string an, .int .i64 at1, .int .i64 ac, .int .i64 au, .slice pa al ca], .agg #[.string bn, .int .i64 bt, .int .i64 bc, .int .i64 bu, .slice pb bl cb]] w fun e w' => e = .returned (.bool (sameP ⟨⟨an, at1, ac⟩, au, ad⟩ ⟨⟨bn, bt, bc⟩, bu, bd⟩)) ∧ Below w.heap.size w w' := by
  have h1 := ha.1
  have h2 := hb.1
  subst h1 h2
  exact rsame_any ⟨⟨an, at1, ac⟩, au, ad⟩ ⟨⟨bn, bt, bc⟩, bu, bd⟩ pa pb ca cb w ha hb hl
theorem sameP_iff (s t : SetP) : sameP s t = true ↔ s = t := by
  obtain ⟨⟨n, a, c⟩, u, d⟩ := s
  obtain ⟨⟨n', a', c'⟩, u', d'⟩ := t
  have h := key_same ⟨n, a, c⟩ ⟨n', a', c'⟩
  simp only [sameP, Bool.and_eq_true] at h ⊢
  simp only [SetP.mk.injEq]
  constructor
  · rintro ⟨h1, h2, h3⟩
    exact ⟨h.1 h1, by simpa using h2, by simpa using h3⟩
  · rintro ⟨h1, h2, h3⟩
    exact ⟨h.2 h1, by simpa using h2, by simpa using h3⟩
theorem list_next {L M : List SetP} {k : Nat} (h : ∀ j, j < k → L.getD j ssD = M.getD j ssD) (h1 : L.getD k ssD = M.getD k ssD) : ∀ j, j < k + 1 → L.getD j ssD = M.getD j ssD := by
  intro j hj
  by_cases e : j = k
  · rw [e]; exact h1
  · exact h j (by omega)
theorem list_all {L M : List SetP} {n : Nat} (hl : L.length = n) (hm : M.length = n) (h : ∀ j, j < n → L.getD j ssD = M.getD j ssD) : L = M := by
  apply List.ext_getElem (by omega)
  intro i h1 h2
  have h3 := h i (by omega)
  rw [List.getD_eq_getElem?_getD, List.getD_eq_getElem?_getD, List.getElem?_eq_getElem h1, List.getElem?_eq_getElem h2] at h3
  exact h3

set_option maxRecDepth 100000 in
set_option maxHeartbeats 1600000 in
theorem sameSets_any (a b : Option Addr) (n m ca cb : Nat) (L M : List SetP) (w : World) (ha : SetsAt w a n L) (hb : SetsAt w b m M) (hn : n ≤ 100000) (hm : m ≤ 100000) (hd : ∀ s ∈ L, s.data.length ≤ 1000000) :
    Calls Tryz.prog 24 #[.slice a n ca, .slice b m cb] w fun e w' => (∃ x : Bool, e = .returned (.bool x) ∧ (x = true ↔ L = M)) ∧ Below w.heap.size w w' := by
  have HRA := Lib.hid ha
  have HRB := Lib.hid hb
  have HLA := Lib.hid ha.1
  have HLB := Lib.hid hb.1
  have HD := Lib.hid hd
  clear ha hb hd
  by_cases hnm : n = m
  · subst hnm
    have e0 : ((n : Int) != (n : Int)) = false := nF rfl
    go_enter Tryz.func24, Tryz.ntmps24
    go_wp2_with fail
    go_loopw [5] (fun i wr => ∃ k : Nat, k ≤ n ∧ i = .int .i64 k ∧ Hid (∀ j, j < k → L.getD j ssD = M.getD j ssD) ∧ Hid (Below w.heap.size w wr)) (fun i _ => n - (intOf i).toNat)
    case atStart => exact ⟨0, Nat.zero_le _, rfl, fun j hj => absurd hj (by omega), Below.refl _ _⟩
    case round =>
      obtain ⟨k, hk, rfl, hall, hbw⟩ := hrel
      by_cases hlt : k < n
      · rcases HRA.out.2 with h9 | ⟨b1, o1, rfl, hb1, hc1⟩
        · omega
        rcases HRB.out.2 with h9 | ⟨b2, o2, rfl, hb2, hc2⟩
        · omega
        obtain ⟨p1, c1, hs1⟩ := hc1 k hlt
        obtain ⟨p2, c2, hs2⟩ := hc2 k hlt
        have hdl : (L.getD k ssD).data.length ≤ 1000000 := HD.out _ (by
          rw [List.getD_eq_getElem?_getD, List.getElem?_eq_getElem (by have := HLA.out; omega)]
          exact List.getElem_mem _)
        obtain ⟨s, hss⟩ : ∃ s, L.getD k ssD = s := ⟨_, rfl⟩
        obtain ⟨t, htt⟩ : ∃ s, M.getD k ssD = s := ⟨_, rfl⟩
        rw [hss] at hs1 hdl
        rw [htt] at hs2
        have HS := Lib.hid hss
        have HT := Lib.hid htt
        obtain ⟨⟨sn, st, sc1⟩, su, sd⟩ := s
        obtain ⟨⟨tn, tt, tc1⟩, tu, td⟩ := t
        have HST := Lib.hid (show S2 w b1 (o1 + k * 5) b2 (o2 + k * 5) ⟨⟨sn, st, sc1⟩, su, sd⟩ ⟨⟨tn, tt, tc1⟩, tu, td⟩ p1 p2 c1 c2 wr from ⟨hbw.out, hb1, hb2, hs1, hs2⟩)
        obtain ⟨n1, hn1⟩ : ∃ x, sd.length = x := ⟨_, rfl⟩
        obtain ⟨n2, hn2⟩ : ∃ x, td.length = x := ⟨_, rfl⟩
        have hshow := HST.out.shown
        have hr1 : RowS w p1 sd.length sd := hs1.2.2.2.2.2.1
        have hr2 : RowS w p2 td.length td := hs2.2.2.2.2.2.1
        replace hdl : sd.length ≤ 1000000 := hdl
        rw [hn1] at hshow hr1 hdl
        rw [hn2] at hshow hr2
        have HN1 := Lib.hid hn1
        have HN2 := Lib.hid hn2
        have HR1 := Lib.hid hr1
        have HR2 := Lib.hid hr2
        have HSM := Lib.hid (sameP_iff ⟨⟨sn, st, sc1⟩, su, sd⟩ ⟨⟨tn, tt, tc1⟩, tu, td⟩)
        have HCC := Lib.hid (fun wx (hx : Below w.heap.size w wx) => rsame_at2 sn st sc1 su sd tn tt tc1 tu td p1 p2 n1 n2 c1 c2 wx (HR1.out.below hx) (HR2.out.below hx) hdl)
        obtain ⟨y, hy⟩ : ∃ y, sameP ⟨⟨sn, st, sc1⟩, su, sd⟩ ⟨⟨tn, tt, tc1⟩, tu, td⟩ = y := ⟨_, rfl⟩
        rw [hy] at HSM HCC
        have HSH := Lib.hid hshow
        have i1 : (0 : Int) ≤ (k : Int) := by omega
        have i2 : (k : Int) < (n : Int) := by omega
        clear hc1 hc2 hss htt hs1 hs2 hn1 hn2 hr1 hr2 hy hshow
        cases y with
        | true =>
          go_wp2_with fail
          go_region_held3 (fun wx => Hid (S2 w b1 (o1 + k * 5) b2 (o2 + k * 5) ⟨⟨sn, st, sc1⟩, su, sd⟩ ⟨⟨tn, tt, tc1⟩, tu, td⟩ p1 p2 c1 c2 wx) ∧ wx.cell? ⟨b1, o1 + k * 5, none⟩ = some (.string sn) ∧ wx.cell? ⟨b1, o1 + k * 5 + 1, none⟩ = some (.int .i64 st) ∧ wx.cell? ⟨b1, o1 + k * 5 + 2, none⟩ = some (.int .i64 sc1) ∧ wx.cell? ⟨b1, o1 + k * 5 + 3, none⟩ = some (.int .i64 su) ∧ wx.cell? ⟨b1, o1 + k * 5 + 4, none⟩ = some (.slice p1 n1 c1) ∧ wx.cell? ⟨b2, o2 + k * 5, none⟩ = some (.string tn) ∧ wx.cell? ⟨b2, o2 + k * 5 + 1, none⟩ = some (.int .i64 tt) ∧ wx.cell? ⟨b2, o2 + k * 5 + 2, none⟩ = some (.int .i64 tc1) ∧ wx.cell? ⟨b2, o2 + k * 5 + 3, none⟩ = some (.int .i64 tu) ∧ wx.cell? ⟨b2, o2 + k * 5 + 4, none⟩ = some (.slice p2 n2 c2)) (first | (exact S2S.next ((Below.refl wr.heap.size wr).drew) HN1 HN2 HSH.out) | assumption | (refine S2S.next hb HN1 HN2 ?_; assumption)) ((go_at_call 30; refine (HCC.out _ (S2S.get (by assumption))).mono ?_; rintro e wy ⟨rfl, hb⟩))
          go_wp2
          go_roundw
          case rel =>
            exact ⟨k + 1, by omega, by go_num, Lib.hid (list_next hall.out (by rw [HS.out, HT.out]; exact HSM.out.1 (by first | rfl | trivial))), Lib.hid (S2S.get (b1 := b1) (o1 := o1 + k * 5) (b2 := b2) (o2 := o2 + k * 5) (sn := sn) (tn := tn) (st := st) (sc := sc1) (su := su) (tt := tt) (tc := tc1) (tu := tu) (sd := sd) (td := td) (p1 := p1) (p2 := p2) (c1 := c1) (c2 := c2) (dv1 := .slice p1 n1 c1) (dv2 := .slice p2 n2 c2) (by assumption))⟩
          case measure => simp [intOf]; omega
        | false =>
          have HF := Lib.hid (show ¬ L = M from fun h => by
            have h1 := HS.out
            rw [h, HT.out] at h1
            have h2 := HSM.out.2 h1.symm
            cases h2)
          go_wp2_with fail
          go_region_held3 (fun wx => Hid (S2 w b1 (o1 + k * 5) b2 (o2 + k * 5) ⟨⟨sn, st, sc1⟩, su, sd⟩ ⟨⟨tn, tt, tc1⟩, tu, td⟩ p1 p2 c1 c2 wx) ∧ wx.cell? ⟨b1, o1 + k * 5, none⟩ = some (.string sn) ∧ wx.cell? ⟨b1, o1 + k * 5 + 1, none⟩ = some (.int .i64 st) ∧ wx.cell? ⟨b1, o1 + k * 5 + 2, none⟩ = some (.int .i64 sc1) ∧ wx.cell? ⟨b1, o1 + k * 5 + 3, none⟩ = some (.int .i64 su) ∧ wx.cell? ⟨b1, o1 + k * 5 + 4, none⟩ = some (.slice p1 n1 c1) ∧ wx.cell? ⟨b2, o2 + k * 5, none⟩ = some (.string tn) ∧ wx.cell? ⟨b2, o2 + k * 5 + 1, none⟩ = some (.int .i64 tt) ∧ wx.cell? ⟨b2, o2 + k * 5 + 2, none⟩ = some (.int .i64 tc1) ∧ wx.cell? ⟨b2, o2 + k * 5 + 3, none⟩ = some (.int .i64 tu) ∧ wx.cell? ⟨b2, o2 + k * 5 + 4, none⟩ = some (.slice p2 n2 c2)) (first | (exact S2S.next ((Below.refl wr.heap.size wr).drew) HN1 HN2 HSH.out) | assumption | (refine S2S.next hb HN1 HN2 ?_; assumption)) ((go_at_call 30; refine (HCC.out _ (S2S.get (by assumption))).mono ?_; rintro e wy ⟨rfl, hb⟩))
          go_wp2
          go_ret
          exact ⟨⟨false, rfl, ⟨(fun h => by cases h), fun h => absurd h HF.out⟩⟩, (S2S.get (b1 := b1) (o1 := o1 + k * 5) (b2 := b2) (o2 := o2 + k * 5) (sn := sn) (tn := tn) (st := st) (sc := sc1) (su := su) (tt := tt) (tc := tc1) (tu := tu) (sd := sd) (td := td) (p1 := p1) (p2 := p2) (c1 := c1) (c2 := c2) (dv1 := .slice p1 n1 c1) (dv2 := .slice p2 n2 c2) (by assumption))⟩
      · have hkn : k = n := by omega
        have HF := Lib.hid (list_all HLA.out HLB.out (by rw [← hkn]; exact hall.out))
        subst hkn
        go_wp2
        go_ret
        exact ⟨⟨true, rfl, ⟨fun _ => HF.out, fun _ => rfl⟩⟩, hbw.out⟩
  · have e0 : ((n : Int) != (m : Int)) = true := nT (by omega)
    have HF := Lib.hid (show ¬ L = M from fun h => hnm (by rw [← HLA.out, ← HLB.out, h]))
    go_enter Tryz.func24, Tryz.ntmps24
    go_wp2_with fail
    go_ret
    exact ⟨⟨false, rfl, ⟨(fun h => by cases h), fun h => absurd h HF.out⟩⟩, Below.refl _ _⟩
end Go.Proofs.YtfopfplpfhncfaaGreat
