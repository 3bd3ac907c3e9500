/- Sets for the document; lists of sets alike. -/
import Derived.Test.YthfnphcefkdgbaaMgK
import Derived.Test.YthfnphcefkdgbaaSkD
namespace Go.Proofs.Ythfnphcefkdgbaa
open Go.RowKit

/-- Sets with the values of their data. -/
def DataAt (w : World) (p : SetP × Value) : Prop := ∃ a c, p.2 = .slice a p.1.data.length c ∧ RowS w a p.1.data.length p.1.data ∧ (a = none → p.1.data.length = 0 ∧ c = 0)
theorem DataAt.below {w w' : World} {p : SetP × Value} (h : DataAt w p) (hb : Below w.heap.size w w') : DataAt w' p := by
  obtain ⟨a, c, h1, h2, h3⟩ := h
  exact ⟨a, c, h1, h2.below hb, h3⟩
theorem flatS_at {w : World} {a : Option Addr} {n : Nat} {L : List (SetP × Value)} (h : CellsAt w a (n * 5) (flatS L)) (hn : L.length = n) (hd : ∀ p ∈ L, DataAt w p) : SetsAt w a n (L.map Prod.fst) := by
  refine ⟨by rw [List.length_map]; exact hn, ?_⟩
  rcases h.2 with h0 | ⟨b, off, rfl, hlt, hc⟩
  · exact Or.inl (by omega)
  refine Or.inr ⟨b, off, rfl, hlt, fun k hk => ?_⟩
  obtain ⟨p, hp⟩ : ∃ p, L[k]? = some p := ⟨_, List.getElem?_eq_getElem (by omega)⟩
  obtain ⟨da, dc, h1, h2, h3⟩ := hd p (List.mem_of_getElem? hp)
  have hg : ∀ i, i < 5 → ∀ u, (encS p)[i]? = some u → w.cell? ⟨b, off + k * 5 + i, none⟩ = some u := fun i hi u hu => by
    have h4 := hc (k * 5 + i) u (by
      rw [flatS, flatMap_get encS 5 encS_len (by omega), show (k * 5 + i) / 5 = k by omega, show (k * 5 + i) % 5 = i by omega, hp]
      exact hu)
    rw [Nat.add_assoc]; exact h4
  have hgd : (L.map Prod.fst).getD k ssD = p.1 := by
    rw [List.getD_eq_getElem?_getD, List.getElem?_map, hp]; rfl
  rw [hgd]
  exact ⟨da, dc, hg 0 (by omega) _ rfl, hg 1 (by omega) _ rfl, hg 2 (by omega) _ rfl, hg 3 (by omega) _ rfl, by rw [← h1]; exact hg 4 (by omega) _ rfl, h2, h3⟩
theorem setsAt_own {w : World} {B n : Nat} {e : TypeId} {v : Value} {L : List (SetP × Value)} (h : w.ownsRow B e 5 v n (flatS L)) (hd : ∀ p ∈ L, DataAt w p) : ∃ a c, v = .slice a n c ∧ SetsAt w a n (L.map Prod.fst) ∧ (a = none → n = 0 ∧ c = 0) := by
  obtain ⟨a, c, e, h1, h2⟩ := cellsK_own h
  exact ⟨a, c, e, flatS_at h1 (by have := h.1; rw [flatS_len] at this; omega) hd, h2⟩
theorem infoRSet : (Try.prog.info? 52).map (fun i => (i.zero, i.size, i.bytes)) = some (some (.agg #[.string ⟨#[]⟩, .int .i64 0, .int .i64 0, .int .i64 0, .slice none 0 0]), 5, 64) := by kernel_rfl
theorem encS_one (p : SetP × Value) (h : ∃ a n c, p.2 = .slice a n c) : ∀ u ∈ encS p, u.oneCell' = true := by
  obtain ⟨a, n, c, h⟩ := h
  intro u hu
  simp only [encS, List.mem_cons, List.not_mem_nil, or_false] at hu
  rcases hu with rfl | rfl | rfl | rfl | rfl
  · rfl
  · rfl
  · rfl
  · rfl
  · rw [h]; rfl

/-- Two sets lie there. -/
def S2 (w : World) (b1 o1 b2 o2 : Nat) (s t : SetP) (p1 p2 : Option Addr) (c1 c2 : Nat) (wx : World) : Prop := Below w.heap.size w wx ∧ b1 < w.heap.size ∧ b2 < w.heap.size ∧ SetAt w b1 o1 s p1 c1 ∧ SetAt w b2 o2 t p2 c2
def S2S (b1 o1 b2 o2 : Nat) (sn tn : ByteArray) (st sc su tt tc tu : Int) (dv1 dv2 : Value) (P : World → Prop) (wx : World) : Prop := Hid (P wx) ∧ wx.cell? ⟨b1, o1, none⟩ = some (.string sn) ∧ wx.cell? ⟨b1, o1 + 1, none⟩ = some (.int .i64 st) ∧ wx.cell? ⟨b1, o1 + 2, none⟩ = some (.int .i64 sc) ∧ wx.cell? ⟨b1, o1 + 3, none⟩ = some (.int .i64 su) ∧ wx.cell? ⟨b1, o1 + 4, none⟩ = some dv1 ∧ wx.cell? ⟨b2, o2, none⟩ = some (.string tn) ∧ wx.cell? ⟨b2, o2 + 1, none⟩ = some (.int .i64 tt) ∧ wx.cell? ⟨b2, o2 + 2, none⟩ = some (.int .i64 tc) ∧ wx.cell? ⟨b2, o2 + 3, none⟩ = some (.int .i64 tu) ∧ wx.cell? ⟨b2, o2 + 4, none⟩ = some dv2
theorem S2.shown {w : World} {b1 o1 b2 o2 : Nat} {sn tn : ByteArray} {st sc su tt tc tu : Int} {sd td : List ByteArray} {p1 p2 : Option Addr} {c1 c2 : Nat} {wx : World} (h : S2 w b1 o1 b2 o2 ⟨⟨sn, st, sc⟩, su, sd⟩ ⟨⟨tn, tt, tc⟩, tu, td⟩ p1 p2 c1 c2 wx) : S2S b1 o1 b2 o2 sn tn st sc su tt tc tu (.slice p1 sd.length c1) (.slice p2 td.length c2) (S2 w b1 o1 b2 o2 ⟨⟨sn, st, sc⟩, su, sd⟩ ⟨⟨tn, tt, tc⟩, tu, td⟩ p1 p2 c1 c2) wx := by
  have h' := Lib.hid h
  obtain ⟨hb, l1, l2, h1, h2⟩ := h
  obtain ⟨x0, x1, x2, x3, x4, _⟩ := h1.below l1 hb
  obtain ⟨y0, y1, y2, y3, y4, _⟩ := h2.below l2 hb
  exact ⟨h', x0, x1, x2, x3, x4, y0, y1, y2, y3, y4⟩
theorem S2S.next {w : World} {b1 o1 b2 o2 : Nat} {sn tn : ByteArray} {st sc su tt tc tu : Int} {sd td : List ByteArray} {p1 p2 : Option Addr} {c1 c2 n1 n2 : Nat} {wx wy : World} (hb : Below wx.heap.size wx wy) (h1 : Hid (sd.length = n1)) (h2 : Hid (td.length = n2)) (h : S2S b1 o1 b2 o2 sn tn st sc su tt tc tu (.slice p1 n1 c1) (.slice p2 n2 c2) (S2 w b1 o1 b2 o2 ⟨⟨sn, st, sc⟩, su, sd⟩ ⟨⟨tn, tt, tc⟩, tu, td⟩ p1 p2 c1 c2) wx) : S2S b1 o1 b2 o2 sn tn st sc su tt tc tu (.slice p1 n1 c1) (.slice p2 n2 c2) (S2 w b1 o1 b2 o2 ⟨⟨sn, st, sc⟩, su, sd⟩ ⟨⟨tn, tt, tc⟩, tu, td⟩ p1 p2 c1 c2) wy := by
  obtain ⟨k1, k2, k3⟩ := h.1.out
  have h5 : S2 w b1 o1 b2 o2 ⟨⟨sn, st, sc⟩, su, sd⟩ ⟨⟨tn, tt, tc⟩, tu, td⟩ p1 p2 c1 c2 wy := ⟨k1.trans (hb.mono k1.size), k2, k3⟩
  have h6 := h5.shown
  rw [h1.out, h2.out] at h6
  exact h6
theorem S2S.get {w : World} {b1 o1 b2 o2 : Nat} {sn tn : ByteArray} {st sc su tt tc tu : Int} {sd td : List ByteArray} {p1 p2 : Option Addr} {c1 c2 : Nat} {dv1 dv2 : Value} {wx : World} (h : S2S b1 o1 b2 o2 sn tn st sc su tt tc tu dv1 dv2 (S2 w b1 o1 b2 o2 ⟨⟨sn, st, sc⟩, su, sd⟩ ⟨⟨tn, tt, tc⟩, tu, td⟩ p1 p2 c1 c2) wx) : Below w.heap.size w wx := h.1.out.1
theorem rsame_at2 (an : ByteArray) (at1 ac au : Int) (ad : List ByteArray) (bn : ByteArray) (bt bc bu : Int) (bd : List ByteArray) (pa pb : Option Addr) (al bl ca cb : Nat) (w : World) (ha : RowS w pa al ad) (hb : RowS w pb bl bd) (hl : al ≤ 1000000) : Calls Try.prog 63 #[.agg #[.string an, .int .i64 at1, .int .i64 ac, .int .i64 au, .slice pa al ca], .agg #[.string bn, .int .i64 bt, .int .i64 bc, .int .i64 bu, .slice pb bl cb]] w fun e w' => e = .returned (.bool (sameP ⟨⟨an, at1, ac⟩, au, ad⟩ ⟨⟨bn, bt, bc⟩, bu, bd⟩)) ∧ Below w.heap.size w w' := by
  have h1 := ha.1
  have h2 := hb.1
  subst h1 h2
  exact rsame_any ⟨⟨an, at1, ac⟩, au, ad⟩ ⟨⟨bn, bt, bc⟩, bu, bd⟩ pa pb ca cb w ha hb hl
theorem sameP_iff (s t : SetP) : sameP s t = true ↔ s = t := by
  obtain ⟨⟨n, a, c⟩, u, d⟩ := s
  obtain ⟨⟨n', a', c'⟩, u', d'⟩ := t
  have h := key_same ⟨n, a, c⟩ ⟨n', a', c'⟩
  simp only [sameP, Bool.and_eq_true] at h ⊢
  simp only [SetP.mk.injEq]
  constructor
  · rintro ⟨h1, h2, h3⟩
    exact ⟨h.1 h1, by simpa using h2, by simpa using h3⟩
  · rintro ⟨h1, h2, h3⟩
    exact ⟨h.2 h1, by simpa using h2, by simpa using h3⟩
theorem list_next {L M : List SetP} {k : Nat} (h : ∀ j, j < k → L.getD j ssD = M.getD j ssD) (h1 : L.getD k ssD = M.getD k ssD) : ∀ j, j < k + 1 → L.getD j ssD = M.getD j ssD := by
  intro j hj
  by_cases e : j = k
  · rw [e]; exact h1
  · exact h j (by omega)
theorem list_all {L M : List SetP} {n : Nat} (hl : L.length = n) (hm : M.length = n) (h : ∀ j, j < n → L.getD j ssD = M.getD j ssD) : L = M := by
  apply List.ext_getElem (by omega)
  intro i h1 h2
  have h3 := h i (by omega)
  rw [List.getD_eq_getElem?_getD, List.getD_eq_getElem?_getD, List.getElem?_eq_getElem h1, List.getElem?_eq_getElem h2] at h3
  exact h3

end Go.Proofs.Ythfnphcefkdgbaa
