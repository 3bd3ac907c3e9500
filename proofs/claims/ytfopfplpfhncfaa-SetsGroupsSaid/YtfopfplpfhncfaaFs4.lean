/- The examples of chapter 4 hold. -/
import Derived.Test.YtfopfplpfhncfaaGrW
import Derived.Test.YtfopfplpfhncfaaMgE
namespace Go.Proofs.Ytfopfplpfhncfaa
open Go.RowKit

def r4a : R5 := ⟨⟨⟨#[0]⟩, 1, 1⟩, 5, ⟨#[1, 1, 1, 2]⟩⟩
def r4b : R5 := ⟨⟨⟨#[0]⟩, 1, 1⟩, 3, ⟨#[1, 1, 1, 1]⟩⟩
theorem perm2 {a b : R5} {l : List R5} (h : l.Perm [a, b]) : l = [a, b] ∨ l = [b, a] := by
  have hl := h.length_eq
  match l, hl with
  | [x, y], _ =>
    have hx : x ∈ [a, b] := h.mem_iff.1 (by simp)
    rcases List.mem_cons.1 hx with rfl | hx
    · left
      have h2 := List.Perm.cons_inv h
      rw [List.perm_singleton] at h2
      simpa using h2
    · right
      obtain rfl := List.mem_singleton.1 hx
      have h2 := List.Perm.cons_inv (h.trans (List.Perm.swap x a []))
      rw [List.perm_singleton] at h2
      simpa using h2
theorem first_grp {l : List R5} (h : l.Perm [r4a, r4b]) (hs : SortedR l) : grpK l 2 = [⟨⟨⟨#[0]⟩, 1, 1⟩, 3, [⟨#[1, 1, 1, 1]⟩, ⟨#[1, 1, 1, 2]⟩]⟩] := by
  rcases perm2 h with rfl | rfl
  · exfalso
    have h1 : rcmp r4a r4b ≤ 0 := by
      have := hs
      rw [SortedR, List.pairwise_cons] at this
      exact this.1 r4b (by simp)
    have hkk : kcmp r4a.k r4b.k = 0 := (ord_kcmp.zero _ _).2 rfl
    rw [rcmp, or2, hkk, if_pos rfl] at h1
    have h2 : cmpB r4a.d r4b.d = 1 := by decide +kernel
    omega
  · have hne : ¬ (some (⟨#[1, 1, 1, 1]⟩ : ByteArray) = some ⟨#[1, 1, 1, 2]⟩) := by decide
    have g1 : grpK [r4b, r4a] 1 = [⟨⟨⟨#[0]⟩, 1, 1⟩, 3, [⟨#[1, 1, 1, 1]⟩]⟩] := by
      simp [grpK, addD, r4a, r4b]
    rw [grpK, g1]
    simp [lastOr, addD, r4a, r4b]
    omega

theorem rowS_cells {w : World} {a : Option Addr} {n : Nat} {l : List ByteArray} (h : CellsAt w a n (sc l)) : RowS w a n l := by
  have hl : l.length = n := by have := h.1; rw [sc, List.length_map] at this; exact this
  refine ⟨hl, ?_⟩
  rcases h.2 with h0 | ⟨b, off, rfl, hlt, hc⟩
  · exact Or.inl h0
  · exact Or.inr ⟨b, off, rfl, hlt, fun j hj => hc j _ (by simp [sc, List.getD_eq_getElem?_getD, List.getElem?_eq_getElem (show j < l.length by omega)])⟩
theorem rowS_lit2 (w : World) (x y : ByteArray) (T : TypeId) : RowS (w.alloc (.cells #[.string x, .string y] T)) (some ⟨w.heap.size, 0, none⟩) 2 [x, y] := rowS_cells (cells_lit w #[.string x, .string y] T)

set_option maxRecDepth 100000 in
set_option maxHeartbeats 1600000 in
theorem first4 (w : World) : Calls Try.prog 9 #[] w fun e w' => e = .returned (.bool true) ∧ Below w.heap.size w w' := by
  have hrow : RowR (w.alloc (.cells #[.string ⟨#[0]⟩, .int .i64 1, .int .i64 1, .int .i64 5, .string ⟨#[1, 1, 1, 2]⟩, .string ⟨#[0]⟩, .int .i64 1, .int .i64 1, .int .i64 3, .string ⟨#[1, 1, 1, 1]⟩] 91)) (some ⟨w.heap.size, 0, none⟩) 2 [r4a, r4b] :=
    ⟨rfl, cells_lit w #[.string ⟨#[0]⟩, .int .i64 1, .int .i64 1, .int .i64 5, .string ⟨#[1, 1, 1, 2]⟩, .string ⟨#[0]⟩, .int .i64 1, .int .i64 1, .int .i64 3, .string ⟨#[1, 1, 1, 1]⟩] 91⟩
  have hG := groupLoop (some ⟨w.heap.size, 0, none⟩) 2 2 [r4a, r4b] _ hrow (fun h => by cases h) (by omega) (fun r hr => by
    simp only [List.mem_cons, List.not_mem_nil, or_false] at hr
    rcases hr with rfl | rfl <;> decide)
  have HG := Lib.hid hG
  have HB := Lib.hid ((Below.refl w.heap.size w).alloc (Nat.le_refl _) (.cells #[.string ⟨#[0]⟩, .int .i64 1, .int .i64 1, .int .i64 5, .string ⟨#[1, 1, 1, 2]⟩, .string ⟨#[0]⟩, .int .i64 1, .int .i64 1, .int .i64 3, .string ⟨#[1, 1, 1, 1]⟩] 91))
  clear hG hrow
  go_enter Try.func9, Try.ntmps9
  go_wp2_with fail
  refine HG.out.mono ?_; rintro e w1 ⟨v, l', L, rfl, hp, hs, hos, hL, hb⟩
  rw [first_grp hp hs] at hL
  obtain ⟨⟨s0, dv⟩, rfl⟩ : ∃ p, L = [p] := List.length_eq_one_iff.1 (by have := congrArg List.length hL; simpa using this)
  simp only [List.map_cons, List.map_nil, List.cons.injEq, and_true] at hL
  subst hL
  obtain ⟨gs, cs, rfl, hgB, hgs⟩ := OwnSets.shape (L0 := []) hos
  have hl := OwnSets.last (L0 := []) hos
  have hk := ownsRow_at hos.1
  have k0 := hk 0 _ rfl
  have k1 := hk 1 _ rfl
  have k2 := hk 2 _ rfl
  have k3 := hk 3 _ rfl
  have k4 := hk 4 _ rfl
  have HB1 := Lib.hid (HB.out.trans (hb.mono HB.out.size))
  have hd := hl.2.2.2
  obtain ⟨da, dc, rfl, hdc, _⟩ := cells_own hd
  have HR := Lib.hid (rowS_cells hdc)
  have HBT := Lib.hid ((Below.refl w1.heap.size w1).alloc (Nat.le_refl _) (.cells #[.string ⟨#[1, 1, 1, 1]⟩, .string ⟨#[1, 1, 1, 2]⟩] 9))
  have HT := Lib.hid (sameS4_self da (some ⟨w1.heap.size, 0, none⟩) 2 dc 2 [⟨#[1, 1, 1, 1]⟩, ⟨#[1, 1, 1, 2]⟩] _ (HR.out.below HBT.out) (rowS_lit2 w1 ⟨#[1, 1, 1, 1]⟩ ⟨#[1, 1, 1, 2]⟩ 9) (by omega))
  have HI := Lib.hid (fun wx => isK ⟨⟨#[0]⟩, 1, 1⟩ (some ⟨wx.heap.size, 0, none⟩) 2 2 [1, 28] _ (row2_lit wx 1 28 3) (by omega))
  clear hl hk hos hp hs hd hdc hb HG
  go_wp2_with fail
  refine HT.out.mono ?_; rintro e w3 ⟨rfl, hb3⟩
  have HB3 := Lib.hid (HBT.out.trans (hb3.mono HBT.out.size))
  have m0 := (HB3.out.cell (p := ⟨gs, 0, none⟩) hgs).trans k0
  have m1 := (HB3.out.cell (p := ⟨gs, 1, none⟩) hgs).trans k1
  have m2 := (HB3.out.cell (p := ⟨gs, 2, none⟩) hgs).trans k2
  have HB4 := Lib.hid (HB1.out.trans (HB3.out.mono HB1.out.size))
  clear hb3 k0 k1 k2 k3 k4
  go_wp2_with fail
  refine (HI.out w3).mono ?_; rintro e w4 ⟨rfl, hb4⟩
  have HB5 := Lib.hid ((HB4.out.alloc HB4.out.size (.cells #[.int .i64 1, .int .i64 28] 3)).trans (hb4.mono (by have := HB4.out.size; simp; omega)))
  clear hb4
  have hd1 : decide ((1 : Int) ∈ [(1 : Int), 28]) = true := by decide
  go_wp2
  go_ret
  exact ⟨rfl, HB5.out⟩
end Go.Proofs.Ytfopfplpfhncfaa
