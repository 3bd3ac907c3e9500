/- Where a mark stands among the Waits; what the closures tell. -/
import Derived.Test.YtocfphijheidbaaTbB
import Derived.Test.YtocfphijheidbaaMgW
namespace Go.Proofs.Ytocfphijheidbaa
open Go.RowKit

set_option maxRecDepth 100000 in
theorem indexI (a : Option Addr) (n c : Nat) (l : List Int) (x : Int) (w : World) (h : Row w a n l) (hn : n ≤ 1000000) : Calls Try.prog 101 #[.slice a n c, .int .i64 x] w fun e w' => (∃ i : Int, e = .returned (.int .i64 i) ∧ (0 ≤ i ↔ x ∈ l)) ∧ w = w' := by
  have HR := Lib.hid h
  have HL := Lib.hid h.1
  clear h
  go_enter Try.func101, Try.ntmps101
  go_wp2_with fail
  go_loopw [8] (fun i wr => ∃ k : Nat, k ≤ n ∧ i = .int .i64 k ∧ Hid (∀ j, j < k → l.getD j 0 ≠ x) ∧ w = wr) (fun i _ => n - (intOf i).toNat)
  case atStart => exact ⟨0, Nat.zero_le _, rfl, (fun j hj => absurd hj (Nat.not_lt_zero j)), rfl⟩
  case round =>
    obtain ⟨k, hk, rfl, ho, rfl⟩ := hrel
    by_cases hlt : k < n
    · rcases HR.out.2 with h0 | ⟨b, off, rfl, hb, hc⟩
      · omega
      have c0 := hc k hlt
      obtain ⟨y, hy⟩ : ∃ y, l.getD k 0 = y := ⟨_, rfl⟩
      rw [hy] at c0
      have HY := Lib.hid hy
      clear hc hy
      by_cases hxy : x = y
      · have e0 : (x == y) = true := eT hxy
        have HM := Lib.hid (show x ∈ l by
          rw [hxy, ← HY.out, List.getD_eq_getElem?_getD, List.getElem?_eq_getElem (by have := HL.out; omega)]
          exact List.getElem_mem _)
        clear hxy
        go_wp2
        go_ret
        exact ⟨⟨k, rfl, ⟨fun _ => HM.out, fun _ => by omega⟩⟩, rfl⟩
      · have e0 : (x == y) = false := eF hxy
        have HN := Lib.hid (show ∀ j, j < k + 1 → l.getD j 0 ≠ x from fun j hj => by
          by_cases e : j = k
          · subst e; rw [HY.out]; exact fun h => hxy h.symm
          · exact ho.out j (by omega))
        clear hxy
        go_wp2
        go_roundw
        case rel => exact ⟨k + 1, by omega, by go_num, HN.out, trivial⟩
        case measure => simp [intOf]; omega
    · have hkn : k = n := by omega
      have HN := Lib.hid (show ¬ x ∈ l from fun h => by
        obtain ⟨j, hj, e⟩ := List.mem_iff_getElem.1 h
        refine ho.out j (by have := HL.out; omega) ?_
        rw [List.getD_eq_getElem?_getD, List.getElem?_eq_getElem hj]; exact e)
      subst hkn
      go_wp2
      go_ret
      exact ⟨⟨-1, rfl, ⟨fun h => absurd h (by omega), fun h => absurd h HN.out⟩⟩, rfl⟩
set_option maxRecDepth 100000 in
theorem containsI (a : Option Addr) (n c : Nat) (l : List Int) (x : Int) (w : World) (h : Row w a n l) (hn : n ≤ 1000000) : Calls Try.prog 89 #[.slice a n c, .int .i64 x] w fun e w' => e = .returned (.bool (decide (x ∈ l))) ∧ w = w' := by
  have HI := Lib.hid (indexI a n c l x w h hn)
  clear h
  go_enter Try.func89, Try.ntmps89
  go_wp2_with fail
  refine HI.out.mono ?_; rintro e w' ⟨⟨i, rfl, hi⟩, rfl⟩
  by_cases h0 : 0 ≤ i
  · have d := dT h0
    have HV := Lib.hid (show decide (x ∈ l) = true from dT (hi.1 h0))
    go_wp2
    go_ret
    exact ⟨by first | rfl | exact ret_bool HV.out.symm, rfl⟩
  · have d := dF h0
    have HV := Lib.hid (show decide (x ∈ l) = false from dF (fun h => h0 (hi.2 h)))
    go_wp2
    go_ret
    exact ⟨by first | rfl | exact ret_bool HV.out.symm, rfl⟩
set_option maxRecDepth 100000 in
theorem exp1_any (i p : Int) (x : ByteArray) (t : Bool) (nm : ByteArray) (ty cl jb un now : Int) (g : Nat) (w : World) (hk : w.cell? ⟨g, 0, none⟩ = some (.int .i64 now)) :
    Calls Try.prog 87 #[.agg #[.int .i64 i, .int .i64 p, .string x, .bool t, .string nm, .int .i64 ty, .int .i64 cl, .int .i64 jb, .int .i64 un], .pointer (some ⟨g, 0, none⟩)] w fun e w' => e = .returned (.bool (decide (un ≤ now))) ∧ Below w.heap.size w w' := by
  have hba := (Below.refl w.heap.size w).alloc (Nat.le_refl _) (.cells #[.int .i64 i, .int .i64 p, .string x, .bool t, .string nm, .int .i64 ty, .int .i64 cl, .int .i64 jb, .int .i64 un] 79)
  have HB := Lib.hid hba
  have m0 := cell_later hba hk
  clear hba hk
  by_cases h : un ≤ now
  · have d := dT h
    have HV := Lib.hid d
    go_enter Try.func87, Try.ntmps87
    go_wp2
    go_ret
    exact ⟨by first | rfl | exact ret_bool HV.out.symm, HB.out⟩
  · have d := dF h
    have HV := Lib.hid d
    go_enter Try.func87, Try.ntmps87
    go_wp2
    go_ret
    exact ⟨by first | rfl | exact ret_bool HV.out.symm, HB.out⟩
set_option maxRecDepth 100000 in
theorem drop1_any (i p : Int) (x : ByteArray) (t : Bool) (nm : ByteArray) (ty cl jb un : Int) (a : Option Addr) (n c : Nat) (l : List Int) (g : Nat) (w : World) (hk : w.cell? ⟨g, 0, none⟩ = some (.slice a n c)) (hr : Row w a n l) (hn : n ≤ 1000000) :
    Calls Try.prog 88 #[.agg #[.int .i64 i, .int .i64 p, .string x, .bool t, .string nm, .int .i64 ty, .int .i64 cl, .int .i64 jb, .int .i64 un], .pointer (some ⟨g, 0, none⟩)] w fun e w' => e = .returned (.bool (decide (jb ∈ l))) ∧ Below w.heap.size w w' := by
  have hba := (Below.refl w.heap.size w).alloc (Nat.le_refl _) (.cells #[.int .i64 i, .int .i64 p, .string x, .bool t, .string nm, .int .i64 ty, .int .i64 cl, .int .i64 jb, .int .i64 un] 79)
  have HB := Lib.hid hba
  have m0 := cell_later hba hk
  have HC := Lib.hid (containsI a n c l jb _ (hr.below hba) hn)
  clear hba hk hr
  go_enter Try.func88, Try.ntmps88
  go_wp2_with fail
  refine HC.out.mono ?_; rintro e w2 ⟨rfl, rfl⟩
  clear m0
  go_wp2
  go_ret
  exact ⟨rfl, HB.out⟩
theorem row_cellsW {w : World} {B gb n c k : Nat} {T : TypeId} {l : List WtP} (h : w.ownsRow B T 9 (.slice (some ⟨gb, 0, none⟩) n c) n (flatW l)) {r : WtP} (hr : l[k]? = some r) :
    w.cell? ⟨gb, k * 9, none⟩ = some (.int .i64 r.m.id) ∧ w.cell? ⟨gb, k * 9 + 1, none⟩ = some (.int .i64 r.m.port) ∧ w.cell? ⟨gb, k * 9 + 2, none⟩ = some (.string r.m.tx) ∧ w.cell? ⟨gb, k * 9 + 3, none⟩ = some (.bool r.m.tcp) ∧ w.cell? ⟨gb, k * 9 + 4, none⟩ = some (.string r.q.name) ∧ w.cell? ⟨gb, k * 9 + 5, none⟩ = some (.int .i64 r.q.ty) ∧ w.cell? ⟨gb, k * 9 + 6, none⟩ = some (.int .i64 r.q.cl) ∧ w.cell? ⟨gb, k * 9 + 7, none⟩ = some (.int .i64 r.job) ∧ w.cell? ⟨gb, k * 9 + 8, none⟩ = some (.int .i64 r.until_) := by
  have hg : ∀ i, i < 9 → ∀ u, (encW r)[i]? = some u → w.cell? ⟨gb, k * 9 + i, none⟩ = some u := fun i hi u hu => ownsRow_at h _ _ (by rw [flatW_at l k i r hr hi]; exact hu)
  exact ⟨hg 0 (by omega) _ rfl, hg 1 (by omega) _ rfl, hg 2 (by omega) _ rfl, hg 3 (by omega) _ rfl, hg 4 (by omega) _ rfl, hg 5 (by omega) _ rfl, hg 6 (by omega) _ rfl, hg 7 (by omega) _ rfl, hg 8 (by omega) _ rfl⟩
set_option maxRecDepth 100000 in
theorem ixf_any (B : Nat) (wv : Value) (n : Nat) (l : List WtP) (kj kr : Int) (ky : ByteArray) (ku : Bool) (g : Nat) (w : World) (h : w.ownsRow B 79 9 wv n (flatW l)) (hl : l.length = n) (hn : n ≤ 100000) (hk : w.cell? ⟨g, 0, none⟩ = some (.int .i64 kj) ∧ w.cell? ⟨g, 1, none⟩ = some (.int .i64 kr) ∧ w.cell? ⟨g, 2, none⟩ = some (.string ky) ∧ w.cell? ⟨g, 3, none⟩ = some (.bool ku)) :
    Calls Try.prog 98 #[wv, .func (Fn.func 99) #[] #[.pointer (some ⟨g, 0, none⟩)]] w fun e w' =>
      ((e = .returned (.int .i64 (-1)) ∧ ∀ s ∈ l, sameM s.m ⟨kj, kr, ky, ku⟩ = false) ∨ (∃ (k : Nat) (s : WtP), e = .returned (.int .i64 (k : Int)) ∧ l[k]? = some s ∧ sameM s.m ⟨kj, kr, ky, ku⟩ = true ∧ ∀ i s', i < k → l[i]? = some s' → sameM s'.m ⟨kj, kr, ky, ku⟩ = false)) ∧ Below w.heap.size w w' := by
  obtain ⟨a, c, rfl, -, hnil⟩ := cellsK_own h
  have HO := Lib.hid h
  have HK := Lib.hid hk
  have HL := Lib.hid hl
  have HNIL := Lib.hid hnil
  clear h hk hl hnil
  go_enter Try.func98, Try.ntmps98
  go_wp2_with fail
  go_loopw [8] (fun i wr => ∃ k : Nat, k ≤ n ∧ i = .int .i64 k ∧ Hid (∀ i s, i < k → l[i]? = some s → sameM s.m ⟨kj, kr, ky, ku⟩ = false) ∧ Hid (Below w.heap.size w wr)) (fun i _ => n - (intOf i).toNat)
  case atStart => exact ⟨0, Nat.zero_le _, rfl, Lib.hid (fun i s h => absurd h (Nat.not_lt_zero _)), Lib.hid (Below.refl _ _)⟩
  case round =>
    obtain ⟨k, hk, rfl, HF, HB⟩ := hrel
    by_cases hlt : k < n
    · obtain ⟨gb, c', e⟩ : ∃ gb c', (Value.slice a n c) = .slice (some ⟨gb, 0, none⟩) n c' := by
        rcases HO.out.2 with ⟨_, h1⟩ | ⟨g', cap, cur, e, _⟩
        · omega
        · exact ⟨g', cap, e⟩
      injection e with e1 _ e3
      subst e1
      subst e3
      obtain ⟨s, hs⟩ : ∃ s, l[k]? = some s := ⟨_, List.getElem?_eq_getElem (by have := HL.out; omega)⟩
      have HS := Lib.hid hs
      obtain ⟨f0, f1, f2, f3, f4, f5, f6, f7, f8⟩ := row_cellsW (own_below' HO.out HB.out) hs
      obtain ⟨⟨mi, mp, mx, mt⟩, ⟨mn, my, mc⟩, mj, mu⟩ := s
      obtain ⟨k0, k1, k2, k3⟩ := HK.out
      have HC := Lib.hid (find1_any mi mp mx mt mn my mc mj mu kj kr ky ku g wr ⟨cell_later HB.out k0, cell_later HB.out k1, cell_later HB.out k2, cell_later HB.out k3⟩)
      have i1 : (0 : Int) ≤ (k : Int) := by omega
      have i2 : (k : Int) < (n : Int) := by omega
      have d0 : decide (k < n) = true := dT hlt
      have HLT := Lib.hid hlt
      clear hs k0 k1 k2 k3
      obtain ⟨ok, hok⟩ : ∃ z, sameM ⟨mi, mp, mx, mt⟩ ⟨kj, kr, ky, ku⟩ = z := ⟨_, rfl⟩
      rw [hok] at HC
      have HOK := Lib.hid hok
      clear hok
      go_wp2_with fail
      refine HC.out.mono ?_; rintro e w2 ⟨rfl, hb2⟩
      have HB2 := Lib.hid (HB.out.trans (hb2.mono HB.out.size))
      clear hb2 f0 f1 f2 f3 f4 f5 f6 f7 f8
      cases ok
      · go_wp2
        go_roundw
        case rel => exact ⟨k + 1, HLT.out, by go_num, Lib.hid (fun i' s' h1 h2 => by
          by_cases e : i' = k
          · subst e; rw [HS.out] at h2; obtain rfl := Option.some.inj h2; exact HOK.out
          · exact HF.out i' s' (by omega) h2), HB2⟩
        case measure =>
          simp only [intOf]
          have := HLT.out
          omega
      · go_wp2
        go_ret
        exact ⟨Or.inr ⟨k, _, rfl, HS.out, HOK.out, HF.out⟩, HB2.out⟩
    · have d0 : decide (k < n) = false := dF hlt
      have hkn : k = n := by omega
      subst hkn
      clear hlt
      go_wp2
      go_ret
      exact ⟨Or.inl ⟨rfl, fun s hs => by
        obtain ⟨i, hi⟩ := List.getElem?_of_mem hs
        exact HF.out i s (by have := (List.getElem?_eq_some_iff.1 hi).1; have := HL.out; omega) hi⟩, HB.out⟩
set_option maxRecDepth 100000 in
theorem find_any (bs : List Nat) (q : Nat) (s : TbP) (kj kr : Int) (ky : ByteArray) (ku : Bool) (w : World) (h : TbS w bs q s) (hn : s.ws.length ≤ 100000) :
    Calls Try.prog 79 #[.pointer (some ⟨q, 0, none⟩), .agg #[.int .i64 kj, .int .i64 kr, .string ky, .bool ku]] w fun e w' =>
      ((e = .returned (.int .i64 (-1)) ∧ ∀ x ∈ s.ws, sameM x.m ⟨kj, kr, ky, ku⟩ = false) ∨ (∃ (k : Nat) (x : WtP), e = .returned (.int .i64 (k : Int)) ∧ s.ws[k]? = some x ∧ sameM x.m ⟨kj, kr, ky, ku⟩ = true ∧ ∀ i s', i < k → s.ws[i]? = some s' → sameM s'.m ⟨kj, kr, ky, ku⟩ = false)) ∧ Below w.heap.size w w' := by
  obtain ⟨wv, ⟨hc, ho⟩, -, -⟩ := h
  obtain ⟨-, -, c2, -, -⟩ := hc.u3
  have hba := (Below.refl w.heap.size w).alloc (Nat.le_refl _) (.cells #[.int .i64 kj, .int .i64 kr, .string ky, .bool ku] 69)
  have HB := Lib.hid hba
  have HC := Lib.hid (ixf_any 0 wv s.ws.length s.ws kj kr ky ku w.heap.size _ (own_below' ho hba) rfl hn ⟨by rw [World.cell?_alloc_new]; rfl, by rw [World.cell?_alloc_new]; rfl, by rw [World.cell?_alloc_new]; rfl, by rw [World.cell?_alloc_new]; rfl⟩)
  have m2 := cell_later hba c2
  obtain ⟨a, c, rfl, -, -⟩ := cellsK_own ho
  clear hba hc ho c2
  go_enter Try.func79, Try.ntmps79
  go_wp2_with fail
  refine HC.out.mono ?_; rintro e w2 ⟨h1, hb2⟩
  have HB2 := Lib.hid (HB.out.trans (hb2.mono HB.out.size))
  clear hb2 m2
  rcases h1 with ⟨rfl, h2⟩ | ⟨k, x, rfl, h2⟩
  · have HH := Lib.hid h2
    clear h2
    go_wp2
    go_ret
    exact ⟨Or.inl ⟨rfl, HH.out⟩, HB2.out⟩
  · have HH := Lib.hid h2
    clear h2
    go_wp2
    go_ret
    exact ⟨Or.inr ⟨k, x, rfl, HH.out⟩, HB2.out⟩
end Go.Proofs.Ytocfphijheidbaa
