/- Slices of texts: cloned, compared, searched; sets: same, copied, has. -/
import Derived.Test.YtgdhbelcellabaaSkA
namespace Go.Proofs.Ytgdhbelcellabaa
open Go.RowKit

noncomputable def memS (x : ByteArray) (l : List ByteArray) : Bool := open Classical in if x ∈ l then true else false
theorem memS_t {x : ByteArray} {l : List ByteArray} (h : x ∈ l) : memS x l = true := if_pos h
theorem memS_f {x : ByteArray} {l : List ByteArray} (h : ¬ x ∈ l) : memS x l = false := if_neg h
set_option maxRecDepth 100000 in
theorem indexS (a : Option Addr) (n c : Nat) (l : List ByteArray) (x : ByteArray) (w : World) (h : RowS w a n l) (hn : n ≤ 1000000) : Calls Try.prog 77 #[.slice a n c, .string x] w fun e w' => (∃ i : Int, e = .returned (.int .i64 i) ∧ (0 ≤ i ↔ x ∈ l)) ∧ w = w' := by
  have HR := Lib.hid h
  have HL := Lib.hid h.1
  clear h
  go_enter Try.func77, Try.ntmps77
  go_wp2_with fail
  go_loopw [8] (fun i wr => ∃ k : Nat, k ≤ n ∧ i = .int .i64 k ∧ Hid (∀ j, j < k → l.getD j ByteArray.empty ≠ x) ∧ w = wr) (fun i _ => n - (intOf i).toNat)
  case atStart => exact ⟨0, Nat.zero_le _, rfl, (fun j hj => absurd hj (Nat.not_lt_zero j)), rfl⟩
  case round =>
    obtain ⟨k, hk, rfl, ho, rfl⟩ := hrel
    by_cases hlt : k < n
    · rcases HR.out.2 with h0 | ⟨b, off, rfl, hb, hc⟩
      · omega
      have c0 := hc k hlt
      obtain ⟨y, hy⟩ : ∃ y, l.getD k ByteArray.empty = y := ⟨_, rfl⟩
      rw [hy] at c0
      have HY := Lib.hid hy
      clear hc hy
      by_cases hxy : x = y
      · have e0 : (x.toList == y.toList) = true := by rw [hxy]; simp
        have HM := Lib.hid (show x ∈ l by
          rw [hxy, ← HY.out, List.getD_eq_getElem?_getD, List.getElem?_eq_getElem (by have := HL.out; omega)]
          exact List.getElem_mem _)
        clear hxy
        go_wp2
        go_ret
        exact ⟨⟨k, rfl, ⟨fun _ => HM.out, fun _ => by omega⟩⟩, rfl⟩
      · have e0 : (x.toList == y.toList) = false := by
          rw [beq_eq_false_iff_ne]
          exact fun h => hxy (toList_inj4 h)
        have HN := Lib.hid (show ∀ j, j < k + 1 → l.getD j ByteArray.empty ≠ x from fun j hj => by
          by_cases e : j = k
          · subst e; rw [HY.out]; exact fun h => hxy h.symm
          · exact ho.out j (by omega))
        clear hxy
        go_wp2
        go_roundw
        case rel => exact ⟨k + 1, by omega, by go_num, HN.out, trivial⟩
        case measure => simp [intOf]; omega
    · have hkn : k = n := by omega
      have HN := Lib.hid (show ¬ x ∈ l from fun h => by
        obtain ⟨j, hj, e⟩ := List.mem_iff_getElem.1 h
        refine ho.out j (by have := HL.out; omega) ?_
        rw [List.getD_eq_getElem?_getD, List.getElem?_eq_getElem hj]; exact e)
      subst hkn
      go_wp2
      go_ret
      exact ⟨⟨-1, rfl, ⟨fun h => absurd h (by omega), fun h => absurd h HN.out⟩⟩, rfl⟩
set_option maxRecDepth 100000 in
theorem containsS (a : Option Addr) (n c : Nat) (l : List ByteArray) (x : ByteArray) (w : World) (h : RowS w a n l) (hn : n ≤ 1000000) : Calls Try.prog 47 #[.slice a n c, .string x] w fun e w' => e = .returned (.bool (memS x l)) ∧ w = w' := by
  have HI := Lib.hid (indexS a n c l x w h hn)
  clear h
  go_enter Try.func47, Try.ntmps47
  go_wp2_with fail
  refine HI.out.mono ?_; rintro e w' ⟨⟨i, rfl, hi⟩, rfl⟩
  by_cases h0 : 0 ≤ i
  · have d := dT h0
    have HV := Lib.hid (show memS x l = true from memS_t (hi.1 h0))
    go_wp2
    go_ret
    exact ⟨by first | rfl | exact ret_bool HV.out.symm, rfl⟩
  · have d := dF h0
    have HV := Lib.hid (show memS x l = false from memS_f (fun h => h0 (hi.2 h)))
    go_wp2
    go_ret
    exact ⟨by first | rfl | exact ret_bool HV.out.symm, rfl⟩

theorem cells_rowS {w : World} {a : Option Addr} {n : Nat} {l : List ByteArray} (h : RowS w a n l) : CellsAt w a n (sc l) := by
  refine ⟨by rw [sc, List.length_map]; exact h.1, ?_⟩
  rcases h.2 with h0 | ⟨b, off, rfl, hlt, hc⟩
  · exact Or.inl h0
  · refine Or.inr ⟨b, off, rfl, hlt, fun j u hj => ?_⟩
    rw [sc, List.getElem?_map] at hj
    have hjl : j < l.length := by
      cases e : l[j]? with
      | none => rw [e] at hj; cases hj
      | some x => exact (List.getElem?_eq_some_iff.1 e).1
    have h1 := hc j (by rw [← h.1]; exact hjl)
    rw [List.getElem?_eq_getElem hjl] at hj
    rw [h1, List.getD_eq_getElem?_getD, List.getElem?_eq_getElem hjl]
    exact hj
set_option maxRecDepth 100000 in
theorem cloneS4 (a : Option Addr) (n c : Nat) (l : List ByteArray) (w : World) (h : RowS w a n l) (hn : a = none → n = 0 ∧ c = 0) (hlen : n ≤ 100000) :
    Calls Try.prog 76 #[.slice a n c] w fun e w' => ∃ v, e = .returned v ∧ w'.ownsRow w.heap.size 9 1 v n (sc l) ∧ Below w.heap.size w w' := by
  obtain ⟨i0, hi, hz0, hz1, hz2⟩ := info_parts infoStr
  have HN := Lib.hid hn
  cases a with
  | none =>
    obtain ⟨rfl, rfl⟩ := hn rfl
    have hl0 : l = [] := List.eq_nil_of_length_eq_zero h.1
    subst hl0
    clear h hn
    have he : (binOp .eql 37 (.slice none 0 0) (.slice none 0 0)).run Try.prog w = .ok (.bool true) w := Lib.run_eql_slice_nil w 37 9 none 0 0 0 0 Try.underlying37
    go_enter Try.func76, Try.ntmps76
    go_wp2
    go_ret
    exact ⟨_, rfl, World.ownsRow_nil _ _ _ _, Below.refl _ _⟩
  | some ad =>
    have HH := Lib.hid (show CellsAt (w.alloc (.cells #[] 9)) (some ad) n (sc l) from (cells_rowS h).below ((Below.refl _ _).alloc (Nat.le_refl _) _))
    have HO := Lib.hid (show (w.alloc (.cells #[] 9)).ownsRow w.heap.size 9 1 (.slice (some ⟨w.heap.size, 0, none⟩) 0 0) 0 [] from World.ownsRow_made w #[] 0 (Nat.le_refl _) (Nat.zero_le _) rfl)
    have HB := Lib.hid ((Below.refl w.heap.size w).alloc (Nat.le_refl _) (.cells #[] 9))
    clear h hn
    have he : (binOp .eql 37 (.slice (some ad) n c) (.slice none 0 0)).run Try.prog w = .ok (.bool false) w := Lib.run_eql_slice_nil w 37 9 (some ad) n c 0 0 Try.underlying37
    go_enter Try.func76, Try.ntmps76
    go_wp2_with (first | (at_builtin; refine append_cells rfl _ _ 37 9 rfl i0 _ 16 Try.underlying37 hi hz0 hz1 hz2 rfl w.heap.size _ 0 _ rfl HO.out (some ad) n c (sc l) rfl HN.out HH.out (sc_oneCell l) (by omega) (by decide) (by simp) ?_))
    intro v' w' ho hg
    go_wp2
    go_ret
    exact ⟨v', rfl, by simpa using ho, HB.out.grown hg (by simp) (fun k hk => (HO.out.lt k hk).1)⟩

-- EQ
/-- Two rows of texts. -/
theorem equalS4 (a b : Option Addr) (n m ca cb : Nat) (l r : List ByteArray) (w : World) (ha : RowS w a n l) (hb : RowS w b m r) (hn : n ≤ 1000000) :
    Calls Try.prog 59 #[.slice a n ca, .slice b m cb] w fun e w' => e = .returned (.bool (decide (l = r))) ∧ ∃ k, w' = w.drewN k := by
  have HA := Lib.hid ha
  have HB := Lib.hid hb
  have hla := ha.1
  have hlb := hb.1
  clear ha hb
  by_cases hnm : n = m
  · subst hnm
    have e0 : ((n : Int) != (n : Int)) = false := nF rfl
    have HLA := Lib.hid hla
    have HLB := Lib.hid hlb
    clear hla hlb
    go_enter Try.func59, Try.ntmps59
    go_wp2
    go_loopw [13] (fun i wr => ∃ k q : Nat, k ≤ n ∧ i = .int .i64 k ∧ (∀ j, j < k → l.getD j ByteArray.empty = r.getD j ByteArray.empty) ∧ wr = w.drewN q) (fun i _ => n - (intOf i).toNat)
    case atStart => exact ⟨0, 0, Nat.zero_le _, rfl, fun j hj => absurd hj (by omega), rfl⟩
    case round =>
      obtain ⟨k, q, hk, rfl, hal, rfl⟩ := hrel
      have HAL := Lib.hid hal
      clear hal
      by_cases hlt : k < n
      · rcases HA.out.2 with h0 | ⟨b1, o1, rfl, _, hc1⟩
        · omega
        rcases HB.out.2 with h0 | ⟨b2, o2, rfl, _, hc2⟩
        · omega
        obtain ⟨s, hs⟩ : ∃ s, l.getD k ByteArray.empty = s := ⟨_, rfl⟩
        obtain ⟨t, ht⟩ : ∃ t, r.getD k ByteArray.empty = t := ⟨_, rfl⟩
        have g1 := hc1 k hlt
        have g2 := hc2 k hlt
        rw [hs] at g1
        rw [ht] at g2
        have HS := Lib.hid hs
        have HT := Lib.hid ht
        clear hc1 hc2 hs ht
        have i1 : (k : Int) < (n : Int) := by omega
        by_cases e : s = t
        · subst e
          go_wp2_with fail
          go_quiet (fail)
          go_wp2
          rename_i nq
          go_roundw
          case rel => exact ⟨k + 1, q + nq, by omega, by go_num, row_next4 HAL.out (HS.out.trans HT.out.symm), rfl⟩
          case measure => simp [intOf]; omega
        · have eb : (s.toList == t.toList) = false := by
            rw [beq_eq_false_iff_ne]
            intro h
            exact e (toList_inj4 h)
          have HV := Lib.hid (show decide (l = r) = false by
            apply dF
            intro h
            subst h
            exact e (HS.out.symm.trans HT.out))
          clear e
          go_wp2_with fail
          go_quiet (fail)
          go_wp2
          rename_i nq
          go_returns
          exact ⟨ret_bool HV.out.symm, _, by first | rfl | exact drewN_add _ _ _⟩
      · have hkn : k = n := by omega
        subst hkn
        have HV := Lib.hid (show decide (l = r) = true by
          apply dT
          refine List.ext_getElem (by rw [HLA.out, HLB.out]) ?_
          intro i h1 h2
          have := HAL.out i (by rw [← HLA.out]; exact h1)
          rw [List.getD_eq_getElem?_getD, List.getD_eq_getElem?_getD, List.getElem?_eq_getElem h1, List.getElem?_eq_getElem h2] at this
          exact this)
        go_wp2
        go_returns
        exact ⟨ret_bool HV.out.symm, q, rfl⟩
  · have e0 : ((n : Int) != (m : Int)) = true := nT (by omega)
    have hne : l ≠ r := by intro e; rw [e] at hla; omega
    have HV := Lib.hid (dF hne)
    clear hne hla hlb
    go_enter Try.func59, Try.ntmps59
    go_wp2
    go_returns
    exact ⟨ret_bool HV.out.symm, 0, rfl⟩


theorem equalS4b (a b : Option Addr) (n m ca cb : Nat) (l r : List ByteArray) (w : World) (ha : RowS w a n l) (hb : RowS w b m r) (hn : n ≤ 1000000) : Calls Try.prog 59 #[.slice a n ca, .slice b m cb] w fun e w' => e = .returned (.bool (decide (l = r))) ∧ Below w.heap.size w w' :=
  (equalS4 a b n m ca cb l r w ha hb hn).mono fun _ _ ⟨h1, k, h2⟩ => ⟨h1, by rw [h2]; exact below_drewN (Below.refl _ _) k⟩
theorem sameS4b (a b : Option Addr) (n m ca cb : Nat) (l r : List ByteArray) (w : World) (ha : RowS w a n l) (hb : RowS w b m r) (hn : n ≤ 1000000) : Calls Try.prog 74 #[.slice a n ca, .slice b m cb] w fun e w' => e = .returned (.bool (decide (l = r))) ∧ Below w.heap.size w w' :=
  (sameS4 a b n m ca cb l r w ha hb hn).mono fun _ _ ⟨h1, k, h2⟩ => ⟨h1, by rw [h2]; exact below_drewN (Below.refl _ _) k⟩
theorem rkey_equal (an bn : ByteArray) (at1 ac bt bk : Int) (W : World) : (Op.equalIn 10000 78 (.agg #[.string an, .int .i64 at1, .int .i64 ac]) (.agg #[.string bn, .int .i64 bt, .int .i64 bk])).run Try.prog W = .ok (an.toList == bn.toList && (at1 == bt && ac == bk)) W := by
  have u3 := Try.underlying3
  have a3 := Try.isAgg3
  have z3 := Try.sizeOf3
  have u9 := Try.underlying9
  have a9 := Try.isAgg9
  have z9 := Try.sizeOf9
  have hS : Try.prog.underlying 78 = some (.struct (Try.prog.fieldsOf 78)) := by
    simp [Program.fieldsOf, Try.underlying78]
  rw [show (10000 : Nat) = 9999 + 1 from rfl, run_equalIn_agg W 9999 78 _ _ hS (by kernel_rfl)]
  simp only [Program.fieldsOf, Try.underlying78]
  go_simp
  by_cases h1 : an.toList = bn.toList <;> by_cases h2 : at1 = bt <;> by_cases h3 : ac = bk <;> simp [h1, h2, h3]
theorem rkey_neq (an bn : ByteArray) (at1 ac bt bk : Int) (W : World) : (binOp .neq 78 (.agg #[.string an, .int .i64 at1, .int .i64 ac]) (.agg #[.string bn, .int .i64 bt, .int .i64 bk])).run Try.prog W = .ok (.bool (!(an.toList == bn.toList && (at1 == bt && ac == bk)))) W := by
  rw [run_neq_struct, rkey_equal]; rfl
theorem rkey_eql (an bn : ByteArray) (at1 ac bt bk : Int) (W : World) : (binOp .eql 78 (.agg #[.string an, .int .i64 at1, .int .i64 ac]) (.agg #[.string bn, .int .i64 bt, .int .i64 bk])).run Try.prog W = .ok (.bool (an.toList == bn.toList && (at1 == bt && ac == bk))) W := by
  rw [run_eql_struct, rkey_equal]; rfl

def sameP (a b : SetP) : Bool := (a.k.n.toList == b.k.n.toList && (a.k.t == b.k.t && a.k.c == b.k.c)) && ((a.ttl == b.ttl) && decide (a.data = b.data))

set_option maxRecDepth 100000 in
set_option maxHeartbeats 1600000 in
theorem same_any (a b : SetP) (pa pb : Option Addr) (ca cb : Nat) (w : World) (ha : RowS w pa a.data.length a.data) (hb : RowS w pb b.data.length b.data) (hl : a.data.length ≤ 1000000) : Calls Try.prog 31 #[.agg #[.string a.k.n, .int .i64 a.k.t, .int .i64 a.k.c, .int .i64 a.ttl, .slice pa a.data.length ca], .agg #[.string b.k.n, .int .i64 b.k.t, .int .i64 b.k.c, .int .i64 b.ttl, .slice pb b.data.length cb]] w fun e w' => e = .returned (.bool (sameP a b)) ∧ Below w.heap.size w w' := by
  obtain ⟨⟨an, at1, ac⟩, au, ad⟩ := a
  obtain ⟨⟨bn, bt, bk⟩, bu, bd⟩ := b
  have hv : sameP ⟨⟨an, at1, ac⟩, au, ad⟩ ⟨⟨bn, bt, bk⟩, bu, bd⟩ = ((an.toList == bn.toList && (at1 == bt && ac == bk)) && ((au == bu) && decide (ad = bd))) := rfl
  have hke := key_eql an bn at1 ac bt bk
  obtain ⟨la, hla⟩ : ∃ x, ad.length = x := ⟨_, rfl⟩
  obtain ⟨lb, hlb⟩ : ∃ x, bd.length = x := ⟨_, rfl⟩
  have ha : RowS w pa la ad := by rw [← hla]; exact ha
  have hb : RowS w pb lb bd := by rw [← hlb]; exact hb
  have hl : la ≤ 1000000 := by rw [← hla]; exact hl
  show Calls Try.prog _ #[.agg #[.string an, .int .i64 at1, .int .i64 ac, .int .i64 au, .slice pa ad.length ca], .agg #[.string bn, .int .i64 bt, .int .i64 bk, .int .i64 bu, .slice pb bd.length cb]] w _
  rw [hla, hlb]
  have h1 := (Below.refl w.heap.size w).alloc (Nat.le_refl _) (.cells #[.string an, .int .i64 at1, .int .i64 ac, .int .i64 au, .slice pa la ca] 39)
  have h2 := h1.alloc h1.size (.cells #[.string bn, .int .i64 bt, .int .i64 bk, .int .i64 bu, .slice pb lb cb] 39)
  have HB := Lib.hid h2
  have HE := Lib.hid (fun wx (hx : Below w.heap.size w wx) => equalS4b pa pb la lb ca cb ad bd wx (ha.below hx) (hb.below hx) hl)
  obtain ⟨e3, he3⟩ : ∃ x, decide (ad = bd) = x := ⟨_, rfl⟩
  obtain ⟨e1, he1⟩ : ∃ x, (an.toList == bn.toList && (at1 == bt && ac == bk)) = x := ⟨_, rfl⟩
  rw [he3, he1] at hv
  rw [he3] at HE
  rw [he1] at hke
  have HKE := Lib.hid hke
  clear he1 he3 ha hb h1 h2 hla hlb hke
  cases e1 with
  | false =>
    have HV := Lib.hid (hv.trans (by rfl : _ = false))
    have hke := HKE.out
    clear hv
    go_enter Try.func31, Try.ntmps31
    go_wp2
    go_ret
    exact ⟨ret_bool HV.out.symm, HB.out⟩
  | true =>
    have hke := HKE.out
    by_cases e2 : au = bu
    · have e4 : (au == bu) = true := eT e2
      rw [e4] at hv
      have HV := Lib.hid (hv.trans (by simp : _ = e3))
      clear hv e2
      go_enter Try.func31, Try.ntmps31
      go_wp2_with fail
      refine (HE.out _ HB.out).mono ?_; rintro e w' ⟨rfl, hq⟩
      have HB2 := Lib.hid (HB.out.trans (hq.mono HB.out.size))
      clear hq
      go_wp2
      go_ret
      exact ⟨ret_bool HV.out.symm, HB2.out⟩
    · have e4 : (au == bu) = false := eF e2
      rw [e4] at hv
      have HV := Lib.hid (hv.trans (by rfl : _ = false))
      clear hv e2
      go_enter Try.func31, Try.ntmps31
      go_wp2
      go_ret
      exact ⟨ret_bool HV.out.symm, HB.out⟩

set_option maxRecDepth 100000 in
set_option maxHeartbeats 1600000 in
theorem rsame_any (a b : SetP) (pa pb : Option Addr) (ca cb : Nat) (w : World) (ha : RowS w pa a.data.length a.data) (hb : RowS w pb b.data.length b.data) (hl : a.data.length ≤ 1000000) : Calls Try.prog 42 #[.agg #[.string a.k.n, .int .i64 a.k.t, .int .i64 a.k.c, .int .i64 a.ttl, .slice pa a.data.length ca], .agg #[.string b.k.n, .int .i64 b.k.t, .int .i64 b.k.c, .int .i64 b.ttl, .slice pb b.data.length cb]] w fun e w' => e = .returned (.bool (sameP a b)) ∧ Below w.heap.size w w' := by
  obtain ⟨⟨an, at1, ac⟩, au, ad⟩ := a
  obtain ⟨⟨bn, bt, bk⟩, bu, bd⟩ := b
  have hv : sameP ⟨⟨an, at1, ac⟩, au, ad⟩ ⟨⟨bn, bt, bk⟩, bu, bd⟩ = ((an.toList == bn.toList && (at1 == bt && ac == bk)) && ((au == bu) && decide (ad = bd))) := rfl
  have hke := rkey_eql an bn at1 ac bt bk
  obtain ⟨la, hla⟩ : ∃ x, ad.length = x := ⟨_, rfl⟩
  obtain ⟨lb, hlb⟩ : ∃ x, bd.length = x := ⟨_, rfl⟩
  have ha : RowS w pa la ad := by rw [← hla]; exact ha
  have hb : RowS w pb lb bd := by rw [← hlb]; exact hb
  have hl : la ≤ 1000000 := by rw [← hla]; exact hl
  show Calls Try.prog _ #[.agg #[.string an, .int .i64 at1, .int .i64 ac, .int .i64 au, .slice pa ad.length ca], .agg #[.string bn, .int .i64 bt, .int .i64 bk, .int .i64 bu, .slice pb bd.length cb]] w _
  rw [hla, hlb]
  have h1 := (Below.refl w.heap.size w).alloc (Nat.le_refl _) (.cells #[.string an, .int .i64 at1, .int .i64 ac, .int .i64 au, .slice pa la ca] 80)
  have h2 := h1.alloc h1.size (.cells #[.string bn, .int .i64 bt, .int .i64 bk, .int .i64 bu, .slice pb lb cb] 80)
  have HB := Lib.hid h2
  have HE := Lib.hid (fun wx (hx : Below w.heap.size w wx) => sameS4b pa pb la lb ca cb ad bd wx (ha.below hx) (hb.below hx) hl)
  obtain ⟨e3, he3⟩ : ∃ x, decide (ad = bd) = x := ⟨_, rfl⟩
  obtain ⟨e1, he1⟩ : ∃ x, (an.toList == bn.toList && (at1 == bt && ac == bk)) = x := ⟨_, rfl⟩
  rw [he3, he1] at hv
  rw [he3] at HE
  rw [he1] at hke
  have HKE := Lib.hid hke
  clear he1 he3 ha hb h1 h2 hla hlb hke
  cases e1 with
  | false =>
    have HV := Lib.hid (hv.trans (by rfl : _ = false))
    have hke := HKE.out
    clear hv
    go_enter Try.func42, Try.ntmps42
    go_wp2
    go_ret
    exact ⟨ret_bool HV.out.symm, HB.out⟩
  | true =>
    have hke := HKE.out
    by_cases e2 : au = bu
    · have e4 : (au == bu) = true := eT e2
      rw [e4] at hv
      have HV := Lib.hid (hv.trans (by simp : _ = e3))
      clear hv e2
      go_enter Try.func42, Try.ntmps42
      go_wp2_with fail
      refine (HE.out _ HB.out).mono ?_; rintro e w' ⟨rfl, hq⟩
      have HB2 := Lib.hid (HB.out.trans (hq.mono HB.out.size))
      clear hq
      go_wp2
      go_ret
      exact ⟨ret_bool HV.out.symm, HB2.out⟩
    · have e4 : (au == bu) = false := eF e2
      rw [e4] at hv
      have HV := Lib.hid (hv.trans (by rfl : _ = false))
      clear hv e2
      go_enter Try.func42, Try.ntmps42
      go_wp2
      go_ret
      exact ⟨ret_bool HV.out.symm, HB.out⟩
end Go.Proofs.Ytgdhbelcellabaa
