/- RdataWrites: the walk. -/
import Derived.Test.YtgdbbdbfaglkdaaRdO
import Derived.Test.YtgdbbdbfaglkdaaRdD
namespace Go.Proofs.Ytgdbbdbfaglkdaa
open Go.RowKit

set_option maxRecDepth 100000 in
theorem soaConv (M R : ByteArray) (a b c d f : Int) (w : World) : Calls Try.prog 22 #[.agg #[.string M, .string R, .int .i64 a, .int .i64 b, .int .i64 c, .int .i64 d, .int .i64 f]] w fun e w' => e = .returned (.agg #[.string M, .string R, .int .i64 a, .int .i64 b, .int .i64 c, .int .i64 d, .int .i64 f]) ∧ Below w.heap.size w w' := by
  go_enter Try.func22, Try.ntmps22
  go_wp2
  refine bodyPost_ret (v := .agg #[.string M, .string R, .int .i64 a, .int .i64 b, .int .i64 c, .int .i64 d, .int .i64 f]) (by simp [results, Try.results22, go_sem]) rfl ⟨rfl, ?_⟩
  exact ((Below.refl _ _).alloc (Nat.le_refl _) _).alloc (by simp) _
set_option maxRecDepth 100000 in
theorem mdConv (a b c : Int) (D : ByteArray) (w : World) : Calls Try.prog 23 #[.agg #[.int .i64 a, .int .i64 b, .int .i64 c, .string D]] w fun e w' => e = .returned (.agg #[.int .i64 a, .int .i64 b, .int .i64 c, .string D]) ∧ Below w.heap.size w w' := by
  go_enter Try.func23, Try.ntmps23
  go_wp2
  refine bodyPost_ret (v := .agg #[.int .i64 a, .int .i64 b, .int .i64 c, .string D]) (by simp [results, Try.results23, go_sem]) rfl ⟨rfl, ?_⟩
  exact ((Below.refl _ _).alloc (Nat.le_refl _) _).alloc (by simp) _

/-- An SOA's fields, a digest's, in a block. -/
def SoaAt (w : World) (q : Nat) (M R : ByteArray) (a b c d f : Int) : Prop := q < w.heap.size ∧ w.cell? ⟨q, 0, none⟩ = some (.string M) ∧ w.cell? ⟨q, 1, none⟩ = some (.string R) ∧ w.cell? ⟨q, 2, none⟩ = some (.int .i64 a) ∧ w.cell? ⟨q, 3, none⟩ = some (.int .i64 b) ∧ w.cell? ⟨q, 4, none⟩ = some (.int .i64 c) ∧ w.cell? ⟨q, 5, none⟩ = some (.int .i64 d) ∧ w.cell? ⟨q, 6, none⟩ = some (.int .i64 f)
def MdAt (w : World) (q : Nat) (a b c : Int) (D : ByteArray) : Prop := q < w.heap.size ∧ w.cell? ⟨q, 0, none⟩ = some (.int .i64 a) ∧ w.cell? ⟨q, 1, none⟩ = some (.int .i64 b) ∧ w.cell? ⟨q, 2, none⟩ = some (.int .i64 c) ∧ w.cell? ⟨q, 3, none⟩ = some (.string D)
theorem SoaAt.below {w w' : World} {q : Nat} {M R : ByteArray} {a b c d f : Int} (h : SoaAt w q M R a b c d f) (hb : Below w.heap.size w w') : SoaAt w' q M R a b c d f := by
  obtain ⟨h0, h1, h2, h3, h4, h5, h6, h7⟩ := h
  exact ⟨Nat.lt_of_lt_of_le h0 hb.size, by rw [hb.cell h0]; exact h1, by rw [hb.cell h0]; exact h2, by rw [hb.cell h0]; exact h3, by rw [hb.cell h0]; exact h4, by rw [hb.cell h0]; exact h5, by rw [hb.cell h0]; exact h6, by rw [hb.cell h0]; exact h7⟩
theorem MdAt.below {w w' : World} {q : Nat} {a b c : Int} {D : ByteArray} (h : MdAt w q a b c D) (hb : Below w.heap.size w w') : MdAt w' q a b c D := by
  obtain ⟨h0, h1, h2, h3, h4⟩ := h
  exact ⟨Nat.lt_of_lt_of_le h0 hb.size, by rw [hb.cell h0]; exact h1, by rw [hb.cell h0]; exact h2, by rw [hb.cell h0]; exact h3, by rw [hb.cell h0]; exact h4⟩
theorem two_boxes (w : World) (M R : ByteArray) (a b c d f : Int) (x y z : Int) (D : ByteArray) (t u : TypeId) : SoaAt ((w.alloc (.cells #[.string M, .string R, .int .i64 a, .int .i64 b, .int .i64 c, .int .i64 d, .int .i64 f] t)).alloc (.cells #[.int .i64 x, .int .i64 y, .int .i64 z, .string D] u)) w.heap.size M R a b c d f ∧ MdAt ((w.alloc (.cells #[.string M, .string R, .int .i64 a, .int .i64 b, .int .i64 c, .int .i64 d, .int .i64 f] t)).alloc (.cells #[.int .i64 x, .int .i64 y, .int .i64 z, .string D] u)) (w.heap.size + 1) x y z D := by
  refine ⟨⟨by simp; omega, ?_, ?_, ?_, ?_, ?_, ?_, ?_⟩, ⟨by simp, ?_, ?_, ?_, ?_⟩⟩ <;> simp

theorem tx_bound {l : List ByteArray} {len : Nat} (hl : l.length = len) (hsz : ∀ s ∈ l, s.size ≤ maxLen) (k : Nat) (hk : k < len) : (tx l k).size ≤ 9223372036854775807 := by
  have hkl : k < l.length := by omega
  have := hsz l[k] (List.getElem_mem hkl)
  unfold maxLen at this
  rw [tx, List.getD_eq_getElem?_getD, List.getElem?_eq_getElem hkl]
  simp only [Option.getD_some]
  omega

set_option maxRecDepth 100000 in
set_option maxHeartbeats 4000000 in
theorem walkRWrites (M R : ByteArray) (a b c d f : Int) (x y z : Int) (D : ByteArray) (q : Option Addr) (lq cq : Nat) (l : List Int) (p : Option Addr) (lp cp : Nat) (m : List ByteArray) (w : World) (h : Row w q lq l) (hB : RowS w p lp m) (hsz : ∀ k, k < lp → (tx m k).size ≤ 9223372036854775807) :
    Calls Try.prog 4 #[.agg #[.string M, .string R, .int .i64 a, .int .i64 b, .int .i64 c, .int .i64 d, .int .i64 f], .agg #[.int .i64 x, .int .i64 y, .int .i64 z, .string D], .slice q lq cq, .slice p lp cp] w fun e w' => e = .returned (.bool true) ∧ Below w.heap.size w w' := by
  have HL := Lib.hid h
  have HP := Lib.hid hB
  have HSZ := Lib.hid hsz
  by_cases hz : M.size ≤ 1200 ∧ R.size ≤ 1200 ∧ D.size ≤ 1200 ∧ lq ≤ 500 ∧ lp ≤ 30
  · obtain ⟨z1, z2, z3, z4, z5⟩ := hz
    have d1 := dF (p := (1200 : Int) < (M.size : Int)) (by omega)
    have d2 := dF (p := (1200 : Int) < (R.size : Int)) (by omega)
    have d3 := dF (p := (1200 : Int) < (D.size : Int)) (by omega)
    have d4 := dF (p := (500 : Int) < (lq : Int)) (by omega)
    have d5 := dF (p := (30 : Int) < (lp : Int)) (by omega)
    clear h hB hsz
    go_enter Try.func4, Try.ntmps4
    go_wp2_with fail
    refine (rfirst _).mono ?_; rintro e w1 ⟨rfl, hb⟩
    have hS := two_boxes w M R a b c d f x y z D 26 33
    have S1 := Lib.hid (hS.1.below hb)
    have D1 := Lib.hid (hS.2.below hb)
    have HB1 := Lib.hid ((((Below.refl w.heap.size w).alloc (Nat.le_refl _) _).alloc (by simp) _).trans (hb.mono (by simp; omega)))
    clear hb hS
    obtain ⟨s0, s1, s2, _⟩ := S1.out
    obtain ⟨m0, _, _, _, m4⟩ := D1.out
    go_wp2_with fail
    clear s1 s2 m4
    go_loop [9] (fun i => ∃ k : Nat, k ≤ lp ∧ Short m k ∧ i = .int .i64 k) (fun i => lp - (intOf i).toNat)
    case atStart => exact ⟨0, Nat.zero_le _, fun j hj => absurd hj (by omega), rfl⟩
    case round =>
      obtain ⟨k, hk, hsh, rfl⟩ := hrel
      have HSH := Lib.hid hsh
      clear hsh
      by_cases hlt : k < lp
      · rcases HP.out.2 with hz | ⟨g, off, rfl, hbl, hc⟩
        · omega
        · obtain ⟨s, hs⟩ : ∃ s, tx m k = s := ⟨_, rfl⟩
          have hcell : w1.cell? ⟨g, off + k, none⟩ = some (.string s) := by rw [HB1.out.cell hbl, ← hs]; exact hc k hlt
          have hs9 := HSZ.out k hlt
          rw [hs] at hs9
          have HS := Lib.hid hs
          clear hc hs
          by_cases e : s.size ≤ 1200
          · have e1 := dF (p := (1200 : Int) < (s.size : Int)) (by omega)
            have HX := Lib.hid (short_next HSH.out (by rw [HS.out]; exact e))
            go_wp2
            go_round
            case rel => exact ⟨k + 1, by omega, HX.out, by go_num⟩
            case measure => simp [intOf]; omega
          · have e1 := dT (p := (1200 : Int) < (s.size : Int)) (by omega)
            go_wp2_with fail
            refine (rfirst _).mono ?_; rintro e w2 ⟨rfl, hb⟩
            have HB2 := Lib.hid (HB1.out.trans (hb.mono HB1.out.size)); clear hb
            go_wp2
            go_ret
            exact ⟨rfl, HB2.out⟩
      · have hkl : k = lp := by omega
        subst hkl
        obtain ⟨s0, s1, s2, s3, s4, s5, s6, s7⟩ := S1.out
        go_wp2_with fail
        clear s1 s2 s3 s4 s5 s6 s7
        refine (putSoa_any M R a b c d f _ (by omega) (by omega)).mono ?_; rintro e w2 ⟨rfl, hb⟩
        have HB2 := Lib.hid (HB1.out.trans (hb.mono HB1.out.size))
        have S2 := Lib.hid (S1.out.below hb)
        have D2 := Lib.hid (D1.out.below hb)
        clear hb
        obtain ⟨t0, s1, s2, s3, s4, s5, s6, s7⟩ := S2.out
        go_wp2_with fail
        clear s1 s2 s3 s4 s5 s6 s7
        refine (soaConv M R a b c d f _).mono ?_; rintro e w3 ⟨rfl, hb⟩
        have HB3 := Lib.hid (HB2.out.trans (hb.mono HB2.out.size))
        have D3 := Lib.hid (D2.out.below hb)
        clear hb
        go_wp2_with fail
        refine (rputSoa_any M R a b c d f _ (by omega) (by omega)).mono ?_; rintro e w4 ⟨rfl, hb⟩
        have HB4 := Lib.hid (HB3.out.trans (hb.mono HB3.out.size))
        have D4 := Lib.hid (D3.out.below hb)
        clear hb
        obtain ⟨r0, s1, s2, s3, s4⟩ := D4.out
        go_wp2_with fail
        clear s1 s2 s3 s4
        refine (putMd_any x y z D _ (by omega)).mono ?_; rintro e w5 ⟨rfl, hb⟩
        have HB5 := Lib.hid (HB4.out.trans (hb.mono HB4.out.size))
        have D5 := Lib.hid (D4.out.below hb)
        clear hb
        obtain ⟨r1, s1, s2, s3, s4⟩ := D5.out
        go_wp2_with fail
        clear s1 s2 s3 s4
        refine (mdConv x y z D _).mono ?_; rintro e w6 ⟨rfl, hb⟩
        have HB6 := Lib.hid (HB5.out.trans (hb.mono HB5.out.size))
        clear hb
        go_wp2_with fail
        refine (rputMd_any x y z D _ (by omega)).mono ?_; rintro e w7 ⟨rfl, hb⟩
        have HB7 := Lib.hid (HB6.out.trans (hb.mono HB6.out.size))
        clear hb
        go_wp2_with fail
        refine (addr_any _ _ _ l _ (HL.out.below HB7.out) (by omega)).mono ?_; rintro e w8 ⟨rfl, hb⟩
        have HB8 := Lib.hid (HB7.out.trans (hb.mono HB7.out.size))
        clear hb
        go_wp2_with fail
        refine (raddr_any _ _ _ l _ (HL.out.below HB8.out) (by omega)).mono ?_; rintro e w9 ⟨rfl, hb⟩
        have HB9 := Lib.hid (HB8.out.trans (hb.mono HB8.out.size))
        clear hb
        go_wp2_with fail
        refine (text_any _ _ _ m _ (HP.out.below HB9.out) (by omega) (fun j hj => by have := HSH.out j hj; omega)).mono ?_; rintro e w10 ⟨rfl, hb⟩
        have HB10 := Lib.hid (HB9.out.trans (hb.mono HB9.out.size))
        clear hb
        go_wp2_with fail
        refine (rtext_any _ _ _ m _ (HP.out.below HB10.out) (by omega) (fun j hj => by have := HSH.out j hj; omega)).mono ?_; rintro e w11 ⟨rfl, hb⟩
        have HB11 := Lib.hid (HB10.out.trans (hb.mono HB10.out.size))
        clear hb
        go_wp2_with fail
        refine (rfirst _).mono ?_; rintro e w12 ⟨rfl, hb⟩
        have HB12 := Lib.hid (HB11.out.trans (hb.mono HB11.out.size))
        clear hb
        go_wp2
        go_ret
        exact ⟨rfl, HB12.out⟩
  · have hd : decide ((1200 : Int) < (M.size : Int)) = true ∨ decide ((1200 : Int) < (M.size : Int)) = false ∧ (decide ((1200 : Int) < (R.size : Int)) = true ∨ decide ((1200 : Int) < (R.size : Int)) = false ∧ (decide ((1200 : Int) < (D.size : Int)) = true ∨ decide ((1200 : Int) < (D.size : Int)) = false ∧ (decide ((500 : Int) < (lq : Int)) = true ∨ decide ((500 : Int) < (lq : Int)) = false ∧ decide ((30 : Int) < (lp : Int)) = true))) := by
      simp only [decide_eq_true_eq, decide_eq_false_iff_not]; omega
    clear hz h hB hsz
    rcases hd with d1 | ⟨d1, d2 | ⟨d2, d3 | ⟨d3, d4 | ⟨d4, d5⟩⟩⟩⟩
    all_goals
      go_enter Try.func4, Try.ntmps4
      go_wp2_with fail
      refine (rfirst _).mono ?_; rintro e w1 ⟨rfl, hb⟩
      have hS := two_boxes w M R a b c d f x y z D 26 33
      have S1 := Lib.hid (hS.1.below hb)
      have D1 := Lib.hid (hS.2.below hb)
      have HB1 := Lib.hid ((((Below.refl w.heap.size w).alloc (Nat.le_refl _) _).alloc (by simp) _).trans (hb.mono (by simp; omega)))
      clear hb hS
      obtain ⟨s0, s1, s2, _⟩ := S1.out
      obtain ⟨m0, _, _, _, m4⟩ := D1.out
      go_wp2_with fail
      refine (rfirst _).mono ?_; rintro e w2 ⟨rfl, hb⟩
      have HB2 := Lib.hid (HB1.out.trans (hb.mono HB1.out.size)); clear hb
      go_wp2
      go_ret
      exact ⟨rfl, HB2.out⟩
end Go.Proofs.Ytgdbbdbfaglkdaa
