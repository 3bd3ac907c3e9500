/- AuthEach: the walk. -/
import Derived.Test.YtgdhbelcellabaaATw
import Derived.Test.YtgdhbelcellabaaZMp
namespace Go.Proofs.Ytgdhbelcellabaa
open Go.RowKit

theorem names_two {S : List SetP} {s t : SetP} {n : ByteArray} (hs : s ∈ S) (ht : t ∈ S) (hne : s ≠ t) (h1 : s.k.n = n) (h2 : t.k.n = n) (d1 : s.data ≠ []) (d2 : t.data ≠ []) : 2 ≤ namesN S n := by
  have one : ∀ {S : List SetP} {s : SetP}, s ∈ S → s.k.n = n → s.data.length ≤ namesN S n := by
    intro S s hs h1
    induction S with
    | nil => cases hs
    | cons x S ih =>
      rw [namesN]
      rcases List.mem_cons.1 hs with rfl | hs
      · rw [if_pos h1]; omega
      · have := ih hs
        omega
  induction S with
  | nil => cases hs
  | cons x S ih =>
    have p1 : 0 < s.data.length := List.length_pos_iff.2 d1
    have p2 : 0 < t.data.length := List.length_pos_iff.2 d2
    rw [namesN]
    rcases List.mem_cons.1 hs with e1 | e1
    · rcases List.mem_cons.1 ht with e2 | e2
      · exact absurd (e1.trans e2.symm) hne
      · have := one e2 h2
        rw [← e1, if_pos h1]; omega
    · rcases List.mem_cons.1 ht with e2 | e2
      · have := one e1 h1
        rw [← e2, if_pos h2]; omega
      · have := ih e1 e2
        omega
theorem zok_key {w : World} {z : Nat} {apex : ByteArray} {l : List R5} {S : List SetP} (h : ZOk w z apex l S) {s : SetP} (hs : s ∈ S) : undS s.k.n apex = true ∧ s.k.c = 1 ∧ inQ apex s.k.n s.k.t 1 = true := by
  obtain ⟨w1, -⟩ := whole_parts h.whole
  obtain ⟨u, c⟩ := w1 s hs
  refine ⟨u, c, ?_⟩
  obtain ⟨d, hd⟩ : ∃ d, d ∈ s.data := List.exists_mem_of_ne_nil _ (h.canon.non s hs)
  obtain ⟨r, hr, k1, -⟩ := (h.canon.mem s.k d).1 ⟨s, hs, rfl, hd⟩
  have hm := h.may r hr
  rw [mayR5, mayR, Bool.and_eq_true] at hm
  have h1 := of_decide_eq_true hm.1
  rw [k1] at h1
  rw [inQ, u]
  have h2 : decide (s.k.t ∈ [(252 : Int), 255, 41]) = false := dF (by simp; omega)
  rw [h2]; rfl
theorem zok_cname {w : World} {z : Nat} {apex : ByteArray} {l : List R5} {S : List SetP} (h : ZOk w z apex l S) {s : SetP} (hs : s ∈ S) : findK S ⟨s.k.n, 5, 1⟩ = none ∨ s.k.t = 5 := by
  cases hf : findK S ⟨s.k.n, 5, 1⟩ with
  | none => exact Or.inl rfl
  | some t =>
    refine Or.inr (Classical.byContradiction fun h5 => ?_)
    have ht := find_mem hf
    have hk := find_key hf
    have hne : s ≠ t := fun e => h5 (by rw [e, hk])
    obtain ⟨-, w2, -⟩ := whole_parts h.whole
    have h1 := w2 t ht
    have h2 := names_two hs ht hne rfl (by rw [hk]) (h.canon.non s hs) (h.canon.non t ht)
    rw [cnB, hk] at h1
    have h3 : decide (1 < namesN S s.k.n) = true := dT (by omega)
    rw [h3] at h1
    cases h1
def EachP (S : List SetP) (apex : ByteArray) (s : SetP) : Prop :=
  (∃ x, cutP S apex s.k.n = some x ∧ ¬ (x.k.n = s.k.n ∧ s.k.t = 43) ∧ ansF S apex s.k.n s.k.t 1 = ⟨3, 0, [], [x], glueL S [x]⟩) ∨
  ((cutP S apex s.k.n = none ∨ ∃ x, cutP S apex s.k.n = some x ∧ x.k.n = s.k.n ∧ s.k.t = 43) ∧ ansF S apex s.k.n s.k.t 1 = ⟨1, 0, [s], [], glueL S [s]⟩)
theorem eachP {w : World} {z : Nat} {apex : ByteArray} {l : List R5} {S : List SetP} (h : ZOk w z apex l S) {s : SetP} (hs : s ∈ S) : EachP S apex s := by
  obtain ⟨u, c, q⟩ := zok_key h hs
  have hT : ansT S apex s.k.n s.k.t = ⟨1, 0, [s], [], glueL S [s]⟩ := by
    rw [ansT_k (zok_cname h hs)]
    refine ansK_yes ?_
    have h1 := find_some_of h.canon hs
    rw [show s.k = ⟨s.k.n, s.k.t, 1⟩ by rw [← c]] at h1
    exact h1
  cases hc : cutP S apex s.k.n with
  | none => exact Or.inr ⟨Or.inl hc, by rw [ans_no q hc]; exact hT⟩
  | some x =>
    by_cases hd : x.k.n = s.k.n ∧ s.k.t = 43
    · refine Or.inr ⟨Or.inr ⟨x, hc, hd⟩, ?_⟩
      rw [ansF, if_neg (by rw [q]; simp), hc]
      exact (if_pos hd).trans hT
    · exact Or.inl ⟨x, hc, hd, ans_cut q hc hd⟩
theorem same_selfE (n : ByteArray) (t k u : Int) (d : List ByteArray) (pa pb : Option Addr) (dl ca cb : Nat) (w : World) (h1 : RowS w pa dl d) (h2 : RowS w pb dl d) (hl : dl ≤ 100000) : Calls Try.prog 31 #[.agg #[.string n, .int .i64 t, .int .i64 k, .int .i64 u, .slice pa dl ca], .agg #[.string n, .int .i64 t, .int .i64 k, .int .i64 u, .slice pb dl cb]] w fun e w' => e = .returned (.bool true) ∧ Below w.heap.size w w' := by
  have hd := h1.1
  subst hd
  have h := same_any ⟨⟨n, t, k⟩, u, d⟩ ⟨⟨n, t, k⟩, u, d⟩ pa pb ca cb w h1 h2 (by show d.length ≤ 1000000; omega)
  rw [(sameP_iff _ _).2 rfl] at h
  exact h
theorem at_full {w : World} {a : Option Addr} {n : Nat} {s : SetP} (h : SetsAt w a n [s]) : n = 1 ∧ ∃ b o p c, a = some ⟨b, o, none⟩ ∧ SetAt w b o s p c := by
  have hn : 1 = n := h.1
  subst hn
  rcases h.2 with h9 | ⟨b, o, rfl, hb, hc⟩
  · cases h9
  · obtain ⟨p, c, h0⟩ := hc 0 (by omega)
    rw [Nat.zero_mul, Nat.add_zero] at h0
    exact ⟨rfl, b, o, p, c, rfl, h0⟩
set_option maxRecDepth 100000 in
set_option maxHeartbeats 8000000 in
theorem walkEach (apex : ByteArray) (a : Option Addr) (n c : Nat) (l : List R5) (w : World) (h : RowR w a n l) (hn : a = none → n = 0 ∧ c = 0) (hlen : n ≤ 9223372036854775807) (hsz : ∀ r ∈ l, SzR r) (ha : apex.size ≤ 9223372036854775807) :
    Calls Try.prog 7 #[.string apex, .slice a n c] w fun e w' => e = .returned (.bool true) ∧ Below w.heap.size w w' := by
  have HR := Lib.hid h
  have HN := Lib.hid hn
  have HSZ := Lib.hid hsz
  have HLN := Lib.hid h.1
  clear h hn hsz
  go_enter Try.func7, Try.ntmps7
  go_wp2_with fail
  refine (first11 _).mono ?_; rintro e w1 ⟨rfl, hb⟩
  have HB1 := Lib.hid hb
  clear hb
  go_wp2_with fail
  refine (few10 a n c l _ (HR.out.below HB1.out) hlen HSZ.out).mono ?_; rintro e w2 ⟨hres, hb⟩
  have HB2 := Lib.hid (HB1.out.trans (hb.mono HB1.out.size))
  clear hb HB1
  rcases hres with rfl | ⟨rfl, hn4, hsm⟩
  · go_wp2_with fail
    refine (first11 _).mono ?_; rintro e w9 ⟨rfl, hb⟩
    have HB9 := Lib.hid (HB2.out.trans (hb.mono HB2.out.size))
    clear hb
    go_wp2
    go_ret
    exact ⟨rfl, HB9.out⟩
  have HSM := Lib.hid hsm
  have HN3 := Lib.hid (show n ≤ 310 by omega)
  clear hsm hlen hn4
  by_cases h1 : 1000 < apex.size
  · have d1 : decide (1000 < apex.size) = true := dT h1
    have d2 : decide ((1000 : Int) < (apex.size : Int)) = true := dT (by omega)
    clear h1
    go_wp2_with fail
    refine (first11 _).mono ?_; rintro e w9 ⟨rfl, hb⟩
    have HB9 := Lib.hid (HB2.out.trans (hb.mono HB2.out.size))
    clear hb
    go_wp2
    go_ret
    exact ⟨rfl, HB9.out⟩
  have d1 : decide (1000 < apex.size) = false := dF h1
  have d2 : decide ((1000 : Int) < (apex.size : Int)) = false := dF (by omega)
  have HA1 := Lib.hid (show apex.size ≤ 1000000 by omega)
  clear h1 ha
  go_wp2_with fail
  refine (znew_any apex a n c l w2 (HR.out.below HB2.out) HN.out (by have := HN3.out; omega) (fun r hr => by have := (HSM.out r hr).1; omega) (fun r hr => by have := (HSM.out r hr).2; omega) HA1.out).mono ?_; rintro e w3 hnr
  obtain ⟨hres, hb⟩ := hnr.two
  have HB3 := Lib.hid (HB2.out.trans (hb.mono HB2.out.size))
  clear hnr hb HB2 d1 d2
  rcases hres with ⟨x, hx, rfl⟩ | ⟨z, S, rfl, hzw, hok⟩
  · go_wp2_with fail
    refine (first11 _).mono ?_; rintro e w9 ⟨rfl, hb⟩
    have HB9 := Lib.hid (HB3.out.trans (hb.mono HB3.out.size))
    clear hb
    go_wp2
    go_ret
    exact ⟨rfl, HB9.out⟩
  have HOK := Lib.hid hok
  clear hok hzw
  go_wp2_with fail
  refine (zsets_any z apex S w3 HOK.out.is HOK.out.sz).mono ?_; rintro e w4 ⟨v3, L3, rfl, hm3, hos3, hb⟩
  obtain ⟨a3, c3, rfl, hsa3, -⟩ := hos3.at
  rw [hm3] at hsa3
  have hl3 : L3.length = S.length := by rw [← hm3, List.length_map]
  rw [hl3] at hsa3 ⊢
  have HSA := Lib.hid hsa3
  have HB4 := Lib.hid (HB3.out.trans (hb.mono HB3.out.size))
  have HOK4 := Lib.hid (HOK.out.below hb)
  clear hb HB3 HOK hos3 hsa3 hm3 hl3 L3
  obtain ⟨m, hm⟩ : ∃ x, S.length = x := ⟨_, rfl⟩
  have HM := Lib.hid hm
  have HMN := Lib.hid (show m ≤ 100000 by have h1 := HOK4.out.len; have h2 := HOK4.out.few; omega)
  rw [hm] at HSA ⊢
  clear hm
  go_wp2_with fail
  go_loopw [8] (fun i wr => ∃ (k : Nat), k ≤ m ∧ i = .int .i64 k ∧ Hid (Below w4.heap.size w4 wr)) (fun i _ => m - (intOf i).toNat)
  case atStart => exact ⟨0, Nat.zero_le _, rfl, Lib.hid (Below.refl _ _)⟩
  case round =>
    obtain ⟨k, hk, rfl, hbw⟩ := hrel
    have hmn := HMN.out
    by_cases hlt : k < m
    · rcases HSA.out.2 with h9 | ⟨b, o, rfl, hbl, hc⟩
      · omega
      obtain ⟨pa, ca, hs2⟩ := hc k hlt
      have hmem : S.getD k ssD ∈ S := by rw [List.getD_eq_getElem?_getD, List.getElem?_eq_getElem (by have := HM.out; omega)]; exact List.getElem_mem _
      obtain ⟨s, hss⟩ : ∃ s, S.getD k ssD = s := ⟨_, rfl⟩
      rw [hss] at hs2 hmem
      have hsz := HOK4.out.sz.2 _ hmem
      have hep := eachP HOK4.out hmem
      have hkc := (zok_key HOK4.out hmem).2.1
      obtain ⟨⟨sn, st, sk⟩, su, sd⟩ := s
      obtain rfl : sk = 1 := hkc
      obtain ⟨x0, x1, x2, x3, x4, hsr, -⟩ := hs2
      replace hsr : RowS w4 pa sd.length sd := hsr
      replace x4 : w4.cell? ⟨b, o + k * 5 + 4, none⟩ = some (.slice pa sd.length ca) := x4
      obtain ⟨dl, hdl⟩ : ∃ x, sd.length = x := ⟨_, rfl⟩
      rw [hdl] at hsr x4
      replace hsz : sn.size ≤ 1000000 ∧ sd.length ≤ 100000 := hsz
      rw [hdl] at hsz
      have X0 := Lib.hid (show wr.cell? ⟨b, o + k * 5, none⟩ = some (.string sn) from cell_later4 hbw.out x0)
      have X1 := Lib.hid (show wr.cell? ⟨b, o + k * 5 + 1, none⟩ = some (.int .i64 st) from cell_later4 hbw.out x1)
      have X2 := Lib.hid (show wr.cell? ⟨b, o + k * 5 + 2, none⟩ = some (.int .i64 1) from cell_later4 hbw.out x2)
      have X3 := Lib.hid (show wr.cell? ⟨b, o + k * 5 + 3, none⟩ = some (.int .i64 su) from cell_later4 hbw.out x3)
      have X4 := Lib.hid (cell_later4 hbw.out x4)
      have HSR := Lib.hid (hsr.below hbw.out)
      have HSN := Lib.hid hsz.1
      have HDL := Lib.hid hsz.2
      have HEP := Lib.hid hep
      have i1 : (0 : Int) ≤ (k : Int) := by omega
      have i2 : (k : Int) < (m : Int) := by omega
      have HLT := Lib.hid hlt
      have HOKW := Lib.hid (HOK4.out.below hbw.out)
      clear x0 x1 x2 x3 x4 hsr hmem hss hsz hep hdl hlt hc hbl
      go_upto_region 12 with (fail)
      have hbd := (Below.refl wr.heap.size wr).drew
      obtain ⟨wd, hwd⟩ : ∃ x, wr.drew = x := ⟨_, rfl⟩
      have HBD := Lib.hid (show Below wr.heap.size wr wd by rw [← hwd]; exact hbd)
      clear hbd
      refine wp_region_last_drew (S := (fun wx => Hid (Below wr.heap.size wr wx) ∧ wx.cell? ⟨b, o + k * 5, none⟩ = some (.string sn) ∧ wx.cell? ⟨b, o + k * 5 + 1, none⟩ = some (.int .i64 st))) (L := 16) (by kernel_rfl) (by rw [hwd]; exact ⟨HBD, cell_later4 HBD.out X0.out, cell_later4 HBD.out X1.out⟩) (fun hHeld => ?_)
      rw [hwd] at hHeld ⊢
      clear hwd
      refine wpAnyL_take (i := 0) (oi := { dst := some 40, op := Go.Op.move (Go.Operand.tmp 5), type := 25, pos := "law.go:100", after := #[], guard := none }) (v := ?v0_101) rfl (by kernel_rfl) (by kernel_rfl) (by kernel_rfl) (by kernel_rfl) (by kernel_rfl) (fun _ _ _ h => h) (Or.inl ⟨by rfl, ?y0_101⟩) hHeld ?r0_101
      case y0_101 => intro w hSw; (try dsimp only at hSw); go_simp; try with_reducible rfl
      try simp only [Act.put, List.setIfInBounds_toArray, List.set_cons_zero, List.set_cons_succ]
      refine wpAnyL_take (i := 1) (oi := { dst := some 41, op := Go.Op.move (Go.Operand.tmp 7), type := 33, pos := "law.go:100", after := #[], guard := none }) (v := ?v1_101) rfl (by kernel_rfl) (by kernel_rfl) (by kernel_rfl) (by kernel_rfl) (by kernel_rfl) (fun _ _ _ h => h) (Or.inl ⟨by rfl, ?y1_101⟩) hHeld ?r1_101
      case y1_101 => intro w hSw; (try dsimp only at hSw); go_simp; try with_reducible rfl
      try simp only [Act.put, List.setIfInBounds_toArray, List.set_cons_zero, List.set_cons_succ]
      refine wpAnyL_take (i := 2) (oi := { dst := some 42, op := Go.Op.move (Go.Operand.tmp 8), type := 3, pos := "law.go:100", after := #[], guard := none }) (v := ?v2_101) rfl (by kernel_rfl) (by kernel_rfl) (by kernel_rfl) (by kernel_rfl) (by kernel_rfl) (fun _ _ _ h => h) (Or.inl ⟨by rfl, ?y2_101⟩) hHeld ?r2_101
      case y2_101 => intro w hSw; (try dsimp only at hSw); go_simp; try with_reducible rfl
      try simp only [Act.put, List.setIfInBounds_toArray, List.set_cons_zero, List.set_cons_succ]
      refine wpAnyL_take (i := 3) (oi := { dst := some 43, op := Go.Op.indexAddr 33 (Go.Operand.tmp 41) (Go.Operand.tmp 42), type := 0, pos := "law.go:100", after := #[{ on := 1, ground := Go.Ground.data }, { on := 2, ground := Go.Ground.data }], guard := none }) (v := ?v3_101) rfl (by kernel_rfl) (by kernel_rfl) (by kernel_rfl) (by kernel_rfl) (by kernel_rfl) (fun _ _ _ h => h) (Or.inl ⟨by rfl, ?y3_101⟩) hHeld ?r3_101
      case y3_101 => intro w hSw; (try dsimp only at hSw); go_simp; try with_reducible rfl
      try simp only [Act.put, List.setIfInBounds_toArray, List.set_cons_zero, List.set_cons_succ]
      refine wpAnyL_take (i := 4) (oi := { dst := some 44, op := Go.Op.fieldAddr 39 (Go.Operand.tmp 43) 0, type := 0, pos := "law.go:100", after := #[{ on := 3, ground := Go.Ground.data }], guard := none }) (v := ?v4_101) rfl (by kernel_rfl) (by kernel_rfl) (by kernel_rfl) (by kernel_rfl) (by kernel_rfl) (fun _ _ _ h => h) (Or.inl ⟨by rfl, ?y4_101⟩) hHeld ?r4_101
      case y4_101 => intro w hSw; (try dsimp only at hSw); go_simp; try with_reducible rfl
      try simp only [Act.put, List.setIfInBounds_toArray, List.set_cons_zero, List.set_cons_succ]
      refine wpAnyL_take (i := 5) (oi := { dst := some 45, op := Go.Op.fieldAddr 36 (Go.Operand.tmp 44) 0, type := 0, pos := "law.go:100", after := #[{ on := 4, ground := Go.Ground.data }], guard := none }) (v := ?v5_101) rfl (by kernel_rfl) (by kernel_rfl) (by kernel_rfl) (by kernel_rfl) (by kernel_rfl) (fun _ _ _ h => h) (Or.inl ⟨by rfl, ?y5_101⟩) hHeld ?r5_101
      case y5_101 => intro w hSw; (try dsimp only at hSw); go_simp; try with_reducible rfl
      try simp only [Act.put, List.setIfInBounds_toArray, List.set_cons_zero, List.set_cons_succ]
      refine wpAnyL_take (i := 6) (oi := { dst := some 46, op := Go.Op.load 9 (Go.Operand.tmp 45), type := 9, pos := "law.go:100", after := #[{ on := 5, ground := Go.Ground.data }], guard := none }) (v := ?v6_101) rfl (by kernel_rfl) (by kernel_rfl) (by kernel_rfl) (by kernel_rfl) (by kernel_rfl) (fun _ _ _ h => h) (Or.inl ⟨by rfl, ?y6_101⟩) hHeld ?r6_101
      case y6_101 => intro w hSw; (try dsimp only at hSw); go_simp; try with_reducible rfl
      try simp only [Act.put, List.setIfInBounds_toArray, List.set_cons_zero, List.set_cons_succ]
      refine wpAnyL_take (i := 7) (oi := { dst := some 47, op := Go.Op.move (Go.Operand.tmp 7), type := 33, pos := "law.go:100", after := #[], guard := none }) (v := ?v7_101) rfl (by kernel_rfl) (by kernel_rfl) (by kernel_rfl) (by kernel_rfl) (by kernel_rfl) (fun _ _ _ h => h) (Or.inl ⟨by rfl, ?y7_101⟩) hHeld ?r7_101
      case y7_101 => intro w hSw; (try dsimp only at hSw); go_simp; try with_reducible rfl
      try simp only [Act.put, List.setIfInBounds_toArray, List.set_cons_zero, List.set_cons_succ]
      refine wpAnyL_take (i := 8) (oi := { dst := some 48, op := Go.Op.move (Go.Operand.tmp 8), type := 3, pos := "law.go:100", after := #[], guard := none }) (v := ?v8_101) rfl (by kernel_rfl) (by kernel_rfl) (by kernel_rfl) (by kernel_rfl) (by kernel_rfl) (fun _ _ _ h => h) (Or.inl ⟨by rfl, ?y8_101⟩) hHeld ?r8_101
      case y8_101 => intro w hSw; (try dsimp only at hSw); go_simp; try with_reducible rfl
      try simp only [Act.put, List.setIfInBounds_toArray, List.set_cons_zero, List.set_cons_succ]
      refine wpAnyL_take (i := 9) (oi := { dst := some 49, op := Go.Op.indexAddr 33 (Go.Operand.tmp 47) (Go.Operand.tmp 48), type := 0, pos := "law.go:100", after := #[{ on := 7, ground := Go.Ground.data }, { on := 8, ground := Go.Ground.data }], guard := none }) (v := ?v9_101) rfl (by kernel_rfl) (by kernel_rfl) (by kernel_rfl) (by kernel_rfl) (by kernel_rfl) (fun _ _ _ h => h) (Or.inl ⟨by rfl, ?y9_101⟩) hHeld ?r9_101
      case y9_101 => intro w hSw; (try dsimp only at hSw); go_simp; try with_reducible rfl
      try simp only [Act.put, List.setIfInBounds_toArray, List.set_cons_zero, List.set_cons_succ]
      refine wpAnyL_take (i := 10) (oi := { dst := some 50, op := Go.Op.fieldAddr 39 (Go.Operand.tmp 49) 0, type := 0, pos := "law.go:100", after := #[{ on := 9, ground := Go.Ground.data }], guard := none }) (v := ?v10_101) rfl (by kernel_rfl) (by kernel_rfl) (by kernel_rfl) (by kernel_rfl) (by kernel_rfl) (fun _ _ _ h => h) (Or.inl ⟨by rfl, ?y10_101⟩) hHeld ?r10_101
      case y10_101 => intro w hSw; (try dsimp only at hSw); go_simp; try with_reducible rfl
      try simp only [Act.put, List.setIfInBounds_toArray, List.set_cons_zero, List.set_cons_succ]
      refine wpAnyL_take (i := 11) (oi := { dst := some 51, op := Go.Op.fieldAddr 36 (Go.Operand.tmp 50) 1, type := 0, pos := "law.go:100", after := #[{ on := 10, ground := Go.Ground.data }], guard := none }) (v := ?v11_101) rfl (by kernel_rfl) (by kernel_rfl) (by kernel_rfl) (by kernel_rfl) (by kernel_rfl) (fun _ _ _ h => h) (Or.inl ⟨by rfl, ?y11_101⟩) hHeld ?r11_101
      case y11_101 => intro w hSw; (try dsimp only at hSw); go_simp; try with_reducible rfl
      try simp only [Act.put, List.setIfInBounds_toArray, List.set_cons_zero, List.set_cons_succ]
      refine wpAnyL_take (i := 12) (oi := { dst := some 52, op := Go.Op.load 3 (Go.Operand.tmp 51), type := 3, pos := "law.go:100", after := #[{ on := 11, ground := Go.Ground.data }], guard := none }) (v := ?v12_101) rfl (by kernel_rfl) (by kernel_rfl) (by kernel_rfl) (by kernel_rfl) (by kernel_rfl) (fun _ _ _ h => h) (Or.inl ⟨by rfl, ?y12_101⟩) hHeld ?r12_101
      case y12_101 => intro w hSw; (try dsimp only at hSw); go_simp; try with_reducible rfl
      try simp only [Act.put, List.setIfInBounds_toArray, List.set_cons_zero, List.set_cons_succ]
      refine wpAnyL_take (i := 13) (oi := { dst := some 53, op := Go.Op.build 70 #[(0, Go.Operand.tmp 46), (1, Go.Operand.tmp 52), (2, Go.Operand.const (Go.Value.int Go.IntKind.i64 1))], type := 70, pos := "law.go:100", after := #[{ on := 6, ground := Go.Ground.data }, { on := 12, ground := Go.Ground.data }], guard := none }) (v := ?v13_101) rfl (by kernel_rfl) (by kernel_rfl) (by kernel_rfl) (by kernel_rfl) (by kernel_rfl) (fun _ _ _ h => h) (Or.inl ⟨by rfl, ?y13_101⟩) hHeld ?r13_101
      case y13_101 => intro w hSw; (try dsimp only at hSw); go_simp; try with_reducible rfl
      try simp only [Act.put, List.setIfInBounds_toArray, List.set_cons_zero, List.set_cons_succ]
      refine wpAnyL_ready (rs := [14, 15]) (by kernel_rfl) (by simp) ?_
      refine AllReadyL.cons (o := { dst := some 54, op := Go.Op.call { callee := Go.Callee.value (Go.Operand.func 34), args := #[Go.Operand.tmp 40, Go.Operand.tmp 53], argTypes := #[25, 70] }, type := 68, pos := "law.go:100", after := #[{ on := 0, ground := Go.Ground.data }, { on := 13, ground := Go.Ground.data }], guard := none }) rfl (by decide) (fun K hK => ?_) (AllReadyL.cons (o := { dst := some 9, op := Go.Op.alloc 68, type := 0, pos := "law.go:100", after := #[], guard := none }) rfl (by decide) (fun K hK => ?_) AllReadyL.nil)
      · go_simp
        refine (answer_any z apex S sn st 1 wd (HOKW.out.is.below hHeld.1.out) HOKW.out.canon.keys HOKW.out.sz HOKW.out.szd HOKW.out.canon.non HA1.out HSN.out).mono ?_; rintro e wx1 ⟨⟨v, rfl, hrep⟩, hb⟩
        obtain ⟨a1, n1, c1, a2, n2, c2, a3, n3, c3, rfl, h1, -, h2, -, -, -⟩ := hrep
        obtain ⟨kx, hkx⟩ : ∃ x, (ansF S apex sn st 1).kind = x := ⟨_, rfl⟩
        obtain ⟨rx, hrx⟩ : ∃ x, (ansF S apex sn st 1).rc = x := ⟨_, rfl⟩
        rw [hkx, hrx]
        have HKX := Lib.hid hkx
        have HU1 := Lib.hid h1
        have HU2 := Lib.hid h2
        clear hkx hrx h1 h2
        go_wp2_with fail
        refine hK.out _ _ (⟨Lib.hid (hHeld.1.out.trans (hb.mono hHeld.1.out.size)), cell_later4 hb hHeld.2.1, cell_later4 hb hHeld.2.2⟩) (fun hHeld2 => ?_)
        clear hK K hHeld
        have hHeld := hHeld2
        clear hHeld2
        try simp only [Act.put, List.setIfInBounds_toArray, List.set_cons_zero, List.set_cons_succ]
        refine wpAnyL_ready (rs := [15]) (by kernel_rfl) (by simp) ?_
        refine AllReadyL.cons (o := { dst := some 9, op := Go.Op.alloc 68, type := 0, pos := "law.go:100", after := #[], guard := none }) rfl (by decide) (fun K hK => ?_) AllReadyL.nil
        go_simp
        have hb := (Below.refl _ _ : Below wx1.heap.size wx1 wx1).alloc (Nat.le_refl _) (.cells #[.int .i64 0, .int .i64 0, .slice none 0 0, .slice none 0 0, .slice none 0 0] 68)
        have hn := CN.new wx1 #[.int .i64 0, .int .i64 0, .slice none 0 0, .slice none 0 0, .slice none 0 0] 68
        obtain ⟨wx2, hwe⟩ : ∃ x, wx1.alloc (.cells #[.int .i64 0, .int .i64 0, .slice none 0 0, .slice none 0 0, .slice none 0 0] 68) = x := ⟨_, rfl⟩
        rw [hwe] at hb hn ⊢
        have hq9 := hHeld.1.out.size
        have HBA := Lib.hid hb
        obtain ⟨q9, hge⟩ : ∃ x, wx1.heap.size = x := ⟨_, rfl⟩
        have HQE := Lib.hid hge
        rw [hge] at hn hq9 ⊢
        have HC9 := Lib.hid hn
        have HQ9 := Lib.hid hq9
        clear hn hq9 hwe hge
        refine hK.out _ _ (⟨Lib.hid (hHeld.1.out.trans (hb.mono hHeld.1.out.size)), cell_later4 hb hHeld.2.1, cell_later4 hb hHeld.2.2⟩) (fun hHeld2 => ?_)
        clear hK K hHeld
        have hHeld := hHeld2
        clear hHeld2
        try simp only [Act.put, List.setIfInBounds_toArray, List.set_cons_zero, List.set_cons_succ]
        refine wpAnyL_ready (rs := [16]) (by kernel_rfl) (by simp) ?_
        refine AllReadyL.last (o := { dst := none, op := Go.Op.store 68 (Go.Operand.tmp 9) (Go.Operand.tmp 54), type := 0, pos := "law.go:100", after := #[{ on := 15, ground := Go.Ground.data }, { on := 14, ground := Go.Ground.data }, { on := 14, ground := Go.Ground.chain }, { on := 0, ground := Go.Ground.phase }, { on := 1, ground := Go.Ground.phase }, { on := 2, ground := Go.Ground.phase }, { on := 3, ground := Go.Ground.phase }, { on := 4, ground := Go.Ground.phase }, { on := 5, ground := Go.Ground.phase }, { on := 6, ground := Go.Ground.phase }, { on := 7, ground := Go.Ground.phase }, { on := 8, ground := Go.Ground.phase }, { on := 9, ground := Go.Ground.phase }, { on := 10, ground := Go.Ground.phase }, { on := 11, ground := Go.Ground.phase }, { on := 12, ground := Go.Ground.phase }, { on := 13, ground := Go.Ground.phase }, { on := 14, ground := Go.Ground.phase }, { on := 15, ground := Go.Ground.phase }], guard := none }) rfl (by decide) (fun K hK => ?_) AllReadyL.nil
        have KZ := Lib.hid (HC9.out.s5 (.int .i64 kx) (.int .i64 rx) (.slice a1 n1 c1) (.slice a2 n2 c2) (.slice a3 n3 c3))
        have HGZ := Lib.hid (grown_s5 wx2 q9 (.int .i64 kx) (.int .i64 rx) (.slice a1 n1 c1) (.slice a2 n2 c2) (.slice a3 n3 c3))
        have HBZ := Lib.hid (hHeld.1.out.grown HGZ.out hHeld.1.out.size (fun k hk => by injection hk with hk; rw [← hk]; exact HQ9.out))
        have hba := HBA.out.grown HGZ.out HBA.out.size (fun k hk => by injection hk with hk; rw [← hk, ← HQE.out]; exact Nat.le_refl _)
        have HU1Z := Lib.hid (HU1.out.below hba)
        have HU2Z := Lib.hid (HU2.out.below hba)
        clear hba
        obtain ⟨y0, y1, y2, y3, y4, f0, f1, f2, f3, f4⟩ := HC9.out.u5
        go_wp2_with fail
        refine hK.out _ _ trivial (fun _ => ?_)
        clear hK K
        try simp only [Act.put, List.setIfInBounds_toArray, List.set_cons_zero, List.set_cons_succ]
        refine wpAnyL_done (by kernel_rfl) ?_ _
        obtain ⟨wz, hwz⟩ : ∃ x, (((((wx2.setCell ⟨q9, 0, none⟩ (.int .i64 kx)).setCell ⟨q9, 1, none⟩ (.int .i64 rx)).setCell ⟨q9, 2, none⟩ (.slice a1 n1 c1)).setCell ⟨q9, 3, none⟩ (.slice a2 n2 c2)).setCell ⟨q9, 4, none⟩ (.slice a3 n3 c3)) = x := ⟨_, rfl⟩
        rw [hwz] at KZ HBZ HU1Z HU2Z ⊢
        clear hwz HGZ y0 y1 y2 y3 y4 f0 f1 f2 f3 f4 HC9 HU1 HU2 hHeld
        have c0 := cell_later4 HBZ.out X0.out
        have HOKZ := Lib.hid (HOKW.out.below HBZ.out)
        go_wp2_with fail
        refine (zcut_any z apex sn S wz HOKZ.out.is HOKZ.out.canon.keys HOKZ.out.sz HOKZ.out.canon.non HA1.out HSN.out).mono ?_; rintro e w5 ⟨⟨X, cda, cdc, hX, rfl, hor⟩, hb⟩
        obtain ⟨⟨cn, ct, ck⟩, cu, cd⟩ := X
        replace hor : w5.ownsRow wz.heap.size 9 1 (.slice cda cd.length cdc) cd.length (sc cd) := hor
        obtain ⟨a', c', he, hcr, -⟩ := rowS_of_own hor
        simp only [Value.slice.injEq] at he
        obtain ⟨rfl, -, rfl⟩ := he
        dsimp only
        obtain ⟨cl, hcl⟩ : ∃ x, cd.length = x := ⟨_, rfl⟩
        rw [hcl] at hcr ⊢
        have HCL := Lib.hid hcl
        have hba := (Below.refl w5.heap.size w5).alloc (Nat.le_refl _) (.cells #[.string cn, .int .i64 ct, .int .i64 ck, .int .i64 cu, .slice cda cl cdc] 39)
        have hbb := hb.trans (hba.mono hb.size)
        have hn10 := c5_new w5 (.string cn) (.int .i64 ct) (.int .i64 ck) (.int .i64 cu) (.slice cda cl cdc) 39
        replace hcr := hcr.below hba
        have HXC := Lib.hid hX
        clear hX hcl hor c0 hb hba
        go_upto_region 16 with (fail)
        obtain ⟨w6, hw⟩ : ∃ x, w5.alloc (.cells #[.string cn, .int .i64 ct, .int .i64 ck, .int .i64 cu, .slice cda cl cdc] 39) = x := ⟨_, rfl⟩
        rw [hw] at hbb hn10 hcr ⊢
        obtain ⟨q10, hq⟩ : ∃ x, w5.heap.size = x := ⟨_, rfl⟩
        rw [hq] at hn10 ⊢
        clear hw hq
        have HC10 := Lib.hid hn10
        have HCR := Lib.hid hcr
        replace KZ := Lib.hid (KZ.out.below hbb)
        have hbx := HBZ.out.trans (hbb.mono HBZ.out.size)
        have HB6 := Lib.hid (hbw.out.trans (hbx.mono hbw.out.size))
        have HSRZ := Lib.hid (HSR.out.below hbx)
        have Y0 := Lib.hid (cell_later4 hbx X0.out)
        have Y1 := Lib.hid (cell_later4 hbx X1.out)
        have Y2 := Lib.hid (cell_later4 hbx X2.out)
        have Y3 := Lib.hid (cell_later4 hbx X3.out)
        have Y4 := Lib.hid (cell_later4 hbx X4.out)
        replace HU1Z := Lib.hid (HU1Z.out.below hbb)
        replace HU2Z := Lib.hid (HU2Z.out.below hbb)
        clear hbb hbx hn10 hcr HBZ X0 X1 X2 X3 X4 HOKZ
        rcases HEP.out with ⟨x, hcut, hds, hans⟩ | ⟨hcut, hans⟩
        · have hX := HXC.out
          rw [hcut] at hX ⊢
          obtain rfl : x = ⟨⟨cn, ct, ck⟩, cu, cd⟩ := hX
          replace hans : ansF S apex sn st 1 = _ := hans
          have hkx := HKX.out
          rw [hans] at hkx
          obtain rfl : 3 = kx := hkx
          have HU := Lib.hid (show SetsUp w6 _ a2 n2 [⟨⟨cn, ct, ck⟩, cu, cd⟩] by have h := HU2Z.out; rw [hans] at h; exact h)
          have HCLL := Lib.hid (show cl ≤ 100000 by have h : cd.length ≤ 100000 := (HOKW.out.sz.2 _ (cutP_mem hcut)).2; rw [HCL.out] at h; exact h)
          replace hds : ¬ (cn = sn ∧ st = 43) := hds
          simp only [Option.isSome_some]
          clear hcut hans HKX HU1Z HU2Z HXC HEP
          by_cases hns : cn = sn
          · have hvt : decide (st ∈ [(43 : Int)]) = false := dF (by simpa using fun h => hds ⟨hns, h⟩)
            obtain ⟨vt, hvt2⟩ : ∃ x, decide (st ∈ [(43 : Int)]) = x := ⟨_, rfl⟩
            have HVT := Lib.hid hvt2
            obtain rfl : vt = false := hvt2.symm.trans hvt
            have s1 := strA_eq hns
            clear hns hds hvt hvt2
            have hbd := (Below.refl w6.heap.size w6).drew
            obtain ⟨we, hwe⟩ : ∃ x, w6.drew = x := ⟨_, rfl⟩
            have HBE := Lib.hid (show Below w6.heap.size w6 we by rw [← hwe]; exact hbd)
            clear hbd
            refine wp_region_held_drew (S := (fun wx => Hid (Below w6.heap.size w6 wx) ∧ wx.cell? ⟨b, o + k * 5, none⟩ = some (.string sn) ∧ wx.cell? ⟨b, o + k * 5 + 1, none⟩ = some (.int .i64 st) ∧ wx.cell? ⟨b, o + k * 5 + 2, none⟩ = some (.int .i64 1) ∧ wx.cell? ⟨q10, 0, none⟩ = some (.string cn))) (by kernel_rfl) (by rw [hwe]; exact ⟨HBE, cell_later4 HBE.out Y0.out, cell_later4 HBE.out Y1.out, cell_later4 HBE.out Y2.out, cell_later4 HBE.out HC10.out.2.1⟩) (fun hHeld => ?_)
            rw [hwe] at hHeld ⊢
            clear hwe
            refine wpAnyH_take (i := 0) (oi := { dst := some 88, op := Go.Op.move (Go.Operand.tmp 11), type := 4, pos := "law.go:103", after := #[], guard := none }) (v := ?v0_201) rfl (by kernel_rfl) (by kernel_rfl) (by kernel_rfl) (fun _ _ _ h => h) (Or.inl ⟨by rfl, ?y0_201⟩) hHeld ?r0_201
            case y0_201 => intro w hSw; (try dsimp only at hSw); go_simp; try with_reducible rfl
            try simp only [Act.put, List.setIfInBounds_toArray, List.set_cons_zero, List.set_cons_succ]
            refine wpAnyH_take (i := 1) (oi := { dst := some 89, op := Go.Op.move (Go.Operand.tmp 88), type := 4, pos := "law.go:103", after := #[{ on := 0, ground := Go.Ground.data }], guard := none }) (v := ?v1_201) rfl (by kernel_rfl) (by kernel_rfl) (by kernel_rfl) (fun _ _ _ h => h) (Or.inl ⟨by rfl, ?y1_201⟩) hHeld ?r1_201
            case y1_201 => intro w hSw; (try dsimp only at hSw); go_simp; try with_reducible rfl
            try simp only [Act.put, List.setIfInBounds_toArray, List.set_cons_zero, List.set_cons_succ]
            refine wpAnyH_take (i := 2) (oi := { dst := some 90, op := Go.Op.fieldAddr 39 (Go.Operand.tmp 10) 0, type := 0, pos := "law.go:103", after := #[{ on := 1, ground := Go.Ground.guard }], guard := some (1, true) }) (v := ?v2_201) rfl (by kernel_rfl) (by kernel_rfl) (by kernel_rfl) (fun _ _ _ h => h) (Or.inl ⟨by rfl, ?y2_201⟩) hHeld ?r2_201
            case y2_201 => intro w hSw; (try dsimp only at hSw); go_simp; try with_reducible rfl
            try simp only [Act.put, List.setIfInBounds_toArray, List.set_cons_zero, List.set_cons_succ]
            refine wpAnyH_take (i := 3) (oi := { dst := some 91, op := Go.Op.fieldAddr 36 (Go.Operand.tmp 90) 0, type := 0, pos := "law.go:103", after := #[{ on := 2, ground := Go.Ground.data }, { on := 1, ground := Go.Ground.guard }], guard := some (1, true) }) (v := ?v3_201) rfl (by kernel_rfl) (by kernel_rfl) (by kernel_rfl) (fun _ _ _ h => h) (Or.inl ⟨by rfl, ?y3_201⟩) hHeld ?r3_201
            case y3_201 => intro w hSw; (try dsimp only at hSw); go_simp; try with_reducible rfl
            try simp only [Act.put, List.setIfInBounds_toArray, List.set_cons_zero, List.set_cons_succ]
            refine wpAnyH_take (i := 4) (oi := { dst := some 92, op := Go.Op.load 9 (Go.Operand.tmp 91), type := 9, pos := "law.go:103", after := #[{ on := 3, ground := Go.Ground.data }, { on := 1, ground := Go.Ground.guard }], guard := some (1, true) }) (v := ?v4_201) rfl (by kernel_rfl) (by kernel_rfl) (by kernel_rfl) (fun _ _ _ h => h) (Or.inl ⟨by rfl, ?y4_201⟩) hHeld ?r4_201
            case y4_201 => intro w hSw; (try dsimp only at hSw); go_simp; try with_reducible rfl
            try simp only [Act.put, List.setIfInBounds_toArray, List.set_cons_zero, List.set_cons_succ]
            refine wpAnyH_take (i := 5) (oi := { dst := some 93, op := Go.Op.move (Go.Operand.tmp 7), type := 33, pos := "law.go:103", after := #[{ on := 1, ground := Go.Ground.guard }], guard := some (1, true) }) (v := ?v5_201) rfl (by kernel_rfl) (by kernel_rfl) (by kernel_rfl) (fun _ _ _ h => h) (Or.inl ⟨by rfl, ?y5_201⟩) hHeld ?r5_201
            case y5_201 => intro w hSw; (try dsimp only at hSw); go_simp; try with_reducible rfl
            try simp only [Act.put, List.setIfInBounds_toArray, List.set_cons_zero, List.set_cons_succ]
            refine wpAnyH_take (i := 6) (oi := { dst := some 94, op := Go.Op.move (Go.Operand.tmp 8), type := 3, pos := "law.go:103", after := #[{ on := 1, ground := Go.Ground.guard }], guard := some (1, true) }) (v := ?v6_201) rfl (by kernel_rfl) (by kernel_rfl) (by kernel_rfl) (fun _ _ _ h => h) (Or.inl ⟨by rfl, ?y6_201⟩) hHeld ?r6_201
            case y6_201 => intro w hSw; (try dsimp only at hSw); go_simp; try with_reducible rfl
            try simp only [Act.put, List.setIfInBounds_toArray, List.set_cons_zero, List.set_cons_succ]
            refine wpAnyH_take (i := 7) (oi := { dst := some 95, op := Go.Op.indexAddr 33 (Go.Operand.tmp 93) (Go.Operand.tmp 94), type := 0, pos := "law.go:103", after := #[{ on := 5, ground := Go.Ground.data }, { on := 6, ground := Go.Ground.data }, { on := 1, ground := Go.Ground.guard }], guard := some (1, true) }) (v := ?v7_201) rfl (by kernel_rfl) (by kernel_rfl) (by kernel_rfl) (fun _ _ _ h => h) (Or.inl ⟨by rfl, ?y7_201⟩) hHeld ?r7_201
            case y7_201 => intro w hSw; (try dsimp only at hSw); go_simp; try with_reducible rfl
            try simp only [Act.put, List.setIfInBounds_toArray, List.set_cons_zero, List.set_cons_succ]
            refine wpAnyH_take (i := 8) (oi := { dst := some 96, op := Go.Op.fieldAddr 39 (Go.Operand.tmp 95) 0, type := 0, pos := "law.go:103", after := #[{ on := 7, ground := Go.Ground.data }, { on := 1, ground := Go.Ground.guard }], guard := some (1, true) }) (v := ?v8_201) rfl (by kernel_rfl) (by kernel_rfl) (by kernel_rfl) (fun _ _ _ h => h) (Or.inl ⟨by rfl, ?y8_201⟩) hHeld ?r8_201
            case y8_201 => intro w hSw; (try dsimp only at hSw); go_simp; try with_reducible rfl
            try simp only [Act.put, List.setIfInBounds_toArray, List.set_cons_zero, List.set_cons_succ]
            refine wpAnyH_take (i := 9) (oi := { dst := some 97, op := Go.Op.fieldAddr 36 (Go.Operand.tmp 96) 0, type := 0, pos := "law.go:103", after := #[{ on := 8, ground := Go.Ground.data }, { on := 1, ground := Go.Ground.guard }], guard := some (1, true) }) (v := ?v9_201) rfl (by kernel_rfl) (by kernel_rfl) (by kernel_rfl) (fun _ _ _ h => h) (Or.inl ⟨by rfl, ?y9_201⟩) hHeld ?r9_201
            case y9_201 => intro w hSw; (try dsimp only at hSw); go_simp; try with_reducible rfl
            try simp only [Act.put, List.setIfInBounds_toArray, List.set_cons_zero, List.set_cons_succ]
            refine wpAnyH_take (i := 10) (oi := { dst := some 98, op := Go.Op.load 9 (Go.Operand.tmp 97), type := 9, pos := "law.go:103", after := #[{ on := 9, ground := Go.Ground.data }, { on := 1, ground := Go.Ground.guard }], guard := some (1, true) }) (v := ?v10_201) rfl (by kernel_rfl) (by kernel_rfl) (by kernel_rfl) (fun _ _ _ h => h) (Or.inl ⟨by rfl, ?y10_201⟩) hHeld ?r10_201
            case y10_201 => intro w hSw; (try dsimp only at hSw); go_simp; try with_reducible rfl
            try simp only [Act.put, List.setIfInBounds_toArray, List.set_cons_zero, List.set_cons_succ]
            refine wpAnyH_take (i := 11) (oi := { dst := some 99, op := Go.Op.binOp Go.BinOp.neq 9 (Go.Operand.tmp 92) (Go.Operand.tmp 98) 9, type := 4, pos := "law.go:103", after := #[{ on := 4, ground := Go.Ground.data }, { on := 10, ground := Go.Ground.data }, { on := 1, ground := Go.Ground.guard }], guard := some (1, true) }) (v := ?v11_201) rfl (by kernel_rfl) (by kernel_rfl) (by kernel_rfl) (fun _ _ _ h => h) (Or.inl ⟨by rfl, ?y11_201⟩) hHeld ?r11_201
            case y11_201 => intro w hSw; (try dsimp only at hSw); go_simp; try with_reducible rfl
            try simp only [Act.put, List.setIfInBounds_toArray, List.set_cons_zero, List.set_cons_succ]
            refine wpAnyH_take (i := 12) (oi := { dst := some 100, op := Go.Op.move (Go.Operand.tmp 99), type := 4, pos := "law.go:103", after := #[{ on := 11, ground := Go.Ground.data }, { on := 1, ground := Go.Ground.chain }, { on := 1, ground := Go.Ground.guard }], guard := some (1, true) }) (v := ?v12_201) rfl (by kernel_rfl) (by kernel_rfl) (by kernel_rfl) (fun _ _ _ h => h) (Or.inl ⟨by rfl, ?y12_201⟩) hHeld ?r12_201
            case y12_201 => intro w hSw; (try dsimp only at hSw); go_simp; try with_reducible rfl
            try simp only [Act.put, List.setIfInBounds_toArray, List.set_cons_zero, List.set_cons_succ]
            refine wpAnyH_take (i := 13) (oi := { dst := some 101, op := Go.Op.move (Go.Operand.tmp 7), type := 33, pos := "law.go:103", after := #[{ on := 12, ground := Go.Ground.guard }], guard := some (12, false) }) (v := ?v13_201) rfl (by kernel_rfl) (by kernel_rfl) (by kernel_rfl) (fun _ _ _ h => h) (Or.inl ⟨by rfl, ?y13_201⟩) hHeld ?r13_201
            case y13_201 => intro w hSw; (try dsimp only at hSw); go_simp; try with_reducible rfl
            try simp only [Act.put, List.setIfInBounds_toArray, List.set_cons_zero, List.set_cons_succ]
            refine wpAnyH_take (i := 14) (oi := { dst := some 102, op := Go.Op.move (Go.Operand.tmp 8), type := 3, pos := "law.go:103", after := #[{ on := 12, ground := Go.Ground.guard }], guard := some (12, false) }) (v := ?v14_201) rfl (by kernel_rfl) (by kernel_rfl) (by kernel_rfl) (fun _ _ _ h => h) (Or.inl ⟨by rfl, ?y14_201⟩) hHeld ?r14_201
            case y14_201 => intro w hSw; (try dsimp only at hSw); go_simp; try with_reducible rfl
            try simp only [Act.put, List.setIfInBounds_toArray, List.set_cons_zero, List.set_cons_succ]
            refine wpAnyH_take (i := 15) (oi := { dst := some 103, op := Go.Op.indexAddr 33 (Go.Operand.tmp 101) (Go.Operand.tmp 102), type := 0, pos := "law.go:103", after := #[{ on := 13, ground := Go.Ground.data }, { on := 14, ground := Go.Ground.data }, { on := 12, ground := Go.Ground.guard }], guard := some (12, false) }) (v := ?v15_201) rfl (by kernel_rfl) (by kernel_rfl) (by kernel_rfl) (fun _ _ _ h => h) (Or.inl ⟨by rfl, ?y15_201⟩) hHeld ?r15_201
            case y15_201 => intro w hSw; (try dsimp only at hSw); go_simp; try with_reducible rfl
            try simp only [Act.put, List.setIfInBounds_toArray, List.set_cons_zero, List.set_cons_succ]
            refine wpAnyH_take (i := 16) (oi := { dst := some 104, op := Go.Op.fieldAddr 39 (Go.Operand.tmp 103) 0, type := 0, pos := "law.go:103", after := #[{ on := 15, ground := Go.Ground.data }, { on := 12, ground := Go.Ground.guard }], guard := some (12, false) }) (v := ?v16_201) rfl (by kernel_rfl) (by kernel_rfl) (by kernel_rfl) (fun _ _ _ h => h) (Or.inl ⟨by rfl, ?y16_201⟩) hHeld ?r16_201
            case y16_201 => intro w hSw; (try dsimp only at hSw); go_simp; try with_reducible rfl
            try simp only [Act.put, List.setIfInBounds_toArray, List.set_cons_zero, List.set_cons_succ]
            refine wpAnyH_take (i := 17) (oi := { dst := some 105, op := Go.Op.load 36 (Go.Operand.tmp 104), type := 36, pos := "law.go:103", after := #[{ on := 16, ground := Go.Ground.data }, { on := 12, ground := Go.Ground.guard }], guard := some (12, false) }) (v := ?v17_201) rfl (by kernel_rfl) (by kernel_rfl) (by kernel_rfl) (fun _ _ _ h => h) (Or.inl ⟨by rfl, ?y17_201⟩) hHeld ?r17_201
            case y17_201 => intro w hSw; (try dsimp only at hSw); go_simp; try with_reducible rfl
            try simp only [Act.put, List.setIfInBounds_toArray, List.set_cons_zero, List.set_cons_succ]
            refine wpAnyH_ready (rs := [18]) (by kernel_rfl) (by simp) ?_
            refine AllReadyH.cons (o := { dst := some 106, op := Go.Op.buildSlice 95 1 #[(0, Go.Operand.const (Go.Value.int Go.IntKind.i64 43))], type := 95, pos := "law.go:103", after := #[{ on := 12, ground := Go.Ground.guard }], guard := some (12, false) }) rfl (fun K hK => ?_) AllReadyH.nil
            go_simp
            have hb := (Below.refl _ _ : Below we.heap.size we we).alloc (Nat.le_refl _) (.cells #[.int .i64 43] 3)
            have HL1 := Lib.hid (row_lit1 we 43 3)
            obtain ⟨wf, hwf⟩ : ∃ x, we.alloc (.cells #[.int .i64 43] 3) = x := ⟨_, rfl⟩
            rw [hwf] at hb HL1 ⊢
            obtain ⟨gf, hgf⟩ : ∃ x, we.heap.size = x := ⟨_, rfl⟩
            rw [hgf] at HL1 ⊢
            clear hwf hgf
            refine hK.out _ _ (⟨Lib.hid (hHeld.1.out.trans (hb.mono hHeld.1.out.size)), cell_later4 hb hHeld.2.1, cell_later4 hb hHeld.2.2.1, cell_later4 hb hHeld.2.2.2.1, cell_later4 hb hHeld.2.2.2.2⟩) (fun hHeld2 => ?_)
            clear hK K hHeld
            have hHeld := hHeld2
            clear hHeld2
            try simp only [Act.put, List.setIfInBounds_toArray, List.set_cons_zero, List.set_cons_succ]
            refine wpAnyH_ready (rs := [19]) (by kernel_rfl) (by simp) ?_
            refine AllReadyH.cons (o := { dst := some 107, op := Go.Op.call { callee := Go.Callee.value (Go.Operand.func 28), args := #[Go.Operand.tmp 105, Go.Operand.tmp 106], argTypes := #[36, 95] }, type := 4, pos := "law.go:103", after := #[{ on := 17, ground := Go.Ground.data }, { on := 18, ground := Go.Ground.data }, { on := 12, ground := Go.Ground.chain }, { on := 12, ground := Go.Ground.guard }], guard := some (12, false) }) rfl (fun K hK => ?_) AllReadyH.nil
            go_simp
            refine (isK ⟨sn, st, 1⟩ (some ⟨gf, 0, none⟩) 1 1 [43] wf HL1.out (by omega)).mono ?_; rintro e wg ⟨rfl, hb⟩
            rw [show decide ((⟨sn, st, 1⟩ : Ky).t ∈ [(43 : Int)]) = false from HVT.out]
            go_wp2_with fail
            refine hK.out _ _ (⟨Lib.hid (hHeld.1.out.trans (hb.mono hHeld.1.out.size)), cell_later4 hb hHeld.2.1, cell_later4 hb hHeld.2.2.1, cell_later4 hb hHeld.2.2.2.1, cell_later4 hb hHeld.2.2.2.2⟩) (fun hHeld2 => ?_)
            clear hK K hHeld
            have hHeld := hHeld2
            clear hHeld2
            try simp only [Act.put, List.setIfInBounds_toArray, List.set_cons_zero, List.set_cons_succ]
            refine wpAnyH_take (i := 20) (oi := { dst := some 108, op := Go.Op.unOp Go.UnOp.not 4 (Go.Operand.tmp 107), type := 4, pos := "law.go:103", after := #[{ on := 19, ground := Go.Ground.data }, { on := 12, ground := Go.Ground.guard }], guard := some (12, false) }) (v := ?v20_203) rfl (by kernel_rfl) (by kernel_rfl) (by kernel_rfl) (fun _ _ _ h => h) (Or.inl ⟨by rfl, ?y20_203⟩) hHeld ?r20_203
            case y20_203 => intro w hSw; (try dsimp only at hSw); go_simp; try with_reducible rfl
            try simp only [Act.put, List.setIfInBounds_toArray, List.set_cons_zero, List.set_cons_succ]
            refine wpAnyH_take (i := 21) (oi := { dst := some 109, op := Go.Op.pick (Go.Operand.tmp 100) (Go.Operand.const (Go.Value.bool true)) (Go.Operand.tmp 108), type := 4, pos := "law.go:103", after := #[{ on := 12, ground := Go.Ground.data }, { on := 20, ground := Go.Ground.data }, { on := 1, ground := Go.Ground.guard }], guard := some (1, true) }) (v := ?v21_203) rfl (by kernel_rfl) (by kernel_rfl) (by kernel_rfl) (fun _ _ _ h => h) (Or.inl ⟨by rfl, ?y21_203⟩) hHeld ?r21_203
            case y21_203 => intro w hSw; (try dsimp only at hSw); go_simp; try with_reducible rfl
            try simp only [Act.put, List.setIfInBounds_toArray, List.set_cons_zero, List.set_cons_succ]
            refine wpAnyH_take (i := 22) (oi := { dst := some 110, op := Go.Op.pick (Go.Operand.tmp 89) (Go.Operand.tmp 109) (Go.Operand.const (Go.Value.bool false)), type := 4, pos := "law.go:103", after := #[{ on := 1, ground := Go.Ground.data }, { on := 21, ground := Go.Ground.data }], guard := none }) (v := ?v22_203) rfl (by kernel_rfl) (by kernel_rfl) (by kernel_rfl) (fun _ _ _ h => h) (Or.inl ⟨by rfl, ?y22_203⟩) hHeld ?r22_203
            case y22_203 => intro w hSw; (try dsimp only at hSw); go_simp; try with_reducible rfl
            try simp only [Act.put, List.setIfInBounds_toArray, List.set_cons_zero, List.set_cons_succ]
            refine wpAnyH_take (i := 23) (oi := { dst := some 87, op := Go.Op.assign (Go.Operand.tmp 110), type := 4, pos := "law.go:103", after := #[{ on := 22, ground := Go.Ground.data }, { on := 19, ground := Go.Ground.chain }], guard := none }) (v := ?v23_203) rfl (by kernel_rfl) (by kernel_rfl) (by kernel_rfl) (fun _ _ _ h => h) (Or.inl ⟨by rfl, ?y23_203⟩) hHeld ?r23_203
            case y23_203 => intro w hSw; (try dsimp only at hSw); go_simp; try with_reducible rfl
            try simp only [Act.put, List.setIfInBounds_toArray, List.set_cons_zero, List.set_cons_succ]
            refine wpAnyH_done (by kernel_rfl) ?_ _
            have hbe := hHeld.1.out
            clear hHeld
            clear s1
            have HBE2 := Lib.hid hbe
            clear hbe
            replace Y0 := Lib.hid (cell_later4 HBE2.out Y0.out)
            replace Y1 := Lib.hid (cell_later4 HBE2.out Y1.out)
            replace Y2 := Lib.hid (cell_later4 HBE2.out Y2.out)
            replace Y3 := Lib.hid (cell_later4 HBE2.out Y3.out)
            replace Y4 := Lib.hid (cell_later4 HBE2.out Y4.out)
            replace HC10 := Lib.hid (HC10.out.below HBE2.out)
            replace KZ := Lib.hid (KZ.out.below HBE2.out)
            replace HCR := Lib.hid (HCR.out.below HBE2.out)
            replace HSRZ := Lib.hid (HSRZ.out.below HBE2.out)
            replace HU := Lib.hid (HU.out.below HBE2.out)
            replace HB6 := Lib.hid (HB6.out.trans (HBE2.out.mono HB6.out.size))
            clear HBE2
            go_upto_region 17 with (fail)
            obtain ⟨w6, hw6⟩ : ∃ x, wg = x := ⟨_, rfl⟩
            rw [hw6] at Y0 Y1 Y2 Y3 Y4 HC10 KZ HCR HSRZ HU HB6 ⊢
            clear hw6
            obtain ⟨rfl, b9, o9, p9, c9, rfl, z0, z1, z2, z3, z4, hzr, -⟩ := at_full HU.out.at
            replace hzr : RowS w6 p9 cd.length cd := hzr
            replace z4 : w6.cell? ⟨b9, o9 + 4, none⟩ = some (.slice p9 cd.length c9) := z4
            rw [show cd.length = cl from HCR.out.1] at hzr z4
            have HZR := Lib.hid hzr
            have Z0 := Lib.hid (show w6.cell? ⟨b9, o9, none⟩ = some (.string cn) from z0)
            have Z1 := Lib.hid (show w6.cell? ⟨b9, o9 + 1, none⟩ = some (.int .i64 ct) from z1)
            have Z2 := Lib.hid (show w6.cell? ⟨b9, o9 + 2, none⟩ = some (.int .i64 ck) from z2)
            have Z3 := Lib.hid (show w6.cell? ⟨b9, o9 + 3, none⟩ = some (.int .i64 cu) from z3)
            have Z4 := Lib.hid z4
            clear z0 z1 z2 z3 z4 hzr
            have HSAME := Lib.hid (fun wx (hx : Below w6.heap.size w6 wx) => same_selfE cn ct ck cu cd p9 cda cl c9 cdc wx (HZR.out.below hx) (HCR.out.below hx) HCLL.out)
            have hbd := (Below.refl w6.heap.size w6).drew
            obtain ⟨we, hwe⟩ : ∃ x, w6.drew = x := ⟨_, rfl⟩
            have HBE := Lib.hid (show Below w6.heap.size w6 we by rw [← hwe]; exact hbd)
            clear hbd
            refine wp_region_held_drew (S := (fun wx => Hid (Below w6.heap.size w6 wx) ∧ wx.cell? ⟨q9, 0, none⟩ = some (.int .i64 3) ∧ wx.cell? ⟨q9, 3, none⟩ = some (.slice (some ⟨b9, o9, none⟩) 1 c2) ∧ wx.cell? ⟨b9, o9, none⟩ = some (.string cn) ∧ wx.cell? ⟨b9, o9 + 1, none⟩ = some (.int .i64 ct) ∧ wx.cell? ⟨b9, o9 + 2, none⟩ = some (.int .i64 ck) ∧ wx.cell? ⟨b9, o9 + 3, none⟩ = some (.int .i64 cu) ∧ wx.cell? ⟨b9, o9 + 4, none⟩ = some (.slice p9 cl c9) ∧ wx.cell? ⟨q10, 0, none⟩ = some (.string cn) ∧ wx.cell? ⟨q10, 1, none⟩ = some (.int .i64 ct) ∧ wx.cell? ⟨q10, 2, none⟩ = some (.int .i64 ck) ∧ wx.cell? ⟨q10, 3, none⟩ = some (.int .i64 cu) ∧ wx.cell? ⟨q10, 4, none⟩ = some (.slice cda cl cdc))) (by kernel_rfl) (by rw [hwe]; exact ⟨HBE, cell_later4 HBE.out KZ.out.u5.1, cell_later4 HBE.out KZ.out.u5.2.2.2.1, cell_later4 HBE.out Z0.out, cell_later4 HBE.out Z1.out, cell_later4 HBE.out Z2.out, cell_later4 HBE.out Z3.out, cell_later4 HBE.out Z4.out, cell_later4 HBE.out HC10.out.2.1, cell_later4 HBE.out HC10.out.2.2.1, cell_later4 HBE.out HC10.out.2.2.2.1, cell_later4 HBE.out HC10.out.2.2.2.2.1, cell_later4 HBE.out HC10.out.2.2.2.2.2.1⟩) (fun hHeld => ?_)
            rw [hwe] at hHeld ⊢
            clear hwe
            refine wpAnyH_take (i := 0) (oi := { dst := some 111, op := Go.Op.fieldAddr 68 (Go.Operand.tmp 9) 0, type := 0, pos := "law.go:104", after := #[], guard := none }) (v := ?v0_301) rfl (by kernel_rfl) (by kernel_rfl) (by kernel_rfl) (fun _ _ _ h => h) (Or.inl ⟨by rfl, ?y0_301⟩) hHeld ?r0_301
            case y0_301 => intro w hSw; (try dsimp only at hSw); go_simp; try with_reducible rfl
            try simp only [Act.put, List.setIfInBounds_toArray, List.set_cons_zero, List.set_cons_succ]
            refine wpAnyH_take (i := 1) (oi := { dst := some 112, op := Go.Op.load 3 (Go.Operand.tmp 111), type := 3, pos := "law.go:104", after := #[{ on := 0, ground := Go.Ground.data }], guard := none }) (v := ?v1_301) rfl (by kernel_rfl) (by kernel_rfl) (by kernel_rfl) (fun _ _ _ h => h) (Or.inl ⟨by rfl, ?y1_301⟩) hHeld ?r1_301
            case y1_301 => intro w hSw; (try dsimp only at hSw); go_simp; try with_reducible rfl
            try simp only [Act.put, List.setIfInBounds_toArray, List.set_cons_zero, List.set_cons_succ]
            refine wpAnyH_take (i := 2) (oi := { dst := some 113, op := Go.Op.binOp Go.BinOp.neq 3 (Go.Operand.tmp 112) (Go.Operand.const (Go.Value.int Go.IntKind.i64 3)) 3, type := 4, pos := "law.go:104", after := #[{ on := 1, ground := Go.Ground.data }], guard := none }) (v := ?v2_301) rfl (by kernel_rfl) (by kernel_rfl) (by kernel_rfl) (fun _ _ _ h => h) (Or.inl ⟨by rfl, ?y2_301⟩) hHeld ?r2_301
            case y2_301 => intro w hSw; (try dsimp only at hSw); go_simp; try with_reducible rfl
            try simp only [Act.put, List.setIfInBounds_toArray, List.set_cons_zero, List.set_cons_succ]
            refine wpAnyH_take (i := 3) (oi := { dst := some 114, op := Go.Op.move (Go.Operand.tmp 113), type := 4, pos := "law.go:104", after := #[{ on := 2, ground := Go.Ground.data }], guard := none }) (v := ?v3_301) rfl (by kernel_rfl) (by kernel_rfl) (by kernel_rfl) (fun _ _ _ h => h) (Or.inl ⟨by rfl, ?y3_301⟩) hHeld ?r3_301
            case y3_301 => intro w hSw; (try dsimp only at hSw); go_simp; try with_reducible rfl
            try simp only [Act.put, List.setIfInBounds_toArray, List.set_cons_zero, List.set_cons_succ]
            refine wpAnyH_take (i := 4) (oi := { dst := some 115, op := Go.Op.fieldAddr 68 (Go.Operand.tmp 9) 3, type := 0, pos := "law.go:104", after := #[{ on := 3, ground := Go.Ground.guard }], guard := some (3, false) }) (v := ?v4_301) rfl (by kernel_rfl) (by kernel_rfl) (by kernel_rfl) (fun _ _ _ h => h) (Or.inl ⟨by rfl, ?y4_301⟩) hHeld ?r4_301
            case y4_301 => intro w hSw; (try dsimp only at hSw); go_simp; try with_reducible rfl
            try simp only [Act.put, List.setIfInBounds_toArray, List.set_cons_zero, List.set_cons_succ]
            refine wpAnyH_take (i := 5) (oi := { dst := some 116, op := Go.Op.load 33 (Go.Operand.tmp 115), type := 33, pos := "law.go:104", after := #[{ on := 4, ground := Go.Ground.data }, { on := 3, ground := Go.Ground.guard }], guard := some (3, false) }) (v := ?v5_301) rfl (by kernel_rfl) (by kernel_rfl) (by kernel_rfl) (fun _ _ _ h => h) (Or.inl ⟨by rfl, ?y5_301⟩) hHeld ?r5_301
            case y5_301 => intro w hSw; (try dsimp only at hSw); go_simp; try with_reducible rfl
            try simp only [Act.put, List.setIfInBounds_toArray, List.set_cons_zero, List.set_cons_succ]
            refine wpAnyH_take (i := 6) (oi := { dst := some 117, op := Go.Op.call { callee := Go.Callee.builtin Go.Builtin.len, args := #[Go.Operand.tmp 116], argTypes := #[33] }, type := 3, pos := "law.go:104", after := #[{ on := 5, ground := Go.Ground.data }, { on := 3, ground := Go.Ground.guard }], guard := some (3, false) }) (v := ?v6_301) rfl (by kernel_rfl) (by kernel_rfl) (by kernel_rfl) (fun _ _ _ h => h) (Or.inl ⟨by rfl, ?y6_301⟩) hHeld ?r6_301
            case y6_301 => intro w hSw; (try dsimp only at hSw); go_simp; try with_reducible rfl
            try simp only [Act.put, List.setIfInBounds_toArray, List.set_cons_zero, List.set_cons_succ]
            refine wpAnyH_take (i := 7) (oi := { dst := some 118, op := Go.Op.binOp Go.BinOp.neq 3 (Go.Operand.tmp 117) (Go.Operand.const (Go.Value.int Go.IntKind.i64 1)) 3, type := 4, pos := "law.go:104", after := #[{ on := 6, ground := Go.Ground.data }, { on := 3, ground := Go.Ground.guard }], guard := some (3, false) }) (v := ?v7_301) rfl (by kernel_rfl) (by kernel_rfl) (by kernel_rfl) (fun _ _ _ h => h) (Or.inl ⟨by rfl, ?y7_301⟩) hHeld ?r7_301
            case y7_301 => intro w hSw; (try dsimp only at hSw); go_simp; try with_reducible rfl
            try simp only [Act.put, List.setIfInBounds_toArray, List.set_cons_zero, List.set_cons_succ]
            refine wpAnyH_take (i := 8) (oi := { dst := some 119, op := Go.Op.pick (Go.Operand.tmp 114) (Go.Operand.const (Go.Value.bool true)) (Go.Operand.tmp 118), type := 4, pos := "law.go:104", after := #[{ on := 3, ground := Go.Ground.data }, { on := 7, ground := Go.Ground.data }], guard := none }) (v := ?v8_301) rfl (by kernel_rfl) (by kernel_rfl) (by kernel_rfl) (fun _ _ _ h => h) (Or.inl ⟨by rfl, ?y8_301⟩) hHeld ?r8_301
            case y8_301 => intro w hSw; (try dsimp only at hSw); go_simp; try with_reducible rfl
            try simp only [Act.put, List.setIfInBounds_toArray, List.set_cons_zero, List.set_cons_succ]
            refine wpAnyH_take (i := 9) (oi := { dst := some 120, op := Go.Op.move (Go.Operand.tmp 119), type := 4, pos := "law.go:104", after := #[{ on := 8, ground := Go.Ground.data }, { on := 3, ground := Go.Ground.chain }], guard := none }) (v := ?v9_301) rfl (by kernel_rfl) (by kernel_rfl) (by kernel_rfl) (fun _ _ _ h => h) (Or.inl ⟨by rfl, ?y9_301⟩) hHeld ?r9_301
            case y9_301 => intro w hSw; (try dsimp only at hSw); go_simp; try with_reducible rfl
            try simp only [Act.put, List.setIfInBounds_toArray, List.set_cons_zero, List.set_cons_succ]
            refine wpAnyH_take (i := 10) (oi := { dst := some 121, op := Go.Op.fieldAddr 68 (Go.Operand.tmp 9) 3, type := 0, pos := "law.go:104", after := #[{ on := 9, ground := Go.Ground.guard }], guard := some (9, false) }) (v := ?v10_301) rfl (by kernel_rfl) (by kernel_rfl) (by kernel_rfl) (fun _ _ _ h => h) (Or.inl ⟨by rfl, ?y10_301⟩) hHeld ?r10_301
            case y10_301 => intro w hSw; (try dsimp only at hSw); go_simp; try with_reducible rfl
            try simp only [Act.put, List.setIfInBounds_toArray, List.set_cons_zero, List.set_cons_succ]
            refine wpAnyH_take (i := 11) (oi := { dst := some 122, op := Go.Op.load 33 (Go.Operand.tmp 121), type := 33, pos := "law.go:104", after := #[{ on := 10, ground := Go.Ground.data }, { on := 9, ground := Go.Ground.guard }], guard := some (9, false) }) (v := ?v11_301) rfl (by kernel_rfl) (by kernel_rfl) (by kernel_rfl) (fun _ _ _ h => h) (Or.inl ⟨by rfl, ?y11_301⟩) hHeld ?r11_301
            case y11_301 => intro w hSw; (try dsimp only at hSw); go_simp; try with_reducible rfl
            try simp only [Act.put, List.setIfInBounds_toArray, List.set_cons_zero, List.set_cons_succ]
            refine wpAnyH_take (i := 12) (oi := { dst := some 123, op := Go.Op.indexAddr 33 (Go.Operand.tmp 122) (Go.Operand.const (Go.Value.int Go.IntKind.i64 0)), type := 0, pos := "law.go:104", after := #[{ on := 11, ground := Go.Ground.data }, { on := 9, ground := Go.Ground.guard }], guard := some (9, false) }) (v := ?v12_301) rfl (by kernel_rfl) (by kernel_rfl) (by kernel_rfl) (fun _ _ _ h => h) (Or.inl ⟨by rfl, ?y12_301⟩) hHeld ?r12_301
            case y12_301 => intro w hSw; (try dsimp only at hSw); go_simp; try with_reducible rfl
            try simp only [Act.put, List.setIfInBounds_toArray, List.set_cons_zero, List.set_cons_succ]
            refine wpAnyH_take (i := 13) (oi := { dst := some 124, op := Go.Op.load 39 (Go.Operand.tmp 123), type := 39, pos := "law.go:104", after := #[{ on := 12, ground := Go.Ground.data }, { on := 9, ground := Go.Ground.guard }], guard := some (9, false) }) (v := ?v13_301) rfl (by kernel_rfl) (by kernel_rfl) (by kernel_rfl) (fun _ _ _ h => h) (Or.inl ⟨by rfl, ?y13_301⟩) hHeld ?r13_301
            case y13_301 => intro w hSw; (try dsimp only at hSw); go_simp; try with_reducible rfl
            try simp only [Act.put, List.setIfInBounds_toArray, List.set_cons_zero, List.set_cons_succ]
            refine wpAnyH_take (i := 14) (oi := { dst := some 125, op := Go.Op.load 39 (Go.Operand.tmp 10), type := 39, pos := "law.go:104", after := #[{ on := 9, ground := Go.Ground.guard }], guard := some (9, false) }) (v := ?v14_301) rfl (by kernel_rfl) (by kernel_rfl) (by kernel_rfl) (fun _ _ _ h => h) (Or.inl ⟨by rfl, ?y14_301⟩) hHeld ?r14_301
            case y14_301 => intro w hSw; (try dsimp only at hSw); go_simp; try with_reducible rfl
            try simp only [Act.put, List.setIfInBounds_toArray, List.set_cons_zero, List.set_cons_succ]
            refine wpAnyH_ready (rs := [15]) (by kernel_rfl) (by simp) ?_
            refine AllReadyH.cons (o := { dst := some 126, op := Go.Op.call { callee := Go.Callee.value (Go.Operand.func 31), args := #[Go.Operand.tmp 124, Go.Operand.tmp 125], argTypes := #[39, 39] }, type := 4, pos := "law.go:104", after := #[{ on := 13, ground := Go.Ground.data }, { on := 14, ground := Go.Ground.data }, { on := 9, ground := Go.Ground.chain }, { on := 9, ground := Go.Ground.guard }], guard := some (9, false) }) rfl (fun K hK => ?_) AllReadyH.nil
            go_simp
            refine (HSAME.out _ hHeld.1.out).mono ?_; rintro e wg ⟨rfl, hb⟩
            go_wp2_with fail
            refine hK.out _ _ (⟨Lib.hid (hHeld.1.out.trans (hb.mono hHeld.1.out.size)), cell_later4 hb hHeld.2.1, cell_later4 hb hHeld.2.2.1, cell_later4 hb hHeld.2.2.2.1, cell_later4 hb hHeld.2.2.2.2.1, cell_later4 hb hHeld.2.2.2.2.2.1, cell_later4 hb hHeld.2.2.2.2.2.2.1, cell_later4 hb hHeld.2.2.2.2.2.2.2.1, cell_later4 hb hHeld.2.2.2.2.2.2.2.2.1, cell_later4 hb hHeld.2.2.2.2.2.2.2.2.2.1, cell_later4 hb hHeld.2.2.2.2.2.2.2.2.2.2.1, cell_later4 hb hHeld.2.2.2.2.2.2.2.2.2.2.2.1, cell_later4 hb hHeld.2.2.2.2.2.2.2.2.2.2.2.2⟩) (fun hHeld2 => ?_)
            clear hK K hHeld
            have hHeld := hHeld2
            clear hHeld2
            try simp only [Act.put, List.setIfInBounds_toArray, List.set_cons_zero, List.set_cons_succ]
            refine wpAnyH_take (i := 16) (oi := { dst := some 127, op := Go.Op.unOp Go.UnOp.not 4 (Go.Operand.tmp 126), type := 4, pos := "law.go:104", after := #[{ on := 15, ground := Go.Ground.data }, { on := 9, ground := Go.Ground.guard }], guard := some (9, false) }) (v := ?v16_302) rfl (by kernel_rfl) (by kernel_rfl) (by kernel_rfl) (fun _ _ _ h => h) (Or.inl ⟨by rfl, ?y16_302⟩) hHeld ?r16_302
            case y16_302 => intro w hSw; (try dsimp only at hSw); go_simp; try with_reducible rfl
            try simp only [Act.put, List.setIfInBounds_toArray, List.set_cons_zero, List.set_cons_succ]
            refine wpAnyH_take (i := 17) (oi := { dst := some 128, op := Go.Op.pick (Go.Operand.tmp 120) (Go.Operand.const (Go.Value.bool true)) (Go.Operand.tmp 127), type := 4, pos := "law.go:104", after := #[{ on := 9, ground := Go.Ground.data }, { on := 16, ground := Go.Ground.data }], guard := none }) (v := ?v17_302) rfl (by kernel_rfl) (by kernel_rfl) (by kernel_rfl) (fun _ _ _ h => h) (Or.inl ⟨by rfl, ?y17_302⟩) hHeld ?r17_302
            case y17_302 => intro w hSw; (try dsimp only at hSw); go_simp; try with_reducible rfl
            try simp only [Act.put, List.setIfInBounds_toArray, List.set_cons_zero, List.set_cons_succ]
            refine wpAnyH_done (by kernel_rfl) ?_ _
            have hbe := hHeld.1.out
            clear hHeld
            have HBN := Lib.hid (HB6.out.trans (hbe.mono HB6.out.size))
            clear hbe
            go_wp2
            go_roundw
            case rel => exact ⟨k + 1, by have := HLT.out; omega, by have := HLT.out; go_num, HBN⟩
            case measure => have := HLT.out; simp [intOf]; omega
          · have s1 := strA_ne hns
            clear hns hds
            have hbd := (Below.refl w6.heap.size w6).drew
            obtain ⟨we, hwe⟩ : ∃ x, w6.drew = x := ⟨_, rfl⟩
            have HBE := Lib.hid (show Below w6.heap.size w6 we by rw [← hwe]; exact hbd)
            clear hbd
            refine wp_region_held_drew (S := (fun wx => Hid (Below w6.heap.size w6 wx) ∧ wx.cell? ⟨b, o + k * 5, none⟩ = some (.string sn) ∧ wx.cell? ⟨b, o + k * 5 + 1, none⟩ = some (.int .i64 st) ∧ wx.cell? ⟨b, o + k * 5 + 2, none⟩ = some (.int .i64 1) ∧ wx.cell? ⟨q10, 0, none⟩ = some (.string cn))) (by kernel_rfl) (by rw [hwe]; exact ⟨HBE, cell_later4 HBE.out Y0.out, cell_later4 HBE.out Y1.out, cell_later4 HBE.out Y2.out, cell_later4 HBE.out HC10.out.2.1⟩) (fun hHeld => ?_)
            rw [hwe] at hHeld ⊢
            clear hwe
            refine wpAnyH_take (i := 0) (oi := { dst := some 88, op := Go.Op.move (Go.Operand.tmp 11), type := 4, pos := "law.go:103", after := #[], guard := none }) (v := ?v0_401) rfl (by kernel_rfl) (by kernel_rfl) (by kernel_rfl) (fun _ _ _ h => h) (Or.inl ⟨by rfl, ?y0_401⟩) hHeld ?r0_401
            case y0_401 => intro w hSw; (try dsimp only at hSw); go_simp; try with_reducible rfl
            try simp only [Act.put, List.setIfInBounds_toArray, List.set_cons_zero, List.set_cons_succ]
            refine wpAnyH_take (i := 1) (oi := { dst := some 89, op := Go.Op.move (Go.Operand.tmp 88), type := 4, pos := "law.go:103", after := #[{ on := 0, ground := Go.Ground.data }], guard := none }) (v := ?v1_401) rfl (by kernel_rfl) (by kernel_rfl) (by kernel_rfl) (fun _ _ _ h => h) (Or.inl ⟨by rfl, ?y1_401⟩) hHeld ?r1_401
            case y1_401 => intro w hSw; (try dsimp only at hSw); go_simp; try with_reducible rfl
            try simp only [Act.put, List.setIfInBounds_toArray, List.set_cons_zero, List.set_cons_succ]
            refine wpAnyH_take (i := 2) (oi := { dst := some 90, op := Go.Op.fieldAddr 39 (Go.Operand.tmp 10) 0, type := 0, pos := "law.go:103", after := #[{ on := 1, ground := Go.Ground.guard }], guard := some (1, true) }) (v := ?v2_401) rfl (by kernel_rfl) (by kernel_rfl) (by kernel_rfl) (fun _ _ _ h => h) (Or.inl ⟨by rfl, ?y2_401⟩) hHeld ?r2_401
            case y2_401 => intro w hSw; (try dsimp only at hSw); go_simp; try with_reducible rfl
            try simp only [Act.put, List.setIfInBounds_toArray, List.set_cons_zero, List.set_cons_succ]
            refine wpAnyH_take (i := 3) (oi := { dst := some 91, op := Go.Op.fieldAddr 36 (Go.Operand.tmp 90) 0, type := 0, pos := "law.go:103", after := #[{ on := 2, ground := Go.Ground.data }, { on := 1, ground := Go.Ground.guard }], guard := some (1, true) }) (v := ?v3_401) rfl (by kernel_rfl) (by kernel_rfl) (by kernel_rfl) (fun _ _ _ h => h) (Or.inl ⟨by rfl, ?y3_401⟩) hHeld ?r3_401
            case y3_401 => intro w hSw; (try dsimp only at hSw); go_simp; try with_reducible rfl
            try simp only [Act.put, List.setIfInBounds_toArray, List.set_cons_zero, List.set_cons_succ]
            refine wpAnyH_take (i := 4) (oi := { dst := some 92, op := Go.Op.load 9 (Go.Operand.tmp 91), type := 9, pos := "law.go:103", after := #[{ on := 3, ground := Go.Ground.data }, { on := 1, ground := Go.Ground.guard }], guard := some (1, true) }) (v := ?v4_401) rfl (by kernel_rfl) (by kernel_rfl) (by kernel_rfl) (fun _ _ _ h => h) (Or.inl ⟨by rfl, ?y4_401⟩) hHeld ?r4_401
            case y4_401 => intro w hSw; (try dsimp only at hSw); go_simp; try with_reducible rfl
            try simp only [Act.put, List.setIfInBounds_toArray, List.set_cons_zero, List.set_cons_succ]
            refine wpAnyH_take (i := 5) (oi := { dst := some 93, op := Go.Op.move (Go.Operand.tmp 7), type := 33, pos := "law.go:103", after := #[{ on := 1, ground := Go.Ground.guard }], guard := some (1, true) }) (v := ?v5_401) rfl (by kernel_rfl) (by kernel_rfl) (by kernel_rfl) (fun _ _ _ h => h) (Or.inl ⟨by rfl, ?y5_401⟩) hHeld ?r5_401
            case y5_401 => intro w hSw; (try dsimp only at hSw); go_simp; try with_reducible rfl
            try simp only [Act.put, List.setIfInBounds_toArray, List.set_cons_zero, List.set_cons_succ]
            refine wpAnyH_take (i := 6) (oi := { dst := some 94, op := Go.Op.move (Go.Operand.tmp 8), type := 3, pos := "law.go:103", after := #[{ on := 1, ground := Go.Ground.guard }], guard := some (1, true) }) (v := ?v6_401) rfl (by kernel_rfl) (by kernel_rfl) (by kernel_rfl) (fun _ _ _ h => h) (Or.inl ⟨by rfl, ?y6_401⟩) hHeld ?r6_401
            case y6_401 => intro w hSw; (try dsimp only at hSw); go_simp; try with_reducible rfl
            try simp only [Act.put, List.setIfInBounds_toArray, List.set_cons_zero, List.set_cons_succ]
            refine wpAnyH_take (i := 7) (oi := { dst := some 95, op := Go.Op.indexAddr 33 (Go.Operand.tmp 93) (Go.Operand.tmp 94), type := 0, pos := "law.go:103", after := #[{ on := 5, ground := Go.Ground.data }, { on := 6, ground := Go.Ground.data }, { on := 1, ground := Go.Ground.guard }], guard := some (1, true) }) (v := ?v7_401) rfl (by kernel_rfl) (by kernel_rfl) (by kernel_rfl) (fun _ _ _ h => h) (Or.inl ⟨by rfl, ?y7_401⟩) hHeld ?r7_401
            case y7_401 => intro w hSw; (try dsimp only at hSw); go_simp; try with_reducible rfl
            try simp only [Act.put, List.setIfInBounds_toArray, List.set_cons_zero, List.set_cons_succ]
            refine wpAnyH_take (i := 8) (oi := { dst := some 96, op := Go.Op.fieldAddr 39 (Go.Operand.tmp 95) 0, type := 0, pos := "law.go:103", after := #[{ on := 7, ground := Go.Ground.data }, { on := 1, ground := Go.Ground.guard }], guard := some (1, true) }) (v := ?v8_401) rfl (by kernel_rfl) (by kernel_rfl) (by kernel_rfl) (fun _ _ _ h => h) (Or.inl ⟨by rfl, ?y8_401⟩) hHeld ?r8_401
            case y8_401 => intro w hSw; (try dsimp only at hSw); go_simp; try with_reducible rfl
            try simp only [Act.put, List.setIfInBounds_toArray, List.set_cons_zero, List.set_cons_succ]
            refine wpAnyH_take (i := 9) (oi := { dst := some 97, op := Go.Op.fieldAddr 36 (Go.Operand.tmp 96) 0, type := 0, pos := "law.go:103", after := #[{ on := 8, ground := Go.Ground.data }, { on := 1, ground := Go.Ground.guard }], guard := some (1, true) }) (v := ?v9_401) rfl (by kernel_rfl) (by kernel_rfl) (by kernel_rfl) (fun _ _ _ h => h) (Or.inl ⟨by rfl, ?y9_401⟩) hHeld ?r9_401
            case y9_401 => intro w hSw; (try dsimp only at hSw); go_simp; try with_reducible rfl
            try simp only [Act.put, List.setIfInBounds_toArray, List.set_cons_zero, List.set_cons_succ]
            refine wpAnyH_take (i := 10) (oi := { dst := some 98, op := Go.Op.load 9 (Go.Operand.tmp 97), type := 9, pos := "law.go:103", after := #[{ on := 9, ground := Go.Ground.data }, { on := 1, ground := Go.Ground.guard }], guard := some (1, true) }) (v := ?v10_401) rfl (by kernel_rfl) (by kernel_rfl) (by kernel_rfl) (fun _ _ _ h => h) (Or.inl ⟨by rfl, ?y10_401⟩) hHeld ?r10_401
            case y10_401 => intro w hSw; (try dsimp only at hSw); go_simp; try with_reducible rfl
            try simp only [Act.put, List.setIfInBounds_toArray, List.set_cons_zero, List.set_cons_succ]
            refine wpAnyH_take (i := 11) (oi := { dst := some 99, op := Go.Op.binOp Go.BinOp.neq 9 (Go.Operand.tmp 92) (Go.Operand.tmp 98) 9, type := 4, pos := "law.go:103", after := #[{ on := 4, ground := Go.Ground.data }, { on := 10, ground := Go.Ground.data }, { on := 1, ground := Go.Ground.guard }], guard := some (1, true) }) (v := ?v11_401) rfl (by kernel_rfl) (by kernel_rfl) (by kernel_rfl) (fun _ _ _ h => h) (Or.inl ⟨by rfl, ?y11_401⟩) hHeld ?r11_401
            case y11_401 => intro w hSw; (try dsimp only at hSw); go_simp; try with_reducible rfl
            try simp only [Act.put, List.setIfInBounds_toArray, List.set_cons_zero, List.set_cons_succ]
            refine wpAnyH_take (i := 12) (oi := { dst := some 100, op := Go.Op.move (Go.Operand.tmp 99), type := 4, pos := "law.go:103", after := #[{ on := 11, ground := Go.Ground.data }, { on := 1, ground := Go.Ground.chain }, { on := 1, ground := Go.Ground.guard }], guard := some (1, true) }) (v := ?v12_401) rfl (by kernel_rfl) (by kernel_rfl) (by kernel_rfl) (fun _ _ _ h => h) (Or.inl ⟨by rfl, ?y12_401⟩) hHeld ?r12_401
            case y12_401 => intro w hSw; (try dsimp only at hSw); go_simp; try with_reducible rfl
            try simp only [Act.put, List.setIfInBounds_toArray, List.set_cons_zero, List.set_cons_succ]
            refine wpAnyH_take (i := 13) (oi := { dst := some 101, op := Go.Op.move (Go.Operand.tmp 7), type := 33, pos := "law.go:103", after := #[{ on := 12, ground := Go.Ground.guard }], guard := some (12, false) }) (v := undef) rfl (by kernel_rfl) (by kernel_rfl) (by kernel_rfl) (fun _ _ _ h => h) (Or.inr ⟨by rfl, rfl⟩) hHeld ?_
            try simp only [Act.put, List.setIfInBounds_toArray, List.set_cons_zero, List.set_cons_succ]
            refine wpAnyH_take (i := 14) (oi := { dst := some 102, op := Go.Op.move (Go.Operand.tmp 8), type := 3, pos := "law.go:103", after := #[{ on := 12, ground := Go.Ground.guard }], guard := some (12, false) }) (v := undef) rfl (by kernel_rfl) (by kernel_rfl) (by kernel_rfl) (fun _ _ _ h => h) (Or.inr ⟨by rfl, rfl⟩) hHeld ?_
            try simp only [Act.put, List.setIfInBounds_toArray, List.set_cons_zero, List.set_cons_succ]
            refine wpAnyH_take (i := 15) (oi := { dst := some 103, op := Go.Op.indexAddr 33 (Go.Operand.tmp 101) (Go.Operand.tmp 102), type := 0, pos := "law.go:103", after := #[{ on := 13, ground := Go.Ground.data }, { on := 14, ground := Go.Ground.data }, { on := 12, ground := Go.Ground.guard }], guard := some (12, false) }) (v := undef) rfl (by kernel_rfl) (by kernel_rfl) (by kernel_rfl) (fun _ _ _ h => h) (Or.inr ⟨by rfl, rfl⟩) hHeld ?_
            try simp only [Act.put, List.setIfInBounds_toArray, List.set_cons_zero, List.set_cons_succ]
            refine wpAnyH_take (i := 16) (oi := { dst := some 104, op := Go.Op.fieldAddr 39 (Go.Operand.tmp 103) 0, type := 0, pos := "law.go:103", after := #[{ on := 15, ground := Go.Ground.data }, { on := 12, ground := Go.Ground.guard }], guard := some (12, false) }) (v := undef) rfl (by kernel_rfl) (by kernel_rfl) (by kernel_rfl) (fun _ _ _ h => h) (Or.inr ⟨by rfl, rfl⟩) hHeld ?_
            try simp only [Act.put, List.setIfInBounds_toArray, List.set_cons_zero, List.set_cons_succ]
            refine wpAnyH_take (i := 17) (oi := { dst := some 105, op := Go.Op.load 36 (Go.Operand.tmp 104), type := 36, pos := "law.go:103", after := #[{ on := 16, ground := Go.Ground.data }, { on := 12, ground := Go.Ground.guard }], guard := some (12, false) }) (v := undef) rfl (by kernel_rfl) (by kernel_rfl) (by kernel_rfl) (fun _ _ _ h => h) (Or.inr ⟨by rfl, rfl⟩) hHeld ?_
            try simp only [Act.put, List.setIfInBounds_toArray, List.set_cons_zero, List.set_cons_succ]
            refine wpAnyH_take (i := 18) (oi := { dst := some 106, op := Go.Op.buildSlice 95 1 #[(0, Go.Operand.const (Go.Value.int Go.IntKind.i64 43))], type := 95, pos := "law.go:103", after := #[{ on := 12, ground := Go.Ground.guard }], guard := some (12, false) }) (v := undef) rfl (by kernel_rfl) (by kernel_rfl) (by kernel_rfl) (fun _ _ _ h => h) (Or.inr ⟨by rfl, rfl⟩) hHeld ?_
            try simp only [Act.put, List.setIfInBounds_toArray, List.set_cons_zero, List.set_cons_succ]
            refine wpAnyH_take (i := 19) (oi := { dst := some 107, op := Go.Op.call { callee := Go.Callee.value (Go.Operand.func 28), args := #[Go.Operand.tmp 105, Go.Operand.tmp 106], argTypes := #[36, 95] }, type := 4, pos := "law.go:103", after := #[{ on := 17, ground := Go.Ground.data }, { on := 18, ground := Go.Ground.data }, { on := 12, ground := Go.Ground.chain }, { on := 12, ground := Go.Ground.guard }], guard := some (12, false) }) (v := undef) rfl (by kernel_rfl) (by kernel_rfl) (by kernel_rfl) (fun _ _ _ h => h) (Or.inr ⟨by rfl, rfl⟩) hHeld ?_
            try simp only [Act.put, List.setIfInBounds_toArray, List.set_cons_zero, List.set_cons_succ]
            refine wpAnyH_take (i := 20) (oi := { dst := some 108, op := Go.Op.unOp Go.UnOp.not 4 (Go.Operand.tmp 107), type := 4, pos := "law.go:103", after := #[{ on := 19, ground := Go.Ground.data }, { on := 12, ground := Go.Ground.guard }], guard := some (12, false) }) (v := undef) rfl (by kernel_rfl) (by kernel_rfl) (by kernel_rfl) (fun _ _ _ h => h) (Or.inr ⟨by rfl, rfl⟩) hHeld ?_
            try simp only [Act.put, List.setIfInBounds_toArray, List.set_cons_zero, List.set_cons_succ]
            refine wpAnyH_take (i := 21) (oi := { dst := some 109, op := Go.Op.pick (Go.Operand.tmp 100) (Go.Operand.const (Go.Value.bool true)) (Go.Operand.tmp 108), type := 4, pos := "law.go:103", after := #[{ on := 12, ground := Go.Ground.data }, { on := 20, ground := Go.Ground.data }, { on := 1, ground := Go.Ground.guard }], guard := some (1, true) }) (v := ?v21_401) rfl (by kernel_rfl) (by kernel_rfl) (by kernel_rfl) (fun _ _ _ h => h) (Or.inl ⟨by rfl, ?y21_401⟩) hHeld ?r21_401
            case y21_401 => intro w hSw; (try dsimp only at hSw); go_simp; try with_reducible rfl
            try simp only [Act.put, List.setIfInBounds_toArray, List.set_cons_zero, List.set_cons_succ]
            refine wpAnyH_take (i := 22) (oi := { dst := some 110, op := Go.Op.pick (Go.Operand.tmp 89) (Go.Operand.tmp 109) (Go.Operand.const (Go.Value.bool false)), type := 4, pos := "law.go:103", after := #[{ on := 1, ground := Go.Ground.data }, { on := 21, ground := Go.Ground.data }], guard := none }) (v := ?v22_401) rfl (by kernel_rfl) (by kernel_rfl) (by kernel_rfl) (fun _ _ _ h => h) (Or.inl ⟨by rfl, ?y22_401⟩) hHeld ?r22_401
            case y22_401 => intro w hSw; (try dsimp only at hSw); go_simp; try with_reducible rfl
            try simp only [Act.put, List.setIfInBounds_toArray, List.set_cons_zero, List.set_cons_succ]
            refine wpAnyH_take (i := 23) (oi := { dst := some 87, op := Go.Op.assign (Go.Operand.tmp 110), type := 4, pos := "law.go:103", after := #[{ on := 22, ground := Go.Ground.data }, { on := 19, ground := Go.Ground.chain }], guard := none }) (v := ?v23_401) rfl (by kernel_rfl) (by kernel_rfl) (by kernel_rfl) (fun _ _ _ h => h) (Or.inl ⟨by rfl, ?y23_401⟩) hHeld ?r23_401
            case y23_401 => intro w hSw; (try dsimp only at hSw); go_simp; try with_reducible rfl
            try simp only [Act.put, List.setIfInBounds_toArray, List.set_cons_zero, List.set_cons_succ]
            refine wpAnyH_done (by kernel_rfl) ?_ _
            have hbe := hHeld.1.out
            clear hHeld
            clear s1
            have HBE2 := Lib.hid hbe
            clear hbe
            replace Y0 := Lib.hid (cell_later4 HBE2.out Y0.out)
            replace Y1 := Lib.hid (cell_later4 HBE2.out Y1.out)
            replace Y2 := Lib.hid (cell_later4 HBE2.out Y2.out)
            replace Y3 := Lib.hid (cell_later4 HBE2.out Y3.out)
            replace Y4 := Lib.hid (cell_later4 HBE2.out Y4.out)
            replace HC10 := Lib.hid (HC10.out.below HBE2.out)
            replace KZ := Lib.hid (KZ.out.below HBE2.out)
            replace HCR := Lib.hid (HCR.out.below HBE2.out)
            replace HSRZ := Lib.hid (HSRZ.out.below HBE2.out)
            replace HU := Lib.hid (HU.out.below HBE2.out)
            replace HB6 := Lib.hid (HB6.out.trans (HBE2.out.mono HB6.out.size))
            clear HBE2
            go_upto_region 17 with (fail)
            obtain ⟨w6, hw6⟩ : ∃ x, we = x := ⟨_, rfl⟩
            rw [hw6] at Y0 Y1 Y2 Y3 Y4 HC10 KZ HCR HSRZ HU HB6 ⊢
            clear hw6
            obtain ⟨rfl, b9, o9, p9, c9, rfl, z0, z1, z2, z3, z4, hzr, -⟩ := at_full HU.out.at
            replace hzr : RowS w6 p9 cd.length cd := hzr
            replace z4 : w6.cell? ⟨b9, o9 + 4, none⟩ = some (.slice p9 cd.length c9) := z4
            rw [show cd.length = cl from HCR.out.1] at hzr z4
            have HZR := Lib.hid hzr
            have Z0 := Lib.hid (show w6.cell? ⟨b9, o9, none⟩ = some (.string cn) from z0)
            have Z1 := Lib.hid (show w6.cell? ⟨b9, o9 + 1, none⟩ = some (.int .i64 ct) from z1)
            have Z2 := Lib.hid (show w6.cell? ⟨b9, o9 + 2, none⟩ = some (.int .i64 ck) from z2)
            have Z3 := Lib.hid (show w6.cell? ⟨b9, o9 + 3, none⟩ = some (.int .i64 cu) from z3)
            have Z4 := Lib.hid z4
            clear z0 z1 z2 z3 z4 hzr
            have HSAME := Lib.hid (fun wx (hx : Below w6.heap.size w6 wx) => same_selfE cn ct ck cu cd p9 cda cl c9 cdc wx (HZR.out.below hx) (HCR.out.below hx) HCLL.out)
            have hbd := (Below.refl w6.heap.size w6).drew
            obtain ⟨we, hwe⟩ : ∃ x, w6.drew = x := ⟨_, rfl⟩
            have HBE := Lib.hid (show Below w6.heap.size w6 we by rw [← hwe]; exact hbd)
            clear hbd
            refine wp_region_held_drew (S := (fun wx => Hid (Below w6.heap.size w6 wx) ∧ wx.cell? ⟨q9, 0, none⟩ = some (.int .i64 3) ∧ wx.cell? ⟨q9, 3, none⟩ = some (.slice (some ⟨b9, o9, none⟩) 1 c2) ∧ wx.cell? ⟨b9, o9, none⟩ = some (.string cn) ∧ wx.cell? ⟨b9, o9 + 1, none⟩ = some (.int .i64 ct) ∧ wx.cell? ⟨b9, o9 + 2, none⟩ = some (.int .i64 ck) ∧ wx.cell? ⟨b9, o9 + 3, none⟩ = some (.int .i64 cu) ∧ wx.cell? ⟨b9, o9 + 4, none⟩ = some (.slice p9 cl c9) ∧ wx.cell? ⟨q10, 0, none⟩ = some (.string cn) ∧ wx.cell? ⟨q10, 1, none⟩ = some (.int .i64 ct) ∧ wx.cell? ⟨q10, 2, none⟩ = some (.int .i64 ck) ∧ wx.cell? ⟨q10, 3, none⟩ = some (.int .i64 cu) ∧ wx.cell? ⟨q10, 4, none⟩ = some (.slice cda cl cdc))) (by kernel_rfl) (by rw [hwe]; exact ⟨HBE, cell_later4 HBE.out KZ.out.u5.1, cell_later4 HBE.out KZ.out.u5.2.2.2.1, cell_later4 HBE.out Z0.out, cell_later4 HBE.out Z1.out, cell_later4 HBE.out Z2.out, cell_later4 HBE.out Z3.out, cell_later4 HBE.out Z4.out, cell_later4 HBE.out HC10.out.2.1, cell_later4 HBE.out HC10.out.2.2.1, cell_later4 HBE.out HC10.out.2.2.2.1, cell_later4 HBE.out HC10.out.2.2.2.2.1, cell_later4 HBE.out HC10.out.2.2.2.2.2.1⟩) (fun hHeld => ?_)
            rw [hwe] at hHeld ⊢
            clear hwe
            refine wpAnyH_take (i := 0) (oi := { dst := some 111, op := Go.Op.fieldAddr 68 (Go.Operand.tmp 9) 0, type := 0, pos := "law.go:104", after := #[], guard := none }) (v := ?v0_501) rfl (by kernel_rfl) (by kernel_rfl) (by kernel_rfl) (fun _ _ _ h => h) (Or.inl ⟨by rfl, ?y0_501⟩) hHeld ?r0_501
            case y0_501 => intro w hSw; (try dsimp only at hSw); go_simp; try with_reducible rfl
            try simp only [Act.put, List.setIfInBounds_toArray, List.set_cons_zero, List.set_cons_succ]
            refine wpAnyH_take (i := 1) (oi := { dst := some 112, op := Go.Op.load 3 (Go.Operand.tmp 111), type := 3, pos := "law.go:104", after := #[{ on := 0, ground := Go.Ground.data }], guard := none }) (v := ?v1_501) rfl (by kernel_rfl) (by kernel_rfl) (by kernel_rfl) (fun _ _ _ h => h) (Or.inl ⟨by rfl, ?y1_501⟩) hHeld ?r1_501
            case y1_501 => intro w hSw; (try dsimp only at hSw); go_simp; try with_reducible rfl
            try simp only [Act.put, List.setIfInBounds_toArray, List.set_cons_zero, List.set_cons_succ]
            refine wpAnyH_take (i := 2) (oi := { dst := some 113, op := Go.Op.binOp Go.BinOp.neq 3 (Go.Operand.tmp 112) (Go.Operand.const (Go.Value.int Go.IntKind.i64 3)) 3, type := 4, pos := "law.go:104", after := #[{ on := 1, ground := Go.Ground.data }], guard := none }) (v := ?v2_501) rfl (by kernel_rfl) (by kernel_rfl) (by kernel_rfl) (fun _ _ _ h => h) (Or.inl ⟨by rfl, ?y2_501⟩) hHeld ?r2_501
            case y2_501 => intro w hSw; (try dsimp only at hSw); go_simp; try with_reducible rfl
            try simp only [Act.put, List.setIfInBounds_toArray, List.set_cons_zero, List.set_cons_succ]
            refine wpAnyH_take (i := 3) (oi := { dst := some 114, op := Go.Op.move (Go.Operand.tmp 113), type := 4, pos := "law.go:104", after := #[{ on := 2, ground := Go.Ground.data }], guard := none }) (v := ?v3_501) rfl (by kernel_rfl) (by kernel_rfl) (by kernel_rfl) (fun _ _ _ h => h) (Or.inl ⟨by rfl, ?y3_501⟩) hHeld ?r3_501
            case y3_501 => intro w hSw; (try dsimp only at hSw); go_simp; try with_reducible rfl
            try simp only [Act.put, List.setIfInBounds_toArray, List.set_cons_zero, List.set_cons_succ]
            refine wpAnyH_take (i := 4) (oi := { dst := some 115, op := Go.Op.fieldAddr 68 (Go.Operand.tmp 9) 3, type := 0, pos := "law.go:104", after := #[{ on := 3, ground := Go.Ground.guard }], guard := some (3, false) }) (v := ?v4_501) rfl (by kernel_rfl) (by kernel_rfl) (by kernel_rfl) (fun _ _ _ h => h) (Or.inl ⟨by rfl, ?y4_501⟩) hHeld ?r4_501
            case y4_501 => intro w hSw; (try dsimp only at hSw); go_simp; try with_reducible rfl
            try simp only [Act.put, List.setIfInBounds_toArray, List.set_cons_zero, List.set_cons_succ]
            refine wpAnyH_take (i := 5) (oi := { dst := some 116, op := Go.Op.load 33 (Go.Operand.tmp 115), type := 33, pos := "law.go:104", after := #[{ on := 4, ground := Go.Ground.data }, { on := 3, ground := Go.Ground.guard }], guard := some (3, false) }) (v := ?v5_501) rfl (by kernel_rfl) (by kernel_rfl) (by kernel_rfl) (fun _ _ _ h => h) (Or.inl ⟨by rfl, ?y5_501⟩) hHeld ?r5_501
            case y5_501 => intro w hSw; (try dsimp only at hSw); go_simp; try with_reducible rfl
            try simp only [Act.put, List.setIfInBounds_toArray, List.set_cons_zero, List.set_cons_succ]
            refine wpAnyH_take (i := 6) (oi := { dst := some 117, op := Go.Op.call { callee := Go.Callee.builtin Go.Builtin.len, args := #[Go.Operand.tmp 116], argTypes := #[33] }, type := 3, pos := "law.go:104", after := #[{ on := 5, ground := Go.Ground.data }, { on := 3, ground := Go.Ground.guard }], guard := some (3, false) }) (v := ?v6_501) rfl (by kernel_rfl) (by kernel_rfl) (by kernel_rfl) (fun _ _ _ h => h) (Or.inl ⟨by rfl, ?y6_501⟩) hHeld ?r6_501
            case y6_501 => intro w hSw; (try dsimp only at hSw); go_simp; try with_reducible rfl
            try simp only [Act.put, List.setIfInBounds_toArray, List.set_cons_zero, List.set_cons_succ]
            refine wpAnyH_take (i := 7) (oi := { dst := some 118, op := Go.Op.binOp Go.BinOp.neq 3 (Go.Operand.tmp 117) (Go.Operand.const (Go.Value.int Go.IntKind.i64 1)) 3, type := 4, pos := "law.go:104", after := #[{ on := 6, ground := Go.Ground.data }, { on := 3, ground := Go.Ground.guard }], guard := some (3, false) }) (v := ?v7_501) rfl (by kernel_rfl) (by kernel_rfl) (by kernel_rfl) (fun _ _ _ h => h) (Or.inl ⟨by rfl, ?y7_501⟩) hHeld ?r7_501
            case y7_501 => intro w hSw; (try dsimp only at hSw); go_simp; try with_reducible rfl
            try simp only [Act.put, List.setIfInBounds_toArray, List.set_cons_zero, List.set_cons_succ]
            refine wpAnyH_take (i := 8) (oi := { dst := some 119, op := Go.Op.pick (Go.Operand.tmp 114) (Go.Operand.const (Go.Value.bool true)) (Go.Operand.tmp 118), type := 4, pos := "law.go:104", after := #[{ on := 3, ground := Go.Ground.data }, { on := 7, ground := Go.Ground.data }], guard := none }) (v := ?v8_501) rfl (by kernel_rfl) (by kernel_rfl) (by kernel_rfl) (fun _ _ _ h => h) (Or.inl ⟨by rfl, ?y8_501⟩) hHeld ?r8_501
            case y8_501 => intro w hSw; (try dsimp only at hSw); go_simp; try with_reducible rfl
            try simp only [Act.put, List.setIfInBounds_toArray, List.set_cons_zero, List.set_cons_succ]
            refine wpAnyH_take (i := 9) (oi := { dst := some 120, op := Go.Op.move (Go.Operand.tmp 119), type := 4, pos := "law.go:104", after := #[{ on := 8, ground := Go.Ground.data }, { on := 3, ground := Go.Ground.chain }], guard := none }) (v := ?v9_501) rfl (by kernel_rfl) (by kernel_rfl) (by kernel_rfl) (fun _ _ _ h => h) (Or.inl ⟨by rfl, ?y9_501⟩) hHeld ?r9_501
            case y9_501 => intro w hSw; (try dsimp only at hSw); go_simp; try with_reducible rfl
            try simp only [Act.put, List.setIfInBounds_toArray, List.set_cons_zero, List.set_cons_succ]
            refine wpAnyH_take (i := 10) (oi := { dst := some 121, op := Go.Op.fieldAddr 68 (Go.Operand.tmp 9) 3, type := 0, pos := "law.go:104", after := #[{ on := 9, ground := Go.Ground.guard }], guard := some (9, false) }) (v := ?v10_501) rfl (by kernel_rfl) (by kernel_rfl) (by kernel_rfl) (fun _ _ _ h => h) (Or.inl ⟨by rfl, ?y10_501⟩) hHeld ?r10_501
            case y10_501 => intro w hSw; (try dsimp only at hSw); go_simp; try with_reducible rfl
            try simp only [Act.put, List.setIfInBounds_toArray, List.set_cons_zero, List.set_cons_succ]
            refine wpAnyH_take (i := 11) (oi := { dst := some 122, op := Go.Op.load 33 (Go.Operand.tmp 121), type := 33, pos := "law.go:104", after := #[{ on := 10, ground := Go.Ground.data }, { on := 9, ground := Go.Ground.guard }], guard := some (9, false) }) (v := ?v11_501) rfl (by kernel_rfl) (by kernel_rfl) (by kernel_rfl) (fun _ _ _ h => h) (Or.inl ⟨by rfl, ?y11_501⟩) hHeld ?r11_501
            case y11_501 => intro w hSw; (try dsimp only at hSw); go_simp; try with_reducible rfl
            try simp only [Act.put, List.setIfInBounds_toArray, List.set_cons_zero, List.set_cons_succ]
            refine wpAnyH_take (i := 12) (oi := { dst := some 123, op := Go.Op.indexAddr 33 (Go.Operand.tmp 122) (Go.Operand.const (Go.Value.int Go.IntKind.i64 0)), type := 0, pos := "law.go:104", after := #[{ on := 11, ground := Go.Ground.data }, { on := 9, ground := Go.Ground.guard }], guard := some (9, false) }) (v := ?v12_501) rfl (by kernel_rfl) (by kernel_rfl) (by kernel_rfl) (fun _ _ _ h => h) (Or.inl ⟨by rfl, ?y12_501⟩) hHeld ?r12_501
            case y12_501 => intro w hSw; (try dsimp only at hSw); go_simp; try with_reducible rfl
            try simp only [Act.put, List.setIfInBounds_toArray, List.set_cons_zero, List.set_cons_succ]
            refine wpAnyH_take (i := 13) (oi := { dst := some 124, op := Go.Op.load 39 (Go.Operand.tmp 123), type := 39, pos := "law.go:104", after := #[{ on := 12, ground := Go.Ground.data }, { on := 9, ground := Go.Ground.guard }], guard := some (9, false) }) (v := ?v13_501) rfl (by kernel_rfl) (by kernel_rfl) (by kernel_rfl) (fun _ _ _ h => h) (Or.inl ⟨by rfl, ?y13_501⟩) hHeld ?r13_501
            case y13_501 => intro w hSw; (try dsimp only at hSw); go_simp; try with_reducible rfl
            try simp only [Act.put, List.setIfInBounds_toArray, List.set_cons_zero, List.set_cons_succ]
            refine wpAnyH_take (i := 14) (oi := { dst := some 125, op := Go.Op.load 39 (Go.Operand.tmp 10), type := 39, pos := "law.go:104", after := #[{ on := 9, ground := Go.Ground.guard }], guard := some (9, false) }) (v := ?v14_501) rfl (by kernel_rfl) (by kernel_rfl) (by kernel_rfl) (fun _ _ _ h => h) (Or.inl ⟨by rfl, ?y14_501⟩) hHeld ?r14_501
            case y14_501 => intro w hSw; (try dsimp only at hSw); go_simp; try with_reducible rfl
            try simp only [Act.put, List.setIfInBounds_toArray, List.set_cons_zero, List.set_cons_succ]
            refine wpAnyH_ready (rs := [15]) (by kernel_rfl) (by simp) ?_
            refine AllReadyH.cons (o := { dst := some 126, op := Go.Op.call { callee := Go.Callee.value (Go.Operand.func 31), args := #[Go.Operand.tmp 124, Go.Operand.tmp 125], argTypes := #[39, 39] }, type := 4, pos := "law.go:104", after := #[{ on := 13, ground := Go.Ground.data }, { on := 14, ground := Go.Ground.data }, { on := 9, ground := Go.Ground.chain }, { on := 9, ground := Go.Ground.guard }], guard := some (9, false) }) rfl (fun K hK => ?_) AllReadyH.nil
            go_simp
            refine (HSAME.out _ hHeld.1.out).mono ?_; rintro e wg ⟨rfl, hb⟩
            go_wp2_with fail
            refine hK.out _ _ (⟨Lib.hid (hHeld.1.out.trans (hb.mono hHeld.1.out.size)), cell_later4 hb hHeld.2.1, cell_later4 hb hHeld.2.2.1, cell_later4 hb hHeld.2.2.2.1, cell_later4 hb hHeld.2.2.2.2.1, cell_later4 hb hHeld.2.2.2.2.2.1, cell_later4 hb hHeld.2.2.2.2.2.2.1, cell_later4 hb hHeld.2.2.2.2.2.2.2.1, cell_later4 hb hHeld.2.2.2.2.2.2.2.2.1, cell_later4 hb hHeld.2.2.2.2.2.2.2.2.2.1, cell_later4 hb hHeld.2.2.2.2.2.2.2.2.2.2.1, cell_later4 hb hHeld.2.2.2.2.2.2.2.2.2.2.2.1, cell_later4 hb hHeld.2.2.2.2.2.2.2.2.2.2.2.2⟩) (fun hHeld2 => ?_)
            clear hK K hHeld
            have hHeld := hHeld2
            clear hHeld2
            try simp only [Act.put, List.setIfInBounds_toArray, List.set_cons_zero, List.set_cons_succ]
            refine wpAnyH_take (i := 16) (oi := { dst := some 127, op := Go.Op.unOp Go.UnOp.not 4 (Go.Operand.tmp 126), type := 4, pos := "law.go:104", after := #[{ on := 15, ground := Go.Ground.data }, { on := 9, ground := Go.Ground.guard }], guard := some (9, false) }) (v := ?v16_502) rfl (by kernel_rfl) (by kernel_rfl) (by kernel_rfl) (fun _ _ _ h => h) (Or.inl ⟨by rfl, ?y16_502⟩) hHeld ?r16_502
            case y16_502 => intro w hSw; (try dsimp only at hSw); go_simp; try with_reducible rfl
            try simp only [Act.put, List.setIfInBounds_toArray, List.set_cons_zero, List.set_cons_succ]
            refine wpAnyH_take (i := 17) (oi := { dst := some 128, op := Go.Op.pick (Go.Operand.tmp 120) (Go.Operand.const (Go.Value.bool true)) (Go.Operand.tmp 127), type := 4, pos := "law.go:104", after := #[{ on := 9, ground := Go.Ground.data }, { on := 16, ground := Go.Ground.data }], guard := none }) (v := ?v17_502) rfl (by kernel_rfl) (by kernel_rfl) (by kernel_rfl) (fun _ _ _ h => h) (Or.inl ⟨by rfl, ?y17_502⟩) hHeld ?r17_502
            case y17_502 => intro w hSw; (try dsimp only at hSw); go_simp; try with_reducible rfl
            try simp only [Act.put, List.setIfInBounds_toArray, List.set_cons_zero, List.set_cons_succ]
            refine wpAnyH_done (by kernel_rfl) ?_ _
            have hbe := hHeld.1.out
            clear hHeld
            have HBN := Lib.hid (HB6.out.trans (hbe.mono HB6.out.size))
            clear hbe
            go_wp2
            go_roundw
            case rel => exact ⟨k + 1, by have := HLT.out; omega, by have := HLT.out; go_num, HBN⟩
            case measure => have := HLT.out; simp [intOf]; omega
        · replace hans : ansF S apex sn st 1 = _ := hans
          have hkx := HKX.out
          rw [hans] at hkx
          obtain rfl : 1 = kx := hkx
          have HU := Lib.hid (show SetsUp w6 _ a1 n1 [⟨⟨sn, st, 1⟩, su, sd⟩] by have h := HU1Z.out; rw [hans] at h; exact h)
          clear hans HKX HU1Z HU2Z HEP
          rcases hcut with hcut | ⟨x, hcut, hns, hst⟩
          · replace hcut : cutP S apex sn = none := hcut
            rw [hcut]
            simp only [Option.isSome_none]
            clear hcut HXC
            have hbd := (Below.refl w6.heap.size w6).drew
            obtain ⟨we, hwe⟩ : ∃ x, w6.drew = x := ⟨_, rfl⟩
            have HBE := Lib.hid (show Below w6.heap.size w6 we by rw [← hwe]; exact hbd)
            clear hbd
            refine wp_region_held_drew (S := (fun wx => Hid (Below w6.heap.size w6 wx) ∧ wx.cell? ⟨b, o + k * 5, none⟩ = some (.string sn) ∧ wx.cell? ⟨b, o + k * 5 + 1, none⟩ = some (.int .i64 st) ∧ wx.cell? ⟨b, o + k * 5 + 2, none⟩ = some (.int .i64 1) ∧ wx.cell? ⟨q10, 0, none⟩ = some (.string cn))) (by kernel_rfl) (by rw [hwe]; exact ⟨HBE, cell_later4 HBE.out Y0.out, cell_later4 HBE.out Y1.out, cell_later4 HBE.out Y2.out, cell_later4 HBE.out HC10.out.2.1⟩) (fun hHeld => ?_)
            rw [hwe] at hHeld ⊢
            clear hwe
            refine wpAnyH_take (i := 0) (oi := { dst := some 88, op := Go.Op.move (Go.Operand.tmp 11), type := 4, pos := "law.go:103", after := #[], guard := none }) (v := ?v0_601) rfl (by kernel_rfl) (by kernel_rfl) (by kernel_rfl) (fun _ _ _ h => h) (Or.inl ⟨by rfl, ?y0_601⟩) hHeld ?r0_601
            case y0_601 => intro w hSw; (try dsimp only at hSw); go_simp; try with_reducible rfl
            try simp only [Act.put, List.setIfInBounds_toArray, List.set_cons_zero, List.set_cons_succ]
            refine wpAnyH_take (i := 1) (oi := { dst := some 89, op := Go.Op.move (Go.Operand.tmp 88), type := 4, pos := "law.go:103", after := #[{ on := 0, ground := Go.Ground.data }], guard := none }) (v := ?v1_601) rfl (by kernel_rfl) (by kernel_rfl) (by kernel_rfl) (fun _ _ _ h => h) (Or.inl ⟨by rfl, ?y1_601⟩) hHeld ?r1_601
            case y1_601 => intro w hSw; (try dsimp only at hSw); go_simp; try with_reducible rfl
            try simp only [Act.put, List.setIfInBounds_toArray, List.set_cons_zero, List.set_cons_succ]
            refine wpAnyH_take (i := 2) (oi := { dst := some 90, op := Go.Op.fieldAddr 39 (Go.Operand.tmp 10) 0, type := 0, pos := "law.go:103", after := #[{ on := 1, ground := Go.Ground.guard }], guard := some (1, true) }) (v := undef) rfl (by kernel_rfl) (by kernel_rfl) (by kernel_rfl) (fun _ _ _ h => h) (Or.inr ⟨by rfl, rfl⟩) hHeld ?_
            try simp only [Act.put, List.setIfInBounds_toArray, List.set_cons_zero, List.set_cons_succ]
            refine wpAnyH_take (i := 3) (oi := { dst := some 91, op := Go.Op.fieldAddr 36 (Go.Operand.tmp 90) 0, type := 0, pos := "law.go:103", after := #[{ on := 2, ground := Go.Ground.data }, { on := 1, ground := Go.Ground.guard }], guard := some (1, true) }) (v := undef) rfl (by kernel_rfl) (by kernel_rfl) (by kernel_rfl) (fun _ _ _ h => h) (Or.inr ⟨by rfl, rfl⟩) hHeld ?_
            try simp only [Act.put, List.setIfInBounds_toArray, List.set_cons_zero, List.set_cons_succ]
            refine wpAnyH_take (i := 4) (oi := { dst := some 92, op := Go.Op.load 9 (Go.Operand.tmp 91), type := 9, pos := "law.go:103", after := #[{ on := 3, ground := Go.Ground.data }, { on := 1, ground := Go.Ground.guard }], guard := some (1, true) }) (v := undef) rfl (by kernel_rfl) (by kernel_rfl) (by kernel_rfl) (fun _ _ _ h => h) (Or.inr ⟨by rfl, rfl⟩) hHeld ?_
            try simp only [Act.put, List.setIfInBounds_toArray, List.set_cons_zero, List.set_cons_succ]
            refine wpAnyH_take (i := 5) (oi := { dst := some 93, op := Go.Op.move (Go.Operand.tmp 7), type := 33, pos := "law.go:103", after := #[{ on := 1, ground := Go.Ground.guard }], guard := some (1, true) }) (v := undef) rfl (by kernel_rfl) (by kernel_rfl) (by kernel_rfl) (fun _ _ _ h => h) (Or.inr ⟨by rfl, rfl⟩) hHeld ?_
            try simp only [Act.put, List.setIfInBounds_toArray, List.set_cons_zero, List.set_cons_succ]
            refine wpAnyH_take (i := 6) (oi := { dst := some 94, op := Go.Op.move (Go.Operand.tmp 8), type := 3, pos := "law.go:103", after := #[{ on := 1, ground := Go.Ground.guard }], guard := some (1, true) }) (v := undef) rfl (by kernel_rfl) (by kernel_rfl) (by kernel_rfl) (fun _ _ _ h => h) (Or.inr ⟨by rfl, rfl⟩) hHeld ?_
            try simp only [Act.put, List.setIfInBounds_toArray, List.set_cons_zero, List.set_cons_succ]
            refine wpAnyH_take (i := 7) (oi := { dst := some 95, op := Go.Op.indexAddr 33 (Go.Operand.tmp 93) (Go.Operand.tmp 94), type := 0, pos := "law.go:103", after := #[{ on := 5, ground := Go.Ground.data }, { on := 6, ground := Go.Ground.data }, { on := 1, ground := Go.Ground.guard }], guard := some (1, true) }) (v := undef) rfl (by kernel_rfl) (by kernel_rfl) (by kernel_rfl) (fun _ _ _ h => h) (Or.inr ⟨by rfl, rfl⟩) hHeld ?_
            try simp only [Act.put, List.setIfInBounds_toArray, List.set_cons_zero, List.set_cons_succ]
            refine wpAnyH_take (i := 8) (oi := { dst := some 96, op := Go.Op.fieldAddr 39 (Go.Operand.tmp 95) 0, type := 0, pos := "law.go:103", after := #[{ on := 7, ground := Go.Ground.data }, { on := 1, ground := Go.Ground.guard }], guard := some (1, true) }) (v := undef) rfl (by kernel_rfl) (by kernel_rfl) (by kernel_rfl) (fun _ _ _ h => h) (Or.inr ⟨by rfl, rfl⟩) hHeld ?_
            try simp only [Act.put, List.setIfInBounds_toArray, List.set_cons_zero, List.set_cons_succ]
            refine wpAnyH_take (i := 9) (oi := { dst := some 97, op := Go.Op.fieldAddr 36 (Go.Operand.tmp 96) 0, type := 0, pos := "law.go:103", after := #[{ on := 8, ground := Go.Ground.data }, { on := 1, ground := Go.Ground.guard }], guard := some (1, true) }) (v := undef) rfl (by kernel_rfl) (by kernel_rfl) (by kernel_rfl) (fun _ _ _ h => h) (Or.inr ⟨by rfl, rfl⟩) hHeld ?_
            try simp only [Act.put, List.setIfInBounds_toArray, List.set_cons_zero, List.set_cons_succ]
            refine wpAnyH_take (i := 10) (oi := { dst := some 98, op := Go.Op.load 9 (Go.Operand.tmp 97), type := 9, pos := "law.go:103", after := #[{ on := 9, ground := Go.Ground.data }, { on := 1, ground := Go.Ground.guard }], guard := some (1, true) }) (v := undef) rfl (by kernel_rfl) (by kernel_rfl) (by kernel_rfl) (fun _ _ _ h => h) (Or.inr ⟨by rfl, rfl⟩) hHeld ?_
            try simp only [Act.put, List.setIfInBounds_toArray, List.set_cons_zero, List.set_cons_succ]
            refine wpAnyH_take (i := 11) (oi := { dst := some 99, op := Go.Op.binOp Go.BinOp.neq 9 (Go.Operand.tmp 92) (Go.Operand.tmp 98) 9, type := 4, pos := "law.go:103", after := #[{ on := 4, ground := Go.Ground.data }, { on := 10, ground := Go.Ground.data }, { on := 1, ground := Go.Ground.guard }], guard := some (1, true) }) (v := undef) rfl (by kernel_rfl) (by kernel_rfl) (by kernel_rfl) (fun _ _ _ h => h) (Or.inr ⟨by rfl, rfl⟩) hHeld ?_
            try simp only [Act.put, List.setIfInBounds_toArray, List.set_cons_zero, List.set_cons_succ]
            refine wpAnyH_take (i := 12) (oi := { dst := some 100, op := Go.Op.move (Go.Operand.tmp 99), type := 4, pos := "law.go:103", after := #[{ on := 11, ground := Go.Ground.data }, { on := 1, ground := Go.Ground.chain }, { on := 1, ground := Go.Ground.guard }], guard := some (1, true) }) (v := undef) rfl (by kernel_rfl) (by kernel_rfl) (by kernel_rfl) (fun _ _ _ h => h) (Or.inr ⟨by rfl, rfl⟩) hHeld ?_
            try simp only [Act.put, List.setIfInBounds_toArray, List.set_cons_zero, List.set_cons_succ]
            refine wpAnyH_take (i := 13) (oi := { dst := some 101, op := Go.Op.move (Go.Operand.tmp 7), type := 33, pos := "law.go:103", after := #[{ on := 12, ground := Go.Ground.guard }], guard := some (12, false) }) (v := undef) rfl (by kernel_rfl) (by kernel_rfl) (by kernel_rfl) (fun _ _ _ h => h) (Or.inr ⟨by rfl, rfl⟩) hHeld ?_
            try simp only [Act.put, List.setIfInBounds_toArray, List.set_cons_zero, List.set_cons_succ]
            refine wpAnyH_take (i := 14) (oi := { dst := some 102, op := Go.Op.move (Go.Operand.tmp 8), type := 3, pos := "law.go:103", after := #[{ on := 12, ground := Go.Ground.guard }], guard := some (12, false) }) (v := undef) rfl (by kernel_rfl) (by kernel_rfl) (by kernel_rfl) (fun _ _ _ h => h) (Or.inr ⟨by rfl, rfl⟩) hHeld ?_
            try simp only [Act.put, List.setIfInBounds_toArray, List.set_cons_zero, List.set_cons_succ]
            refine wpAnyH_take (i := 15) (oi := { dst := some 103, op := Go.Op.indexAddr 33 (Go.Operand.tmp 101) (Go.Operand.tmp 102), type := 0, pos := "law.go:103", after := #[{ on := 13, ground := Go.Ground.data }, { on := 14, ground := Go.Ground.data }, { on := 12, ground := Go.Ground.guard }], guard := some (12, false) }) (v := undef) rfl (by kernel_rfl) (by kernel_rfl) (by kernel_rfl) (fun _ _ _ h => h) (Or.inr ⟨by rfl, rfl⟩) hHeld ?_
            try simp only [Act.put, List.setIfInBounds_toArray, List.set_cons_zero, List.set_cons_succ]
            refine wpAnyH_take (i := 16) (oi := { dst := some 104, op := Go.Op.fieldAddr 39 (Go.Operand.tmp 103) 0, type := 0, pos := "law.go:103", after := #[{ on := 15, ground := Go.Ground.data }, { on := 12, ground := Go.Ground.guard }], guard := some (12, false) }) (v := undef) rfl (by kernel_rfl) (by kernel_rfl) (by kernel_rfl) (fun _ _ _ h => h) (Or.inr ⟨by rfl, rfl⟩) hHeld ?_
            try simp only [Act.put, List.setIfInBounds_toArray, List.set_cons_zero, List.set_cons_succ]
            refine wpAnyH_take (i := 17) (oi := { dst := some 105, op := Go.Op.load 36 (Go.Operand.tmp 104), type := 36, pos := "law.go:103", after := #[{ on := 16, ground := Go.Ground.data }, { on := 12, ground := Go.Ground.guard }], guard := some (12, false) }) (v := undef) rfl (by kernel_rfl) (by kernel_rfl) (by kernel_rfl) (fun _ _ _ h => h) (Or.inr ⟨by rfl, rfl⟩) hHeld ?_
            try simp only [Act.put, List.setIfInBounds_toArray, List.set_cons_zero, List.set_cons_succ]
            refine wpAnyH_take (i := 18) (oi := { dst := some 106, op := Go.Op.buildSlice 95 1 #[(0, Go.Operand.const (Go.Value.int Go.IntKind.i64 43))], type := 95, pos := "law.go:103", after := #[{ on := 12, ground := Go.Ground.guard }], guard := some (12, false) }) (v := undef) rfl (by kernel_rfl) (by kernel_rfl) (by kernel_rfl) (fun _ _ _ h => h) (Or.inr ⟨by rfl, rfl⟩) hHeld ?_
            try simp only [Act.put, List.setIfInBounds_toArray, List.set_cons_zero, List.set_cons_succ]
            refine wpAnyH_take (i := 19) (oi := { dst := some 107, op := Go.Op.call { callee := Go.Callee.value (Go.Operand.func 28), args := #[Go.Operand.tmp 105, Go.Operand.tmp 106], argTypes := #[36, 95] }, type := 4, pos := "law.go:103", after := #[{ on := 17, ground := Go.Ground.data }, { on := 18, ground := Go.Ground.data }, { on := 12, ground := Go.Ground.chain }, { on := 12, ground := Go.Ground.guard }], guard := some (12, false) }) (v := undef) rfl (by kernel_rfl) (by kernel_rfl) (by kernel_rfl) (fun _ _ _ h => h) (Or.inr ⟨by rfl, rfl⟩) hHeld ?_
            try simp only [Act.put, List.setIfInBounds_toArray, List.set_cons_zero, List.set_cons_succ]
            refine wpAnyH_take (i := 20) (oi := { dst := some 108, op := Go.Op.unOp Go.UnOp.not 4 (Go.Operand.tmp 107), type := 4, pos := "law.go:103", after := #[{ on := 19, ground := Go.Ground.data }, { on := 12, ground := Go.Ground.guard }], guard := some (12, false) }) (v := undef) rfl (by kernel_rfl) (by kernel_rfl) (by kernel_rfl) (fun _ _ _ h => h) (Or.inr ⟨by rfl, rfl⟩) hHeld ?_
            try simp only [Act.put, List.setIfInBounds_toArray, List.set_cons_zero, List.set_cons_succ]
            refine wpAnyH_take (i := 21) (oi := { dst := some 109, op := Go.Op.pick (Go.Operand.tmp 100) (Go.Operand.const (Go.Value.bool true)) (Go.Operand.tmp 108), type := 4, pos := "law.go:103", after := #[{ on := 12, ground := Go.Ground.data }, { on := 20, ground := Go.Ground.data }, { on := 1, ground := Go.Ground.guard }], guard := some (1, true) }) (v := undef) rfl (by kernel_rfl) (by kernel_rfl) (by kernel_rfl) (fun _ _ _ h => h) (Or.inr ⟨by rfl, rfl⟩) hHeld ?_
            try simp only [Act.put, List.setIfInBounds_toArray, List.set_cons_zero, List.set_cons_succ]
            refine wpAnyH_take (i := 22) (oi := { dst := some 110, op := Go.Op.pick (Go.Operand.tmp 89) (Go.Operand.tmp 109) (Go.Operand.const (Go.Value.bool false)), type := 4, pos := "law.go:103", after := #[{ on := 1, ground := Go.Ground.data }, { on := 21, ground := Go.Ground.data }], guard := none }) (v := ?v22_601) rfl (by kernel_rfl) (by kernel_rfl) (by kernel_rfl) (fun _ _ _ h => h) (Or.inl ⟨by rfl, ?y22_601⟩) hHeld ?r22_601
            case y22_601 => intro w hSw; (try dsimp only at hSw); go_simp; try with_reducible rfl
            try simp only [Act.put, List.setIfInBounds_toArray, List.set_cons_zero, List.set_cons_succ]
            refine wpAnyH_take (i := 23) (oi := { dst := some 87, op := Go.Op.assign (Go.Operand.tmp 110), type := 4, pos := "law.go:103", after := #[{ on := 22, ground := Go.Ground.data }, { on := 19, ground := Go.Ground.chain }], guard := none }) (v := ?v23_601) rfl (by kernel_rfl) (by kernel_rfl) (by kernel_rfl) (fun _ _ _ h => h) (Or.inl ⟨by rfl, ?y23_601⟩) hHeld ?r23_601
            case y23_601 => intro w hSw; (try dsimp only at hSw); go_simp; try with_reducible rfl
            try simp only [Act.put, List.setIfInBounds_toArray, List.set_cons_zero, List.set_cons_succ]
            refine wpAnyH_done (by kernel_rfl) ?_ _
            have hbe := hHeld.1.out
            clear hHeld
            have HBE2 := Lib.hid hbe
            clear hbe
            replace Y0 := Lib.hid (cell_later4 HBE2.out Y0.out)
            replace Y1 := Lib.hid (cell_later4 HBE2.out Y1.out)
            replace Y2 := Lib.hid (cell_later4 HBE2.out Y2.out)
            replace Y3 := Lib.hid (cell_later4 HBE2.out Y3.out)
            replace Y4 := Lib.hid (cell_later4 HBE2.out Y4.out)
            replace HC10 := Lib.hid (HC10.out.below HBE2.out)
            replace KZ := Lib.hid (KZ.out.below HBE2.out)
            replace HCR := Lib.hid (HCR.out.below HBE2.out)
            replace HSRZ := Lib.hid (HSRZ.out.below HBE2.out)
            replace HU := Lib.hid (HU.out.below HBE2.out)
            replace HB6 := Lib.hid (HB6.out.trans (HBE2.out.mono HB6.out.size))
            clear HBE2
            go_upto_region 14 with (fail)
            obtain ⟨w6, hw6⟩ : ∃ x, we = x := ⟨_, rfl⟩
            rw [hw6] at Y0 Y1 Y2 Y3 Y4 HC10 KZ HCR HSRZ HU HB6 ⊢
            clear hw6
            obtain ⟨rfl, b9, o9, p9, c9, rfl, z0, z1, z2, z3, z4, hzr, -⟩ := at_full HU.out.at
            replace hzr : RowS w6 p9 sd.length sd := hzr
            replace z4 : w6.cell? ⟨b9, o9 + 4, none⟩ = some (.slice p9 sd.length c9) := z4
            rw [show sd.length = dl from HSRZ.out.1] at hzr z4
            have HZR := Lib.hid hzr
            have Z0 := Lib.hid (show w6.cell? ⟨b9, o9, none⟩ = some (.string sn) from z0)
            have Z1 := Lib.hid (show w6.cell? ⟨b9, o9 + 1, none⟩ = some (.int .i64 st) from z1)
            have Z2 := Lib.hid (show w6.cell? ⟨b9, o9 + 2, none⟩ = some (.int .i64 1) from z2)
            have Z3 := Lib.hid (show w6.cell? ⟨b9, o9 + 3, none⟩ = some (.int .i64 su) from z3)
            have Z4 := Lib.hid z4
            clear z0 z1 z2 z3 z4 hzr
            have HSAME := Lib.hid (fun wx (hx : Below w6.heap.size w6 wx) => same_selfE sn st 1 su sd p9 pa dl c9 ca wx (HZR.out.below hx) (HSRZ.out.below hx) HDL.out)
            have hbd := (Below.refl w6.heap.size w6).drew
            obtain ⟨we, hwe⟩ : ∃ x, w6.drew = x := ⟨_, rfl⟩
            have HBE := Lib.hid (show Below w6.heap.size w6 we by rw [← hwe]; exact hbd)
            clear hbd
            refine wp_region_held_drew (S := (fun wx => Hid (Below w6.heap.size w6 wx) ∧ wx.cell? ⟨q9, 0, none⟩ = some (.int .i64 1) ∧ wx.cell? ⟨q9, 2, none⟩ = some (.slice (some ⟨b9, o9, none⟩) 1 c1) ∧ wx.cell? ⟨b9, o9, none⟩ = some (.string sn) ∧ wx.cell? ⟨b9, o9 + 1, none⟩ = some (.int .i64 st) ∧ wx.cell? ⟨b9, o9 + 2, none⟩ = some (.int .i64 1) ∧ wx.cell? ⟨b9, o9 + 3, none⟩ = some (.int .i64 su) ∧ wx.cell? ⟨b9, o9 + 4, none⟩ = some (.slice p9 dl c9) ∧ wx.cell? ⟨b, o + k * 5, none⟩ = some (.string sn) ∧ wx.cell? ⟨b, o + k * 5 + 1, none⟩ = some (.int .i64 st) ∧ wx.cell? ⟨b, o + k * 5 + 2, none⟩ = some (.int .i64 1) ∧ wx.cell? ⟨b, o + k * 5 + 3, none⟩ = some (.int .i64 su) ∧ wx.cell? ⟨b, o + k * 5 + 4, none⟩ = some (.slice pa dl ca))) (by kernel_rfl) (by rw [hwe]; exact ⟨HBE, cell_later4 HBE.out KZ.out.u5.1, cell_later4 HBE.out KZ.out.u5.2.2.1, cell_later4 HBE.out Z0.out, cell_later4 HBE.out Z1.out, cell_later4 HBE.out Z2.out, cell_later4 HBE.out Z3.out, cell_later4 HBE.out Z4.out, cell_later4 HBE.out Y0.out, cell_later4 HBE.out Y1.out, cell_later4 HBE.out Y2.out, cell_later4 HBE.out Y3.out, cell_later4 HBE.out Y4.out⟩) (fun hHeld => ?_)
            rw [hwe] at hHeld ⊢
            clear hwe
            refine wpAnyH_take (i := 0) (oi := { dst := some 66, op := Go.Op.fieldAddr 68 (Go.Operand.tmp 9) 0, type := 0, pos := "law.go:108", after := #[], guard := none }) (v := ?v0_701) rfl (by kernel_rfl) (by kernel_rfl) (by kernel_rfl) (fun _ _ _ h => h) (Or.inl ⟨by rfl, ?y0_701⟩) hHeld ?r0_701
            case y0_701 => intro w hSw; (try dsimp only at hSw); go_simp; try with_reducible rfl
            try simp only [Act.put, List.setIfInBounds_toArray, List.set_cons_zero, List.set_cons_succ]
            refine wpAnyH_take (i := 1) (oi := { dst := some 67, op := Go.Op.load 3 (Go.Operand.tmp 66), type := 3, pos := "law.go:108", after := #[{ on := 0, ground := Go.Ground.data }], guard := none }) (v := ?v1_701) rfl (by kernel_rfl) (by kernel_rfl) (by kernel_rfl) (fun _ _ _ h => h) (Or.inl ⟨by rfl, ?y1_701⟩) hHeld ?r1_701
            case y1_701 => intro w hSw; (try dsimp only at hSw); go_simp; try with_reducible rfl
            try simp only [Act.put, List.setIfInBounds_toArray, List.set_cons_zero, List.set_cons_succ]
            refine wpAnyH_take (i := 2) (oi := { dst := some 68, op := Go.Op.binOp Go.BinOp.neq 3 (Go.Operand.tmp 67) (Go.Operand.const (Go.Value.int Go.IntKind.i64 1)) 3, type := 4, pos := "law.go:108", after := #[{ on := 1, ground := Go.Ground.data }], guard := none }) (v := ?v2_701) rfl (by kernel_rfl) (by kernel_rfl) (by kernel_rfl) (fun _ _ _ h => h) (Or.inl ⟨by rfl, ?y2_701⟩) hHeld ?r2_701
            case y2_701 => intro w hSw; (try dsimp only at hSw); go_simp; try with_reducible rfl
            try simp only [Act.put, List.setIfInBounds_toArray, List.set_cons_zero, List.set_cons_succ]
            refine wpAnyH_take (i := 3) (oi := { dst := some 69, op := Go.Op.move (Go.Operand.tmp 68), type := 4, pos := "law.go:108", after := #[{ on := 2, ground := Go.Ground.data }], guard := none }) (v := ?v3_701) rfl (by kernel_rfl) (by kernel_rfl) (by kernel_rfl) (fun _ _ _ h => h) (Or.inl ⟨by rfl, ?y3_701⟩) hHeld ?r3_701
            case y3_701 => intro w hSw; (try dsimp only at hSw); go_simp; try with_reducible rfl
            try simp only [Act.put, List.setIfInBounds_toArray, List.set_cons_zero, List.set_cons_succ]
            refine wpAnyH_take (i := 4) (oi := { dst := some 70, op := Go.Op.fieldAddr 68 (Go.Operand.tmp 9) 2, type := 0, pos := "law.go:108", after := #[{ on := 3, ground := Go.Ground.guard }], guard := some (3, false) }) (v := ?v4_701) rfl (by kernel_rfl) (by kernel_rfl) (by kernel_rfl) (fun _ _ _ h => h) (Or.inl ⟨by rfl, ?y4_701⟩) hHeld ?r4_701
            case y4_701 => intro w hSw; (try dsimp only at hSw); go_simp; try with_reducible rfl
            try simp only [Act.put, List.setIfInBounds_toArray, List.set_cons_zero, List.set_cons_succ]
            refine wpAnyH_take (i := 5) (oi := { dst := some 71, op := Go.Op.load 33 (Go.Operand.tmp 70), type := 33, pos := "law.go:108", after := #[{ on := 4, ground := Go.Ground.data }, { on := 3, ground := Go.Ground.guard }], guard := some (3, false) }) (v := ?v5_701) rfl (by kernel_rfl) (by kernel_rfl) (by kernel_rfl) (fun _ _ _ h => h) (Or.inl ⟨by rfl, ?y5_701⟩) hHeld ?r5_701
            case y5_701 => intro w hSw; (try dsimp only at hSw); go_simp; try with_reducible rfl
            try simp only [Act.put, List.setIfInBounds_toArray, List.set_cons_zero, List.set_cons_succ]
            refine wpAnyH_take (i := 6) (oi := { dst := some 72, op := Go.Op.call { callee := Go.Callee.builtin Go.Builtin.len, args := #[Go.Operand.tmp 71], argTypes := #[33] }, type := 3, pos := "law.go:108", after := #[{ on := 5, ground := Go.Ground.data }, { on := 3, ground := Go.Ground.guard }], guard := some (3, false) }) (v := ?v6_701) rfl (by kernel_rfl) (by kernel_rfl) (by kernel_rfl) (fun _ _ _ h => h) (Or.inl ⟨by rfl, ?y6_701⟩) hHeld ?r6_701
            case y6_701 => intro w hSw; (try dsimp only at hSw); go_simp; try with_reducible rfl
            try simp only [Act.put, List.setIfInBounds_toArray, List.set_cons_zero, List.set_cons_succ]
            refine wpAnyH_take (i := 7) (oi := { dst := some 73, op := Go.Op.binOp Go.BinOp.neq 3 (Go.Operand.tmp 72) (Go.Operand.const (Go.Value.int Go.IntKind.i64 1)) 3, type := 4, pos := "law.go:108", after := #[{ on := 6, ground := Go.Ground.data }, { on := 3, ground := Go.Ground.guard }], guard := some (3, false) }) (v := ?v7_701) rfl (by kernel_rfl) (by kernel_rfl) (by kernel_rfl) (fun _ _ _ h => h) (Or.inl ⟨by rfl, ?y7_701⟩) hHeld ?r7_701
            case y7_701 => intro w hSw; (try dsimp only at hSw); go_simp; try with_reducible rfl
            try simp only [Act.put, List.setIfInBounds_toArray, List.set_cons_zero, List.set_cons_succ]
            refine wpAnyH_take (i := 8) (oi := { dst := some 74, op := Go.Op.pick (Go.Operand.tmp 69) (Go.Operand.const (Go.Value.bool true)) (Go.Operand.tmp 73), type := 4, pos := "law.go:108", after := #[{ on := 3, ground := Go.Ground.data }, { on := 7, ground := Go.Ground.data }], guard := none }) (v := ?v8_701) rfl (by kernel_rfl) (by kernel_rfl) (by kernel_rfl) (fun _ _ _ h => h) (Or.inl ⟨by rfl, ?y8_701⟩) hHeld ?r8_701
            case y8_701 => intro w hSw; (try dsimp only at hSw); go_simp; try with_reducible rfl
            try simp only [Act.put, List.setIfInBounds_toArray, List.set_cons_zero, List.set_cons_succ]
            refine wpAnyH_take (i := 9) (oi := { dst := some 75, op := Go.Op.move (Go.Operand.tmp 74), type := 4, pos := "law.go:108", after := #[{ on := 8, ground := Go.Ground.data }, { on := 3, ground := Go.Ground.chain }], guard := none }) (v := ?v9_701) rfl (by kernel_rfl) (by kernel_rfl) (by kernel_rfl) (fun _ _ _ h => h) (Or.inl ⟨by rfl, ?y9_701⟩) hHeld ?r9_701
            case y9_701 => intro w hSw; (try dsimp only at hSw); go_simp; try with_reducible rfl
            try simp only [Act.put, List.setIfInBounds_toArray, List.set_cons_zero, List.set_cons_succ]
            refine wpAnyH_take (i := 10) (oi := { dst := some 76, op := Go.Op.fieldAddr 68 (Go.Operand.tmp 9) 2, type := 0, pos := "law.go:108", after := #[{ on := 9, ground := Go.Ground.guard }], guard := some (9, false) }) (v := ?v10_701) rfl (by kernel_rfl) (by kernel_rfl) (by kernel_rfl) (fun _ _ _ h => h) (Or.inl ⟨by rfl, ?y10_701⟩) hHeld ?r10_701
            case y10_701 => intro w hSw; (try dsimp only at hSw); go_simp; try with_reducible rfl
            try simp only [Act.put, List.setIfInBounds_toArray, List.set_cons_zero, List.set_cons_succ]
            refine wpAnyH_take (i := 11) (oi := { dst := some 77, op := Go.Op.load 33 (Go.Operand.tmp 76), type := 33, pos := "law.go:108", after := #[{ on := 10, ground := Go.Ground.data }, { on := 9, ground := Go.Ground.guard }], guard := some (9, false) }) (v := ?v11_701) rfl (by kernel_rfl) (by kernel_rfl) (by kernel_rfl) (fun _ _ _ h => h) (Or.inl ⟨by rfl, ?y11_701⟩) hHeld ?r11_701
            case y11_701 => intro w hSw; (try dsimp only at hSw); go_simp; try with_reducible rfl
            try simp only [Act.put, List.setIfInBounds_toArray, List.set_cons_zero, List.set_cons_succ]
            refine wpAnyH_take (i := 12) (oi := { dst := some 78, op := Go.Op.indexAddr 33 (Go.Operand.tmp 77) (Go.Operand.const (Go.Value.int Go.IntKind.i64 0)), type := 0, pos := "law.go:108", after := #[{ on := 11, ground := Go.Ground.data }, { on := 9, ground := Go.Ground.guard }], guard := some (9, false) }) (v := ?v12_701) rfl (by kernel_rfl) (by kernel_rfl) (by kernel_rfl) (fun _ _ _ h => h) (Or.inl ⟨by rfl, ?y12_701⟩) hHeld ?r12_701
            case y12_701 => intro w hSw; (try dsimp only at hSw); go_simp; try with_reducible rfl
            try simp only [Act.put, List.setIfInBounds_toArray, List.set_cons_zero, List.set_cons_succ]
            refine wpAnyH_take (i := 13) (oi := { dst := some 79, op := Go.Op.load 39 (Go.Operand.tmp 78), type := 39, pos := "law.go:108", after := #[{ on := 12, ground := Go.Ground.data }, { on := 9, ground := Go.Ground.guard }], guard := some (9, false) }) (v := ?v13_701) rfl (by kernel_rfl) (by kernel_rfl) (by kernel_rfl) (fun _ _ _ h => h) (Or.inl ⟨by rfl, ?y13_701⟩) hHeld ?r13_701
            case y13_701 => intro w hSw; (try dsimp only at hSw); go_simp; try with_reducible rfl
            try simp only [Act.put, List.setIfInBounds_toArray, List.set_cons_zero, List.set_cons_succ]
            refine wpAnyH_take (i := 14) (oi := { dst := some 80, op := Go.Op.move (Go.Operand.tmp 7), type := 33, pos := "law.go:108", after := #[{ on := 9, ground := Go.Ground.guard }], guard := some (9, false) }) (v := ?v14_701) rfl (by kernel_rfl) (by kernel_rfl) (by kernel_rfl) (fun _ _ _ h => h) (Or.inl ⟨by rfl, ?y14_701⟩) hHeld ?r14_701
            case y14_701 => intro w hSw; (try dsimp only at hSw); go_simp; try with_reducible rfl
            try simp only [Act.put, List.setIfInBounds_toArray, List.set_cons_zero, List.set_cons_succ]
            refine wpAnyH_take (i := 15) (oi := { dst := some 81, op := Go.Op.move (Go.Operand.tmp 8), type := 3, pos := "law.go:108", after := #[{ on := 9, ground := Go.Ground.guard }], guard := some (9, false) }) (v := ?v15_701) rfl (by kernel_rfl) (by kernel_rfl) (by kernel_rfl) (fun _ _ _ h => h) (Or.inl ⟨by rfl, ?y15_701⟩) hHeld ?r15_701
            case y15_701 => intro w hSw; (try dsimp only at hSw); go_simp; try with_reducible rfl
            try simp only [Act.put, List.setIfInBounds_toArray, List.set_cons_zero, List.set_cons_succ]
            refine wpAnyH_take (i := 16) (oi := { dst := some 82, op := Go.Op.indexAddr 33 (Go.Operand.tmp 80) (Go.Operand.tmp 81), type := 0, pos := "law.go:108", after := #[{ on := 14, ground := Go.Ground.data }, { on := 15, ground := Go.Ground.data }, { on := 9, ground := Go.Ground.guard }], guard := some (9, false) }) (v := ?v16_701) rfl (by kernel_rfl) (by kernel_rfl) (by kernel_rfl) (fun _ _ _ h => h) (Or.inl ⟨by rfl, ?y16_701⟩) hHeld ?r16_701
            case y16_701 => intro w hSw; (try dsimp only at hSw); go_simp; try with_reducible rfl
            try simp only [Act.put, List.setIfInBounds_toArray, List.set_cons_zero, List.set_cons_succ]
            refine wpAnyH_take (i := 17) (oi := { dst := some 83, op := Go.Op.load 39 (Go.Operand.tmp 82), type := 39, pos := "law.go:108", after := #[{ on := 16, ground := Go.Ground.data }, { on := 9, ground := Go.Ground.guard }], guard := some (9, false) }) (v := ?v17_701) rfl (by kernel_rfl) (by kernel_rfl) (by kernel_rfl) (fun _ _ _ h => h) (Or.inl ⟨by rfl, ?y17_701⟩) hHeld ?r17_701
            case y17_701 => intro w hSw; (try dsimp only at hSw); go_simp; try with_reducible rfl
            try simp only [Act.put, List.setIfInBounds_toArray, List.set_cons_zero, List.set_cons_succ]
            refine wpAnyH_ready (rs := [18]) (by kernel_rfl) (by simp) ?_
            refine AllReadyH.cons (o := { dst := some 84, op := Go.Op.call { callee := Go.Callee.value (Go.Operand.func 31), args := #[Go.Operand.tmp 79, Go.Operand.tmp 83], argTypes := #[39, 39] }, type := 4, pos := "law.go:108", after := #[{ on := 13, ground := Go.Ground.data }, { on := 17, ground := Go.Ground.data }, { on := 9, ground := Go.Ground.chain }, { on := 9, ground := Go.Ground.guard }], guard := some (9, false) }) rfl (fun K hK => ?_) AllReadyH.nil
            go_simp
            refine (HSAME.out _ hHeld.1.out).mono ?_; rintro e wg ⟨rfl, hb⟩
            go_wp2_with fail
            refine hK.out _ _ (⟨Lib.hid (hHeld.1.out.trans (hb.mono hHeld.1.out.size)), cell_later4 hb hHeld.2.1, cell_later4 hb hHeld.2.2.1, cell_later4 hb hHeld.2.2.2.1, cell_later4 hb hHeld.2.2.2.2.1, cell_later4 hb hHeld.2.2.2.2.2.1, cell_later4 hb hHeld.2.2.2.2.2.2.1, cell_later4 hb hHeld.2.2.2.2.2.2.2.1, cell_later4 hb hHeld.2.2.2.2.2.2.2.2.1, cell_later4 hb hHeld.2.2.2.2.2.2.2.2.2.1, cell_later4 hb hHeld.2.2.2.2.2.2.2.2.2.2.1, cell_later4 hb hHeld.2.2.2.2.2.2.2.2.2.2.2.1, cell_later4 hb hHeld.2.2.2.2.2.2.2.2.2.2.2.2⟩) (fun hHeld2 => ?_)
            clear hK K hHeld
            have hHeld := hHeld2
            clear hHeld2
            try simp only [Act.put, List.setIfInBounds_toArray, List.set_cons_zero, List.set_cons_succ]
            refine wpAnyH_take (i := 19) (oi := { dst := some 85, op := Go.Op.unOp Go.UnOp.not 4 (Go.Operand.tmp 84), type := 4, pos := "law.go:108", after := #[{ on := 18, ground := Go.Ground.data }, { on := 9, ground := Go.Ground.guard }], guard := some (9, false) }) (v := ?v19_702) rfl (by kernel_rfl) (by kernel_rfl) (by kernel_rfl) (fun _ _ _ h => h) (Or.inl ⟨by rfl, ?y19_702⟩) hHeld ?r19_702
            case y19_702 => intro w hSw; (try dsimp only at hSw); go_simp; try with_reducible rfl
            try simp only [Act.put, List.setIfInBounds_toArray, List.set_cons_zero, List.set_cons_succ]
            refine wpAnyH_take (i := 20) (oi := { dst := some 86, op := Go.Op.pick (Go.Operand.tmp 75) (Go.Operand.const (Go.Value.bool true)) (Go.Operand.tmp 85), type := 4, pos := "law.go:108", after := #[{ on := 9, ground := Go.Ground.data }, { on := 19, ground := Go.Ground.data }], guard := none }) (v := ?v20_702) rfl (by kernel_rfl) (by kernel_rfl) (by kernel_rfl) (fun _ _ _ h => h) (Or.inl ⟨by rfl, ?y20_702⟩) hHeld ?r20_702
            case y20_702 => intro w hSw; (try dsimp only at hSw); go_simp; try with_reducible rfl
            try simp only [Act.put, List.setIfInBounds_toArray, List.set_cons_zero, List.set_cons_succ]
            refine wpAnyH_done (by kernel_rfl) ?_ _
            have hbe := hHeld.1.out
            clear hHeld
            have HBN := Lib.hid (HB6.out.trans (hbe.mono HB6.out.size))
            clear hbe
            go_wp2
            go_roundw
            case rel => exact ⟨k + 1, by have := HLT.out; omega, by have := HLT.out; go_num, HBN⟩
            case measure => have := HLT.out; simp [intOf]; omega
          · replace hcut : cutP S apex sn = some x := hcut
            have hX := HXC.out
            rw [hcut] at hX ⊢
            obtain rfl : x = ⟨⟨cn, ct, ck⟩, cu, cd⟩ := hX
            simp only [Option.isSome_some]
            obtain ⟨vt, hvt2⟩ : ∃ x, decide (st ∈ [(43 : Int)]) = x := ⟨_, rfl⟩
            have HVT := Lib.hid hvt2
            obtain rfl : vt = true := hvt2.symm.trans (dT (by simpa using hst))
            have s1 := strA_eq (show cn = sn from hns)
            clear hns hst hvt2 hcut HXC
            have hbd := (Below.refl w6.heap.size w6).drew
            obtain ⟨we, hwe⟩ : ∃ x, w6.drew = x := ⟨_, rfl⟩
            have HBE := Lib.hid (show Below w6.heap.size w6 we by rw [← hwe]; exact hbd)
            clear hbd
            refine wp_region_held_drew (S := (fun wx => Hid (Below w6.heap.size w6 wx) ∧ wx.cell? ⟨b, o + k * 5, none⟩ = some (.string sn) ∧ wx.cell? ⟨b, o + k * 5 + 1, none⟩ = some (.int .i64 st) ∧ wx.cell? ⟨b, o + k * 5 + 2, none⟩ = some (.int .i64 1) ∧ wx.cell? ⟨q10, 0, none⟩ = some (.string cn))) (by kernel_rfl) (by rw [hwe]; exact ⟨HBE, cell_later4 HBE.out Y0.out, cell_later4 HBE.out Y1.out, cell_later4 HBE.out Y2.out, cell_later4 HBE.out HC10.out.2.1⟩) (fun hHeld => ?_)
            rw [hwe] at hHeld ⊢
            clear hwe
            refine wpAnyH_take (i := 0) (oi := { dst := some 88, op := Go.Op.move (Go.Operand.tmp 11), type := 4, pos := "law.go:103", after := #[], guard := none }) (v := ?v0_801) rfl (by kernel_rfl) (by kernel_rfl) (by kernel_rfl) (fun _ _ _ h => h) (Or.inl ⟨by rfl, ?y0_801⟩) hHeld ?r0_801
            case y0_801 => intro w hSw; (try dsimp only at hSw); go_simp; try with_reducible rfl
            try simp only [Act.put, List.setIfInBounds_toArray, List.set_cons_zero, List.set_cons_succ]
            refine wpAnyH_take (i := 1) (oi := { dst := some 89, op := Go.Op.move (Go.Operand.tmp 88), type := 4, pos := "law.go:103", after := #[{ on := 0, ground := Go.Ground.data }], guard := none }) (v := ?v1_801) rfl (by kernel_rfl) (by kernel_rfl) (by kernel_rfl) (fun _ _ _ h => h) (Or.inl ⟨by rfl, ?y1_801⟩) hHeld ?r1_801
            case y1_801 => intro w hSw; (try dsimp only at hSw); go_simp; try with_reducible rfl
            try simp only [Act.put, List.setIfInBounds_toArray, List.set_cons_zero, List.set_cons_succ]
            refine wpAnyH_take (i := 2) (oi := { dst := some 90, op := Go.Op.fieldAddr 39 (Go.Operand.tmp 10) 0, type := 0, pos := "law.go:103", after := #[{ on := 1, ground := Go.Ground.guard }], guard := some (1, true) }) (v := ?v2_801) rfl (by kernel_rfl) (by kernel_rfl) (by kernel_rfl) (fun _ _ _ h => h) (Or.inl ⟨by rfl, ?y2_801⟩) hHeld ?r2_801
            case y2_801 => intro w hSw; (try dsimp only at hSw); go_simp; try with_reducible rfl
            try simp only [Act.put, List.setIfInBounds_toArray, List.set_cons_zero, List.set_cons_succ]
            refine wpAnyH_take (i := 3) (oi := { dst := some 91, op := Go.Op.fieldAddr 36 (Go.Operand.tmp 90) 0, type := 0, pos := "law.go:103", after := #[{ on := 2, ground := Go.Ground.data }, { on := 1, ground := Go.Ground.guard }], guard := some (1, true) }) (v := ?v3_801) rfl (by kernel_rfl) (by kernel_rfl) (by kernel_rfl) (fun _ _ _ h => h) (Or.inl ⟨by rfl, ?y3_801⟩) hHeld ?r3_801
            case y3_801 => intro w hSw; (try dsimp only at hSw); go_simp; try with_reducible rfl
            try simp only [Act.put, List.setIfInBounds_toArray, List.set_cons_zero, List.set_cons_succ]
            refine wpAnyH_take (i := 4) (oi := { dst := some 92, op := Go.Op.load 9 (Go.Operand.tmp 91), type := 9, pos := "law.go:103", after := #[{ on := 3, ground := Go.Ground.data }, { on := 1, ground := Go.Ground.guard }], guard := some (1, true) }) (v := ?v4_801) rfl (by kernel_rfl) (by kernel_rfl) (by kernel_rfl) (fun _ _ _ h => h) (Or.inl ⟨by rfl, ?y4_801⟩) hHeld ?r4_801
            case y4_801 => intro w hSw; (try dsimp only at hSw); go_simp; try with_reducible rfl
            try simp only [Act.put, List.setIfInBounds_toArray, List.set_cons_zero, List.set_cons_succ]
            refine wpAnyH_take (i := 5) (oi := { dst := some 93, op := Go.Op.move (Go.Operand.tmp 7), type := 33, pos := "law.go:103", after := #[{ on := 1, ground := Go.Ground.guard }], guard := some (1, true) }) (v := ?v5_801) rfl (by kernel_rfl) (by kernel_rfl) (by kernel_rfl) (fun _ _ _ h => h) (Or.inl ⟨by rfl, ?y5_801⟩) hHeld ?r5_801
            case y5_801 => intro w hSw; (try dsimp only at hSw); go_simp; try with_reducible rfl
            try simp only [Act.put, List.setIfInBounds_toArray, List.set_cons_zero, List.set_cons_succ]
            refine wpAnyH_take (i := 6) (oi := { dst := some 94, op := Go.Op.move (Go.Operand.tmp 8), type := 3, pos := "law.go:103", after := #[{ on := 1, ground := Go.Ground.guard }], guard := some (1, true) }) (v := ?v6_801) rfl (by kernel_rfl) (by kernel_rfl) (by kernel_rfl) (fun _ _ _ h => h) (Or.inl ⟨by rfl, ?y6_801⟩) hHeld ?r6_801
            case y6_801 => intro w hSw; (try dsimp only at hSw); go_simp; try with_reducible rfl
            try simp only [Act.put, List.setIfInBounds_toArray, List.set_cons_zero, List.set_cons_succ]
            refine wpAnyH_take (i := 7) (oi := { dst := some 95, op := Go.Op.indexAddr 33 (Go.Operand.tmp 93) (Go.Operand.tmp 94), type := 0, pos := "law.go:103", after := #[{ on := 5, ground := Go.Ground.data }, { on := 6, ground := Go.Ground.data }, { on := 1, ground := Go.Ground.guard }], guard := some (1, true) }) (v := ?v7_801) rfl (by kernel_rfl) (by kernel_rfl) (by kernel_rfl) (fun _ _ _ h => h) (Or.inl ⟨by rfl, ?y7_801⟩) hHeld ?r7_801
            case y7_801 => intro w hSw; (try dsimp only at hSw); go_simp; try with_reducible rfl
            try simp only [Act.put, List.setIfInBounds_toArray, List.set_cons_zero, List.set_cons_succ]
            refine wpAnyH_take (i := 8) (oi := { dst := some 96, op := Go.Op.fieldAddr 39 (Go.Operand.tmp 95) 0, type := 0, pos := "law.go:103", after := #[{ on := 7, ground := Go.Ground.data }, { on := 1, ground := Go.Ground.guard }], guard := some (1, true) }) (v := ?v8_801) rfl (by kernel_rfl) (by kernel_rfl) (by kernel_rfl) (fun _ _ _ h => h) (Or.inl ⟨by rfl, ?y8_801⟩) hHeld ?r8_801
            case y8_801 => intro w hSw; (try dsimp only at hSw); go_simp; try with_reducible rfl
            try simp only [Act.put, List.setIfInBounds_toArray, List.set_cons_zero, List.set_cons_succ]
            refine wpAnyH_take (i := 9) (oi := { dst := some 97, op := Go.Op.fieldAddr 36 (Go.Operand.tmp 96) 0, type := 0, pos := "law.go:103", after := #[{ on := 8, ground := Go.Ground.data }, { on := 1, ground := Go.Ground.guard }], guard := some (1, true) }) (v := ?v9_801) rfl (by kernel_rfl) (by kernel_rfl) (by kernel_rfl) (fun _ _ _ h => h) (Or.inl ⟨by rfl, ?y9_801⟩) hHeld ?r9_801
            case y9_801 => intro w hSw; (try dsimp only at hSw); go_simp; try with_reducible rfl
            try simp only [Act.put, List.setIfInBounds_toArray, List.set_cons_zero, List.set_cons_succ]
            refine wpAnyH_take (i := 10) (oi := { dst := some 98, op := Go.Op.load 9 (Go.Operand.tmp 97), type := 9, pos := "law.go:103", after := #[{ on := 9, ground := Go.Ground.data }, { on := 1, ground := Go.Ground.guard }], guard := some (1, true) }) (v := ?v10_801) rfl (by kernel_rfl) (by kernel_rfl) (by kernel_rfl) (fun _ _ _ h => h) (Or.inl ⟨by rfl, ?y10_801⟩) hHeld ?r10_801
            case y10_801 => intro w hSw; (try dsimp only at hSw); go_simp; try with_reducible rfl
            try simp only [Act.put, List.setIfInBounds_toArray, List.set_cons_zero, List.set_cons_succ]
            refine wpAnyH_take (i := 11) (oi := { dst := some 99, op := Go.Op.binOp Go.BinOp.neq 9 (Go.Operand.tmp 92) (Go.Operand.tmp 98) 9, type := 4, pos := "law.go:103", after := #[{ on := 4, ground := Go.Ground.data }, { on := 10, ground := Go.Ground.data }, { on := 1, ground := Go.Ground.guard }], guard := some (1, true) }) (v := ?v11_801) rfl (by kernel_rfl) (by kernel_rfl) (by kernel_rfl) (fun _ _ _ h => h) (Or.inl ⟨by rfl, ?y11_801⟩) hHeld ?r11_801
            case y11_801 => intro w hSw; (try dsimp only at hSw); go_simp; try with_reducible rfl
            try simp only [Act.put, List.setIfInBounds_toArray, List.set_cons_zero, List.set_cons_succ]
            refine wpAnyH_take (i := 12) (oi := { dst := some 100, op := Go.Op.move (Go.Operand.tmp 99), type := 4, pos := "law.go:103", after := #[{ on := 11, ground := Go.Ground.data }, { on := 1, ground := Go.Ground.chain }, { on := 1, ground := Go.Ground.guard }], guard := some (1, true) }) (v := ?v12_801) rfl (by kernel_rfl) (by kernel_rfl) (by kernel_rfl) (fun _ _ _ h => h) (Or.inl ⟨by rfl, ?y12_801⟩) hHeld ?r12_801
            case y12_801 => intro w hSw; (try dsimp only at hSw); go_simp; try with_reducible rfl
            try simp only [Act.put, List.setIfInBounds_toArray, List.set_cons_zero, List.set_cons_succ]
            refine wpAnyH_take (i := 13) (oi := { dst := some 101, op := Go.Op.move (Go.Operand.tmp 7), type := 33, pos := "law.go:103", after := #[{ on := 12, ground := Go.Ground.guard }], guard := some (12, false) }) (v := ?v13_801) rfl (by kernel_rfl) (by kernel_rfl) (by kernel_rfl) (fun _ _ _ h => h) (Or.inl ⟨by rfl, ?y13_801⟩) hHeld ?r13_801
            case y13_801 => intro w hSw; (try dsimp only at hSw); go_simp; try with_reducible rfl
            try simp only [Act.put, List.setIfInBounds_toArray, List.set_cons_zero, List.set_cons_succ]
            refine wpAnyH_take (i := 14) (oi := { dst := some 102, op := Go.Op.move (Go.Operand.tmp 8), type := 3, pos := "law.go:103", after := #[{ on := 12, ground := Go.Ground.guard }], guard := some (12, false) }) (v := ?v14_801) rfl (by kernel_rfl) (by kernel_rfl) (by kernel_rfl) (fun _ _ _ h => h) (Or.inl ⟨by rfl, ?y14_801⟩) hHeld ?r14_801
            case y14_801 => intro w hSw; (try dsimp only at hSw); go_simp; try with_reducible rfl
            try simp only [Act.put, List.setIfInBounds_toArray, List.set_cons_zero, List.set_cons_succ]
            refine wpAnyH_take (i := 15) (oi := { dst := some 103, op := Go.Op.indexAddr 33 (Go.Operand.tmp 101) (Go.Operand.tmp 102), type := 0, pos := "law.go:103", after := #[{ on := 13, ground := Go.Ground.data }, { on := 14, ground := Go.Ground.data }, { on := 12, ground := Go.Ground.guard }], guard := some (12, false) }) (v := ?v15_801) rfl (by kernel_rfl) (by kernel_rfl) (by kernel_rfl) (fun _ _ _ h => h) (Or.inl ⟨by rfl, ?y15_801⟩) hHeld ?r15_801
            case y15_801 => intro w hSw; (try dsimp only at hSw); go_simp; try with_reducible rfl
            try simp only [Act.put, List.setIfInBounds_toArray, List.set_cons_zero, List.set_cons_succ]
            refine wpAnyH_take (i := 16) (oi := { dst := some 104, op := Go.Op.fieldAddr 39 (Go.Operand.tmp 103) 0, type := 0, pos := "law.go:103", after := #[{ on := 15, ground := Go.Ground.data }, { on := 12, ground := Go.Ground.guard }], guard := some (12, false) }) (v := ?v16_801) rfl (by kernel_rfl) (by kernel_rfl) (by kernel_rfl) (fun _ _ _ h => h) (Or.inl ⟨by rfl, ?y16_801⟩) hHeld ?r16_801
            case y16_801 => intro w hSw; (try dsimp only at hSw); go_simp; try with_reducible rfl
            try simp only [Act.put, List.setIfInBounds_toArray, List.set_cons_zero, List.set_cons_succ]
            refine wpAnyH_take (i := 17) (oi := { dst := some 105, op := Go.Op.load 36 (Go.Operand.tmp 104), type := 36, pos := "law.go:103", after := #[{ on := 16, ground := Go.Ground.data }, { on := 12, ground := Go.Ground.guard }], guard := some (12, false) }) (v := ?v17_801) rfl (by kernel_rfl) (by kernel_rfl) (by kernel_rfl) (fun _ _ _ h => h) (Or.inl ⟨by rfl, ?y17_801⟩) hHeld ?r17_801
            case y17_801 => intro w hSw; (try dsimp only at hSw); go_simp; try with_reducible rfl
            try simp only [Act.put, List.setIfInBounds_toArray, List.set_cons_zero, List.set_cons_succ]
            refine wpAnyH_ready (rs := [18]) (by kernel_rfl) (by simp) ?_
            refine AllReadyH.cons (o := { dst := some 106, op := Go.Op.buildSlice 95 1 #[(0, Go.Operand.const (Go.Value.int Go.IntKind.i64 43))], type := 95, pos := "law.go:103", after := #[{ on := 12, ground := Go.Ground.guard }], guard := some (12, false) }) rfl (fun K hK => ?_) AllReadyH.nil
            go_simp
            have hb := (Below.refl _ _ : Below we.heap.size we we).alloc (Nat.le_refl _) (.cells #[.int .i64 43] 3)
            have HL1 := Lib.hid (row_lit1 we 43 3)
            obtain ⟨wf, hwf⟩ : ∃ x, we.alloc (.cells #[.int .i64 43] 3) = x := ⟨_, rfl⟩
            rw [hwf] at hb HL1 ⊢
            obtain ⟨gf, hgf⟩ : ∃ x, we.heap.size = x := ⟨_, rfl⟩
            rw [hgf] at HL1 ⊢
            clear hwf hgf
            refine hK.out _ _ (⟨Lib.hid (hHeld.1.out.trans (hb.mono hHeld.1.out.size)), cell_later4 hb hHeld.2.1, cell_later4 hb hHeld.2.2.1, cell_later4 hb hHeld.2.2.2.1, cell_later4 hb hHeld.2.2.2.2⟩) (fun hHeld2 => ?_)
            clear hK K hHeld
            have hHeld := hHeld2
            clear hHeld2
            try simp only [Act.put, List.setIfInBounds_toArray, List.set_cons_zero, List.set_cons_succ]
            refine wpAnyH_ready (rs := [19]) (by kernel_rfl) (by simp) ?_
            refine AllReadyH.cons (o := { dst := some 107, op := Go.Op.call { callee := Go.Callee.value (Go.Operand.func 28), args := #[Go.Operand.tmp 105, Go.Operand.tmp 106], argTypes := #[36, 95] }, type := 4, pos := "law.go:103", after := #[{ on := 17, ground := Go.Ground.data }, { on := 18, ground := Go.Ground.data }, { on := 12, ground := Go.Ground.chain }, { on := 12, ground := Go.Ground.guard }], guard := some (12, false) }) rfl (fun K hK => ?_) AllReadyH.nil
            go_simp
            refine (isK ⟨sn, st, 1⟩ (some ⟨gf, 0, none⟩) 1 1 [43] wf HL1.out (by omega)).mono ?_; rintro e wg ⟨rfl, hb⟩
            rw [show decide ((⟨sn, st, 1⟩ : Ky).t ∈ [(43 : Int)]) = true from HVT.out]
            go_wp2_with fail
            refine hK.out _ _ (⟨Lib.hid (hHeld.1.out.trans (hb.mono hHeld.1.out.size)), cell_later4 hb hHeld.2.1, cell_later4 hb hHeld.2.2.1, cell_later4 hb hHeld.2.2.2.1, cell_later4 hb hHeld.2.2.2.2⟩) (fun hHeld2 => ?_)
            clear hK K hHeld
            have hHeld := hHeld2
            clear hHeld2
            try simp only [Act.put, List.setIfInBounds_toArray, List.set_cons_zero, List.set_cons_succ]
            refine wpAnyH_take (i := 20) (oi := { dst := some 108, op := Go.Op.unOp Go.UnOp.not 4 (Go.Operand.tmp 107), type := 4, pos := "law.go:103", after := #[{ on := 19, ground := Go.Ground.data }, { on := 12, ground := Go.Ground.guard }], guard := some (12, false) }) (v := ?v20_803) rfl (by kernel_rfl) (by kernel_rfl) (by kernel_rfl) (fun _ _ _ h => h) (Or.inl ⟨by rfl, ?y20_803⟩) hHeld ?r20_803
            case y20_803 => intro w hSw; (try dsimp only at hSw); go_simp; try with_reducible rfl
            try simp only [Act.put, List.setIfInBounds_toArray, List.set_cons_zero, List.set_cons_succ]
            refine wpAnyH_take (i := 21) (oi := { dst := some 109, op := Go.Op.pick (Go.Operand.tmp 100) (Go.Operand.const (Go.Value.bool true)) (Go.Operand.tmp 108), type := 4, pos := "law.go:103", after := #[{ on := 12, ground := Go.Ground.data }, { on := 20, ground := Go.Ground.data }, { on := 1, ground := Go.Ground.guard }], guard := some (1, true) }) (v := ?v21_803) rfl (by kernel_rfl) (by kernel_rfl) (by kernel_rfl) (fun _ _ _ h => h) (Or.inl ⟨by rfl, ?y21_803⟩) hHeld ?r21_803
            case y21_803 => intro w hSw; (try dsimp only at hSw); go_simp; try with_reducible rfl
            try simp only [Act.put, List.setIfInBounds_toArray, List.set_cons_zero, List.set_cons_succ]
            refine wpAnyH_take (i := 22) (oi := { dst := some 110, op := Go.Op.pick (Go.Operand.tmp 89) (Go.Operand.tmp 109) (Go.Operand.const (Go.Value.bool false)), type := 4, pos := "law.go:103", after := #[{ on := 1, ground := Go.Ground.data }, { on := 21, ground := Go.Ground.data }], guard := none }) (v := ?v22_803) rfl (by kernel_rfl) (by kernel_rfl) (by kernel_rfl) (fun _ _ _ h => h) (Or.inl ⟨by rfl, ?y22_803⟩) hHeld ?r22_803
            case y22_803 => intro w hSw; (try dsimp only at hSw); go_simp; try with_reducible rfl
            try simp only [Act.put, List.setIfInBounds_toArray, List.set_cons_zero, List.set_cons_succ]
            refine wpAnyH_take (i := 23) (oi := { dst := some 87, op := Go.Op.assign (Go.Operand.tmp 110), type := 4, pos := "law.go:103", after := #[{ on := 22, ground := Go.Ground.data }, { on := 19, ground := Go.Ground.chain }], guard := none }) (v := ?v23_803) rfl (by kernel_rfl) (by kernel_rfl) (by kernel_rfl) (fun _ _ _ h => h) (Or.inl ⟨by rfl, ?y23_803⟩) hHeld ?r23_803
            case y23_803 => intro w hSw; (try dsimp only at hSw); go_simp; try with_reducible rfl
            try simp only [Act.put, List.setIfInBounds_toArray, List.set_cons_zero, List.set_cons_succ]
            refine wpAnyH_done (by kernel_rfl) ?_ _
            have hbe := hHeld.1.out
            clear hHeld
            clear s1
            have HBE2 := Lib.hid hbe
            clear hbe
            replace Y0 := Lib.hid (cell_later4 HBE2.out Y0.out)
            replace Y1 := Lib.hid (cell_later4 HBE2.out Y1.out)
            replace Y2 := Lib.hid (cell_later4 HBE2.out Y2.out)
            replace Y3 := Lib.hid (cell_later4 HBE2.out Y3.out)
            replace Y4 := Lib.hid (cell_later4 HBE2.out Y4.out)
            replace HC10 := Lib.hid (HC10.out.below HBE2.out)
            replace KZ := Lib.hid (KZ.out.below HBE2.out)
            replace HCR := Lib.hid (HCR.out.below HBE2.out)
            replace HSRZ := Lib.hid (HSRZ.out.below HBE2.out)
            replace HU := Lib.hid (HU.out.below HBE2.out)
            replace HB6 := Lib.hid (HB6.out.trans (HBE2.out.mono HB6.out.size))
            clear HBE2
            go_upto_region 14 with (fail)
            obtain ⟨w6, hw6⟩ : ∃ x, wg = x := ⟨_, rfl⟩
            rw [hw6] at Y0 Y1 Y2 Y3 Y4 HC10 KZ HCR HSRZ HU HB6 ⊢
            clear hw6
            obtain ⟨rfl, b9, o9, p9, c9, rfl, z0, z1, z2, z3, z4, hzr, -⟩ := at_full HU.out.at
            replace hzr : RowS w6 p9 sd.length sd := hzr
            replace z4 : w6.cell? ⟨b9, o9 + 4, none⟩ = some (.slice p9 sd.length c9) := z4
            rw [show sd.length = dl from HSRZ.out.1] at hzr z4
            have HZR := Lib.hid hzr
            have Z0 := Lib.hid (show w6.cell? ⟨b9, o9, none⟩ = some (.string sn) from z0)
            have Z1 := Lib.hid (show w6.cell? ⟨b9, o9 + 1, none⟩ = some (.int .i64 st) from z1)
            have Z2 := Lib.hid (show w6.cell? ⟨b9, o9 + 2, none⟩ = some (.int .i64 1) from z2)
            have Z3 := Lib.hid (show w6.cell? ⟨b9, o9 + 3, none⟩ = some (.int .i64 su) from z3)
            have Z4 := Lib.hid z4
            clear z0 z1 z2 z3 z4 hzr
            have HSAME := Lib.hid (fun wx (hx : Below w6.heap.size w6 wx) => same_selfE sn st 1 su sd p9 pa dl c9 ca wx (HZR.out.below hx) (HSRZ.out.below hx) HDL.out)
            have hbd := (Below.refl w6.heap.size w6).drew
            obtain ⟨we, hwe⟩ : ∃ x, w6.drew = x := ⟨_, rfl⟩
            have HBE := Lib.hid (show Below w6.heap.size w6 we by rw [← hwe]; exact hbd)
            clear hbd
            refine wp_region_held_drew (S := (fun wx => Hid (Below w6.heap.size w6 wx) ∧ wx.cell? ⟨q9, 0, none⟩ = some (.int .i64 1) ∧ wx.cell? ⟨q9, 2, none⟩ = some (.slice (some ⟨b9, o9, none⟩) 1 c1) ∧ wx.cell? ⟨b9, o9, none⟩ = some (.string sn) ∧ wx.cell? ⟨b9, o9 + 1, none⟩ = some (.int .i64 st) ∧ wx.cell? ⟨b9, o9 + 2, none⟩ = some (.int .i64 1) ∧ wx.cell? ⟨b9, o9 + 3, none⟩ = some (.int .i64 su) ∧ wx.cell? ⟨b9, o9 + 4, none⟩ = some (.slice p9 dl c9) ∧ wx.cell? ⟨b, o + k * 5, none⟩ = some (.string sn) ∧ wx.cell? ⟨b, o + k * 5 + 1, none⟩ = some (.int .i64 st) ∧ wx.cell? ⟨b, o + k * 5 + 2, none⟩ = some (.int .i64 1) ∧ wx.cell? ⟨b, o + k * 5 + 3, none⟩ = some (.int .i64 su) ∧ wx.cell? ⟨b, o + k * 5 + 4, none⟩ = some (.slice pa dl ca))) (by kernel_rfl) (by rw [hwe]; exact ⟨HBE, cell_later4 HBE.out KZ.out.u5.1, cell_later4 HBE.out KZ.out.u5.2.2.1, cell_later4 HBE.out Z0.out, cell_later4 HBE.out Z1.out, cell_later4 HBE.out Z2.out, cell_later4 HBE.out Z3.out, cell_later4 HBE.out Z4.out, cell_later4 HBE.out Y0.out, cell_later4 HBE.out Y1.out, cell_later4 HBE.out Y2.out, cell_later4 HBE.out Y3.out, cell_later4 HBE.out Y4.out⟩) (fun hHeld => ?_)
            rw [hwe] at hHeld ⊢
            clear hwe
            refine wpAnyH_take (i := 0) (oi := { dst := some 66, op := Go.Op.fieldAddr 68 (Go.Operand.tmp 9) 0, type := 0, pos := "law.go:108", after := #[], guard := none }) (v := ?v0_901) rfl (by kernel_rfl) (by kernel_rfl) (by kernel_rfl) (fun _ _ _ h => h) (Or.inl ⟨by rfl, ?y0_901⟩) hHeld ?r0_901
            case y0_901 => intro w hSw; (try dsimp only at hSw); go_simp; try with_reducible rfl
            try simp only [Act.put, List.setIfInBounds_toArray, List.set_cons_zero, List.set_cons_succ]
            refine wpAnyH_take (i := 1) (oi := { dst := some 67, op := Go.Op.load 3 (Go.Operand.tmp 66), type := 3, pos := "law.go:108", after := #[{ on := 0, ground := Go.Ground.data }], guard := none }) (v := ?v1_901) rfl (by kernel_rfl) (by kernel_rfl) (by kernel_rfl) (fun _ _ _ h => h) (Or.inl ⟨by rfl, ?y1_901⟩) hHeld ?r1_901
            case y1_901 => intro w hSw; (try dsimp only at hSw); go_simp; try with_reducible rfl
            try simp only [Act.put, List.setIfInBounds_toArray, List.set_cons_zero, List.set_cons_succ]
            refine wpAnyH_take (i := 2) (oi := { dst := some 68, op := Go.Op.binOp Go.BinOp.neq 3 (Go.Operand.tmp 67) (Go.Operand.const (Go.Value.int Go.IntKind.i64 1)) 3, type := 4, pos := "law.go:108", after := #[{ on := 1, ground := Go.Ground.data }], guard := none }) (v := ?v2_901) rfl (by kernel_rfl) (by kernel_rfl) (by kernel_rfl) (fun _ _ _ h => h) (Or.inl ⟨by rfl, ?y2_901⟩) hHeld ?r2_901
            case y2_901 => intro w hSw; (try dsimp only at hSw); go_simp; try with_reducible rfl
            try simp only [Act.put, List.setIfInBounds_toArray, List.set_cons_zero, List.set_cons_succ]
            refine wpAnyH_take (i := 3) (oi := { dst := some 69, op := Go.Op.move (Go.Operand.tmp 68), type := 4, pos := "law.go:108", after := #[{ on := 2, ground := Go.Ground.data }], guard := none }) (v := ?v3_901) rfl (by kernel_rfl) (by kernel_rfl) (by kernel_rfl) (fun _ _ _ h => h) (Or.inl ⟨by rfl, ?y3_901⟩) hHeld ?r3_901
            case y3_901 => intro w hSw; (try dsimp only at hSw); go_simp; try with_reducible rfl
            try simp only [Act.put, List.setIfInBounds_toArray, List.set_cons_zero, List.set_cons_succ]
            refine wpAnyH_take (i := 4) (oi := { dst := some 70, op := Go.Op.fieldAddr 68 (Go.Operand.tmp 9) 2, type := 0, pos := "law.go:108", after := #[{ on := 3, ground := Go.Ground.guard }], guard := some (3, false) }) (v := ?v4_901) rfl (by kernel_rfl) (by kernel_rfl) (by kernel_rfl) (fun _ _ _ h => h) (Or.inl ⟨by rfl, ?y4_901⟩) hHeld ?r4_901
            case y4_901 => intro w hSw; (try dsimp only at hSw); go_simp; try with_reducible rfl
            try simp only [Act.put, List.setIfInBounds_toArray, List.set_cons_zero, List.set_cons_succ]
            refine wpAnyH_take (i := 5) (oi := { dst := some 71, op := Go.Op.load 33 (Go.Operand.tmp 70), type := 33, pos := "law.go:108", after := #[{ on := 4, ground := Go.Ground.data }, { on := 3, ground := Go.Ground.guard }], guard := some (3, false) }) (v := ?v5_901) rfl (by kernel_rfl) (by kernel_rfl) (by kernel_rfl) (fun _ _ _ h => h) (Or.inl ⟨by rfl, ?y5_901⟩) hHeld ?r5_901
            case y5_901 => intro w hSw; (try dsimp only at hSw); go_simp; try with_reducible rfl
            try simp only [Act.put, List.setIfInBounds_toArray, List.set_cons_zero, List.set_cons_succ]
            refine wpAnyH_take (i := 6) (oi := { dst := some 72, op := Go.Op.call { callee := Go.Callee.builtin Go.Builtin.len, args := #[Go.Operand.tmp 71], argTypes := #[33] }, type := 3, pos := "law.go:108", after := #[{ on := 5, ground := Go.Ground.data }, { on := 3, ground := Go.Ground.guard }], guard := some (3, false) }) (v := ?v6_901) rfl (by kernel_rfl) (by kernel_rfl) (by kernel_rfl) (fun _ _ _ h => h) (Or.inl ⟨by rfl, ?y6_901⟩) hHeld ?r6_901
            case y6_901 => intro w hSw; (try dsimp only at hSw); go_simp; try with_reducible rfl
            try simp only [Act.put, List.setIfInBounds_toArray, List.set_cons_zero, List.set_cons_succ]
            refine wpAnyH_take (i := 7) (oi := { dst := some 73, op := Go.Op.binOp Go.BinOp.neq 3 (Go.Operand.tmp 72) (Go.Operand.const (Go.Value.int Go.IntKind.i64 1)) 3, type := 4, pos := "law.go:108", after := #[{ on := 6, ground := Go.Ground.data }, { on := 3, ground := Go.Ground.guard }], guard := some (3, false) }) (v := ?v7_901) rfl (by kernel_rfl) (by kernel_rfl) (by kernel_rfl) (fun _ _ _ h => h) (Or.inl ⟨by rfl, ?y7_901⟩) hHeld ?r7_901
            case y7_901 => intro w hSw; (try dsimp only at hSw); go_simp; try with_reducible rfl
            try simp only [Act.put, List.setIfInBounds_toArray, List.set_cons_zero, List.set_cons_succ]
            refine wpAnyH_take (i := 8) (oi := { dst := some 74, op := Go.Op.pick (Go.Operand.tmp 69) (Go.Operand.const (Go.Value.bool true)) (Go.Operand.tmp 73), type := 4, pos := "law.go:108", after := #[{ on := 3, ground := Go.Ground.data }, { on := 7, ground := Go.Ground.data }], guard := none }) (v := ?v8_901) rfl (by kernel_rfl) (by kernel_rfl) (by kernel_rfl) (fun _ _ _ h => h) (Or.inl ⟨by rfl, ?y8_901⟩) hHeld ?r8_901
            case y8_901 => intro w hSw; (try dsimp only at hSw); go_simp; try with_reducible rfl
            try simp only [Act.put, List.setIfInBounds_toArray, List.set_cons_zero, List.set_cons_succ]
            refine wpAnyH_take (i := 9) (oi := { dst := some 75, op := Go.Op.move (Go.Operand.tmp 74), type := 4, pos := "law.go:108", after := #[{ on := 8, ground := Go.Ground.data }, { on := 3, ground := Go.Ground.chain }], guard := none }) (v := ?v9_901) rfl (by kernel_rfl) (by kernel_rfl) (by kernel_rfl) (fun _ _ _ h => h) (Or.inl ⟨by rfl, ?y9_901⟩) hHeld ?r9_901
            case y9_901 => intro w hSw; (try dsimp only at hSw); go_simp; try with_reducible rfl
            try simp only [Act.put, List.setIfInBounds_toArray, List.set_cons_zero, List.set_cons_succ]
            refine wpAnyH_take (i := 10) (oi := { dst := some 76, op := Go.Op.fieldAddr 68 (Go.Operand.tmp 9) 2, type := 0, pos := "law.go:108", after := #[{ on := 9, ground := Go.Ground.guard }], guard := some (9, false) }) (v := ?v10_901) rfl (by kernel_rfl) (by kernel_rfl) (by kernel_rfl) (fun _ _ _ h => h) (Or.inl ⟨by rfl, ?y10_901⟩) hHeld ?r10_901
            case y10_901 => intro w hSw; (try dsimp only at hSw); go_simp; try with_reducible rfl
            try simp only [Act.put, List.setIfInBounds_toArray, List.set_cons_zero, List.set_cons_succ]
            refine wpAnyH_take (i := 11) (oi := { dst := some 77, op := Go.Op.load 33 (Go.Operand.tmp 76), type := 33, pos := "law.go:108", after := #[{ on := 10, ground := Go.Ground.data }, { on := 9, ground := Go.Ground.guard }], guard := some (9, false) }) (v := ?v11_901) rfl (by kernel_rfl) (by kernel_rfl) (by kernel_rfl) (fun _ _ _ h => h) (Or.inl ⟨by rfl, ?y11_901⟩) hHeld ?r11_901
            case y11_901 => intro w hSw; (try dsimp only at hSw); go_simp; try with_reducible rfl
            try simp only [Act.put, List.setIfInBounds_toArray, List.set_cons_zero, List.set_cons_succ]
            refine wpAnyH_take (i := 12) (oi := { dst := some 78, op := Go.Op.indexAddr 33 (Go.Operand.tmp 77) (Go.Operand.const (Go.Value.int Go.IntKind.i64 0)), type := 0, pos := "law.go:108", after := #[{ on := 11, ground := Go.Ground.data }, { on := 9, ground := Go.Ground.guard }], guard := some (9, false) }) (v := ?v12_901) rfl (by kernel_rfl) (by kernel_rfl) (by kernel_rfl) (fun _ _ _ h => h) (Or.inl ⟨by rfl, ?y12_901⟩) hHeld ?r12_901
            case y12_901 => intro w hSw; (try dsimp only at hSw); go_simp; try with_reducible rfl
            try simp only [Act.put, List.setIfInBounds_toArray, List.set_cons_zero, List.set_cons_succ]
            refine wpAnyH_take (i := 13) (oi := { dst := some 79, op := Go.Op.load 39 (Go.Operand.tmp 78), type := 39, pos := "law.go:108", after := #[{ on := 12, ground := Go.Ground.data }, { on := 9, ground := Go.Ground.guard }], guard := some (9, false) }) (v := ?v13_901) rfl (by kernel_rfl) (by kernel_rfl) (by kernel_rfl) (fun _ _ _ h => h) (Or.inl ⟨by rfl, ?y13_901⟩) hHeld ?r13_901
            case y13_901 => intro w hSw; (try dsimp only at hSw); go_simp; try with_reducible rfl
            try simp only [Act.put, List.setIfInBounds_toArray, List.set_cons_zero, List.set_cons_succ]
            refine wpAnyH_take (i := 14) (oi := { dst := some 80, op := Go.Op.move (Go.Operand.tmp 7), type := 33, pos := "law.go:108", after := #[{ on := 9, ground := Go.Ground.guard }], guard := some (9, false) }) (v := ?v14_901) rfl (by kernel_rfl) (by kernel_rfl) (by kernel_rfl) (fun _ _ _ h => h) (Or.inl ⟨by rfl, ?y14_901⟩) hHeld ?r14_901
            case y14_901 => intro w hSw; (try dsimp only at hSw); go_simp; try with_reducible rfl
            try simp only [Act.put, List.setIfInBounds_toArray, List.set_cons_zero, List.set_cons_succ]
            refine wpAnyH_take (i := 15) (oi := { dst := some 81, op := Go.Op.move (Go.Operand.tmp 8), type := 3, pos := "law.go:108", after := #[{ on := 9, ground := Go.Ground.guard }], guard := some (9, false) }) (v := ?v15_901) rfl (by kernel_rfl) (by kernel_rfl) (by kernel_rfl) (fun _ _ _ h => h) (Or.inl ⟨by rfl, ?y15_901⟩) hHeld ?r15_901
            case y15_901 => intro w hSw; (try dsimp only at hSw); go_simp; try with_reducible rfl
            try simp only [Act.put, List.setIfInBounds_toArray, List.set_cons_zero, List.set_cons_succ]
            refine wpAnyH_take (i := 16) (oi := { dst := some 82, op := Go.Op.indexAddr 33 (Go.Operand.tmp 80) (Go.Operand.tmp 81), type := 0, pos := "law.go:108", after := #[{ on := 14, ground := Go.Ground.data }, { on := 15, ground := Go.Ground.data }, { on := 9, ground := Go.Ground.guard }], guard := some (9, false) }) (v := ?v16_901) rfl (by kernel_rfl) (by kernel_rfl) (by kernel_rfl) (fun _ _ _ h => h) (Or.inl ⟨by rfl, ?y16_901⟩) hHeld ?r16_901
            case y16_901 => intro w hSw; (try dsimp only at hSw); go_simp; try with_reducible rfl
            try simp only [Act.put, List.setIfInBounds_toArray, List.set_cons_zero, List.set_cons_succ]
            refine wpAnyH_take (i := 17) (oi := { dst := some 83, op := Go.Op.load 39 (Go.Operand.tmp 82), type := 39, pos := "law.go:108", after := #[{ on := 16, ground := Go.Ground.data }, { on := 9, ground := Go.Ground.guard }], guard := some (9, false) }) (v := ?v17_901) rfl (by kernel_rfl) (by kernel_rfl) (by kernel_rfl) (fun _ _ _ h => h) (Or.inl ⟨by rfl, ?y17_901⟩) hHeld ?r17_901
            case y17_901 => intro w hSw; (try dsimp only at hSw); go_simp; try with_reducible rfl
            try simp only [Act.put, List.setIfInBounds_toArray, List.set_cons_zero, List.set_cons_succ]
            refine wpAnyH_ready (rs := [18]) (by kernel_rfl) (by simp) ?_
            refine AllReadyH.cons (o := { dst := some 84, op := Go.Op.call { callee := Go.Callee.value (Go.Operand.func 31), args := #[Go.Operand.tmp 79, Go.Operand.tmp 83], argTypes := #[39, 39] }, type := 4, pos := "law.go:108", after := #[{ on := 13, ground := Go.Ground.data }, { on := 17, ground := Go.Ground.data }, { on := 9, ground := Go.Ground.chain }, { on := 9, ground := Go.Ground.guard }], guard := some (9, false) }) rfl (fun K hK => ?_) AllReadyH.nil
            go_simp
            refine (HSAME.out _ hHeld.1.out).mono ?_; rintro e wg ⟨rfl, hb⟩
            go_wp2_with fail
            refine hK.out _ _ (⟨Lib.hid (hHeld.1.out.trans (hb.mono hHeld.1.out.size)), cell_later4 hb hHeld.2.1, cell_later4 hb hHeld.2.2.1, cell_later4 hb hHeld.2.2.2.1, cell_later4 hb hHeld.2.2.2.2.1, cell_later4 hb hHeld.2.2.2.2.2.1, cell_later4 hb hHeld.2.2.2.2.2.2.1, cell_later4 hb hHeld.2.2.2.2.2.2.2.1, cell_later4 hb hHeld.2.2.2.2.2.2.2.2.1, cell_later4 hb hHeld.2.2.2.2.2.2.2.2.2.1, cell_later4 hb hHeld.2.2.2.2.2.2.2.2.2.2.1, cell_later4 hb hHeld.2.2.2.2.2.2.2.2.2.2.2.1, cell_later4 hb hHeld.2.2.2.2.2.2.2.2.2.2.2.2⟩) (fun hHeld2 => ?_)
            clear hK K hHeld
            have hHeld := hHeld2
            clear hHeld2
            try simp only [Act.put, List.setIfInBounds_toArray, List.set_cons_zero, List.set_cons_succ]
            refine wpAnyH_take (i := 19) (oi := { dst := some 85, op := Go.Op.unOp Go.UnOp.not 4 (Go.Operand.tmp 84), type := 4, pos := "law.go:108", after := #[{ on := 18, ground := Go.Ground.data }, { on := 9, ground := Go.Ground.guard }], guard := some (9, false) }) (v := ?v19_902) rfl (by kernel_rfl) (by kernel_rfl) (by kernel_rfl) (fun _ _ _ h => h) (Or.inl ⟨by rfl, ?y19_902⟩) hHeld ?r19_902
            case y19_902 => intro w hSw; (try dsimp only at hSw); go_simp; try with_reducible rfl
            try simp only [Act.put, List.setIfInBounds_toArray, List.set_cons_zero, List.set_cons_succ]
            refine wpAnyH_take (i := 20) (oi := { dst := some 86, op := Go.Op.pick (Go.Operand.tmp 75) (Go.Operand.const (Go.Value.bool true)) (Go.Operand.tmp 85), type := 4, pos := "law.go:108", after := #[{ on := 9, ground := Go.Ground.data }, { on := 19, ground := Go.Ground.data }], guard := none }) (v := ?v20_902) rfl (by kernel_rfl) (by kernel_rfl) (by kernel_rfl) (fun _ _ _ h => h) (Or.inl ⟨by rfl, ?y20_902⟩) hHeld ?r20_902
            case y20_902 => intro w hSw; (try dsimp only at hSw); go_simp; try with_reducible rfl
            try simp only [Act.put, List.setIfInBounds_toArray, List.set_cons_zero, List.set_cons_succ]
            refine wpAnyH_done (by kernel_rfl) ?_ _
            have hbe := hHeld.1.out
            clear hHeld
            have HBN := Lib.hid (HB6.out.trans (hbe.mono HB6.out.size))
            clear hbe
            go_wp2
            go_roundw
            case rel => exact ⟨k + 1, by have := HLT.out; omega, by have := HLT.out; go_num, HBN⟩
            case measure => have := HLT.out; simp [intOf]; omega
      · go_simp
        have hb := (Below.refl _ _ : Below wd.heap.size wd wd).alloc (Nat.le_refl _) (.cells #[.int .i64 0, .int .i64 0, .slice none 0 0, .slice none 0 0, .slice none 0 0] 68)
        have hn := CN.new wd #[.int .i64 0, .int .i64 0, .slice none 0 0, .slice none 0 0, .slice none 0 0] 68
        obtain ⟨wx1, hwe⟩ : ∃ x, wd.alloc (.cells #[.int .i64 0, .int .i64 0, .slice none 0 0, .slice none 0 0, .slice none 0 0] 68) = x := ⟨_, rfl⟩
        rw [hwe] at hb hn ⊢
        have hq9 := hHeld.1.out.size
        obtain ⟨q9, hge⟩ : ∃ x, wd.heap.size = x := ⟨_, rfl⟩
        have HQE := Lib.hid hge
        rw [hge] at hn hq9 ⊢
        have HC9 := Lib.hid hn
        have HQ9 := Lib.hid hq9
        clear hn hq9 hwe hge
        refine hK.out _ _ (⟨Lib.hid (hHeld.1.out.trans (hb.mono hHeld.1.out.size)), cell_later4 hb hHeld.2.1, cell_later4 hb hHeld.2.2⟩) (fun hHeld2 => ?_)
        clear hK K hHeld
        have hHeld := hHeld2
        clear hHeld2
        try simp only [Act.put, List.setIfInBounds_toArray, List.set_cons_zero, List.set_cons_succ]
        refine wpAnyL_ready (rs := [14]) (by kernel_rfl) (by simp) ?_
        refine AllReadyL.cons (o := { dst := some 54, op := Go.Op.call { callee := Go.Callee.value (Go.Operand.func 34), args := #[Go.Operand.tmp 40, Go.Operand.tmp 53], argTypes := #[25, 70] }, type := 68, pos := "law.go:100", after := #[{ on := 0, ground := Go.Ground.data }, { on := 13, ground := Go.Ground.data }], guard := none }) rfl (by decide) (fun K hK => ?_) AllReadyL.nil
        go_simp
        refine (answer_any z apex S sn st 1 wx1 (HOKW.out.is.below hHeld.1.out) HOKW.out.canon.keys HOKW.out.sz HOKW.out.szd HOKW.out.canon.non HA1.out HSN.out).mono ?_; rintro e wx2 ⟨⟨v, rfl, hrep⟩, hb⟩
        obtain ⟨a1, n1, c1, a2, n2, c2, a3, n3, c3, rfl, h1, -, h2, -, -, -⟩ := hrep
        obtain ⟨kx, hkx⟩ : ∃ x, (ansF S apex sn st 1).kind = x := ⟨_, rfl⟩
        obtain ⟨rx, hrx⟩ : ∃ x, (ansF S apex sn st 1).rc = x := ⟨_, rfl⟩
        rw [hkx, hrx]
        have HKX := Lib.hid hkx
        have HU1 := Lib.hid h1
        have HU2 := Lib.hid h2
        clear hkx hrx h1 h2
        have HFAR := Lib.hid HC9.out.1
        replace HC9 := Lib.hid (HC9.out.below hb)
        go_wp2_with fail
        refine hK.out _ _ (⟨Lib.hid (hHeld.1.out.trans (hb.mono hHeld.1.out.size)), cell_later4 hb hHeld.2.1, cell_later4 hb hHeld.2.2⟩) (fun hHeld2 => ?_)
        clear hK K hHeld
        have hHeld := hHeld2
        clear hHeld2
        try simp only [Act.put, List.setIfInBounds_toArray, List.set_cons_zero, List.set_cons_succ]
        refine wpAnyL_ready (rs := [16]) (by kernel_rfl) (by simp) ?_
        refine AllReadyL.last (o := { dst := none, op := Go.Op.store 68 (Go.Operand.tmp 9) (Go.Operand.tmp 54), type := 0, pos := "law.go:100", after := #[{ on := 15, ground := Go.Ground.data }, { on := 14, ground := Go.Ground.data }, { on := 14, ground := Go.Ground.chain }, { on := 0, ground := Go.Ground.phase }, { on := 1, ground := Go.Ground.phase }, { on := 2, ground := Go.Ground.phase }, { on := 3, ground := Go.Ground.phase }, { on := 4, ground := Go.Ground.phase }, { on := 5, ground := Go.Ground.phase }, { on := 6, ground := Go.Ground.phase }, { on := 7, ground := Go.Ground.phase }, { on := 8, ground := Go.Ground.phase }, { on := 9, ground := Go.Ground.phase }, { on := 10, ground := Go.Ground.phase }, { on := 11, ground := Go.Ground.phase }, { on := 12, ground := Go.Ground.phase }, { on := 13, ground := Go.Ground.phase }, { on := 14, ground := Go.Ground.phase }, { on := 15, ground := Go.Ground.phase }], guard := none }) rfl (by decide) (fun K hK => ?_) AllReadyL.nil
        have KZ := Lib.hid (HC9.out.s5 (.int .i64 kx) (.int .i64 rx) (.slice a1 n1 c1) (.slice a2 n2 c2) (.slice a3 n3 c3))
        have HGZ := Lib.hid (grown_s5 wx2 q9 (.int .i64 kx) (.int .i64 rx) (.slice a1 n1 c1) (.slice a2 n2 c2) (.slice a3 n3 c3))
        have HBZ := Lib.hid (hHeld.1.out.grown HGZ.out hHeld.1.out.size (fun k hk => by injection hk with hk; rw [← hk]; exact HQ9.out))
        have HU1Z := Lib.hid (HU1.out.far HGZ.out HFAR.out)
        have HU2Z := Lib.hid (HU2.out.far HGZ.out HFAR.out)
        obtain ⟨y0, y1, y2, y3, y4, f0, f1, f2, f3, f4⟩ := HC9.out.u5
        go_wp2_with fail
        refine hK.out _ _ trivial (fun _ => ?_)
        clear hK K
        try simp only [Act.put, List.setIfInBounds_toArray, List.set_cons_zero, List.set_cons_succ]
        refine wpAnyL_done (by kernel_rfl) ?_ _
        obtain ⟨wz, hwz⟩ : ∃ x, (((((wx2.setCell ⟨q9, 0, none⟩ (.int .i64 kx)).setCell ⟨q9, 1, none⟩ (.int .i64 rx)).setCell ⟨q9, 2, none⟩ (.slice a1 n1 c1)).setCell ⟨q9, 3, none⟩ (.slice a2 n2 c2)).setCell ⟨q9, 4, none⟩ (.slice a3 n3 c3)) = x := ⟨_, rfl⟩
        rw [hwz] at KZ HBZ HU1Z HU2Z ⊢
        clear hwz HGZ y0 y1 y2 y3 y4 f0 f1 f2 f3 f4 HC9 HU1 HU2 hHeld
        have c0 := cell_later4 HBZ.out X0.out
        have HOKZ := Lib.hid (HOKW.out.below HBZ.out)
        go_wp2_with fail
        refine (zcut_any z apex sn S wz HOKZ.out.is HOKZ.out.canon.keys HOKZ.out.sz HOKZ.out.canon.non HA1.out HSN.out).mono ?_; rintro e w5 ⟨⟨X, cda, cdc, hX, rfl, hor⟩, hb⟩
        obtain ⟨⟨cn, ct, ck⟩, cu, cd⟩ := X
        replace hor : w5.ownsRow wz.heap.size 9 1 (.slice cda cd.length cdc) cd.length (sc cd) := hor
        obtain ⟨a', c', he, hcr, -⟩ := rowS_of_own hor
        simp only [Value.slice.injEq] at he
        obtain ⟨rfl, -, rfl⟩ := he
        dsimp only
        obtain ⟨cl, hcl⟩ : ∃ x, cd.length = x := ⟨_, rfl⟩
        rw [hcl] at hcr ⊢
        have HCL := Lib.hid hcl
        have hba := (Below.refl w5.heap.size w5).alloc (Nat.le_refl _) (.cells #[.string cn, .int .i64 ct, .int .i64 ck, .int .i64 cu, .slice cda cl cdc] 39)
        have hbb := hb.trans (hba.mono hb.size)
        have hn10 := c5_new w5 (.string cn) (.int .i64 ct) (.int .i64 ck) (.int .i64 cu) (.slice cda cl cdc) 39
        replace hcr := hcr.below hba
        have HXC := Lib.hid hX
        clear hX hcl hor c0 hb hba
        go_upto_region 16 with (fail)
        obtain ⟨w6, hw⟩ : ∃ x, w5.alloc (.cells #[.string cn, .int .i64 ct, .int .i64 ck, .int .i64 cu, .slice cda cl cdc] 39) = x := ⟨_, rfl⟩
        rw [hw] at hbb hn10 hcr ⊢
        obtain ⟨q10, hq⟩ : ∃ x, w5.heap.size = x := ⟨_, rfl⟩
        rw [hq] at hn10 ⊢
        clear hw hq
        have HC10 := Lib.hid hn10
        have HCR := Lib.hid hcr
        replace KZ := Lib.hid (KZ.out.below hbb)
        have hbx := HBZ.out.trans (hbb.mono HBZ.out.size)
        have HB6 := Lib.hid (hbw.out.trans (hbx.mono hbw.out.size))
        have HSRZ := Lib.hid (HSR.out.below hbx)
        have Y0 := Lib.hid (cell_later4 hbx X0.out)
        have Y1 := Lib.hid (cell_later4 hbx X1.out)
        have Y2 := Lib.hid (cell_later4 hbx X2.out)
        have Y3 := Lib.hid (cell_later4 hbx X3.out)
        have Y4 := Lib.hid (cell_later4 hbx X4.out)
        replace HU1Z := Lib.hid (HU1Z.out.below hbb)
        replace HU2Z := Lib.hid (HU2Z.out.below hbb)
        clear hbb hbx hn10 hcr HBZ X0 X1 X2 X3 X4 HOKZ
        rcases HEP.out with ⟨x, hcut, hds, hans⟩ | ⟨hcut, hans⟩
        · have hX := HXC.out
          rw [hcut] at hX ⊢
          obtain rfl : x = ⟨⟨cn, ct, ck⟩, cu, cd⟩ := hX
          replace hans : ansF S apex sn st 1 = _ := hans
          have hkx := HKX.out
          rw [hans] at hkx
          obtain rfl : 3 = kx := hkx
          have HU := Lib.hid (show SetsUp w6 _ a2 n2 [⟨⟨cn, ct, ck⟩, cu, cd⟩] by have h := HU2Z.out; rw [hans] at h; exact h)
          have HCLL := Lib.hid (show cl ≤ 100000 by have h : cd.length ≤ 100000 := (HOKW.out.sz.2 _ (cutP_mem hcut)).2; rw [HCL.out] at h; exact h)
          replace hds : ¬ (cn = sn ∧ st = 43) := hds
          simp only [Option.isSome_some]
          clear hcut hans HKX HU1Z HU2Z HXC HEP
          by_cases hns : cn = sn
          · have hvt : decide (st ∈ [(43 : Int)]) = false := dF (by simpa using fun h => hds ⟨hns, h⟩)
            obtain ⟨vt, hvt2⟩ : ∃ x, decide (st ∈ [(43 : Int)]) = x := ⟨_, rfl⟩
            have HVT := Lib.hid hvt2
            obtain rfl : vt = false := hvt2.symm.trans hvt
            have s1 := strA_eq hns
            clear hns hds hvt hvt2
            have hbd := (Below.refl w6.heap.size w6).drew
            obtain ⟨we, hwe⟩ : ∃ x, w6.drew = x := ⟨_, rfl⟩
            have HBE := Lib.hid (show Below w6.heap.size w6 we by rw [← hwe]; exact hbd)
            clear hbd
            refine wp_region_held_drew (S := (fun wx => Hid (Below w6.heap.size w6 wx) ∧ wx.cell? ⟨b, o + k * 5, none⟩ = some (.string sn) ∧ wx.cell? ⟨b, o + k * 5 + 1, none⟩ = some (.int .i64 st) ∧ wx.cell? ⟨b, o + k * 5 + 2, none⟩ = some (.int .i64 1) ∧ wx.cell? ⟨q10, 0, none⟩ = some (.string cn))) (by kernel_rfl) (by rw [hwe]; exact ⟨HBE, cell_later4 HBE.out Y0.out, cell_later4 HBE.out Y1.out, cell_later4 HBE.out Y2.out, cell_later4 HBE.out HC10.out.2.1⟩) (fun hHeld => ?_)
            rw [hwe] at hHeld ⊢
            clear hwe
            refine wpAnyH_take (i := 0) (oi := { dst := some 88, op := Go.Op.move (Go.Operand.tmp 11), type := 4, pos := "law.go:103", after := #[], guard := none }) (v := ?v0_1001) rfl (by kernel_rfl) (by kernel_rfl) (by kernel_rfl) (fun _ _ _ h => h) (Or.inl ⟨by rfl, ?y0_1001⟩) hHeld ?r0_1001
            case y0_1001 => intro w hSw; (try dsimp only at hSw); go_simp; try with_reducible rfl
            try simp only [Act.put, List.setIfInBounds_toArray, List.set_cons_zero, List.set_cons_succ]
            refine wpAnyH_take (i := 1) (oi := { dst := some 89, op := Go.Op.move (Go.Operand.tmp 88), type := 4, pos := "law.go:103", after := #[{ on := 0, ground := Go.Ground.data }], guard := none }) (v := ?v1_1001) rfl (by kernel_rfl) (by kernel_rfl) (by kernel_rfl) (fun _ _ _ h => h) (Or.inl ⟨by rfl, ?y1_1001⟩) hHeld ?r1_1001
            case y1_1001 => intro w hSw; (try dsimp only at hSw); go_simp; try with_reducible rfl
            try simp only [Act.put, List.setIfInBounds_toArray, List.set_cons_zero, List.set_cons_succ]
            refine wpAnyH_take (i := 2) (oi := { dst := some 90, op := Go.Op.fieldAddr 39 (Go.Operand.tmp 10) 0, type := 0, pos := "law.go:103", after := #[{ on := 1, ground := Go.Ground.guard }], guard := some (1, true) }) (v := ?v2_1001) rfl (by kernel_rfl) (by kernel_rfl) (by kernel_rfl) (fun _ _ _ h => h) (Or.inl ⟨by rfl, ?y2_1001⟩) hHeld ?r2_1001
            case y2_1001 => intro w hSw; (try dsimp only at hSw); go_simp; try with_reducible rfl
            try simp only [Act.put, List.setIfInBounds_toArray, List.set_cons_zero, List.set_cons_succ]
            refine wpAnyH_take (i := 3) (oi := { dst := some 91, op := Go.Op.fieldAddr 36 (Go.Operand.tmp 90) 0, type := 0, pos := "law.go:103", after := #[{ on := 2, ground := Go.Ground.data }, { on := 1, ground := Go.Ground.guard }], guard := some (1, true) }) (v := ?v3_1001) rfl (by kernel_rfl) (by kernel_rfl) (by kernel_rfl) (fun _ _ _ h => h) (Or.inl ⟨by rfl, ?y3_1001⟩) hHeld ?r3_1001
            case y3_1001 => intro w hSw; (try dsimp only at hSw); go_simp; try with_reducible rfl
            try simp only [Act.put, List.setIfInBounds_toArray, List.set_cons_zero, List.set_cons_succ]
            refine wpAnyH_take (i := 4) (oi := { dst := some 92, op := Go.Op.load 9 (Go.Operand.tmp 91), type := 9, pos := "law.go:103", after := #[{ on := 3, ground := Go.Ground.data }, { on := 1, ground := Go.Ground.guard }], guard := some (1, true) }) (v := ?v4_1001) rfl (by kernel_rfl) (by kernel_rfl) (by kernel_rfl) (fun _ _ _ h => h) (Or.inl ⟨by rfl, ?y4_1001⟩) hHeld ?r4_1001
            case y4_1001 => intro w hSw; (try dsimp only at hSw); go_simp; try with_reducible rfl
            try simp only [Act.put, List.setIfInBounds_toArray, List.set_cons_zero, List.set_cons_succ]
            refine wpAnyH_take (i := 5) (oi := { dst := some 93, op := Go.Op.move (Go.Operand.tmp 7), type := 33, pos := "law.go:103", after := #[{ on := 1, ground := Go.Ground.guard }], guard := some (1, true) }) (v := ?v5_1001) rfl (by kernel_rfl) (by kernel_rfl) (by kernel_rfl) (fun _ _ _ h => h) (Or.inl ⟨by rfl, ?y5_1001⟩) hHeld ?r5_1001
            case y5_1001 => intro w hSw; (try dsimp only at hSw); go_simp; try with_reducible rfl
            try simp only [Act.put, List.setIfInBounds_toArray, List.set_cons_zero, List.set_cons_succ]
            refine wpAnyH_take (i := 6) (oi := { dst := some 94, op := Go.Op.move (Go.Operand.tmp 8), type := 3, pos := "law.go:103", after := #[{ on := 1, ground := Go.Ground.guard }], guard := some (1, true) }) (v := ?v6_1001) rfl (by kernel_rfl) (by kernel_rfl) (by kernel_rfl) (fun _ _ _ h => h) (Or.inl ⟨by rfl, ?y6_1001⟩) hHeld ?r6_1001
            case y6_1001 => intro w hSw; (try dsimp only at hSw); go_simp; try with_reducible rfl
            try simp only [Act.put, List.setIfInBounds_toArray, List.set_cons_zero, List.set_cons_succ]
            refine wpAnyH_take (i := 7) (oi := { dst := some 95, op := Go.Op.indexAddr 33 (Go.Operand.tmp 93) (Go.Operand.tmp 94), type := 0, pos := "law.go:103", after := #[{ on := 5, ground := Go.Ground.data }, { on := 6, ground := Go.Ground.data }, { on := 1, ground := Go.Ground.guard }], guard := some (1, true) }) (v := ?v7_1001) rfl (by kernel_rfl) (by kernel_rfl) (by kernel_rfl) (fun _ _ _ h => h) (Or.inl ⟨by rfl, ?y7_1001⟩) hHeld ?r7_1001
            case y7_1001 => intro w hSw; (try dsimp only at hSw); go_simp; try with_reducible rfl
            try simp only [Act.put, List.setIfInBounds_toArray, List.set_cons_zero, List.set_cons_succ]
            refine wpAnyH_take (i := 8) (oi := { dst := some 96, op := Go.Op.fieldAddr 39 (Go.Operand.tmp 95) 0, type := 0, pos := "law.go:103", after := #[{ on := 7, ground := Go.Ground.data }, { on := 1, ground := Go.Ground.guard }], guard := some (1, true) }) (v := ?v8_1001) rfl (by kernel_rfl) (by kernel_rfl) (by kernel_rfl) (fun _ _ _ h => h) (Or.inl ⟨by rfl, ?y8_1001⟩) hHeld ?r8_1001
            case y8_1001 => intro w hSw; (try dsimp only at hSw); go_simp; try with_reducible rfl
            try simp only [Act.put, List.setIfInBounds_toArray, List.set_cons_zero, List.set_cons_succ]
            refine wpAnyH_take (i := 9) (oi := { dst := some 97, op := Go.Op.fieldAddr 36 (Go.Operand.tmp 96) 0, type := 0, pos := "law.go:103", after := #[{ on := 8, ground := Go.Ground.data }, { on := 1, ground := Go.Ground.guard }], guard := some (1, true) }) (v := ?v9_1001) rfl (by kernel_rfl) (by kernel_rfl) (by kernel_rfl) (fun _ _ _ h => h) (Or.inl ⟨by rfl, ?y9_1001⟩) hHeld ?r9_1001
            case y9_1001 => intro w hSw; (try dsimp only at hSw); go_simp; try with_reducible rfl
            try simp only [Act.put, List.setIfInBounds_toArray, List.set_cons_zero, List.set_cons_succ]
            refine wpAnyH_take (i := 10) (oi := { dst := some 98, op := Go.Op.load 9 (Go.Operand.tmp 97), type := 9, pos := "law.go:103", after := #[{ on := 9, ground := Go.Ground.data }, { on := 1, ground := Go.Ground.guard }], guard := some (1, true) }) (v := ?v10_1001) rfl (by kernel_rfl) (by kernel_rfl) (by kernel_rfl) (fun _ _ _ h => h) (Or.inl ⟨by rfl, ?y10_1001⟩) hHeld ?r10_1001
            case y10_1001 => intro w hSw; (try dsimp only at hSw); go_simp; try with_reducible rfl
            try simp only [Act.put, List.setIfInBounds_toArray, List.set_cons_zero, List.set_cons_succ]
            refine wpAnyH_take (i := 11) (oi := { dst := some 99, op := Go.Op.binOp Go.BinOp.neq 9 (Go.Operand.tmp 92) (Go.Operand.tmp 98) 9, type := 4, pos := "law.go:103", after := #[{ on := 4, ground := Go.Ground.data }, { on := 10, ground := Go.Ground.data }, { on := 1, ground := Go.Ground.guard }], guard := some (1, true) }) (v := ?v11_1001) rfl (by kernel_rfl) (by kernel_rfl) (by kernel_rfl) (fun _ _ _ h => h) (Or.inl ⟨by rfl, ?y11_1001⟩) hHeld ?r11_1001
            case y11_1001 => intro w hSw; (try dsimp only at hSw); go_simp; try with_reducible rfl
            try simp only [Act.put, List.setIfInBounds_toArray, List.set_cons_zero, List.set_cons_succ]
            refine wpAnyH_take (i := 12) (oi := { dst := some 100, op := Go.Op.move (Go.Operand.tmp 99), type := 4, pos := "law.go:103", after := #[{ on := 11, ground := Go.Ground.data }, { on := 1, ground := Go.Ground.chain }, { on := 1, ground := Go.Ground.guard }], guard := some (1, true) }) (v := ?v12_1001) rfl (by kernel_rfl) (by kernel_rfl) (by kernel_rfl) (fun _ _ _ h => h) (Or.inl ⟨by rfl, ?y12_1001⟩) hHeld ?r12_1001
            case y12_1001 => intro w hSw; (try dsimp only at hSw); go_simp; try with_reducible rfl
            try simp only [Act.put, List.setIfInBounds_toArray, List.set_cons_zero, List.set_cons_succ]
            refine wpAnyH_take (i := 13) (oi := { dst := some 101, op := Go.Op.move (Go.Operand.tmp 7), type := 33, pos := "law.go:103", after := #[{ on := 12, ground := Go.Ground.guard }], guard := some (12, false) }) (v := ?v13_1001) rfl (by kernel_rfl) (by kernel_rfl) (by kernel_rfl) (fun _ _ _ h => h) (Or.inl ⟨by rfl, ?y13_1001⟩) hHeld ?r13_1001
            case y13_1001 => intro w hSw; (try dsimp only at hSw); go_simp; try with_reducible rfl
            try simp only [Act.put, List.setIfInBounds_toArray, List.set_cons_zero, List.set_cons_succ]
            refine wpAnyH_take (i := 14) (oi := { dst := some 102, op := Go.Op.move (Go.Operand.tmp 8), type := 3, pos := "law.go:103", after := #[{ on := 12, ground := Go.Ground.guard }], guard := some (12, false) }) (v := ?v14_1001) rfl (by kernel_rfl) (by kernel_rfl) (by kernel_rfl) (fun _ _ _ h => h) (Or.inl ⟨by rfl, ?y14_1001⟩) hHeld ?r14_1001
            case y14_1001 => intro w hSw; (try dsimp only at hSw); go_simp; try with_reducible rfl
            try simp only [Act.put, List.setIfInBounds_toArray, List.set_cons_zero, List.set_cons_succ]
            refine wpAnyH_take (i := 15) (oi := { dst := some 103, op := Go.Op.indexAddr 33 (Go.Operand.tmp 101) (Go.Operand.tmp 102), type := 0, pos := "law.go:103", after := #[{ on := 13, ground := Go.Ground.data }, { on := 14, ground := Go.Ground.data }, { on := 12, ground := Go.Ground.guard }], guard := some (12, false) }) (v := ?v15_1001) rfl (by kernel_rfl) (by kernel_rfl) (by kernel_rfl) (fun _ _ _ h => h) (Or.inl ⟨by rfl, ?y15_1001⟩) hHeld ?r15_1001
            case y15_1001 => intro w hSw; (try dsimp only at hSw); go_simp; try with_reducible rfl
            try simp only [Act.put, List.setIfInBounds_toArray, List.set_cons_zero, List.set_cons_succ]
            refine wpAnyH_take (i := 16) (oi := { dst := some 104, op := Go.Op.fieldAddr 39 (Go.Operand.tmp 103) 0, type := 0, pos := "law.go:103", after := #[{ on := 15, ground := Go.Ground.data }, { on := 12, ground := Go.Ground.guard }], guard := some (12, false) }) (v := ?v16_1001) rfl (by kernel_rfl) (by kernel_rfl) (by kernel_rfl) (fun _ _ _ h => h) (Or.inl ⟨by rfl, ?y16_1001⟩) hHeld ?r16_1001
            case y16_1001 => intro w hSw; (try dsimp only at hSw); go_simp; try with_reducible rfl
            try simp only [Act.put, List.setIfInBounds_toArray, List.set_cons_zero, List.set_cons_succ]
            refine wpAnyH_take (i := 17) (oi := { dst := some 105, op := Go.Op.load 36 (Go.Operand.tmp 104), type := 36, pos := "law.go:103", after := #[{ on := 16, ground := Go.Ground.data }, { on := 12, ground := Go.Ground.guard }], guard := some (12, false) }) (v := ?v17_1001) rfl (by kernel_rfl) (by kernel_rfl) (by kernel_rfl) (fun _ _ _ h => h) (Or.inl ⟨by rfl, ?y17_1001⟩) hHeld ?r17_1001
            case y17_1001 => intro w hSw; (try dsimp only at hSw); go_simp; try with_reducible rfl
            try simp only [Act.put, List.setIfInBounds_toArray, List.set_cons_zero, List.set_cons_succ]
            refine wpAnyH_ready (rs := [18]) (by kernel_rfl) (by simp) ?_
            refine AllReadyH.cons (o := { dst := some 106, op := Go.Op.buildSlice 95 1 #[(0, Go.Operand.const (Go.Value.int Go.IntKind.i64 43))], type := 95, pos := "law.go:103", after := #[{ on := 12, ground := Go.Ground.guard }], guard := some (12, false) }) rfl (fun K hK => ?_) AllReadyH.nil
            go_simp
            have hb := (Below.refl _ _ : Below we.heap.size we we).alloc (Nat.le_refl _) (.cells #[.int .i64 43] 3)
            have HL1 := Lib.hid (row_lit1 we 43 3)
            obtain ⟨wf, hwf⟩ : ∃ x, we.alloc (.cells #[.int .i64 43] 3) = x := ⟨_, rfl⟩
            rw [hwf] at hb HL1 ⊢
            obtain ⟨gf, hgf⟩ : ∃ x, we.heap.size = x := ⟨_, rfl⟩
            rw [hgf] at HL1 ⊢
            clear hwf hgf
            refine hK.out _ _ (⟨Lib.hid (hHeld.1.out.trans (hb.mono hHeld.1.out.size)), cell_later4 hb hHeld.2.1, cell_later4 hb hHeld.2.2.1, cell_later4 hb hHeld.2.2.2.1, cell_later4 hb hHeld.2.2.2.2⟩) (fun hHeld2 => ?_)
            clear hK K hHeld
            have hHeld := hHeld2
            clear hHeld2
            try simp only [Act.put, List.setIfInBounds_toArray, List.set_cons_zero, List.set_cons_succ]
            refine wpAnyH_ready (rs := [19]) (by kernel_rfl) (by simp) ?_
            refine AllReadyH.cons (o := { dst := some 107, op := Go.Op.call { callee := Go.Callee.value (Go.Operand.func 28), args := #[Go.Operand.tmp 105, Go.Operand.tmp 106], argTypes := #[36, 95] }, type := 4, pos := "law.go:103", after := #[{ on := 17, ground := Go.Ground.data }, { on := 18, ground := Go.Ground.data }, { on := 12, ground := Go.Ground.chain }, { on := 12, ground := Go.Ground.guard }], guard := some (12, false) }) rfl (fun K hK => ?_) AllReadyH.nil
            go_simp
            refine (isK ⟨sn, st, 1⟩ (some ⟨gf, 0, none⟩) 1 1 [43] wf HL1.out (by omega)).mono ?_; rintro e wg ⟨rfl, hb⟩
            rw [show decide ((⟨sn, st, 1⟩ : Ky).t ∈ [(43 : Int)]) = false from HVT.out]
            go_wp2_with fail
            refine hK.out _ _ (⟨Lib.hid (hHeld.1.out.trans (hb.mono hHeld.1.out.size)), cell_later4 hb hHeld.2.1, cell_later4 hb hHeld.2.2.1, cell_later4 hb hHeld.2.2.2.1, cell_later4 hb hHeld.2.2.2.2⟩) (fun hHeld2 => ?_)
            clear hK K hHeld
            have hHeld := hHeld2
            clear hHeld2
            try simp only [Act.put, List.setIfInBounds_toArray, List.set_cons_zero, List.set_cons_succ]
            refine wpAnyH_take (i := 20) (oi := { dst := some 108, op := Go.Op.unOp Go.UnOp.not 4 (Go.Operand.tmp 107), type := 4, pos := "law.go:103", after := #[{ on := 19, ground := Go.Ground.data }, { on := 12, ground := Go.Ground.guard }], guard := some (12, false) }) (v := ?v20_1003) rfl (by kernel_rfl) (by kernel_rfl) (by kernel_rfl) (fun _ _ _ h => h) (Or.inl ⟨by rfl, ?y20_1003⟩) hHeld ?r20_1003
            case y20_1003 => intro w hSw; (try dsimp only at hSw); go_simp; try with_reducible rfl
            try simp only [Act.put, List.setIfInBounds_toArray, List.set_cons_zero, List.set_cons_succ]
            refine wpAnyH_take (i := 21) (oi := { dst := some 109, op := Go.Op.pick (Go.Operand.tmp 100) (Go.Operand.const (Go.Value.bool true)) (Go.Operand.tmp 108), type := 4, pos := "law.go:103", after := #[{ on := 12, ground := Go.Ground.data }, { on := 20, ground := Go.Ground.data }, { on := 1, ground := Go.Ground.guard }], guard := some (1, true) }) (v := ?v21_1003) rfl (by kernel_rfl) (by kernel_rfl) (by kernel_rfl) (fun _ _ _ h => h) (Or.inl ⟨by rfl, ?y21_1003⟩) hHeld ?r21_1003
            case y21_1003 => intro w hSw; (try dsimp only at hSw); go_simp; try with_reducible rfl
            try simp only [Act.put, List.setIfInBounds_toArray, List.set_cons_zero, List.set_cons_succ]
            refine wpAnyH_take (i := 22) (oi := { dst := some 110, op := Go.Op.pick (Go.Operand.tmp 89) (Go.Operand.tmp 109) (Go.Operand.const (Go.Value.bool false)), type := 4, pos := "law.go:103", after := #[{ on := 1, ground := Go.Ground.data }, { on := 21, ground := Go.Ground.data }], guard := none }) (v := ?v22_1003) rfl (by kernel_rfl) (by kernel_rfl) (by kernel_rfl) (fun _ _ _ h => h) (Or.inl ⟨by rfl, ?y22_1003⟩) hHeld ?r22_1003
            case y22_1003 => intro w hSw; (try dsimp only at hSw); go_simp; try with_reducible rfl
            try simp only [Act.put, List.setIfInBounds_toArray, List.set_cons_zero, List.set_cons_succ]
            refine wpAnyH_take (i := 23) (oi := { dst := some 87, op := Go.Op.assign (Go.Operand.tmp 110), type := 4, pos := "law.go:103", after := #[{ on := 22, ground := Go.Ground.data }, { on := 19, ground := Go.Ground.chain }], guard := none }) (v := ?v23_1003) rfl (by kernel_rfl) (by kernel_rfl) (by kernel_rfl) (fun _ _ _ h => h) (Or.inl ⟨by rfl, ?y23_1003⟩) hHeld ?r23_1003
            case y23_1003 => intro w hSw; (try dsimp only at hSw); go_simp; try with_reducible rfl
            try simp only [Act.put, List.setIfInBounds_toArray, List.set_cons_zero, List.set_cons_succ]
            refine wpAnyH_done (by kernel_rfl) ?_ _
            have hbe := hHeld.1.out
            clear hHeld
            clear s1
            have HBE2 := Lib.hid hbe
            clear hbe
            replace Y0 := Lib.hid (cell_later4 HBE2.out Y0.out)
            replace Y1 := Lib.hid (cell_later4 HBE2.out Y1.out)
            replace Y2 := Lib.hid (cell_later4 HBE2.out Y2.out)
            replace Y3 := Lib.hid (cell_later4 HBE2.out Y3.out)
            replace Y4 := Lib.hid (cell_later4 HBE2.out Y4.out)
            replace HC10 := Lib.hid (HC10.out.below HBE2.out)
            replace KZ := Lib.hid (KZ.out.below HBE2.out)
            replace HCR := Lib.hid (HCR.out.below HBE2.out)
            replace HSRZ := Lib.hid (HSRZ.out.below HBE2.out)
            replace HU := Lib.hid (HU.out.below HBE2.out)
            replace HB6 := Lib.hid (HB6.out.trans (HBE2.out.mono HB6.out.size))
            clear HBE2
            go_upto_region 17 with (fail)
            obtain ⟨w6, hw6⟩ : ∃ x, wg = x := ⟨_, rfl⟩
            rw [hw6] at Y0 Y1 Y2 Y3 Y4 HC10 KZ HCR HSRZ HU HB6 ⊢
            clear hw6
            obtain ⟨rfl, b9, o9, p9, c9, rfl, z0, z1, z2, z3, z4, hzr, -⟩ := at_full HU.out.at
            replace hzr : RowS w6 p9 cd.length cd := hzr
            replace z4 : w6.cell? ⟨b9, o9 + 4, none⟩ = some (.slice p9 cd.length c9) := z4
            rw [show cd.length = cl from HCR.out.1] at hzr z4
            have HZR := Lib.hid hzr
            have Z0 := Lib.hid (show w6.cell? ⟨b9, o9, none⟩ = some (.string cn) from z0)
            have Z1 := Lib.hid (show w6.cell? ⟨b9, o9 + 1, none⟩ = some (.int .i64 ct) from z1)
            have Z2 := Lib.hid (show w6.cell? ⟨b9, o9 + 2, none⟩ = some (.int .i64 ck) from z2)
            have Z3 := Lib.hid (show w6.cell? ⟨b9, o9 + 3, none⟩ = some (.int .i64 cu) from z3)
            have Z4 := Lib.hid z4
            clear z0 z1 z2 z3 z4 hzr
            have HSAME := Lib.hid (fun wx (hx : Below w6.heap.size w6 wx) => same_selfE cn ct ck cu cd p9 cda cl c9 cdc wx (HZR.out.below hx) (HCR.out.below hx) HCLL.out)
            have hbd := (Below.refl w6.heap.size w6).drew
            obtain ⟨we, hwe⟩ : ∃ x, w6.drew = x := ⟨_, rfl⟩
            have HBE := Lib.hid (show Below w6.heap.size w6 we by rw [← hwe]; exact hbd)
            clear hbd
            refine wp_region_held_drew (S := (fun wx => Hid (Below w6.heap.size w6 wx) ∧ wx.cell? ⟨q9, 0, none⟩ = some (.int .i64 3) ∧ wx.cell? ⟨q9, 3, none⟩ = some (.slice (some ⟨b9, o9, none⟩) 1 c2) ∧ wx.cell? ⟨b9, o9, none⟩ = some (.string cn) ∧ wx.cell? ⟨b9, o9 + 1, none⟩ = some (.int .i64 ct) ∧ wx.cell? ⟨b9, o9 + 2, none⟩ = some (.int .i64 ck) ∧ wx.cell? ⟨b9, o9 + 3, none⟩ = some (.int .i64 cu) ∧ wx.cell? ⟨b9, o9 + 4, none⟩ = some (.slice p9 cl c9) ∧ wx.cell? ⟨q10, 0, none⟩ = some (.string cn) ∧ wx.cell? ⟨q10, 1, none⟩ = some (.int .i64 ct) ∧ wx.cell? ⟨q10, 2, none⟩ = some (.int .i64 ck) ∧ wx.cell? ⟨q10, 3, none⟩ = some (.int .i64 cu) ∧ wx.cell? ⟨q10, 4, none⟩ = some (.slice cda cl cdc))) (by kernel_rfl) (by rw [hwe]; exact ⟨HBE, cell_later4 HBE.out KZ.out.u5.1, cell_later4 HBE.out KZ.out.u5.2.2.2.1, cell_later4 HBE.out Z0.out, cell_later4 HBE.out Z1.out, cell_later4 HBE.out Z2.out, cell_later4 HBE.out Z3.out, cell_later4 HBE.out Z4.out, cell_later4 HBE.out HC10.out.2.1, cell_later4 HBE.out HC10.out.2.2.1, cell_later4 HBE.out HC10.out.2.2.2.1, cell_later4 HBE.out HC10.out.2.2.2.2.1, cell_later4 HBE.out HC10.out.2.2.2.2.2.1⟩) (fun hHeld => ?_)
            rw [hwe] at hHeld ⊢
            clear hwe
            refine wpAnyH_take (i := 0) (oi := { dst := some 111, op := Go.Op.fieldAddr 68 (Go.Operand.tmp 9) 0, type := 0, pos := "law.go:104", after := #[], guard := none }) (v := ?v0_1101) rfl (by kernel_rfl) (by kernel_rfl) (by kernel_rfl) (fun _ _ _ h => h) (Or.inl ⟨by rfl, ?y0_1101⟩) hHeld ?r0_1101
            case y0_1101 => intro w hSw; (try dsimp only at hSw); go_simp; try with_reducible rfl
            try simp only [Act.put, List.setIfInBounds_toArray, List.set_cons_zero, List.set_cons_succ]
            refine wpAnyH_take (i := 1) (oi := { dst := some 112, op := Go.Op.load 3 (Go.Operand.tmp 111), type := 3, pos := "law.go:104", after := #[{ on := 0, ground := Go.Ground.data }], guard := none }) (v := ?v1_1101) rfl (by kernel_rfl) (by kernel_rfl) (by kernel_rfl) (fun _ _ _ h => h) (Or.inl ⟨by rfl, ?y1_1101⟩) hHeld ?r1_1101
            case y1_1101 => intro w hSw; (try dsimp only at hSw); go_simp; try with_reducible rfl
            try simp only [Act.put, List.setIfInBounds_toArray, List.set_cons_zero, List.set_cons_succ]
            refine wpAnyH_take (i := 2) (oi := { dst := some 113, op := Go.Op.binOp Go.BinOp.neq 3 (Go.Operand.tmp 112) (Go.Operand.const (Go.Value.int Go.IntKind.i64 3)) 3, type := 4, pos := "law.go:104", after := #[{ on := 1, ground := Go.Ground.data }], guard := none }) (v := ?v2_1101) rfl (by kernel_rfl) (by kernel_rfl) (by kernel_rfl) (fun _ _ _ h => h) (Or.inl ⟨by rfl, ?y2_1101⟩) hHeld ?r2_1101
            case y2_1101 => intro w hSw; (try dsimp only at hSw); go_simp; try with_reducible rfl
            try simp only [Act.put, List.setIfInBounds_toArray, List.set_cons_zero, List.set_cons_succ]
            refine wpAnyH_take (i := 3) (oi := { dst := some 114, op := Go.Op.move (Go.Operand.tmp 113), type := 4, pos := "law.go:104", after := #[{ on := 2, ground := Go.Ground.data }], guard := none }) (v := ?v3_1101) rfl (by kernel_rfl) (by kernel_rfl) (by kernel_rfl) (fun _ _ _ h => h) (Or.inl ⟨by rfl, ?y3_1101⟩) hHeld ?r3_1101
            case y3_1101 => intro w hSw; (try dsimp only at hSw); go_simp; try with_reducible rfl
            try simp only [Act.put, List.setIfInBounds_toArray, List.set_cons_zero, List.set_cons_succ]
            refine wpAnyH_take (i := 4) (oi := { dst := some 115, op := Go.Op.fieldAddr 68 (Go.Operand.tmp 9) 3, type := 0, pos := "law.go:104", after := #[{ on := 3, ground := Go.Ground.guard }], guard := some (3, false) }) (v := ?v4_1101) rfl (by kernel_rfl) (by kernel_rfl) (by kernel_rfl) (fun _ _ _ h => h) (Or.inl ⟨by rfl, ?y4_1101⟩) hHeld ?r4_1101
            case y4_1101 => intro w hSw; (try dsimp only at hSw); go_simp; try with_reducible rfl
            try simp only [Act.put, List.setIfInBounds_toArray, List.set_cons_zero, List.set_cons_succ]
            refine wpAnyH_take (i := 5) (oi := { dst := some 116, op := Go.Op.load 33 (Go.Operand.tmp 115), type := 33, pos := "law.go:104", after := #[{ on := 4, ground := Go.Ground.data }, { on := 3, ground := Go.Ground.guard }], guard := some (3, false) }) (v := ?v5_1101) rfl (by kernel_rfl) (by kernel_rfl) (by kernel_rfl) (fun _ _ _ h => h) (Or.inl ⟨by rfl, ?y5_1101⟩) hHeld ?r5_1101
            case y5_1101 => intro w hSw; (try dsimp only at hSw); go_simp; try with_reducible rfl
            try simp only [Act.put, List.setIfInBounds_toArray, List.set_cons_zero, List.set_cons_succ]
            refine wpAnyH_take (i := 6) (oi := { dst := some 117, op := Go.Op.call { callee := Go.Callee.builtin Go.Builtin.len, args := #[Go.Operand.tmp 116], argTypes := #[33] }, type := 3, pos := "law.go:104", after := #[{ on := 5, ground := Go.Ground.data }, { on := 3, ground := Go.Ground.guard }], guard := some (3, false) }) (v := ?v6_1101) rfl (by kernel_rfl) (by kernel_rfl) (by kernel_rfl) (fun _ _ _ h => h) (Or.inl ⟨by rfl, ?y6_1101⟩) hHeld ?r6_1101
            case y6_1101 => intro w hSw; (try dsimp only at hSw); go_simp; try with_reducible rfl
            try simp only [Act.put, List.setIfInBounds_toArray, List.set_cons_zero, List.set_cons_succ]
            refine wpAnyH_take (i := 7) (oi := { dst := some 118, op := Go.Op.binOp Go.BinOp.neq 3 (Go.Operand.tmp 117) (Go.Operand.const (Go.Value.int Go.IntKind.i64 1)) 3, type := 4, pos := "law.go:104", after := #[{ on := 6, ground := Go.Ground.data }, { on := 3, ground := Go.Ground.guard }], guard := some (3, false) }) (v := ?v7_1101) rfl (by kernel_rfl) (by kernel_rfl) (by kernel_rfl) (fun _ _ _ h => h) (Or.inl ⟨by rfl, ?y7_1101⟩) hHeld ?r7_1101
            case y7_1101 => intro w hSw; (try dsimp only at hSw); go_simp; try with_reducible rfl
            try simp only [Act.put, List.setIfInBounds_toArray, List.set_cons_zero, List.set_cons_succ]
            refine wpAnyH_take (i := 8) (oi := { dst := some 119, op := Go.Op.pick (Go.Operand.tmp 114) (Go.Operand.const (Go.Value.bool true)) (Go.Operand.tmp 118), type := 4, pos := "law.go:104", after := #[{ on := 3, ground := Go.Ground.data }, { on := 7, ground := Go.Ground.data }], guard := none }) (v := ?v8_1101) rfl (by kernel_rfl) (by kernel_rfl) (by kernel_rfl) (fun _ _ _ h => h) (Or.inl ⟨by rfl, ?y8_1101⟩) hHeld ?r8_1101
            case y8_1101 => intro w hSw; (try dsimp only at hSw); go_simp; try with_reducible rfl
            try simp only [Act.put, List.setIfInBounds_toArray, List.set_cons_zero, List.set_cons_succ]
            refine wpAnyH_take (i := 9) (oi := { dst := some 120, op := Go.Op.move (Go.Operand.tmp 119), type := 4, pos := "law.go:104", after := #[{ on := 8, ground := Go.Ground.data }, { on := 3, ground := Go.Ground.chain }], guard := none }) (v := ?v9_1101) rfl (by kernel_rfl) (by kernel_rfl) (by kernel_rfl) (fun _ _ _ h => h) (Or.inl ⟨by rfl, ?y9_1101⟩) hHeld ?r9_1101
            case y9_1101 => intro w hSw; (try dsimp only at hSw); go_simp; try with_reducible rfl
            try simp only [Act.put, List.setIfInBounds_toArray, List.set_cons_zero, List.set_cons_succ]
            refine wpAnyH_take (i := 10) (oi := { dst := some 121, op := Go.Op.fieldAddr 68 (Go.Operand.tmp 9) 3, type := 0, pos := "law.go:104", after := #[{ on := 9, ground := Go.Ground.guard }], guard := some (9, false) }) (v := ?v10_1101) rfl (by kernel_rfl) (by kernel_rfl) (by kernel_rfl) (fun _ _ _ h => h) (Or.inl ⟨by rfl, ?y10_1101⟩) hHeld ?r10_1101
            case y10_1101 => intro w hSw; (try dsimp only at hSw); go_simp; try with_reducible rfl
            try simp only [Act.put, List.setIfInBounds_toArray, List.set_cons_zero, List.set_cons_succ]
            refine wpAnyH_take (i := 11) (oi := { dst := some 122, op := Go.Op.load 33 (Go.Operand.tmp 121), type := 33, pos := "law.go:104", after := #[{ on := 10, ground := Go.Ground.data }, { on := 9, ground := Go.Ground.guard }], guard := some (9, false) }) (v := ?v11_1101) rfl (by kernel_rfl) (by kernel_rfl) (by kernel_rfl) (fun _ _ _ h => h) (Or.inl ⟨by rfl, ?y11_1101⟩) hHeld ?r11_1101
            case y11_1101 => intro w hSw; (try dsimp only at hSw); go_simp; try with_reducible rfl
            try simp only [Act.put, List.setIfInBounds_toArray, List.set_cons_zero, List.set_cons_succ]
            refine wpAnyH_take (i := 12) (oi := { dst := some 123, op := Go.Op.indexAddr 33 (Go.Operand.tmp 122) (Go.Operand.const (Go.Value.int Go.IntKind.i64 0)), type := 0, pos := "law.go:104", after := #[{ on := 11, ground := Go.Ground.data }, { on := 9, ground := Go.Ground.guard }], guard := some (9, false) }) (v := ?v12_1101) rfl (by kernel_rfl) (by kernel_rfl) (by kernel_rfl) (fun _ _ _ h => h) (Or.inl ⟨by rfl, ?y12_1101⟩) hHeld ?r12_1101
            case y12_1101 => intro w hSw; (try dsimp only at hSw); go_simp; try with_reducible rfl
            try simp only [Act.put, List.setIfInBounds_toArray, List.set_cons_zero, List.set_cons_succ]
            refine wpAnyH_take (i := 13) (oi := { dst := some 124, op := Go.Op.load 39 (Go.Operand.tmp 123), type := 39, pos := "law.go:104", after := #[{ on := 12, ground := Go.Ground.data }, { on := 9, ground := Go.Ground.guard }], guard := some (9, false) }) (v := ?v13_1101) rfl (by kernel_rfl) (by kernel_rfl) (by kernel_rfl) (fun _ _ _ h => h) (Or.inl ⟨by rfl, ?y13_1101⟩) hHeld ?r13_1101
            case y13_1101 => intro w hSw; (try dsimp only at hSw); go_simp; try with_reducible rfl
            try simp only [Act.put, List.setIfInBounds_toArray, List.set_cons_zero, List.set_cons_succ]
            refine wpAnyH_take (i := 14) (oi := { dst := some 125, op := Go.Op.load 39 (Go.Operand.tmp 10), type := 39, pos := "law.go:104", after := #[{ on := 9, ground := Go.Ground.guard }], guard := some (9, false) }) (v := ?v14_1101) rfl (by kernel_rfl) (by kernel_rfl) (by kernel_rfl) (fun _ _ _ h => h) (Or.inl ⟨by rfl, ?y14_1101⟩) hHeld ?r14_1101
            case y14_1101 => intro w hSw; (try dsimp only at hSw); go_simp; try with_reducible rfl
            try simp only [Act.put, List.setIfInBounds_toArray, List.set_cons_zero, List.set_cons_succ]
            refine wpAnyH_ready (rs := [15]) (by kernel_rfl) (by simp) ?_
            refine AllReadyH.cons (o := { dst := some 126, op := Go.Op.call { callee := Go.Callee.value (Go.Operand.func 31), args := #[Go.Operand.tmp 124, Go.Operand.tmp 125], argTypes := #[39, 39] }, type := 4, pos := "law.go:104", after := #[{ on := 13, ground := Go.Ground.data }, { on := 14, ground := Go.Ground.data }, { on := 9, ground := Go.Ground.chain }, { on := 9, ground := Go.Ground.guard }], guard := some (9, false) }) rfl (fun K hK => ?_) AllReadyH.nil
            go_simp
            refine (HSAME.out _ hHeld.1.out).mono ?_; rintro e wg ⟨rfl, hb⟩
            go_wp2_with fail
            refine hK.out _ _ (⟨Lib.hid (hHeld.1.out.trans (hb.mono hHeld.1.out.size)), cell_later4 hb hHeld.2.1, cell_later4 hb hHeld.2.2.1, cell_later4 hb hHeld.2.2.2.1, cell_later4 hb hHeld.2.2.2.2.1, cell_later4 hb hHeld.2.2.2.2.2.1, cell_later4 hb hHeld.2.2.2.2.2.2.1, cell_later4 hb hHeld.2.2.2.2.2.2.2.1, cell_later4 hb hHeld.2.2.2.2.2.2.2.2.1, cell_later4 hb hHeld.2.2.2.2.2.2.2.2.2.1, cell_later4 hb hHeld.2.2.2.2.2.2.2.2.2.2.1, cell_later4 hb hHeld.2.2.2.2.2.2.2.2.2.2.2.1, cell_later4 hb hHeld.2.2.2.2.2.2.2.2.2.2.2.2⟩) (fun hHeld2 => ?_)
            clear hK K hHeld
            have hHeld := hHeld2
            clear hHeld2
            try simp only [Act.put, List.setIfInBounds_toArray, List.set_cons_zero, List.set_cons_succ]
            refine wpAnyH_take (i := 16) (oi := { dst := some 127, op := Go.Op.unOp Go.UnOp.not 4 (Go.Operand.tmp 126), type := 4, pos := "law.go:104", after := #[{ on := 15, ground := Go.Ground.data }, { on := 9, ground := Go.Ground.guard }], guard := some (9, false) }) (v := ?v16_1102) rfl (by kernel_rfl) (by kernel_rfl) (by kernel_rfl) (fun _ _ _ h => h) (Or.inl ⟨by rfl, ?y16_1102⟩) hHeld ?r16_1102
            case y16_1102 => intro w hSw; (try dsimp only at hSw); go_simp; try with_reducible rfl
            try simp only [Act.put, List.setIfInBounds_toArray, List.set_cons_zero, List.set_cons_succ]
            refine wpAnyH_take (i := 17) (oi := { dst := some 128, op := Go.Op.pick (Go.Operand.tmp 120) (Go.Operand.const (Go.Value.bool true)) (Go.Operand.tmp 127), type := 4, pos := "law.go:104", after := #[{ on := 9, ground := Go.Ground.data }, { on := 16, ground := Go.Ground.data }], guard := none }) (v := ?v17_1102) rfl (by kernel_rfl) (by kernel_rfl) (by kernel_rfl) (fun _ _ _ h => h) (Or.inl ⟨by rfl, ?y17_1102⟩) hHeld ?r17_1102
            case y17_1102 => intro w hSw; (try dsimp only at hSw); go_simp; try with_reducible rfl
            try simp only [Act.put, List.setIfInBounds_toArray, List.set_cons_zero, List.set_cons_succ]
            refine wpAnyH_done (by kernel_rfl) ?_ _
            have hbe := hHeld.1.out
            clear hHeld
            have HBN := Lib.hid (HB6.out.trans (hbe.mono HB6.out.size))
            clear hbe
            go_wp2
            go_roundw
            case rel => exact ⟨k + 1, by have := HLT.out; omega, by have := HLT.out; go_num, HBN⟩
            case measure => have := HLT.out; simp [intOf]; omega
          · have s1 := strA_ne hns
            clear hns hds
            have hbd := (Below.refl w6.heap.size w6).drew
            obtain ⟨we, hwe⟩ : ∃ x, w6.drew = x := ⟨_, rfl⟩
            have HBE := Lib.hid (show Below w6.heap.size w6 we by rw [← hwe]; exact hbd)
            clear hbd
            refine wp_region_held_drew (S := (fun wx => Hid (Below w6.heap.size w6 wx) ∧ wx.cell? ⟨b, o + k * 5, none⟩ = some (.string sn) ∧ wx.cell? ⟨b, o + k * 5 + 1, none⟩ = some (.int .i64 st) ∧ wx.cell? ⟨b, o + k * 5 + 2, none⟩ = some (.int .i64 1) ∧ wx.cell? ⟨q10, 0, none⟩ = some (.string cn))) (by kernel_rfl) (by rw [hwe]; exact ⟨HBE, cell_later4 HBE.out Y0.out, cell_later4 HBE.out Y1.out, cell_later4 HBE.out Y2.out, cell_later4 HBE.out HC10.out.2.1⟩) (fun hHeld => ?_)
            rw [hwe] at hHeld ⊢
            clear hwe
            refine wpAnyH_take (i := 0) (oi := { dst := some 88, op := Go.Op.move (Go.Operand.tmp 11), type := 4, pos := "law.go:103", after := #[], guard := none }) (v := ?v0_1201) rfl (by kernel_rfl) (by kernel_rfl) (by kernel_rfl) (fun _ _ _ h => h) (Or.inl ⟨by rfl, ?y0_1201⟩) hHeld ?r0_1201
            case y0_1201 => intro w hSw; (try dsimp only at hSw); go_simp; try with_reducible rfl
            try simp only [Act.put, List.setIfInBounds_toArray, List.set_cons_zero, List.set_cons_succ]
            refine wpAnyH_take (i := 1) (oi := { dst := some 89, op := Go.Op.move (Go.Operand.tmp 88), type := 4, pos := "law.go:103", after := #[{ on := 0, ground := Go.Ground.data }], guard := none }) (v := ?v1_1201) rfl (by kernel_rfl) (by kernel_rfl) (by kernel_rfl) (fun _ _ _ h => h) (Or.inl ⟨by rfl, ?y1_1201⟩) hHeld ?r1_1201
            case y1_1201 => intro w hSw; (try dsimp only at hSw); go_simp; try with_reducible rfl
            try simp only [Act.put, List.setIfInBounds_toArray, List.set_cons_zero, List.set_cons_succ]
            refine wpAnyH_take (i := 2) (oi := { dst := some 90, op := Go.Op.fieldAddr 39 (Go.Operand.tmp 10) 0, type := 0, pos := "law.go:103", after := #[{ on := 1, ground := Go.Ground.guard }], guard := some (1, true) }) (v := ?v2_1201) rfl (by kernel_rfl) (by kernel_rfl) (by kernel_rfl) (fun _ _ _ h => h) (Or.inl ⟨by rfl, ?y2_1201⟩) hHeld ?r2_1201
            case y2_1201 => intro w hSw; (try dsimp only at hSw); go_simp; try with_reducible rfl
            try simp only [Act.put, List.setIfInBounds_toArray, List.set_cons_zero, List.set_cons_succ]
            refine wpAnyH_take (i := 3) (oi := { dst := some 91, op := Go.Op.fieldAddr 36 (Go.Operand.tmp 90) 0, type := 0, pos := "law.go:103", after := #[{ on := 2, ground := Go.Ground.data }, { on := 1, ground := Go.Ground.guard }], guard := some (1, true) }) (v := ?v3_1201) rfl (by kernel_rfl) (by kernel_rfl) (by kernel_rfl) (fun _ _ _ h => h) (Or.inl ⟨by rfl, ?y3_1201⟩) hHeld ?r3_1201
            case y3_1201 => intro w hSw; (try dsimp only at hSw); go_simp; try with_reducible rfl
            try simp only [Act.put, List.setIfInBounds_toArray, List.set_cons_zero, List.set_cons_succ]
            refine wpAnyH_take (i := 4) (oi := { dst := some 92, op := Go.Op.load 9 (Go.Operand.tmp 91), type := 9, pos := "law.go:103", after := #[{ on := 3, ground := Go.Ground.data }, { on := 1, ground := Go.Ground.guard }], guard := some (1, true) }) (v := ?v4_1201) rfl (by kernel_rfl) (by kernel_rfl) (by kernel_rfl) (fun _ _ _ h => h) (Or.inl ⟨by rfl, ?y4_1201⟩) hHeld ?r4_1201
            case y4_1201 => intro w hSw; (try dsimp only at hSw); go_simp; try with_reducible rfl
            try simp only [Act.put, List.setIfInBounds_toArray, List.set_cons_zero, List.set_cons_succ]
            refine wpAnyH_take (i := 5) (oi := { dst := some 93, op := Go.Op.move (Go.Operand.tmp 7), type := 33, pos := "law.go:103", after := #[{ on := 1, ground := Go.Ground.guard }], guard := some (1, true) }) (v := ?v5_1201) rfl (by kernel_rfl) (by kernel_rfl) (by kernel_rfl) (fun _ _ _ h => h) (Or.inl ⟨by rfl, ?y5_1201⟩) hHeld ?r5_1201
            case y5_1201 => intro w hSw; (try dsimp only at hSw); go_simp; try with_reducible rfl
            try simp only [Act.put, List.setIfInBounds_toArray, List.set_cons_zero, List.set_cons_succ]
            refine wpAnyH_take (i := 6) (oi := { dst := some 94, op := Go.Op.move (Go.Operand.tmp 8), type := 3, pos := "law.go:103", after := #[{ on := 1, ground := Go.Ground.guard }], guard := some (1, true) }) (v := ?v6_1201) rfl (by kernel_rfl) (by kernel_rfl) (by kernel_rfl) (fun _ _ _ h => h) (Or.inl ⟨by rfl, ?y6_1201⟩) hHeld ?r6_1201
            case y6_1201 => intro w hSw; (try dsimp only at hSw); go_simp; try with_reducible rfl
            try simp only [Act.put, List.setIfInBounds_toArray, List.set_cons_zero, List.set_cons_succ]
            refine wpAnyH_take (i := 7) (oi := { dst := some 95, op := Go.Op.indexAddr 33 (Go.Operand.tmp 93) (Go.Operand.tmp 94), type := 0, pos := "law.go:103", after := #[{ on := 5, ground := Go.Ground.data }, { on := 6, ground := Go.Ground.data }, { on := 1, ground := Go.Ground.guard }], guard := some (1, true) }) (v := ?v7_1201) rfl (by kernel_rfl) (by kernel_rfl) (by kernel_rfl) (fun _ _ _ h => h) (Or.inl ⟨by rfl, ?y7_1201⟩) hHeld ?r7_1201
            case y7_1201 => intro w hSw; (try dsimp only at hSw); go_simp; try with_reducible rfl
            try simp only [Act.put, List.setIfInBounds_toArray, List.set_cons_zero, List.set_cons_succ]
            refine wpAnyH_take (i := 8) (oi := { dst := some 96, op := Go.Op.fieldAddr 39 (Go.Operand.tmp 95) 0, type := 0, pos := "law.go:103", after := #[{ on := 7, ground := Go.Ground.data }, { on := 1, ground := Go.Ground.guard }], guard := some (1, true) }) (v := ?v8_1201) rfl (by kernel_rfl) (by kernel_rfl) (by kernel_rfl) (fun _ _ _ h => h) (Or.inl ⟨by rfl, ?y8_1201⟩) hHeld ?r8_1201
            case y8_1201 => intro w hSw; (try dsimp only at hSw); go_simp; try with_reducible rfl
            try simp only [Act.put, List.setIfInBounds_toArray, List.set_cons_zero, List.set_cons_succ]
            refine wpAnyH_take (i := 9) (oi := { dst := some 97, op := Go.Op.fieldAddr 36 (Go.Operand.tmp 96) 0, type := 0, pos := "law.go:103", after := #[{ on := 8, ground := Go.Ground.data }, { on := 1, ground := Go.Ground.guard }], guard := some (1, true) }) (v := ?v9_1201) rfl (by kernel_rfl) (by kernel_rfl) (by kernel_rfl) (fun _ _ _ h => h) (Or.inl ⟨by rfl, ?y9_1201⟩) hHeld ?r9_1201
            case y9_1201 => intro w hSw; (try dsimp only at hSw); go_simp; try with_reducible rfl
            try simp only [Act.put, List.setIfInBounds_toArray, List.set_cons_zero, List.set_cons_succ]
            refine wpAnyH_take (i := 10) (oi := { dst := some 98, op := Go.Op.load 9 (Go.Operand.tmp 97), type := 9, pos := "law.go:103", after := #[{ on := 9, ground := Go.Ground.data }, { on := 1, ground := Go.Ground.guard }], guard := some (1, true) }) (v := ?v10_1201) rfl (by kernel_rfl) (by kernel_rfl) (by kernel_rfl) (fun _ _ _ h => h) (Or.inl ⟨by rfl, ?y10_1201⟩) hHeld ?r10_1201
            case y10_1201 => intro w hSw; (try dsimp only at hSw); go_simp; try with_reducible rfl
            try simp only [Act.put, List.setIfInBounds_toArray, List.set_cons_zero, List.set_cons_succ]
            refine wpAnyH_take (i := 11) (oi := { dst := some 99, op := Go.Op.binOp Go.BinOp.neq 9 (Go.Operand.tmp 92) (Go.Operand.tmp 98) 9, type := 4, pos := "law.go:103", after := #[{ on := 4, ground := Go.Ground.data }, { on := 10, ground := Go.Ground.data }, { on := 1, ground := Go.Ground.guard }], guard := some (1, true) }) (v := ?v11_1201) rfl (by kernel_rfl) (by kernel_rfl) (by kernel_rfl) (fun _ _ _ h => h) (Or.inl ⟨by rfl, ?y11_1201⟩) hHeld ?r11_1201
            case y11_1201 => intro w hSw; (try dsimp only at hSw); go_simp; try with_reducible rfl
            try simp only [Act.put, List.setIfInBounds_toArray, List.set_cons_zero, List.set_cons_succ]
            refine wpAnyH_take (i := 12) (oi := { dst := some 100, op := Go.Op.move (Go.Operand.tmp 99), type := 4, pos := "law.go:103", after := #[{ on := 11, ground := Go.Ground.data }, { on := 1, ground := Go.Ground.chain }, { on := 1, ground := Go.Ground.guard }], guard := some (1, true) }) (v := ?v12_1201) rfl (by kernel_rfl) (by kernel_rfl) (by kernel_rfl) (fun _ _ _ h => h) (Or.inl ⟨by rfl, ?y12_1201⟩) hHeld ?r12_1201
            case y12_1201 => intro w hSw; (try dsimp only at hSw); go_simp; try with_reducible rfl
            try simp only [Act.put, List.setIfInBounds_toArray, List.set_cons_zero, List.set_cons_succ]
            refine wpAnyH_take (i := 13) (oi := { dst := some 101, op := Go.Op.move (Go.Operand.tmp 7), type := 33, pos := "law.go:103", after := #[{ on := 12, ground := Go.Ground.guard }], guard := some (12, false) }) (v := undef) rfl (by kernel_rfl) (by kernel_rfl) (by kernel_rfl) (fun _ _ _ h => h) (Or.inr ⟨by rfl, rfl⟩) hHeld ?_
            try simp only [Act.put, List.setIfInBounds_toArray, List.set_cons_zero, List.set_cons_succ]
            refine wpAnyH_take (i := 14) (oi := { dst := some 102, op := Go.Op.move (Go.Operand.tmp 8), type := 3, pos := "law.go:103", after := #[{ on := 12, ground := Go.Ground.guard }], guard := some (12, false) }) (v := undef) rfl (by kernel_rfl) (by kernel_rfl) (by kernel_rfl) (fun _ _ _ h => h) (Or.inr ⟨by rfl, rfl⟩) hHeld ?_
            try simp only [Act.put, List.setIfInBounds_toArray, List.set_cons_zero, List.set_cons_succ]
            refine wpAnyH_take (i := 15) (oi := { dst := some 103, op := Go.Op.indexAddr 33 (Go.Operand.tmp 101) (Go.Operand.tmp 102), type := 0, pos := "law.go:103", after := #[{ on := 13, ground := Go.Ground.data }, { on := 14, ground := Go.Ground.data }, { on := 12, ground := Go.Ground.guard }], guard := some (12, false) }) (v := undef) rfl (by kernel_rfl) (by kernel_rfl) (by kernel_rfl) (fun _ _ _ h => h) (Or.inr ⟨by rfl, rfl⟩) hHeld ?_
            try simp only [Act.put, List.setIfInBounds_toArray, List.set_cons_zero, List.set_cons_succ]
            refine wpAnyH_take (i := 16) (oi := { dst := some 104, op := Go.Op.fieldAddr 39 (Go.Operand.tmp 103) 0, type := 0, pos := "law.go:103", after := #[{ on := 15, ground := Go.Ground.data }, { on := 12, ground := Go.Ground.guard }], guard := some (12, false) }) (v := undef) rfl (by kernel_rfl) (by kernel_rfl) (by kernel_rfl) (fun _ _ _ h => h) (Or.inr ⟨by rfl, rfl⟩) hHeld ?_
            try simp only [Act.put, List.setIfInBounds_toArray, List.set_cons_zero, List.set_cons_succ]
            refine wpAnyH_take (i := 17) (oi := { dst := some 105, op := Go.Op.load 36 (Go.Operand.tmp 104), type := 36, pos := "law.go:103", after := #[{ on := 16, ground := Go.Ground.data }, { on := 12, ground := Go.Ground.guard }], guard := some (12, false) }) (v := undef) rfl (by kernel_rfl) (by kernel_rfl) (by kernel_rfl) (fun _ _ _ h => h) (Or.inr ⟨by rfl, rfl⟩) hHeld ?_
            try simp only [Act.put, List.setIfInBounds_toArray, List.set_cons_zero, List.set_cons_succ]
            refine wpAnyH_take (i := 18) (oi := { dst := some 106, op := Go.Op.buildSlice 95 1 #[(0, Go.Operand.const (Go.Value.int Go.IntKind.i64 43))], type := 95, pos := "law.go:103", after := #[{ on := 12, ground := Go.Ground.guard }], guard := some (12, false) }) (v := undef) rfl (by kernel_rfl) (by kernel_rfl) (by kernel_rfl) (fun _ _ _ h => h) (Or.inr ⟨by rfl, rfl⟩) hHeld ?_
            try simp only [Act.put, List.setIfInBounds_toArray, List.set_cons_zero, List.set_cons_succ]
            refine wpAnyH_take (i := 19) (oi := { dst := some 107, op := Go.Op.call { callee := Go.Callee.value (Go.Operand.func 28), args := #[Go.Operand.tmp 105, Go.Operand.tmp 106], argTypes := #[36, 95] }, type := 4, pos := "law.go:103", after := #[{ on := 17, ground := Go.Ground.data }, { on := 18, ground := Go.Ground.data }, { on := 12, ground := Go.Ground.chain }, { on := 12, ground := Go.Ground.guard }], guard := some (12, false) }) (v := undef) rfl (by kernel_rfl) (by kernel_rfl) (by kernel_rfl) (fun _ _ _ h => h) (Or.inr ⟨by rfl, rfl⟩) hHeld ?_
            try simp only [Act.put, List.setIfInBounds_toArray, List.set_cons_zero, List.set_cons_succ]
            refine wpAnyH_take (i := 20) (oi := { dst := some 108, op := Go.Op.unOp Go.UnOp.not 4 (Go.Operand.tmp 107), type := 4, pos := "law.go:103", after := #[{ on := 19, ground := Go.Ground.data }, { on := 12, ground := Go.Ground.guard }], guard := some (12, false) }) (v := undef) rfl (by kernel_rfl) (by kernel_rfl) (by kernel_rfl) (fun _ _ _ h => h) (Or.inr ⟨by rfl, rfl⟩) hHeld ?_
            try simp only [Act.put, List.setIfInBounds_toArray, List.set_cons_zero, List.set_cons_succ]
            refine wpAnyH_take (i := 21) (oi := { dst := some 109, op := Go.Op.pick (Go.Operand.tmp 100) (Go.Operand.const (Go.Value.bool true)) (Go.Operand.tmp 108), type := 4, pos := "law.go:103", after := #[{ on := 12, ground := Go.Ground.data }, { on := 20, ground := Go.Ground.data }, { on := 1, ground := Go.Ground.guard }], guard := some (1, true) }) (v := ?v21_1201) rfl (by kernel_rfl) (by kernel_rfl) (by kernel_rfl) (fun _ _ _ h => h) (Or.inl ⟨by rfl, ?y21_1201⟩) hHeld ?r21_1201
            case y21_1201 => intro w hSw; (try dsimp only at hSw); go_simp; try with_reducible rfl
            try simp only [Act.put, List.setIfInBounds_toArray, List.set_cons_zero, List.set_cons_succ]
            refine wpAnyH_take (i := 22) (oi := { dst := some 110, op := Go.Op.pick (Go.Operand.tmp 89) (Go.Operand.tmp 109) (Go.Operand.const (Go.Value.bool false)), type := 4, pos := "law.go:103", after := #[{ on := 1, ground := Go.Ground.data }, { on := 21, ground := Go.Ground.data }], guard := none }) (v := ?v22_1201) rfl (by kernel_rfl) (by kernel_rfl) (by kernel_rfl) (fun _ _ _ h => h) (Or.inl ⟨by rfl, ?y22_1201⟩) hHeld ?r22_1201
            case y22_1201 => intro w hSw; (try dsimp only at hSw); go_simp; try with_reducible rfl
            try simp only [Act.put, List.setIfInBounds_toArray, List.set_cons_zero, List.set_cons_succ]
            refine wpAnyH_take (i := 23) (oi := { dst := some 87, op := Go.Op.assign (Go.Operand.tmp 110), type := 4, pos := "law.go:103", after := #[{ on := 22, ground := Go.Ground.data }, { on := 19, ground := Go.Ground.chain }], guard := none }) (v := ?v23_1201) rfl (by kernel_rfl) (by kernel_rfl) (by kernel_rfl) (fun _ _ _ h => h) (Or.inl ⟨by rfl, ?y23_1201⟩) hHeld ?r23_1201
            case y23_1201 => intro w hSw; (try dsimp only at hSw); go_simp; try with_reducible rfl
            try simp only [Act.put, List.setIfInBounds_toArray, List.set_cons_zero, List.set_cons_succ]
            refine wpAnyH_done (by kernel_rfl) ?_ _
            have hbe := hHeld.1.out
            clear hHeld
            clear s1
            have HBE2 := Lib.hid hbe
            clear hbe
            replace Y0 := Lib.hid (cell_later4 HBE2.out Y0.out)
            replace Y1 := Lib.hid (cell_later4 HBE2.out Y1.out)
            replace Y2 := Lib.hid (cell_later4 HBE2.out Y2.out)
            replace Y3 := Lib.hid (cell_later4 HBE2.out Y3.out)
            replace Y4 := Lib.hid (cell_later4 HBE2.out Y4.out)
            replace HC10 := Lib.hid (HC10.out.below HBE2.out)
            replace KZ := Lib.hid (KZ.out.below HBE2.out)
            replace HCR := Lib.hid (HCR.out.below HBE2.out)
            replace HSRZ := Lib.hid (HSRZ.out.below HBE2.out)
            replace HU := Lib.hid (HU.out.below HBE2.out)
            replace HB6 := Lib.hid (HB6.out.trans (HBE2.out.mono HB6.out.size))
            clear HBE2
            go_upto_region 17 with (fail)
            obtain ⟨w6, hw6⟩ : ∃ x, we = x := ⟨_, rfl⟩
            rw [hw6] at Y0 Y1 Y2 Y3 Y4 HC10 KZ HCR HSRZ HU HB6 ⊢
            clear hw6
            obtain ⟨rfl, b9, o9, p9, c9, rfl, z0, z1, z2, z3, z4, hzr, -⟩ := at_full HU.out.at
            replace hzr : RowS w6 p9 cd.length cd := hzr
            replace z4 : w6.cell? ⟨b9, o9 + 4, none⟩ = some (.slice p9 cd.length c9) := z4
            rw [show cd.length = cl from HCR.out.1] at hzr z4
            have HZR := Lib.hid hzr
            have Z0 := Lib.hid (show w6.cell? ⟨b9, o9, none⟩ = some (.string cn) from z0)
            have Z1 := Lib.hid (show w6.cell? ⟨b9, o9 + 1, none⟩ = some (.int .i64 ct) from z1)
            have Z2 := Lib.hid (show w6.cell? ⟨b9, o9 + 2, none⟩ = some (.int .i64 ck) from z2)
            have Z3 := Lib.hid (show w6.cell? ⟨b9, o9 + 3, none⟩ = some (.int .i64 cu) from z3)
            have Z4 := Lib.hid z4
            clear z0 z1 z2 z3 z4 hzr
            have HSAME := Lib.hid (fun wx (hx : Below w6.heap.size w6 wx) => same_selfE cn ct ck cu cd p9 cda cl c9 cdc wx (HZR.out.below hx) (HCR.out.below hx) HCLL.out)
            have hbd := (Below.refl w6.heap.size w6).drew
            obtain ⟨we, hwe⟩ : ∃ x, w6.drew = x := ⟨_, rfl⟩
            have HBE := Lib.hid (show Below w6.heap.size w6 we by rw [← hwe]; exact hbd)
            clear hbd
            refine wp_region_held_drew (S := (fun wx => Hid (Below w6.heap.size w6 wx) ∧ wx.cell? ⟨q9, 0, none⟩ = some (.int .i64 3) ∧ wx.cell? ⟨q9, 3, none⟩ = some (.slice (some ⟨b9, o9, none⟩) 1 c2) ∧ wx.cell? ⟨b9, o9, none⟩ = some (.string cn) ∧ wx.cell? ⟨b9, o9 + 1, none⟩ = some (.int .i64 ct) ∧ wx.cell? ⟨b9, o9 + 2, none⟩ = some (.int .i64 ck) ∧ wx.cell? ⟨b9, o9 + 3, none⟩ = some (.int .i64 cu) ∧ wx.cell? ⟨b9, o9 + 4, none⟩ = some (.slice p9 cl c9) ∧ wx.cell? ⟨q10, 0, none⟩ = some (.string cn) ∧ wx.cell? ⟨q10, 1, none⟩ = some (.int .i64 ct) ∧ wx.cell? ⟨q10, 2, none⟩ = some (.int .i64 ck) ∧ wx.cell? ⟨q10, 3, none⟩ = some (.int .i64 cu) ∧ wx.cell? ⟨q10, 4, none⟩ = some (.slice cda cl cdc))) (by kernel_rfl) (by rw [hwe]; exact ⟨HBE, cell_later4 HBE.out KZ.out.u5.1, cell_later4 HBE.out KZ.out.u5.2.2.2.1, cell_later4 HBE.out Z0.out, cell_later4 HBE.out Z1.out, cell_later4 HBE.out Z2.out, cell_later4 HBE.out Z3.out, cell_later4 HBE.out Z4.out, cell_later4 HBE.out HC10.out.2.1, cell_later4 HBE.out HC10.out.2.2.1, cell_later4 HBE.out HC10.out.2.2.2.1, cell_later4 HBE.out HC10.out.2.2.2.2.1, cell_later4 HBE.out HC10.out.2.2.2.2.2.1⟩) (fun hHeld => ?_)
            rw [hwe] at hHeld ⊢
            clear hwe
            refine wpAnyH_take (i := 0) (oi := { dst := some 111, op := Go.Op.fieldAddr 68 (Go.Operand.tmp 9) 0, type := 0, pos := "law.go:104", after := #[], guard := none }) (v := ?v0_1301) rfl (by kernel_rfl) (by kernel_rfl) (by kernel_rfl) (fun _ _ _ h => h) (Or.inl ⟨by rfl, ?y0_1301⟩) hHeld ?r0_1301
            case y0_1301 => intro w hSw; (try dsimp only at hSw); go_simp; try with_reducible rfl
            try simp only [Act.put, List.setIfInBounds_toArray, List.set_cons_zero, List.set_cons_succ]
            refine wpAnyH_take (i := 1) (oi := { dst := some 112, op := Go.Op.load 3 (Go.Operand.tmp 111), type := 3, pos := "law.go:104", after := #[{ on := 0, ground := Go.Ground.data }], guard := none }) (v := ?v1_1301) rfl (by kernel_rfl) (by kernel_rfl) (by kernel_rfl) (fun _ _ _ h => h) (Or.inl ⟨by rfl, ?y1_1301⟩) hHeld ?r1_1301
            case y1_1301 => intro w hSw; (try dsimp only at hSw); go_simp; try with_reducible rfl
            try simp only [Act.put, List.setIfInBounds_toArray, List.set_cons_zero, List.set_cons_succ]
            refine wpAnyH_take (i := 2) (oi := { dst := some 113, op := Go.Op.binOp Go.BinOp.neq 3 (Go.Operand.tmp 112) (Go.Operand.const (Go.Value.int Go.IntKind.i64 3)) 3, type := 4, pos := "law.go:104", after := #[{ on := 1, ground := Go.Ground.data }], guard := none }) (v := ?v2_1301) rfl (by kernel_rfl) (by kernel_rfl) (by kernel_rfl) (fun _ _ _ h => h) (Or.inl ⟨by rfl, ?y2_1301⟩) hHeld ?r2_1301
            case y2_1301 => intro w hSw; (try dsimp only at hSw); go_simp; try with_reducible rfl
            try simp only [Act.put, List.setIfInBounds_toArray, List.set_cons_zero, List.set_cons_succ]
            refine wpAnyH_take (i := 3) (oi := { dst := some 114, op := Go.Op.move (Go.Operand.tmp 113), type := 4, pos := "law.go:104", after := #[{ on := 2, ground := Go.Ground.data }], guard := none }) (v := ?v3_1301) rfl (by kernel_rfl) (by kernel_rfl) (by kernel_rfl) (fun _ _ _ h => h) (Or.inl ⟨by rfl, ?y3_1301⟩) hHeld ?r3_1301
            case y3_1301 => intro w hSw; (try dsimp only at hSw); go_simp; try with_reducible rfl
            try simp only [Act.put, List.setIfInBounds_toArray, List.set_cons_zero, List.set_cons_succ]
            refine wpAnyH_take (i := 4) (oi := { dst := some 115, op := Go.Op.fieldAddr 68 (Go.Operand.tmp 9) 3, type := 0, pos := "law.go:104", after := #[{ on := 3, ground := Go.Ground.guard }], guard := some (3, false) }) (v := ?v4_1301) rfl (by kernel_rfl) (by kernel_rfl) (by kernel_rfl) (fun _ _ _ h => h) (Or.inl ⟨by rfl, ?y4_1301⟩) hHeld ?r4_1301
            case y4_1301 => intro w hSw; (try dsimp only at hSw); go_simp; try with_reducible rfl
            try simp only [Act.put, List.setIfInBounds_toArray, List.set_cons_zero, List.set_cons_succ]
            refine wpAnyH_take (i := 5) (oi := { dst := some 116, op := Go.Op.load 33 (Go.Operand.tmp 115), type := 33, pos := "law.go:104", after := #[{ on := 4, ground := Go.Ground.data }, { on := 3, ground := Go.Ground.guard }], guard := some (3, false) }) (v := ?v5_1301) rfl (by kernel_rfl) (by kernel_rfl) (by kernel_rfl) (fun _ _ _ h => h) (Or.inl ⟨by rfl, ?y5_1301⟩) hHeld ?r5_1301
            case y5_1301 => intro w hSw; (try dsimp only at hSw); go_simp; try with_reducible rfl
            try simp only [Act.put, List.setIfInBounds_toArray, List.set_cons_zero, List.set_cons_succ]
            refine wpAnyH_take (i := 6) (oi := { dst := some 117, op := Go.Op.call { callee := Go.Callee.builtin Go.Builtin.len, args := #[Go.Operand.tmp 116], argTypes := #[33] }, type := 3, pos := "law.go:104", after := #[{ on := 5, ground := Go.Ground.data }, { on := 3, ground := Go.Ground.guard }], guard := some (3, false) }) (v := ?v6_1301) rfl (by kernel_rfl) (by kernel_rfl) (by kernel_rfl) (fun _ _ _ h => h) (Or.inl ⟨by rfl, ?y6_1301⟩) hHeld ?r6_1301
            case y6_1301 => intro w hSw; (try dsimp only at hSw); go_simp; try with_reducible rfl
            try simp only [Act.put, List.setIfInBounds_toArray, List.set_cons_zero, List.set_cons_succ]
            refine wpAnyH_take (i := 7) (oi := { dst := some 118, op := Go.Op.binOp Go.BinOp.neq 3 (Go.Operand.tmp 117) (Go.Operand.const (Go.Value.int Go.IntKind.i64 1)) 3, type := 4, pos := "law.go:104", after := #[{ on := 6, ground := Go.Ground.data }, { on := 3, ground := Go.Ground.guard }], guard := some (3, false) }) (v := ?v7_1301) rfl (by kernel_rfl) (by kernel_rfl) (by kernel_rfl) (fun _ _ _ h => h) (Or.inl ⟨by rfl, ?y7_1301⟩) hHeld ?r7_1301
            case y7_1301 => intro w hSw; (try dsimp only at hSw); go_simp; try with_reducible rfl
            try simp only [Act.put, List.setIfInBounds_toArray, List.set_cons_zero, List.set_cons_succ]
            refine wpAnyH_take (i := 8) (oi := { dst := some 119, op := Go.Op.pick (Go.Operand.tmp 114) (Go.Operand.const (Go.Value.bool true)) (Go.Operand.tmp 118), type := 4, pos := "law.go:104", after := #[{ on := 3, ground := Go.Ground.data }, { on := 7, ground := Go.Ground.data }], guard := none }) (v := ?v8_1301) rfl (by kernel_rfl) (by kernel_rfl) (by kernel_rfl) (fun _ _ _ h => h) (Or.inl ⟨by rfl, ?y8_1301⟩) hHeld ?r8_1301
            case y8_1301 => intro w hSw; (try dsimp only at hSw); go_simp; try with_reducible rfl
            try simp only [Act.put, List.setIfInBounds_toArray, List.set_cons_zero, List.set_cons_succ]
            refine wpAnyH_take (i := 9) (oi := { dst := some 120, op := Go.Op.move (Go.Operand.tmp 119), type := 4, pos := "law.go:104", after := #[{ on := 8, ground := Go.Ground.data }, { on := 3, ground := Go.Ground.chain }], guard := none }) (v := ?v9_1301) rfl (by kernel_rfl) (by kernel_rfl) (by kernel_rfl) (fun _ _ _ h => h) (Or.inl ⟨by rfl, ?y9_1301⟩) hHeld ?r9_1301
            case y9_1301 => intro w hSw; (try dsimp only at hSw); go_simp; try with_reducible rfl
            try simp only [Act.put, List.setIfInBounds_toArray, List.set_cons_zero, List.set_cons_succ]
            refine wpAnyH_take (i := 10) (oi := { dst := some 121, op := Go.Op.fieldAddr 68 (Go.Operand.tmp 9) 3, type := 0, pos := "law.go:104", after := #[{ on := 9, ground := Go.Ground.guard }], guard := some (9, false) }) (v := ?v10_1301) rfl (by kernel_rfl) (by kernel_rfl) (by kernel_rfl) (fun _ _ _ h => h) (Or.inl ⟨by rfl, ?y10_1301⟩) hHeld ?r10_1301
            case y10_1301 => intro w hSw; (try dsimp only at hSw); go_simp; try with_reducible rfl
            try simp only [Act.put, List.setIfInBounds_toArray, List.set_cons_zero, List.set_cons_succ]
            refine wpAnyH_take (i := 11) (oi := { dst := some 122, op := Go.Op.load 33 (Go.Operand.tmp 121), type := 33, pos := "law.go:104", after := #[{ on := 10, ground := Go.Ground.data }, { on := 9, ground := Go.Ground.guard }], guard := some (9, false) }) (v := ?v11_1301) rfl (by kernel_rfl) (by kernel_rfl) (by kernel_rfl) (fun _ _ _ h => h) (Or.inl ⟨by rfl, ?y11_1301⟩) hHeld ?r11_1301
            case y11_1301 => intro w hSw; (try dsimp only at hSw); go_simp; try with_reducible rfl
            try simp only [Act.put, List.setIfInBounds_toArray, List.set_cons_zero, List.set_cons_succ]
            refine wpAnyH_take (i := 12) (oi := { dst := some 123, op := Go.Op.indexAddr 33 (Go.Operand.tmp 122) (Go.Operand.const (Go.Value.int Go.IntKind.i64 0)), type := 0, pos := "law.go:104", after := #[{ on := 11, ground := Go.Ground.data }, { on := 9, ground := Go.Ground.guard }], guard := some (9, false) }) (v := ?v12_1301) rfl (by kernel_rfl) (by kernel_rfl) (by kernel_rfl) (fun _ _ _ h => h) (Or.inl ⟨by rfl, ?y12_1301⟩) hHeld ?r12_1301
            case y12_1301 => intro w hSw; (try dsimp only at hSw); go_simp; try with_reducible rfl
            try simp only [Act.put, List.setIfInBounds_toArray, List.set_cons_zero, List.set_cons_succ]
            refine wpAnyH_take (i := 13) (oi := { dst := some 124, op := Go.Op.load 39 (Go.Operand.tmp 123), type := 39, pos := "law.go:104", after := #[{ on := 12, ground := Go.Ground.data }, { on := 9, ground := Go.Ground.guard }], guard := some (9, false) }) (v := ?v13_1301) rfl (by kernel_rfl) (by kernel_rfl) (by kernel_rfl) (fun _ _ _ h => h) (Or.inl ⟨by rfl, ?y13_1301⟩) hHeld ?r13_1301
            case y13_1301 => intro w hSw; (try dsimp only at hSw); go_simp; try with_reducible rfl
            try simp only [Act.put, List.setIfInBounds_toArray, List.set_cons_zero, List.set_cons_succ]
            refine wpAnyH_take (i := 14) (oi := { dst := some 125, op := Go.Op.load 39 (Go.Operand.tmp 10), type := 39, pos := "law.go:104", after := #[{ on := 9, ground := Go.Ground.guard }], guard := some (9, false) }) (v := ?v14_1301) rfl (by kernel_rfl) (by kernel_rfl) (by kernel_rfl) (fun _ _ _ h => h) (Or.inl ⟨by rfl, ?y14_1301⟩) hHeld ?r14_1301
            case y14_1301 => intro w hSw; (try dsimp only at hSw); go_simp; try with_reducible rfl
            try simp only [Act.put, List.setIfInBounds_toArray, List.set_cons_zero, List.set_cons_succ]
            refine wpAnyH_ready (rs := [15]) (by kernel_rfl) (by simp) ?_
            refine AllReadyH.cons (o := { dst := some 126, op := Go.Op.call { callee := Go.Callee.value (Go.Operand.func 31), args := #[Go.Operand.tmp 124, Go.Operand.tmp 125], argTypes := #[39, 39] }, type := 4, pos := "law.go:104", after := #[{ on := 13, ground := Go.Ground.data }, { on := 14, ground := Go.Ground.data }, { on := 9, ground := Go.Ground.chain }, { on := 9, ground := Go.Ground.guard }], guard := some (9, false) }) rfl (fun K hK => ?_) AllReadyH.nil
            go_simp
            refine (HSAME.out _ hHeld.1.out).mono ?_; rintro e wg ⟨rfl, hb⟩
            go_wp2_with fail
            refine hK.out _ _ (⟨Lib.hid (hHeld.1.out.trans (hb.mono hHeld.1.out.size)), cell_later4 hb hHeld.2.1, cell_later4 hb hHeld.2.2.1, cell_later4 hb hHeld.2.2.2.1, cell_later4 hb hHeld.2.2.2.2.1, cell_later4 hb hHeld.2.2.2.2.2.1, cell_later4 hb hHeld.2.2.2.2.2.2.1, cell_later4 hb hHeld.2.2.2.2.2.2.2.1, cell_later4 hb hHeld.2.2.2.2.2.2.2.2.1, cell_later4 hb hHeld.2.2.2.2.2.2.2.2.2.1, cell_later4 hb hHeld.2.2.2.2.2.2.2.2.2.2.1, cell_later4 hb hHeld.2.2.2.2.2.2.2.2.2.2.2.1, cell_later4 hb hHeld.2.2.2.2.2.2.2.2.2.2.2.2⟩) (fun hHeld2 => ?_)
            clear hK K hHeld
            have hHeld := hHeld2
            clear hHeld2
            try simp only [Act.put, List.setIfInBounds_toArray, List.set_cons_zero, List.set_cons_succ]
            refine wpAnyH_take (i := 16) (oi := { dst := some 127, op := Go.Op.unOp Go.UnOp.not 4 (Go.Operand.tmp 126), type := 4, pos := "law.go:104", after := #[{ on := 15, ground := Go.Ground.data }, { on := 9, ground := Go.Ground.guard }], guard := some (9, false) }) (v := ?v16_1302) rfl (by kernel_rfl) (by kernel_rfl) (by kernel_rfl) (fun _ _ _ h => h) (Or.inl ⟨by rfl, ?y16_1302⟩) hHeld ?r16_1302
            case y16_1302 => intro w hSw; (try dsimp only at hSw); go_simp; try with_reducible rfl
            try simp only [Act.put, List.setIfInBounds_toArray, List.set_cons_zero, List.set_cons_succ]
            refine wpAnyH_take (i := 17) (oi := { dst := some 128, op := Go.Op.pick (Go.Operand.tmp 120) (Go.Operand.const (Go.Value.bool true)) (Go.Operand.tmp 127), type := 4, pos := "law.go:104", after := #[{ on := 9, ground := Go.Ground.data }, { on := 16, ground := Go.Ground.data }], guard := none }) (v := ?v17_1302) rfl (by kernel_rfl) (by kernel_rfl) (by kernel_rfl) (fun _ _ _ h => h) (Or.inl ⟨by rfl, ?y17_1302⟩) hHeld ?r17_1302
            case y17_1302 => intro w hSw; (try dsimp only at hSw); go_simp; try with_reducible rfl
            try simp only [Act.put, List.setIfInBounds_toArray, List.set_cons_zero, List.set_cons_succ]
            refine wpAnyH_done (by kernel_rfl) ?_ _
            have hbe := hHeld.1.out
            clear hHeld
            have HBN := Lib.hid (HB6.out.trans (hbe.mono HB6.out.size))
            clear hbe
            go_wp2
            go_roundw
            case rel => exact ⟨k + 1, by have := HLT.out; omega, by have := HLT.out; go_num, HBN⟩
            case measure => have := HLT.out; simp [intOf]; omega
        · replace hans : ansF S apex sn st 1 = _ := hans
          have hkx := HKX.out
          rw [hans] at hkx
          obtain rfl : 1 = kx := hkx
          have HU := Lib.hid (show SetsUp w6 _ a1 n1 [⟨⟨sn, st, 1⟩, su, sd⟩] by have h := HU1Z.out; rw [hans] at h; exact h)
          clear hans HKX HU1Z HU2Z HEP
          rcases hcut with hcut | ⟨x, hcut, hns, hst⟩
          · replace hcut : cutP S apex sn = none := hcut
            rw [hcut]
            simp only [Option.isSome_none]
            clear hcut HXC
            have hbd := (Below.refl w6.heap.size w6).drew
            obtain ⟨we, hwe⟩ : ∃ x, w6.drew = x := ⟨_, rfl⟩
            have HBE := Lib.hid (show Below w6.heap.size w6 we by rw [← hwe]; exact hbd)
            clear hbd
            refine wp_region_held_drew (S := (fun wx => Hid (Below w6.heap.size w6 wx) ∧ wx.cell? ⟨b, o + k * 5, none⟩ = some (.string sn) ∧ wx.cell? ⟨b, o + k * 5 + 1, none⟩ = some (.int .i64 st) ∧ wx.cell? ⟨b, o + k * 5 + 2, none⟩ = some (.int .i64 1) ∧ wx.cell? ⟨q10, 0, none⟩ = some (.string cn))) (by kernel_rfl) (by rw [hwe]; exact ⟨HBE, cell_later4 HBE.out Y0.out, cell_later4 HBE.out Y1.out, cell_later4 HBE.out Y2.out, cell_later4 HBE.out HC10.out.2.1⟩) (fun hHeld => ?_)
            rw [hwe] at hHeld ⊢
            clear hwe
            refine wpAnyH_take (i := 0) (oi := { dst := some 88, op := Go.Op.move (Go.Operand.tmp 11), type := 4, pos := "law.go:103", after := #[], guard := none }) (v := ?v0_1401) rfl (by kernel_rfl) (by kernel_rfl) (by kernel_rfl) (fun _ _ _ h => h) (Or.inl ⟨by rfl, ?y0_1401⟩) hHeld ?r0_1401
            case y0_1401 => intro w hSw; (try dsimp only at hSw); go_simp; try with_reducible rfl
            try simp only [Act.put, List.setIfInBounds_toArray, List.set_cons_zero, List.set_cons_succ]
            refine wpAnyH_take (i := 1) (oi := { dst := some 89, op := Go.Op.move (Go.Operand.tmp 88), type := 4, pos := "law.go:103", after := #[{ on := 0, ground := Go.Ground.data }], guard := none }) (v := ?v1_1401) rfl (by kernel_rfl) (by kernel_rfl) (by kernel_rfl) (fun _ _ _ h => h) (Or.inl ⟨by rfl, ?y1_1401⟩) hHeld ?r1_1401
            case y1_1401 => intro w hSw; (try dsimp only at hSw); go_simp; try with_reducible rfl
            try simp only [Act.put, List.setIfInBounds_toArray, List.set_cons_zero, List.set_cons_succ]
            refine wpAnyH_take (i := 2) (oi := { dst := some 90, op := Go.Op.fieldAddr 39 (Go.Operand.tmp 10) 0, type := 0, pos := "law.go:103", after := #[{ on := 1, ground := Go.Ground.guard }], guard := some (1, true) }) (v := undef) rfl (by kernel_rfl) (by kernel_rfl) (by kernel_rfl) (fun _ _ _ h => h) (Or.inr ⟨by rfl, rfl⟩) hHeld ?_
            try simp only [Act.put, List.setIfInBounds_toArray, List.set_cons_zero, List.set_cons_succ]
            refine wpAnyH_take (i := 3) (oi := { dst := some 91, op := Go.Op.fieldAddr 36 (Go.Operand.tmp 90) 0, type := 0, pos := "law.go:103", after := #[{ on := 2, ground := Go.Ground.data }, { on := 1, ground := Go.Ground.guard }], guard := some (1, true) }) (v := undef) rfl (by kernel_rfl) (by kernel_rfl) (by kernel_rfl) (fun _ _ _ h => h) (Or.inr ⟨by rfl, rfl⟩) hHeld ?_
            try simp only [Act.put, List.setIfInBounds_toArray, List.set_cons_zero, List.set_cons_succ]
            refine wpAnyH_take (i := 4) (oi := { dst := some 92, op := Go.Op.load 9 (Go.Operand.tmp 91), type := 9, pos := "law.go:103", after := #[{ on := 3, ground := Go.Ground.data }, { on := 1, ground := Go.Ground.guard }], guard := some (1, true) }) (v := undef) rfl (by kernel_rfl) (by kernel_rfl) (by kernel_rfl) (fun _ _ _ h => h) (Or.inr ⟨by rfl, rfl⟩) hHeld ?_
            try simp only [Act.put, List.setIfInBounds_toArray, List.set_cons_zero, List.set_cons_succ]
            refine wpAnyH_take (i := 5) (oi := { dst := some 93, op := Go.Op.move (Go.Operand.tmp 7), type := 33, pos := "law.go:103", after := #[{ on := 1, ground := Go.Ground.guard }], guard := some (1, true) }) (v := undef) rfl (by kernel_rfl) (by kernel_rfl) (by kernel_rfl) (fun _ _ _ h => h) (Or.inr ⟨by rfl, rfl⟩) hHeld ?_
            try simp only [Act.put, List.setIfInBounds_toArray, List.set_cons_zero, List.set_cons_succ]
            refine wpAnyH_take (i := 6) (oi := { dst := some 94, op := Go.Op.move (Go.Operand.tmp 8), type := 3, pos := "law.go:103", after := #[{ on := 1, ground := Go.Ground.guard }], guard := some (1, true) }) (v := undef) rfl (by kernel_rfl) (by kernel_rfl) (by kernel_rfl) (fun _ _ _ h => h) (Or.inr ⟨by rfl, rfl⟩) hHeld ?_
            try simp only [Act.put, List.setIfInBounds_toArray, List.set_cons_zero, List.set_cons_succ]
            refine wpAnyH_take (i := 7) (oi := { dst := some 95, op := Go.Op.indexAddr 33 (Go.Operand.tmp 93) (Go.Operand.tmp 94), type := 0, pos := "law.go:103", after := #[{ on := 5, ground := Go.Ground.data }, { on := 6, ground := Go.Ground.data }, { on := 1, ground := Go.Ground.guard }], guard := some (1, true) }) (v := undef) rfl (by kernel_rfl) (by kernel_rfl) (by kernel_rfl) (fun _ _ _ h => h) (Or.inr ⟨by rfl, rfl⟩) hHeld ?_
            try simp only [Act.put, List.setIfInBounds_toArray, List.set_cons_zero, List.set_cons_succ]
            refine wpAnyH_take (i := 8) (oi := { dst := some 96, op := Go.Op.fieldAddr 39 (Go.Operand.tmp 95) 0, type := 0, pos := "law.go:103", after := #[{ on := 7, ground := Go.Ground.data }, { on := 1, ground := Go.Ground.guard }], guard := some (1, true) }) (v := undef) rfl (by kernel_rfl) (by kernel_rfl) (by kernel_rfl) (fun _ _ _ h => h) (Or.inr ⟨by rfl, rfl⟩) hHeld ?_
            try simp only [Act.put, List.setIfInBounds_toArray, List.set_cons_zero, List.set_cons_succ]
            refine wpAnyH_take (i := 9) (oi := { dst := some 97, op := Go.Op.fieldAddr 36 (Go.Operand.tmp 96) 0, type := 0, pos := "law.go:103", after := #[{ on := 8, ground := Go.Ground.data }, { on := 1, ground := Go.Ground.guard }], guard := some (1, true) }) (v := undef) rfl (by kernel_rfl) (by kernel_rfl) (by kernel_rfl) (fun _ _ _ h => h) (Or.inr ⟨by rfl, rfl⟩) hHeld ?_
            try simp only [Act.put, List.setIfInBounds_toArray, List.set_cons_zero, List.set_cons_succ]
            refine wpAnyH_take (i := 10) (oi := { dst := some 98, op := Go.Op.load 9 (Go.Operand.tmp 97), type := 9, pos := "law.go:103", after := #[{ on := 9, ground := Go.Ground.data }, { on := 1, ground := Go.Ground.guard }], guard := some (1, true) }) (v := undef) rfl (by kernel_rfl) (by kernel_rfl) (by kernel_rfl) (fun _ _ _ h => h) (Or.inr ⟨by rfl, rfl⟩) hHeld ?_
            try simp only [Act.put, List.setIfInBounds_toArray, List.set_cons_zero, List.set_cons_succ]
            refine wpAnyH_take (i := 11) (oi := { dst := some 99, op := Go.Op.binOp Go.BinOp.neq 9 (Go.Operand.tmp 92) (Go.Operand.tmp 98) 9, type := 4, pos := "law.go:103", after := #[{ on := 4, ground := Go.Ground.data }, { on := 10, ground := Go.Ground.data }, { on := 1, ground := Go.Ground.guard }], guard := some (1, true) }) (v := undef) rfl (by kernel_rfl) (by kernel_rfl) (by kernel_rfl) (fun _ _ _ h => h) (Or.inr ⟨by rfl, rfl⟩) hHeld ?_
            try simp only [Act.put, List.setIfInBounds_toArray, List.set_cons_zero, List.set_cons_succ]
            refine wpAnyH_take (i := 12) (oi := { dst := some 100, op := Go.Op.move (Go.Operand.tmp 99), type := 4, pos := "law.go:103", after := #[{ on := 11, ground := Go.Ground.data }, { on := 1, ground := Go.Ground.chain }, { on := 1, ground := Go.Ground.guard }], guard := some (1, true) }) (v := undef) rfl (by kernel_rfl) (by kernel_rfl) (by kernel_rfl) (fun _ _ _ h => h) (Or.inr ⟨by rfl, rfl⟩) hHeld ?_
            try simp only [Act.put, List.setIfInBounds_toArray, List.set_cons_zero, List.set_cons_succ]
            refine wpAnyH_take (i := 13) (oi := { dst := some 101, op := Go.Op.move (Go.Operand.tmp 7), type := 33, pos := "law.go:103", after := #[{ on := 12, ground := Go.Ground.guard }], guard := some (12, false) }) (v := undef) rfl (by kernel_rfl) (by kernel_rfl) (by kernel_rfl) (fun _ _ _ h => h) (Or.inr ⟨by rfl, rfl⟩) hHeld ?_
            try simp only [Act.put, List.setIfInBounds_toArray, List.set_cons_zero, List.set_cons_succ]
            refine wpAnyH_take (i := 14) (oi := { dst := some 102, op := Go.Op.move (Go.Operand.tmp 8), type := 3, pos := "law.go:103", after := #[{ on := 12, ground := Go.Ground.guard }], guard := some (12, false) }) (v := undef) rfl (by kernel_rfl) (by kernel_rfl) (by kernel_rfl) (fun _ _ _ h => h) (Or.inr ⟨by rfl, rfl⟩) hHeld ?_
            try simp only [Act.put, List.setIfInBounds_toArray, List.set_cons_zero, List.set_cons_succ]
            refine wpAnyH_take (i := 15) (oi := { dst := some 103, op := Go.Op.indexAddr 33 (Go.Operand.tmp 101) (Go.Operand.tmp 102), type := 0, pos := "law.go:103", after := #[{ on := 13, ground := Go.Ground.data }, { on := 14, ground := Go.Ground.data }, { on := 12, ground := Go.Ground.guard }], guard := some (12, false) }) (v := undef) rfl (by kernel_rfl) (by kernel_rfl) (by kernel_rfl) (fun _ _ _ h => h) (Or.inr ⟨by rfl, rfl⟩) hHeld ?_
            try simp only [Act.put, List.setIfInBounds_toArray, List.set_cons_zero, List.set_cons_succ]
            refine wpAnyH_take (i := 16) (oi := { dst := some 104, op := Go.Op.fieldAddr 39 (Go.Operand.tmp 103) 0, type := 0, pos := "law.go:103", after := #[{ on := 15, ground := Go.Ground.data }, { on := 12, ground := Go.Ground.guard }], guard := some (12, false) }) (v := undef) rfl (by kernel_rfl) (by kernel_rfl) (by kernel_rfl) (fun _ _ _ h => h) (Or.inr ⟨by rfl, rfl⟩) hHeld ?_
            try simp only [Act.put, List.setIfInBounds_toArray, List.set_cons_zero, List.set_cons_succ]
            refine wpAnyH_take (i := 17) (oi := { dst := some 105, op := Go.Op.load 36 (Go.Operand.tmp 104), type := 36, pos := "law.go:103", after := #[{ on := 16, ground := Go.Ground.data }, { on := 12, ground := Go.Ground.guard }], guard := some (12, false) }) (v := undef) rfl (by kernel_rfl) (by kernel_rfl) (by kernel_rfl) (fun _ _ _ h => h) (Or.inr ⟨by rfl, rfl⟩) hHeld ?_
            try simp only [Act.put, List.setIfInBounds_toArray, List.set_cons_zero, List.set_cons_succ]
            refine wpAnyH_take (i := 18) (oi := { dst := some 106, op := Go.Op.buildSlice 95 1 #[(0, Go.Operand.const (Go.Value.int Go.IntKind.i64 43))], type := 95, pos := "law.go:103", after := #[{ on := 12, ground := Go.Ground.guard }], guard := some (12, false) }) (v := undef) rfl (by kernel_rfl) (by kernel_rfl) (by kernel_rfl) (fun _ _ _ h => h) (Or.inr ⟨by rfl, rfl⟩) hHeld ?_
            try simp only [Act.put, List.setIfInBounds_toArray, List.set_cons_zero, List.set_cons_succ]
            refine wpAnyH_take (i := 19) (oi := { dst := some 107, op := Go.Op.call { callee := Go.Callee.value (Go.Operand.func 28), args := #[Go.Operand.tmp 105, Go.Operand.tmp 106], argTypes := #[36, 95] }, type := 4, pos := "law.go:103", after := #[{ on := 17, ground := Go.Ground.data }, { on := 18, ground := Go.Ground.data }, { on := 12, ground := Go.Ground.chain }, { on := 12, ground := Go.Ground.guard }], guard := some (12, false) }) (v := undef) rfl (by kernel_rfl) (by kernel_rfl) (by kernel_rfl) (fun _ _ _ h => h) (Or.inr ⟨by rfl, rfl⟩) hHeld ?_
            try simp only [Act.put, List.setIfInBounds_toArray, List.set_cons_zero, List.set_cons_succ]
            refine wpAnyH_take (i := 20) (oi := { dst := some 108, op := Go.Op.unOp Go.UnOp.not 4 (Go.Operand.tmp 107), type := 4, pos := "law.go:103", after := #[{ on := 19, ground := Go.Ground.data }, { on := 12, ground := Go.Ground.guard }], guard := some (12, false) }) (v := undef) rfl (by kernel_rfl) (by kernel_rfl) (by kernel_rfl) (fun _ _ _ h => h) (Or.inr ⟨by rfl, rfl⟩) hHeld ?_
            try simp only [Act.put, List.setIfInBounds_toArray, List.set_cons_zero, List.set_cons_succ]
            refine wpAnyH_take (i := 21) (oi := { dst := some 109, op := Go.Op.pick (Go.Operand.tmp 100) (Go.Operand.const (Go.Value.bool true)) (Go.Operand.tmp 108), type := 4, pos := "law.go:103", after := #[{ on := 12, ground := Go.Ground.data }, { on := 20, ground := Go.Ground.data }, { on := 1, ground := Go.Ground.guard }], guard := some (1, true) }) (v := undef) rfl (by kernel_rfl) (by kernel_rfl) (by kernel_rfl) (fun _ _ _ h => h) (Or.inr ⟨by rfl, rfl⟩) hHeld ?_
            try simp only [Act.put, List.setIfInBounds_toArray, List.set_cons_zero, List.set_cons_succ]
            refine wpAnyH_take (i := 22) (oi := { dst := some 110, op := Go.Op.pick (Go.Operand.tmp 89) (Go.Operand.tmp 109) (Go.Operand.const (Go.Value.bool false)), type := 4, pos := "law.go:103", after := #[{ on := 1, ground := Go.Ground.data }, { on := 21, ground := Go.Ground.data }], guard := none }) (v := ?v22_1401) rfl (by kernel_rfl) (by kernel_rfl) (by kernel_rfl) (fun _ _ _ h => h) (Or.inl ⟨by rfl, ?y22_1401⟩) hHeld ?r22_1401
            case y22_1401 => intro w hSw; (try dsimp only at hSw); go_simp; try with_reducible rfl
            try simp only [Act.put, List.setIfInBounds_toArray, List.set_cons_zero, List.set_cons_succ]
            refine wpAnyH_take (i := 23) (oi := { dst := some 87, op := Go.Op.assign (Go.Operand.tmp 110), type := 4, pos := "law.go:103", after := #[{ on := 22, ground := Go.Ground.data }, { on := 19, ground := Go.Ground.chain }], guard := none }) (v := ?v23_1401) rfl (by kernel_rfl) (by kernel_rfl) (by kernel_rfl) (fun _ _ _ h => h) (Or.inl ⟨by rfl, ?y23_1401⟩) hHeld ?r23_1401
            case y23_1401 => intro w hSw; (try dsimp only at hSw); go_simp; try with_reducible rfl
            try simp only [Act.put, List.setIfInBounds_toArray, List.set_cons_zero, List.set_cons_succ]
            refine wpAnyH_done (by kernel_rfl) ?_ _
            have hbe := hHeld.1.out
            clear hHeld
            have HBE2 := Lib.hid hbe
            clear hbe
            replace Y0 := Lib.hid (cell_later4 HBE2.out Y0.out)
            replace Y1 := Lib.hid (cell_later4 HBE2.out Y1.out)
            replace Y2 := Lib.hid (cell_later4 HBE2.out Y2.out)
            replace Y3 := Lib.hid (cell_later4 HBE2.out Y3.out)
            replace Y4 := Lib.hid (cell_later4 HBE2.out Y4.out)
            replace HC10 := Lib.hid (HC10.out.below HBE2.out)
            replace KZ := Lib.hid (KZ.out.below HBE2.out)
            replace HCR := Lib.hid (HCR.out.below HBE2.out)
            replace HSRZ := Lib.hid (HSRZ.out.below HBE2.out)
            replace HU := Lib.hid (HU.out.below HBE2.out)
            replace HB6 := Lib.hid (HB6.out.trans (HBE2.out.mono HB6.out.size))
            clear HBE2
            go_upto_region 14 with (fail)
            obtain ⟨w6, hw6⟩ : ∃ x, we = x := ⟨_, rfl⟩
            rw [hw6] at Y0 Y1 Y2 Y3 Y4 HC10 KZ HCR HSRZ HU HB6 ⊢
            clear hw6
            obtain ⟨rfl, b9, o9, p9, c9, rfl, z0, z1, z2, z3, z4, hzr, -⟩ := at_full HU.out.at
            replace hzr : RowS w6 p9 sd.length sd := hzr
            replace z4 : w6.cell? ⟨b9, o9 + 4, none⟩ = some (.slice p9 sd.length c9) := z4
            rw [show sd.length = dl from HSRZ.out.1] at hzr z4
            have HZR := Lib.hid hzr
            have Z0 := Lib.hid (show w6.cell? ⟨b9, o9, none⟩ = some (.string sn) from z0)
            have Z1 := Lib.hid (show w6.cell? ⟨b9, o9 + 1, none⟩ = some (.int .i64 st) from z1)
            have Z2 := Lib.hid (show w6.cell? ⟨b9, o9 + 2, none⟩ = some (.int .i64 1) from z2)
            have Z3 := Lib.hid (show w6.cell? ⟨b9, o9 + 3, none⟩ = some (.int .i64 su) from z3)
            have Z4 := Lib.hid z4
            clear z0 z1 z2 z3 z4 hzr
            have HSAME := Lib.hid (fun wx (hx : Below w6.heap.size w6 wx) => same_selfE sn st 1 su sd p9 pa dl c9 ca wx (HZR.out.below hx) (HSRZ.out.below hx) HDL.out)
            have hbd := (Below.refl w6.heap.size w6).drew
            obtain ⟨we, hwe⟩ : ∃ x, w6.drew = x := ⟨_, rfl⟩
            have HBE := Lib.hid (show Below w6.heap.size w6 we by rw [← hwe]; exact hbd)
            clear hbd
            refine wp_region_held_drew (S := (fun wx => Hid (Below w6.heap.size w6 wx) ∧ wx.cell? ⟨q9, 0, none⟩ = some (.int .i64 1) ∧ wx.cell? ⟨q9, 2, none⟩ = some (.slice (some ⟨b9, o9, none⟩) 1 c1) ∧ wx.cell? ⟨b9, o9, none⟩ = some (.string sn) ∧ wx.cell? ⟨b9, o9 + 1, none⟩ = some (.int .i64 st) ∧ wx.cell? ⟨b9, o9 + 2, none⟩ = some (.int .i64 1) ∧ wx.cell? ⟨b9, o9 + 3, none⟩ = some (.int .i64 su) ∧ wx.cell? ⟨b9, o9 + 4, none⟩ = some (.slice p9 dl c9) ∧ wx.cell? ⟨b, o + k * 5, none⟩ = some (.string sn) ∧ wx.cell? ⟨b, o + k * 5 + 1, none⟩ = some (.int .i64 st) ∧ wx.cell? ⟨b, o + k * 5 + 2, none⟩ = some (.int .i64 1) ∧ wx.cell? ⟨b, o + k * 5 + 3, none⟩ = some (.int .i64 su) ∧ wx.cell? ⟨b, o + k * 5 + 4, none⟩ = some (.slice pa dl ca))) (by kernel_rfl) (by rw [hwe]; exact ⟨HBE, cell_later4 HBE.out KZ.out.u5.1, cell_later4 HBE.out KZ.out.u5.2.2.1, cell_later4 HBE.out Z0.out, cell_later4 HBE.out Z1.out, cell_later4 HBE.out Z2.out, cell_later4 HBE.out Z3.out, cell_later4 HBE.out Z4.out, cell_later4 HBE.out Y0.out, cell_later4 HBE.out Y1.out, cell_later4 HBE.out Y2.out, cell_later4 HBE.out Y3.out, cell_later4 HBE.out Y4.out⟩) (fun hHeld => ?_)
            rw [hwe] at hHeld ⊢
            clear hwe
            refine wpAnyH_take (i := 0) (oi := { dst := some 66, op := Go.Op.fieldAddr 68 (Go.Operand.tmp 9) 0, type := 0, pos := "law.go:108", after := #[], guard := none }) (v := ?v0_1501) rfl (by kernel_rfl) (by kernel_rfl) (by kernel_rfl) (fun _ _ _ h => h) (Or.inl ⟨by rfl, ?y0_1501⟩) hHeld ?r0_1501
            case y0_1501 => intro w hSw; (try dsimp only at hSw); go_simp; try with_reducible rfl
            try simp only [Act.put, List.setIfInBounds_toArray, List.set_cons_zero, List.set_cons_succ]
            refine wpAnyH_take (i := 1) (oi := { dst := some 67, op := Go.Op.load 3 (Go.Operand.tmp 66), type := 3, pos := "law.go:108", after := #[{ on := 0, ground := Go.Ground.data }], guard := none }) (v := ?v1_1501) rfl (by kernel_rfl) (by kernel_rfl) (by kernel_rfl) (fun _ _ _ h => h) (Or.inl ⟨by rfl, ?y1_1501⟩) hHeld ?r1_1501
            case y1_1501 => intro w hSw; (try dsimp only at hSw); go_simp; try with_reducible rfl
            try simp only [Act.put, List.setIfInBounds_toArray, List.set_cons_zero, List.set_cons_succ]
            refine wpAnyH_take (i := 2) (oi := { dst := some 68, op := Go.Op.binOp Go.BinOp.neq 3 (Go.Operand.tmp 67) (Go.Operand.const (Go.Value.int Go.IntKind.i64 1)) 3, type := 4, pos := "law.go:108", after := #[{ on := 1, ground := Go.Ground.data }], guard := none }) (v := ?v2_1501) rfl (by kernel_rfl) (by kernel_rfl) (by kernel_rfl) (fun _ _ _ h => h) (Or.inl ⟨by rfl, ?y2_1501⟩) hHeld ?r2_1501
            case y2_1501 => intro w hSw; (try dsimp only at hSw); go_simp; try with_reducible rfl
            try simp only [Act.put, List.setIfInBounds_toArray, List.set_cons_zero, List.set_cons_succ]
            refine wpAnyH_take (i := 3) (oi := { dst := some 69, op := Go.Op.move (Go.Operand.tmp 68), type := 4, pos := "law.go:108", after := #[{ on := 2, ground := Go.Ground.data }], guard := none }) (v := ?v3_1501) rfl (by kernel_rfl) (by kernel_rfl) (by kernel_rfl) (fun _ _ _ h => h) (Or.inl ⟨by rfl, ?y3_1501⟩) hHeld ?r3_1501
            case y3_1501 => intro w hSw; (try dsimp only at hSw); go_simp; try with_reducible rfl
            try simp only [Act.put, List.setIfInBounds_toArray, List.set_cons_zero, List.set_cons_succ]
            refine wpAnyH_take (i := 4) (oi := { dst := some 70, op := Go.Op.fieldAddr 68 (Go.Operand.tmp 9) 2, type := 0, pos := "law.go:108", after := #[{ on := 3, ground := Go.Ground.guard }], guard := some (3, false) }) (v := ?v4_1501) rfl (by kernel_rfl) (by kernel_rfl) (by kernel_rfl) (fun _ _ _ h => h) (Or.inl ⟨by rfl, ?y4_1501⟩) hHeld ?r4_1501
            case y4_1501 => intro w hSw; (try dsimp only at hSw); go_simp; try with_reducible rfl
            try simp only [Act.put, List.setIfInBounds_toArray, List.set_cons_zero, List.set_cons_succ]
            refine wpAnyH_take (i := 5) (oi := { dst := some 71, op := Go.Op.load 33 (Go.Operand.tmp 70), type := 33, pos := "law.go:108", after := #[{ on := 4, ground := Go.Ground.data }, { on := 3, ground := Go.Ground.guard }], guard := some (3, false) }) (v := ?v5_1501) rfl (by kernel_rfl) (by kernel_rfl) (by kernel_rfl) (fun _ _ _ h => h) (Or.inl ⟨by rfl, ?y5_1501⟩) hHeld ?r5_1501
            case y5_1501 => intro w hSw; (try dsimp only at hSw); go_simp; try with_reducible rfl
            try simp only [Act.put, List.setIfInBounds_toArray, List.set_cons_zero, List.set_cons_succ]
            refine wpAnyH_take (i := 6) (oi := { dst := some 72, op := Go.Op.call { callee := Go.Callee.builtin Go.Builtin.len, args := #[Go.Operand.tmp 71], argTypes := #[33] }, type := 3, pos := "law.go:108", after := #[{ on := 5, ground := Go.Ground.data }, { on := 3, ground := Go.Ground.guard }], guard := some (3, false) }) (v := ?v6_1501) rfl (by kernel_rfl) (by kernel_rfl) (by kernel_rfl) (fun _ _ _ h => h) (Or.inl ⟨by rfl, ?y6_1501⟩) hHeld ?r6_1501
            case y6_1501 => intro w hSw; (try dsimp only at hSw); go_simp; try with_reducible rfl
            try simp only [Act.put, List.setIfInBounds_toArray, List.set_cons_zero, List.set_cons_succ]
            refine wpAnyH_take (i := 7) (oi := { dst := some 73, op := Go.Op.binOp Go.BinOp.neq 3 (Go.Operand.tmp 72) (Go.Operand.const (Go.Value.int Go.IntKind.i64 1)) 3, type := 4, pos := "law.go:108", after := #[{ on := 6, ground := Go.Ground.data }, { on := 3, ground := Go.Ground.guard }], guard := some (3, false) }) (v := ?v7_1501) rfl (by kernel_rfl) (by kernel_rfl) (by kernel_rfl) (fun _ _ _ h => h) (Or.inl ⟨by rfl, ?y7_1501⟩) hHeld ?r7_1501
            case y7_1501 => intro w hSw; (try dsimp only at hSw); go_simp; try with_reducible rfl
            try simp only [Act.put, List.setIfInBounds_toArray, List.set_cons_zero, List.set_cons_succ]
            refine wpAnyH_take (i := 8) (oi := { dst := some 74, op := Go.Op.pick (Go.Operand.tmp 69) (Go.Operand.const (Go.Value.bool true)) (Go.Operand.tmp 73), type := 4, pos := "law.go:108", after := #[{ on := 3, ground := Go.Ground.data }, { on := 7, ground := Go.Ground.data }], guard := none }) (v := ?v8_1501) rfl (by kernel_rfl) (by kernel_rfl) (by kernel_rfl) (fun _ _ _ h => h) (Or.inl ⟨by rfl, ?y8_1501⟩) hHeld ?r8_1501
            case y8_1501 => intro w hSw; (try dsimp only at hSw); go_simp; try with_reducible rfl
            try simp only [Act.put, List.setIfInBounds_toArray, List.set_cons_zero, List.set_cons_succ]
            refine wpAnyH_take (i := 9) (oi := { dst := some 75, op := Go.Op.move (Go.Operand.tmp 74), type := 4, pos := "law.go:108", after := #[{ on := 8, ground := Go.Ground.data }, { on := 3, ground := Go.Ground.chain }], guard := none }) (v := ?v9_1501) rfl (by kernel_rfl) (by kernel_rfl) (by kernel_rfl) (fun _ _ _ h => h) (Or.inl ⟨by rfl, ?y9_1501⟩) hHeld ?r9_1501
            case y9_1501 => intro w hSw; (try dsimp only at hSw); go_simp; try with_reducible rfl
            try simp only [Act.put, List.setIfInBounds_toArray, List.set_cons_zero, List.set_cons_succ]
            refine wpAnyH_take (i := 10) (oi := { dst := some 76, op := Go.Op.fieldAddr 68 (Go.Operand.tmp 9) 2, type := 0, pos := "law.go:108", after := #[{ on := 9, ground := Go.Ground.guard }], guard := some (9, false) }) (v := ?v10_1501) rfl (by kernel_rfl) (by kernel_rfl) (by kernel_rfl) (fun _ _ _ h => h) (Or.inl ⟨by rfl, ?y10_1501⟩) hHeld ?r10_1501
            case y10_1501 => intro w hSw; (try dsimp only at hSw); go_simp; try with_reducible rfl
            try simp only [Act.put, List.setIfInBounds_toArray, List.set_cons_zero, List.set_cons_succ]
            refine wpAnyH_take (i := 11) (oi := { dst := some 77, op := Go.Op.load 33 (Go.Operand.tmp 76), type := 33, pos := "law.go:108", after := #[{ on := 10, ground := Go.Ground.data }, { on := 9, ground := Go.Ground.guard }], guard := some (9, false) }) (v := ?v11_1501) rfl (by kernel_rfl) (by kernel_rfl) (by kernel_rfl) (fun _ _ _ h => h) (Or.inl ⟨by rfl, ?y11_1501⟩) hHeld ?r11_1501
            case y11_1501 => intro w hSw; (try dsimp only at hSw); go_simp; try with_reducible rfl
            try simp only [Act.put, List.setIfInBounds_toArray, List.set_cons_zero, List.set_cons_succ]
            refine wpAnyH_take (i := 12) (oi := { dst := some 78, op := Go.Op.indexAddr 33 (Go.Operand.tmp 77) (Go.Operand.const (Go.Value.int Go.IntKind.i64 0)), type := 0, pos := "law.go:108", after := #[{ on := 11, ground := Go.Ground.data }, { on := 9, ground := Go.Ground.guard }], guard := some (9, false) }) (v := ?v12_1501) rfl (by kernel_rfl) (by kernel_rfl) (by kernel_rfl) (fun _ _ _ h => h) (Or.inl ⟨by rfl, ?y12_1501⟩) hHeld ?r12_1501
            case y12_1501 => intro w hSw; (try dsimp only at hSw); go_simp; try with_reducible rfl
            try simp only [Act.put, List.setIfInBounds_toArray, List.set_cons_zero, List.set_cons_succ]
            refine wpAnyH_take (i := 13) (oi := { dst := some 79, op := Go.Op.load 39 (Go.Operand.tmp 78), type := 39, pos := "law.go:108", after := #[{ on := 12, ground := Go.Ground.data }, { on := 9, ground := Go.Ground.guard }], guard := some (9, false) }) (v := ?v13_1501) rfl (by kernel_rfl) (by kernel_rfl) (by kernel_rfl) (fun _ _ _ h => h) (Or.inl ⟨by rfl, ?y13_1501⟩) hHeld ?r13_1501
            case y13_1501 => intro w hSw; (try dsimp only at hSw); go_simp; try with_reducible rfl
            try simp only [Act.put, List.setIfInBounds_toArray, List.set_cons_zero, List.set_cons_succ]
            refine wpAnyH_take (i := 14) (oi := { dst := some 80, op := Go.Op.move (Go.Operand.tmp 7), type := 33, pos := "law.go:108", after := #[{ on := 9, ground := Go.Ground.guard }], guard := some (9, false) }) (v := ?v14_1501) rfl (by kernel_rfl) (by kernel_rfl) (by kernel_rfl) (fun _ _ _ h => h) (Or.inl ⟨by rfl, ?y14_1501⟩) hHeld ?r14_1501
            case y14_1501 => intro w hSw; (try dsimp only at hSw); go_simp; try with_reducible rfl
            try simp only [Act.put, List.setIfInBounds_toArray, List.set_cons_zero, List.set_cons_succ]
            refine wpAnyH_take (i := 15) (oi := { dst := some 81, op := Go.Op.move (Go.Operand.tmp 8), type := 3, pos := "law.go:108", after := #[{ on := 9, ground := Go.Ground.guard }], guard := some (9, false) }) (v := ?v15_1501) rfl (by kernel_rfl) (by kernel_rfl) (by kernel_rfl) (fun _ _ _ h => h) (Or.inl ⟨by rfl, ?y15_1501⟩) hHeld ?r15_1501
            case y15_1501 => intro w hSw; (try dsimp only at hSw); go_simp; try with_reducible rfl
            try simp only [Act.put, List.setIfInBounds_toArray, List.set_cons_zero, List.set_cons_succ]
            refine wpAnyH_take (i := 16) (oi := { dst := some 82, op := Go.Op.indexAddr 33 (Go.Operand.tmp 80) (Go.Operand.tmp 81), type := 0, pos := "law.go:108", after := #[{ on := 14, ground := Go.Ground.data }, { on := 15, ground := Go.Ground.data }, { on := 9, ground := Go.Ground.guard }], guard := some (9, false) }) (v := ?v16_1501) rfl (by kernel_rfl) (by kernel_rfl) (by kernel_rfl) (fun _ _ _ h => h) (Or.inl ⟨by rfl, ?y16_1501⟩) hHeld ?r16_1501
            case y16_1501 => intro w hSw; (try dsimp only at hSw); go_simp; try with_reducible rfl
            try simp only [Act.put, List.setIfInBounds_toArray, List.set_cons_zero, List.set_cons_succ]
            refine wpAnyH_take (i := 17) (oi := { dst := some 83, op := Go.Op.load 39 (Go.Operand.tmp 82), type := 39, pos := "law.go:108", after := #[{ on := 16, ground := Go.Ground.data }, { on := 9, ground := Go.Ground.guard }], guard := some (9, false) }) (v := ?v17_1501) rfl (by kernel_rfl) (by kernel_rfl) (by kernel_rfl) (fun _ _ _ h => h) (Or.inl ⟨by rfl, ?y17_1501⟩) hHeld ?r17_1501
            case y17_1501 => intro w hSw; (try dsimp only at hSw); go_simp; try with_reducible rfl
            try simp only [Act.put, List.setIfInBounds_toArray, List.set_cons_zero, List.set_cons_succ]
            refine wpAnyH_ready (rs := [18]) (by kernel_rfl) (by simp) ?_
            refine AllReadyH.cons (o := { dst := some 84, op := Go.Op.call { callee := Go.Callee.value (Go.Operand.func 31), args := #[Go.Operand.tmp 79, Go.Operand.tmp 83], argTypes := #[39, 39] }, type := 4, pos := "law.go:108", after := #[{ on := 13, ground := Go.Ground.data }, { on := 17, ground := Go.Ground.data }, { on := 9, ground := Go.Ground.chain }, { on := 9, ground := Go.Ground.guard }], guard := some (9, false) }) rfl (fun K hK => ?_) AllReadyH.nil
            go_simp
            refine (HSAME.out _ hHeld.1.out).mono ?_; rintro e wg ⟨rfl, hb⟩
            go_wp2_with fail
            refine hK.out _ _ (⟨Lib.hid (hHeld.1.out.trans (hb.mono hHeld.1.out.size)), cell_later4 hb hHeld.2.1, cell_later4 hb hHeld.2.2.1, cell_later4 hb hHeld.2.2.2.1, cell_later4 hb hHeld.2.2.2.2.1, cell_later4 hb hHeld.2.2.2.2.2.1, cell_later4 hb hHeld.2.2.2.2.2.2.1, cell_later4 hb hHeld.2.2.2.2.2.2.2.1, cell_later4 hb hHeld.2.2.2.2.2.2.2.2.1, cell_later4 hb hHeld.2.2.2.2.2.2.2.2.2.1, cell_later4 hb hHeld.2.2.2.2.2.2.2.2.2.2.1, cell_later4 hb hHeld.2.2.2.2.2.2.2.2.2.2.2.1, cell_later4 hb hHeld.2.2.2.2.2.2.2.2.2.2.2.2⟩) (fun hHeld2 => ?_)
            clear hK K hHeld
            have hHeld := hHeld2
            clear hHeld2
            try simp only [Act.put, List.setIfInBounds_toArray, List.set_cons_zero, List.set_cons_succ]
            refine wpAnyH_take (i := 19) (oi := { dst := some 85, op := Go.Op.unOp Go.UnOp.not 4 (Go.Operand.tmp 84), type := 4, pos := "law.go:108", after := #[{ on := 18, ground := Go.Ground.data }, { on := 9, ground := Go.Ground.guard }], guard := some (9, false) }) (v := ?v19_1502) rfl (by kernel_rfl) (by kernel_rfl) (by kernel_rfl) (fun _ _ _ h => h) (Or.inl ⟨by rfl, ?y19_1502⟩) hHeld ?r19_1502
            case y19_1502 => intro w hSw; (try dsimp only at hSw); go_simp; try with_reducible rfl
            try simp only [Act.put, List.setIfInBounds_toArray, List.set_cons_zero, List.set_cons_succ]
            refine wpAnyH_take (i := 20) (oi := { dst := some 86, op := Go.Op.pick (Go.Operand.tmp 75) (Go.Operand.const (Go.Value.bool true)) (Go.Operand.tmp 85), type := 4, pos := "law.go:108", after := #[{ on := 9, ground := Go.Ground.data }, { on := 19, ground := Go.Ground.data }], guard := none }) (v := ?v20_1502) rfl (by kernel_rfl) (by kernel_rfl) (by kernel_rfl) (fun _ _ _ h => h) (Or.inl ⟨by rfl, ?y20_1502⟩) hHeld ?r20_1502
            case y20_1502 => intro w hSw; (try dsimp only at hSw); go_simp; try with_reducible rfl
            try simp only [Act.put, List.setIfInBounds_toArray, List.set_cons_zero, List.set_cons_succ]
            refine wpAnyH_done (by kernel_rfl) ?_ _
            have hbe := hHeld.1.out
            clear hHeld
            have HBN := Lib.hid (HB6.out.trans (hbe.mono HB6.out.size))
            clear hbe
            go_wp2
            go_roundw
            case rel => exact ⟨k + 1, by have := HLT.out; omega, by have := HLT.out; go_num, HBN⟩
            case measure => have := HLT.out; simp [intOf]; omega
          · replace hcut : cutP S apex sn = some x := hcut
            have hX := HXC.out
            rw [hcut] at hX ⊢
            obtain rfl : x = ⟨⟨cn, ct, ck⟩, cu, cd⟩ := hX
            simp only [Option.isSome_some]
            obtain ⟨vt, hvt2⟩ : ∃ x, decide (st ∈ [(43 : Int)]) = x := ⟨_, rfl⟩
            have HVT := Lib.hid hvt2
            obtain rfl : vt = true := hvt2.symm.trans (dT (by simpa using hst))
            have s1 := strA_eq (show cn = sn from hns)
            clear hns hst hvt2 hcut HXC
            have hbd := (Below.refl w6.heap.size w6).drew
            obtain ⟨we, hwe⟩ : ∃ x, w6.drew = x := ⟨_, rfl⟩
            have HBE := Lib.hid (show Below w6.heap.size w6 we by rw [← hwe]; exact hbd)
            clear hbd
            refine wp_region_held_drew (S := (fun wx => Hid (Below w6.heap.size w6 wx) ∧ wx.cell? ⟨b, o + k * 5, none⟩ = some (.string sn) ∧ wx.cell? ⟨b, o + k * 5 + 1, none⟩ = some (.int .i64 st) ∧ wx.cell? ⟨b, o + k * 5 + 2, none⟩ = some (.int .i64 1) ∧ wx.cell? ⟨q10, 0, none⟩ = some (.string cn))) (by kernel_rfl) (by rw [hwe]; exact ⟨HBE, cell_later4 HBE.out Y0.out, cell_later4 HBE.out Y1.out, cell_later4 HBE.out Y2.out, cell_later4 HBE.out HC10.out.2.1⟩) (fun hHeld => ?_)
            rw [hwe] at hHeld ⊢
            clear hwe
            refine wpAnyH_take (i := 0) (oi := { dst := some 88, op := Go.Op.move (Go.Operand.tmp 11), type := 4, pos := "law.go:103", after := #[], guard := none }) (v := ?v0_1601) rfl (by kernel_rfl) (by kernel_rfl) (by kernel_rfl) (fun _ _ _ h => h) (Or.inl ⟨by rfl, ?y0_1601⟩) hHeld ?r0_1601
            case y0_1601 => intro w hSw; (try dsimp only at hSw); go_simp; try with_reducible rfl
            try simp only [Act.put, List.setIfInBounds_toArray, List.set_cons_zero, List.set_cons_succ]
            refine wpAnyH_take (i := 1) (oi := { dst := some 89, op := Go.Op.move (Go.Operand.tmp 88), type := 4, pos := "law.go:103", after := #[{ on := 0, ground := Go.Ground.data }], guard := none }) (v := ?v1_1601) rfl (by kernel_rfl) (by kernel_rfl) (by kernel_rfl) (fun _ _ _ h => h) (Or.inl ⟨by rfl, ?y1_1601⟩) hHeld ?r1_1601
            case y1_1601 => intro w hSw; (try dsimp only at hSw); go_simp; try with_reducible rfl
            try simp only [Act.put, List.setIfInBounds_toArray, List.set_cons_zero, List.set_cons_succ]
            refine wpAnyH_take (i := 2) (oi := { dst := some 90, op := Go.Op.fieldAddr 39 (Go.Operand.tmp 10) 0, type := 0, pos := "law.go:103", after := #[{ on := 1, ground := Go.Ground.guard }], guard := some (1, true) }) (v := ?v2_1601) rfl (by kernel_rfl) (by kernel_rfl) (by kernel_rfl) (fun _ _ _ h => h) (Or.inl ⟨by rfl, ?y2_1601⟩) hHeld ?r2_1601
            case y2_1601 => intro w hSw; (try dsimp only at hSw); go_simp; try with_reducible rfl
            try simp only [Act.put, List.setIfInBounds_toArray, List.set_cons_zero, List.set_cons_succ]
            refine wpAnyH_take (i := 3) (oi := { dst := some 91, op := Go.Op.fieldAddr 36 (Go.Operand.tmp 90) 0, type := 0, pos := "law.go:103", after := #[{ on := 2, ground := Go.Ground.data }, { on := 1, ground := Go.Ground.guard }], guard := some (1, true) }) (v := ?v3_1601) rfl (by kernel_rfl) (by kernel_rfl) (by kernel_rfl) (fun _ _ _ h => h) (Or.inl ⟨by rfl, ?y3_1601⟩) hHeld ?r3_1601
            case y3_1601 => intro w hSw; (try dsimp only at hSw); go_simp; try with_reducible rfl
            try simp only [Act.put, List.setIfInBounds_toArray, List.set_cons_zero, List.set_cons_succ]
            refine wpAnyH_take (i := 4) (oi := { dst := some 92, op := Go.Op.load 9 (Go.Operand.tmp 91), type := 9, pos := "law.go:103", after := #[{ on := 3, ground := Go.Ground.data }, { on := 1, ground := Go.Ground.guard }], guard := some (1, true) }) (v := ?v4_1601) rfl (by kernel_rfl) (by kernel_rfl) (by kernel_rfl) (fun _ _ _ h => h) (Or.inl ⟨by rfl, ?y4_1601⟩) hHeld ?r4_1601
            case y4_1601 => intro w hSw; (try dsimp only at hSw); go_simp; try with_reducible rfl
            try simp only [Act.put, List.setIfInBounds_toArray, List.set_cons_zero, List.set_cons_succ]
            refine wpAnyH_take (i := 5) (oi := { dst := some 93, op := Go.Op.move (Go.Operand.tmp 7), type := 33, pos := "law.go:103", after := #[{ on := 1, ground := Go.Ground.guard }], guard := some (1, true) }) (v := ?v5_1601) rfl (by kernel_rfl) (by kernel_rfl) (by kernel_rfl) (fun _ _ _ h => h) (Or.inl ⟨by rfl, ?y5_1601⟩) hHeld ?r5_1601
            case y5_1601 => intro w hSw; (try dsimp only at hSw); go_simp; try with_reducible rfl
            try simp only [Act.put, List.setIfInBounds_toArray, List.set_cons_zero, List.set_cons_succ]
            refine wpAnyH_take (i := 6) (oi := { dst := some 94, op := Go.Op.move (Go.Operand.tmp 8), type := 3, pos := "law.go:103", after := #[{ on := 1, ground := Go.Ground.guard }], guard := some (1, true) }) (v := ?v6_1601) rfl (by kernel_rfl) (by kernel_rfl) (by kernel_rfl) (fun _ _ _ h => h) (Or.inl ⟨by rfl, ?y6_1601⟩) hHeld ?r6_1601
            case y6_1601 => intro w hSw; (try dsimp only at hSw); go_simp; try with_reducible rfl
            try simp only [Act.put, List.setIfInBounds_toArray, List.set_cons_zero, List.set_cons_succ]
            refine wpAnyH_take (i := 7) (oi := { dst := some 95, op := Go.Op.indexAddr 33 (Go.Operand.tmp 93) (Go.Operand.tmp 94), type := 0, pos := "law.go:103", after := #[{ on := 5, ground := Go.Ground.data }, { on := 6, ground := Go.Ground.data }, { on := 1, ground := Go.Ground.guard }], guard := some (1, true) }) (v := ?v7_1601) rfl (by kernel_rfl) (by kernel_rfl) (by kernel_rfl) (fun _ _ _ h => h) (Or.inl ⟨by rfl, ?y7_1601⟩) hHeld ?r7_1601
            case y7_1601 => intro w hSw; (try dsimp only at hSw); go_simp; try with_reducible rfl
            try simp only [Act.put, List.setIfInBounds_toArray, List.set_cons_zero, List.set_cons_succ]
            refine wpAnyH_take (i := 8) (oi := { dst := some 96, op := Go.Op.fieldAddr 39 (Go.Operand.tmp 95) 0, type := 0, pos := "law.go:103", after := #[{ on := 7, ground := Go.Ground.data }, { on := 1, ground := Go.Ground.guard }], guard := some (1, true) }) (v := ?v8_1601) rfl (by kernel_rfl) (by kernel_rfl) (by kernel_rfl) (fun _ _ _ h => h) (Or.inl ⟨by rfl, ?y8_1601⟩) hHeld ?r8_1601
            case y8_1601 => intro w hSw; (try dsimp only at hSw); go_simp; try with_reducible rfl
            try simp only [Act.put, List.setIfInBounds_toArray, List.set_cons_zero, List.set_cons_succ]
            refine wpAnyH_take (i := 9) (oi := { dst := some 97, op := Go.Op.fieldAddr 36 (Go.Operand.tmp 96) 0, type := 0, pos := "law.go:103", after := #[{ on := 8, ground := Go.Ground.data }, { on := 1, ground := Go.Ground.guard }], guard := some (1, true) }) (v := ?v9_1601) rfl (by kernel_rfl) (by kernel_rfl) (by kernel_rfl) (fun _ _ _ h => h) (Or.inl ⟨by rfl, ?y9_1601⟩) hHeld ?r9_1601
            case y9_1601 => intro w hSw; (try dsimp only at hSw); go_simp; try with_reducible rfl
            try simp only [Act.put, List.setIfInBounds_toArray, List.set_cons_zero, List.set_cons_succ]
            refine wpAnyH_take (i := 10) (oi := { dst := some 98, op := Go.Op.load 9 (Go.Operand.tmp 97), type := 9, pos := "law.go:103", after := #[{ on := 9, ground := Go.Ground.data }, { on := 1, ground := Go.Ground.guard }], guard := some (1, true) }) (v := ?v10_1601) rfl (by kernel_rfl) (by kernel_rfl) (by kernel_rfl) (fun _ _ _ h => h) (Or.inl ⟨by rfl, ?y10_1601⟩) hHeld ?r10_1601
            case y10_1601 => intro w hSw; (try dsimp only at hSw); go_simp; try with_reducible rfl
            try simp only [Act.put, List.setIfInBounds_toArray, List.set_cons_zero, List.set_cons_succ]
            refine wpAnyH_take (i := 11) (oi := { dst := some 99, op := Go.Op.binOp Go.BinOp.neq 9 (Go.Operand.tmp 92) (Go.Operand.tmp 98) 9, type := 4, pos := "law.go:103", after := #[{ on := 4, ground := Go.Ground.data }, { on := 10, ground := Go.Ground.data }, { on := 1, ground := Go.Ground.guard }], guard := some (1, true) }) (v := ?v11_1601) rfl (by kernel_rfl) (by kernel_rfl) (by kernel_rfl) (fun _ _ _ h => h) (Or.inl ⟨by rfl, ?y11_1601⟩) hHeld ?r11_1601
            case y11_1601 => intro w hSw; (try dsimp only at hSw); go_simp; try with_reducible rfl
            try simp only [Act.put, List.setIfInBounds_toArray, List.set_cons_zero, List.set_cons_succ]
            refine wpAnyH_take (i := 12) (oi := { dst := some 100, op := Go.Op.move (Go.Operand.tmp 99), type := 4, pos := "law.go:103", after := #[{ on := 11, ground := Go.Ground.data }, { on := 1, ground := Go.Ground.chain }, { on := 1, ground := Go.Ground.guard }], guard := some (1, true) }) (v := ?v12_1601) rfl (by kernel_rfl) (by kernel_rfl) (by kernel_rfl) (fun _ _ _ h => h) (Or.inl ⟨by rfl, ?y12_1601⟩) hHeld ?r12_1601
            case y12_1601 => intro w hSw; (try dsimp only at hSw); go_simp; try with_reducible rfl
            try simp only [Act.put, List.setIfInBounds_toArray, List.set_cons_zero, List.set_cons_succ]
            refine wpAnyH_take (i := 13) (oi := { dst := some 101, op := Go.Op.move (Go.Operand.tmp 7), type := 33, pos := "law.go:103", after := #[{ on := 12, ground := Go.Ground.guard }], guard := some (12, false) }) (v := ?v13_1601) rfl (by kernel_rfl) (by kernel_rfl) (by kernel_rfl) (fun _ _ _ h => h) (Or.inl ⟨by rfl, ?y13_1601⟩) hHeld ?r13_1601
            case y13_1601 => intro w hSw; (try dsimp only at hSw); go_simp; try with_reducible rfl
            try simp only [Act.put, List.setIfInBounds_toArray, List.set_cons_zero, List.set_cons_succ]
            refine wpAnyH_take (i := 14) (oi := { dst := some 102, op := Go.Op.move (Go.Operand.tmp 8), type := 3, pos := "law.go:103", after := #[{ on := 12, ground := Go.Ground.guard }], guard := some (12, false) }) (v := ?v14_1601) rfl (by kernel_rfl) (by kernel_rfl) (by kernel_rfl) (fun _ _ _ h => h) (Or.inl ⟨by rfl, ?y14_1601⟩) hHeld ?r14_1601
            case y14_1601 => intro w hSw; (try dsimp only at hSw); go_simp; try with_reducible rfl
            try simp only [Act.put, List.setIfInBounds_toArray, List.set_cons_zero, List.set_cons_succ]
            refine wpAnyH_take (i := 15) (oi := { dst := some 103, op := Go.Op.indexAddr 33 (Go.Operand.tmp 101) (Go.Operand.tmp 102), type := 0, pos := "law.go:103", after := #[{ on := 13, ground := Go.Ground.data }, { on := 14, ground := Go.Ground.data }, { on := 12, ground := Go.Ground.guard }], guard := some (12, false) }) (v := ?v15_1601) rfl (by kernel_rfl) (by kernel_rfl) (by kernel_rfl) (fun _ _ _ h => h) (Or.inl ⟨by rfl, ?y15_1601⟩) hHeld ?r15_1601
            case y15_1601 => intro w hSw; (try dsimp only at hSw); go_simp; try with_reducible rfl
            try simp only [Act.put, List.setIfInBounds_toArray, List.set_cons_zero, List.set_cons_succ]
            refine wpAnyH_take (i := 16) (oi := { dst := some 104, op := Go.Op.fieldAddr 39 (Go.Operand.tmp 103) 0, type := 0, pos := "law.go:103", after := #[{ on := 15, ground := Go.Ground.data }, { on := 12, ground := Go.Ground.guard }], guard := some (12, false) }) (v := ?v16_1601) rfl (by kernel_rfl) (by kernel_rfl) (by kernel_rfl) (fun _ _ _ h => h) (Or.inl ⟨by rfl, ?y16_1601⟩) hHeld ?r16_1601
            case y16_1601 => intro w hSw; (try dsimp only at hSw); go_simp; try with_reducible rfl
            try simp only [Act.put, List.setIfInBounds_toArray, List.set_cons_zero, List.set_cons_succ]
            refine wpAnyH_take (i := 17) (oi := { dst := some 105, op := Go.Op.load 36 (Go.Operand.tmp 104), type := 36, pos := "law.go:103", after := #[{ on := 16, ground := Go.Ground.data }, { on := 12, ground := Go.Ground.guard }], guard := some (12, false) }) (v := ?v17_1601) rfl (by kernel_rfl) (by kernel_rfl) (by kernel_rfl) (fun _ _ _ h => h) (Or.inl ⟨by rfl, ?y17_1601⟩) hHeld ?r17_1601
            case y17_1601 => intro w hSw; (try dsimp only at hSw); go_simp; try with_reducible rfl
            try simp only [Act.put, List.setIfInBounds_toArray, List.set_cons_zero, List.set_cons_succ]
            refine wpAnyH_ready (rs := [18]) (by kernel_rfl) (by simp) ?_
            refine AllReadyH.cons (o := { dst := some 106, op := Go.Op.buildSlice 95 1 #[(0, Go.Operand.const (Go.Value.int Go.IntKind.i64 43))], type := 95, pos := "law.go:103", after := #[{ on := 12, ground := Go.Ground.guard }], guard := some (12, false) }) rfl (fun K hK => ?_) AllReadyH.nil
            go_simp
            have hb := (Below.refl _ _ : Below we.heap.size we we).alloc (Nat.le_refl _) (.cells #[.int .i64 43] 3)
            have HL1 := Lib.hid (row_lit1 we 43 3)
            obtain ⟨wf, hwf⟩ : ∃ x, we.alloc (.cells #[.int .i64 43] 3) = x := ⟨_, rfl⟩
            rw [hwf] at hb HL1 ⊢
            obtain ⟨gf, hgf⟩ : ∃ x, we.heap.size = x := ⟨_, rfl⟩
            rw [hgf] at HL1 ⊢
            clear hwf hgf
            refine hK.out _ _ (⟨Lib.hid (hHeld.1.out.trans (hb.mono hHeld.1.out.size)), cell_later4 hb hHeld.2.1, cell_later4 hb hHeld.2.2.1, cell_later4 hb hHeld.2.2.2.1, cell_later4 hb hHeld.2.2.2.2⟩) (fun hHeld2 => ?_)
            clear hK K hHeld
            have hHeld := hHeld2
            clear hHeld2
            try simp only [Act.put, List.setIfInBounds_toArray, List.set_cons_zero, List.set_cons_succ]
            refine wpAnyH_ready (rs := [19]) (by kernel_rfl) (by simp) ?_
            refine AllReadyH.cons (o := { dst := some 107, op := Go.Op.call { callee := Go.Callee.value (Go.Operand.func 28), args := #[Go.Operand.tmp 105, Go.Operand.tmp 106], argTypes := #[36, 95] }, type := 4, pos := "law.go:103", after := #[{ on := 17, ground := Go.Ground.data }, { on := 18, ground := Go.Ground.data }, { on := 12, ground := Go.Ground.chain }, { on := 12, ground := Go.Ground.guard }], guard := some (12, false) }) rfl (fun K hK => ?_) AllReadyH.nil
            go_simp
            refine (isK ⟨sn, st, 1⟩ (some ⟨gf, 0, none⟩) 1 1 [43] wf HL1.out (by omega)).mono ?_; rintro e wg ⟨rfl, hb⟩
            rw [show decide ((⟨sn, st, 1⟩ : Ky).t ∈ [(43 : Int)]) = true from HVT.out]
            go_wp2_with fail
            refine hK.out _ _ (⟨Lib.hid (hHeld.1.out.trans (hb.mono hHeld.1.out.size)), cell_later4 hb hHeld.2.1, cell_later4 hb hHeld.2.2.1, cell_later4 hb hHeld.2.2.2.1, cell_later4 hb hHeld.2.2.2.2⟩) (fun hHeld2 => ?_)
            clear hK K hHeld
            have hHeld := hHeld2
            clear hHeld2
            try simp only [Act.put, List.setIfInBounds_toArray, List.set_cons_zero, List.set_cons_succ]
            refine wpAnyH_take (i := 20) (oi := { dst := some 108, op := Go.Op.unOp Go.UnOp.not 4 (Go.Operand.tmp 107), type := 4, pos := "law.go:103", after := #[{ on := 19, ground := Go.Ground.data }, { on := 12, ground := Go.Ground.guard }], guard := some (12, false) }) (v := ?v20_1603) rfl (by kernel_rfl) (by kernel_rfl) (by kernel_rfl) (fun _ _ _ h => h) (Or.inl ⟨by rfl, ?y20_1603⟩) hHeld ?r20_1603
            case y20_1603 => intro w hSw; (try dsimp only at hSw); go_simp; try with_reducible rfl
            try simp only [Act.put, List.setIfInBounds_toArray, List.set_cons_zero, List.set_cons_succ]
            refine wpAnyH_take (i := 21) (oi := { dst := some 109, op := Go.Op.pick (Go.Operand.tmp 100) (Go.Operand.const (Go.Value.bool true)) (Go.Operand.tmp 108), type := 4, pos := "law.go:103", after := #[{ on := 12, ground := Go.Ground.data }, { on := 20, ground := Go.Ground.data }, { on := 1, ground := Go.Ground.guard }], guard := some (1, true) }) (v := ?v21_1603) rfl (by kernel_rfl) (by kernel_rfl) (by kernel_rfl) (fun _ _ _ h => h) (Or.inl ⟨by rfl, ?y21_1603⟩) hHeld ?r21_1603
            case y21_1603 => intro w hSw; (try dsimp only at hSw); go_simp; try with_reducible rfl
            try simp only [Act.put, List.setIfInBounds_toArray, List.set_cons_zero, List.set_cons_succ]
            refine wpAnyH_take (i := 22) (oi := { dst := some 110, op := Go.Op.pick (Go.Operand.tmp 89) (Go.Operand.tmp 109) (Go.Operand.const (Go.Value.bool false)), type := 4, pos := "law.go:103", after := #[{ on := 1, ground := Go.Ground.data }, { on := 21, ground := Go.Ground.data }], guard := none }) (v := ?v22_1603) rfl (by kernel_rfl) (by kernel_rfl) (by kernel_rfl) (fun _ _ _ h => h) (Or.inl ⟨by rfl, ?y22_1603⟩) hHeld ?r22_1603
            case y22_1603 => intro w hSw; (try dsimp only at hSw); go_simp; try with_reducible rfl
            try simp only [Act.put, List.setIfInBounds_toArray, List.set_cons_zero, List.set_cons_succ]
            refine wpAnyH_take (i := 23) (oi := { dst := some 87, op := Go.Op.assign (Go.Operand.tmp 110), type := 4, pos := "law.go:103", after := #[{ on := 22, ground := Go.Ground.data }, { on := 19, ground := Go.Ground.chain }], guard := none }) (v := ?v23_1603) rfl (by kernel_rfl) (by kernel_rfl) (by kernel_rfl) (fun _ _ _ h => h) (Or.inl ⟨by rfl, ?y23_1603⟩) hHeld ?r23_1603
            case y23_1603 => intro w hSw; (try dsimp only at hSw); go_simp; try with_reducible rfl
            try simp only [Act.put, List.setIfInBounds_toArray, List.set_cons_zero, List.set_cons_succ]
            refine wpAnyH_done (by kernel_rfl) ?_ _
            have hbe := hHeld.1.out
            clear hHeld
            clear s1
            have HBE2 := Lib.hid hbe
            clear hbe
            replace Y0 := Lib.hid (cell_later4 HBE2.out Y0.out)
            replace Y1 := Lib.hid (cell_later4 HBE2.out Y1.out)
            replace Y2 := Lib.hid (cell_later4 HBE2.out Y2.out)
            replace Y3 := Lib.hid (cell_later4 HBE2.out Y3.out)
            replace Y4 := Lib.hid (cell_later4 HBE2.out Y4.out)
            replace HC10 := Lib.hid (HC10.out.below HBE2.out)
            replace KZ := Lib.hid (KZ.out.below HBE2.out)
            replace HCR := Lib.hid (HCR.out.below HBE2.out)
            replace HSRZ := Lib.hid (HSRZ.out.below HBE2.out)
            replace HU := Lib.hid (HU.out.below HBE2.out)
            replace HB6 := Lib.hid (HB6.out.trans (HBE2.out.mono HB6.out.size))
            clear HBE2
            go_upto_region 14 with (fail)
            obtain ⟨w6, hw6⟩ : ∃ x, wg = x := ⟨_, rfl⟩
            rw [hw6] at Y0 Y1 Y2 Y3 Y4 HC10 KZ HCR HSRZ HU HB6 ⊢
            clear hw6
            obtain ⟨rfl, b9, o9, p9, c9, rfl, z0, z1, z2, z3, z4, hzr, -⟩ := at_full HU.out.at
            replace hzr : RowS w6 p9 sd.length sd := hzr
            replace z4 : w6.cell? ⟨b9, o9 + 4, none⟩ = some (.slice p9 sd.length c9) := z4
            rw [show sd.length = dl from HSRZ.out.1] at hzr z4
            have HZR := Lib.hid hzr
            have Z0 := Lib.hid (show w6.cell? ⟨b9, o9, none⟩ = some (.string sn) from z0)
            have Z1 := Lib.hid (show w6.cell? ⟨b9, o9 + 1, none⟩ = some (.int .i64 st) from z1)
            have Z2 := Lib.hid (show w6.cell? ⟨b9, o9 + 2, none⟩ = some (.int .i64 1) from z2)
            have Z3 := Lib.hid (show w6.cell? ⟨b9, o9 + 3, none⟩ = some (.int .i64 su) from z3)
            have Z4 := Lib.hid z4
            clear z0 z1 z2 z3 z4 hzr
            have HSAME := Lib.hid (fun wx (hx : Below w6.heap.size w6 wx) => same_selfE sn st 1 su sd p9 pa dl c9 ca wx (HZR.out.below hx) (HSRZ.out.below hx) HDL.out)
            have hbd := (Below.refl w6.heap.size w6).drew
            obtain ⟨we, hwe⟩ : ∃ x, w6.drew = x := ⟨_, rfl⟩
            have HBE := Lib.hid (show Below w6.heap.size w6 we by rw [← hwe]; exact hbd)
            clear hbd
            refine wp_region_held_drew (S := (fun wx => Hid (Below w6.heap.size w6 wx) ∧ wx.cell? ⟨q9, 0, none⟩ = some (.int .i64 1) ∧ wx.cell? ⟨q9, 2, none⟩ = some (.slice (some ⟨b9, o9, none⟩) 1 c1) ∧ wx.cell? ⟨b9, o9, none⟩ = some (.string sn) ∧ wx.cell? ⟨b9, o9 + 1, none⟩ = some (.int .i64 st) ∧ wx.cell? ⟨b9, o9 + 2, none⟩ = some (.int .i64 1) ∧ wx.cell? ⟨b9, o9 + 3, none⟩ = some (.int .i64 su) ∧ wx.cell? ⟨b9, o9 + 4, none⟩ = some (.slice p9 dl c9) ∧ wx.cell? ⟨b, o + k * 5, none⟩ = some (.string sn) ∧ wx.cell? ⟨b, o + k * 5 + 1, none⟩ = some (.int .i64 st) ∧ wx.cell? ⟨b, o + k * 5 + 2, none⟩ = some (.int .i64 1) ∧ wx.cell? ⟨b, o + k * 5 + 3, none⟩ = some (.int .i64 su) ∧ wx.cell? ⟨b, o + k * 5 + 4, none⟩ = some (.slice pa dl ca))) (by kernel_rfl) (by rw [hwe]; exact ⟨HBE, cell_later4 HBE.out KZ.out.u5.1, cell_later4 HBE.out KZ.out.u5.2.2.1, cell_later4 HBE.out Z0.out, cell_later4 HBE.out Z1.out, cell_later4 HBE.out Z2.out, cell_later4 HBE.out Z3.out, cell_later4 HBE.out Z4.out, cell_later4 HBE.out Y0.out, cell_later4 HBE.out Y1.out, cell_later4 HBE.out Y2.out, cell_later4 HBE.out Y3.out, cell_later4 HBE.out Y4.out⟩) (fun hHeld => ?_)
            rw [hwe] at hHeld ⊢
            clear hwe
            refine wpAnyH_take (i := 0) (oi := { dst := some 66, op := Go.Op.fieldAddr 68 (Go.Operand.tmp 9) 0, type := 0, pos := "law.go:108", after := #[], guard := none }) (v := ?v0_1701) rfl (by kernel_rfl) (by kernel_rfl) (by kernel_rfl) (fun _ _ _ h => h) (Or.inl ⟨by rfl, ?y0_1701⟩) hHeld ?r0_1701
            case y0_1701 => intro w hSw; (try dsimp only at hSw); go_simp; try with_reducible rfl
            try simp only [Act.put, List.setIfInBounds_toArray, List.set_cons_zero, List.set_cons_succ]
            refine wpAnyH_take (i := 1) (oi := { dst := some 67, op := Go.Op.load 3 (Go.Operand.tmp 66), type := 3, pos := "law.go:108", after := #[{ on := 0, ground := Go.Ground.data }], guard := none }) (v := ?v1_1701) rfl (by kernel_rfl) (by kernel_rfl) (by kernel_rfl) (fun _ _ _ h => h) (Or.inl ⟨by rfl, ?y1_1701⟩) hHeld ?r1_1701
            case y1_1701 => intro w hSw; (try dsimp only at hSw); go_simp; try with_reducible rfl
            try simp only [Act.put, List.setIfInBounds_toArray, List.set_cons_zero, List.set_cons_succ]
            refine wpAnyH_take (i := 2) (oi := { dst := some 68, op := Go.Op.binOp Go.BinOp.neq 3 (Go.Operand.tmp 67) (Go.Operand.const (Go.Value.int Go.IntKind.i64 1)) 3, type := 4, pos := "law.go:108", after := #[{ on := 1, ground := Go.Ground.data }], guard := none }) (v := ?v2_1701) rfl (by kernel_rfl) (by kernel_rfl) (by kernel_rfl) (fun _ _ _ h => h) (Or.inl ⟨by rfl, ?y2_1701⟩) hHeld ?r2_1701
            case y2_1701 => intro w hSw; (try dsimp only at hSw); go_simp; try with_reducible rfl
            try simp only [Act.put, List.setIfInBounds_toArray, List.set_cons_zero, List.set_cons_succ]
            refine wpAnyH_take (i := 3) (oi := { dst := some 69, op := Go.Op.move (Go.Operand.tmp 68), type := 4, pos := "law.go:108", after := #[{ on := 2, ground := Go.Ground.data }], guard := none }) (v := ?v3_1701) rfl (by kernel_rfl) (by kernel_rfl) (by kernel_rfl) (fun _ _ _ h => h) (Or.inl ⟨by rfl, ?y3_1701⟩) hHeld ?r3_1701
            case y3_1701 => intro w hSw; (try dsimp only at hSw); go_simp; try with_reducible rfl
            try simp only [Act.put, List.setIfInBounds_toArray, List.set_cons_zero, List.set_cons_succ]
            refine wpAnyH_take (i := 4) (oi := { dst := some 70, op := Go.Op.fieldAddr 68 (Go.Operand.tmp 9) 2, type := 0, pos := "law.go:108", after := #[{ on := 3, ground := Go.Ground.guard }], guard := some (3, false) }) (v := ?v4_1701) rfl (by kernel_rfl) (by kernel_rfl) (by kernel_rfl) (fun _ _ _ h => h) (Or.inl ⟨by rfl, ?y4_1701⟩) hHeld ?r4_1701
            case y4_1701 => intro w hSw; (try dsimp only at hSw); go_simp; try with_reducible rfl
            try simp only [Act.put, List.setIfInBounds_toArray, List.set_cons_zero, List.set_cons_succ]
            refine wpAnyH_take (i := 5) (oi := { dst := some 71, op := Go.Op.load 33 (Go.Operand.tmp 70), type := 33, pos := "law.go:108", after := #[{ on := 4, ground := Go.Ground.data }, { on := 3, ground := Go.Ground.guard }], guard := some (3, false) }) (v := ?v5_1701) rfl (by kernel_rfl) (by kernel_rfl) (by kernel_rfl) (fun _ _ _ h => h) (Or.inl ⟨by rfl, ?y5_1701⟩) hHeld ?r5_1701
            case y5_1701 => intro w hSw; (try dsimp only at hSw); go_simp; try with_reducible rfl
            try simp only [Act.put, List.setIfInBounds_toArray, List.set_cons_zero, List.set_cons_succ]
            refine wpAnyH_take (i := 6) (oi := { dst := some 72, op := Go.Op.call { callee := Go.Callee.builtin Go.Builtin.len, args := #[Go.Operand.tmp 71], argTypes := #[33] }, type := 3, pos := "law.go:108", after := #[{ on := 5, ground := Go.Ground.data }, { on := 3, ground := Go.Ground.guard }], guard := some (3, false) }) (v := ?v6_1701) rfl (by kernel_rfl) (by kernel_rfl) (by kernel_rfl) (fun _ _ _ h => h) (Or.inl ⟨by rfl, ?y6_1701⟩) hHeld ?r6_1701
            case y6_1701 => intro w hSw; (try dsimp only at hSw); go_simp; try with_reducible rfl
            try simp only [Act.put, List.setIfInBounds_toArray, List.set_cons_zero, List.set_cons_succ]
            refine wpAnyH_take (i := 7) (oi := { dst := some 73, op := Go.Op.binOp Go.BinOp.neq 3 (Go.Operand.tmp 72) (Go.Operand.const (Go.Value.int Go.IntKind.i64 1)) 3, type := 4, pos := "law.go:108", after := #[{ on := 6, ground := Go.Ground.data }, { on := 3, ground := Go.Ground.guard }], guard := some (3, false) }) (v := ?v7_1701) rfl (by kernel_rfl) (by kernel_rfl) (by kernel_rfl) (fun _ _ _ h => h) (Or.inl ⟨by rfl, ?y7_1701⟩) hHeld ?r7_1701
            case y7_1701 => intro w hSw; (try dsimp only at hSw); go_simp; try with_reducible rfl
            try simp only [Act.put, List.setIfInBounds_toArray, List.set_cons_zero, List.set_cons_succ]
            refine wpAnyH_take (i := 8) (oi := { dst := some 74, op := Go.Op.pick (Go.Operand.tmp 69) (Go.Operand.const (Go.Value.bool true)) (Go.Operand.tmp 73), type := 4, pos := "law.go:108", after := #[{ on := 3, ground := Go.Ground.data }, { on := 7, ground := Go.Ground.data }], guard := none }) (v := ?v8_1701) rfl (by kernel_rfl) (by kernel_rfl) (by kernel_rfl) (fun _ _ _ h => h) (Or.inl ⟨by rfl, ?y8_1701⟩) hHeld ?r8_1701
            case y8_1701 => intro w hSw; (try dsimp only at hSw); go_simp; try with_reducible rfl
            try simp only [Act.put, List.setIfInBounds_toArray, List.set_cons_zero, List.set_cons_succ]
            refine wpAnyH_take (i := 9) (oi := { dst := some 75, op := Go.Op.move (Go.Operand.tmp 74), type := 4, pos := "law.go:108", after := #[{ on := 8, ground := Go.Ground.data }, { on := 3, ground := Go.Ground.chain }], guard := none }) (v := ?v9_1701) rfl (by kernel_rfl) (by kernel_rfl) (by kernel_rfl) (fun _ _ _ h => h) (Or.inl ⟨by rfl, ?y9_1701⟩) hHeld ?r9_1701
            case y9_1701 => intro w hSw; (try dsimp only at hSw); go_simp; try with_reducible rfl
            try simp only [Act.put, List.setIfInBounds_toArray, List.set_cons_zero, List.set_cons_succ]
            refine wpAnyH_take (i := 10) (oi := { dst := some 76, op := Go.Op.fieldAddr 68 (Go.Operand.tmp 9) 2, type := 0, pos := "law.go:108", after := #[{ on := 9, ground := Go.Ground.guard }], guard := some (9, false) }) (v := ?v10_1701) rfl (by kernel_rfl) (by kernel_rfl) (by kernel_rfl) (fun _ _ _ h => h) (Or.inl ⟨by rfl, ?y10_1701⟩) hHeld ?r10_1701
            case y10_1701 => intro w hSw; (try dsimp only at hSw); go_simp; try with_reducible rfl
            try simp only [Act.put, List.setIfInBounds_toArray, List.set_cons_zero, List.set_cons_succ]
            refine wpAnyH_take (i := 11) (oi := { dst := some 77, op := Go.Op.load 33 (Go.Operand.tmp 76), type := 33, pos := "law.go:108", after := #[{ on := 10, ground := Go.Ground.data }, { on := 9, ground := Go.Ground.guard }], guard := some (9, false) }) (v := ?v11_1701) rfl (by kernel_rfl) (by kernel_rfl) (by kernel_rfl) (fun _ _ _ h => h) (Or.inl ⟨by rfl, ?y11_1701⟩) hHeld ?r11_1701
            case y11_1701 => intro w hSw; (try dsimp only at hSw); go_simp; try with_reducible rfl
            try simp only [Act.put, List.setIfInBounds_toArray, List.set_cons_zero, List.set_cons_succ]
            refine wpAnyH_take (i := 12) (oi := { dst := some 78, op := Go.Op.indexAddr 33 (Go.Operand.tmp 77) (Go.Operand.const (Go.Value.int Go.IntKind.i64 0)), type := 0, pos := "law.go:108", after := #[{ on := 11, ground := Go.Ground.data }, { on := 9, ground := Go.Ground.guard }], guard := some (9, false) }) (v := ?v12_1701) rfl (by kernel_rfl) (by kernel_rfl) (by kernel_rfl) (fun _ _ _ h => h) (Or.inl ⟨by rfl, ?y12_1701⟩) hHeld ?r12_1701
            case y12_1701 => intro w hSw; (try dsimp only at hSw); go_simp; try with_reducible rfl
            try simp only [Act.put, List.setIfInBounds_toArray, List.set_cons_zero, List.set_cons_succ]
            refine wpAnyH_take (i := 13) (oi := { dst := some 79, op := Go.Op.load 39 (Go.Operand.tmp 78), type := 39, pos := "law.go:108", after := #[{ on := 12, ground := Go.Ground.data }, { on := 9, ground := Go.Ground.guard }], guard := some (9, false) }) (v := ?v13_1701) rfl (by kernel_rfl) (by kernel_rfl) (by kernel_rfl) (fun _ _ _ h => h) (Or.inl ⟨by rfl, ?y13_1701⟩) hHeld ?r13_1701
            case y13_1701 => intro w hSw; (try dsimp only at hSw); go_simp; try with_reducible rfl
            try simp only [Act.put, List.setIfInBounds_toArray, List.set_cons_zero, List.set_cons_succ]
            refine wpAnyH_take (i := 14) (oi := { dst := some 80, op := Go.Op.move (Go.Operand.tmp 7), type := 33, pos := "law.go:108", after := #[{ on := 9, ground := Go.Ground.guard }], guard := some (9, false) }) (v := ?v14_1701) rfl (by kernel_rfl) (by kernel_rfl) (by kernel_rfl) (fun _ _ _ h => h) (Or.inl ⟨by rfl, ?y14_1701⟩) hHeld ?r14_1701
            case y14_1701 => intro w hSw; (try dsimp only at hSw); go_simp; try with_reducible rfl
            try simp only [Act.put, List.setIfInBounds_toArray, List.set_cons_zero, List.set_cons_succ]
            refine wpAnyH_take (i := 15) (oi := { dst := some 81, op := Go.Op.move (Go.Operand.tmp 8), type := 3, pos := "law.go:108", after := #[{ on := 9, ground := Go.Ground.guard }], guard := some (9, false) }) (v := ?v15_1701) rfl (by kernel_rfl) (by kernel_rfl) (by kernel_rfl) (fun _ _ _ h => h) (Or.inl ⟨by rfl, ?y15_1701⟩) hHeld ?r15_1701
            case y15_1701 => intro w hSw; (try dsimp only at hSw); go_simp; try with_reducible rfl
            try simp only [Act.put, List.setIfInBounds_toArray, List.set_cons_zero, List.set_cons_succ]
            refine wpAnyH_take (i := 16) (oi := { dst := some 82, op := Go.Op.indexAddr 33 (Go.Operand.tmp 80) (Go.Operand.tmp 81), type := 0, pos := "law.go:108", after := #[{ on := 14, ground := Go.Ground.data }, { on := 15, ground := Go.Ground.data }, { on := 9, ground := Go.Ground.guard }], guard := some (9, false) }) (v := ?v16_1701) rfl (by kernel_rfl) (by kernel_rfl) (by kernel_rfl) (fun _ _ _ h => h) (Or.inl ⟨by rfl, ?y16_1701⟩) hHeld ?r16_1701
            case y16_1701 => intro w hSw; (try dsimp only at hSw); go_simp; try with_reducible rfl
            try simp only [Act.put, List.setIfInBounds_toArray, List.set_cons_zero, List.set_cons_succ]
            refine wpAnyH_take (i := 17) (oi := { dst := some 83, op := Go.Op.load 39 (Go.Operand.tmp 82), type := 39, pos := "law.go:108", after := #[{ on := 16, ground := Go.Ground.data }, { on := 9, ground := Go.Ground.guard }], guard := some (9, false) }) (v := ?v17_1701) rfl (by kernel_rfl) (by kernel_rfl) (by kernel_rfl) (fun _ _ _ h => h) (Or.inl ⟨by rfl, ?y17_1701⟩) hHeld ?r17_1701
            case y17_1701 => intro w hSw; (try dsimp only at hSw); go_simp; try with_reducible rfl
            try simp only [Act.put, List.setIfInBounds_toArray, List.set_cons_zero, List.set_cons_succ]
            refine wpAnyH_ready (rs := [18]) (by kernel_rfl) (by simp) ?_
            refine AllReadyH.cons (o := { dst := some 84, op := Go.Op.call { callee := Go.Callee.value (Go.Operand.func 31), args := #[Go.Operand.tmp 79, Go.Operand.tmp 83], argTypes := #[39, 39] }, type := 4, pos := "law.go:108", after := #[{ on := 13, ground := Go.Ground.data }, { on := 17, ground := Go.Ground.data }, { on := 9, ground := Go.Ground.chain }, { on := 9, ground := Go.Ground.guard }], guard := some (9, false) }) rfl (fun K hK => ?_) AllReadyH.nil
            go_simp
            refine (HSAME.out _ hHeld.1.out).mono ?_; rintro e wg ⟨rfl, hb⟩
            go_wp2_with fail
            refine hK.out _ _ (⟨Lib.hid (hHeld.1.out.trans (hb.mono hHeld.1.out.size)), cell_later4 hb hHeld.2.1, cell_later4 hb hHeld.2.2.1, cell_later4 hb hHeld.2.2.2.1, cell_later4 hb hHeld.2.2.2.2.1, cell_later4 hb hHeld.2.2.2.2.2.1, cell_later4 hb hHeld.2.2.2.2.2.2.1, cell_later4 hb hHeld.2.2.2.2.2.2.2.1, cell_later4 hb hHeld.2.2.2.2.2.2.2.2.1, cell_later4 hb hHeld.2.2.2.2.2.2.2.2.2.1, cell_later4 hb hHeld.2.2.2.2.2.2.2.2.2.2.1, cell_later4 hb hHeld.2.2.2.2.2.2.2.2.2.2.2.1, cell_later4 hb hHeld.2.2.2.2.2.2.2.2.2.2.2.2⟩) (fun hHeld2 => ?_)
            clear hK K hHeld
            have hHeld := hHeld2
            clear hHeld2
            try simp only [Act.put, List.setIfInBounds_toArray, List.set_cons_zero, List.set_cons_succ]
            refine wpAnyH_take (i := 19) (oi := { dst := some 85, op := Go.Op.unOp Go.UnOp.not 4 (Go.Operand.tmp 84), type := 4, pos := "law.go:108", after := #[{ on := 18, ground := Go.Ground.data }, { on := 9, ground := Go.Ground.guard }], guard := some (9, false) }) (v := ?v19_1702) rfl (by kernel_rfl) (by kernel_rfl) (by kernel_rfl) (fun _ _ _ h => h) (Or.inl ⟨by rfl, ?y19_1702⟩) hHeld ?r19_1702
            case y19_1702 => intro w hSw; (try dsimp only at hSw); go_simp; try with_reducible rfl
            try simp only [Act.put, List.setIfInBounds_toArray, List.set_cons_zero, List.set_cons_succ]
            refine wpAnyH_take (i := 20) (oi := { dst := some 86, op := Go.Op.pick (Go.Operand.tmp 75) (Go.Operand.const (Go.Value.bool true)) (Go.Operand.tmp 85), type := 4, pos := "law.go:108", after := #[{ on := 9, ground := Go.Ground.data }, { on := 19, ground := Go.Ground.data }], guard := none }) (v := ?v20_1702) rfl (by kernel_rfl) (by kernel_rfl) (by kernel_rfl) (fun _ _ _ h => h) (Or.inl ⟨by rfl, ?y20_1702⟩) hHeld ?r20_1702
            case y20_1702 => intro w hSw; (try dsimp only at hSw); go_simp; try with_reducible rfl
            try simp only [Act.put, List.setIfInBounds_toArray, List.set_cons_zero, List.set_cons_succ]
            refine wpAnyH_done (by kernel_rfl) ?_ _
            have hbe := hHeld.1.out
            clear hHeld
            have HBN := Lib.hid (HB6.out.trans (hbe.mono HB6.out.size))
            clear hbe
            go_wp2
            go_roundw
            case rel => exact ⟨k + 1, by have := HLT.out; omega, by have := HLT.out; go_num, HBN⟩
            case measure => have := HLT.out; simp [intOf]; omega
    · have HB5 := Lib.hid (HB4.out.trans (hbw.out.mono HB4.out.size))
      have HOK5 := Lib.hid (HOK4.out.below hbw.out)
      obtain rfl : k = m := by omega
      clear hlt hk hbw
      go_wp2_with fail
      refine (first11 _).mono ?_; rintro e w9 ⟨rfl, hb⟩
      have HB9 := Lib.hid (HB5.out.trans (hb.mono HB5.out.size))
      have HZ9 := Lib.hid (HOK5.out.is.below hb)
      clear hb
      go_wp2_with fail
      refine (zapex_any z apex S _ HZ9.out).mono ?_; rintro e w10 ⟨rfl, rfl⟩
      go_wp2
      go_ret
      exact ⟨rfl, HB9.out⟩
end Go.Proofs.Ytgdhbelcellabaa
