/- Zones: key, Apex, Records, Len, There. -/
import Derived.Test.YthfnphcefkdgbaaGreatMgA
import Derived.Test.YthfnphcefkdgbaaGreatZnA
import Derived.Test.YthfnphcefkdgbaaGreatMgM
namespace Go.Proofs.YthfnphcefkdgbaaGreat
open Go.RowKit
theorem cell_later4 {w wx : World} {a : Addr} {v : Value} (hb : Below w.heap.size w wx) (h : w.cell? a = some v) : wx.cell? a = some v := (hb.cell (World.block_lt_of_cell? _ _ h)).trans h
set_option maxRecDepth 100000 in
theorem zkey_any (n : ByteArray) (k : Int) (w : World) : Calls Tryz.prog 67 #[.string n, .int .i64 k] w fun e w' => e = .returned (.agg #[.string n, .int .i64 k, .int .i64 1]) ∧ Below w.heap.size w w' := by
 go_enter Tryz.func67, Tryz.ntmps67
 go_wp2
 refine bodyPost_ret (v := .agg #[.string n, .int .i64 k, .int .i64 1]) (by simp [results, Tryz.results67, go_sem]) rfl ⟨rfl, ?_⟩
 repeat (first | exact Below.refl _ _ | refine Below.alloc ?_ (by simp) _ | refine Below.setCell ?_ (by simp) _)
set_option maxRecDepth 100000 in
theorem akey_any (n : ByteArray) (k : Int) (w : World) : Calls Tryz.prog 76 #[.string n, .int .i64 k] w fun e w' => e = .returned (.agg #[.string n, .int .i64 k, .int .i64 1]) ∧ Below w.heap.size w w' := by
 go_enter Tryz.func76, Tryz.ntmps76
 go_wp2
 refine bodyPost_ret (v := .agg #[.string n, .int .i64 k, .int .i64 1]) (by simp [results, Tryz.results76, go_sem]) rfl ⟨rfl, ?_⟩
 repeat (first | exact Below.refl _ _ | refine Below.alloc ?_ (by simp) _ | refine Below.setCell ?_ (by simp) _)
set_option maxRecDepth 100000 in
theorem zapex_any (z : Nat) (apex : ByteArray) (S : List SetP) (w : World) (h : ZnAt w z apex S) : Calls Tryz.prog 18 #[.pointer (some ⟨z, 0, none⟩)] w fun e w' => e = .returned (.string apex) ∧ w = w' := by
 obtain ⟨a, c, hz, -⟩ := h
 obtain ⟨y0, -⟩ := hz.w2
 clear hz
 go_enter Tryz.func18, Tryz.ntmps18
 go_wp2
 go_ret
 exact ⟨rfl, rfl⟩
theorem sumD_le_z {S : List SetP} {m k : Nat} (hm : S.length ≤ m) (hk : ∀ s ∈ S, s.data.length ≤ k) : sumD S ≤ m * k := by
 have h1 : sumD S ≤ S.length * k := by
  clear hm
  induction S with
  | nil => simp [sumD]
  | cons s S ih =>
   rw [sumD, List.length_cons, Nat.succ_mul]
   have := ih (fun t ht => hk t (List.mem_cons_of_mem _ ht))
   have := hk s (List.mem_cons_self ..)
   omega
 exact Nat.le_trans h1 (Nat.mul_le_mul_right _ hm)
theorem sum_take (S : List SetP) (k : Nat) (s : SetP) (h : S[k]? = some s) : sumD (S.take (k + 1)) = sumD (S.take k) + s.data.length := by
 rw [List.take_add_one, h, sumD_append]
 rfl
theorem sum_take_le (S : List SetP) (k : Nat) : sumD (S.take k) ≤ sumD S := by
 have h := sumD_append (S.take k) (S.drop k)
 rw [List.take_append_drop] at h
 omega
noncomputable def thereP (S : List SetP) (n : ByteArray) : Bool := S.any (fun s => undS s.k.n n)
set_option maxRecDepth 100000 in
theorem there1_any (sn : ByteArray) (st sc su : Int) (a : Option Addr) (l c : Nat) (n : ByteArray) (g : Nat) (w : World) (hk : w.cell? ⟨g, 0, none⟩ = some (.string n)) (hs : sn.size ≤ 1000000) (hn : n.size ≤ 1000000) :
  Calls Tryz.prog 75 #[.agg #[.string sn, .int .i64 st, .int .i64 sc, .int .i64 su, .slice a l c], .pointer (some ⟨g, 0, none⟩)] w fun e w' => e = .returned (.bool (undS sn n)) ∧ Below w.heap.size w w' := by
 have hba := (Below.refl w.heap.size w).alloc (Nat.le_refl _) (.cells #[.string sn, .int .i64 st, .int .i64 sc, .int .i64 su, .slice a l c] 38)
 have HB := Lib.hid hba
 have HU := Lib.hid (fun wx => under_any sn n wx hs hn)
 have m0 := cell_later4 hba hk
 obtain ⟨u, hu⟩ : ∃ x, undS sn n = x := ⟨_, rfl⟩
 rw [hu] at HU ⊢
 clear hba hk hs hn hu
 go_enter Tryz.func75, Tryz.ntmps75
 go_wp2_with fail
 refine (HU.out _).mono ?_; rintro e w2 ⟨rfl, rfl⟩
 clear m0
 go_wp2
 go_ret
 exact ⟨rfl, HB.out⟩
set_option maxRecDepth 100000 in
set_option maxHeartbeats 1600000 in
theorem ixz_any (a : Option Addr) (len cap : Nat) (S : List SetP) (n : ByteArray) (g : Nat) (w : World) (h : SetsAt w a len S) (hlen : len ≤ 100000) (hz : ∀ s ∈ S, s.k.n.size ≤ 1000000) (hk : w.cell? ⟨g, 0, none⟩ = some (.string n)) (hn : n.size ≤ 1000000) :
  Calls Tryz.prog 121 #[.slice a len cap, .func (Fn.func 75) #[] #[.pointer (some ⟨g, 0, none⟩)]] w fun e w' => (∃ i : Int, e = .returned (.int .i64 i) ∧ decide (0 ≤ i) = thereP S n) ∧ Below w.heap.size w w' := by
 have HR := Lib.hid h
 have HL := Lib.hid h.1
 have HZ := Lib.hid hz
 have HK := Lib.hid hk
 clear h hz hk
 go_enter Tryz.func121, Tryz.ntmps121
 go_wp2_with fail
 go_loopw [8] (fun i wr => ∃ k : Nat, k ≤ len ∧ i = .int .i64 k ∧ Hid (∀ s ∈ S.take k, undS s.k.n n = false) ∧ Hid (Below w.heap.size w wr)) (fun i _ => len - (intOf i).toNat)
 case atStart => exact ⟨0, Nat.zero_le _, rfl, Lib.hid (fun s hs => by simp at hs), Lib.hid (Below.refl _ _)⟩
 case round =>
  obtain ⟨k, hk, rfl, HF, hbw⟩ := hrel
  by_cases hlt : k < len
  · rcases (HR.out.below hbw.out).2 with h9 | ⟨b, o, rfl, hbl, hc⟩
    · omega
    obtain ⟨p, c9, hs⟩ := hc k hlt
    have hLk : S[k]? = some (S.getD k ssD) := by
      rw [List.getD_eq_getElem?_getD, List.getElem?_eq_getElem (by have := HL.out; omega)]; rfl
    obtain ⟨s, hss⟩ : ∃ s, S.getD k ssD = s := ⟨_, rfl⟩
    rw [hss] at hs hLk
    have HLK := Lib.hid hLk
    have hsz := HZ.out s (List.mem_of_getElem? hLk)
    have HMEM := Lib.hid (List.mem_of_getElem? hLk)
    obtain ⟨⟨sn, st, sc1⟩, su, sd⟩ := s
    obtain ⟨dl, hdl2⟩ : ∃ x, sd.length = x := ⟨_, rfl⟩
    obtain ⟨c0, c1, c2, c3, c4, -, -⟩ := hs
    replace c0 : wr.cell? ⟨b, o + k * 5, none⟩ = some (.string sn) := c0
    replace c1 : wr.cell? ⟨b, o + k * 5 + 1, none⟩ = some (.int .i64 st) := c1
    replace c2 : wr.cell? ⟨b, o + k * 5 + 2, none⟩ = some (.int .i64 sc1) := c2
    replace c3 : wr.cell? ⟨b, o + k * 5 + 3, none⟩ = some (.int .i64 su) := c3
    replace c4 : wr.cell? ⟨b, o + k * 5 + 4, none⟩ = some (.slice p sd.length c9) := c4
    rw [hdl2] at c4
    have HC := Lib.hid (there1_any sn st sc1 su p dl c9 n g wr (cell_later4 hbw.out HK.out) hsz hn)
    obtain ⟨u, hu⟩ : ∃ x, undS sn n = x := ⟨_, rfl⟩
    rw [hu] at HC
    have HUU := Lib.hid hu
    have i1 : (0 : Int) ≤ (k : Int) := by omega
    have i2 : (k : Int) < (len : Int) := by omega
    have d0 : decide (k < len) = true := dT hlt
    clear hc hss hdl2 hLk hbl hu hsz
    go_wp2_with fail
    refine HC.out.mono ?_; rintro e w2 ⟨rfl, hb2⟩
    have HB2 := Lib.hid (hbw.out.trans (hb2.mono hbw.out.size))
    clear hb2 c0 c1 c2 c3 c4
    cases u
    · go_wp2
      go_roundw
      case rel => exact ⟨k + 1, by omega, by go_num, Lib.hid (fun s hs => by
       rw [List.take_add_one, HLK.out] at hs
       rcases List.mem_append.1 hs with h1 | h1
       · exact HF.out s h1
       · obtain rfl := List.mem_singleton.1 h1; exact HUU.out), HB2⟩
      case measure => simp only [intOf]; omega
    · go_wp2
      go_ret
      exact ⟨⟨(k : Int), rfl, by
       rw [show thereP S n = true from List.any_eq_true.2 ⟨_, HMEM.out, HUU.out⟩]
       exact dT (by omega)⟩, HB2.out⟩
  · have d0 : decide (k < len) = false := dF hlt
    have hkn : k = len := by omega
    subst hkn
    clear hlt
    go_wp2
    go_ret
    exact ⟨⟨-1, rfl, by
      rw [show thereP S n = false from by
       rw [thereP, List.any_eq_false]
       intro s hs
       rw [HF.out s (by rw [List.take_of_length_le (by rw [HL.out]; exact Nat.le_refl _)]; exact hs)]
       simp]
      rfl⟩, hbw.out⟩
set_option maxRecDepth 100000 in
theorem cfz_any (a : Option Addr) (len cap : Nat) (S : List SetP) (n : ByteArray) (g : Nat) (w : World) (h : SetsAt w a len S) (hlen : len ≤ 100000) (hz : ∀ s ∈ S, s.k.n.size ≤ 1000000) (hk : w.cell? ⟨g, 0, none⟩ = some (.string n)) (hn : n.size ≤ 1000000) :
  Calls Tryz.prog 74 #[.slice a len cap, .func (Fn.func 75) #[] #[.pointer (some ⟨g, 0, none⟩)]] w fun e w' => e = .returned (.bool (thereP S n)) ∧ Below w.heap.size w w' := by
 have HC := Lib.hid (ixz_any a len cap S n g w h hlen hz hk hn)
 clear h hz hk
 obtain ⟨u, hu⟩ : ∃ x, thereP S n = x := ⟨_, rfl⟩
 rw [hu] at HC ⊢
 clear hu
 go_enter Tryz.func74, Tryz.ntmps74
 go_wp2_with fail
 refine HC.out.mono ?_; rintro e w2 ⟨⟨i, rfl, hi⟩, hb2⟩
 have HB2 := Lib.hid hb2
 clear hb2
 go_wp2
 go_ret
 exact ⟨rfl, HB2.out⟩
set_option maxRecDepth 100000 in
set_option maxHeartbeats 1600000 in
theorem zthere_any (z : Nat) (apex : ByteArray) (S : List SetP) (n : ByteArray) (w : World) (h : ZnAt w z apex S) (hz : SzZ S) (ha : apex.size ≤ 1000000) (hn : n.size ≤ 1000000) : Calls Tryz.prog 30 #[.pointer (some ⟨z, 0, none⟩), .string n] w fun e w' => e = .returned (.bool (undS n apex && thereP S n)) ∧ Below w.heap.size w w' := by
 obtain ⟨a, c, h2, hsa⟩ := h
 have hb1 := (Below.refl w.heap.size w).alloc (Nat.le_refl _) (.cells #[.string n] 9)
 have HB := Lib.hid hb1
 have h3 := h2.below hb1
 have HCN := Lib.hid h3
 have HUN := Lib.hid (fun wx => under_any n apex wx hn ha)
 have hcn : (w.alloc (.cells #[.string n] 9)).cell? ⟨w.heap.size, 0, none⟩ = some (.string n) := by rw [World.cell?_alloc_new]; rfl
 have HCQ := Lib.hid hcn
 have HSA := Lib.hid hsa
 have HLN := Lib.hid hz.1
 have HSN := Lib.hid (fun s hs => (hz.2 s hs).1)
 obtain ⟨u, hu⟩ : ∃ x, undS n apex = x := ⟨_, rfl⟩
 rw [hu] at HUN ⊢
 obtain ⟨t, ht⟩ : ∃ x, thereP S n = x := ⟨_, rfl⟩
 have HTT := Lib.hid ht
 rw [ht]
 clear ht
 obtain ⟨len, hlen⟩ : ∃ x, S.length = x := ⟨_, rfl⟩
 rw [hlen] at HSA HCN HLN
 clear h2 hsa h3 hb1 hcn hz ha hu hlen
 go_enter Tryz.func30, Tryz.ntmps30
 go_upto_region 1 with (fail)
 obtain ⟨w1, hw1⟩ : ∃ x, (w.alloc (.cells #[.string n] 9)) = x := ⟨_, rfl⟩
 rw [hw1] at HB HCN HCQ ⊢
 clear hw1
 obtain ⟨q, hq⟩ : ∃ q, w.heap.size = q := ⟨_, rfl⟩
 have HQ := Lib.hid hq
 rw [show (Value.pointer (some { block := w.heap.size, off := 0 })) = Value.pointer (some { block := q, off := 0 }) by rw [hq]]
 rw [hq] at HCQ
 clear hq
 have HBD := Lib.hid ((Below.refl w1.heap.size w1).drew)
 refine wp_region_held_drew (S := (fun wx => Hid (Below w1.heap.size w1 wx) ∧ wx.cell? ⟨q, 0, none⟩ = some (.string n) ∧ wx.cell? ⟨z, 0, none⟩ = some (.string apex))) (by kernel_rfl) (⟨HBD, cell_later4 HBD.out HCQ.out, cell_later4 HBD.out HCN.out.w2.1⟩) (fun hHeld => ?_)
 refine Plan.of [0, 1, 2, 3, 4] ?_
 iterate 5 (refine Plan.w (v := ?_) rfl hHeld (by rfl) ?_ ?_; rotate_left; (focus (intro w hSw; (try dsimp only at hSw); go_simp; try with_reducible rfl)); try simp only [Act.put, List.setIfInBounds_toArray, List.set_cons_zero, List.set_cons_succ])
 refine Plan.fin ?_
 refine wpAnyH_ready (rs := [5]) (by kernel_rfl) (by simp) ?_
 refine AllReadyH.cons (o := { dst := some 10, op := Go.Op.call { callee := Go.Callee.value (Go.Operand.func 66), args := #[Go.Operand.tmp 5, Go.Operand.tmp 9], argTypes := #[9, 9] }, type := 4, pos := "zone.go:110", after := #[{ on := 0, ground := Go.Ground.data }, { on := 4, ground := Go.Ground.data }], guard := none }) rfl (fun K hK => ?_) AllReadyH.nil
 go_simp
 refine (HUN.out _).mono ?_; rintro e wy ⟨rfl, rfl⟩
 go_wp2_with fail
 refine hK.out _ _ (hHeld) (fun hHeld2 => ?_)
 clear hK K hHeld
 have hHeld := hHeld2
 clear hHeld2
 try simp only [Act.put, List.setIfInBounds_toArray, List.set_cons_zero, List.set_cons_succ]
 refine Plan.of [6] ?_
 refine Plan.w (v := ?_) rfl hHeld (by rfl) ?_ ?_; rotate_left; (focus (intro w hSw; (try dsimp only at hSw); go_simp; try with_reducible rfl)); try simp only [Act.put, List.setIfInBounds_toArray, List.set_cons_zero, List.set_cons_succ]
 refine Plan.fin ?_
 refine wpAnyH_done (by kernel_rfl) ?_ _
 have HBX := Lib.hid (HB.out.trans (HBD.out.mono HB.out.size))
 have HCF := Lib.hid (cfz_any a len c S n q _ (HSA.out.below HBX.out) HLN.out HSN.out hHeld.2.1 hn)
 have y1 := (HCN.out.below HBD.out).w2.2
 obtain ⟨w2, hw2⟩ : ∃ x, w1.drew = x := ⟨_, rfl⟩
 rw [hw2] at HBX HCF y1 ⊢
 rw [HTT.out] at HCF
 clear hHeld HBD HCN HCQ hw2 HTT HB HSA HUN HQ
 cases u
 · go_wp2
   go_ret
   exact ⟨rfl, HBX.out⟩
 · go_wp2_with fail
   refine HCF.out.mono ?_; rintro e w3 ⟨rfl, hb⟩
   have HB3 := Lib.hid (HBX.out.trans (hb.mono HBX.out.size))
   clear hb y1
   go_wp2
   go_ret
   exact ⟨rfl, HB3.out⟩
end Go.Proofs.YthfnphcefkdgbaaGreat
