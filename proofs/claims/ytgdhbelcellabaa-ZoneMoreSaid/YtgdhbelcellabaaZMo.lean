/- ZoneMore: the walk. -/
import Derived.Test.YtgdhbelcellabaaZMq
import Derived.Test.YtgdhbelcellabaaCpR
namespace Go.Proofs.Ytgdhbelcellabaa
open Go.RowKit

theorem newR_any {apex : ByteArray} {l : List R5} {w w' : World} {e : Ending} (h : NewR apex l w e w') : ∃ p x, e = .returned (.tuple #[.pointer p, .int .i64 x]) := by
  obtain ⟨h, -⟩ := h.two
  rcases h with ⟨x, -, rfl⟩ | ⟨z, S, rfl, -, -⟩
  · exact ⟨_, _, rfl⟩
  · exact ⟨_, _, rfl⟩
theorem found_any {L : List SetP} {k : Ky} {B : Nat} {e : Ending} {w' : World} (h : Found L k B e w') : ∃ n t c u va vn vc b, e = .returned (.tuple #[.agg #[.string n, .int .i64 t, .int .i64 c, .int .i64 u, .slice va vn vc], .bool b]) ∧ b = (findK L k).isSome := by
  rcases h with ⟨s, dv, hf, rfl, ho⟩ | ⟨hf, rfl⟩
  · obtain ⟨a, c, rfl, -⟩ := cells_own ho
    exact ⟨_, _, _, _, _, _, _, _, rfl, by rw [hf]; rfl⟩
  · exact ⟨_, _, _, _, _, _, _, _, rfl, by rw [hf]; rfl⟩
theorem more_found {l : List R5} {r : R5} {A B : List SetP} (ha : Canon l A) (hb : Canon (l ++ [r]) B) {s : SetP} (hs : s ∈ A) : ∃ t, findK B s.k = some t ∧ (s.k ≠ r.k → t = s) := by
  by_cases hk : s.k = r.k
  · obtain ⟨t, ht, hk2⟩ := more_set hb
    have h1 := find_some_of hb ht
    rw [hk2] at h1
    exact ⟨t, by rw [hk]; exact h1, fun h => absurd hk h⟩
  · exact ⟨s, find_some_of hb ((more_mem ha hb hk).1 hs), fun _ => rfl⟩
theorem more_last {l : List R5} {r : R5} {B : List SetP} (hb : Canon (l ++ [r]) B) : ∃ t, findK B r.k = some t ∧ memS r.d t.data = true := by
  obtain ⟨s, hs, k1, k2⟩ := (hb.mem r.k r.d).2 ⟨r, by simp, rfl, rfl⟩
  have h1 := find_some_of hb hs
  rw [k1] at h1
  exact ⟨s, h1, memS_t k2⟩
theorem more_soa {apex : ByteArray} {l : List R5} {r : R5} {A B : List SetP} (ha : Canon l A) (hb : Canon (l ++ [r]) B) {s : SetP} (hs : findK A ⟨apex, 6, 1⟩ = some s) (h6 : r.k.t ≠ 6) : findK B ⟨apex, 6, 1⟩ = some s := by
  have h1 := find_key hs
  have h2 := (more_mem ha hb (s := s) (by rw [h1]; intro e; exact h6 (by rw [← e]))).1 (find_mem hs)
  have h3 := find_some_of hb h2
  rw [h1] at h3; exact h3
theorem soa_nequal (a b : ByteArray) (x1 x2 x3 x4 x5 : Int) (W : World) : (binOp .neq 48 (.agg #[.string a, .string b, .int .i64 x1, .int .i64 x2, .int .i64 x3, .int .i64 x4, .int .i64 x5]) (.agg #[.string a, .string b, .int .i64 x1, .int .i64 x2, .int .i64 x3, .int .i64 x4, .int .i64 x5])).run Try.prog W = .ok (.bool false) W := by
  have h := soa_equal a b x1 x2 x3 x4 x5 W
  rw [run_eql_struct] at h
  rw [run_neq_struct]
  revert h
  generalize (Op.equalIn 10000 48 (.agg #[.string a, .string b, .int .i64 x1, .int .i64 x2, .int .i64 x3, .int .i64 x4, .int .i64 x5]) (.agg #[.string a, .string b, .int .i64 x1, .int .i64 x2, .int .i64 x3, .int .i64 x4, .int .i64 x5])).run Try.prog W = R
  intro h
  first | (cases R <;> simp_all) | simp_all
theorem same_self (n : ByteArray) (t k u : Int) (d : List ByteArray) (pa pb : Option Addr) (dl ca cb : Nat) (w : World) (h1 : RowS w pa dl d) (h2 : RowS w pb dl d) (hl : dl ≤ 100000) : Calls Try.prog 31 #[.agg #[.string n, .int .i64 t, .int .i64 k, .int .i64 u, .slice pa dl ca], .agg #[.string n, .int .i64 t, .int .i64 k, .int .i64 u, .slice pb dl cb]] w fun e w' => e = .returned (.bool true) ∧ Below w.heap.size w w' := by
  have hd := h1.1
  subst hd
  have h := same_any ⟨⟨n, t, k⟩, u, d⟩ ⟨⟨n, t, k⟩, u, d⟩ pa pb ca cb w h1 h2 (by show d.length ≤ 1000000; omega)
  rw [(sameP_iff _ _).2 rfl] at h
  exact h
theorem str_ne {a b : ByteArray} (h : a ≠ b) : (a.toList == b.toList) = false := beq_eq_false_iff_ne.2 (fun e => h (toList_injR e))
theorem str_eq {a b : ByteArray} (h : a = b) : (a.toList == b.toList) = true := by rw [h]; simp
set_option maxRecDepth 100000 in
set_option maxHeartbeats 8000000 in
theorem walkZMore (apex : ByteArray) (a : Option Addr) (n c : Nat) (l : List R5) (rn : ByteArray) (rt rc ru : Int) (rd : ByteArray) (w : World) (h : RowR w a n l) (hn : a = none → n = 0 ∧ c = 0) (hlen : n ≤ 9223372036854775807) (hsz : ∀ r ∈ l, SzR r) (hszr : SzR ⟨⟨rn, rt, rc⟩, ru, rd⟩) (ha : apex.size ≤ 9223372036854775807) :
    Calls Try.prog 5 #[.string apex, .slice a n c, .agg #[.string rn, .int .i64 rt, .int .i64 rc, .int .i64 ru, .string rd]] w fun e w' => e = .returned (.bool true) ∧ Below w.heap.size w w' := by
  have HR := Lib.hid h
  have HN := Lib.hid hn
  have HSZ := Lib.hid hsz
  have HSZR := Lib.hid hszr
  have HLN := Lib.hid h.1
  have HQ0 := Lib.hid (CN.new w #[.string rn, .int .i64 rt, .int .i64 rc, .int .i64 ru, .string rd] 45)
  replace HQ0 : Hid (CN (w.alloc (.cells #[.string rn, .int .i64 rt, .int .i64 rc, .int .i64 ru, .string rd] 45)) w.heap.size [.string rn, .int .i64 rt, .int .i64 rc, .int .i64 ru, .string rd]) := HQ0
  have HB0 := Lib.hid ((Below.refl w.heap.size w).alloc (Nat.le_refl _) (.cells #[.string rn, .int .i64 rt, .int .i64 rc, .int .i64 ru, .string rd] 45))
  clear h hn hsz hszr
  go_enter Try.func5, Try.ntmps5
  go_upto_region 1 with (fail)
  obtain ⟨w0, hw0⟩ : ∃ x, w.alloc (.cells #[.string rn, .int .i64 rt, .int .i64 rc, .int .i64 ru, .string rd] 45) = x := ⟨_, rfl⟩
  rw [hw0] at HQ0 HB0 ⊢
  clear hw0
  obtain ⟨q, hq⟩ : ∃ x, w.heap.size = x := ⟨_, rfl⟩
  rw [show (Value.pointer (some { block := w.heap.size, off := 0 })) = Value.pointer (some { block := q, off := 0 }) by rw [hq]]
  rw [hq] at HQ0
  clear hq
  go_wp2_with fail
  refine (first10 _).mono ?_; rintro e w1 ⟨rfl, hb⟩
  have HB1 := Lib.hid (HB0.out.trans (hb.mono HB0.out.size))
  have HQ1 := Lib.hid (HQ0.out.below hb)
  clear hb HB0 HQ0
  go_wp2_with fail
  refine (few10 a n c l _ (HR.out.below HB1.out) hlen HSZ.out).mono ?_; rintro e w2 ⟨hres, hb⟩
  have HB2 := Lib.hid (HB1.out.trans (hb.mono HB1.out.size))
  have HQ2 := Lib.hid (HQ1.out.below hb)
  clear hb HB1 HQ1
  rcases hres with rfl | ⟨rfl, hn4, hsm⟩
  · -- not few
    go_wp2_with fail
    refine (first10 _).mono ?_; rintro e w9 ⟨rfl, hb⟩
    have HB9 := Lib.hid (HB2.out.trans (hb.mono HB2.out.size))
    clear hb
    go_wp2
    go_ret
    exact ⟨rfl, HB9.out⟩
  have HSM := Lib.hid hsm
  clear hsm hlen
  obtain ⟨r0, r1, r2, r3, r4, -⟩ := HQ2.out.u5
  go_wp2_with fail
  have hlit : RowR (w2.alloc (.cells #[.string rn, .int .i64 rt, .int .i64 rc, .int .i64 ru, .string rd] 45)) (some ⟨w2.heap.size, 0, none⟩) 1 [⟨⟨rn, rt, rc⟩, ru, rd⟩] := ⟨rfl, cells_lit w2 #[.string rn, .int .i64 rt, .int .i64 rc, .int .i64 ru, .string rd] _⟩
  have hal := (Below.refl w2.heap.size w2).alloc (Nat.le_refl _) (.cells #[.string rn, .int .i64 rt, .int .i64 rc, .int .i64 ru, .string rd] 45)
  refine (few10 _ 1 1 _ _ hlit (by omega) (fun r hr => by obtain rfl := List.mem_singleton.1 hr; exact HSZR.out)).mono ?_; rintro e w3 ⟨hres, hb⟩
  have hb3 := hal.trans (hb.mono hal.size)
  have HB3 := Lib.hid (HB2.out.trans (hb3.mono HB2.out.size))
  have HQ3 := Lib.hid (HQ2.out.below hb3)
  clear hlit hal hb hb3 r0 r1 r2 r3 r4 HB2 HQ2
  rcases hres with rfl | ⟨rfl, -, hsmr⟩
  · -- the record is not small
    go_wp2_with fail
    refine (first10 _).mono ?_; rintro e w9 ⟨rfl, hb⟩
    have HB9 := Lib.hid (HB3.out.trans (hb.mono HB3.out.size))
    clear hb
    go_wp2
    go_ret
    exact ⟨rfl, HB9.out⟩
  have HSMR := Lib.hid (hsmr _ (List.mem_singleton_self _))
  have HRN := Lib.hid (show rn.size ≤ 1000000 by have h : rn.size ≤ 60000 := HSMR.out.1; omega)
  have HRD := Lib.hid (show rd.size ≤ 1000000 by have h : rd.size ≤ 60000 := HSMR.out.2; omega)
  clear hsmr
  by_cases h1 : 1000 < apex.size
  · have d1 : decide (1000 < apex.size) = true := dT h1
    have d2 : decide ((1000 : Int) < (apex.size : Int)) = true := dT (by omega)
    clear h1
    go_wp2_with fail
    refine (first10 _).mono ?_; rintro e w9 ⟨rfl, hb⟩
    have HB9 := Lib.hid (HB3.out.trans (hb.mono HB3.out.size))
    clear hb
    go_wp2
    go_ret
    exact ⟨rfl, HB9.out⟩
  have d1 : decide (1000 < apex.size) = false := dF h1
  have d2 : decide ((1000 : Int) < (apex.size : Int)) = false := dF (by omega)
  have HA1 := Lib.hid (show apex.size ≤ 1000000 by omega)
  clear h1
  by_cases h3 : 300 ≤ n
  · have d3 : decide (300 ≤ n) = true := dT h3
    have d4 : decide ((300 : Int) ≤ (n : Int)) = true := dT (by omega)
    clear h3
    go_wp2_with fail
    refine (first10 _).mono ?_; rintro e w9 ⟨rfl, hb⟩
    have HB9 := Lib.hid (HB3.out.trans (hb.mono HB3.out.size))
    clear hb
    go_wp2
    go_ret
    exact ⟨rfl, HB9.out⟩
  have d3 : decide (300 ≤ n) = false := dF h3
  have d4 : decide ((300 : Int) ≤ (n : Int)) = false := dF (by omega)
  have HN3 := Lib.hid (show n < 300 by omega)
  clear h3 ha hn4
  go_wp2_with fail
  refine (znew_any apex a n c l w3 (HR.out.below HB3.out) HN.out (by have := HN3.out; omega) (fun r hr => by have := (HSM.out r hr).1; omega) (fun r hr => by have := (HSM.out r hr).2; omega) HA1.out).mono ?_; rintro e w4 hnr
  obtain ⟨hres, hb⟩ := hnr.two
  have HB4 := Lib.hid (HB3.out.trans (hb.mono HB3.out.size))
  have HQ4 := Lib.hid (HQ3.out.below hb)
  clear hnr hb HB3 HQ3 d1 d2 d3 d4
  rcases hres with ⟨x, hx, rfl⟩ | ⟨z, S, rfl, hzw, hok⟩
  · -- no zone
    go_wp2_with fail
    refine (first10 _).mono ?_; rintro e w9 ⟨rfl, hb⟩
    have HB9 := Lib.hid (HB4.out.trans (hb.mono HB4.out.size))
    clear hb
    go_wp2
    go_ret
    exact ⟨rfl, HB9.out⟩
  have HOK := Lib.hid hok
  clear hok hzw
  go_upto_region 8 with (fail)
  obtain ⟨wd, hwd⟩ : ∃ x, w4.drew = x := ⟨_, rfl⟩
  have HBD := Lib.hid (show Below w4.heap.size w4 wd by rw [← hwd]; exact (Below.refl _ _).drew)
  obtain ⟨i0', hi, hz0, hz1, hz2⟩ := info_parts infoRR
  have HI := Lib.hid hi
  have HZ0 := Lib.hid hz0
  have HZ1 := Lib.hid hz1
  have HZ2 := Lib.hid hz2
  have HQD := Lib.hid (HQ4.out.below HBD.out)
  clear hi hz0 hz1 hz2
  refine wp_region_held_drew (S := (fun wx => Hid (Below w4.heap.size w4 wx) ∧ wx.cell? ⟨q, 0, none⟩ = some (.string rn) ∧ wx.cell? ⟨q, 1, none⟩ = some (.int .i64 rt) ∧ wx.cell? ⟨q, 2, none⟩ = some (.int .i64 rc) ∧ wx.cell? ⟨q, 3, none⟩ = some (.int .i64 ru) ∧ wx.cell? ⟨q, 4, none⟩ = some (.string rd))) (by kernel_rfl) (by rw [hwd]; exact ⟨HBD, (HQD.out.2 0 _ rfl).1, (HQD.out.2 1 _ rfl).1, (HQD.out.2 2 _ rfl).1, (HQD.out.2 3 _ rfl).1, (HQD.out.2 4 _ rfl).1⟩) (fun hHeld => ?_)
  rw [hwd] at hHeld ⊢
  clear hwd
  refine wpAnyH_take (i := 0) (oi := { dst := some 51, op := Go.Op.move (Go.Operand.tmp 0), type := 9, pos := "extra.go:23", after := #[], guard := none }) (v := ?v0_101) rfl (by kernel_rfl) (by kernel_rfl) (by kernel_rfl) (fun _ _ _ h => h) (Or.inl ⟨by rfl, ?y0_101⟩) hHeld ?r0_101
  case y0_101 => intro w hSw; (try dsimp only at hSw); go_simp; try with_reducible rfl
  try simp only [Act.put, List.setIfInBounds_toArray, List.set_cons_zero, List.set_cons_succ]
  refine wpAnyH_take (i := 1) (oi := { dst := some 52, op := Go.Op.move (Go.Operand.tmp 1), type := 22, pos := "extra.go:23", after := #[], guard := none }) (v := ?v1_101) rfl (by kernel_rfl) (by kernel_rfl) (by kernel_rfl) (fun _ _ _ h => h) (Or.inl ⟨by rfl, ?y1_101⟩) hHeld ?r1_101
  case y1_101 => intro w hSw; (try dsimp only at hSw); go_simp; try with_reducible rfl
  try simp only [Act.put, List.setIfInBounds_toArray, List.set_cons_zero, List.set_cons_succ]
  refine wpAnyH_take (i := 3) (oi := { dst := some 54, op := Go.Op.load 45 (Go.Operand.tmp 5), type := 45, pos := "extra.go:23", after := #[], guard := none }) (v := ?v3_101) rfl (by kernel_rfl) (by kernel_rfl) (by kernel_rfl) (fun _ _ _ h => h) (Or.inl ⟨by rfl, ?y3_101⟩) hHeld ?r3_101
  case y3_101 => intro w hSw; (try dsimp only at hSw); go_simp; try with_reducible rfl
  try simp only [Act.put, List.setIfInBounds_toArray, List.set_cons_zero, List.set_cons_succ]
  refine wpAnyH_ready (rs := [2, 4]) (by kernel_rfl) (by simp) ?_
  refine AllReadyH.cons (o := { dst := some 53, op := Go.Op.call { callee := Go.Callee.value (Go.Operand.func 29), args := #[Go.Operand.tmp 52], argTypes := #[22] }, type := 22, pos := "extra.go:23", after := #[{ on := 1, ground := Go.Ground.data }], guard := none }) rfl (fun K hK => ?_) (AllReadyH.cons (o := { dst := some 55, op := Go.Op.buildSlice 22 1 #[(0, Go.Operand.tmp 54)], type := 22, pos := "extra.go:23", after := #[{ on := 3, ground := Go.Ground.data }], guard := none }) rfl (fun K hK => ?_) AllReadyH.nil)
  · go_simp
    refine (copyRRs_any a n c l _ (HR.out.below (HB4.out.trans (hHeld.1.out.mono HB4.out.size))) HN.out (by have := HN3.out; omega)).mono ?_; rintro e we1 ⟨vc, rfl, hown, hb⟩
    have HO := Lib.hid (own_mono4 (base' := w4.heap.size) hown hHeld.1.out.size)
    clear hown
    go_wp2_with fail
    refine hK.out _ _ (⟨Lib.hid (hHeld.1.out.trans (hb.mono hHeld.1.out.size)), cell_later4 hb hHeld.2.1, cell_later4 hb hHeld.2.2.1, cell_later4 hb hHeld.2.2.2.1, cell_later4 hb hHeld.2.2.2.2.1, cell_later4 hb hHeld.2.2.2.2.2⟩) (fun hHeld2 => ?_)
    clear hK K hHeld
    have hHeld := hHeld2
    clear hHeld2
    try simp only [Act.put, List.setIfInBounds_toArray, List.set_cons_zero, List.set_cons_succ]
    refine wpAnyH_ready (rs := [4]) (by kernel_rfl) (by simp) ?_
    refine AllReadyH.cons (o := { dst := some 55, op := Go.Op.buildSlice 22 1 #[(0, Go.Operand.tmp 54)], type := 22, pos := "extra.go:23", after := #[{ on := 3, ground := Go.Ground.data }], guard := none }) rfl (fun K hK => ?_) AllReadyH.nil
    go_simp
    have hb := (Below.refl _ _ : Below we1.heap.size we1 we1).alloc (Nat.le_refl _) (.cells #[.string rn, .int .i64 rt, .int .i64 rc, .int .i64 ru, .string rd] 45)
    have HLIT := Lib.hid (show CellsAt (we1.alloc (.cells #[.string rn, .int .i64 rt, .int .i64 rc, .int .i64 ru, .string rd] 45)) (some ⟨we1.heap.size, 0, none⟩) (1 * 5) (encR ⟨⟨rn, rt, rc⟩, ru, rd⟩) from cells_lit we1 #[.string rn, .int .i64 rt, .int .i64 rc, .int .i64 ru, .string rd] 45)
    obtain ⟨we2, hw⟩ : ∃ x, we1.alloc (.cells #[.string rn, .int .i64 rt, .int .i64 rc, .int .i64 ru, .string rd] 45) = x := ⟨_, rfl⟩
    obtain ⟨ge, hge⟩ : ∃ x, we1.heap.size = x := ⟨_, rfl⟩
    rw [hw] at hb HLIT ⊢
    rw [hge] at HLIT ⊢
    replace HO := Lib.hid (own_below' HO.out hb)
    clear hw hge
    refine hK.out _ _ (⟨Lib.hid (hHeld.1.out.trans (hb.mono hHeld.1.out.size)), cell_later4 hb hHeld.2.1, cell_later4 hb hHeld.2.2.1, cell_later4 hb hHeld.2.2.2.1, cell_later4 hb hHeld.2.2.2.2.1, cell_later4 hb hHeld.2.2.2.2.2⟩) (fun hHeld2 => ?_)
    clear hK K hHeld
    have hHeld := hHeld2
    clear hHeld2
    try simp only [Act.put, List.setIfInBounds_toArray, List.set_cons_zero, List.set_cons_succ]
    refine wpAnyH_ready (rs := [5]) (by kernel_rfl) (by simp) ?_
    refine AllReadyH.cons (o := { dst := some 56, op := Go.Op.call { callee := Go.Callee.builtin Go.Builtin.append, args := #[Go.Operand.tmp 53, Go.Operand.tmp 55], argTypes := #[22, 22] }, type := 22, pos := "extra.go:23", after := #[{ on := 2, ground := Go.Ground.data }, { on := 4, ground := Go.Ground.data }, { on := 2, ground := Go.Ground.chain }], guard := none }) rfl (fun K hK => ?_) AllReadyH.nil
    refine step_append_cellsK (by rfl) _ _ 22 45 (by rfl) i0' _ 5 56 Try.underlying22 HI.out HZ0.out HZ1.out HZ2.out rfl (by decide) w4.heap.size _ n _ (by rfl) HO.out (some ⟨ge, 0, none⟩) 1 1 (encR ⟨⟨rn, rt, rc⟩, ru, rd⟩) (by rfl) (fun h => by cases h) HLIT.out (fun u hu => flatR_one [⟨⟨rn, rt, rc⟩, ru, rd⟩] u (by simpa [flatR] using hu)) (by have := HN3.out; omega) (by decide) (hHeld.1.out.size) ?_
    intro v5 we3 hown hgrow
    have HNQ := Lib.hid (show ∀ k, vc.ownBlock = some k → q ≠ k from fun k hk => by have h1 := (HO.out.lt k hk).1; have h2 := HQ4.out.1; omega)
    have HOX := Lib.hid hown
    refine hK.out _ _ (⟨Lib.hid (hHeld.1.out.grown hgrow hHeld.1.out.size (fun k hk => (HO.out.lt k hk).1)), hgrow.cell hHeld.2.1 (fun e => HNQ.out _ e.symm rfl), hgrow.cell hHeld.2.2.1 (fun e => HNQ.out _ e.symm rfl), hgrow.cell hHeld.2.2.2.1 (fun e => HNQ.out _ e.symm rfl), hgrow.cell hHeld.2.2.2.2.1 (fun e => HNQ.out _ e.symm rfl), hgrow.cell hHeld.2.2.2.2.2 (fun e => HNQ.out _ e.symm rfl)⟩) (fun hHeld2 => ?_)
    clear hK K hHeld
    have hHeld := hHeld2
    clear hHeld2
    try simp only [Act.put, List.setIfInBounds_toArray, List.set_cons_zero, List.set_cons_succ]
    refine wpAnyH_ready (rs := [6]) (by kernel_rfl) (by simp) ?_
    refine AllReadyH.cons (o := { dst := some 57, op := Go.Op.call { callee := Go.Callee.value (Go.Operand.func 11), args := #[Go.Operand.tmp 51, Go.Operand.tmp 56], argTypes := #[9, 22] }, type := 27, pos := "extra.go:23", after := #[{ on := 0, ground := Go.Ground.data }, { on := 5, ground := Go.Ground.data }, { on := 5, ground := Go.Ground.chain }], guard := none }) rfl (fun K hK => ?_) AllReadyH.nil
    obtain ⟨ta, tc, rfl, hrt, hnt⟩ := rowR_own (l := (l ++ [⟨⟨rn, rt, rc⟩, ru, rd⟩])) (show we3.ownsRow w4.heap.size 45 5 v5 (n + 1) (flatR (l ++ [⟨⟨rn, rt, rc⟩, ru, rd⟩])) by rw [flatR_append]; simpa [flatR] using HOX.out)
    clear HOX hgrow hown
    go_simp
    refine (znew_any apex ta (n + 1) tc (l ++ [⟨⟨rn, rt, rc⟩, ru, rd⟩]) _ hrt hnt (by have := HN3.out; omega) (fun r hr => by rcases List.mem_append.1 hr with h | h; (have := (HSM.out r h).1; omega); (obtain rfl := List.mem_singleton.1 h; exact HRN.out)) (fun r hr => by rcases List.mem_append.1 hr with h | h; (have := (HSM.out r h).2; omega); (obtain rfl := List.mem_singleton.1 h; exact HRD.out)) HA1.out).mono ?_; rintro e w5 hn5
    obtain ⟨p5, x5, rfl⟩ := newR_any hn5
    have hb := hn5.2
    have HN5 := Lib.hid hn5
    clear hn5 hrt hnt
    go_wp2_with fail
    refine hK.out _ _ (⟨Lib.hid (hHeld.1.out.trans (hb.mono hHeld.1.out.size)), cell_later4 hb hHeld.2.1, cell_later4 hb hHeld.2.2.1, cell_later4 hb hHeld.2.2.2.1, cell_later4 hb hHeld.2.2.2.2.1, cell_later4 hb hHeld.2.2.2.2.2⟩) (fun hHeld2 => ?_)
    clear hK K hHeld
    have hHeld := hHeld2
    clear hHeld2
    try simp only [Act.put, List.setIfInBounds_toArray, List.set_cons_zero, List.set_cons_succ]
    refine wpAnyH_take (i := 7) (oi := { dst := some 50, op := Go.Op.move (Go.Operand.tmp 57), type := 27, pos := "extra.go:23", after := #[{ on := 6, ground := Go.Ground.data }], guard := none }) (v := ?v7_105) rfl (by kernel_rfl) (by kernel_rfl) (by kernel_rfl) (fun _ _ _ h => h) (Or.inl ⟨by rfl, ?y7_105⟩) hHeld ?r7_105
    case y7_105 => intro w hSw; (try dsimp only at hSw); go_simp; try with_reducible rfl
    try simp only [Act.put, List.setIfInBounds_toArray, List.set_cons_zero, List.set_cons_succ]
    refine wpAnyH_take (i := 8) (oi := { dst := some 58, op := Go.Op.extract (Go.Operand.tmp 50) 0, type := 25, pos := "extra.go:23", after := #[{ on := 7, ground := Go.Ground.data }], guard := none }) (v := ?v8_105) rfl (by kernel_rfl) (by kernel_rfl) (by kernel_rfl) (fun _ _ _ h => h) (Or.inl ⟨by rfl, ?y8_105⟩) hHeld ?r8_105
    case y8_105 => intro w hSw; (try dsimp only at hSw); go_simp; try with_reducible rfl
    try simp only [Act.put, List.setIfInBounds_toArray, List.set_cons_zero, List.set_cons_succ]
    refine wpAnyH_take (i := 9) (oi := { dst := some 59, op := Go.Op.extract (Go.Operand.tmp 50) 1, type := 26, pos := "extra.go:23", after := #[{ on := 7, ground := Go.Ground.data }, { on := 10, ground := Go.Ground.gcOnly Go.Departure.lateStores }], guard := none }) (v := ?v9_105) rfl (by kernel_rfl) (by kernel_rfl) (by kernel_rfl) (fun _ _ _ h => h) (Or.inl ⟨by rfl, ?y9_105⟩) hHeld ?r9_105
    case y9_105 => intro w hSw; (try dsimp only at hSw); go_simp; try with_reducible rfl
    try simp only [Act.put, List.setIfInBounds_toArray, List.set_cons_zero, List.set_cons_succ]
    refine wpAnyH_take (i := 10) (oi := { dst := some 9, op := Go.Op.assign (Go.Operand.tmp 58), type := 25, pos := "extra.go:23", after := #[{ on := 8, ground := Go.Ground.data }, { on := 6, ground := Go.Ground.chain }, { on := 0, ground := Go.Ground.phase }, { on := 1, ground := Go.Ground.phase }, { on := 2, ground := Go.Ground.phase }, { on := 3, ground := Go.Ground.phase }, { on := 4, ground := Go.Ground.phase }, { on := 5, ground := Go.Ground.phase }, { on := 6, ground := Go.Ground.phase }, { on := 7, ground := Go.Ground.phase }, { on := 8, ground := Go.Ground.phase }, { on := 9, ground := Go.Ground.textOnly Go.Departure.lateStores }], guard := none }) (v := ?v10_105) rfl (by kernel_rfl) (by kernel_rfl) (by kernel_rfl) (fun _ _ _ h => h) (Or.inl ⟨by rfl, ?y10_105⟩) hHeld ?r10_105
    case y10_105 => intro w hSw; (try dsimp only at hSw); go_simp; try with_reducible rfl
    try simp only [Act.put, List.setIfInBounds_toArray, List.set_cons_zero, List.set_cons_succ]
    refine wpAnyH_take (i := 11) (oi := { dst := some 10, op := Go.Op.assign (Go.Operand.tmp 59), type := 26, pos := "extra.go:23", after := #[{ on := 9, ground := Go.Ground.data }, { on := 10, ground := Go.Ground.chain }, { on := 0, ground := Go.Ground.phase }, { on := 1, ground := Go.Ground.phase }, { on := 2, ground := Go.Ground.phase }, { on := 3, ground := Go.Ground.phase }, { on := 4, ground := Go.Ground.phase }, { on := 5, ground := Go.Ground.phase }, { on := 6, ground := Go.Ground.phase }, { on := 7, ground := Go.Ground.phase }, { on := 8, ground := Go.Ground.phase }, { on := 9, ground := Go.Ground.phase }, { on := 10, ground := Go.Ground.phase }], guard := none }) (v := ?v11_105) rfl (by kernel_rfl) (by kernel_rfl) (by kernel_rfl) (fun _ _ _ h => h) (Or.inl ⟨by rfl, ?y11_105⟩) hHeld ?r11_105
    case y11_105 => intro w hSw; (try dsimp only at hSw); go_simp; try with_reducible rfl
    try simp only [Act.put, List.setIfInBounds_toArray, List.set_cons_zero, List.set_cons_succ]
    refine wpAnyH_done (by kernel_rfl) ?_ _
    have HB5 := Lib.hid (HB4.out.trans (hHeld.1.out.mono HB4.out.size))
    have HOK5 := Lib.hid (HOK.out.below hHeld.1.out)
    have HQ5 := Lib.hid (HQ4.out.below hHeld.1.out)
    have HQW := HQ5
    clear hHeld hb HO HLIT HNQ HQD HBD HB4 HQ4 HOK HI HZ0 HZ1 HZ2
    obtain ⟨r0, r1, r2, r3, r4, -⟩ := HQ5.out.u5
    go_wp2_with fail
    refine (zget_any z apex S rn 5 1 w5 HOK5.out.is HOK5.out.canon.keys HOK5.out.sz HRN.out).mono ?_; rintro e w6 ⟨hf, hb⟩
    obtain ⟨fn, ft, fc, fu, fva, fvn, fvc, cb, rfl, hcb⟩ := found_any hf
    have HCB := Lib.hid hcb
    have hba := (Below.refl w6.heap.size w6).alloc (Nat.le_refl _) (.cells #[.string fn, .int .i64 ft, .int .i64 fc, .int .i64 fu, .slice fva fvn fvc] 39)
    have hbb := hb.trans (hba.mono hb.size)
    have HB6 := Lib.hid (HB5.out.trans (hbb.mono HB5.out.size))
    have HX6 := Lib.hid hbb
    clear hf hcb hb hba hbb HB5 r0 r1 r2 r3 r4
    go_upto_region 10 with (fail)
    obtain ⟨w6a, hw⟩ : ∃ x, w6.alloc (.cells #[.string fn, .int .i64 ft, .int .i64 fc, .int .i64 fu, .slice fva fvn fvc] 39) = x := ⟨_, rfl⟩
    rw [hw] at HB6 HX6 ⊢
    clear hw
    have HQ6 := Lib.hid (HQ5.out.below HX6.out)
    obtain ⟨r0, r1, r2, r3, r4, -⟩ := HQ6.out.u5
    clear HQ5
    go_wp2_with fail
    refine (rmayRR_any rn rt rc ru rd w6a HRN.out HRD.out).mono ?_; rintro e w7 ⟨rfl, hb⟩
    have HB7 := Lib.hid (HB6.out.trans (hb.mono HB6.out.size))
    have HX7 := Lib.hid (HX6.out.trans (hb.mono HX6.out.size))
    have HQ7 := Lib.hid (HQ6.out.below hb)
    clear hb HB6 HX6 HQ6 r0 r1 r2 r3 r4
    obtain ⟨v, hv⟩ : ∃ x, mayR rn rt rc ru rd = x := ⟨_, rfl⟩
    rw [hv]
    have HV := Lib.hid (show mayR5 ⟨⟨rn, rt, rc⟩, ru, rd⟩ = v from hv)
    clear hv
    cases v
    · have he := (newR_more HOK5.out (by rw [HLN.out]; exact HN3.out) HN5.out).1 HV.out
      simp only [Ending.returned.injEq, Value.tuple.injEq, Array.mk.injEq, List.cons.injEq, Value.pointer.injEq, Value.int.injEq] at he
      obtain ⟨rfl, ⟨-, rfl⟩, -⟩ := he
      clear HN5
      go_wp2_with fail
      refine (first10 _).mono ?_; rintro e w9 ⟨rfl, hb⟩
      have HB9 := Lib.hid (HB7.out.trans (hb.mono HB7.out.size))
      clear hb
      go_wp2
      go_ret
      exact ⟨rfl, HB9.out⟩
    obtain ⟨r0, r1, r2, r3, r4, -⟩ := HQ7.out.u5
    go_wp2_with fail
    refine (runder_any rn apex w7 HRN.out HA1.out).mono ?_; rintro e w8 ⟨rfl, hb⟩
    have HB8 := Lib.hid (HB7.out.trans (hb.mono HB7.out.size))
    have HX8 := Lib.hid (HX7.out.trans (hb.mono HX7.out.size))
    have HQ8 := Lib.hid (HQ7.out.below hb)
    clear hb HB7 HX7 HQ7 r0 r1 r2 r3 r4
    obtain ⟨r0, r1, r2, r3, r4, -⟩ := HQ8.out.u5
    obtain ⟨u, hu⟩ : ∃ x, undS rn apex = x := ⟨_, rfl⟩
    rw [hu]
    have HU := Lib.hid hu
    clear hu
    cases u
    · have he := (newR_more HOK5.out (by rw [HLN.out]; exact HN3.out) HN5.out).2.1 HV.out (Or.inl HU.out)
      simp only [Ending.returned.injEq, Value.tuple.injEq, Array.mk.injEq, List.cons.injEq, Value.pointer.injEq, Value.int.injEq] at he
      obtain ⟨rfl, ⟨-, rfl⟩, -⟩ := he
      clear HN5
      go_wp2_with fail
      refine (first10 _).mono ?_; rintro e w9 ⟨rfl, hb⟩
      have HB9 := Lib.hid (HB8.out.trans (hb.mono HB8.out.size))
      clear hb
      go_wp2
      go_ret
      exact ⟨rfl, HB9.out⟩
    by_cases hc : rc = 1
    case neg =>
      have HC := Lib.hid hc
      have f1 := nT hc
      clear hc
      have he := (newR_more HOK5.out (by rw [HLN.out]; exact HN3.out) HN5.out).2.1 HV.out (Or.inr (Or.inl HC.out))
      simp only [Ending.returned.injEq, Value.tuple.injEq, Array.mk.injEq, List.cons.injEq, Value.pointer.injEq, Value.int.injEq] at he
      obtain ⟨rfl, ⟨-, rfl⟩, -⟩ := he
      clear HN5
      go_wp2_with fail
      refine (first10 _).mono ?_; rintro e w9 ⟨rfl, hb⟩
      have HB9 := Lib.hid (HB8.out.trans (hb.mono HB8.out.size))
      clear hb
      go_wp2
      go_ret
      exact ⟨rfl, HB9.out⟩
    have HC := Lib.hid hc
    have f1 := nF hc
    clear hc
    by_cases ht : rt = 6
    case pos =>
      have HT := Lib.hid ht
      have f2 := eT ht
      clear ht
      by_cases hna : rn = apex
      · have f3 := str_eq hna
        clear hna
        obtain ⟨hres, -⟩ := HN5.out.two
        clear HN5
        rcases hres with ⟨x, hx, he⟩ | ⟨z2, S2, he, -, -⟩
        · simp only [Ending.returned.injEq, Value.tuple.injEq, Array.mk.injEq, List.cons.injEq, Value.pointer.injEq, Value.int.injEq] at he
          obtain ⟨rfl, ⟨-, rfl⟩, -⟩ := he
          have g1 := nT hx
          clear hx
          go_wp2_with fail
          refine (first10 _).mono ?_; rintro e w9 ⟨rfl, hb⟩
          have HB9 := Lib.hid (HB8.out.trans (hb.mono HB8.out.size))
          clear hb
          go_wp2
          go_ret
          exact ⟨rfl, HB9.out⟩
        · simp only [Ending.returned.injEq, Value.tuple.injEq, Array.mk.injEq, List.cons.injEq, Value.pointer.injEq, Value.int.injEq] at he
          obtain ⟨rfl, ⟨-, rfl⟩, -⟩ := he
          go_wp2_with fail
          refine (first10 _).mono ?_; rintro e w9 ⟨rfl, hb⟩
          have HB9 := Lib.hid (HB8.out.trans (hb.mono HB8.out.size))
          clear hb
          go_wp2
          go_ret
          exact ⟨rfl, HB9.out⟩
      · have HNA := Lib.hid hna
        have f3 := str_ne hna
        clear hna
        have he := (newR_more HOK5.out (by rw [HLN.out]; exact HN3.out) HN5.out).2.1 HV.out (Or.inr (Or.inr ⟨HT.out, HNA.out⟩))
        simp only [Ending.returned.injEq, Value.tuple.injEq, Array.mk.injEq, List.cons.injEq, Value.pointer.injEq, Value.int.injEq] at he
        obtain ⟨rfl, ⟨-, rfl⟩, -⟩ := he
        clear HN5
        go_wp2_with fail
        refine (first10 _).mono ?_; rintro e w9 ⟨rfl, hb⟩
        have HB9 := Lib.hid (HB8.out.trans (hb.mono HB8.out.size))
        clear hb
        go_wp2
        go_ret
        exact ⟨rfl, HB9.out⟩
    have HT := Lib.hid ht
    have f2 := eF ht
    clear ht
    by_cases h5 : rt = 5
    case pos =>
      have f4 := eT h5
      clear h5
      obtain ⟨hres, -⟩ := HN5.out.two
      clear HN5
      rcases hres with ⟨x, hx, he⟩ | ⟨z2, S2, he, -, -⟩
      · simp only [Ending.returned.injEq, Value.tuple.injEq, Array.mk.injEq, List.cons.injEq, Value.pointer.injEq, Value.int.injEq] at he
        obtain ⟨rfl, ⟨-, rfl⟩, -⟩ := he
        have g1 := nT hx
        clear hx
        go_wp2_with fail
        refine (first10 _).mono ?_; rintro e w9 ⟨rfl, hb⟩
        have HB9 := Lib.hid (HB8.out.trans (hb.mono HB8.out.size))
        clear hb
        go_wp2
        go_ret
        exact ⟨rfl, HB9.out⟩
      · simp only [Ending.returned.injEq, Value.tuple.injEq, Array.mk.injEq, List.cons.injEq, Value.pointer.injEq, Value.int.injEq] at he
        obtain ⟨rfl, ⟨-, rfl⟩, -⟩ := he
        go_wp2_with fail
        refine (first10 _).mono ?_; rintro e w9 ⟨rfl, hb⟩
        have HB9 := Lib.hid (HB8.out.trans (hb.mono HB8.out.size))
        clear hb
        go_wp2
        go_ret
        exact ⟨rfl, HB9.out⟩
    have H5 := Lib.hid h5
    have f4 := eF h5
    clear h5
    cases cb
    case true =>
      obtain ⟨hres, -⟩ := HN5.out.two
      clear HN5
      rcases hres with ⟨x, hx, he⟩ | ⟨z2, S2, he, -, -⟩
      · simp only [Ending.returned.injEq, Value.tuple.injEq, Array.mk.injEq, List.cons.injEq, Value.pointer.injEq, Value.int.injEq] at he
        obtain ⟨rfl, ⟨-, rfl⟩, -⟩ := he
        have g1 := nT hx
        clear hx
        go_wp2_with fail
        refine (first10 _).mono ?_; rintro e w9 ⟨rfl, hb⟩
        have HB9 := Lib.hid (HB8.out.trans (hb.mono HB8.out.size))
        clear hb
        go_wp2
        go_ret
        exact ⟨rfl, HB9.out⟩
      · simp only [Ending.returned.injEq, Value.tuple.injEq, Array.mk.injEq, List.cons.injEq, Value.pointer.injEq, Value.int.injEq] at he
        obtain ⟨rfl, ⟨-, rfl⟩, -⟩ := he
        go_wp2_with fail
        refine (first10 _).mono ?_; rintro e w9 ⟨rfl, hb⟩
        have HB9 := Lib.hid (HB8.out.trans (hb.mono HB8.out.size))
        clear hb
        go_wp2
        go_ret
        exact ⟨rfl, HB9.out⟩
    obtain ⟨z2, B, he, hok2⟩ := (newR_more HOK5.out (by rw [HLN.out]; exact HN3.out) HN5.out).2.2 HV.out HU.out HC.out H5.out HT.out (by have h := HCB.out; cases hfk : findK S ⟨rn, 5, 1⟩ with | none => rfl | some s => rw [hfk] at h; cases h)
    simp only [Ending.returned.injEq, Value.tuple.injEq, Array.mk.injEq, List.cons.injEq, Value.pointer.injEq, Value.int.injEq] at he
    obtain ⟨rfl, ⟨-, rfl⟩, -⟩ := he
    have HOK2 := Lib.hid hok2
    clear hok2 HN5
    have HTH := Lib.hid (zthere_any z2 apex B rn w8 (HOK2.out.is.below HX8.out) HOK2.out.sz HA1.out HRN.out)
    rw [there_of HOK2.out (r := ⟨⟨rn, rt, rc⟩, ru, rd⟩) (by simp)] at HTH
    obtain ⟨s0, d0, hs0, hd0, hso, hdz⟩ := soa_one HOK5.out
    have HS0 := Lib.hid hs0
    have HD0 := Lib.hid hd0
    have HDZ := Lib.hid hdz
    have HS0B := Lib.hid (more_soa HOK5.out.canon HOK2.out.canon hs0 HT.out)
    clear hs0 hd0 hso hdz
    obtain ⟨M, R, x1, x2, x3, x4, x5, bb, hgs⟩ := getSoaV_ex d0
    have HGS := Lib.hid hgs
    have hse := soa_nequal M R x1 x2 x3 x4 x5
    clear hgs
    go_wp2_with fail
    refine HTH.out.mono ?_; rintro e w10 ⟨rfl, hb⟩
    have HB10 := Lib.hid (HB8.out.trans (hb.mono HB8.out.size))
    have HX10 := Lib.hid (HX8.out.trans (hb.mono HX8.out.size))
    clear hb HB8 HX8 HTH HQ8 r0 r1 r2 r3 r4 f1 f2 f4
    go_wp2_with fail
    refine (zsoa_any z2 apex B s0 d0 [] M R x1 x2 x3 x4 x5 bb w10 (HOK2.out.is.below HX10.out) HOK2.out.canon.keys HOK2.out.sz HA1.out HS0B.out HD0.out HDZ.out HGS.out).mono ?_; rintro e w11 ⟨rfl, hb⟩
    have HB11 := Lib.hid (HB10.out.trans (hb.mono HB10.out.size))
    have HX11 := Lib.hid (HX10.out.trans (hb.mono HX10.out.size))
    clear hb HB10 HX10
    go_wp2_with fail
    refine (zsoa_any z apex S s0 d0 [] M R x1 x2 x3 x4 x5 bb w11 (HOK5.out.is.below HX11.out) HOK5.out.canon.keys HOK5.out.sz HA1.out HS0.out HD0.out HDZ.out HGS.out).mono ?_; rintro e w12 ⟨rfl, hb⟩
    have HB12 := Lib.hid (HB11.out.trans (hb.mono HB11.out.size))
    have HX12 := Lib.hid (HX11.out.trans (hb.mono HX11.out.size))
    clear hb HB11 HX11
    go_wp2_with fail
    refine (zsets_any z apex S w12 (HOK5.out.is.below HX12.out) HOK5.out.sz).mono ?_; rintro e w13 ⟨v3, L3, rfl, hm3, hos3, hb⟩
    obtain ⟨a3, c3, rfl, hsa3, -⟩ := hos3.at
    rw [hm3] at hsa3
    have hl3 : L3.length = S.length := by rw [← hm3, List.length_map]
    rw [hl3] at hsa3 ⊢
    have HSA3 := Lib.hid hsa3
    have HB13 := Lib.hid (HB12.out.trans (hb.mono HB12.out.size))
    have HX13 := Lib.hid (HX12.out.trans (hb.mono HX12.out.size))
    clear hb HB12 HX12 hos3 hsa3 hm3 hl3 L3 hse HS0 HS0B HD0 HDZ HGS
    obtain ⟨m, hm⟩ : ∃ x, S.length = x := ⟨_, rfl⟩
    have HM := Lib.hid hm
    have HMN := Lib.hid (show m ≤ 100000 by have h1 := HOK5.out.len; have h2 := HOK5.out.few; omega)
    rw [hm] at HSA3 ⊢
    clear hm
    have HQ13 := Lib.hid (HQW.out.below HX13.out)
    go_wp2_with fail
    go_loopw [14] (fun i wr => ∃ (k : Nat), k ≤ m ∧ i = .int .i64 k ∧ Hid (Below w13.heap.size w13 wr)) (fun i _ => m - (intOf i).toNat)
    case atStart => exact ⟨0, Nat.zero_le _, rfl, Lib.hid (Below.refl _ _)⟩
    case round =>
      obtain ⟨k, hk, rfl, hbw⟩ := hrel
      have hmn := HMN.out
      by_cases hlt : k < m
      · rcases (HSA3.out.below hbw.out).2 with h9 | ⟨b, o, rfl, hbl, hc⟩
        · omega
        obtain ⟨pa, ca, hs2⟩ := hc k hlt
        have hmem : S.getD k ssD ∈ S := by rw [List.getD_eq_getElem?_getD, List.getElem?_eq_getElem (by have := HM.out; omega)]; exact List.getElem_mem _
        obtain ⟨s, hss⟩ : ∃ s, S.getD k ssD = s := ⟨_, rfl⟩
        rw [hss] at hs2 hmem
        have hsz := HOK5.out.sz.2 _ hmem
        have hnon := HOK5.out.canon.non _ hmem
        obtain ⟨t, hft, hsame⟩ := more_found HOK5.out.canon HOK2.out.canon hmem
        have htz := HOK2.out.sz.2 _ (find_mem hft)
        obtain ⟨⟨sn, st, sk⟩, su, sd⟩ := s
        obtain ⟨x0, x1, x2, x3, x4, hsr, -⟩ := hs2
        replace hsr : RowS wr pa sd.length sd := hsr
        replace x4 : wr.cell? ⟨b, o + k * 5 + 4, none⟩ = some (.slice pa sd.length ca) := x4
        obtain ⟨dl, hdl⟩ : ∃ x, sd.length = x := ⟨_, rfl⟩
        rw [hdl] at hsr x4
        replace hsz : sn.size ≤ 1000000 ∧ sd.length ≤ 100000 := hsz
        rw [hdl] at hsz
        have HDL := Lib.hid hdl
        have C0 := Lib.hid (show wr.cell? ⟨b, o + k * 5, none⟩ = some (.string sn) from x0)
        have C1 := Lib.hid (show wr.cell? ⟨b, o + k * 5 + 1, none⟩ = some (.int .i64 st) from x1)
        have C2 := Lib.hid (show wr.cell? ⟨b, o + k * 5 + 2, none⟩ = some (.int .i64 sk) from x2)
        have C3 := Lib.hid (show wr.cell? ⟨b, o + k * 5 + 3, none⟩ = some (.int .i64 su) from x3)
        have C4 := Lib.hid x4
        have c0 := C0.out
        have c1 := C1.out
        have c2 := C2.out
        have HSR := Lib.hid hsr
        have HSZ1 := Lib.hid hsz.1
        have HFT := Lib.hid hft
        have HSAM := Lib.hid hsame
        have HTZ := Lib.hid htz
        have hdle := hsz.2
        have HDLE := Lib.hid hdle
        have HNE := Lib.hid hnon
        have i1 : (0 : Int) ≤ (k : Int) := by omega
        have i2 : (k : Int) < (m : Int) := by omega
        have HLT := Lib.hid hlt
        clear x0 x1 x2 x3 x4 hsr hmem hss hsz hft hsame htz hdle hnon hdl hlt hc hbl
        go_wp2_with fail
        refine (zget_any z2 apex B sn st sk wr (HOK2.out.is.below (HX13.out.trans (hbw.out.mono HX13.out.size))) HOK2.out.canon.keys HOK2.out.sz HSZ1.out).mono ?_; rintro e wg ⟨hf, hbg⟩
        rcases hf with ⟨s', dv, hfs, rfl, ho⟩ | ⟨hfn, -⟩
        case inr => rw [HFT.out] at hfn; cases hfn
        obtain rfl : t = s' := by rw [HFT.out] at hfs; exact Option.some.inj hfs
        obtain ⟨⟨tn, tt, tk⟩, tu, td⟩ := t
        replace ho : wg.ownsRow wr.heap.size 9 1 dv td.length (sc td) := ho
        obtain ⟨ta2, tc2, rfl, htr, -⟩ := rowS_of_own ho
        obtain ⟨tl, htl⟩ : ∃ x, td.length = x := ⟨_, rfl⟩
        rw [htl] at htr
        have HTL := Lib.hid htl
        have hba := (Below.refl wg.heap.size wg).alloc (Nat.le_refl _) (.cells #[.string tn, .int .i64 tt, .int .i64 tk, .int .i64 tu, .slice ta2 tl tc2] 39)
        have HXG := Lib.hid (hbg.trans (hba.mono hbg.size))
        have HTR := Lib.hid (htr.below hba)
        have HC7 := Lib.hid (c5_new wg (.string tn) (.int .i64 tt) (.int .i64 tk) (.int .i64 tu) (.slice ta2 tl tc2) 39)
        dsimp only
        rw [htl]
        clear hfs ho htr hba hbg htl c0 c1 c2
        go_upto_region 23 with (fail)
        obtain ⟨wb, hwb⟩ : ∃ x, wg.alloc (.cells #[.string tn, .int .i64 tt, .int .i64 tk, .int .i64 tu, .slice ta2 tl tc2] 39) = x := ⟨_, rfl⟩
        rw [hwb] at HXG HTR HC7 ⊢
        clear hwb
        obtain ⟨q15, hq⟩ : ∃ x, wg.heap.size = x := ⟨_, rfl⟩
        rw [hq] at HC7 ⊢
        clear hq
        have HSRB := Lib.hid (HSR.out.below HXG.out)
        have HQB := Lib.hid ((HQ13.out.below hbw.out).below HXG.out)
        obtain ⟨r0, r1, r2, r3, r4, -⟩ := HQB.out.u5
        have X0 := Lib.hid (cell_later4 HXG.out C0.out)
        have X1 := Lib.hid (cell_later4 HXG.out C1.out)
        have X2 := Lib.hid (cell_later4 HXG.out C2.out)
        have X3 := Lib.hid (cell_later4 HXG.out C3.out)
        have X4 := Lib.hid (cell_later4 HXG.out C4.out)
        have HBD := Lib.hid ((Below.refl wb.heap.size wb).drew)
        by_cases hkk : (⟨sn, st, sk⟩ : Ky) = (⟨rn, rt, rc⟩ : Ky)
        · have hkb := (key_same ⟨sn, st, sk⟩ ⟨rn, rt, rc⟩).2 hkk
          replace hkb : (sn.toList == rn.toList && (st == rt && sk == rc)) = true := hkb
          have kne := key_neq sn rn st sk rt rc
          simp only [hkb, Bool.not_true] at kne
          clear hkk hkb
          refine wp_region_held_drew (S := (fun wx => Hid (Below wb.heap.size wb wx) ∧ wx.cell? ⟨b, o + k * 5, none⟩ = some (.string sn) ∧ wx.cell? ⟨b, o + k * 5 + 1, none⟩ = some (.int .i64 st) ∧ wx.cell? ⟨b, o + k * 5 + 2, none⟩ = some (.int .i64 sk) ∧ wx.cell? ⟨b, o + k * 5 + 3, none⟩ = some (.int .i64 su) ∧ wx.cell? ⟨b, o + k * 5 + 4, none⟩ = some (.slice pa dl ca) ∧ wx.cell? ⟨q, 0, none⟩ = some (.string rn) ∧ wx.cell? ⟨q, 1, none⟩ = some (.int .i64 rt) ∧ wx.cell? ⟨q, 2, none⟩ = some (.int .i64 rc) ∧ wx.cell? ⟨q, 3, none⟩ = some (.int .i64 ru) ∧ wx.cell? ⟨q, 4, none⟩ = some (.string rd) ∧ wx.cell? ⟨q15, 0, none⟩ = some (.string tn) ∧ wx.cell? ⟨q15, 1, none⟩ = some (.int .i64 tt) ∧ wx.cell? ⟨q15, 2, none⟩ = some (.int .i64 tk) ∧ wx.cell? ⟨q15, 3, none⟩ = some (.int .i64 tu) ∧ wx.cell? ⟨q15, 4, none⟩ = some (.slice ta2 tl tc2))) (by kernel_rfl) (⟨HBD, cell_later4 HBD.out X0.out, cell_later4 HBD.out X1.out, cell_later4 HBD.out X2.out, cell_later4 HBD.out X3.out, cell_later4 HBD.out X4.out, cell_later4 HBD.out r0, cell_later4 HBD.out r1, cell_later4 HBD.out r2, cell_later4 HBD.out r3, cell_later4 HBD.out r4, cell_later4 HBD.out HC7.out.2.1, cell_later4 HBD.out HC7.out.2.2.1, cell_later4 HBD.out HC7.out.2.2.2.1, cell_later4 HBD.out HC7.out.2.2.2.2.1, cell_later4 HBD.out HC7.out.2.2.2.2.2.1⟩) (fun hHeld => ?_)
          refine wpAnyH_take (i := 0) (oi := { dst := some 170, op := Go.Op.move (Go.Operand.tmp 16), type := 4, pos := "extra.go:39", after := #[], guard := none }) (v := ?v0_201) rfl (by kernel_rfl) (by kernel_rfl) (by kernel_rfl) (fun _ _ _ h => h) (Or.inl ⟨by rfl, ?y0_201⟩) hHeld ?r0_201
          case y0_201 => intro w hSw; (try dsimp only at hSw); go_simp; try with_reducible rfl
          try simp only [Act.put, List.setIfInBounds_toArray, List.set_cons_zero, List.set_cons_succ]
          refine wpAnyH_take (i := 1) (oi := { dst := some 171, op := Go.Op.unOp Go.UnOp.not 4 (Go.Operand.tmp 170), type := 4, pos := "extra.go:39", after := #[{ on := 0, ground := Go.Ground.data }], guard := none }) (v := ?v1_201) rfl (by kernel_rfl) (by kernel_rfl) (by kernel_rfl) (fun _ _ _ h => h) (Or.inl ⟨by rfl, ?y1_201⟩) hHeld ?r1_201
          case y1_201 => intro w hSw; (try dsimp only at hSw); go_simp; try with_reducible rfl
          try simp only [Act.put, List.setIfInBounds_toArray, List.set_cons_zero, List.set_cons_succ]
          refine wpAnyH_take (i := 2) (oi := { dst := some 172, op := Go.Op.move (Go.Operand.tmp 171), type := 4, pos := "extra.go:39", after := #[{ on := 1, ground := Go.Ground.data }], guard := none }) (v := ?v2_201) rfl (by kernel_rfl) (by kernel_rfl) (by kernel_rfl) (fun _ _ _ h => h) (Or.inl ⟨by rfl, ?y2_201⟩) hHeld ?r2_201
          case y2_201 => intro w hSw; (try dsimp only at hSw); go_simp; try with_reducible rfl
          try simp only [Act.put, List.setIfInBounds_toArray, List.set_cons_zero, List.set_cons_succ]
          refine wpAnyH_take (i := 3) (oi := { dst := some 173, op := Go.Op.move (Go.Operand.tmp 13), type := 33, pos := "extra.go:39", after := #[{ on := 2, ground := Go.Ground.guard }], guard := some (2, false) }) (v := ?v3_201) rfl (by kernel_rfl) (by kernel_rfl) (by kernel_rfl) (fun _ _ _ h => h) (Or.inl ⟨by rfl, ?y3_201⟩) hHeld ?r3_201
          case y3_201 => intro w hSw; (try dsimp only at hSw); go_simp; try with_reducible rfl
          try simp only [Act.put, List.setIfInBounds_toArray, List.set_cons_zero, List.set_cons_succ]
          refine wpAnyH_take (i := 4) (oi := { dst := some 174, op := Go.Op.move (Go.Operand.tmp 14), type := 3, pos := "extra.go:39", after := #[{ on := 2, ground := Go.Ground.guard }], guard := some (2, false) }) (v := ?v4_201) rfl (by kernel_rfl) (by kernel_rfl) (by kernel_rfl) (fun _ _ _ h => h) (Or.inl ⟨by rfl, ?y4_201⟩) hHeld ?r4_201
          case y4_201 => intro w hSw; (try dsimp only at hSw); go_simp; try with_reducible rfl
          try simp only [Act.put, List.setIfInBounds_toArray, List.set_cons_zero, List.set_cons_succ]
          refine wpAnyH_take (i := 5) (oi := { dst := some 175, op := Go.Op.indexAddr 33 (Go.Operand.tmp 173) (Go.Operand.tmp 174), type := 0, pos := "extra.go:39", after := #[{ on := 3, ground := Go.Ground.data }, { on := 4, ground := Go.Ground.data }, { on := 2, ground := Go.Ground.guard }], guard := some (2, false) }) (v := ?v5_201) rfl (by kernel_rfl) (by kernel_rfl) (by kernel_rfl) (fun _ _ _ h => h) (Or.inl ⟨by rfl, ?y5_201⟩) hHeld ?r5_201
          case y5_201 => intro w hSw; (try dsimp only at hSw); go_simp; try with_reducible rfl
          try simp only [Act.put, List.setIfInBounds_toArray, List.set_cons_zero, List.set_cons_succ]
          refine wpAnyH_take (i := 6) (oi := { dst := some 176, op := Go.Op.fieldAddr 39 (Go.Operand.tmp 175) 0, type := 0, pos := "extra.go:39", after := #[{ on := 5, ground := Go.Ground.data }, { on := 2, ground := Go.Ground.guard }], guard := some (2, false) }) (v := ?v6_201) rfl (by kernel_rfl) (by kernel_rfl) (by kernel_rfl) (fun _ _ _ h => h) (Or.inl ⟨by rfl, ?y6_201⟩) hHeld ?r6_201
          case y6_201 => intro w hSw; (try dsimp only at hSw); go_simp; try with_reducible rfl
          try simp only [Act.put, List.setIfInBounds_toArray, List.set_cons_zero, List.set_cons_succ]
          refine wpAnyH_take (i := 7) (oi := { dst := some 177, op := Go.Op.load 36 (Go.Operand.tmp 176), type := 36, pos := "extra.go:39", after := #[{ on := 6, ground := Go.Ground.data }, { on := 2, ground := Go.Ground.guard }], guard := some (2, false) }) (v := ?v7_201) rfl (by kernel_rfl) (by kernel_rfl) (by kernel_rfl) (fun _ _ _ h => h) (Or.inl ⟨by rfl, ?y7_201⟩) hHeld ?r7_201
          case y7_201 => intro w hSw; (try dsimp only at hSw); go_simp; try with_reducible rfl
          try simp only [Act.put, List.setIfInBounds_toArray, List.set_cons_zero, List.set_cons_succ]
          refine wpAnyH_take (i := 8) (oi := { dst := some 178, op := Go.Op.load 45 (Go.Operand.tmp 5), type := 45, pos := "extra.go:39", after := #[{ on := 2, ground := Go.Ground.guard }], guard := some (2, false) }) (v := ?v8_201) rfl (by kernel_rfl) (by kernel_rfl) (by kernel_rfl) (fun _ _ _ h => h) (Or.inl ⟨by rfl, ?y8_201⟩) hHeld ?r8_201
          case y8_201 => intro w hSw; (try dsimp only at hSw); go_simp; try with_reducible rfl
          try simp only [Act.put, List.setIfInBounds_toArray, List.set_cons_zero, List.set_cons_succ]
          refine wpAnyH_ready (rs := [9]) (by kernel_rfl) (by simp) ?_
          refine AllReadyH.cons (o := { dst := some 179, op := Go.Op.call { callee := Go.Callee.value (Go.Operand.func 18), args := #[Go.Operand.tmp 178], argTypes := #[45] }, type := 36, pos := "extra.go:39", after := #[{ on := 8, ground := Go.Ground.data }, { on := 2, ground := Go.Ground.chain }, { on := 2, ground := Go.Ground.guard }], guard := some (2, false) }) rfl (fun K hK => ?_) AllReadyH.nil
          go_simp
          refine (keyOf_any ⟨⟨rn, rt, rc⟩, ru, rd⟩ _).mono ?_; rintro e wy0 ⟨rfl, hbd⟩
          have hb := hbd.b
          clear hbd
          go_wp2_with fail
          refine hK.out _ _ (⟨Lib.hid (hHeld.1.out.trans (hb.mono hHeld.1.out.size)), cell_later4 hb hHeld.2.1, cell_later4 hb hHeld.2.2.1, cell_later4 hb hHeld.2.2.2.1, cell_later4 hb hHeld.2.2.2.2.1, cell_later4 hb hHeld.2.2.2.2.2.1, cell_later4 hb hHeld.2.2.2.2.2.2.1, cell_later4 hb hHeld.2.2.2.2.2.2.2.1, cell_later4 hb hHeld.2.2.2.2.2.2.2.2.1, cell_later4 hb hHeld.2.2.2.2.2.2.2.2.2.1, cell_later4 hb hHeld.2.2.2.2.2.2.2.2.2.2.1, cell_later4 hb hHeld.2.2.2.2.2.2.2.2.2.2.2.1, cell_later4 hb hHeld.2.2.2.2.2.2.2.2.2.2.2.2.1, cell_later4 hb hHeld.2.2.2.2.2.2.2.2.2.2.2.2.2.1, cell_later4 hb hHeld.2.2.2.2.2.2.2.2.2.2.2.2.2.2.1, cell_later4 hb hHeld.2.2.2.2.2.2.2.2.2.2.2.2.2.2.2⟩) (fun hHeld2 => ?_)
          clear hK K hHeld
          have hHeld := hHeld2
          clear hHeld2
          try simp only [Act.put, List.setIfInBounds_toArray, List.set_cons_zero, List.set_cons_succ]
          refine wpAnyH_take (i := 10) (oi := { dst := some 180, op := Go.Op.binOp Go.BinOp.neq 36 (Go.Operand.tmp 177) (Go.Operand.tmp 179) 36, type := 4, pos := "extra.go:39", after := #[{ on := 7, ground := Go.Ground.data }, { on := 9, ground := Go.Ground.data }, { on := 2, ground := Go.Ground.guard }], guard := some (2, false) }) (v := ?v10_202) rfl (by kernel_rfl) (by kernel_rfl) (by kernel_rfl) (fun _ _ _ h => h) (Or.inl ⟨by rfl, ?y10_202⟩) hHeld ?r10_202
          case y10_202 => intro w hSw; (try dsimp only at hSw); go_simp; try with_reducible rfl
          try simp only [Act.put, List.setIfInBounds_toArray, List.set_cons_zero, List.set_cons_succ]
          refine wpAnyH_take (i := 11) (oi := { dst := some 181, op := Go.Op.move (Go.Operand.tmp 180), type := 4, pos := "extra.go:39", after := #[{ on := 10, ground := Go.Ground.data }, { on := 9, ground := Go.Ground.chain }, { on := 2, ground := Go.Ground.guard }], guard := some (2, false) }) (v := ?v11_202) rfl (by kernel_rfl) (by kernel_rfl) (by kernel_rfl) (fun _ _ _ h => h) (Or.inl ⟨by rfl, ?y11_202⟩) hHeld ?r11_202
          case y11_202 => intro w hSw; (try dsimp only at hSw); go_simp; try with_reducible rfl
          try simp only [Act.put, List.setIfInBounds_toArray, List.set_cons_zero, List.set_cons_succ]
          refine wpAnyH_take (i := 12) (oi := { dst := some 182, op := Go.Op.load 39 (Go.Operand.tmp 15), type := 39, pos := "extra.go:39", after := #[{ on := 11, ground := Go.Ground.guard }], guard := some (11, true) }) (v := undef) rfl (by kernel_rfl) (by kernel_rfl) (by kernel_rfl) (fun _ _ _ h => h) (Or.inr ⟨by rfl, rfl⟩) hHeld ?_
          try simp only [Act.put, List.setIfInBounds_toArray, List.set_cons_zero, List.set_cons_succ]
          refine wpAnyH_take (i := 13) (oi := { dst := some 183, op := Go.Op.move (Go.Operand.tmp 13), type := 33, pos := "extra.go:39", after := #[{ on := 11, ground := Go.Ground.guard }], guard := some (11, true) }) (v := undef) rfl (by kernel_rfl) (by kernel_rfl) (by kernel_rfl) (fun _ _ _ h => h) (Or.inr ⟨by rfl, rfl⟩) hHeld ?_
          try simp only [Act.put, List.setIfInBounds_toArray, List.set_cons_zero, List.set_cons_succ]
          refine wpAnyH_take (i := 14) (oi := { dst := some 184, op := Go.Op.move (Go.Operand.tmp 14), type := 3, pos := "extra.go:39", after := #[{ on := 11, ground := Go.Ground.guard }], guard := some (11, true) }) (v := undef) rfl (by kernel_rfl) (by kernel_rfl) (by kernel_rfl) (fun _ _ _ h => h) (Or.inr ⟨by rfl, rfl⟩) hHeld ?_
          try simp only [Act.put, List.setIfInBounds_toArray, List.set_cons_zero, List.set_cons_succ]
          refine wpAnyH_take (i := 15) (oi := { dst := some 185, op := Go.Op.indexAddr 33 (Go.Operand.tmp 183) (Go.Operand.tmp 184), type := 0, pos := "extra.go:39", after := #[{ on := 13, ground := Go.Ground.data }, { on := 14, ground := Go.Ground.data }, { on := 11, ground := Go.Ground.guard }], guard := some (11, true) }) (v := undef) rfl (by kernel_rfl) (by kernel_rfl) (by kernel_rfl) (fun _ _ _ h => h) (Or.inr ⟨by rfl, rfl⟩) hHeld ?_
          try simp only [Act.put, List.setIfInBounds_toArray, List.set_cons_zero, List.set_cons_succ]
          refine wpAnyH_take (i := 16) (oi := { dst := some 186, op := Go.Op.load 39 (Go.Operand.tmp 185), type := 39, pos := "extra.go:39", after := #[{ on := 15, ground := Go.Ground.data }, { on := 11, ground := Go.Ground.guard }], guard := some (11, true) }) (v := undef) rfl (by kernel_rfl) (by kernel_rfl) (by kernel_rfl) (fun _ _ _ h => h) (Or.inr ⟨by rfl, rfl⟩) hHeld ?_
          try simp only [Act.put, List.setIfInBounds_toArray, List.set_cons_zero, List.set_cons_succ]
          refine wpAnyH_take (i := 17) (oi := { dst := some 187, op := Go.Op.call { callee := Go.Callee.value (Go.Operand.func 31), args := #[Go.Operand.tmp 182, Go.Operand.tmp 186], argTypes := #[39, 39] }, type := 4, pos := "extra.go:39", after := #[{ on := 12, ground := Go.Ground.data }, { on := 16, ground := Go.Ground.data }, { on := 11, ground := Go.Ground.chain }, { on := 11, ground := Go.Ground.guard }], guard := some (11, true) }) (v := undef) rfl (by kernel_rfl) (by kernel_rfl) (by kernel_rfl) (fun _ _ _ h => h) (Or.inr ⟨by rfl, rfl⟩) hHeld ?_
          try simp only [Act.put, List.setIfInBounds_toArray, List.set_cons_zero, List.set_cons_succ]
          refine wpAnyH_take (i := 18) (oi := { dst := some 188, op := Go.Op.unOp Go.UnOp.not 4 (Go.Operand.tmp 187), type := 4, pos := "extra.go:39", after := #[{ on := 17, ground := Go.Ground.data }, { on := 11, ground := Go.Ground.guard }], guard := some (11, true) }) (v := undef) rfl (by kernel_rfl) (by kernel_rfl) (by kernel_rfl) (fun _ _ _ h => h) (Or.inr ⟨by rfl, rfl⟩) hHeld ?_
          try simp only [Act.put, List.setIfInBounds_toArray, List.set_cons_zero, List.set_cons_succ]
          refine wpAnyH_take (i := 19) (oi := { dst := some 189, op := Go.Op.pick (Go.Operand.tmp 181) (Go.Operand.tmp 188) (Go.Operand.const (Go.Value.bool false)), type := 4, pos := "extra.go:39", after := #[{ on := 11, ground := Go.Ground.data }, { on := 18, ground := Go.Ground.data }, { on := 2, ground := Go.Ground.guard }], guard := some (2, false) }) (v := ?v19_202) rfl (by kernel_rfl) (by kernel_rfl) (by kernel_rfl) (fun _ _ _ h => h) (Or.inl ⟨by rfl, ?y19_202⟩) hHeld ?r19_202
          case y19_202 => intro w hSw; (try dsimp only at hSw); go_simp; try with_reducible rfl
          try simp only [Act.put, List.setIfInBounds_toArray, List.set_cons_zero, List.set_cons_succ]
          refine wpAnyH_take (i := 20) (oi := { dst := some 190, op := Go.Op.pick (Go.Operand.tmp 172) (Go.Operand.const (Go.Value.bool true)) (Go.Operand.tmp 189), type := 4, pos := "extra.go:39", after := #[{ on := 2, ground := Go.Ground.data }, { on := 19, ground := Go.Ground.data }], guard := none }) (v := ?v20_202) rfl (by kernel_rfl) (by kernel_rfl) (by kernel_rfl) (fun _ _ _ h => h) (Or.inl ⟨by rfl, ?y20_202⟩) hHeld ?r20_202
          case y20_202 => intro w hSw; (try dsimp only at hSw); go_simp; try with_reducible rfl
          try simp only [Act.put, List.setIfInBounds_toArray, List.set_cons_zero, List.set_cons_succ]
          refine wpAnyH_done (by kernel_rfl) ?_ _
          have HBE := Lib.hid (hbw.out.trans ((HXG.out.trans (hHeld.1.out.mono HXG.out.size)).mono hbw.out.size))
          clear hHeld hb
          go_wp2
          go_roundw
          case rel => exact ⟨k + 1, by have := HLT.out; omega, by have := HLT.out; go_num, HBE⟩
          case measure => have := HLT.out; simp [intOf]; omega
        · have hkb : (sn.toList == rn.toList && (st == rt && sk == rc)) = false := by rw [Bool.eq_false_iff]; intro h; exact hkk ((key_same ⟨sn, st, sk⟩ ⟨rn, rt, rc⟩).1 h)
          have kne := key_neq sn rn st sk rt rc
          simp only [hkb, Bool.not_false] at kne
          clear hkb
          have hts := HSAM.out hkk
          simp only [SetP.mk.injEq, Ky.mk.injEq] at hts
          obtain ⟨⟨rfl, rfl, rfl⟩, rfl, rfl⟩ := hts
          have hll : dl = tl := by rw [← HDL.out, HTL.out]
          subst hll
          have HSAME := Lib.hid (fun wx (hx : Below wb.heap.size wb wx) => same_self tn tt tk tu td ta2 pa dl tc2 ca wx (HTR.out.below hx) (HSRB.out.below hx) HDLE.out)
          clear hkk
          refine wp_region_held_drew (S := (fun wx => Hid (Below wb.heap.size wb wx) ∧ wx.cell? ⟨b, o + k * 5, none⟩ = some (.string tn) ∧ wx.cell? ⟨b, o + k * 5 + 1, none⟩ = some (.int .i64 tt) ∧ wx.cell? ⟨b, o + k * 5 + 2, none⟩ = some (.int .i64 tk) ∧ wx.cell? ⟨b, o + k * 5 + 3, none⟩ = some (.int .i64 tu) ∧ wx.cell? ⟨b, o + k * 5 + 4, none⟩ = some (.slice pa dl ca) ∧ wx.cell? ⟨q, 0, none⟩ = some (.string rn) ∧ wx.cell? ⟨q, 1, none⟩ = some (.int .i64 rt) ∧ wx.cell? ⟨q, 2, none⟩ = some (.int .i64 rc) ∧ wx.cell? ⟨q, 3, none⟩ = some (.int .i64 ru) ∧ wx.cell? ⟨q, 4, none⟩ = some (.string rd) ∧ wx.cell? ⟨q15, 0, none⟩ = some (.string tn) ∧ wx.cell? ⟨q15, 1, none⟩ = some (.int .i64 tt) ∧ wx.cell? ⟨q15, 2, none⟩ = some (.int .i64 tk) ∧ wx.cell? ⟨q15, 3, none⟩ = some (.int .i64 tu) ∧ wx.cell? ⟨q15, 4, none⟩ = some (.slice ta2 dl tc2))) (by kernel_rfl) (⟨HBD, cell_later4 HBD.out X0.out, cell_later4 HBD.out X1.out, cell_later4 HBD.out X2.out, cell_later4 HBD.out X3.out, cell_later4 HBD.out X4.out, cell_later4 HBD.out r0, cell_later4 HBD.out r1, cell_later4 HBD.out r2, cell_later4 HBD.out r3, cell_later4 HBD.out r4, cell_later4 HBD.out HC7.out.2.1, cell_later4 HBD.out HC7.out.2.2.1, cell_later4 HBD.out HC7.out.2.2.2.1, cell_later4 HBD.out HC7.out.2.2.2.2.1, cell_later4 HBD.out HC7.out.2.2.2.2.2.1⟩) (fun hHeld => ?_)
          refine wpAnyH_take (i := 0) (oi := { dst := some 170, op := Go.Op.move (Go.Operand.tmp 16), type := 4, pos := "extra.go:39", after := #[], guard := none }) (v := ?v0_301) rfl (by kernel_rfl) (by kernel_rfl) (by kernel_rfl) (fun _ _ _ h => h) (Or.inl ⟨by rfl, ?y0_301⟩) hHeld ?r0_301
          case y0_301 => intro w hSw; (try dsimp only at hSw); go_simp; try with_reducible rfl
          try simp only [Act.put, List.setIfInBounds_toArray, List.set_cons_zero, List.set_cons_succ]
          refine wpAnyH_take (i := 1) (oi := { dst := some 171, op := Go.Op.unOp Go.UnOp.not 4 (Go.Operand.tmp 170), type := 4, pos := "extra.go:39", after := #[{ on := 0, ground := Go.Ground.data }], guard := none }) (v := ?v1_301) rfl (by kernel_rfl) (by kernel_rfl) (by kernel_rfl) (fun _ _ _ h => h) (Or.inl ⟨by rfl, ?y1_301⟩) hHeld ?r1_301
          case y1_301 => intro w hSw; (try dsimp only at hSw); go_simp; try with_reducible rfl
          try simp only [Act.put, List.setIfInBounds_toArray, List.set_cons_zero, List.set_cons_succ]
          refine wpAnyH_take (i := 2) (oi := { dst := some 172, op := Go.Op.move (Go.Operand.tmp 171), type := 4, pos := "extra.go:39", after := #[{ on := 1, ground := Go.Ground.data }], guard := none }) (v := ?v2_301) rfl (by kernel_rfl) (by kernel_rfl) (by kernel_rfl) (fun _ _ _ h => h) (Or.inl ⟨by rfl, ?y2_301⟩) hHeld ?r2_301
          case y2_301 => intro w hSw; (try dsimp only at hSw); go_simp; try with_reducible rfl
          try simp only [Act.put, List.setIfInBounds_toArray, List.set_cons_zero, List.set_cons_succ]
          refine wpAnyH_take (i := 3) (oi := { dst := some 173, op := Go.Op.move (Go.Operand.tmp 13), type := 33, pos := "extra.go:39", after := #[{ on := 2, ground := Go.Ground.guard }], guard := some (2, false) }) (v := ?v3_301) rfl (by kernel_rfl) (by kernel_rfl) (by kernel_rfl) (fun _ _ _ h => h) (Or.inl ⟨by rfl, ?y3_301⟩) hHeld ?r3_301
          case y3_301 => intro w hSw; (try dsimp only at hSw); go_simp; try with_reducible rfl
          try simp only [Act.put, List.setIfInBounds_toArray, List.set_cons_zero, List.set_cons_succ]
          refine wpAnyH_take (i := 4) (oi := { dst := some 174, op := Go.Op.move (Go.Operand.tmp 14), type := 3, pos := "extra.go:39", after := #[{ on := 2, ground := Go.Ground.guard }], guard := some (2, false) }) (v := ?v4_301) rfl (by kernel_rfl) (by kernel_rfl) (by kernel_rfl) (fun _ _ _ h => h) (Or.inl ⟨by rfl, ?y4_301⟩) hHeld ?r4_301
          case y4_301 => intro w hSw; (try dsimp only at hSw); go_simp; try with_reducible rfl
          try simp only [Act.put, List.setIfInBounds_toArray, List.set_cons_zero, List.set_cons_succ]
          refine wpAnyH_take (i := 5) (oi := { dst := some 175, op := Go.Op.indexAddr 33 (Go.Operand.tmp 173) (Go.Operand.tmp 174), type := 0, pos := "extra.go:39", after := #[{ on := 3, ground := Go.Ground.data }, { on := 4, ground := Go.Ground.data }, { on := 2, ground := Go.Ground.guard }], guard := some (2, false) }) (v := ?v5_301) rfl (by kernel_rfl) (by kernel_rfl) (by kernel_rfl) (fun _ _ _ h => h) (Or.inl ⟨by rfl, ?y5_301⟩) hHeld ?r5_301
          case y5_301 => intro w hSw; (try dsimp only at hSw); go_simp; try with_reducible rfl
          try simp only [Act.put, List.setIfInBounds_toArray, List.set_cons_zero, List.set_cons_succ]
          refine wpAnyH_take (i := 6) (oi := { dst := some 176, op := Go.Op.fieldAddr 39 (Go.Operand.tmp 175) 0, type := 0, pos := "extra.go:39", after := #[{ on := 5, ground := Go.Ground.data }, { on := 2, ground := Go.Ground.guard }], guard := some (2, false) }) (v := ?v6_301) rfl (by kernel_rfl) (by kernel_rfl) (by kernel_rfl) (fun _ _ _ h => h) (Or.inl ⟨by rfl, ?y6_301⟩) hHeld ?r6_301
          case y6_301 => intro w hSw; (try dsimp only at hSw); go_simp; try with_reducible rfl
          try simp only [Act.put, List.setIfInBounds_toArray, List.set_cons_zero, List.set_cons_succ]
          refine wpAnyH_take (i := 7) (oi := { dst := some 177, op := Go.Op.load 36 (Go.Operand.tmp 176), type := 36, pos := "extra.go:39", after := #[{ on := 6, ground := Go.Ground.data }, { on := 2, ground := Go.Ground.guard }], guard := some (2, false) }) (v := ?v7_301) rfl (by kernel_rfl) (by kernel_rfl) (by kernel_rfl) (fun _ _ _ h => h) (Or.inl ⟨by rfl, ?y7_301⟩) hHeld ?r7_301
          case y7_301 => intro w hSw; (try dsimp only at hSw); go_simp; try with_reducible rfl
          try simp only [Act.put, List.setIfInBounds_toArray, List.set_cons_zero, List.set_cons_succ]
          refine wpAnyH_take (i := 8) (oi := { dst := some 178, op := Go.Op.load 45 (Go.Operand.tmp 5), type := 45, pos := "extra.go:39", after := #[{ on := 2, ground := Go.Ground.guard }], guard := some (2, false) }) (v := ?v8_301) rfl (by kernel_rfl) (by kernel_rfl) (by kernel_rfl) (fun _ _ _ h => h) (Or.inl ⟨by rfl, ?y8_301⟩) hHeld ?r8_301
          case y8_301 => intro w hSw; (try dsimp only at hSw); go_simp; try with_reducible rfl
          try simp only [Act.put, List.setIfInBounds_toArray, List.set_cons_zero, List.set_cons_succ]
          refine wpAnyH_ready (rs := [9]) (by kernel_rfl) (by simp) ?_
          refine AllReadyH.cons (o := { dst := some 179, op := Go.Op.call { callee := Go.Callee.value (Go.Operand.func 18), args := #[Go.Operand.tmp 178], argTypes := #[45] }, type := 36, pos := "extra.go:39", after := #[{ on := 8, ground := Go.Ground.data }, { on := 2, ground := Go.Ground.chain }, { on := 2, ground := Go.Ground.guard }], guard := some (2, false) }) rfl (fun K hK => ?_) AllReadyH.nil
          go_simp
          refine (keyOf_any ⟨⟨rn, rt, rc⟩, ru, rd⟩ _).mono ?_; rintro e wy0 ⟨rfl, hbd⟩
          have hb := hbd.b
          clear hbd
          go_wp2_with fail
          refine hK.out _ _ (⟨Lib.hid (hHeld.1.out.trans (hb.mono hHeld.1.out.size)), cell_later4 hb hHeld.2.1, cell_later4 hb hHeld.2.2.1, cell_later4 hb hHeld.2.2.2.1, cell_later4 hb hHeld.2.2.2.2.1, cell_later4 hb hHeld.2.2.2.2.2.1, cell_later4 hb hHeld.2.2.2.2.2.2.1, cell_later4 hb hHeld.2.2.2.2.2.2.2.1, cell_later4 hb hHeld.2.2.2.2.2.2.2.2.1, cell_later4 hb hHeld.2.2.2.2.2.2.2.2.2.1, cell_later4 hb hHeld.2.2.2.2.2.2.2.2.2.2.1, cell_later4 hb hHeld.2.2.2.2.2.2.2.2.2.2.2.1, cell_later4 hb hHeld.2.2.2.2.2.2.2.2.2.2.2.2.1, cell_later4 hb hHeld.2.2.2.2.2.2.2.2.2.2.2.2.2.1, cell_later4 hb hHeld.2.2.2.2.2.2.2.2.2.2.2.2.2.2.1, cell_later4 hb hHeld.2.2.2.2.2.2.2.2.2.2.2.2.2.2.2⟩) (fun hHeld2 => ?_)
          clear hK K hHeld
          have hHeld := hHeld2
          clear hHeld2
          try simp only [Act.put, List.setIfInBounds_toArray, List.set_cons_zero, List.set_cons_succ]
          refine wpAnyH_take (i := 10) (oi := { dst := some 180, op := Go.Op.binOp Go.BinOp.neq 36 (Go.Operand.tmp 177) (Go.Operand.tmp 179) 36, type := 4, pos := "extra.go:39", after := #[{ on := 7, ground := Go.Ground.data }, { on := 9, ground := Go.Ground.data }, { on := 2, ground := Go.Ground.guard }], guard := some (2, false) }) (v := ?v10_302) rfl (by kernel_rfl) (by kernel_rfl) (by kernel_rfl) (fun _ _ _ h => h) (Or.inl ⟨by rfl, ?y10_302⟩) hHeld ?r10_302
          case y10_302 => intro w hSw; (try dsimp only at hSw); go_simp; try with_reducible rfl
          try simp only [Act.put, List.setIfInBounds_toArray, List.set_cons_zero, List.set_cons_succ]
          refine wpAnyH_take (i := 11) (oi := { dst := some 181, op := Go.Op.move (Go.Operand.tmp 180), type := 4, pos := "extra.go:39", after := #[{ on := 10, ground := Go.Ground.data }, { on := 9, ground := Go.Ground.chain }, { on := 2, ground := Go.Ground.guard }], guard := some (2, false) }) (v := ?v11_302) rfl (by kernel_rfl) (by kernel_rfl) (by kernel_rfl) (fun _ _ _ h => h) (Or.inl ⟨by rfl, ?y11_302⟩) hHeld ?r11_302
          case y11_302 => intro w hSw; (try dsimp only at hSw); go_simp; try with_reducible rfl
          try simp only [Act.put, List.setIfInBounds_toArray, List.set_cons_zero, List.set_cons_succ]
          refine wpAnyH_take (i := 12) (oi := { dst := some 182, op := Go.Op.load 39 (Go.Operand.tmp 15), type := 39, pos := "extra.go:39", after := #[{ on := 11, ground := Go.Ground.guard }], guard := some (11, true) }) (v := ?v12_302) rfl (by kernel_rfl) (by kernel_rfl) (by kernel_rfl) (fun _ _ _ h => h) (Or.inl ⟨by rfl, ?y12_302⟩) hHeld ?r12_302
          case y12_302 => intro w hSw; (try dsimp only at hSw); go_simp; try with_reducible rfl
          try simp only [Act.put, List.setIfInBounds_toArray, List.set_cons_zero, List.set_cons_succ]
          refine wpAnyH_take (i := 13) (oi := { dst := some 183, op := Go.Op.move (Go.Operand.tmp 13), type := 33, pos := "extra.go:39", after := #[{ on := 11, ground := Go.Ground.guard }], guard := some (11, true) }) (v := ?v13_302) rfl (by kernel_rfl) (by kernel_rfl) (by kernel_rfl) (fun _ _ _ h => h) (Or.inl ⟨by rfl, ?y13_302⟩) hHeld ?r13_302
          case y13_302 => intro w hSw; (try dsimp only at hSw); go_simp; try with_reducible rfl
          try simp only [Act.put, List.setIfInBounds_toArray, List.set_cons_zero, List.set_cons_succ]
          refine wpAnyH_take (i := 14) (oi := { dst := some 184, op := Go.Op.move (Go.Operand.tmp 14), type := 3, pos := "extra.go:39", after := #[{ on := 11, ground := Go.Ground.guard }], guard := some (11, true) }) (v := ?v14_302) rfl (by kernel_rfl) (by kernel_rfl) (by kernel_rfl) (fun _ _ _ h => h) (Or.inl ⟨by rfl, ?y14_302⟩) hHeld ?r14_302
          case y14_302 => intro w hSw; (try dsimp only at hSw); go_simp; try with_reducible rfl
          try simp only [Act.put, List.setIfInBounds_toArray, List.set_cons_zero, List.set_cons_succ]
          refine wpAnyH_take (i := 15) (oi := { dst := some 185, op := Go.Op.indexAddr 33 (Go.Operand.tmp 183) (Go.Operand.tmp 184), type := 0, pos := "extra.go:39", after := #[{ on := 13, ground := Go.Ground.data }, { on := 14, ground := Go.Ground.data }, { on := 11, ground := Go.Ground.guard }], guard := some (11, true) }) (v := ?v15_302) rfl (by kernel_rfl) (by kernel_rfl) (by kernel_rfl) (fun _ _ _ h => h) (Or.inl ⟨by rfl, ?y15_302⟩) hHeld ?r15_302
          case y15_302 => intro w hSw; (try dsimp only at hSw); go_simp; try with_reducible rfl
          try simp only [Act.put, List.setIfInBounds_toArray, List.set_cons_zero, List.set_cons_succ]
          refine wpAnyH_take (i := 16) (oi := { dst := some 186, op := Go.Op.load 39 (Go.Operand.tmp 185), type := 39, pos := "extra.go:39", after := #[{ on := 15, ground := Go.Ground.data }, { on := 11, ground := Go.Ground.guard }], guard := some (11, true) }) (v := ?v16_302) rfl (by kernel_rfl) (by kernel_rfl) (by kernel_rfl) (fun _ _ _ h => h) (Or.inl ⟨by rfl, ?y16_302⟩) hHeld ?r16_302
          case y16_302 => intro w hSw; (try dsimp only at hSw); go_simp; try with_reducible rfl
          try simp only [Act.put, List.setIfInBounds_toArray, List.set_cons_zero, List.set_cons_succ]
          refine wpAnyH_ready (rs := [17]) (by kernel_rfl) (by simp) ?_
          refine AllReadyH.cons (o := { dst := some 187, op := Go.Op.call { callee := Go.Callee.value (Go.Operand.func 31), args := #[Go.Operand.tmp 182, Go.Operand.tmp 186], argTypes := #[39, 39] }, type := 4, pos := "extra.go:39", after := #[{ on := 12, ground := Go.Ground.data }, { on := 16, ground := Go.Ground.data }, { on := 11, ground := Go.Ground.chain }, { on := 11, ground := Go.Ground.guard }], guard := some (11, true) }) rfl (fun K hK => ?_) AllReadyH.nil
          go_simp
          refine (HSAME.out _ hHeld.1.out).mono ?_; rintro e wz1 ⟨rfl, hb⟩
          go_wp2_with fail
          refine hK.out _ _ (⟨Lib.hid (hHeld.1.out.trans (hb.mono hHeld.1.out.size)), cell_later4 hb hHeld.2.1, cell_later4 hb hHeld.2.2.1, cell_later4 hb hHeld.2.2.2.1, cell_later4 hb hHeld.2.2.2.2.1, cell_later4 hb hHeld.2.2.2.2.2.1, cell_later4 hb hHeld.2.2.2.2.2.2.1, cell_later4 hb hHeld.2.2.2.2.2.2.2.1, cell_later4 hb hHeld.2.2.2.2.2.2.2.2.1, cell_later4 hb hHeld.2.2.2.2.2.2.2.2.2.1, cell_later4 hb hHeld.2.2.2.2.2.2.2.2.2.2.1, cell_later4 hb hHeld.2.2.2.2.2.2.2.2.2.2.2.1, cell_later4 hb hHeld.2.2.2.2.2.2.2.2.2.2.2.2.1, cell_later4 hb hHeld.2.2.2.2.2.2.2.2.2.2.2.2.2.1, cell_later4 hb hHeld.2.2.2.2.2.2.2.2.2.2.2.2.2.2.1, cell_later4 hb hHeld.2.2.2.2.2.2.2.2.2.2.2.2.2.2.2⟩) (fun hHeld2 => ?_)
          clear hK K hHeld
          have hHeld := hHeld2
          clear hHeld2
          try simp only [Act.put, List.setIfInBounds_toArray, List.set_cons_zero, List.set_cons_succ]
          refine wpAnyH_take (i := 18) (oi := { dst := some 188, op := Go.Op.unOp Go.UnOp.not 4 (Go.Operand.tmp 187), type := 4, pos := "extra.go:39", after := #[{ on := 17, ground := Go.Ground.data }, { on := 11, ground := Go.Ground.guard }], guard := some (11, true) }) (v := ?v18_303) rfl (by kernel_rfl) (by kernel_rfl) (by kernel_rfl) (fun _ _ _ h => h) (Or.inl ⟨by rfl, ?y18_303⟩) hHeld ?r18_303
          case y18_303 => intro w hSw; (try dsimp only at hSw); go_simp; try with_reducible rfl
          try simp only [Act.put, List.setIfInBounds_toArray, List.set_cons_zero, List.set_cons_succ]
          refine wpAnyH_take (i := 19) (oi := { dst := some 189, op := Go.Op.pick (Go.Operand.tmp 181) (Go.Operand.tmp 188) (Go.Operand.const (Go.Value.bool false)), type := 4, pos := "extra.go:39", after := #[{ on := 11, ground := Go.Ground.data }, { on := 18, ground := Go.Ground.data }, { on := 2, ground := Go.Ground.guard }], guard := some (2, false) }) (v := ?v19_303) rfl (by kernel_rfl) (by kernel_rfl) (by kernel_rfl) (fun _ _ _ h => h) (Or.inl ⟨by rfl, ?y19_303⟩) hHeld ?r19_303
          case y19_303 => intro w hSw; (try dsimp only at hSw); go_simp; try with_reducible rfl
          try simp only [Act.put, List.setIfInBounds_toArray, List.set_cons_zero, List.set_cons_succ]
          refine wpAnyH_take (i := 20) (oi := { dst := some 190, op := Go.Op.pick (Go.Operand.tmp 172) (Go.Operand.const (Go.Value.bool true)) (Go.Operand.tmp 189), type := 4, pos := "extra.go:39", after := #[{ on := 2, ground := Go.Ground.data }, { on := 19, ground := Go.Ground.data }], guard := none }) (v := ?v20_303) rfl (by kernel_rfl) (by kernel_rfl) (by kernel_rfl) (fun _ _ _ h => h) (Or.inl ⟨by rfl, ?y20_303⟩) hHeld ?r20_303
          case y20_303 => intro w hSw; (try dsimp only at hSw); go_simp; try with_reducible rfl
          try simp only [Act.put, List.setIfInBounds_toArray, List.set_cons_zero, List.set_cons_succ]
          refine wpAnyH_done (by kernel_rfl) ?_ _
          have HBE := Lib.hid (hbw.out.trans ((HXG.out.trans (hHeld.1.out.mono HXG.out.size)).mono hbw.out.size))
          clear hHeld hb
          go_wp2
          go_roundw
          case rel => exact ⟨k + 1, by have := HLT.out; omega, by have := HLT.out; go_num, HBE⟩
          case measure => have := HLT.out; simp [intOf]; omega
      · have HX14 := Lib.hid (HX13.out.trans (hbw.out.mono HX13.out.size))
        have HB14 := Lib.hid (HB13.out.trans (hbw.out.mono HB13.out.size))
        have HQ14 := Lib.hid (HQ13.out.below hbw.out)
        have hkb : k ≤ 100000 := by omega
        clear hbw HX13 HB13 HQ13 HSA3 hk
        obtain ⟨r0, r1, r2, r3, r4, -⟩ := HQ14.out.u5
        go_wp2_with fail
        refine (keyOf_any ⟨⟨rn, rt, rc⟩, ru, rd⟩ _).mono ?_; rintro e w15 ⟨rfl, hbd⟩
        have hb := hbd.b
        have HX15 := Lib.hid (HX14.out.trans (hb.mono HX14.out.size))
        have HB15 := Lib.hid (HB14.out.trans (hb.mono HB14.out.size))
        have HQ15 := Lib.hid (HQ14.out.below hb)
        clear hb hbd HX14 HB14 HQ14 r0 r1 r2 r3 r4
        obtain ⟨t, hft, hmt⟩ := more_last HOK2.out.canon
        have HTN := Lib.hid (HOK2.out.sz.2 _ (find_mem hft)).2
        have HFT := Lib.hid hft
        have HMT := Lib.hid hmt
        clear hft hmt
        go_wp2_with fail
        refine (zget_any z2 apex B rn rt rc w15 (HOK2.out.is.below HX15.out) HOK2.out.canon.keys HOK2.out.sz HRN.out).mono ?_; rintro e wg ⟨hf, hbg⟩
        rcases hf with ⟨s', dv, hfs, rfl, ho⟩ | ⟨hfn, -⟩
        case inr => rw [HFT.out] at hfn; cases hfn
        obtain rfl : t = s' := by rw [HFT.out] at hfs; exact Option.some.inj hfs
        obtain ⟨⟨tn, tt, tk⟩, tu, td⟩ := t
        replace ho : wg.ownsRow w15.heap.size 9 1 dv td.length (sc td) := ho
        obtain ⟨ta2, tc2, rfl, htr, -⟩ := rowS_of_own ho
        have htn : td.length ≤ 100000 := HTN.out
        obtain ⟨tl, htl⟩ : ∃ x, td.length = x := ⟨_, rfl⟩
        rw [htl] at htr htn
        have hba := (Below.refl wg.heap.size wg).alloc (Nat.le_refl _) (.cells #[.string tn, .int .i64 tt, .int .i64 tk, .int .i64 tu, .slice ta2 tl tc2] 39)
        have hbb := hbg.trans (hba.mono hbg.size)
        have HB16 := Lib.hid (HB15.out.trans (hbb.mono HB15.out.size))
        have HQ16 := Lib.hid (HQ15.out.below hbb)
        have HTR := Lib.hid (htr.below hba)
        have HC7 := Lib.hid (c5_new wg (.string tn) (.int .i64 tt) (.int .i64 tk) (.int .i64 tu) (.slice ta2 tl tc2) 39)
        have HHAS := Lib.hid (fun wx (hx : Below _ _ wx) => has_any tn tt tk tu td ta2 tl tc2 rd wx (HTR.out.below hx) htn)
        rw [show memS rd td = true from HMT.out] at HHAS
        dsimp only
        rw [htl]
        clear hfs ho htr hba hbg hbb htl htn HB15 HQ15 HX15
        go_upto_region 26 with (fail)
        obtain ⟨wb, hwb⟩ : ∃ x, wg.alloc (.cells #[.string tn, .int .i64 tt, .int .i64 tk, .int .i64 tu, .slice ta2 tl tc2] 39) = x := ⟨_, rfl⟩
        rw [hwb] at HB16 HQ16 HTR HC7 HHAS ⊢
        clear hwb
        obtain ⟨q17, hq⟩ : ∃ x, wg.heap.size = x := ⟨_, rfl⟩
        rw [hq] at HC7 ⊢
        clear hq
        go_wp2_with fail
        refine (first10 _).mono ?_; rintro e w17 ⟨rfl, hb⟩
        have HB17 := Lib.hid (HB16.out.trans (hb.mono HB16.out.size))
        have HQ17 := Lib.hid (HQ16.out.below hb)
        have HC17 := Lib.hid (HC7.out.below hb)
        have HH := Lib.hid (HHAS.out _ hb)
        clear hb HB16 HQ16 HC7 HHAS
        obtain ⟨r0, r1, r2, r3, r4, -⟩ := HQ17.out.u5
        obtain ⟨-, y0, y1, y2, y3, y4, -⟩ := HC17.out
        go_wp2_with fail
        refine HH.out.mono ?_; rintro e w18 ⟨rfl, hb⟩
        have HB18 := Lib.hid (HB17.out.trans (hb.mono HB17.out.size))
        clear hb HB17 r0 r1 r2 r3 r4 y0 y1 y2 y3 y4
        go_wp2
        go_ret
        exact ⟨rfl, HB18.out⟩
  · go_simp
    have hb := (Below.refl _ _ : Below wd.heap.size wd wd).alloc (Nat.le_refl _) (.cells #[.string rn, .int .i64 rt, .int .i64 rc, .int .i64 ru, .string rd] 45)
    have HLIT := Lib.hid (show CellsAt (wd.alloc (.cells #[.string rn, .int .i64 rt, .int .i64 rc, .int .i64 ru, .string rd] 45)) (some ⟨wd.heap.size, 0, none⟩) (1 * 5) (encR ⟨⟨rn, rt, rc⟩, ru, rd⟩) from cells_lit wd #[.string rn, .int .i64 rt, .int .i64 rc, .int .i64 ru, .string rd] 45)
    obtain ⟨we1, hw⟩ : ∃ x, wd.alloc (.cells #[.string rn, .int .i64 rt, .int .i64 rc, .int .i64 ru, .string rd] 45) = x := ⟨_, rfl⟩
    obtain ⟨ge, hge⟩ : ∃ x, wd.heap.size = x := ⟨_, rfl⟩
    rw [hw] at hb HLIT ⊢
    rw [hge] at HLIT ⊢
    clear hw hge
    refine hK.out _ _ (⟨Lib.hid (hHeld.1.out.trans (hb.mono hHeld.1.out.size)), cell_later4 hb hHeld.2.1, cell_later4 hb hHeld.2.2.1, cell_later4 hb hHeld.2.2.2.1, cell_later4 hb hHeld.2.2.2.2.1, cell_later4 hb hHeld.2.2.2.2.2⟩) (fun hHeld2 => ?_)
    clear hK K hHeld
    have hHeld := hHeld2
    clear hHeld2
    try simp only [Act.put, List.setIfInBounds_toArray, List.set_cons_zero, List.set_cons_succ]
    refine wpAnyH_ready (rs := [2]) (by kernel_rfl) (by simp) ?_
    refine AllReadyH.cons (o := { dst := some 53, op := Go.Op.call { callee := Go.Callee.value (Go.Operand.func 29), args := #[Go.Operand.tmp 52], argTypes := #[22] }, type := 22, pos := "extra.go:23", after := #[{ on := 1, ground := Go.Ground.data }], guard := none }) rfl (fun K hK => ?_) AllReadyH.nil
    go_simp
    refine (copyRRs_any a n c l _ (HR.out.below (HB4.out.trans (hHeld.1.out.mono HB4.out.size))) HN.out (by have := HN3.out; omega)).mono ?_; rintro e we2 ⟨vc, rfl, hown, hb⟩
    have HO := Lib.hid (own_mono4 (base' := w4.heap.size) hown hHeld.1.out.size)
    clear hown
    replace HLIT := Lib.hid (HLIT.out.below hb)
    go_wp2_with fail
    refine hK.out _ _ (⟨Lib.hid (hHeld.1.out.trans (hb.mono hHeld.1.out.size)), cell_later4 hb hHeld.2.1, cell_later4 hb hHeld.2.2.1, cell_later4 hb hHeld.2.2.2.1, cell_later4 hb hHeld.2.2.2.2.1, cell_later4 hb hHeld.2.2.2.2.2⟩) (fun hHeld2 => ?_)
    clear hK K hHeld
    have hHeld := hHeld2
    clear hHeld2
    try simp only [Act.put, List.setIfInBounds_toArray, List.set_cons_zero, List.set_cons_succ]
    refine wpAnyH_ready (rs := [5]) (by kernel_rfl) (by simp) ?_
    refine AllReadyH.cons (o := { dst := some 56, op := Go.Op.call { callee := Go.Callee.builtin Go.Builtin.append, args := #[Go.Operand.tmp 53, Go.Operand.tmp 55], argTypes := #[22, 22] }, type := 22, pos := "extra.go:23", after := #[{ on := 2, ground := Go.Ground.data }, { on := 4, ground := Go.Ground.data }, { on := 2, ground := Go.Ground.chain }], guard := none }) rfl (fun K hK => ?_) AllReadyH.nil
    refine step_append_cellsK (by rfl) _ _ 22 45 (by rfl) i0' _ 5 56 Try.underlying22 HI.out HZ0.out HZ1.out HZ2.out rfl (by decide) w4.heap.size _ n _ (by rfl) HO.out (some ⟨ge, 0, none⟩) 1 1 (encR ⟨⟨rn, rt, rc⟩, ru, rd⟩) (by rfl) (fun h => by cases h) HLIT.out (fun u hu => flatR_one [⟨⟨rn, rt, rc⟩, ru, rd⟩] u (by simpa [flatR] using hu)) (by have := HN3.out; omega) (by decide) (hHeld.1.out.size) ?_
    intro v5 we3 hown hgrow
    have HNQ := Lib.hid (show ∀ k, vc.ownBlock = some k → q ≠ k from fun k hk => by have h1 := (HO.out.lt k hk).1; have h2 := HQ4.out.1; omega)
    have HOX := Lib.hid hown
    refine hK.out _ _ (⟨Lib.hid (hHeld.1.out.grown hgrow hHeld.1.out.size (fun k hk => (HO.out.lt k hk).1)), hgrow.cell hHeld.2.1 (fun e => HNQ.out _ e.symm rfl), hgrow.cell hHeld.2.2.1 (fun e => HNQ.out _ e.symm rfl), hgrow.cell hHeld.2.2.2.1 (fun e => HNQ.out _ e.symm rfl), hgrow.cell hHeld.2.2.2.2.1 (fun e => HNQ.out _ e.symm rfl), hgrow.cell hHeld.2.2.2.2.2 (fun e => HNQ.out _ e.symm rfl)⟩) (fun hHeld2 => ?_)
    clear hK K hHeld
    have hHeld := hHeld2
    clear hHeld2
    try simp only [Act.put, List.setIfInBounds_toArray, List.set_cons_zero, List.set_cons_succ]
    refine wpAnyH_ready (rs := [6]) (by kernel_rfl) (by simp) ?_
    refine AllReadyH.cons (o := { dst := some 57, op := Go.Op.call { callee := Go.Callee.value (Go.Operand.func 11), args := #[Go.Operand.tmp 51, Go.Operand.tmp 56], argTypes := #[9, 22] }, type := 27, pos := "extra.go:23", after := #[{ on := 0, ground := Go.Ground.data }, { on := 5, ground := Go.Ground.data }, { on := 5, ground := Go.Ground.chain }], guard := none }) rfl (fun K hK => ?_) AllReadyH.nil
    obtain ⟨ta, tc, rfl, hrt, hnt⟩ := rowR_own (l := (l ++ [⟨⟨rn, rt, rc⟩, ru, rd⟩])) (show we3.ownsRow w4.heap.size 45 5 v5 (n + 1) (flatR (l ++ [⟨⟨rn, rt, rc⟩, ru, rd⟩])) by rw [flatR_append]; simpa [flatR] using HOX.out)
    clear HOX hgrow hown
    go_simp
    refine (znew_any apex ta (n + 1) tc (l ++ [⟨⟨rn, rt, rc⟩, ru, rd⟩]) _ hrt hnt (by have := HN3.out; omega) (fun r hr => by rcases List.mem_append.1 hr with h | h; (have := (HSM.out r h).1; omega); (obtain rfl := List.mem_singleton.1 h; exact HRN.out)) (fun r hr => by rcases List.mem_append.1 hr with h | h; (have := (HSM.out r h).2; omega); (obtain rfl := List.mem_singleton.1 h; exact HRD.out)) HA1.out).mono ?_; rintro e w5 hn5
    obtain ⟨p5, x5, rfl⟩ := newR_any hn5
    have hb := hn5.2
    have HN5 := Lib.hid hn5
    clear hn5 hrt hnt
    go_wp2_with fail
    refine hK.out _ _ (⟨Lib.hid (hHeld.1.out.trans (hb.mono hHeld.1.out.size)), cell_later4 hb hHeld.2.1, cell_later4 hb hHeld.2.2.1, cell_later4 hb hHeld.2.2.2.1, cell_later4 hb hHeld.2.2.2.2.1, cell_later4 hb hHeld.2.2.2.2.2⟩) (fun hHeld2 => ?_)
    clear hK K hHeld
    have hHeld := hHeld2
    clear hHeld2
    try simp only [Act.put, List.setIfInBounds_toArray, List.set_cons_zero, List.set_cons_succ]
    refine wpAnyH_take (i := 7) (oi := { dst := some 50, op := Go.Op.move (Go.Operand.tmp 57), type := 27, pos := "extra.go:23", after := #[{ on := 6, ground := Go.Ground.data }], guard := none }) (v := ?v7_109) rfl (by kernel_rfl) (by kernel_rfl) (by kernel_rfl) (fun _ _ _ h => h) (Or.inl ⟨by rfl, ?y7_109⟩) hHeld ?r7_109
    case y7_109 => intro w hSw; (try dsimp only at hSw); go_simp; try with_reducible rfl
    try simp only [Act.put, List.setIfInBounds_toArray, List.set_cons_zero, List.set_cons_succ]
    refine wpAnyH_take (i := 8) (oi := { dst := some 58, op := Go.Op.extract (Go.Operand.tmp 50) 0, type := 25, pos := "extra.go:23", after := #[{ on := 7, ground := Go.Ground.data }], guard := none }) (v := ?v8_109) rfl (by kernel_rfl) (by kernel_rfl) (by kernel_rfl) (fun _ _ _ h => h) (Or.inl ⟨by rfl, ?y8_109⟩) hHeld ?r8_109
    case y8_109 => intro w hSw; (try dsimp only at hSw); go_simp; try with_reducible rfl
    try simp only [Act.put, List.setIfInBounds_toArray, List.set_cons_zero, List.set_cons_succ]
    refine wpAnyH_take (i := 9) (oi := { dst := some 59, op := Go.Op.extract (Go.Operand.tmp 50) 1, type := 26, pos := "extra.go:23", after := #[{ on := 7, ground := Go.Ground.data }, { on := 10, ground := Go.Ground.gcOnly Go.Departure.lateStores }], guard := none }) (v := ?v9_109) rfl (by kernel_rfl) (by kernel_rfl) (by kernel_rfl) (fun _ _ _ h => h) (Or.inl ⟨by rfl, ?y9_109⟩) hHeld ?r9_109
    case y9_109 => intro w hSw; (try dsimp only at hSw); go_simp; try with_reducible rfl
    try simp only [Act.put, List.setIfInBounds_toArray, List.set_cons_zero, List.set_cons_succ]
    refine wpAnyH_take (i := 10) (oi := { dst := some 9, op := Go.Op.assign (Go.Operand.tmp 58), type := 25, pos := "extra.go:23", after := #[{ on := 8, ground := Go.Ground.data }, { on := 6, ground := Go.Ground.chain }, { on := 0, ground := Go.Ground.phase }, { on := 1, ground := Go.Ground.phase }, { on := 2, ground := Go.Ground.phase }, { on := 3, ground := Go.Ground.phase }, { on := 4, ground := Go.Ground.phase }, { on := 5, ground := Go.Ground.phase }, { on := 6, ground := Go.Ground.phase }, { on := 7, ground := Go.Ground.phase }, { on := 8, ground := Go.Ground.phase }, { on := 9, ground := Go.Ground.textOnly Go.Departure.lateStores }], guard := none }) (v := ?v10_109) rfl (by kernel_rfl) (by kernel_rfl) (by kernel_rfl) (fun _ _ _ h => h) (Or.inl ⟨by rfl, ?y10_109⟩) hHeld ?r10_109
    case y10_109 => intro w hSw; (try dsimp only at hSw); go_simp; try with_reducible rfl
    try simp only [Act.put, List.setIfInBounds_toArray, List.set_cons_zero, List.set_cons_succ]
    refine wpAnyH_take (i := 11) (oi := { dst := some 10, op := Go.Op.assign (Go.Operand.tmp 59), type := 26, pos := "extra.go:23", after := #[{ on := 9, ground := Go.Ground.data }, { on := 10, ground := Go.Ground.chain }, { on := 0, ground := Go.Ground.phase }, { on := 1, ground := Go.Ground.phase }, { on := 2, ground := Go.Ground.phase }, { on := 3, ground := Go.Ground.phase }, { on := 4, ground := Go.Ground.phase }, { on := 5, ground := Go.Ground.phase }, { on := 6, ground := Go.Ground.phase }, { on := 7, ground := Go.Ground.phase }, { on := 8, ground := Go.Ground.phase }, { on := 9, ground := Go.Ground.phase }, { on := 10, ground := Go.Ground.phase }], guard := none }) (v := ?v11_109) rfl (by kernel_rfl) (by kernel_rfl) (by kernel_rfl) (fun _ _ _ h => h) (Or.inl ⟨by rfl, ?y11_109⟩) hHeld ?r11_109
    case y11_109 => intro w hSw; (try dsimp only at hSw); go_simp; try with_reducible rfl
    try simp only [Act.put, List.setIfInBounds_toArray, List.set_cons_zero, List.set_cons_succ]
    refine wpAnyH_done (by kernel_rfl) ?_ _
    have HB5 := Lib.hid (HB4.out.trans (hHeld.1.out.mono HB4.out.size))
    have HOK5 := Lib.hid (HOK.out.below hHeld.1.out)
    have HQ5 := Lib.hid (HQ4.out.below hHeld.1.out)
    have HQW := HQ5
    clear hHeld hb HO HLIT HNQ HQD HBD HB4 HQ4 HOK HI HZ0 HZ1 HZ2
    obtain ⟨r0, r1, r2, r3, r4, -⟩ := HQ5.out.u5
    go_wp2_with fail
    refine (zget_any z apex S rn 5 1 w5 HOK5.out.is HOK5.out.canon.keys HOK5.out.sz HRN.out).mono ?_; rintro e w6 ⟨hf, hb⟩
    obtain ⟨fn, ft, fc, fu, fva, fvn, fvc, cb, rfl, hcb⟩ := found_any hf
    have HCB := Lib.hid hcb
    have hba := (Below.refl w6.heap.size w6).alloc (Nat.le_refl _) (.cells #[.string fn, .int .i64 ft, .int .i64 fc, .int .i64 fu, .slice fva fvn fvc] 39)
    have hbb := hb.trans (hba.mono hb.size)
    have HB6 := Lib.hid (HB5.out.trans (hbb.mono HB5.out.size))
    have HX6 := Lib.hid hbb
    clear hf hcb hb hba hbb HB5 r0 r1 r2 r3 r4
    go_upto_region 10 with (fail)
    obtain ⟨w6a, hw⟩ : ∃ x, w6.alloc (.cells #[.string fn, .int .i64 ft, .int .i64 fc, .int .i64 fu, .slice fva fvn fvc] 39) = x := ⟨_, rfl⟩
    rw [hw] at HB6 HX6 ⊢
    clear hw
    have HQ6 := Lib.hid (HQ5.out.below HX6.out)
    obtain ⟨r0, r1, r2, r3, r4, -⟩ := HQ6.out.u5
    clear HQ5
    go_wp2_with fail
    refine (rmayRR_any rn rt rc ru rd w6a HRN.out HRD.out).mono ?_; rintro e w7 ⟨rfl, hb⟩
    have HB7 := Lib.hid (HB6.out.trans (hb.mono HB6.out.size))
    have HX7 := Lib.hid (HX6.out.trans (hb.mono HX6.out.size))
    have HQ7 := Lib.hid (HQ6.out.below hb)
    clear hb HB6 HX6 HQ6 r0 r1 r2 r3 r4
    obtain ⟨v, hv⟩ : ∃ x, mayR rn rt rc ru rd = x := ⟨_, rfl⟩
    rw [hv]
    have HV := Lib.hid (show mayR5 ⟨⟨rn, rt, rc⟩, ru, rd⟩ = v from hv)
    clear hv
    cases v
    · have he := (newR_more HOK5.out (by rw [HLN.out]; exact HN3.out) HN5.out).1 HV.out
      simp only [Ending.returned.injEq, Value.tuple.injEq, Array.mk.injEq, List.cons.injEq, Value.pointer.injEq, Value.int.injEq] at he
      obtain ⟨rfl, ⟨-, rfl⟩, -⟩ := he
      clear HN5
      go_wp2_with fail
      refine (first10 _).mono ?_; rintro e w9 ⟨rfl, hb⟩
      have HB9 := Lib.hid (HB7.out.trans (hb.mono HB7.out.size))
      clear hb
      go_wp2
      go_ret
      exact ⟨rfl, HB9.out⟩
    obtain ⟨r0, r1, r2, r3, r4, -⟩ := HQ7.out.u5
    go_wp2_with fail
    refine (runder_any rn apex w7 HRN.out HA1.out).mono ?_; rintro e w8 ⟨rfl, hb⟩
    have HB8 := Lib.hid (HB7.out.trans (hb.mono HB7.out.size))
    have HX8 := Lib.hid (HX7.out.trans (hb.mono HX7.out.size))
    have HQ8 := Lib.hid (HQ7.out.below hb)
    clear hb HB7 HX7 HQ7 r0 r1 r2 r3 r4
    obtain ⟨r0, r1, r2, r3, r4, -⟩ := HQ8.out.u5
    obtain ⟨u, hu⟩ : ∃ x, undS rn apex = x := ⟨_, rfl⟩
    rw [hu]
    have HU := Lib.hid hu
    clear hu
    cases u
    · have he := (newR_more HOK5.out (by rw [HLN.out]; exact HN3.out) HN5.out).2.1 HV.out (Or.inl HU.out)
      simp only [Ending.returned.injEq, Value.tuple.injEq, Array.mk.injEq, List.cons.injEq, Value.pointer.injEq, Value.int.injEq] at he
      obtain ⟨rfl, ⟨-, rfl⟩, -⟩ := he
      clear HN5
      go_wp2_with fail
      refine (first10 _).mono ?_; rintro e w9 ⟨rfl, hb⟩
      have HB9 := Lib.hid (HB8.out.trans (hb.mono HB8.out.size))
      clear hb
      go_wp2
      go_ret
      exact ⟨rfl, HB9.out⟩
    by_cases hc : rc = 1
    case neg =>
      have HC := Lib.hid hc
      have f1 := nT hc
      clear hc
      have he := (newR_more HOK5.out (by rw [HLN.out]; exact HN3.out) HN5.out).2.1 HV.out (Or.inr (Or.inl HC.out))
      simp only [Ending.returned.injEq, Value.tuple.injEq, Array.mk.injEq, List.cons.injEq, Value.pointer.injEq, Value.int.injEq] at he
      obtain ⟨rfl, ⟨-, rfl⟩, -⟩ := he
      clear HN5
      go_wp2_with fail
      refine (first10 _).mono ?_; rintro e w9 ⟨rfl, hb⟩
      have HB9 := Lib.hid (HB8.out.trans (hb.mono HB8.out.size))
      clear hb
      go_wp2
      go_ret
      exact ⟨rfl, HB9.out⟩
    have HC := Lib.hid hc
    have f1 := nF hc
    clear hc
    by_cases ht : rt = 6
    case pos =>
      have HT := Lib.hid ht
      have f2 := eT ht
      clear ht
      by_cases hna : rn = apex
      · have f3 := str_eq hna
        clear hna
        obtain ⟨hres, -⟩ := HN5.out.two
        clear HN5
        rcases hres with ⟨x, hx, he⟩ | ⟨z2, S2, he, -, -⟩
        · simp only [Ending.returned.injEq, Value.tuple.injEq, Array.mk.injEq, List.cons.injEq, Value.pointer.injEq, Value.int.injEq] at he
          obtain ⟨rfl, ⟨-, rfl⟩, -⟩ := he
          have g1 := nT hx
          clear hx
          go_wp2_with fail
          refine (first10 _).mono ?_; rintro e w9 ⟨rfl, hb⟩
          have HB9 := Lib.hid (HB8.out.trans (hb.mono HB8.out.size))
          clear hb
          go_wp2
          go_ret
          exact ⟨rfl, HB9.out⟩
        · simp only [Ending.returned.injEq, Value.tuple.injEq, Array.mk.injEq, List.cons.injEq, Value.pointer.injEq, Value.int.injEq] at he
          obtain ⟨rfl, ⟨-, rfl⟩, -⟩ := he
          go_wp2_with fail
          refine (first10 _).mono ?_; rintro e w9 ⟨rfl, hb⟩
          have HB9 := Lib.hid (HB8.out.trans (hb.mono HB8.out.size))
          clear hb
          go_wp2
          go_ret
          exact ⟨rfl, HB9.out⟩
      · have HNA := Lib.hid hna
        have f3 := str_ne hna
        clear hna
        have he := (newR_more HOK5.out (by rw [HLN.out]; exact HN3.out) HN5.out).2.1 HV.out (Or.inr (Or.inr ⟨HT.out, HNA.out⟩))
        simp only [Ending.returned.injEq, Value.tuple.injEq, Array.mk.injEq, List.cons.injEq, Value.pointer.injEq, Value.int.injEq] at he
        obtain ⟨rfl, ⟨-, rfl⟩, -⟩ := he
        clear HN5
        go_wp2_with fail
        refine (first10 _).mono ?_; rintro e w9 ⟨rfl, hb⟩
        have HB9 := Lib.hid (HB8.out.trans (hb.mono HB8.out.size))
        clear hb
        go_wp2
        go_ret
        exact ⟨rfl, HB9.out⟩
    have HT := Lib.hid ht
    have f2 := eF ht
    clear ht
    by_cases h5 : rt = 5
    case pos =>
      have f4 := eT h5
      clear h5
      obtain ⟨hres, -⟩ := HN5.out.two
      clear HN5
      rcases hres with ⟨x, hx, he⟩ | ⟨z2, S2, he, -, -⟩
      · simp only [Ending.returned.injEq, Value.tuple.injEq, Array.mk.injEq, List.cons.injEq, Value.pointer.injEq, Value.int.injEq] at he
        obtain ⟨rfl, ⟨-, rfl⟩, -⟩ := he
        have g1 := nT hx
        clear hx
        go_wp2_with fail
        refine (first10 _).mono ?_; rintro e w9 ⟨rfl, hb⟩
        have HB9 := Lib.hid (HB8.out.trans (hb.mono HB8.out.size))
        clear hb
        go_wp2
        go_ret
        exact ⟨rfl, HB9.out⟩
      · simp only [Ending.returned.injEq, Value.tuple.injEq, Array.mk.injEq, List.cons.injEq, Value.pointer.injEq, Value.int.injEq] at he
        obtain ⟨rfl, ⟨-, rfl⟩, -⟩ := he
        go_wp2_with fail
        refine (first10 _).mono ?_; rintro e w9 ⟨rfl, hb⟩
        have HB9 := Lib.hid (HB8.out.trans (hb.mono HB8.out.size))
        clear hb
        go_wp2
        go_ret
        exact ⟨rfl, HB9.out⟩
    have H5 := Lib.hid h5
    have f4 := eF h5
    clear h5
    cases cb
    case true =>
      obtain ⟨hres, -⟩ := HN5.out.two
      clear HN5
      rcases hres with ⟨x, hx, he⟩ | ⟨z2, S2, he, -, -⟩
      · simp only [Ending.returned.injEq, Value.tuple.injEq, Array.mk.injEq, List.cons.injEq, Value.pointer.injEq, Value.int.injEq] at he
        obtain ⟨rfl, ⟨-, rfl⟩, -⟩ := he
        have g1 := nT hx
        clear hx
        go_wp2_with fail
        refine (first10 _).mono ?_; rintro e w9 ⟨rfl, hb⟩
        have HB9 := Lib.hid (HB8.out.trans (hb.mono HB8.out.size))
        clear hb
        go_wp2
        go_ret
        exact ⟨rfl, HB9.out⟩
      · simp only [Ending.returned.injEq, Value.tuple.injEq, Array.mk.injEq, List.cons.injEq, Value.pointer.injEq, Value.int.injEq] at he
        obtain ⟨rfl, ⟨-, rfl⟩, -⟩ := he
        go_wp2_with fail
        refine (first10 _).mono ?_; rintro e w9 ⟨rfl, hb⟩
        have HB9 := Lib.hid (HB8.out.trans (hb.mono HB8.out.size))
        clear hb
        go_wp2
        go_ret
        exact ⟨rfl, HB9.out⟩
    obtain ⟨z2, B, he, hok2⟩ := (newR_more HOK5.out (by rw [HLN.out]; exact HN3.out) HN5.out).2.2 HV.out HU.out HC.out H5.out HT.out (by have h := HCB.out; cases hfk : findK S ⟨rn, 5, 1⟩ with | none => rfl | some s => rw [hfk] at h; cases h)
    simp only [Ending.returned.injEq, Value.tuple.injEq, Array.mk.injEq, List.cons.injEq, Value.pointer.injEq, Value.int.injEq] at he
    obtain ⟨rfl, ⟨-, rfl⟩, -⟩ := he
    have HOK2 := Lib.hid hok2
    clear hok2 HN5
    have HTH := Lib.hid (zthere_any z2 apex B rn w8 (HOK2.out.is.below HX8.out) HOK2.out.sz HA1.out HRN.out)
    rw [there_of HOK2.out (r := ⟨⟨rn, rt, rc⟩, ru, rd⟩) (by simp)] at HTH
    obtain ⟨s0, d0, hs0, hd0, hso, hdz⟩ := soa_one HOK5.out
    have HS0 := Lib.hid hs0
    have HD0 := Lib.hid hd0
    have HDZ := Lib.hid hdz
    have HS0B := Lib.hid (more_soa HOK5.out.canon HOK2.out.canon hs0 HT.out)
    clear hs0 hd0 hso hdz
    obtain ⟨M, R, x1, x2, x3, x4, x5, bb, hgs⟩ := getSoaV_ex d0
    have HGS := Lib.hid hgs
    have hse := soa_nequal M R x1 x2 x3 x4 x5
    clear hgs
    go_wp2_with fail
    refine HTH.out.mono ?_; rintro e w10 ⟨rfl, hb⟩
    have HB10 := Lib.hid (HB8.out.trans (hb.mono HB8.out.size))
    have HX10 := Lib.hid (HX8.out.trans (hb.mono HX8.out.size))
    clear hb HB8 HX8 HTH HQ8 r0 r1 r2 r3 r4 f1 f2 f4
    go_wp2_with fail
    refine (zsoa_any z2 apex B s0 d0 [] M R x1 x2 x3 x4 x5 bb w10 (HOK2.out.is.below HX10.out) HOK2.out.canon.keys HOK2.out.sz HA1.out HS0B.out HD0.out HDZ.out HGS.out).mono ?_; rintro e w11 ⟨rfl, hb⟩
    have HB11 := Lib.hid (HB10.out.trans (hb.mono HB10.out.size))
    have HX11 := Lib.hid (HX10.out.trans (hb.mono HX10.out.size))
    clear hb HB10 HX10
    go_wp2_with fail
    refine (zsoa_any z apex S s0 d0 [] M R x1 x2 x3 x4 x5 bb w11 (HOK5.out.is.below HX11.out) HOK5.out.canon.keys HOK5.out.sz HA1.out HS0.out HD0.out HDZ.out HGS.out).mono ?_; rintro e w12 ⟨rfl, hb⟩
    have HB12 := Lib.hid (HB11.out.trans (hb.mono HB11.out.size))
    have HX12 := Lib.hid (HX11.out.trans (hb.mono HX11.out.size))
    clear hb HB11 HX11
    go_wp2_with fail
    refine (zsets_any z apex S w12 (HOK5.out.is.below HX12.out) HOK5.out.sz).mono ?_; rintro e w13 ⟨v3, L3, rfl, hm3, hos3, hb⟩
    obtain ⟨a3, c3, rfl, hsa3, -⟩ := hos3.at
    rw [hm3] at hsa3
    have hl3 : L3.length = S.length := by rw [← hm3, List.length_map]
    rw [hl3] at hsa3 ⊢
    have HSA3 := Lib.hid hsa3
    have HB13 := Lib.hid (HB12.out.trans (hb.mono HB12.out.size))
    have HX13 := Lib.hid (HX12.out.trans (hb.mono HX12.out.size))
    clear hb HB12 HX12 hos3 hsa3 hm3 hl3 L3 hse HS0 HS0B HD0 HDZ HGS
    obtain ⟨m, hm⟩ : ∃ x, S.length = x := ⟨_, rfl⟩
    have HM := Lib.hid hm
    have HMN := Lib.hid (show m ≤ 100000 by have h1 := HOK5.out.len; have h2 := HOK5.out.few; omega)
    rw [hm] at HSA3 ⊢
    clear hm
    have HQ13 := Lib.hid (HQW.out.below HX13.out)
    go_wp2_with fail
    go_loopw [14] (fun i wr => ∃ (k : Nat), k ≤ m ∧ i = .int .i64 k ∧ Hid (Below w13.heap.size w13 wr)) (fun i _ => m - (intOf i).toNat)
    case atStart => exact ⟨0, Nat.zero_le _, rfl, Lib.hid (Below.refl _ _)⟩
    case round =>
      obtain ⟨k, hk, rfl, hbw⟩ := hrel
      have hmn := HMN.out
      by_cases hlt : k < m
      · rcases (HSA3.out.below hbw.out).2 with h9 | ⟨b, o, rfl, hbl, hc⟩
        · omega
        obtain ⟨pa, ca, hs2⟩ := hc k hlt
        have hmem : S.getD k ssD ∈ S := by rw [List.getD_eq_getElem?_getD, List.getElem?_eq_getElem (by have := HM.out; omega)]; exact List.getElem_mem _
        obtain ⟨s, hss⟩ : ∃ s, S.getD k ssD = s := ⟨_, rfl⟩
        rw [hss] at hs2 hmem
        have hsz := HOK5.out.sz.2 _ hmem
        have hnon := HOK5.out.canon.non _ hmem
        obtain ⟨t, hft, hsame⟩ := more_found HOK5.out.canon HOK2.out.canon hmem
        have htz := HOK2.out.sz.2 _ (find_mem hft)
        obtain ⟨⟨sn, st, sk⟩, su, sd⟩ := s
        obtain ⟨x0, x1, x2, x3, x4, hsr, -⟩ := hs2
        replace hsr : RowS wr pa sd.length sd := hsr
        replace x4 : wr.cell? ⟨b, o + k * 5 + 4, none⟩ = some (.slice pa sd.length ca) := x4
        obtain ⟨dl, hdl⟩ : ∃ x, sd.length = x := ⟨_, rfl⟩
        rw [hdl] at hsr x4
        replace hsz : sn.size ≤ 1000000 ∧ sd.length ≤ 100000 := hsz
        rw [hdl] at hsz
        have HDL := Lib.hid hdl
        have C0 := Lib.hid (show wr.cell? ⟨b, o + k * 5, none⟩ = some (.string sn) from x0)
        have C1 := Lib.hid (show wr.cell? ⟨b, o + k * 5 + 1, none⟩ = some (.int .i64 st) from x1)
        have C2 := Lib.hid (show wr.cell? ⟨b, o + k * 5 + 2, none⟩ = some (.int .i64 sk) from x2)
        have C3 := Lib.hid (show wr.cell? ⟨b, o + k * 5 + 3, none⟩ = some (.int .i64 su) from x3)
        have C4 := Lib.hid x4
        have c0 := C0.out
        have c1 := C1.out
        have c2 := C2.out
        have HSR := Lib.hid hsr
        have HSZ1 := Lib.hid hsz.1
        have HFT := Lib.hid hft
        have HSAM := Lib.hid hsame
        have HTZ := Lib.hid htz
        have hdle := hsz.2
        have HDLE := Lib.hid hdle
        have HNE := Lib.hid hnon
        have i1 : (0 : Int) ≤ (k : Int) := by omega
        have i2 : (k : Int) < (m : Int) := by omega
        have HLT := Lib.hid hlt
        clear x0 x1 x2 x3 x4 hsr hmem hss hsz hft hsame htz hdle hnon hdl hlt hc hbl
        go_wp2_with fail
        refine (zget_any z2 apex B sn st sk wr (HOK2.out.is.below (HX13.out.trans (hbw.out.mono HX13.out.size))) HOK2.out.canon.keys HOK2.out.sz HSZ1.out).mono ?_; rintro e wg ⟨hf, hbg⟩
        rcases hf with ⟨s', dv, hfs, rfl, ho⟩ | ⟨hfn, -⟩
        case inr => rw [HFT.out] at hfn; cases hfn
        obtain rfl : t = s' := by rw [HFT.out] at hfs; exact Option.some.inj hfs
        obtain ⟨⟨tn, tt, tk⟩, tu, td⟩ := t
        replace ho : wg.ownsRow wr.heap.size 9 1 dv td.length (sc td) := ho
        obtain ⟨ta2, tc2, rfl, htr, -⟩ := rowS_of_own ho
        obtain ⟨tl, htl⟩ : ∃ x, td.length = x := ⟨_, rfl⟩
        rw [htl] at htr
        have HTL := Lib.hid htl
        have hba := (Below.refl wg.heap.size wg).alloc (Nat.le_refl _) (.cells #[.string tn, .int .i64 tt, .int .i64 tk, .int .i64 tu, .slice ta2 tl tc2] 39)
        have HXG := Lib.hid (hbg.trans (hba.mono hbg.size))
        have HTR := Lib.hid (htr.below hba)
        have HC7 := Lib.hid (c5_new wg (.string tn) (.int .i64 tt) (.int .i64 tk) (.int .i64 tu) (.slice ta2 tl tc2) 39)
        dsimp only
        rw [htl]
        clear hfs ho htr hba hbg htl c0 c1 c2
        go_upto_region 23 with (fail)
        obtain ⟨wb, hwb⟩ : ∃ x, wg.alloc (.cells #[.string tn, .int .i64 tt, .int .i64 tk, .int .i64 tu, .slice ta2 tl tc2] 39) = x := ⟨_, rfl⟩
        rw [hwb] at HXG HTR HC7 ⊢
        clear hwb
        obtain ⟨q15, hq⟩ : ∃ x, wg.heap.size = x := ⟨_, rfl⟩
        rw [hq] at HC7 ⊢
        clear hq
        have HSRB := Lib.hid (HSR.out.below HXG.out)
        have HQB := Lib.hid ((HQ13.out.below hbw.out).below HXG.out)
        obtain ⟨r0, r1, r2, r3, r4, -⟩ := HQB.out.u5
        have X0 := Lib.hid (cell_later4 HXG.out C0.out)
        have X1 := Lib.hid (cell_later4 HXG.out C1.out)
        have X2 := Lib.hid (cell_later4 HXG.out C2.out)
        have X3 := Lib.hid (cell_later4 HXG.out C3.out)
        have X4 := Lib.hid (cell_later4 HXG.out C4.out)
        have HBD := Lib.hid ((Below.refl wb.heap.size wb).drew)
        by_cases hkk : (⟨sn, st, sk⟩ : Ky) = (⟨rn, rt, rc⟩ : Ky)
        · have hkb := (key_same ⟨sn, st, sk⟩ ⟨rn, rt, rc⟩).2 hkk
          replace hkb : (sn.toList == rn.toList && (st == rt && sk == rc)) = true := hkb
          have kne := key_neq sn rn st sk rt rc
          simp only [hkb, Bool.not_true] at kne
          clear hkk hkb
          refine wp_region_held_drew (S := (fun wx => Hid (Below wb.heap.size wb wx) ∧ wx.cell? ⟨b, o + k * 5, none⟩ = some (.string sn) ∧ wx.cell? ⟨b, o + k * 5 + 1, none⟩ = some (.int .i64 st) ∧ wx.cell? ⟨b, o + k * 5 + 2, none⟩ = some (.int .i64 sk) ∧ wx.cell? ⟨b, o + k * 5 + 3, none⟩ = some (.int .i64 su) ∧ wx.cell? ⟨b, o + k * 5 + 4, none⟩ = some (.slice pa dl ca) ∧ wx.cell? ⟨q, 0, none⟩ = some (.string rn) ∧ wx.cell? ⟨q, 1, none⟩ = some (.int .i64 rt) ∧ wx.cell? ⟨q, 2, none⟩ = some (.int .i64 rc) ∧ wx.cell? ⟨q, 3, none⟩ = some (.int .i64 ru) ∧ wx.cell? ⟨q, 4, none⟩ = some (.string rd) ∧ wx.cell? ⟨q15, 0, none⟩ = some (.string tn) ∧ wx.cell? ⟨q15, 1, none⟩ = some (.int .i64 tt) ∧ wx.cell? ⟨q15, 2, none⟩ = some (.int .i64 tk) ∧ wx.cell? ⟨q15, 3, none⟩ = some (.int .i64 tu) ∧ wx.cell? ⟨q15, 4, none⟩ = some (.slice ta2 tl tc2))) (by kernel_rfl) (⟨HBD, cell_later4 HBD.out X0.out, cell_later4 HBD.out X1.out, cell_later4 HBD.out X2.out, cell_later4 HBD.out X3.out, cell_later4 HBD.out X4.out, cell_later4 HBD.out r0, cell_later4 HBD.out r1, cell_later4 HBD.out r2, cell_later4 HBD.out r3, cell_later4 HBD.out r4, cell_later4 HBD.out HC7.out.2.1, cell_later4 HBD.out HC7.out.2.2.1, cell_later4 HBD.out HC7.out.2.2.2.1, cell_later4 HBD.out HC7.out.2.2.2.2.1, cell_later4 HBD.out HC7.out.2.2.2.2.2.1⟩) (fun hHeld => ?_)
          refine wpAnyH_take (i := 0) (oi := { dst := some 170, op := Go.Op.move (Go.Operand.tmp 16), type := 4, pos := "extra.go:39", after := #[], guard := none }) (v := ?v0_401) rfl (by kernel_rfl) (by kernel_rfl) (by kernel_rfl) (fun _ _ _ h => h) (Or.inl ⟨by rfl, ?y0_401⟩) hHeld ?r0_401
          case y0_401 => intro w hSw; (try dsimp only at hSw); go_simp; try with_reducible rfl
          try simp only [Act.put, List.setIfInBounds_toArray, List.set_cons_zero, List.set_cons_succ]
          refine wpAnyH_take (i := 1) (oi := { dst := some 171, op := Go.Op.unOp Go.UnOp.not 4 (Go.Operand.tmp 170), type := 4, pos := "extra.go:39", after := #[{ on := 0, ground := Go.Ground.data }], guard := none }) (v := ?v1_401) rfl (by kernel_rfl) (by kernel_rfl) (by kernel_rfl) (fun _ _ _ h => h) (Or.inl ⟨by rfl, ?y1_401⟩) hHeld ?r1_401
          case y1_401 => intro w hSw; (try dsimp only at hSw); go_simp; try with_reducible rfl
          try simp only [Act.put, List.setIfInBounds_toArray, List.set_cons_zero, List.set_cons_succ]
          refine wpAnyH_take (i := 2) (oi := { dst := some 172, op := Go.Op.move (Go.Operand.tmp 171), type := 4, pos := "extra.go:39", after := #[{ on := 1, ground := Go.Ground.data }], guard := none }) (v := ?v2_401) rfl (by kernel_rfl) (by kernel_rfl) (by kernel_rfl) (fun _ _ _ h => h) (Or.inl ⟨by rfl, ?y2_401⟩) hHeld ?r2_401
          case y2_401 => intro w hSw; (try dsimp only at hSw); go_simp; try with_reducible rfl
          try simp only [Act.put, List.setIfInBounds_toArray, List.set_cons_zero, List.set_cons_succ]
          refine wpAnyH_take (i := 3) (oi := { dst := some 173, op := Go.Op.move (Go.Operand.tmp 13), type := 33, pos := "extra.go:39", after := #[{ on := 2, ground := Go.Ground.guard }], guard := some (2, false) }) (v := ?v3_401) rfl (by kernel_rfl) (by kernel_rfl) (by kernel_rfl) (fun _ _ _ h => h) (Or.inl ⟨by rfl, ?y3_401⟩) hHeld ?r3_401
          case y3_401 => intro w hSw; (try dsimp only at hSw); go_simp; try with_reducible rfl
          try simp only [Act.put, List.setIfInBounds_toArray, List.set_cons_zero, List.set_cons_succ]
          refine wpAnyH_take (i := 4) (oi := { dst := some 174, op := Go.Op.move (Go.Operand.tmp 14), type := 3, pos := "extra.go:39", after := #[{ on := 2, ground := Go.Ground.guard }], guard := some (2, false) }) (v := ?v4_401) rfl (by kernel_rfl) (by kernel_rfl) (by kernel_rfl) (fun _ _ _ h => h) (Or.inl ⟨by rfl, ?y4_401⟩) hHeld ?r4_401
          case y4_401 => intro w hSw; (try dsimp only at hSw); go_simp; try with_reducible rfl
          try simp only [Act.put, List.setIfInBounds_toArray, List.set_cons_zero, List.set_cons_succ]
          refine wpAnyH_take (i := 5) (oi := { dst := some 175, op := Go.Op.indexAddr 33 (Go.Operand.tmp 173) (Go.Operand.tmp 174), type := 0, pos := "extra.go:39", after := #[{ on := 3, ground := Go.Ground.data }, { on := 4, ground := Go.Ground.data }, { on := 2, ground := Go.Ground.guard }], guard := some (2, false) }) (v := ?v5_401) rfl (by kernel_rfl) (by kernel_rfl) (by kernel_rfl) (fun _ _ _ h => h) (Or.inl ⟨by rfl, ?y5_401⟩) hHeld ?r5_401
          case y5_401 => intro w hSw; (try dsimp only at hSw); go_simp; try with_reducible rfl
          try simp only [Act.put, List.setIfInBounds_toArray, List.set_cons_zero, List.set_cons_succ]
          refine wpAnyH_take (i := 6) (oi := { dst := some 176, op := Go.Op.fieldAddr 39 (Go.Operand.tmp 175) 0, type := 0, pos := "extra.go:39", after := #[{ on := 5, ground := Go.Ground.data }, { on := 2, ground := Go.Ground.guard }], guard := some (2, false) }) (v := ?v6_401) rfl (by kernel_rfl) (by kernel_rfl) (by kernel_rfl) (fun _ _ _ h => h) (Or.inl ⟨by rfl, ?y6_401⟩) hHeld ?r6_401
          case y6_401 => intro w hSw; (try dsimp only at hSw); go_simp; try with_reducible rfl
          try simp only [Act.put, List.setIfInBounds_toArray, List.set_cons_zero, List.set_cons_succ]
          refine wpAnyH_take (i := 7) (oi := { dst := some 177, op := Go.Op.load 36 (Go.Operand.tmp 176), type := 36, pos := "extra.go:39", after := #[{ on := 6, ground := Go.Ground.data }, { on := 2, ground := Go.Ground.guard }], guard := some (2, false) }) (v := ?v7_401) rfl (by kernel_rfl) (by kernel_rfl) (by kernel_rfl) (fun _ _ _ h => h) (Or.inl ⟨by rfl, ?y7_401⟩) hHeld ?r7_401
          case y7_401 => intro w hSw; (try dsimp only at hSw); go_simp; try with_reducible rfl
          try simp only [Act.put, List.setIfInBounds_toArray, List.set_cons_zero, List.set_cons_succ]
          refine wpAnyH_take (i := 8) (oi := { dst := some 178, op := Go.Op.load 45 (Go.Operand.tmp 5), type := 45, pos := "extra.go:39", after := #[{ on := 2, ground := Go.Ground.guard }], guard := some (2, false) }) (v := ?v8_401) rfl (by kernel_rfl) (by kernel_rfl) (by kernel_rfl) (fun _ _ _ h => h) (Or.inl ⟨by rfl, ?y8_401⟩) hHeld ?r8_401
          case y8_401 => intro w hSw; (try dsimp only at hSw); go_simp; try with_reducible rfl
          try simp only [Act.put, List.setIfInBounds_toArray, List.set_cons_zero, List.set_cons_succ]
          refine wpAnyH_ready (rs := [9]) (by kernel_rfl) (by simp) ?_
          refine AllReadyH.cons (o := { dst := some 179, op := Go.Op.call { callee := Go.Callee.value (Go.Operand.func 18), args := #[Go.Operand.tmp 178], argTypes := #[45] }, type := 36, pos := "extra.go:39", after := #[{ on := 8, ground := Go.Ground.data }, { on := 2, ground := Go.Ground.chain }, { on := 2, ground := Go.Ground.guard }], guard := some (2, false) }) rfl (fun K hK => ?_) AllReadyH.nil
          go_simp
          refine (keyOf_any ⟨⟨rn, rt, rc⟩, ru, rd⟩ _).mono ?_; rintro e wy0 ⟨rfl, hbd⟩
          have hb := hbd.b
          clear hbd
          go_wp2_with fail
          refine hK.out _ _ (⟨Lib.hid (hHeld.1.out.trans (hb.mono hHeld.1.out.size)), cell_later4 hb hHeld.2.1, cell_later4 hb hHeld.2.2.1, cell_later4 hb hHeld.2.2.2.1, cell_later4 hb hHeld.2.2.2.2.1, cell_later4 hb hHeld.2.2.2.2.2.1, cell_later4 hb hHeld.2.2.2.2.2.2.1, cell_later4 hb hHeld.2.2.2.2.2.2.2.1, cell_later4 hb hHeld.2.2.2.2.2.2.2.2.1, cell_later4 hb hHeld.2.2.2.2.2.2.2.2.2.1, cell_later4 hb hHeld.2.2.2.2.2.2.2.2.2.2.1, cell_later4 hb hHeld.2.2.2.2.2.2.2.2.2.2.2.1, cell_later4 hb hHeld.2.2.2.2.2.2.2.2.2.2.2.2.1, cell_later4 hb hHeld.2.2.2.2.2.2.2.2.2.2.2.2.2.1, cell_later4 hb hHeld.2.2.2.2.2.2.2.2.2.2.2.2.2.2.1, cell_later4 hb hHeld.2.2.2.2.2.2.2.2.2.2.2.2.2.2.2⟩) (fun hHeld2 => ?_)
          clear hK K hHeld
          have hHeld := hHeld2
          clear hHeld2
          try simp only [Act.put, List.setIfInBounds_toArray, List.set_cons_zero, List.set_cons_succ]
          refine wpAnyH_take (i := 10) (oi := { dst := some 180, op := Go.Op.binOp Go.BinOp.neq 36 (Go.Operand.tmp 177) (Go.Operand.tmp 179) 36, type := 4, pos := "extra.go:39", after := #[{ on := 7, ground := Go.Ground.data }, { on := 9, ground := Go.Ground.data }, { on := 2, ground := Go.Ground.guard }], guard := some (2, false) }) (v := ?v10_402) rfl (by kernel_rfl) (by kernel_rfl) (by kernel_rfl) (fun _ _ _ h => h) (Or.inl ⟨by rfl, ?y10_402⟩) hHeld ?r10_402
          case y10_402 => intro w hSw; (try dsimp only at hSw); go_simp; try with_reducible rfl
          try simp only [Act.put, List.setIfInBounds_toArray, List.set_cons_zero, List.set_cons_succ]
          refine wpAnyH_take (i := 11) (oi := { dst := some 181, op := Go.Op.move (Go.Operand.tmp 180), type := 4, pos := "extra.go:39", after := #[{ on := 10, ground := Go.Ground.data }, { on := 9, ground := Go.Ground.chain }, { on := 2, ground := Go.Ground.guard }], guard := some (2, false) }) (v := ?v11_402) rfl (by kernel_rfl) (by kernel_rfl) (by kernel_rfl) (fun _ _ _ h => h) (Or.inl ⟨by rfl, ?y11_402⟩) hHeld ?r11_402
          case y11_402 => intro w hSw; (try dsimp only at hSw); go_simp; try with_reducible rfl
          try simp only [Act.put, List.setIfInBounds_toArray, List.set_cons_zero, List.set_cons_succ]
          refine wpAnyH_take (i := 12) (oi := { dst := some 182, op := Go.Op.load 39 (Go.Operand.tmp 15), type := 39, pos := "extra.go:39", after := #[{ on := 11, ground := Go.Ground.guard }], guard := some (11, true) }) (v := undef) rfl (by kernel_rfl) (by kernel_rfl) (by kernel_rfl) (fun _ _ _ h => h) (Or.inr ⟨by rfl, rfl⟩) hHeld ?_
          try simp only [Act.put, List.setIfInBounds_toArray, List.set_cons_zero, List.set_cons_succ]
          refine wpAnyH_take (i := 13) (oi := { dst := some 183, op := Go.Op.move (Go.Operand.tmp 13), type := 33, pos := "extra.go:39", after := #[{ on := 11, ground := Go.Ground.guard }], guard := some (11, true) }) (v := undef) rfl (by kernel_rfl) (by kernel_rfl) (by kernel_rfl) (fun _ _ _ h => h) (Or.inr ⟨by rfl, rfl⟩) hHeld ?_
          try simp only [Act.put, List.setIfInBounds_toArray, List.set_cons_zero, List.set_cons_succ]
          refine wpAnyH_take (i := 14) (oi := { dst := some 184, op := Go.Op.move (Go.Operand.tmp 14), type := 3, pos := "extra.go:39", after := #[{ on := 11, ground := Go.Ground.guard }], guard := some (11, true) }) (v := undef) rfl (by kernel_rfl) (by kernel_rfl) (by kernel_rfl) (fun _ _ _ h => h) (Or.inr ⟨by rfl, rfl⟩) hHeld ?_
          try simp only [Act.put, List.setIfInBounds_toArray, List.set_cons_zero, List.set_cons_succ]
          refine wpAnyH_take (i := 15) (oi := { dst := some 185, op := Go.Op.indexAddr 33 (Go.Operand.tmp 183) (Go.Operand.tmp 184), type := 0, pos := "extra.go:39", after := #[{ on := 13, ground := Go.Ground.data }, { on := 14, ground := Go.Ground.data }, { on := 11, ground := Go.Ground.guard }], guard := some (11, true) }) (v := undef) rfl (by kernel_rfl) (by kernel_rfl) (by kernel_rfl) (fun _ _ _ h => h) (Or.inr ⟨by rfl, rfl⟩) hHeld ?_
          try simp only [Act.put, List.setIfInBounds_toArray, List.set_cons_zero, List.set_cons_succ]
          refine wpAnyH_take (i := 16) (oi := { dst := some 186, op := Go.Op.load 39 (Go.Operand.tmp 185), type := 39, pos := "extra.go:39", after := #[{ on := 15, ground := Go.Ground.data }, { on := 11, ground := Go.Ground.guard }], guard := some (11, true) }) (v := undef) rfl (by kernel_rfl) (by kernel_rfl) (by kernel_rfl) (fun _ _ _ h => h) (Or.inr ⟨by rfl, rfl⟩) hHeld ?_
          try simp only [Act.put, List.setIfInBounds_toArray, List.set_cons_zero, List.set_cons_succ]
          refine wpAnyH_take (i := 17) (oi := { dst := some 187, op := Go.Op.call { callee := Go.Callee.value (Go.Operand.func 31), args := #[Go.Operand.tmp 182, Go.Operand.tmp 186], argTypes := #[39, 39] }, type := 4, pos := "extra.go:39", after := #[{ on := 12, ground := Go.Ground.data }, { on := 16, ground := Go.Ground.data }, { on := 11, ground := Go.Ground.chain }, { on := 11, ground := Go.Ground.guard }], guard := some (11, true) }) (v := undef) rfl (by kernel_rfl) (by kernel_rfl) (by kernel_rfl) (fun _ _ _ h => h) (Or.inr ⟨by rfl, rfl⟩) hHeld ?_
          try simp only [Act.put, List.setIfInBounds_toArray, List.set_cons_zero, List.set_cons_succ]
          refine wpAnyH_take (i := 18) (oi := { dst := some 188, op := Go.Op.unOp Go.UnOp.not 4 (Go.Operand.tmp 187), type := 4, pos := "extra.go:39", after := #[{ on := 17, ground := Go.Ground.data }, { on := 11, ground := Go.Ground.guard }], guard := some (11, true) }) (v := undef) rfl (by kernel_rfl) (by kernel_rfl) (by kernel_rfl) (fun _ _ _ h => h) (Or.inr ⟨by rfl, rfl⟩) hHeld ?_
          try simp only [Act.put, List.setIfInBounds_toArray, List.set_cons_zero, List.set_cons_succ]
          refine wpAnyH_take (i := 19) (oi := { dst := some 189, op := Go.Op.pick (Go.Operand.tmp 181) (Go.Operand.tmp 188) (Go.Operand.const (Go.Value.bool false)), type := 4, pos := "extra.go:39", after := #[{ on := 11, ground := Go.Ground.data }, { on := 18, ground := Go.Ground.data }, { on := 2, ground := Go.Ground.guard }], guard := some (2, false) }) (v := ?v19_402) rfl (by kernel_rfl) (by kernel_rfl) (by kernel_rfl) (fun _ _ _ h => h) (Or.inl ⟨by rfl, ?y19_402⟩) hHeld ?r19_402
          case y19_402 => intro w hSw; (try dsimp only at hSw); go_simp; try with_reducible rfl
          try simp only [Act.put, List.setIfInBounds_toArray, List.set_cons_zero, List.set_cons_succ]
          refine wpAnyH_take (i := 20) (oi := { dst := some 190, op := Go.Op.pick (Go.Operand.tmp 172) (Go.Operand.const (Go.Value.bool true)) (Go.Operand.tmp 189), type := 4, pos := "extra.go:39", after := #[{ on := 2, ground := Go.Ground.data }, { on := 19, ground := Go.Ground.data }], guard := none }) (v := ?v20_402) rfl (by kernel_rfl) (by kernel_rfl) (by kernel_rfl) (fun _ _ _ h => h) (Or.inl ⟨by rfl, ?y20_402⟩) hHeld ?r20_402
          case y20_402 => intro w hSw; (try dsimp only at hSw); go_simp; try with_reducible rfl
          try simp only [Act.put, List.setIfInBounds_toArray, List.set_cons_zero, List.set_cons_succ]
          refine wpAnyH_done (by kernel_rfl) ?_ _
          have HBE := Lib.hid (hbw.out.trans ((HXG.out.trans (hHeld.1.out.mono HXG.out.size)).mono hbw.out.size))
          clear hHeld hb
          go_wp2
          go_roundw
          case rel => exact ⟨k + 1, by have := HLT.out; omega, by have := HLT.out; go_num, HBE⟩
          case measure => have := HLT.out; simp [intOf]; omega
        · have hkb : (sn.toList == rn.toList && (st == rt && sk == rc)) = false := by rw [Bool.eq_false_iff]; intro h; exact hkk ((key_same ⟨sn, st, sk⟩ ⟨rn, rt, rc⟩).1 h)
          have kne := key_neq sn rn st sk rt rc
          simp only [hkb, Bool.not_false] at kne
          clear hkb
          have hts := HSAM.out hkk
          simp only [SetP.mk.injEq, Ky.mk.injEq] at hts
          obtain ⟨⟨rfl, rfl, rfl⟩, rfl, rfl⟩ := hts
          have hll : dl = tl := by rw [← HDL.out, HTL.out]
          subst hll
          have HSAME := Lib.hid (fun wx (hx : Below wb.heap.size wb wx) => same_self tn tt tk tu td ta2 pa dl tc2 ca wx (HTR.out.below hx) (HSRB.out.below hx) HDLE.out)
          clear hkk
          refine wp_region_held_drew (S := (fun wx => Hid (Below wb.heap.size wb wx) ∧ wx.cell? ⟨b, o + k * 5, none⟩ = some (.string tn) ∧ wx.cell? ⟨b, o + k * 5 + 1, none⟩ = some (.int .i64 tt) ∧ wx.cell? ⟨b, o + k * 5 + 2, none⟩ = some (.int .i64 tk) ∧ wx.cell? ⟨b, o + k * 5 + 3, none⟩ = some (.int .i64 tu) ∧ wx.cell? ⟨b, o + k * 5 + 4, none⟩ = some (.slice pa dl ca) ∧ wx.cell? ⟨q, 0, none⟩ = some (.string rn) ∧ wx.cell? ⟨q, 1, none⟩ = some (.int .i64 rt) ∧ wx.cell? ⟨q, 2, none⟩ = some (.int .i64 rc) ∧ wx.cell? ⟨q, 3, none⟩ = some (.int .i64 ru) ∧ wx.cell? ⟨q, 4, none⟩ = some (.string rd) ∧ wx.cell? ⟨q15, 0, none⟩ = some (.string tn) ∧ wx.cell? ⟨q15, 1, none⟩ = some (.int .i64 tt) ∧ wx.cell? ⟨q15, 2, none⟩ = some (.int .i64 tk) ∧ wx.cell? ⟨q15, 3, none⟩ = some (.int .i64 tu) ∧ wx.cell? ⟨q15, 4, none⟩ = some (.slice ta2 dl tc2))) (by kernel_rfl) (⟨HBD, cell_later4 HBD.out X0.out, cell_later4 HBD.out X1.out, cell_later4 HBD.out X2.out, cell_later4 HBD.out X3.out, cell_later4 HBD.out X4.out, cell_later4 HBD.out r0, cell_later4 HBD.out r1, cell_later4 HBD.out r2, cell_later4 HBD.out r3, cell_later4 HBD.out r4, cell_later4 HBD.out HC7.out.2.1, cell_later4 HBD.out HC7.out.2.2.1, cell_later4 HBD.out HC7.out.2.2.2.1, cell_later4 HBD.out HC7.out.2.2.2.2.1, cell_later4 HBD.out HC7.out.2.2.2.2.2.1⟩) (fun hHeld => ?_)
          refine wpAnyH_take (i := 0) (oi := { dst := some 170, op := Go.Op.move (Go.Operand.tmp 16), type := 4, pos := "extra.go:39", after := #[], guard := none }) (v := ?v0_501) rfl (by kernel_rfl) (by kernel_rfl) (by kernel_rfl) (fun _ _ _ h => h) (Or.inl ⟨by rfl, ?y0_501⟩) hHeld ?r0_501
          case y0_501 => intro w hSw; (try dsimp only at hSw); go_simp; try with_reducible rfl
          try simp only [Act.put, List.setIfInBounds_toArray, List.set_cons_zero, List.set_cons_succ]
          refine wpAnyH_take (i := 1) (oi := { dst := some 171, op := Go.Op.unOp Go.UnOp.not 4 (Go.Operand.tmp 170), type := 4, pos := "extra.go:39", after := #[{ on := 0, ground := Go.Ground.data }], guard := none }) (v := ?v1_501) rfl (by kernel_rfl) (by kernel_rfl) (by kernel_rfl) (fun _ _ _ h => h) (Or.inl ⟨by rfl, ?y1_501⟩) hHeld ?r1_501
          case y1_501 => intro w hSw; (try dsimp only at hSw); go_simp; try with_reducible rfl
          try simp only [Act.put, List.setIfInBounds_toArray, List.set_cons_zero, List.set_cons_succ]
          refine wpAnyH_take (i := 2) (oi := { dst := some 172, op := Go.Op.move (Go.Operand.tmp 171), type := 4, pos := "extra.go:39", after := #[{ on := 1, ground := Go.Ground.data }], guard := none }) (v := ?v2_501) rfl (by kernel_rfl) (by kernel_rfl) (by kernel_rfl) (fun _ _ _ h => h) (Or.inl ⟨by rfl, ?y2_501⟩) hHeld ?r2_501
          case y2_501 => intro w hSw; (try dsimp only at hSw); go_simp; try with_reducible rfl
          try simp only [Act.put, List.setIfInBounds_toArray, List.set_cons_zero, List.set_cons_succ]
          refine wpAnyH_take (i := 3) (oi := { dst := some 173, op := Go.Op.move (Go.Operand.tmp 13), type := 33, pos := "extra.go:39", after := #[{ on := 2, ground := Go.Ground.guard }], guard := some (2, false) }) (v := ?v3_501) rfl (by kernel_rfl) (by kernel_rfl) (by kernel_rfl) (fun _ _ _ h => h) (Or.inl ⟨by rfl, ?y3_501⟩) hHeld ?r3_501
          case y3_501 => intro w hSw; (try dsimp only at hSw); go_simp; try with_reducible rfl
          try simp only [Act.put, List.setIfInBounds_toArray, List.set_cons_zero, List.set_cons_succ]
          refine wpAnyH_take (i := 4) (oi := { dst := some 174, op := Go.Op.move (Go.Operand.tmp 14), type := 3, pos := "extra.go:39", after := #[{ on := 2, ground := Go.Ground.guard }], guard := some (2, false) }) (v := ?v4_501) rfl (by kernel_rfl) (by kernel_rfl) (by kernel_rfl) (fun _ _ _ h => h) (Or.inl ⟨by rfl, ?y4_501⟩) hHeld ?r4_501
          case y4_501 => intro w hSw; (try dsimp only at hSw); go_simp; try with_reducible rfl
          try simp only [Act.put, List.setIfInBounds_toArray, List.set_cons_zero, List.set_cons_succ]
          refine wpAnyH_take (i := 5) (oi := { dst := some 175, op := Go.Op.indexAddr 33 (Go.Operand.tmp 173) (Go.Operand.tmp 174), type := 0, pos := "extra.go:39", after := #[{ on := 3, ground := Go.Ground.data }, { on := 4, ground := Go.Ground.data }, { on := 2, ground := Go.Ground.guard }], guard := some (2, false) }) (v := ?v5_501) rfl (by kernel_rfl) (by kernel_rfl) (by kernel_rfl) (fun _ _ _ h => h) (Or.inl ⟨by rfl, ?y5_501⟩) hHeld ?r5_501
          case y5_501 => intro w hSw; (try dsimp only at hSw); go_simp; try with_reducible rfl
          try simp only [Act.put, List.setIfInBounds_toArray, List.set_cons_zero, List.set_cons_succ]
          refine wpAnyH_take (i := 6) (oi := { dst := some 176, op := Go.Op.fieldAddr 39 (Go.Operand.tmp 175) 0, type := 0, pos := "extra.go:39", after := #[{ on := 5, ground := Go.Ground.data }, { on := 2, ground := Go.Ground.guard }], guard := some (2, false) }) (v := ?v6_501) rfl (by kernel_rfl) (by kernel_rfl) (by kernel_rfl) (fun _ _ _ h => h) (Or.inl ⟨by rfl, ?y6_501⟩) hHeld ?r6_501
          case y6_501 => intro w hSw; (try dsimp only at hSw); go_simp; try with_reducible rfl
          try simp only [Act.put, List.setIfInBounds_toArray, List.set_cons_zero, List.set_cons_succ]
          refine wpAnyH_take (i := 7) (oi := { dst := some 177, op := Go.Op.load 36 (Go.Operand.tmp 176), type := 36, pos := "extra.go:39", after := #[{ on := 6, ground := Go.Ground.data }, { on := 2, ground := Go.Ground.guard }], guard := some (2, false) }) (v := ?v7_501) rfl (by kernel_rfl) (by kernel_rfl) (by kernel_rfl) (fun _ _ _ h => h) (Or.inl ⟨by rfl, ?y7_501⟩) hHeld ?r7_501
          case y7_501 => intro w hSw; (try dsimp only at hSw); go_simp; try with_reducible rfl
          try simp only [Act.put, List.setIfInBounds_toArray, List.set_cons_zero, List.set_cons_succ]
          refine wpAnyH_take (i := 8) (oi := { dst := some 178, op := Go.Op.load 45 (Go.Operand.tmp 5), type := 45, pos := "extra.go:39", after := #[{ on := 2, ground := Go.Ground.guard }], guard := some (2, false) }) (v := ?v8_501) rfl (by kernel_rfl) (by kernel_rfl) (by kernel_rfl) (fun _ _ _ h => h) (Or.inl ⟨by rfl, ?y8_501⟩) hHeld ?r8_501
          case y8_501 => intro w hSw; (try dsimp only at hSw); go_simp; try with_reducible rfl
          try simp only [Act.put, List.setIfInBounds_toArray, List.set_cons_zero, List.set_cons_succ]
          refine wpAnyH_ready (rs := [9]) (by kernel_rfl) (by simp) ?_
          refine AllReadyH.cons (o := { dst := some 179, op := Go.Op.call { callee := Go.Callee.value (Go.Operand.func 18), args := #[Go.Operand.tmp 178], argTypes := #[45] }, type := 36, pos := "extra.go:39", after := #[{ on := 8, ground := Go.Ground.data }, { on := 2, ground := Go.Ground.chain }, { on := 2, ground := Go.Ground.guard }], guard := some (2, false) }) rfl (fun K hK => ?_) AllReadyH.nil
          go_simp
          refine (keyOf_any ⟨⟨rn, rt, rc⟩, ru, rd⟩ _).mono ?_; rintro e wy0 ⟨rfl, hbd⟩
          have hb := hbd.b
          clear hbd
          go_wp2_with fail
          refine hK.out _ _ (⟨Lib.hid (hHeld.1.out.trans (hb.mono hHeld.1.out.size)), cell_later4 hb hHeld.2.1, cell_later4 hb hHeld.2.2.1, cell_later4 hb hHeld.2.2.2.1, cell_later4 hb hHeld.2.2.2.2.1, cell_later4 hb hHeld.2.2.2.2.2.1, cell_later4 hb hHeld.2.2.2.2.2.2.1, cell_later4 hb hHeld.2.2.2.2.2.2.2.1, cell_later4 hb hHeld.2.2.2.2.2.2.2.2.1, cell_later4 hb hHeld.2.2.2.2.2.2.2.2.2.1, cell_later4 hb hHeld.2.2.2.2.2.2.2.2.2.2.1, cell_later4 hb hHeld.2.2.2.2.2.2.2.2.2.2.2.1, cell_later4 hb hHeld.2.2.2.2.2.2.2.2.2.2.2.2.1, cell_later4 hb hHeld.2.2.2.2.2.2.2.2.2.2.2.2.2.1, cell_later4 hb hHeld.2.2.2.2.2.2.2.2.2.2.2.2.2.2.1, cell_later4 hb hHeld.2.2.2.2.2.2.2.2.2.2.2.2.2.2.2⟩) (fun hHeld2 => ?_)
          clear hK K hHeld
          have hHeld := hHeld2
          clear hHeld2
          try simp only [Act.put, List.setIfInBounds_toArray, List.set_cons_zero, List.set_cons_succ]
          refine wpAnyH_take (i := 10) (oi := { dst := some 180, op := Go.Op.binOp Go.BinOp.neq 36 (Go.Operand.tmp 177) (Go.Operand.tmp 179) 36, type := 4, pos := "extra.go:39", after := #[{ on := 7, ground := Go.Ground.data }, { on := 9, ground := Go.Ground.data }, { on := 2, ground := Go.Ground.guard }], guard := some (2, false) }) (v := ?v10_502) rfl (by kernel_rfl) (by kernel_rfl) (by kernel_rfl) (fun _ _ _ h => h) (Or.inl ⟨by rfl, ?y10_502⟩) hHeld ?r10_502
          case y10_502 => intro w hSw; (try dsimp only at hSw); go_simp; try with_reducible rfl
          try simp only [Act.put, List.setIfInBounds_toArray, List.set_cons_zero, List.set_cons_succ]
          refine wpAnyH_take (i := 11) (oi := { dst := some 181, op := Go.Op.move (Go.Operand.tmp 180), type := 4, pos := "extra.go:39", after := #[{ on := 10, ground := Go.Ground.data }, { on := 9, ground := Go.Ground.chain }, { on := 2, ground := Go.Ground.guard }], guard := some (2, false) }) (v := ?v11_502) rfl (by kernel_rfl) (by kernel_rfl) (by kernel_rfl) (fun _ _ _ h => h) (Or.inl ⟨by rfl, ?y11_502⟩) hHeld ?r11_502
          case y11_502 => intro w hSw; (try dsimp only at hSw); go_simp; try with_reducible rfl
          try simp only [Act.put, List.setIfInBounds_toArray, List.set_cons_zero, List.set_cons_succ]
          refine wpAnyH_take (i := 12) (oi := { dst := some 182, op := Go.Op.load 39 (Go.Operand.tmp 15), type := 39, pos := "extra.go:39", after := #[{ on := 11, ground := Go.Ground.guard }], guard := some (11, true) }) (v := ?v12_502) rfl (by kernel_rfl) (by kernel_rfl) (by kernel_rfl) (fun _ _ _ h => h) (Or.inl ⟨by rfl, ?y12_502⟩) hHeld ?r12_502
          case y12_502 => intro w hSw; (try dsimp only at hSw); go_simp; try with_reducible rfl
          try simp only [Act.put, List.setIfInBounds_toArray, List.set_cons_zero, List.set_cons_succ]
          refine wpAnyH_take (i := 13) (oi := { dst := some 183, op := Go.Op.move (Go.Operand.tmp 13), type := 33, pos := "extra.go:39", after := #[{ on := 11, ground := Go.Ground.guard }], guard := some (11, true) }) (v := ?v13_502) rfl (by kernel_rfl) (by kernel_rfl) (by kernel_rfl) (fun _ _ _ h => h) (Or.inl ⟨by rfl, ?y13_502⟩) hHeld ?r13_502
          case y13_502 => intro w hSw; (try dsimp only at hSw); go_simp; try with_reducible rfl
          try simp only [Act.put, List.setIfInBounds_toArray, List.set_cons_zero, List.set_cons_succ]
          refine wpAnyH_take (i := 14) (oi := { dst := some 184, op := Go.Op.move (Go.Operand.tmp 14), type := 3, pos := "extra.go:39", after := #[{ on := 11, ground := Go.Ground.guard }], guard := some (11, true) }) (v := ?v14_502) rfl (by kernel_rfl) (by kernel_rfl) (by kernel_rfl) (fun _ _ _ h => h) (Or.inl ⟨by rfl, ?y14_502⟩) hHeld ?r14_502
          case y14_502 => intro w hSw; (try dsimp only at hSw); go_simp; try with_reducible rfl
          try simp only [Act.put, List.setIfInBounds_toArray, List.set_cons_zero, List.set_cons_succ]
          refine wpAnyH_take (i := 15) (oi := { dst := some 185, op := Go.Op.indexAddr 33 (Go.Operand.tmp 183) (Go.Operand.tmp 184), type := 0, pos := "extra.go:39", after := #[{ on := 13, ground := Go.Ground.data }, { on := 14, ground := Go.Ground.data }, { on := 11, ground := Go.Ground.guard }], guard := some (11, true) }) (v := ?v15_502) rfl (by kernel_rfl) (by kernel_rfl) (by kernel_rfl) (fun _ _ _ h => h) (Or.inl ⟨by rfl, ?y15_502⟩) hHeld ?r15_502
          case y15_502 => intro w hSw; (try dsimp only at hSw); go_simp; try with_reducible rfl
          try simp only [Act.put, List.setIfInBounds_toArray, List.set_cons_zero, List.set_cons_succ]
          refine wpAnyH_take (i := 16) (oi := { dst := some 186, op := Go.Op.load 39 (Go.Operand.tmp 185), type := 39, pos := "extra.go:39", after := #[{ on := 15, ground := Go.Ground.data }, { on := 11, ground := Go.Ground.guard }], guard := some (11, true) }) (v := ?v16_502) rfl (by kernel_rfl) (by kernel_rfl) (by kernel_rfl) (fun _ _ _ h => h) (Or.inl ⟨by rfl, ?y16_502⟩) hHeld ?r16_502
          case y16_502 => intro w hSw; (try dsimp only at hSw); go_simp; try with_reducible rfl
          try simp only [Act.put, List.setIfInBounds_toArray, List.set_cons_zero, List.set_cons_succ]
          refine wpAnyH_ready (rs := [17]) (by kernel_rfl) (by simp) ?_
          refine AllReadyH.cons (o := { dst := some 187, op := Go.Op.call { callee := Go.Callee.value (Go.Operand.func 31), args := #[Go.Operand.tmp 182, Go.Operand.tmp 186], argTypes := #[39, 39] }, type := 4, pos := "extra.go:39", after := #[{ on := 12, ground := Go.Ground.data }, { on := 16, ground := Go.Ground.data }, { on := 11, ground := Go.Ground.chain }, { on := 11, ground := Go.Ground.guard }], guard := some (11, true) }) rfl (fun K hK => ?_) AllReadyH.nil
          go_simp
          refine (HSAME.out _ hHeld.1.out).mono ?_; rintro e wz1 ⟨rfl, hb⟩
          go_wp2_with fail
          refine hK.out _ _ (⟨Lib.hid (hHeld.1.out.trans (hb.mono hHeld.1.out.size)), cell_later4 hb hHeld.2.1, cell_later4 hb hHeld.2.2.1, cell_later4 hb hHeld.2.2.2.1, cell_later4 hb hHeld.2.2.2.2.1, cell_later4 hb hHeld.2.2.2.2.2.1, cell_later4 hb hHeld.2.2.2.2.2.2.1, cell_later4 hb hHeld.2.2.2.2.2.2.2.1, cell_later4 hb hHeld.2.2.2.2.2.2.2.2.1, cell_later4 hb hHeld.2.2.2.2.2.2.2.2.2.1, cell_later4 hb hHeld.2.2.2.2.2.2.2.2.2.2.1, cell_later4 hb hHeld.2.2.2.2.2.2.2.2.2.2.2.1, cell_later4 hb hHeld.2.2.2.2.2.2.2.2.2.2.2.2.1, cell_later4 hb hHeld.2.2.2.2.2.2.2.2.2.2.2.2.2.1, cell_later4 hb hHeld.2.2.2.2.2.2.2.2.2.2.2.2.2.2.1, cell_later4 hb hHeld.2.2.2.2.2.2.2.2.2.2.2.2.2.2.2⟩) (fun hHeld2 => ?_)
          clear hK K hHeld
          have hHeld := hHeld2
          clear hHeld2
          try simp only [Act.put, List.setIfInBounds_toArray, List.set_cons_zero, List.set_cons_succ]
          refine wpAnyH_take (i := 18) (oi := { dst := some 188, op := Go.Op.unOp Go.UnOp.not 4 (Go.Operand.tmp 187), type := 4, pos := "extra.go:39", after := #[{ on := 17, ground := Go.Ground.data }, { on := 11, ground := Go.Ground.guard }], guard := some (11, true) }) (v := ?v18_503) rfl (by kernel_rfl) (by kernel_rfl) (by kernel_rfl) (fun _ _ _ h => h) (Or.inl ⟨by rfl, ?y18_503⟩) hHeld ?r18_503
          case y18_503 => intro w hSw; (try dsimp only at hSw); go_simp; try with_reducible rfl
          try simp only [Act.put, List.setIfInBounds_toArray, List.set_cons_zero, List.set_cons_succ]
          refine wpAnyH_take (i := 19) (oi := { dst := some 189, op := Go.Op.pick (Go.Operand.tmp 181) (Go.Operand.tmp 188) (Go.Operand.const (Go.Value.bool false)), type := 4, pos := "extra.go:39", after := #[{ on := 11, ground := Go.Ground.data }, { on := 18, ground := Go.Ground.data }, { on := 2, ground := Go.Ground.guard }], guard := some (2, false) }) (v := ?v19_503) rfl (by kernel_rfl) (by kernel_rfl) (by kernel_rfl) (fun _ _ _ h => h) (Or.inl ⟨by rfl, ?y19_503⟩) hHeld ?r19_503
          case y19_503 => intro w hSw; (try dsimp only at hSw); go_simp; try with_reducible rfl
          try simp only [Act.put, List.setIfInBounds_toArray, List.set_cons_zero, List.set_cons_succ]
          refine wpAnyH_take (i := 20) (oi := { dst := some 190, op := Go.Op.pick (Go.Operand.tmp 172) (Go.Operand.const (Go.Value.bool true)) (Go.Operand.tmp 189), type := 4, pos := "extra.go:39", after := #[{ on := 2, ground := Go.Ground.data }, { on := 19, ground := Go.Ground.data }], guard := none }) (v := ?v20_503) rfl (by kernel_rfl) (by kernel_rfl) (by kernel_rfl) (fun _ _ _ h => h) (Or.inl ⟨by rfl, ?y20_503⟩) hHeld ?r20_503
          case y20_503 => intro w hSw; (try dsimp only at hSw); go_simp; try with_reducible rfl
          try simp only [Act.put, List.setIfInBounds_toArray, List.set_cons_zero, List.set_cons_succ]
          refine wpAnyH_done (by kernel_rfl) ?_ _
          have HBE := Lib.hid (hbw.out.trans ((HXG.out.trans (hHeld.1.out.mono HXG.out.size)).mono hbw.out.size))
          clear hHeld hb
          go_wp2
          go_roundw
          case rel => exact ⟨k + 1, by have := HLT.out; omega, by have := HLT.out; go_num, HBE⟩
          case measure => have := HLT.out; simp [intOf]; omega
      · have HX14 := Lib.hid (HX13.out.trans (hbw.out.mono HX13.out.size))
        have HB14 := Lib.hid (HB13.out.trans (hbw.out.mono HB13.out.size))
        have HQ14 := Lib.hid (HQ13.out.below hbw.out)
        have hkb : k ≤ 100000 := by omega
        clear hbw HX13 HB13 HQ13 HSA3 hk
        obtain ⟨r0, r1, r2, r3, r4, -⟩ := HQ14.out.u5
        go_wp2_with fail
        refine (keyOf_any ⟨⟨rn, rt, rc⟩, ru, rd⟩ _).mono ?_; rintro e w15 ⟨rfl, hbd⟩
        have hb := hbd.b
        have HX15 := Lib.hid (HX14.out.trans (hb.mono HX14.out.size))
        have HB15 := Lib.hid (HB14.out.trans (hb.mono HB14.out.size))
        have HQ15 := Lib.hid (HQ14.out.below hb)
        clear hb hbd HX14 HB14 HQ14 r0 r1 r2 r3 r4
        obtain ⟨t, hft, hmt⟩ := more_last HOK2.out.canon
        have HTN := Lib.hid (HOK2.out.sz.2 _ (find_mem hft)).2
        have HFT := Lib.hid hft
        have HMT := Lib.hid hmt
        clear hft hmt
        go_wp2_with fail
        refine (zget_any z2 apex B rn rt rc w15 (HOK2.out.is.below HX15.out) HOK2.out.canon.keys HOK2.out.sz HRN.out).mono ?_; rintro e wg ⟨hf, hbg⟩
        rcases hf with ⟨s', dv, hfs, rfl, ho⟩ | ⟨hfn, -⟩
        case inr => rw [HFT.out] at hfn; cases hfn
        obtain rfl : t = s' := by rw [HFT.out] at hfs; exact Option.some.inj hfs
        obtain ⟨⟨tn, tt, tk⟩, tu, td⟩ := t
        replace ho : wg.ownsRow w15.heap.size 9 1 dv td.length (sc td) := ho
        obtain ⟨ta2, tc2, rfl, htr, -⟩ := rowS_of_own ho
        have htn : td.length ≤ 100000 := HTN.out
        obtain ⟨tl, htl⟩ : ∃ x, td.length = x := ⟨_, rfl⟩
        rw [htl] at htr htn
        have hba := (Below.refl wg.heap.size wg).alloc (Nat.le_refl _) (.cells #[.string tn, .int .i64 tt, .int .i64 tk, .int .i64 tu, .slice ta2 tl tc2] 39)
        have hbb := hbg.trans (hba.mono hbg.size)
        have HB16 := Lib.hid (HB15.out.trans (hbb.mono HB15.out.size))
        have HQ16 := Lib.hid (HQ15.out.below hbb)
        have HTR := Lib.hid (htr.below hba)
        have HC7 := Lib.hid (c5_new wg (.string tn) (.int .i64 tt) (.int .i64 tk) (.int .i64 tu) (.slice ta2 tl tc2) 39)
        have HHAS := Lib.hid (fun wx (hx : Below _ _ wx) => has_any tn tt tk tu td ta2 tl tc2 rd wx (HTR.out.below hx) htn)
        rw [show memS rd td = true from HMT.out] at HHAS
        dsimp only
        rw [htl]
        clear hfs ho htr hba hbg hbb htl htn HB15 HQ15 HX15
        go_upto_region 26 with (fail)
        obtain ⟨wb, hwb⟩ : ∃ x, wg.alloc (.cells #[.string tn, .int .i64 tt, .int .i64 tk, .int .i64 tu, .slice ta2 tl tc2] 39) = x := ⟨_, rfl⟩
        rw [hwb] at HB16 HQ16 HTR HC7 HHAS ⊢
        clear hwb
        obtain ⟨q17, hq⟩ : ∃ x, wg.heap.size = x := ⟨_, rfl⟩
        rw [hq] at HC7 ⊢
        clear hq
        go_wp2_with fail
        refine (first10 _).mono ?_; rintro e w17 ⟨rfl, hb⟩
        have HB17 := Lib.hid (HB16.out.trans (hb.mono HB16.out.size))
        have HQ17 := Lib.hid (HQ16.out.below hb)
        have HC17 := Lib.hid (HC7.out.below hb)
        have HH := Lib.hid (HHAS.out _ hb)
        clear hb HB16 HQ16 HC7 HHAS
        obtain ⟨r0, r1, r2, r3, r4, -⟩ := HQ17.out.u5
        obtain ⟨-, y0, y1, y2, y3, y4, -⟩ := HC17.out
        go_wp2_with fail
        refine HH.out.mono ?_; rintro e w18 ⟨rfl, hb⟩
        have HB18 := Lib.hid (HB17.out.trans (hb.mono HB17.out.size))
        clear hb HB17 r0 r1 r2 r3 r4 y0 y1 y2 y3 y4
        go_wp2
        go_ret
        exact ⟨rfl, HB18.out⟩
end Go.Proofs.Ytgdhbelcellabaa
