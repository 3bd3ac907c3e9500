/- The document's Find; rows of records alike. -/
import Derived.Test.YtfopfplpfhncfaaRRf
import Derived.Laws.StructEq
namespace Go.Proofs.Ytfopfplpfhncfaa
open Go.RowKit

def RFound (L : List SetP) (k : Ky) (w : World) (e : Ending) : Prop :=
  (∃ s p c, findK L k = some s ∧ e = .returned (.tuple #[.agg #[.string s.k.n, .int .i64 s.k.t, .int .i64 s.k.c, .int .i64 s.ttl, .slice p s.data.length c], .bool true]) ∧ RowS w p s.data.length s.data) ∨ (findK L k = none ∧ e = .returned (.tuple #[.agg #[.string ⟨#[]⟩, .int .i64 0, .int .i64 0, .int .i64 0, .slice none 0 0], .bool false]))

set_option maxRecDepth 100000 in
set_option maxHeartbeats 1600000 in
theorem rfind_any (a : Option Addr) (len cap : Nat) (L : List SetP) (kn : ByteArray) (kt kc : Int) (w : World) (h : SetsAt w a len L) (hlen : len ≤ 100000) :
    Calls Try.prog 14 #[.slice a len cap, .agg #[.string kn, .int .i64 kt, .int .i64 kc]] w fun e w' => RFound L ⟨kn, kt, kc⟩ w e ∧ Below w.heap.size w w' := by
  have HR := Lib.hid h
  have HL := Lib.hid h.1
  have hq1 := (Below.refl w.heap.size w).alloc (Nat.le_refl _) (.cells #[.string kn, .int .i64 kt, .int .i64 kc] 35)
  have hq2 := (Below.refl _ (w.alloc (.cells #[.string kn, .int .i64 kt, .int .i64 kc] 35))).alloc (Nat.le_refl _) (.cells #[.string ⟨#[]⟩, .int .i64 0, .int .i64 0, .int .i64 0, .slice none 0 0] 37)
  have HK := Lib.hid ((kyAt_new w ⟨kn, kt, kc⟩ 35).below hq2)
  have hc := c5_new (w.alloc (.cells #[.string kn, .int .i64 kt, .int .i64 kc] 35)) (.string ⟨#[]⟩) (.int .i64 0) (.int .i64 0) (.int .i64 0) (.slice none 0 0) 37
  rw [World.size_alloc] at hc
  have HC := Lib.hid hc
  have HB := Lib.hid (hq1.trans (hq2.mono hq1.size))
  clear h hq1 hq2 hc
  go_enter Try.func14, Try.ntmps14
  go_wp2_with fail
  obtain ⟨w1, hw1⟩ : ∃ x, ((w.alloc (.cells #[.string kn, .int .i64 kt, .int .i64 kc] 35)).alloc (.cells #[.string ⟨#[]⟩, .int .i64 0, .int .i64 0, .int .i64 0, .slice none 0 0] 37)) = x := ⟨_, rfl⟩
  rw [hw1] at HK HC HB ⊢
  clear hw1
  obtain ⟨q2, hq2⟩ : ∃ q, w.heap.size + 1 = q := ⟨_, rfl⟩
  rw [hq2] at HC ⊢
  have HQ2 := Lib.hid hq2
  obtain ⟨q, hq⟩ : ∃ q, w.heap.size = q := ⟨_, rfl⟩
  have HQ := Lib.hid hq
  rw [show (Value.pointer (some { block := w.heap.size, off := 0 })) = Value.pointer (some { block := q, off := 0 }) by rw [hq]]
  replace HK : Hid (KyAt w1 q ⟨kn, kt, kc⟩) := by rw [← hq]; exact HK
  clear hq hq2
  go_loopw [6] (fun i wr => ∃ k m : Nat, k ≤ len ∧ i = .int .i64 k ∧ Hid (∀ s ∈ L.take k, s.k ≠ ⟨kn, kt, kc⟩) ∧ wr = w1.drewN m) (fun i _ => len - (intOf i).toNat)
  case atStart => exact ⟨0, 0, Nat.zero_le _, rfl, (fun s hs => by simp at hs), rfl⟩
  case round =>
    obtain ⟨k, m, hk, rfl, hno, rfl⟩ := hrel
    by_cases hlt : k < len
    · rcases HR.out.2 with h9 | ⟨b, o, rfl, hbl, hc⟩
      · omega
      obtain ⟨p, c, hs⟩ := hc k hlt
      have hLk : L[k]? = some (L.getD k ssD) := by
        rw [List.getD_eq_getElem?_getD, List.getElem?_eq_getElem (by have := HL.out; omega)]; rfl
      obtain ⟨s, hss⟩ : ∃ s, L.getD k ssD = s := ⟨_, rfl⟩
      rw [hss] at hs hLk
      obtain ⟨⟨sn, st, sc1⟩, su, sd⟩ := s
      obtain ⟨dl, hdl2⟩ : ∃ x, sd.length = x := ⟨_, rfl⟩
      have hrow : RowS w p sd.length sd := hs.2.2.2.2.2.1
      obtain ⟨c0, c1, c2, c3, c4, -, -⟩ := hs.below hbl HB.out
      replace c0 : w1.cell? ⟨b, o + k * 5, none⟩ = some (.string sn) := c0
      replace c1 : w1.cell? ⟨b, o + k * 5 + 1, none⟩ = some (.int .i64 st) := c1
      replace c2 : w1.cell? ⟨b, o + k * 5 + 2, none⟩ = some (.int .i64 sc1) := c2
      replace c3 : w1.cell? ⟨b, o + k * 5 + 3, none⟩ = some (.int .i64 su) := c3
      replace c4 : w1.cell? ⟨b, o + k * 5 + 4, none⟩ = some (.slice p sd.length c) := c4
      rw [hdl2] at c4
      have HDL := Lib.hid hdl2
      have HROW := Lib.hid hrow
      have HLK := Lib.hid hLk
      obtain ⟨hqs, p0, p1, p2⟩ := HK.out
      replace p0 : w1.cell? ⟨q, 0, none⟩ = some (.string kn) := p0
      replace p1 : w1.cell? ⟨q, 1, none⟩ = some (.int .i64 kt) := p1
      replace p2 : w1.cell? ⟨q, 2, none⟩ = some (.int .i64 kc) := p2
      have i0 : (0 : Int) ≤ (k : Int) := by omega
      have i2 : (k : Int) < (len : Int) := by omega
      clear hc hss hs hdl2 hrow hLk
      by_cases hkey : (⟨sn, st, sc1⟩ : Ky) = ⟨kn, kt, kc⟩
      · have hke : ∀ W, (binOp .eql 35 (.agg #[.string sn, .int .i64 st, .int .i64 sc1]) (.agg #[.string kn, .int .i64 kt, .int .i64 kc])).run Try.prog W = .ok (.bool true) W := fun W => by
          rw [rkey_eql, (key_same ⟨sn, st, sc1⟩ ⟨kn, kt, kc⟩).2 hkey]
        have HF := Lib.hid (findK_some hno.out HLK.out hkey)
        obtain ⟨_, r0, r1, r2, r3, r4, f0, f1, f2, f3, f4⟩ := HC.out
        clear hkey
        go_wp2_with fail
        go_quiet (fail)
        rename_i nq
        have hbq3 := below_drewN (Below.refl w1.heap.size w1) (m + nq)
        have HC2 := Lib.hid (HC.out.below hbq3)
        have HBQ := Lib.hid (HB.out.trans (hbq3.mono HB.out.size))
        have HC3 := Lib.hid (HC2.out.set (.string sn) (.int .i64 st) (.int .i64 sc1) (.int .i64 su) (.slice p dl c))
        have HB3 := Lib.hid (below_set5 HBQ.out (q := q2) (by have := HQ2.out; omega) (.string sn) (.int .i64 st) (.int .i64 sc1) (.int .i64 su) (.slice p dl c))
        clear hbq3
        go_wp2
        obtain ⟨wz, hwz⟩ : ∃ x, ((((((w1.drewN (m + nq)).setCell { block := q2, off := 0 } (Value.string sn)).setCell { block := q2, off := 1 } (Value.int IntKind.i64 st)).setCell { block := q2, off := 2 } (Value.int IntKind.i64 sc1)).setCell { block := q2, off := 3 } (Value.int IntKind.i64 su)).setCell { block := q2, off := 4 } (Value.slice p dl c)) = x := ⟨_, rfl⟩
        rw [hwz] at HC3 HB3 ⊢
        clear hwz r0 r1 r2 r3 r4 f0 f1 f2 f3 f4 HC2
        obtain ⟨_, z0, z1, z2, z3, z4, _⟩ := HC3.out
        refine bodyPost_ret (v := .tuple #[.agg #[.string sn, .int .i64 st, .int .i64 sc1, .int .i64 su, .slice p dl c], .bool true]) (by simp [results, Try.results14, go_sem, z0, z1, z2, z3, z4]) rfl ⟨Or.inl ⟨_, p, c, HF.out, ?_, ?_⟩, HB3.out⟩
        · show _ = Ending.returned (.tuple #[.agg #[.string sn, .int .i64 st, .int .i64 sc1, .int .i64 su, .slice p sd.length c], .bool true])
          rw [HDL.out]
        · exact HROW.out
      · have hke : ∀ W, (binOp .eql 35 (.agg #[.string sn, .int .i64 st, .int .i64 sc1]) (.agg #[.string kn, .int .i64 kt, .int .i64 kc])).run Try.prog W = .ok (.bool false) W := fun W => by
          rw [rkey_eql, show (sn.toList == kn.toList && (st == kt && sc1 == kc)) = false from Bool.eq_false_iff.2 (fun h => hkey ((key_same ⟨sn, st, sc1⟩ ⟨kn, kt, kc⟩).1 h))]
        have HN := Lib.hid (show ∀ s ∈ L.take (k + 1), s.k ≠ ⟨kn, kt, kc⟩ from fun s hs => by
          rw [List.take_add_one, HLK.out] at hs
          rcases List.mem_append.1 hs with h1 | h1
          · exact hno.out s h1
          · have h2 : s = ⟨⟨sn, st, sc1⟩, su, sd⟩ := by simpa using h1
            rw [h2]; exact hkey)
        clear hkey
        go_wp2_with fail
        go_quiet (fail)
        go_wp2
        rename_i nq
        go_roundw
        case rel => exact ⟨k + 1, m + nq, by omega, by go_num, HN.out, by first | rfl | exact drewN_add _ _ _⟩
        case measure => simp [intOf]; omega
    · have HF := Lib.hid (findK_none hno.out (show L.length ≤ k by rw [HL.out]; omega))
      have hbq := below_drewN (Below.refl w1.heap.size w1) m
      have HC3 := Lib.hid ((HC.out.below hbq).set (.string ⟨#[]⟩) (.int .i64 0) (.int .i64 0) (.int .i64 0) (.slice none 0 0))
      have HB3 := Lib.hid (below_set5 (HB.out.trans (hbq.mono HB.out.size)) (q := q2) (by have := HQ2.out; omega) (.string ⟨#[]⟩) (.int .i64 0) (.int .i64 0) (.int .i64 0) (.slice none 0 0))
      obtain ⟨_, r0, r1, r2, r3, r4, f0, f1, f2, f3, f4⟩ := HC.out
      clear hbq
      go_wp2
      obtain ⟨wz, hwz⟩ : ∃ x, ((((((w1.drewN m).setCell { block := q2, off := 0 } (Value.string ⟨#[]⟩)).setCell { block := q2, off := 1 } (Value.int IntKind.i64 0)).setCell { block := q2, off := 2 } (Value.int IntKind.i64 0)).setCell { block := q2, off := 3 } (Value.int IntKind.i64 0)).setCell { block := q2, off := 4 } (Value.slice none 0 0)) = x := ⟨_, rfl⟩
      rw [hwz] at HC3 HB3 ⊢
      clear hwz r0 r1 r2 r3 r4 f0 f1 f2 f3 f4
      obtain ⟨_, z0, z1, z2, z3, z4, _⟩ := HC3.out
      refine bodyPost_ret (v := .tuple #[.agg #[.string ⟨#[]⟩, .int .i64 0, .int .i64 0, .int .i64 0, .slice none 0 0], .bool false]) (by simp [results, Try.results14, go_sem, z0, z1, z2, z3, z4]) rfl ⟨Or.inr ⟨HF.out, rfl⟩, HB3.out⟩

theorem rr_equal (an : ByteArray) (at1 ac au : Int) (ad bn : ByteArray) (bt bc bu : Int) (bd : ByteArray) (W : World) : (Op.equalIn 10000 91 (.agg #[.string an, .int .i64 at1, .int .i64 ac, .int .i64 au, .string ad]) (.agg #[.string bn, .int .i64 bt, .int .i64 bc, .int .i64 bu, .string bd])).run Try.prog W = .ok (an.toList == bn.toList && (at1 == bt && (ac == bc && (au == bu && ad.toList == bd.toList)))) W := by
  have u3 := Try.underlying3
  have a3 := Try.isAgg3
  have z3 := Try.sizeOf3
  have u9 := Try.underlying9
  have a9 := Try.isAgg9
  have z9 := Try.sizeOf9
  have hS : Try.prog.underlying 91 = some (.struct (Try.prog.fieldsOf 91)) := by
    simp [Program.fieldsOf, Try.underlying91]
  rw [show (10000 : Nat) = 9999 + 1 from rfl, run_equalIn_agg W 9999 91 _ _ hS (by kernel_rfl)]
  simp only [Program.fieldsOf, Try.underlying91]
  go_simp
  by_cases h1 : an.toList = bn.toList <;> by_cases h2 : at1 = bt <;> by_cases h3 : ac = bc <;> by_cases h4 : au = bu <;> by_cases h5 : ad.toList = bd.toList <;> simp [h1, h2, h3, h4, h5]
theorem rr_neq (an : ByteArray) (at1 ac au : Int) (ad bn : ByteArray) (bt bc bu : Int) (bd : ByteArray) (W : World) : (binOp .neq 91 (.agg #[.string an, .int .i64 at1, .int .i64 ac, .int .i64 au, .string ad]) (.agg #[.string bn, .int .i64 bt, .int .i64 bc, .int .i64 bu, .string bd])).run Try.prog W = .ok (.bool (!(an.toList == bn.toList && (at1 == bt && (ac == bc && (au == bu && ad.toList == bd.toList)))))) W := by
  rw [run_neq_struct, rr_equal]; rfl
theorem rr_same (an : ByteArray) (at1 ac au : Int) (ad bn : ByteArray) (bt bc bu : Int) (bd : ByteArray) : (an.toList == bn.toList && (at1 == bt && (ac == bc && (au == bu && ad.toList == bd.toList)))) = true ↔ (⟨⟨an, at1, ac⟩, au, ad⟩ : R5) = ⟨⟨bn, bt, bc⟩, bu, bd⟩ := by
  have h0 : ∀ x y : ByteArray, x.toList = y.toList ↔ x = y := fun x y => ⟨toList_inj4, fun h => by rw [h]⟩
  simp only [Bool.and_eq_true, beq_iff_eq, h0, R5.mk.injEq, Ky.mk.injEq]
  constructor
  · rintro ⟨h1, h2, h3, h4, h5⟩; exact ⟨⟨h1, h2, h3⟩, h4, h5⟩
  · rintro ⟨⟨h1, h2, h3⟩, h4, h5⟩; exact ⟨h1, h2, h3, h4, h5⟩

set_option maxRecDepth 100000 in
set_option maxHeartbeats 1600000 in
theorem rrs_any (a b : Option Addr) (n m ca cb : Nat) (L M : List R5) (w : World) (ha : RowR w a n L) (hb : RowR w b m M) (hn : n ≤ 100000) (hm : m ≤ 100000) :
    Calls Try.prog 17 #[.slice a n ca, .slice b m cb] w fun e w' => (∃ x : Bool, e = .returned (.bool x) ∧ (x = true ↔ L = M)) ∧ Below w.heap.size w w' := by
  have HRA := Lib.hid ha
  have HRB := Lib.hid hb
  have HLA := Lib.hid ha.1
  have HLB := Lib.hid hb.1
  clear ha hb
  by_cases hnm : n = m
  · subst hnm
    have e0 : ((n : Int) != (n : Int)) = false := nF rfl
    go_enter Try.func17, Try.ntmps17
    go_wp2_with fail
    go_loopw [5] (fun i wr => ∃ k q : Nat, k ≤ n ∧ i = .int .i64 k ∧ Hid (L.take k = M.take k) ∧ wr = w.drewN q) (fun i _ => n - (intOf i).toNat)
    case atStart => exact ⟨0, 0, Nat.zero_le _, rfl, rfl, rfl⟩
    case round =>
      obtain ⟨k, q, hk, rfl, hall, rfl⟩ := hrel
      by_cases hlt : k < n
      · obtain ⟨b1, o1, r1, rfl, hb1, hr1, x0, x1, x2, x3, x4⟩ := HRA.out.at k hlt
        obtain ⟨b2, o2, r2, rfl, hb2, hr2, y0, y1, y2, y3, y4⟩ := HRB.out.at k hlt
        obtain ⟨⟨an, at1, ac⟩, au, ad⟩ := r1
        obtain ⟨⟨bn, bt, bc⟩, bu, bd⟩ := r2
        have HR1 := Lib.hid hr1
        have HR2 := Lib.hid hr2
        have i1 : (0 : Int) ≤ (k : Int) := by omega
        have i2 : (k : Int) < (n : Int) := by omega
        clear hr1 hr2
        replace x0 : w.cell? ⟨b1, o1 + k * 5, none⟩ = some (.string an) := x0
        replace x1 : w.cell? ⟨b1, o1 + k * 5 + 1, none⟩ = some (.int .i64 at1) := x1
        replace x2 : w.cell? ⟨b1, o1 + k * 5 + 2, none⟩ = some (.int .i64 ac) := x2
        replace x3 : w.cell? ⟨b1, o1 + k * 5 + 3, none⟩ = some (.int .i64 au) := x3
        replace x4 : w.cell? ⟨b1, o1 + k * 5 + 4, none⟩ = some (.string ad) := x4
        replace y0 : w.cell? ⟨b2, o2 + k * 5, none⟩ = some (.string bn) := y0
        replace y1 : w.cell? ⟨b2, o2 + k * 5 + 1, none⟩ = some (.int .i64 bt) := y1
        replace y2 : w.cell? ⟨b2, o2 + k * 5 + 2, none⟩ = some (.int .i64 bc) := y2
        replace y3 : w.cell? ⟨b2, o2 + k * 5 + 3, none⟩ = some (.int .i64 bu) := y3
        replace y4 : w.cell? ⟨b2, o2 + k * 5 + 4, none⟩ = some (.string bd) := y4
        by_cases hs : (⟨⟨an, at1, ac⟩, au, ad⟩ : R5) = ⟨⟨bn, bt, bc⟩, bu, bd⟩
        · have hke : ∀ W, (binOp .neq 91 (.agg #[.string an, .int .i64 at1, .int .i64 ac, .int .i64 au, .string ad]) (.agg #[.string bn, .int .i64 bt, .int .i64 bc, .int .i64 bu, .string bd])).run Try.prog W = .ok (.bool false) W := fun W => by
            rw [rr_neq, (rr_same an at1 ac au ad bn bt bc bu bd).2 hs]; rfl
          have HN := Lib.hid (show L.take (k + 1) = M.take (k + 1) by
            rw [List.take_add_one, List.take_add_one, hall.out, HR1.out, HR2.out, hs])
          clear hs
          go_wp2_with fail
          go_quiet (fail)
          go_wp2
          rename_i nq
          go_roundw
          case rel => exact ⟨k + 1, q + nq, by omega, by go_num, HN, by first | rfl | exact drewN_add _ _ _⟩
          case measure => simp [intOf]; omega
        · have hke : ∀ W, (binOp .neq 91 (.agg #[.string an, .int .i64 at1, .int .i64 ac, .int .i64 au, .string ad]) (.agg #[.string bn, .int .i64 bt, .int .i64 bc, .int .i64 bu, .string bd])).run Try.prog W = .ok (.bool true) W := fun W => by
            rw [rr_neq, Bool.eq_false_iff.2 (fun h => hs ((rr_same an at1 ac au ad bn bt bc bu bd).1 h))]; rfl
          have HF := Lib.hid (show ¬ L = M from fun h => by
            have h1 := HR1.out
            rw [h, HR2.out] at h1
            exact hs (Option.some.inj h1).symm)
          clear hs
          go_wp2_with fail
          go_quiet (fail)
          go_wp2
          rename_i nq
          have HB := Lib.hid (below_drewN (below_drewN (Below.refl w.heap.size w) q) nq)
          go_ret
          exact ⟨⟨false, rfl, ⟨(fun h => by cases h), fun h => absurd h HF.out⟩⟩, HB.out⟩
      · have hkn : k = n := by omega
        have HF := Lib.hid (show L = M by
          have h1 := hall.out
          rw [List.take_of_length_le (by rw [HLA.out]; omega), List.take_of_length_le (by rw [HLB.out]; omega)] at h1
          exact h1)
        have HB := Lib.hid (below_drewN (Below.refl w.heap.size w) q)
        subst hkn
        go_wp2
        go_ret
        exact ⟨⟨true, rfl, ⟨fun _ => HF.out, fun _ => rfl⟩⟩, HB.out⟩
  · have e0 : ((n : Int) != (m : Int)) = true := nT (by omega)
    have HF := Lib.hid (show ¬ L = M from fun h => hnm (by rw [← HLA.out, ← HLB.out, h]))
    go_enter Try.func17, Try.ntmps17
    go_wp2_with fail
    go_ret
    exact ⟨⟨false, rfl, ⟨(fun h => by cases h), fun h => absurd h HF.out⟩⟩, Below.refl _ _⟩
end Go.Proofs.Ytfopfplpfhncfaa
