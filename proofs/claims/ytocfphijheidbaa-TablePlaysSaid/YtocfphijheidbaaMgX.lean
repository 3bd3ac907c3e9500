/- Texts that others rest on, one behind the other: TbQ, TbR, TbU. -/
import Derived.Test.YtocfphijheidbaaTbO
section
namespace Go.Proofs.Ytocfphijheidbaa
open Go.RowKit

theorem mask16Q (n : Int) : bits .and .i64 n 65535 = n % 65536 := by
  have hm : (BitVec.ofInt 64 65535).toNat = 2 ^ 16 - 1 := by decide
  have key : (BitVec.ofInt 64 n &&& BitVec.ofInt 64 65535).toNat = (n % ((2 ^ 64 : Nat) : Int)).toNat % 2 ^ 16 := by
    rw [BitVec.toNat_and, BitVec.toNat_ofInt, hm, Nat.and_two_pow_sub_one_eq_mod]
  show IntKind.i64.wrap ((BitVec.ofInt 64 n &&& BitVec.ofInt 64 65535).toNat : Nat) = n % 65536
  rw [key, IntKind.wrap_i64]
  omega
theorem one_x (i : Int) (b : Bool) (g : Nat) : ∀ u ∈ ([.int .i64 i, .int .i64 0, .int .i64 0, .bool b, .bool false, .bool false, .bool false, .bool false, .slice (some ⟨g, 0, none⟩) 1 1, .slice none 0 0, .slice none 0 0, .slice none 0 0] : List Value), u.oneCell' = true := by simp [Value.oneCell']
set_option maxRecDepth 100000 in
set_option maxHeartbeats 8000000 in
theorem answer_any (ki kp : Int) (kx : ByteArray) (kt : Bool) (mn : ByteArray) (my mc mj mu : Int) (n : Int) (id : Int) (qr : Bool) (w : World) (hk : 0 ≤ ki ∧ ki < 65536)
    (hc : (n = 0 ∧ id = ki ∧ qr = true) ∨ (n = 1 ∧ id = (ki + 1) % 65536 ∧ qr = true) ∨ (n = 3 ∧ id = ki ∧ qr = false)) :
    Calls Try.prog 46 #[.agg #[.int .i64 ki, .int .i64 kp, .string kx, .bool kt, .string mn, .int .i64 my, .int .i64 mc, .int .i64 mj, .int .i64 mu], .int .i64 n] w fun e w' => ∃ gQ, e = .returned (.agg #[.int .i64 id, .int .i64 0, .int .i64 0, .bool qr, .bool false, .bool false, .bool false, .bool false, .slice (some ⟨gQ, 0, none⟩) 1 1, .slice none 0 0, .slice none 0 0, .slice none 0 0]) ∧ RowQs w' (some ⟨gQ, 0, none⟩) 1 [⟨mn, my, mc⟩] ∧ Below w.heap.size w w' := by
  have HK := Lib.hid hk
  have y1 := (Below.refl w.heap.size w).alloc (Nat.le_refl _) (.cells #[.int .i64 ki, .int .i64 kp, .string kx, .bool kt, .string mn, .int .i64 my, .int .i64 mc, .int .i64 mj, .int .i64 mu] 84)
  have m1 := HeldT.new w #[.int .i64 ki, .int .i64 kp, .string kx, .bool kt, .string mn, .int .i64 my, .int .i64 mc, .int .i64 mj, .int .i64 mu] 84
  obtain ⟨u1, hu1⟩ : ∃ z, w.alloc (.cells #[.int .i64 ki, .int .i64 kp, .string kx, .bool kt, .string mn, .int .i64 my, .int .i64 mc, .int .i64 mj, .int .i64 mu] 84) = z := ⟨_, rfl⟩
  have z1 : u1.heap.size = w.heap.size + 1 := by rw [← hu1, World.size_alloc]
  rw [hu1] at y1 m1
  have y2 := (Below.refl u1.heap.size u1).alloc (Nat.le_refl _) (.cells #[.int .i64 0, .int .i64 0, .int .i64 0, .bool false, .bool false, .bool false, .bool false, .bool false, .slice none 0 0, .slice none 0 0, .slice none 0 0, .slice none 0 0] 75)
  have m2 := m1.below y2
  have x2 := HeldT.new u1 #[.int .i64 0, .int .i64 0, .int .i64 0, .bool false, .bool false, .bool false, .bool false, .bool false, .slice none 0 0, .slice none 0 0, .slice none 0 0, .slice none 0 0] 75
  obtain ⟨w1, hw1⟩ : ∃ z, u1.alloc (.cells #[.int .i64 0, .int .i64 0, .int .i64 0, .bool false, .bool false, .bool false, .bool false, .bool false, .slice none 0 0, .slice none 0 0, .slice none 0 0, .slice none 0 0] 75) = z := ⟨_, rfl⟩
  have z2 : w1.heap.size = w.heap.size + 2 := by rw [← hw1, World.size_alloc, z1]
  rw [hw1] at y2 m2 x2
  rw [z1] at x2
  have HB := Lib.hid (y1.trans (y2.mono y1.size))
  have HW0 := Lib.hid (show (w.alloc (.cells #[.int .i64 ki, .int .i64 kp, .string kx, .bool kt, .string mn, .int .i64 my, .int .i64 mc, .int .i64 mj, .int .i64 mu] 84)).alloc (.cells #[.int .i64 0, .int .i64 0, .int .i64 0, .bool false, .bool false, .bool false, .bool false, .bool false, .slice none 0 0, .slice none 0 0, .slice none 0 0, .slice none 0 0] 75) = w1 by rw [hu1, hw1])
  obtain ⟨gR, hgR⟩ : ∃ z, w.heap.size + 1 = z := ⟨_, rfl⟩
  obtain ⟨gA, hgA⟩ : ∃ z, w.heap.size = z := ⟨_, rfl⟩
  rw [hgA] at m2
  rw [hgR] at x2
  have HA := Lib.hid m2
  have HR := Lib.hid x2
  have HGR := Lib.hid hgR
  have HGA := Lib.hid hgA
  have HS := Lib.hid (show w.heap.size ≤ gR ∧ gR < w1.heap.size ∧ w.heap.size ≤ w1.heap.size by omega)
  clear y1 m1 hu1 z1 y2 m2 x2 hw1 hgR hgA z2 hk
  go_enter Try.func46, Try.ntmps46
  go_upto_region 1 with (fail)
  rw [HW0.out, HGR.out, HGA.out]
  clear HW0 HGR HGA
  have a0 := (HA.out.1 0 _ rfl).1
  have a4 := (HA.out.1 4 _ rfl).1
  have a5 := (HA.out.1 5 _ rfl).1
  have a6 := (HA.out.1 6 _ rfl).1
  have v1 := (Below.refl w1.heap.size w1).alloc (Nat.le_refl _) (.cells #[.string mn, .int .i64 my, .int .i64 mc] 66)
  have q1 := HeldT.new w1 #[.string mn, .int .i64 my, .int .i64 mc] 66
  obtain ⟨u1, hu1⟩ : ∃ z, w1.alloc (.cells #[.string mn, .int .i64 my, .int .i64 mc] 66) = z := ⟨_, rfl⟩
  have z1 : u1.heap.size = w1.heap.size + 1 := by rw [← hu1, World.size_alloc]
  rw [hu1] at v1 q1
  have v2 := (Below.refl u1.heap.size u1).alloc (Nat.le_refl _) (.cells #[.int .i64 0, .int .i64 0, .int .i64 0, .bool false, .bool false, .bool false, .bool false, .bool false, .slice none 0 0, .slice none 0 0, .slice none 0 0, .slice none 0 0] 75)
  have q2 := q1.below v2
  have p2 := HeldT.new u1 #[.int .i64 0, .int .i64 0, .int .i64 0, .bool false, .bool false, .bool false, .bool false, .bool false, .slice none 0 0, .slice none 0 0, .slice none 0 0, .slice none 0 0] 75
  obtain ⟨u2, hu2⟩ : ∃ z, u1.alloc (.cells #[.int .i64 0, .int .i64 0, .int .i64 0, .bool false, .bool false, .bool false, .bool false, .bool false, .slice none 0 0, .slice none 0 0, .slice none 0 0, .slice none 0 0] 75) = z := ⟨_, rfl⟩
  rw [hu2] at v2 q2 p2
  rw [z1] at p2
  have hb := v1.trans (v2.mono v1.size)
  replace HR := Lib.hid (HR.out.below hb)
  replace HB := Lib.hid (HB.out.trans (hb.mono HB.out.size))
  have HTH := Lib.hid (show ((w1.alloc (.cells #[.string mn, .int .i64 my, .int .i64 mc] 66)).alloc (.cells #[.int .i64 0, .int .i64 0, .int .i64 0, .bool false, .bool false, .bool false, .bool false, .bool false, .slice none 0 0, .slice none 0 0, .slice none 0 0, .slice none 0 0] 75)).there (w1.heap.size + 1) 0 ([.int .i64 ki, .int .i64 0, .int .i64 0, .bool true, .bool false, .bool false, .bool false, .bool false, .slice (some ⟨w1.heap.size, 0, none⟩) 1 1, .slice none 0 0, .slice none 0 0, .slice none 0 0] : List Value).toArray.size from by
    rw [hu1, hu2]
    intro j hj
    rw [Nat.zero_add]
    have hj9 : j < ([.int .i64 0, .int .i64 0, .int .i64 0, .bool false, .bool false, .bool false, .bool false, .bool false, .slice none 0 0, .slice none 0 0, .slice none 0 0, .slice none 0 0] : List Value).length := hj
    obtain ⟨u, hu⟩ : ∃ u, ([.int .i64 0, .int .i64 0, .int .i64 0, .bool false, .bool false, .bool false, .bool false, .bool false, .slice none 0 0, .slice none 0 0, .slice none 0 0, .slice none 0 0] : List Value)[j]? = some u := ⟨_, List.getElem?_eq_getElem hj9⟩
    obtain ⟨h1, h2⟩ := p2.1 j u hu
    exact ⟨by rw [h1]; rfl, h2⟩)
  have HM := Lib.hid (show HeldT (w1.heap.size + 1) [.int .i64 ki, .int .i64 0, .int .i64 0, .bool true, .bool false, .bool false, .bool false, .bool false, .slice (some ⟨w1.heap.size, 0, none⟩) 1 1, .slice none 0 0, .slice none 0 0, .slice none 0 0] (u2.setCells (w1.heap.size + 1) 0 [.int .i64 ki, .int .i64 0, .int .i64 0, .bool true, .bool false, .bool false, .bool false, .bool false, .slice (some ⟨w1.heap.size, 0, none⟩) 1 1, .slice none 0 0, .slice none 0 0, .slice none 0 0]) from p2.into rfl)
  have HS2 := Lib.hid (show w1.heap.size + 2 ≤ u2.heap.size from by have := p2.2; omega)
  have hfr := (Frm.refl u2 [w1.heap.size + 1]).sets (w1.heap.size + 1) 0 (Or.inl (by simp)) [.int .i64 ki, .int .i64 0, .int .i64 0, .bool true, .bool false, .bool false, .bool false, .bool false, .slice (some ⟨w1.heap.size, 0, none⟩) 1 1, .slice none 0 0, .slice none 0 0, .slice none 0 0]
  have HQ := Lib.hid (q2.frm hfr (by simp))
  replace HR := Lib.hid (HR.out.frm hfr (by simp; have := HS.out; omega))
  replace HB := Lib.hid (tb_sets HB.out (b := w1.heap.size + 1) (by have := HS.out; omega) 0 [.int .i64 ki, .int .i64 0, .int .i64 0, .bool true, .bool false, .bool false, .bool false, .bool false, .slice (some ⟨w1.heap.size, 0, none⟩) 1 1, .slice none 0 0, .slice none 0 0, .slice none 0 0])
  obtain ⟨w2, hw2⟩ : ∃ z, u2.setCells (w1.heap.size + 1) 0 [.int .i64 ki, .int .i64 0, .int .i64 0, .bool true, .bool false, .bool false, .bool false, .bool false, .slice (some ⟨w1.heap.size, 0, none⟩) 1 1, .slice none 0 0, .slice none 0 0, .slice none 0 0] = z := ⟨_, rfl⟩
  rw [hw2] at HM HQ HR HB
  have HW2 := Lib.hid (show ((w1.alloc (.cells #[.string mn, .int .i64 my, .int .i64 mc] 66)).alloc (.cells #[.int .i64 0, .int .i64 0, .int .i64 0, .bool false, .bool false, .bool false, .bool false, .bool false, .slice none 0 0, .slice none 0 0, .slice none 0 0, .slice none 0 0] 75)).setCells (w1.heap.size + 1) 0 ([.int .i64 ki, .int .i64 0, .int .i64 0, .bool true, .bool false, .bool false, .bool false, .bool false, .slice (some ⟨w1.heap.size, 0, none⟩) 1 1, .slice none 0 0, .slice none 0 0, .slice none 0 0] : List Value).toArray.toList = w2 from by rw [hu1, hu2]; exact hw2)
  have HON := Lib.hid (one_x ki true w1.heap.size)
  obtain ⟨gQ, hgQ⟩ : ∃ z, w1.heap.size = z := ⟨_, rfl⟩
  have HGQ := Lib.hid hgQ
  clear v1 q1 hu1 z1 v2 q2 p2 hu2 hb hfr hw2 HA
  rw [hgQ] at HM HQ HS HS2
  clear hgQ
  go_upto_region 2 with (first | (refine wpList_store_mid rfl 75 (.tmp 5) (.tmp 13) rfl _ _ _ rfl rfl HTH.out (by kernel_rfl) (all_oneCell_toArray HON.out) ?_; rw [HW2.out]))
  rw [HGQ.out]
  clear HTH HON HW2 HGQ a0 a4 a5 a6
  rcases hc with ⟨rfl, rfl, rfl⟩ | ⟨rfl, hid, rfl⟩ | ⟨rfl, rfl, rfl⟩
  · skip
    have HRT := Lib.hid (show w2.there gR 0 ([.int .i64 id, .int .i64 0, .int .i64 0, .bool true, .bool false, .bool false, .bool false, .bool false, .slice (some ⟨gQ, 0, none⟩) 1 1, .slice none 0 0, .slice none 0 0, .slice none 0 0] : List Value).toArray.size from fun j hj => by
      rw [Nat.zero_add]
      have hj9 : j < ([.int .i64 0, .int .i64 0, .int .i64 0, .bool false, .bool false, .bool false, .bool false, .bool false, .slice none 0 0, .slice none 0 0, .slice none 0 0, .slice none 0 0] : List Value).length := hj
      obtain ⟨u, hu⟩ : ∃ u, ([.int .i64 0, .int .i64 0, .int .i64 0, .bool false, .bool false, .bool false, .bool false, .bool false, .slice none 0 0, .slice none 0 0, .slice none 0 0, .slice none 0 0] : List Value)[j]? = some u := ⟨_, List.getElem?_eq_getElem hj9⟩
      obtain ⟨h1, h2⟩ := HR.out.1 j u hu
      exact ⟨by rw [h1]; rfl, h2⟩)
    have HBX := Lib.hid (show HeldT gR [.int .i64 id, .int .i64 0, .int .i64 0, .bool true, .bool false, .bool false, .bool false, .bool false, .slice (some ⟨gQ, 0, none⟩) 1 1, .slice none 0 0, .slice none 0 0, .slice none 0 0] (w2.setCells gR 0 [.int .i64 id, .int .i64 0, .int .i64 0, .bool true, .bool false, .bool false, .bool false, .bool false, .slice (some ⟨gQ, 0, none⟩) 1 1, .slice none 0 0, .slice none 0 0, .slice none 0 0]) from HR.out.into rfl)
    have HB9 := Lib.hid (tb_sets HB.out (b := gR) HS.out.1 0 [.int .i64 id, .int .i64 0, .int .i64 0, .bool true, .bool false, .bool false, .bool false, .bool false, .slice (some ⟨gQ, 0, none⟩) 1 1, .slice none 0 0, .slice none 0 0, .slice none 0 0])
    have HQ9 := Lib.hid (HQ.out.frm ((Frm.refl w2 [gR]).sets gR 0 (Or.inl (by simp)) [.int .i64 id, .int .i64 0, .int .i64 0, .bool true, .bool false, .bool false, .bool false, .bool false, .slice (some ⟨gQ, 0, none⟩) 1 1, .slice none 0 0, .slice none 0 0, .slice none 0 0]) (by simp; have := HS.out; omega))
    have HMR := Lib.hid (show w2.rangeAt (gQ + 1) 0 [.int .i64 id, .int .i64 0, .int .i64 0, .bool true, .bool false, .bool false, .bool false, .bool false, .slice (some ⟨gQ, 0, none⟩) 1 1, .slice none 0 0, .slice none 0 0, .slice none 0 0] from fun j v hj => by rw [Nat.zero_add]; exact (HM.out.1 j v hj).1)
    obtain ⟨w9, hw9⟩ : ∃ z, w2.setCells gR 0 [.int .i64 id, .int .i64 0, .int .i64 0, .bool true, .bool false, .bool false, .bool false, .bool false, .slice (some ⟨gQ, 0, none⟩) 1 1, .slice none 0 0, .slice none 0 0, .slice none 0 0] = z := ⟨_, rfl⟩
    rw [hw9] at HBX HB9 HQ9
    have HW9 := Lib.hid (show w2.setCells gR 0 ([.int .i64 id, .int .i64 0, .int .i64 0, .bool true, .bool false, .bool false, .bool false, .bool false, .slice (some ⟨gQ, 0, none⟩) 1 1, .slice none 0 0, .slice none 0 0, .slice none 0 0] : List Value).toArray.toList = w9 from hw9)
    have HON := Lib.hid (one_x (id) true gQ)
    clear hw9
    go_wp2_with (first | (refine wpList_load_mid rfl 75 (.tmp 5) rfl _ _ rfl _ _ HMR.out Try.underlying75 rfl (by kernel_rfl) ?_) | (refine wpList_store_mid rfl 75 (.tmp 4) (.tmp 47) rfl _ _ _ rfl rfl HRT.out (by kernel_rfl) (all_oneCell_toArray HON.out) ?_; rw [HW9.out]))
    refine bodyPost_ret (v := .agg ([.int .i64 id, .int .i64 0, .int .i64 0, .bool true, .bool false, .bool false, .bool false, .bool false, .slice (some ⟨gQ, 0, none⟩) 1 1, .slice none 0 0, .slice none 0 0, .slice none 0 0] : List Value).toArray) ?_ rfl ⟨gQ, rfl, ⟨rfl, Or.inr ⟨gQ, 0, rfl, HQ9.out.2, fun j r hj => by
      have hj0 : j = 0 := by have := (List.getElem?_eq_some_iff.1 hj).1; simp at this; omega
      subst hj0
      obtain rfl := (Option.some.inj hj).symm
      exact ⟨(HQ9.out.1 0 _ rfl).1, (HQ9.out.1 1 _ rfl).1, (HQ9.out.1 2 _ rfl).1⟩⟩⟩, HB9.out⟩
    rw [results_cell1 Try.results46]
    have hr := run_loadVar_mid (P := Try.prog) _ gR 0 75 [.int .i64 id, .int .i64 0, .int .i64 0, .bool true, .bool false, .bool false, .bool false, .bool false, .slice (some ⟨gQ, 0, none⟩) 1 1, .slice none 0 0, .slice none 0 0, .slice none 0 0] _ (fun j v hj => by rw [Nat.zero_add]; exact (HBX.out.1 j v hj).1) Try.underlying75 rfl (by kernel_rfl)
    show ((asAddr (.pointer (some ⟨gR, 0, none⟩))).run Try.prog _).andThen _ = _
    simp [asAddr, hr]
  · skip
    have wa : IntKind.i64.wrap (ki + 1) = ki + 1 := by rw [IntKind.wrap_i64]; have := HK.out; omega
    have wm : bits .and .i64 (ki + 1) 65535 = id := by rw [mask16Q, hid]
    clear hid
    have mf := (HM.out.1 0 _ rfl).2
    have m0 := (HM.out.1 0 _ rfl).1
    replace HM := Lib.hid (show HeldT (gQ + 1) [.int .i64 id, .int .i64 0, .int .i64 0, .bool true, .bool false, .bool false, .bool false, .bool false, .slice (some ⟨gQ, 0, none⟩) 1 1, .slice none 0 0, .slice none 0 0, .slice none 0 0] (w2.setCell ⟨gQ + 1, 0, none⟩ (.int .i64 id)) from HM.out.set (i := 0) (by simp) (.int .i64 id))
    replace HQ := Lib.hid (HQ.out.other (p := gQ + 1) (i := 0) (by omega) (.int .i64 id))
    replace HR := Lib.hid (HR.out.other (p := gQ + 1) (i := 0) (by have := HS.out; omega) (.int .i64 id))
    replace HB := Lib.hid (HB.out.setCell (p := ⟨gQ + 1, 0, none⟩) (by show w.heap.size ≤ gQ + 1; have := HS.out; omega) (.int .i64 id))
    obtain ⟨w3, hw3⟩ : ∃ z, w2.setCell ⟨gQ + 1, 0, none⟩ (.int .i64 id) = z := ⟨_, rfl⟩
    rw [hw3] at HM HQ HR HB
    have HW3 := Lib.hid hw3
    clear hw3
    go_upto_region 11 with (fail)
    rw [HW3.out]
    clear HW3 m0 mf
    have HRT := Lib.hid (show w3.there gR 0 ([.int .i64 id, .int .i64 0, .int .i64 0, .bool true, .bool false, .bool false, .bool false, .bool false, .slice (some ⟨gQ, 0, none⟩) 1 1, .slice none 0 0, .slice none 0 0, .slice none 0 0] : List Value).toArray.size from fun j hj => by
      rw [Nat.zero_add]
      have hj9 : j < ([.int .i64 0, .int .i64 0, .int .i64 0, .bool false, .bool false, .bool false, .bool false, .bool false, .slice none 0 0, .slice none 0 0, .slice none 0 0, .slice none 0 0] : List Value).length := hj
      obtain ⟨u, hu⟩ : ∃ u, ([.int .i64 0, .int .i64 0, .int .i64 0, .bool false, .bool false, .bool false, .bool false, .bool false, .slice none 0 0, .slice none 0 0, .slice none 0 0, .slice none 0 0] : List Value)[j]? = some u := ⟨_, List.getElem?_eq_getElem hj9⟩
      obtain ⟨h1, h2⟩ := HR.out.1 j u hu
      exact ⟨by rw [h1]; rfl, h2⟩)
    have HBX := Lib.hid (show HeldT gR [.int .i64 id, .int .i64 0, .int .i64 0, .bool true, .bool false, .bool false, .bool false, .bool false, .slice (some ⟨gQ, 0, none⟩) 1 1, .slice none 0 0, .slice none 0 0, .slice none 0 0] (w3.setCells gR 0 [.int .i64 id, .int .i64 0, .int .i64 0, .bool true, .bool false, .bool false, .bool false, .bool false, .slice (some ⟨gQ, 0, none⟩) 1 1, .slice none 0 0, .slice none 0 0, .slice none 0 0]) from HR.out.into rfl)
    have HB9 := Lib.hid (tb_sets HB.out (b := gR) HS.out.1 0 [.int .i64 id, .int .i64 0, .int .i64 0, .bool true, .bool false, .bool false, .bool false, .bool false, .slice (some ⟨gQ, 0, none⟩) 1 1, .slice none 0 0, .slice none 0 0, .slice none 0 0])
    have HQ9 := Lib.hid (HQ.out.frm ((Frm.refl w3 [gR]).sets gR 0 (Or.inl (by simp)) [.int .i64 id, .int .i64 0, .int .i64 0, .bool true, .bool false, .bool false, .bool false, .bool false, .slice (some ⟨gQ, 0, none⟩) 1 1, .slice none 0 0, .slice none 0 0, .slice none 0 0]) (by simp; have := HS.out; omega))
    have HMR := Lib.hid (show w3.rangeAt (gQ + 1) 0 [.int .i64 id, .int .i64 0, .int .i64 0, .bool true, .bool false, .bool false, .bool false, .bool false, .slice (some ⟨gQ, 0, none⟩) 1 1, .slice none 0 0, .slice none 0 0, .slice none 0 0] from fun j v hj => by rw [Nat.zero_add]; exact (HM.out.1 j v hj).1)
    obtain ⟨w9, hw9⟩ : ∃ z, w3.setCells gR 0 [.int .i64 id, .int .i64 0, .int .i64 0, .bool true, .bool false, .bool false, .bool false, .bool false, .slice (some ⟨gQ, 0, none⟩) 1 1, .slice none 0 0, .slice none 0 0, .slice none 0 0] = z := ⟨_, rfl⟩
    rw [hw9] at HBX HB9 HQ9
    have HW9 := Lib.hid (show w3.setCells gR 0 ([.int .i64 id, .int .i64 0, .int .i64 0, .bool true, .bool false, .bool false, .bool false, .bool false, .slice (some ⟨gQ, 0, none⟩) 1 1, .slice none 0 0, .slice none 0 0, .slice none 0 0] : List Value).toArray.toList = w9 from hw9)
    have HON := Lib.hid (one_x (id) true gQ)
    clear hw9
    go_wp2_with (first | (refine wpList_load_mid rfl 75 (.tmp 5) rfl _ _ rfl _ _ HMR.out Try.underlying75 rfl (by kernel_rfl) ?_) | (refine wpList_store_mid rfl 75 (.tmp 4) (.tmp 47) rfl _ _ _ rfl rfl HRT.out (by kernel_rfl) (all_oneCell_toArray HON.out) ?_; rw [HW9.out]))
    refine bodyPost_ret (v := .agg ([.int .i64 id, .int .i64 0, .int .i64 0, .bool true, .bool false, .bool false, .bool false, .bool false, .slice (some ⟨gQ, 0, none⟩) 1 1, .slice none 0 0, .slice none 0 0, .slice none 0 0] : List Value).toArray) ?_ rfl ⟨gQ, rfl, ⟨rfl, Or.inr ⟨gQ, 0, rfl, HQ9.out.2, fun j r hj => by
      have hj0 : j = 0 := by have := (List.getElem?_eq_some_iff.1 hj).1; simp at this; omega
      subst hj0
      obtain rfl := (Option.some.inj hj).symm
      exact ⟨(HQ9.out.1 0 _ rfl).1, (HQ9.out.1 1 _ rfl).1, (HQ9.out.1 2 _ rfl).1⟩⟩⟩, HB9.out⟩
    rw [results_cell1 Try.results46]
    have hr := run_loadVar_mid (P := Try.prog) _ gR 0 75 [.int .i64 id, .int .i64 0, .int .i64 0, .bool true, .bool false, .bool false, .bool false, .bool false, .slice (some ⟨gQ, 0, none⟩) 1 1, .slice none 0 0, .slice none 0 0, .slice none 0 0] _ (fun j v hj => by rw [Nat.zero_add]; exact (HBX.out.1 j v hj).1) Try.underlying75 rfl (by kernel_rfl)
    show ((asAddr (.pointer (some ⟨gR, 0, none⟩))).run Try.prog _).andThen _ = _
    simp [asAddr, hr]
  · skip
    have mf := (HM.out.1 3 _ rfl).2
    have m0 := (HM.out.1 3 _ rfl).1
    replace HM := Lib.hid (show HeldT (gQ + 1) [.int .i64 id, .int .i64 0, .int .i64 0, .bool false, .bool false, .bool false, .bool false, .bool false, .slice (some ⟨gQ, 0, none⟩) 1 1, .slice none 0 0, .slice none 0 0, .slice none 0 0] (w2.setCell ⟨gQ + 1, 3, none⟩ (.bool false)) from HM.out.set (i := 3) (by simp) (.bool false))
    replace HQ := Lib.hid (HQ.out.other (p := gQ + 1) (i := 3) (by omega) (.bool false))
    replace HR := Lib.hid (HR.out.other (p := gQ + 1) (i := 3) (by have := HS.out; omega) (.bool false))
    replace HB := Lib.hid (HB.out.setCell (p := ⟨gQ + 1, 3, none⟩) (by show w.heap.size ≤ gQ + 1; have := HS.out; omega) (.bool false))
    obtain ⟨w3, hw3⟩ : ∃ z, w2.setCell ⟨gQ + 1, 3, none⟩ (.bool false) = z := ⟨_, rfl⟩
    rw [hw3] at HM HQ HR HB
    have HW3 := Lib.hid hw3
    clear hw3
    go_upto_region 11 with (fail)
    rw [HW3.out]
    clear HW3 m0 mf
    have HRT := Lib.hid (show w3.there gR 0 ([.int .i64 id, .int .i64 0, .int .i64 0, .bool false, .bool false, .bool false, .bool false, .bool false, .slice (some ⟨gQ, 0, none⟩) 1 1, .slice none 0 0, .slice none 0 0, .slice none 0 0] : List Value).toArray.size from fun j hj => by
      rw [Nat.zero_add]
      have hj9 : j < ([.int .i64 0, .int .i64 0, .int .i64 0, .bool false, .bool false, .bool false, .bool false, .bool false, .slice none 0 0, .slice none 0 0, .slice none 0 0, .slice none 0 0] : List Value).length := hj
      obtain ⟨u, hu⟩ : ∃ u, ([.int .i64 0, .int .i64 0, .int .i64 0, .bool false, .bool false, .bool false, .bool false, .bool false, .slice none 0 0, .slice none 0 0, .slice none 0 0, .slice none 0 0] : List Value)[j]? = some u := ⟨_, List.getElem?_eq_getElem hj9⟩
      obtain ⟨h1, h2⟩ := HR.out.1 j u hu
      exact ⟨by rw [h1]; rfl, h2⟩)
    have HBX := Lib.hid (show HeldT gR [.int .i64 id, .int .i64 0, .int .i64 0, .bool false, .bool false, .bool false, .bool false, .bool false, .slice (some ⟨gQ, 0, none⟩) 1 1, .slice none 0 0, .slice none 0 0, .slice none 0 0] (w3.setCells gR 0 [.int .i64 id, .int .i64 0, .int .i64 0, .bool false, .bool false, .bool false, .bool false, .bool false, .slice (some ⟨gQ, 0, none⟩) 1 1, .slice none 0 0, .slice none 0 0, .slice none 0 0]) from HR.out.into rfl)
    have HB9 := Lib.hid (tb_sets HB.out (b := gR) HS.out.1 0 [.int .i64 id, .int .i64 0, .int .i64 0, .bool false, .bool false, .bool false, .bool false, .bool false, .slice (some ⟨gQ, 0, none⟩) 1 1, .slice none 0 0, .slice none 0 0, .slice none 0 0])
    have HQ9 := Lib.hid (HQ.out.frm ((Frm.refl w3 [gR]).sets gR 0 (Or.inl (by simp)) [.int .i64 id, .int .i64 0, .int .i64 0, .bool false, .bool false, .bool false, .bool false, .bool false, .slice (some ⟨gQ, 0, none⟩) 1 1, .slice none 0 0, .slice none 0 0, .slice none 0 0]) (by simp; have := HS.out; omega))
    have HMR := Lib.hid (show w3.rangeAt (gQ + 1) 0 [.int .i64 id, .int .i64 0, .int .i64 0, .bool false, .bool false, .bool false, .bool false, .bool false, .slice (some ⟨gQ, 0, none⟩) 1 1, .slice none 0 0, .slice none 0 0, .slice none 0 0] from fun j v hj => by rw [Nat.zero_add]; exact (HM.out.1 j v hj).1)
    obtain ⟨w9, hw9⟩ : ∃ z, w3.setCells gR 0 [.int .i64 id, .int .i64 0, .int .i64 0, .bool false, .bool false, .bool false, .bool false, .bool false, .slice (some ⟨gQ, 0, none⟩) 1 1, .slice none 0 0, .slice none 0 0, .slice none 0 0] = z := ⟨_, rfl⟩
    rw [hw9] at HBX HB9 HQ9
    have HW9 := Lib.hid (show w3.setCells gR 0 ([.int .i64 id, .int .i64 0, .int .i64 0, .bool false, .bool false, .bool false, .bool false, .bool false, .slice (some ⟨gQ, 0, none⟩) 1 1, .slice none 0 0, .slice none 0 0, .slice none 0 0] : List Value).toArray.toList = w9 from hw9)
    have HON := Lib.hid (one_x (id) false gQ)
    clear hw9
    go_wp2_with (first | (refine wpList_load_mid rfl 75 (.tmp 5) rfl _ _ rfl _ _ HMR.out Try.underlying75 rfl (by kernel_rfl) ?_) | (refine wpList_store_mid rfl 75 (.tmp 4) (.tmp 47) rfl _ _ _ rfl rfl HRT.out (by kernel_rfl) (all_oneCell_toArray HON.out) ?_; rw [HW9.out]))
    refine bodyPost_ret (v := .agg ([.int .i64 id, .int .i64 0, .int .i64 0, .bool false, .bool false, .bool false, .bool false, .bool false, .slice (some ⟨gQ, 0, none⟩) 1 1, .slice none 0 0, .slice none 0 0, .slice none 0 0] : List Value).toArray) ?_ rfl ⟨gQ, rfl, ⟨rfl, Or.inr ⟨gQ, 0, rfl, HQ9.out.2, fun j r hj => by
      have hj0 : j = 0 := by have := (List.getElem?_eq_some_iff.1 hj).1; simp at this; omega
      subst hj0
      obtain rfl := (Option.some.inj hj).symm
      exact ⟨(HQ9.out.1 0 _ rfl).1, (HQ9.out.1 1 _ rfl).1, (HQ9.out.1 2 _ rfl).1⟩⟩⟩, HB9.out⟩
    rw [results_cell1 Try.results46]
    have hr := run_loadVar_mid (P := Try.prog) _ gR 0 75 [.int .i64 id, .int .i64 0, .int .i64 0, .bool false, .bool false, .bool false, .bool false, .bool false, .slice (some ⟨gQ, 0, none⟩) 1 1, .slice none 0 0, .slice none 0 0, .slice none 0 0] _ (fun j v hj => by rw [Nat.zero_add]; exact (HBX.out.1 j v hj).1) Try.underlying75 rfl (by kernel_rfl)
    show ((asAddr (.pointer (some ⟨gR, 0, none⟩))).run Try.prog _).andThen _ = _
    simp [asAddr, hr]
end Go.Proofs.Ytocfphijheidbaa
end

section
namespace Go.Proofs.Ytocfphijheidbaa
open Go.RowKit

set_option maxRecDepth 100000 in
set_option maxHeartbeats 8000000 in
theorem answer2_any (ki kp : Int) (kx : ByteArray) (kt : Bool) (mn : ByteArray) (my mc mj mu : Int) (ny : Int) (w : World) (hny : IntKind.i64.wrap (my + 1) = ny) :
    Calls Try.prog 46 #[.agg #[.int .i64 ki, .int .i64 kp, .string kx, .bool kt, .string mn, .int .i64 my, .int .i64 mc, .int .i64 mj, .int .i64 mu], .int .i64 2] w fun e w' => ∃ gQ, e = .returned (.agg #[.int .i64 ki, .int .i64 0, .int .i64 0, .bool true, .bool false, .bool false, .bool false, .bool false, .slice (some ⟨gQ, 0, none⟩) 1 1, .slice none 0 0, .slice none 0 0, .slice none 0 0]) ∧ RowQs w' (some ⟨gQ, 0, none⟩) 1 [⟨mn, ny, mc⟩] ∧ Below w.heap.size w w' := by
  have HNY := Lib.hid hny
  have y1 := (Below.refl w.heap.size w).alloc (Nat.le_refl _) (.cells #[.int .i64 ki, .int .i64 kp, .string kx, .bool kt, .string mn, .int .i64 my, .int .i64 mc, .int .i64 mj, .int .i64 mu] 84)
  have m1 := HeldT.new w #[.int .i64 ki, .int .i64 kp, .string kx, .bool kt, .string mn, .int .i64 my, .int .i64 mc, .int .i64 mj, .int .i64 mu] 84
  obtain ⟨u1, hu1⟩ : ∃ z, w.alloc (.cells #[.int .i64 ki, .int .i64 kp, .string kx, .bool kt, .string mn, .int .i64 my, .int .i64 mc, .int .i64 mj, .int .i64 mu] 84) = z := ⟨_, rfl⟩
  have z1 : u1.heap.size = w.heap.size + 1 := by rw [← hu1, World.size_alloc]
  rw [hu1] at y1 m1
  have y2 := (Below.refl u1.heap.size u1).alloc (Nat.le_refl _) (.cells #[.int .i64 0, .int .i64 0, .int .i64 0, .bool false, .bool false, .bool false, .bool false, .bool false, .slice none 0 0, .slice none 0 0, .slice none 0 0, .slice none 0 0] 75)
  have m2 := m1.below y2
  have x2 := HeldT.new u1 #[.int .i64 0, .int .i64 0, .int .i64 0, .bool false, .bool false, .bool false, .bool false, .bool false, .slice none 0 0, .slice none 0 0, .slice none 0 0, .slice none 0 0] 75
  obtain ⟨w1, hw1⟩ : ∃ z, u1.alloc (.cells #[.int .i64 0, .int .i64 0, .int .i64 0, .bool false, .bool false, .bool false, .bool false, .bool false, .slice none 0 0, .slice none 0 0, .slice none 0 0, .slice none 0 0] 75) = z := ⟨_, rfl⟩
  have z2 : w1.heap.size = w.heap.size + 2 := by rw [← hw1, World.size_alloc, z1]
  rw [hw1] at y2 m2 x2
  rw [z1] at x2
  have HB := Lib.hid (y1.trans (y2.mono y1.size))
  have HW0 := Lib.hid (show (w.alloc (.cells #[.int .i64 ki, .int .i64 kp, .string kx, .bool kt, .string mn, .int .i64 my, .int .i64 mc, .int .i64 mj, .int .i64 mu] 84)).alloc (.cells #[.int .i64 0, .int .i64 0, .int .i64 0, .bool false, .bool false, .bool false, .bool false, .bool false, .slice none 0 0, .slice none 0 0, .slice none 0 0, .slice none 0 0] 75) = w1 by rw [hu1, hw1])
  obtain ⟨gR, hgR⟩ : ∃ z, w.heap.size + 1 = z := ⟨_, rfl⟩
  obtain ⟨gA, hgA⟩ : ∃ z, w.heap.size = z := ⟨_, rfl⟩
  rw [hgA] at m2
  rw [hgR] at x2
  have HA := Lib.hid m2
  have HR := Lib.hid x2
  have HGR := Lib.hid hgR
  have HGA := Lib.hid hgA
  have HS := Lib.hid (show w.heap.size ≤ gR ∧ gR < w1.heap.size ∧ w.heap.size ≤ w1.heap.size by omega)
  clear y1 m1 hu1 z1 y2 m2 x2 hw1 hgR hgA z2 hny
  go_enter Try.func46, Try.ntmps46
  go_upto_region 1 with (fail)
  rw [HW0.out, HGR.out, HGA.out]
  clear HW0 HGR HGA
  have a0 := (HA.out.1 0 _ rfl).1
  have a4 := (HA.out.1 4 _ rfl).1
  have a5 := (HA.out.1 5 _ rfl).1
  have a6 := (HA.out.1 6 _ rfl).1
  have v1 := (Below.refl w1.heap.size w1).alloc (Nat.le_refl _) (.cells #[.string mn, .int .i64 my, .int .i64 mc] 66)
  have q1 := HeldT.new w1 #[.string mn, .int .i64 my, .int .i64 mc] 66
  obtain ⟨u1, hu1⟩ : ∃ z, w1.alloc (.cells #[.string mn, .int .i64 my, .int .i64 mc] 66) = z := ⟨_, rfl⟩
  have z1 : u1.heap.size = w1.heap.size + 1 := by rw [← hu1, World.size_alloc]
  rw [hu1] at v1 q1
  have v2 := (Below.refl u1.heap.size u1).alloc (Nat.le_refl _) (.cells #[.int .i64 0, .int .i64 0, .int .i64 0, .bool false, .bool false, .bool false, .bool false, .bool false, .slice none 0 0, .slice none 0 0, .slice none 0 0, .slice none 0 0] 75)
  have q2 := q1.below v2
  have p2 := HeldT.new u1 #[.int .i64 0, .int .i64 0, .int .i64 0, .bool false, .bool false, .bool false, .bool false, .bool false, .slice none 0 0, .slice none 0 0, .slice none 0 0, .slice none 0 0] 75
  obtain ⟨u2, hu2⟩ : ∃ z, u1.alloc (.cells #[.int .i64 0, .int .i64 0, .int .i64 0, .bool false, .bool false, .bool false, .bool false, .bool false, .slice none 0 0, .slice none 0 0, .slice none 0 0, .slice none 0 0] 75) = z := ⟨_, rfl⟩
  rw [hu2] at v2 q2 p2
  rw [z1] at p2
  have hb := v1.trans (v2.mono v1.size)
  replace HR := Lib.hid (HR.out.below hb)
  replace HB := Lib.hid (HB.out.trans (hb.mono HB.out.size))
  have HTH := Lib.hid (show ((w1.alloc (.cells #[.string mn, .int .i64 my, .int .i64 mc] 66)).alloc (.cells #[.int .i64 0, .int .i64 0, .int .i64 0, .bool false, .bool false, .bool false, .bool false, .bool false, .slice none 0 0, .slice none 0 0, .slice none 0 0, .slice none 0 0] 75)).there (w1.heap.size + 1) 0 ([.int .i64 ki, .int .i64 0, .int .i64 0, .bool true, .bool false, .bool false, .bool false, .bool false, .slice (some ⟨w1.heap.size, 0, none⟩) 1 1, .slice none 0 0, .slice none 0 0, .slice none 0 0] : List Value).toArray.size from by
    rw [hu1, hu2]
    intro j hj
    rw [Nat.zero_add]
    have hj9 : j < ([.int .i64 0, .int .i64 0, .int .i64 0, .bool false, .bool false, .bool false, .bool false, .bool false, .slice none 0 0, .slice none 0 0, .slice none 0 0, .slice none 0 0] : List Value).length := hj
    obtain ⟨u, hu⟩ : ∃ u, ([.int .i64 0, .int .i64 0, .int .i64 0, .bool false, .bool false, .bool false, .bool false, .bool false, .slice none 0 0, .slice none 0 0, .slice none 0 0, .slice none 0 0] : List Value)[j]? = some u := ⟨_, List.getElem?_eq_getElem hj9⟩
    obtain ⟨h1, h2⟩ := p2.1 j u hu
    exact ⟨by rw [h1]; rfl, h2⟩)
  have HM := Lib.hid (show HeldT (w1.heap.size + 1) [.int .i64 ki, .int .i64 0, .int .i64 0, .bool true, .bool false, .bool false, .bool false, .bool false, .slice (some ⟨w1.heap.size, 0, none⟩) 1 1, .slice none 0 0, .slice none 0 0, .slice none 0 0] (u2.setCells (w1.heap.size + 1) 0 [.int .i64 ki, .int .i64 0, .int .i64 0, .bool true, .bool false, .bool false, .bool false, .bool false, .slice (some ⟨w1.heap.size, 0, none⟩) 1 1, .slice none 0 0, .slice none 0 0, .slice none 0 0]) from p2.into rfl)
  have HS2 := Lib.hid (show w1.heap.size + 2 ≤ u2.heap.size from by have := p2.2; omega)
  have hfr := (Frm.refl u2 [w1.heap.size + 1]).sets (w1.heap.size + 1) 0 (Or.inl (by simp)) [.int .i64 ki, .int .i64 0, .int .i64 0, .bool true, .bool false, .bool false, .bool false, .bool false, .slice (some ⟨w1.heap.size, 0, none⟩) 1 1, .slice none 0 0, .slice none 0 0, .slice none 0 0]
  have HQ := Lib.hid (q2.frm hfr (by simp))
  replace HR := Lib.hid (HR.out.frm hfr (by simp; have := HS.out; omega))
  replace HB := Lib.hid (tb_sets HB.out (b := w1.heap.size + 1) (by have := HS.out; omega) 0 [.int .i64 ki, .int .i64 0, .int .i64 0, .bool true, .bool false, .bool false, .bool false, .bool false, .slice (some ⟨w1.heap.size, 0, none⟩) 1 1, .slice none 0 0, .slice none 0 0, .slice none 0 0])
  obtain ⟨w2, hw2⟩ : ∃ z, u2.setCells (w1.heap.size + 1) 0 [.int .i64 ki, .int .i64 0, .int .i64 0, .bool true, .bool false, .bool false, .bool false, .bool false, .slice (some ⟨w1.heap.size, 0, none⟩) 1 1, .slice none 0 0, .slice none 0 0, .slice none 0 0] = z := ⟨_, rfl⟩
  rw [hw2] at HM HQ HR HB
  have HW2 := Lib.hid (show ((w1.alloc (.cells #[.string mn, .int .i64 my, .int .i64 mc] 66)).alloc (.cells #[.int .i64 0, .int .i64 0, .int .i64 0, .bool false, .bool false, .bool false, .bool false, .bool false, .slice none 0 0, .slice none 0 0, .slice none 0 0, .slice none 0 0] 75)).setCells (w1.heap.size + 1) 0 ([.int .i64 ki, .int .i64 0, .int .i64 0, .bool true, .bool false, .bool false, .bool false, .bool false, .slice (some ⟨w1.heap.size, 0, none⟩) 1 1, .slice none 0 0, .slice none 0 0, .slice none 0 0] : List Value).toArray.toList = w2 from by rw [hu1, hu2]; exact hw2)
  have HON := Lib.hid (one_x ki true w1.heap.size)
  obtain ⟨gQ, hgQ⟩ : ∃ z, w1.heap.size = z := ⟨_, rfl⟩
  have HGQ := Lib.hid hgQ
  clear v1 q1 hu1 z1 v2 q2 p2 hu2 hb hfr hw2 HA
  rw [hgQ] at HM HQ HS HS2
  clear hgQ
  go_upto_region 2 with (first | (refine wpList_store_mid rfl 75 (.tmp 5) (.tmp 13) rfl _ _ _ rfl rfl HTH.out (by kernel_rfl) (all_oneCell_toArray HON.out) ?_; rw [HW2.out]))
  rw [HGQ.out]
  clear HTH HON HW2 HGQ a0 a4 a5 a6
  have m8 := (HM.out.1 8 _ rfl).1
  have q1 := (HQ.out.1 1 _ rfl).1
  have qf := (HQ.out.1 1 _ rfl).2
  have hny := HNY.out
  replace HQ := Lib.hid (show HeldT gQ [.string mn, .int .i64 ny, .int .i64 mc] (w2.setCell ⟨gQ, 1, none⟩ (.int .i64 ny)) from HQ.out.set (i := 1) (by simp) (.int .i64 ny))
  replace HM := Lib.hid (HM.out.other (p := gQ) (i := 1) (by omega) (.int .i64 ny))
  replace HR := Lib.hid (HR.out.other (p := gQ) (i := 1) (by have := HS.out; omega) (.int .i64 ny))
  replace HB := Lib.hid (HB.out.setCell (p := ⟨gQ, 1, none⟩) (by show w.heap.size ≤ gQ; have := HS.out; omega) (.int .i64 ny))
  obtain ⟨w3, hw3⟩ : ∃ z, w2.setCell ⟨gQ, 1, none⟩ (.int .i64 ny) = z := ⟨_, rfl⟩
  rw [hw3] at HM HQ HR HB
  have HW3 := Lib.hid hw3
  clear hw3
  go_upto_region 11 with (fail)
  rw [HW3.out]
  clear HW3 m8 q1 qf hny
  have HRT := Lib.hid (show w3.there gR 0 ([.int .i64 ki, .int .i64 0, .int .i64 0, .bool true, .bool false, .bool false, .bool false, .bool false, .slice (some ⟨gQ, 0, none⟩) 1 1, .slice none 0 0, .slice none 0 0, .slice none 0 0] : List Value).toArray.size from fun j hj => by
    rw [Nat.zero_add]
    have hj9 : j < ([.int .i64 0, .int .i64 0, .int .i64 0, .bool false, .bool false, .bool false, .bool false, .bool false, .slice none 0 0, .slice none 0 0, .slice none 0 0, .slice none 0 0] : List Value).length := hj
    obtain ⟨u, hu⟩ : ∃ u, ([.int .i64 0, .int .i64 0, .int .i64 0, .bool false, .bool false, .bool false, .bool false, .bool false, .slice none 0 0, .slice none 0 0, .slice none 0 0, .slice none 0 0] : List Value)[j]? = some u := ⟨_, List.getElem?_eq_getElem hj9⟩
    obtain ⟨h1, h2⟩ := HR.out.1 j u hu
    exact ⟨by rw [h1]; rfl, h2⟩)
  have HBX := Lib.hid (show HeldT gR [.int .i64 ki, .int .i64 0, .int .i64 0, .bool true, .bool false, .bool false, .bool false, .bool false, .slice (some ⟨gQ, 0, none⟩) 1 1, .slice none 0 0, .slice none 0 0, .slice none 0 0] (w3.setCells gR 0 [.int .i64 ki, .int .i64 0, .int .i64 0, .bool true, .bool false, .bool false, .bool false, .bool false, .slice (some ⟨gQ, 0, none⟩) 1 1, .slice none 0 0, .slice none 0 0, .slice none 0 0]) from HR.out.into rfl)
  have HB9 := Lib.hid (tb_sets HB.out (b := gR) HS.out.1 0 [.int .i64 ki, .int .i64 0, .int .i64 0, .bool true, .bool false, .bool false, .bool false, .bool false, .slice (some ⟨gQ, 0, none⟩) 1 1, .slice none 0 0, .slice none 0 0, .slice none 0 0])
  have HQ9 := Lib.hid (HQ.out.frm ((Frm.refl w3 [gR]).sets gR 0 (Or.inl (by simp)) [.int .i64 ki, .int .i64 0, .int .i64 0, .bool true, .bool false, .bool false, .bool false, .bool false, .slice (some ⟨gQ, 0, none⟩) 1 1, .slice none 0 0, .slice none 0 0, .slice none 0 0]) (by simp; have := HS.out; omega))
  have HMR := Lib.hid (show w3.rangeAt (gQ + 1) 0 [.int .i64 ki, .int .i64 0, .int .i64 0, .bool true, .bool false, .bool false, .bool false, .bool false, .slice (some ⟨gQ, 0, none⟩) 1 1, .slice none 0 0, .slice none 0 0, .slice none 0 0] from fun j v hj => by rw [Nat.zero_add]; exact (HM.out.1 j v hj).1)
  obtain ⟨w9, hw9⟩ : ∃ z, w3.setCells gR 0 [.int .i64 ki, .int .i64 0, .int .i64 0, .bool true, .bool false, .bool false, .bool false, .bool false, .slice (some ⟨gQ, 0, none⟩) 1 1, .slice none 0 0, .slice none 0 0, .slice none 0 0] = z := ⟨_, rfl⟩
  rw [hw9] at HBX HB9 HQ9
  have HW9 := Lib.hid (show w3.setCells gR 0 ([.int .i64 ki, .int .i64 0, .int .i64 0, .bool true, .bool false, .bool false, .bool false, .bool false, .slice (some ⟨gQ, 0, none⟩) 1 1, .slice none 0 0, .slice none 0 0, .slice none 0 0] : List Value).toArray.toList = w9 from hw9)
  have HON := Lib.hid (one_x (ki) true gQ)
  clear hw9
  go_wp2_with (first | (refine wpList_load_mid rfl 75 (.tmp 5) rfl _ _ rfl _ _ HMR.out Try.underlying75 rfl (by kernel_rfl) ?_) | (refine wpList_store_mid rfl 75 (.tmp 4) (.tmp 47) rfl _ _ _ rfl rfl HRT.out (by kernel_rfl) (all_oneCell_toArray HON.out) ?_; rw [HW9.out]))
  refine bodyPost_ret (v := .agg ([.int .i64 ki, .int .i64 0, .int .i64 0, .bool true, .bool false, .bool false, .bool false, .bool false, .slice (some ⟨gQ, 0, none⟩) 1 1, .slice none 0 0, .slice none 0 0, .slice none 0 0] : List Value).toArray) ?_ rfl ⟨gQ, rfl, ⟨rfl, Or.inr ⟨gQ, 0, rfl, HQ9.out.2, fun j r hj => by
    have hj0 : j = 0 := by have := (List.getElem?_eq_some_iff.1 hj).1; simp at this; omega
    subst hj0
    obtain rfl := (Option.some.inj hj).symm
    exact ⟨(HQ9.out.1 0 _ rfl).1, (HQ9.out.1 1 _ rfl).1, (HQ9.out.1 2 _ rfl).1⟩⟩⟩, HB9.out⟩
  rw [results_cell1 Try.results46]
  have hr := run_loadVar_mid (P := Try.prog) _ gR 0 75 [.int .i64 ki, .int .i64 0, .int .i64 0, .bool true, .bool false, .bool false, .bool false, .bool false, .slice (some ⟨gQ, 0, none⟩) 1 1, .slice none 0 0, .slice none 0 0, .slice none 0 0] _ (fun j v hj => by rw [Nat.zero_add]; exact (HBX.out.1 j v hj).1) Try.underlying75 rfl (by kernel_rfl)
  show ((asAddr (.pointer (some ⟨gR, 0, none⟩))).run Try.prog _).andThen _ = _
  simp [asAddr, hr]
end Go.Proofs.Ytocfphijheidbaa
end

section
namespace Go.Proofs.Ytocfphijheidbaa
open Go.RowKit

theorem one_x4 (i : Int) (b : Bool) (g c : Nat) : ∀ u ∈ ([.int .i64 i, .int .i64 0, .int .i64 0, .bool b, .bool false, .bool false, .bool false, .bool false, .slice (some ⟨g, 0, none⟩) 2 c, .slice none 0 0, .slice none 0 0, .slice none 0 0] : List Value), u.oneCell' = true := by simp [Value.oneCell']
def zQt : Value := .agg #[.string ⟨#[]⟩, .int .i64 0, .int .i64 0]
theorem infoQt : (Try.prog.info? 66).map (fun i => (i.zero, i.size, i.bytes)) = some (some zQt, 3, 32) := by kernel_rfl
set_option maxRecDepth 100000 in
set_option maxHeartbeats 8000000 in
theorem answer4_any (ki kp : Int) (kx : ByteArray) (kt : Bool) (mn : ByteArray) (my mc mj mu : Int) (w : World) :
    Calls Try.prog 46 #[.agg #[.int .i64 ki, .int .i64 kp, .string kx, .bool kt, .string mn, .int .i64 my, .int .i64 mc, .int .i64 mj, .int .i64 mu], .int .i64 4] w fun e w' => ∃ gN cN, e = .returned (.agg #[.int .i64 ki, .int .i64 0, .int .i64 0, .bool true, .bool false, .bool false, .bool false, .bool false, .slice (some ⟨gN, 0, none⟩) 2 cN, .slice none 0 0, .slice none 0 0, .slice none 0 0]) ∧ RowQs w' (some ⟨gN, 0, none⟩) 2 [⟨mn, my, mc⟩, ⟨mn, my, mc⟩] ∧ Below w.heap.size w w' := by
  have y1 := (Below.refl w.heap.size w).alloc (Nat.le_refl _) (.cells #[.int .i64 ki, .int .i64 kp, .string kx, .bool kt, .string mn, .int .i64 my, .int .i64 mc, .int .i64 mj, .int .i64 mu] 84)
  have m1 := HeldT.new w #[.int .i64 ki, .int .i64 kp, .string kx, .bool kt, .string mn, .int .i64 my, .int .i64 mc, .int .i64 mj, .int .i64 mu] 84
  obtain ⟨u1, hu1⟩ : ∃ z, w.alloc (.cells #[.int .i64 ki, .int .i64 kp, .string kx, .bool kt, .string mn, .int .i64 my, .int .i64 mc, .int .i64 mj, .int .i64 mu] 84) = z := ⟨_, rfl⟩
  have z1 : u1.heap.size = w.heap.size + 1 := by rw [← hu1, World.size_alloc]
  rw [hu1] at y1 m1
  have y2 := (Below.refl u1.heap.size u1).alloc (Nat.le_refl _) (.cells #[.int .i64 0, .int .i64 0, .int .i64 0, .bool false, .bool false, .bool false, .bool false, .bool false, .slice none 0 0, .slice none 0 0, .slice none 0 0, .slice none 0 0] 75)
  have m2 := m1.below y2
  have x2 := HeldT.new u1 #[.int .i64 0, .int .i64 0, .int .i64 0, .bool false, .bool false, .bool false, .bool false, .bool false, .slice none 0 0, .slice none 0 0, .slice none 0 0, .slice none 0 0] 75
  obtain ⟨w1, hw1⟩ : ∃ z, u1.alloc (.cells #[.int .i64 0, .int .i64 0, .int .i64 0, .bool false, .bool false, .bool false, .bool false, .bool false, .slice none 0 0, .slice none 0 0, .slice none 0 0, .slice none 0 0] 75) = z := ⟨_, rfl⟩
  have z2 : w1.heap.size = w.heap.size + 2 := by rw [← hw1, World.size_alloc, z1]
  rw [hw1] at y2 m2 x2
  rw [z1] at x2
  have HB := Lib.hid (y1.trans (y2.mono y1.size))
  have HW0 := Lib.hid (show (w.alloc (.cells #[.int .i64 ki, .int .i64 kp, .string kx, .bool kt, .string mn, .int .i64 my, .int .i64 mc, .int .i64 mj, .int .i64 mu] 84)).alloc (.cells #[.int .i64 0, .int .i64 0, .int .i64 0, .bool false, .bool false, .bool false, .bool false, .bool false, .slice none 0 0, .slice none 0 0, .slice none 0 0, .slice none 0 0] 75) = w1 by rw [hu1, hw1])
  obtain ⟨gR, hgR⟩ : ∃ z, w.heap.size + 1 = z := ⟨_, rfl⟩
  obtain ⟨gA, hgA⟩ : ∃ z, w.heap.size = z := ⟨_, rfl⟩
  rw [hgA] at m2
  rw [hgR] at x2
  have HA := Lib.hid m2
  have HR := Lib.hid x2
  have HGR := Lib.hid hgR
  have HGA := Lib.hid hgA
  have HS := Lib.hid (show w.heap.size ≤ gR ∧ gR < w1.heap.size ∧ w.heap.size ≤ w1.heap.size by omega)
  clear y1 m1 hu1 z1 y2 m2 x2 hw1 hgR hgA z2
  go_enter Try.func46, Try.ntmps46
  go_upto_region 1 with (fail)
  rw [HW0.out, HGR.out, HGA.out]
  clear HW0 HGR HGA
  have a0 := (HA.out.1 0 _ rfl).1
  have a4 := (HA.out.1 4 _ rfl).1
  have a5 := (HA.out.1 5 _ rfl).1
  have a6 := (HA.out.1 6 _ rfl).1
  have v1 := (Below.refl w1.heap.size w1).alloc (Nat.le_refl _) (.cells #[.string mn, .int .i64 my, .int .i64 mc] 66)
  have q1 := HeldT.new w1 #[.string mn, .int .i64 my, .int .i64 mc] 66
  obtain ⟨u1, hu1⟩ : ∃ z, w1.alloc (.cells #[.string mn, .int .i64 my, .int .i64 mc] 66) = z := ⟨_, rfl⟩
  have z1 : u1.heap.size = w1.heap.size + 1 := by rw [← hu1, World.size_alloc]
  rw [hu1] at v1 q1
  have v2 := (Below.refl u1.heap.size u1).alloc (Nat.le_refl _) (.cells #[.int .i64 0, .int .i64 0, .int .i64 0, .bool false, .bool false, .bool false, .bool false, .bool false, .slice none 0 0, .slice none 0 0, .slice none 0 0, .slice none 0 0] 75)
  have q2 := q1.below v2
  have o1 := World.ownsRow_lit (base := 0) (size := 3) (e := 66) w1 #[.string mn, .int .i64 my, .int .i64 mc] 1 (Nat.zero_le _) (by decide) rfl
  rw [hu1] at o1
  have p2 := HeldT.new u1 #[.int .i64 0, .int .i64 0, .int .i64 0, .bool false, .bool false, .bool false, .bool false, .bool false, .slice none 0 0, .slice none 0 0, .slice none 0 0, .slice none 0 0] 75
  obtain ⟨u2, hu2⟩ : ∃ z, u1.alloc (.cells #[.int .i64 0, .int .i64 0, .int .i64 0, .bool false, .bool false, .bool false, .bool false, .bool false, .slice none 0 0, .slice none 0 0, .slice none 0 0, .slice none 0 0] 75) = z := ⟨_, rfl⟩
  rw [hu2] at v2 q2 p2
  have o2 := own_kept o1 (fun g hg => v2.block g (o1.lt g hg).2)
  rw [z1] at p2
  have hb := v1.trans (v2.mono v1.size)
  replace HR := Lib.hid (HR.out.below hb)
  replace HB := Lib.hid (HB.out.trans (hb.mono HB.out.size))
  have HTH := Lib.hid (show ((w1.alloc (.cells #[.string mn, .int .i64 my, .int .i64 mc] 66)).alloc (.cells #[.int .i64 0, .int .i64 0, .int .i64 0, .bool false, .bool false, .bool false, .bool false, .bool false, .slice none 0 0, .slice none 0 0, .slice none 0 0, .slice none 0 0] 75)).there (w1.heap.size + 1) 0 ([.int .i64 ki, .int .i64 0, .int .i64 0, .bool true, .bool false, .bool false, .bool false, .bool false, .slice (some ⟨w1.heap.size, 0, none⟩) 1 1, .slice none 0 0, .slice none 0 0, .slice none 0 0] : List Value).toArray.size from by
    rw [hu1, hu2]
    intro j hj
    rw [Nat.zero_add]
    have hj9 : j < ([.int .i64 0, .int .i64 0, .int .i64 0, .bool false, .bool false, .bool false, .bool false, .bool false, .slice none 0 0, .slice none 0 0, .slice none 0 0, .slice none 0 0] : List Value).length := hj
    obtain ⟨u, hu⟩ : ∃ u, ([.int .i64 0, .int .i64 0, .int .i64 0, .bool false, .bool false, .bool false, .bool false, .bool false, .slice none 0 0, .slice none 0 0, .slice none 0 0, .slice none 0 0] : List Value)[j]? = some u := ⟨_, List.getElem?_eq_getElem hj9⟩
    obtain ⟨h1, h2⟩ := p2.1 j u hu
    exact ⟨by rw [h1]; rfl, h2⟩)
  have HM := Lib.hid (show HeldT (w1.heap.size + 1) [.int .i64 ki, .int .i64 0, .int .i64 0, .bool true, .bool false, .bool false, .bool false, .bool false, .slice (some ⟨w1.heap.size, 0, none⟩) 1 1, .slice none 0 0, .slice none 0 0, .slice none 0 0] (u2.setCells (w1.heap.size + 1) 0 [.int .i64 ki, .int .i64 0, .int .i64 0, .bool true, .bool false, .bool false, .bool false, .bool false, .slice (some ⟨w1.heap.size, 0, none⟩) 1 1, .slice none 0 0, .slice none 0 0, .slice none 0 0]) from p2.into rfl)
  have HS2 := Lib.hid (show w1.heap.size + 2 ≤ u2.heap.size from by have := p2.2; omega)
  have hfr := (Frm.refl u2 [w1.heap.size + 1]).sets (w1.heap.size + 1) 0 (Or.inl (by simp)) [.int .i64 ki, .int .i64 0, .int .i64 0, .bool true, .bool false, .bool false, .bool false, .bool false, .slice (some ⟨w1.heap.size, 0, none⟩) 1 1, .slice none 0 0, .slice none 0 0, .slice none 0 0]
  have HQ := Lib.hid (q2.frm hfr (by simp))
  have HO := Lib.hid (own_kept (o2) (fun g hg => hfr.block g (o2.lt g hg).2 (by have h9 : w1.heap.size = g := Option.some.inj hg; simp; omega)))
  replace HA := Lib.hid ((HA.out.below hb).frm hfr (by simp; have := HA.out.2; omega))
  replace HR := Lib.hid (HR.out.frm hfr (by simp; have := HS.out; omega))
  replace HB := Lib.hid (tb_sets HB.out (b := w1.heap.size + 1) (by have := HS.out; omega) 0 [.int .i64 ki, .int .i64 0, .int .i64 0, .bool true, .bool false, .bool false, .bool false, .bool false, .slice (some ⟨w1.heap.size, 0, none⟩) 1 1, .slice none 0 0, .slice none 0 0, .slice none 0 0])
  obtain ⟨w2, hw2⟩ : ∃ z, u2.setCells (w1.heap.size + 1) 0 [.int .i64 ki, .int .i64 0, .int .i64 0, .bool true, .bool false, .bool false, .bool false, .bool false, .slice (some ⟨w1.heap.size, 0, none⟩) 1 1, .slice none 0 0, .slice none 0 0, .slice none 0 0] = z := ⟨_, rfl⟩
  rw [hw2] at HM HQ HR HB HO HA
  have HW2 := Lib.hid (show ((w1.alloc (.cells #[.string mn, .int .i64 my, .int .i64 mc] 66)).alloc (.cells #[.int .i64 0, .int .i64 0, .int .i64 0, .bool false, .bool false, .bool false, .bool false, .bool false, .slice none 0 0, .slice none 0 0, .slice none 0 0, .slice none 0 0] 75)).setCells (w1.heap.size + 1) 0 ([.int .i64 ki, .int .i64 0, .int .i64 0, .bool true, .bool false, .bool false, .bool false, .bool false, .slice (some ⟨w1.heap.size, 0, none⟩) 1 1, .slice none 0 0, .slice none 0 0, .slice none 0 0] : List Value).toArray.toList = w2 from by rw [hu1, hu2]; exact hw2)
  have HON := Lib.hid (one_x ki true w1.heap.size)
  obtain ⟨gQ, hgQ⟩ : ∃ z, w1.heap.size = z := ⟨_, rfl⟩
  have HGQ := Lib.hid hgQ
  clear v1 q1 hu1 z1 v2 q2 p2 hu2 hb hfr hw2 o1 o2
  rw [hgQ] at HM HQ HO HS HS2
  clear hgQ
  go_upto_region 2 with (first | (refine wpList_store_mid rfl 75 (.tmp 5) (.tmp 13) rfl _ _ _ rfl rfl HTH.out (by kernel_rfl) (all_oneCell_toArray HON.out) ?_; rw [HW2.out]))
  rw [HGQ.out]
  clear HTH HON HW2 HGQ a0 a4 a5 a6
  clear HQ
  obtain ⟨i0, hi, hz0, hz1, hz2⟩ := info_parts infoQt
  have HI := Lib.hid hi
  have HZ0 := Lib.hid hz0
  have HZ1 := Lib.hid hz1
  have HZ2 := Lib.hid hz2
  clear hi hz0 hz1 hz2
  go_upto_region 10 with (fail)
  have a4 := (HA.out.1 4 _ rfl).1
  have a5 := (HA.out.1 5 _ rfl).1
  have a6 := (HA.out.1 6 _ rfl).1
  have m8 := (HM.out.1 8 _ rfl).1
  have hal := (Below.refl w2.heap.size w2).alloc (Nat.le_refl _) (.cells #[.string mn, .int .i64 my, .int .i64 mc] 66)
  have HOA := Lib.hid (HO.out.alloc (.cells #[.string mn, .int .i64 my, .int .i64 mc] 66))
  have HMA := Lib.hid (HM.out.below hal)
  have HRA := Lib.hid (HR.out.below hal)
  have HBA := Lib.hid (HB.out.trans (hal.mono HB.out.size))
  have HCA := Lib.hid (show CellsAt (w2.alloc (.cells #[.string mn, .int .i64 my, .int .i64 mc] 66)) (some ⟨w2.heap.size, 0, none⟩) (1 * 3) [.string mn, .int .i64 my, .int .i64 mc] from cells_lit w2 #[.string mn, .int .i64 my, .int .i64 mc] 66)
  have HOQ := Lib.hid (show ∀ u ∈ ([.string mn, .int .i64 my, .int .i64 mc] : List Value), u.oneCell' = true by simp [Value.oneCell'])
  clear hal
  go_wp2_with (refine wpList_append_fr rfl (.tmp 41) (.tmp 44) 72 66 rfl i0 zQt 3 32 Try.underlying72 HI.out HZ0.out HZ1.out HZ2.out rfl (by decide) (.slice (some ⟨gQ, 0, none⟩) 1 1) 1 [.string mn, .int .i64 my, .int .i64 mc] rfl HOA.out ⟨w2.heap.size, 0, none⟩ 1 1 [.string mn, .int .i64 my, .int .i64 mc] rfl HCA.out HOQ.out (by decide) (by decide) ?_)
  intro v' w3 g1 g2 g3
  obtain ⟨gN, cN, rfl, -, -⟩ := g1.form (by decide)
  replace g3 := g3 gN rfl
  have hz : (w2.alloc (.cells #[.string mn, .int .i64 my, .int .i64 mc] 66)).heap.size = w2.heap.size + 1 := World.size_alloc _ _
  have hgn : gN = gQ ∨ w2.heap.size + 1 ≤ gN := g3.imp (fun e => (Option.some.inj e).symm) (fun h => by omega)
  have hm2 := HM.out.2
  have hr2 := HR.out.2
  have hs0 := HS.out
  have HGN := Lib.hid (show gN ≠ gQ + 1 ∧ gN ≠ gR by omega)
  have HM3 := Lib.hid (HMA.out.grown g2 (fun g hg => by have h9 : gQ = g := Option.some.inj hg; omega))
  have HR3 := Lib.hid (HRA.out.grown g2 (fun g hg => by have h9 : gQ = g := Option.some.inj hg; omega))
  have HB3 := Lib.hid (HBA.out.grown g2 HBA.out.size (fun g hg => by have h9 : gQ = g := Option.some.inj hg; omega))
  have HO3 := Lib.hid g1
  clear g1 g2 g3 hz hgn hm2 hr2 hs0 a4 a5 a6 m8 HOA HMA HRA HBA HCA HM HR HB HO HA
  have m8 := (HM3.out.1 8 _ rfl).1
  have mf := (HM3.out.1 8 _ rfl).2
  have HM := Lib.hid (show HeldT (gQ + 1) [.int .i64 ki, .int .i64 0, .int .i64 0, .bool true, .bool false, .bool false, .bool false, .bool false, .slice (some ⟨gN, 0, none⟩) 2 cN, .slice none 0 0, .slice none 0 0, .slice none 0 0] (w3.setCell ⟨gQ + 1, 8, none⟩ (.slice (some ⟨gN, 0, none⟩) 2 cN)) from HM3.out.set (i := 8) (by simp) (.slice (some ⟨gN, 0, none⟩) 2 cN))
  have HR := Lib.hid (HR3.out.other (p := gQ + 1) (i := 8) (by have := HS.out; omega) (.slice (some ⟨gN, 0, none⟩) 2 cN))
  have HB := Lib.hid (HB3.out.setCell (p := ⟨gQ + 1, 8, none⟩) (by show w.heap.size ≤ gQ + 1; have := HS.out; omega) (.slice (some ⟨gN, 0, none⟩) 2 cN))
  have HO := Lib.hid (own_kept HO3.out (w' := w3.setCell ⟨gQ + 1, 8, none⟩ (.slice (some ⟨gN, 0, none⟩) 2 cN)) (fun g hg => by have h9 : gN = g := Option.some.inj hg; exact Below.heap_setCell _ _ _ _ (by have := HGN.out; show g ≠ gQ + 1; omega)))
  obtain ⟨w4, hw4⟩ : ∃ z, w3.setCell ⟨gQ + 1, 8, none⟩ (.slice (some ⟨gN, 0, none⟩) 2 cN) = z := ⟨_, rfl⟩
  rw [hw4] at HM HR HB HO
  have HW4 := Lib.hid hw4
  clear hw4 HM3 HR3 HB3 HO3
  go_upto_region 11 with (fail)
  rw [HW4.out]
  clear HW4 m8 mf
  have HRT := Lib.hid (show w4.there gR 0 ([.int .i64 ki, .int .i64 0, .int .i64 0, .bool true, .bool false, .bool false, .bool false, .bool false, .slice (some ⟨gN, 0, none⟩) 2 cN, .slice none 0 0, .slice none 0 0, .slice none 0 0] : List Value).toArray.size from fun j hj => by
    rw [Nat.zero_add]
    have hj9 : j < ([.int .i64 0, .int .i64 0, .int .i64 0, .bool false, .bool false, .bool false, .bool false, .bool false, .slice none 0 0, .slice none 0 0, .slice none 0 0, .slice none 0 0] : List Value).length := hj
    obtain ⟨u, hu⟩ : ∃ u, ([.int .i64 0, .int .i64 0, .int .i64 0, .bool false, .bool false, .bool false, .bool false, .bool false, .slice none 0 0, .slice none 0 0, .slice none 0 0, .slice none 0 0] : List Value)[j]? = some u := ⟨_, List.getElem?_eq_getElem hj9⟩
    obtain ⟨h1, h2⟩ := HR.out.1 j u hu
    exact ⟨by rw [h1]; rfl, h2⟩)
  have HBX := Lib.hid (show HeldT gR [.int .i64 ki, .int .i64 0, .int .i64 0, .bool true, .bool false, .bool false, .bool false, .bool false, .slice (some ⟨gN, 0, none⟩) 2 cN, .slice none 0 0, .slice none 0 0, .slice none 0 0] (w4.setCells gR 0 [.int .i64 ki, .int .i64 0, .int .i64 0, .bool true, .bool false, .bool false, .bool false, .bool false, .slice (some ⟨gN, 0, none⟩) 2 cN, .slice none 0 0, .slice none 0 0, .slice none 0 0]) from HR.out.into rfl)
  have HB9 := Lib.hid (tb_sets HB.out (b := gR) HS.out.1 0 [.int .i64 ki, .int .i64 0, .int .i64 0, .bool true, .bool false, .bool false, .bool false, .bool false, .slice (some ⟨gN, 0, none⟩) 2 cN, .slice none 0 0, .slice none 0 0, .slice none 0 0])
  have hfr9 := (Frm.refl w4 [gR]).sets gR 0 (Or.inl (by simp)) [.int .i64 ki, .int .i64 0, .int .i64 0, .bool true, .bool false, .bool false, .bool false, .bool false, .slice (some ⟨gN, 0, none⟩) 2 cN, .slice none 0 0, .slice none 0 0, .slice none 0 0]
  have HO9 := Lib.hid (own_kept HO.out (fun g hg => hfr9.block g (HO.out.lt g hg).2 (by have h9 : gN = g := Option.some.inj hg; simp; have := HGN.out; omega)))
  have HMR := Lib.hid (show w4.rangeAt (gQ + 1) 0 [.int .i64 ki, .int .i64 0, .int .i64 0, .bool true, .bool false, .bool false, .bool false, .bool false, .slice (some ⟨gN, 0, none⟩) 2 cN, .slice none 0 0, .slice none 0 0, .slice none 0 0] from fun j v hj => by rw [Nat.zero_add]; exact (HM.out.1 j v hj).1)
  obtain ⟨w9, hw9⟩ : ∃ z, w4.setCells gR 0 [.int .i64 ki, .int .i64 0, .int .i64 0, .bool true, .bool false, .bool false, .bool false, .bool false, .slice (some ⟨gN, 0, none⟩) 2 cN, .slice none 0 0, .slice none 0 0, .slice none 0 0] = z := ⟨_, rfl⟩
  rw [hw9] at HBX HB9 HO9
  have HW9 := Lib.hid (show w4.setCells gR 0 ([.int .i64 ki, .int .i64 0, .int .i64 0, .bool true, .bool false, .bool false, .bool false, .bool false, .slice (some ⟨gN, 0, none⟩) 2 cN, .slice none 0 0, .slice none 0 0, .slice none 0 0] : List Value).toArray.toList = w9 from hw9)
  have HON := Lib.hid (one_x4 ki true gN cN)
  clear hw9 hfr9
  go_wp2_with (first | (refine wpList_load_mid rfl 75 (.tmp 5) rfl _ _ rfl _ _ HMR.out Try.underlying75 rfl (by kernel_rfl) ?_) | (refine wpList_store_mid rfl 75 (.tmp 4) (.tmp 47) rfl _ _ _ rfl rfl HRT.out (by kernel_rfl) (all_oneCell_toArray HON.out) ?_; rw [HW9.out]))
  refine bodyPost_ret (v := .agg ([.int .i64 ki, .int .i64 0, .int .i64 0, .bool true, .bool false, .bool false, .bool false, .bool false, .slice (some ⟨gN, 0, none⟩) 2 cN, .slice none 0 0, .slice none 0 0, .slice none 0 0] : List Value).toArray) ?_ rfl ⟨gN, ⟨cN, rfl⟩, ⟨rfl, Or.inr ⟨gN, 0, rfl, (HO9.out.lt gN rfl).2, fun j r hj => by
    have hc := fun k u hk => ownsRow_at HO9.out k u hk
    match j, hj with
    | 0, hj => obtain rfl := (Option.some.inj hj).symm; exact ⟨hc 0 _ rfl, hc 1 _ rfl, hc 2 _ rfl⟩
    | 1, hj => obtain rfl := (Option.some.inj hj).symm; exact ⟨hc 3 _ rfl, hc 4 _ rfl, hc 5 _ rfl⟩
    | j + 2, hj => simp at hj⟩⟩, HB9.out⟩
  rw [results_cell1 Try.results46]
  have hr := run_loadVar_mid (P := Try.prog) _ gR 0 75 [.int .i64 ki, .int .i64 0, .int .i64 0, .bool true, .bool false, .bool false, .bool false, .bool false, .slice (some ⟨gN, 0, none⟩) 2 cN, .slice none 0 0, .slice none 0 0, .slice none 0 0] _ (fun j v hj => by rw [Nat.zero_add]; exact (HBX.out.1 j v hj).1) Try.underlying75 rfl (by kernel_rfl)
  show ((asAddr (.pointer (some ⟨gR, 0, none⟩))).run Try.prog _).andThen _ = _
  simp [asAddr, hr]
end Go.Proofs.Ytocfphijheidbaa
end
