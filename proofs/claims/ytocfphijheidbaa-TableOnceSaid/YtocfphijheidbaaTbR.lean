/- An answer to a Wait: rhzlaw20.answer for 2 (written by mktbr.py). -/
import Derived.Test.YtocfphijheidbaaTbQ
namespace Go.Proofs.Ytocfphijheidbaa
open Go.RowKit

set_option maxRecDepth 100000 in
set_option maxHeartbeats 8000000 in
theorem answer2_any (ki kp : Int) (kx : ByteArray) (kt : Bool) (mn : ByteArray) (my mc mj mu : Int) (ny : Int) (w : World) (hny : IntKind.i64.wrap (my + 1) = ny) :
    Calls Try.prog 46 #[.agg #[.int .i64 ki, .int .i64 kp, .string kx, .bool kt, .string mn, .int .i64 my, .int .i64 mc, .int .i64 mj, .int .i64 mu], .int .i64 2] w fun e w' => ∃ gQ, e = .returned (.agg #[.int .i64 ki, .int .i64 0, .int .i64 0, .bool true, .bool false, .bool false, .bool false, .bool false, .slice (some ⟨gQ, 0, none⟩) 1 1, .slice none 0 0, .slice none 0 0, .slice none 0 0]) ∧ RowQs w' (some ⟨gQ, 0, none⟩) 1 [⟨mn, ny, mc⟩] ∧ Below w.heap.size w w' := by
  have HNY := Lib.hid hny
  have y1 := (Below.refl w.heap.size w).alloc (Nat.le_refl _) (.cells #[.int .i64 ki, .int .i64 kp, .string kx, .bool kt, .string mn, .int .i64 my, .int .i64 mc, .int .i64 mj, .int .i64 mu] 84)
  have m1 := HeldT.new w #[.int .i64 ki, .int .i64 kp, .string kx, .bool kt, .string mn, .int .i64 my, .int .i64 mc, .int .i64 mj, .int .i64 mu] 84
  obtain ⟨u1, hu1⟩ : ∃ z, w.alloc (.cells #[.int .i64 ki, .int .i64 kp, .string kx, .bool kt, .string mn, .int .i64 my, .int .i64 mc, .int .i64 mj, .int .i64 mu] 84) = z := ⟨_, rfl⟩
  have z1 : u1.heap.size = w.heap.size + 1 := by rw [← hu1, World.size_alloc]
  rw [hu1] at y1 m1
  have y2 := (Below.refl u1.heap.size u1).alloc (Nat.le_refl _) (.cells #[.int .i64 0, .int .i64 0, .int .i64 0, .bool false, .bool false, .bool false, .bool false, .bool false, .slice none 0 0, .slice none 0 0, .slice none 0 0, .slice none 0 0] 75)
  have m2 := m1.below y2
  have x2 := HeldT.new u1 #[.int .i64 0, .int .i64 0, .int .i64 0, .bool false, .bool false, .bool false, .bool false, .bool false, .slice none 0 0, .slice none 0 0, .slice none 0 0, .slice none 0 0] 75
  obtain ⟨w1, hw1⟩ : ∃ z, u1.alloc (.cells #[.int .i64 0, .int .i64 0, .int .i64 0, .bool false, .bool false, .bool false, .bool false, .bool false, .slice none 0 0, .slice none 0 0, .slice none 0 0, .slice none 0 0] 75) = z := ⟨_, rfl⟩
  have z2 : w1.heap.size = w.heap.size + 2 := by rw [← hw1, World.size_alloc, z1]
  rw [hw1] at y2 m2 x2
  rw [z1] at x2
  have HB := Lib.hid (y1.trans (y2.mono y1.size))
  have HW0 := Lib.hid (show (w.alloc (.cells #[.int .i64 ki, .int .i64 kp, .string kx, .bool kt, .string mn, .int .i64 my, .int .i64 mc, .int .i64 mj, .int .i64 mu] 84)).alloc (.cells #[.int .i64 0, .int .i64 0, .int .i64 0, .bool false, .bool false, .bool false, .bool false, .bool false, .slice none 0 0, .slice none 0 0, .slice none 0 0, .slice none 0 0] 75) = w1 by rw [hu1, hw1])
  obtain ⟨gR, hgR⟩ : ∃ z, w.heap.size + 1 = z := ⟨_, rfl⟩
  obtain ⟨gA, hgA⟩ : ∃ z, w.heap.size = z := ⟨_, rfl⟩
  rw [hgA] at m2
  rw [hgR] at x2
  have HA := Lib.hid m2
  have HR := Lib.hid x2
  have HGR := Lib.hid hgR
  have HGA := Lib.hid hgA
  have HS := Lib.hid (show w.heap.size ≤ gR ∧ gR < w1.heap.size ∧ w.heap.size ≤ w1.heap.size by omega)
  clear y1 m1 hu1 z1 y2 m2 x2 hw1 hgR hgA z2 hny
  go_enter Try.func46, Try.ntmps46
  go_upto_region 1 with (fail)
  rw [HW0.out, HGR.out, HGA.out]
  clear HW0 HGR HGA
  have a0 := (HA.out.1 0 _ rfl).1
  have a4 := (HA.out.1 4 _ rfl).1
  have a5 := (HA.out.1 5 _ rfl).1
  have a6 := (HA.out.1 6 _ rfl).1
  have v1 := (Below.refl w1.heap.size w1).alloc (Nat.le_refl _) (.cells #[.string mn, .int .i64 my, .int .i64 mc] 66)
  have q1 := HeldT.new w1 #[.string mn, .int .i64 my, .int .i64 mc] 66
  obtain ⟨u1, hu1⟩ : ∃ z, w1.alloc (.cells #[.string mn, .int .i64 my, .int .i64 mc] 66) = z := ⟨_, rfl⟩
  have z1 : u1.heap.size = w1.heap.size + 1 := by rw [← hu1, World.size_alloc]
  rw [hu1] at v1 q1
  have v2 := (Below.refl u1.heap.size u1).alloc (Nat.le_refl _) (.cells #[.int .i64 0, .int .i64 0, .int .i64 0, .bool false, .bool false, .bool false, .bool false, .bool false, .slice none 0 0, .slice none 0 0, .slice none 0 0, .slice none 0 0] 75)
  have q2 := q1.below v2
  have p2 := HeldT.new u1 #[.int .i64 0, .int .i64 0, .int .i64 0, .bool false, .bool false, .bool false, .bool false, .bool false, .slice none 0 0, .slice none 0 0, .slice none 0 0, .slice none 0 0] 75
  obtain ⟨u2, hu2⟩ : ∃ z, u1.alloc (.cells #[.int .i64 0, .int .i64 0, .int .i64 0, .bool false, .bool false, .bool false, .bool false, .bool false, .slice none 0 0, .slice none 0 0, .slice none 0 0, .slice none 0 0] 75) = z := ⟨_, rfl⟩
  rw [hu2] at v2 q2 p2
  rw [z1] at p2
  have hb := v1.trans (v2.mono v1.size)
  replace HR := Lib.hid (HR.out.below hb)
  replace HB := Lib.hid (HB.out.trans (hb.mono HB.out.size))
  have HTH := Lib.hid (show ((w1.alloc (.cells #[.string mn, .int .i64 my, .int .i64 mc] 66)).alloc (.cells #[.int .i64 0, .int .i64 0, .int .i64 0, .bool false, .bool false, .bool false, .bool false, .bool false, .slice none 0 0, .slice none 0 0, .slice none 0 0, .slice none 0 0] 75)).there (w1.heap.size + 1) 0 ([.int .i64 ki, .int .i64 0, .int .i64 0, .bool true, .bool false, .bool false, .bool false, .bool false, .slice (some ⟨w1.heap.size, 0, none⟩) 1 1, .slice none 0 0, .slice none 0 0, .slice none 0 0] : List Value).toArray.size from by
    rw [hu1, hu2]
    intro j hj
    rw [Nat.zero_add]
    have hj9 : j < ([.int .i64 0, .int .i64 0, .int .i64 0, .bool false, .bool false, .bool false, .bool false, .bool false, .slice none 0 0, .slice none 0 0, .slice none 0 0, .slice none 0 0] : List Value).length := hj
    obtain ⟨u, hu⟩ : ∃ u, ([.int .i64 0, .int .i64 0, .int .i64 0, .bool false, .bool false, .bool false, .bool false, .bool false, .slice none 0 0, .slice none 0 0, .slice none 0 0, .slice none 0 0] : List Value)[j]? = some u := ⟨_, List.getElem?_eq_getElem hj9⟩
    obtain ⟨h1, h2⟩ := p2.1 j u hu
    exact ⟨by rw [h1]; rfl, h2⟩)
  have HM := Lib.hid (show HeldT (w1.heap.size + 1) [.int .i64 ki, .int .i64 0, .int .i64 0, .bool true, .bool false, .bool false, .bool false, .bool false, .slice (some ⟨w1.heap.size, 0, none⟩) 1 1, .slice none 0 0, .slice none 0 0, .slice none 0 0] (u2.setCells (w1.heap.size + 1) 0 [.int .i64 ki, .int .i64 0, .int .i64 0, .bool true, .bool false, .bool false, .bool false, .bool false, .slice (some ⟨w1.heap.size, 0, none⟩) 1 1, .slice none 0 0, .slice none 0 0, .slice none 0 0]) from p2.into rfl)
  have HS2 := Lib.hid (show w1.heap.size + 2 ≤ u2.heap.size from by have := p2.2; omega)
  have hfr := (Frm.refl u2 [w1.heap.size + 1]).sets (w1.heap.size + 1) 0 (Or.inl (by simp)) [.int .i64 ki, .int .i64 0, .int .i64 0, .bool true, .bool false, .bool false, .bool false, .bool false, .slice (some ⟨w1.heap.size, 0, none⟩) 1 1, .slice none 0 0, .slice none 0 0, .slice none 0 0]
  have HQ := Lib.hid (q2.frm hfr (by simp))
  replace HR := Lib.hid (HR.out.frm hfr (by simp; have := HS.out; omega))
  replace HB := Lib.hid (tb_sets HB.out (b := w1.heap.size + 1) (by have := HS.out; omega) 0 [.int .i64 ki, .int .i64 0, .int .i64 0, .bool true, .bool false, .bool false, .bool false, .bool false, .slice (some ⟨w1.heap.size, 0, none⟩) 1 1, .slice none 0 0, .slice none 0 0, .slice none 0 0])
  obtain ⟨w2, hw2⟩ : ∃ z, u2.setCells (w1.heap.size + 1) 0 [.int .i64 ki, .int .i64 0, .int .i64 0, .bool true, .bool false, .bool false, .bool false, .bool false, .slice (some ⟨w1.heap.size, 0, none⟩) 1 1, .slice none 0 0, .slice none 0 0, .slice none 0 0] = z := ⟨_, rfl⟩
  rw [hw2] at HM HQ HR HB
  have HW2 := Lib.hid (show ((w1.alloc (.cells #[.string mn, .int .i64 my, .int .i64 mc] 66)).alloc (.cells #[.int .i64 0, .int .i64 0, .int .i64 0, .bool false, .bool false, .bool false, .bool false, .bool false, .slice none 0 0, .slice none 0 0, .slice none 0 0, .slice none 0 0] 75)).setCells (w1.heap.size + 1) 0 ([.int .i64 ki, .int .i64 0, .int .i64 0, .bool true, .bool false, .bool false, .bool false, .bool false, .slice (some ⟨w1.heap.size, 0, none⟩) 1 1, .slice none 0 0, .slice none 0 0, .slice none 0 0] : List Value).toArray.toList = w2 from by rw [hu1, hu2]; exact hw2)
  have HON := Lib.hid (one_x ki true w1.heap.size)
  obtain ⟨gQ, hgQ⟩ : ∃ z, w1.heap.size = z := ⟨_, rfl⟩
  have HGQ := Lib.hid hgQ
  clear v1 q1 hu1 z1 v2 q2 p2 hu2 hb hfr hw2 HA
  rw [hgQ] at HM HQ HS HS2
  clear hgQ
  go_upto_region 2 with (first | (refine wpList_store_mid rfl 75 (.tmp 5) (.tmp 13) rfl _ _ _ rfl rfl HTH.out (by kernel_rfl) (all_oneCell_toArray HON.out) ?_; rw [HW2.out]))
  rw [HGQ.out]
  clear HTH HON HW2 HGQ a0 a4 a5 a6
  have m8 := (HM.out.1 8 _ rfl).1
  have q1 := (HQ.out.1 1 _ rfl).1
  have qf := (HQ.out.1 1 _ rfl).2
  have hny := HNY.out
  replace HQ := Lib.hid (show HeldT gQ [.string mn, .int .i64 ny, .int .i64 mc] (w2.setCell ⟨gQ, 1, none⟩ (.int .i64 ny)) from HQ.out.set (i := 1) (by simp) (.int .i64 ny))
  replace HM := Lib.hid (HM.out.other (p := gQ) (i := 1) (by omega) (.int .i64 ny))
  replace HR := Lib.hid (HR.out.other (p := gQ) (i := 1) (by have := HS.out; omega) (.int .i64 ny))
  replace HB := Lib.hid (HB.out.setCell (p := ⟨gQ, 1, none⟩) (by show w.heap.size ≤ gQ; have := HS.out; omega) (.int .i64 ny))
  obtain ⟨w3, hw3⟩ : ∃ z, w2.setCell ⟨gQ, 1, none⟩ (.int .i64 ny) = z := ⟨_, rfl⟩
  rw [hw3] at HM HQ HR HB
  have HW3 := Lib.hid hw3
  clear hw3
  go_upto_region 11 with (fail)
  rw [HW3.out]
  clear HW3 m8 q1 qf hny
  have HRT := Lib.hid (show w3.there gR 0 ([.int .i64 ki, .int .i64 0, .int .i64 0, .bool true, .bool false, .bool false, .bool false, .bool false, .slice (some ⟨gQ, 0, none⟩) 1 1, .slice none 0 0, .slice none 0 0, .slice none 0 0] : List Value).toArray.size from fun j hj => by
    rw [Nat.zero_add]
    have hj9 : j < ([.int .i64 0, .int .i64 0, .int .i64 0, .bool false, .bool false, .bool false, .bool false, .bool false, .slice none 0 0, .slice none 0 0, .slice none 0 0, .slice none 0 0] : List Value).length := hj
    obtain ⟨u, hu⟩ : ∃ u, ([.int .i64 0, .int .i64 0, .int .i64 0, .bool false, .bool false, .bool false, .bool false, .bool false, .slice none 0 0, .slice none 0 0, .slice none 0 0, .slice none 0 0] : List Value)[j]? = some u := ⟨_, List.getElem?_eq_getElem hj9⟩
    obtain ⟨h1, h2⟩ := HR.out.1 j u hu
    exact ⟨by rw [h1]; rfl, h2⟩)
  have HBX := Lib.hid (show HeldT gR [.int .i64 ki, .int .i64 0, .int .i64 0, .bool true, .bool false, .bool false, .bool false, .bool false, .slice (some ⟨gQ, 0, none⟩) 1 1, .slice none 0 0, .slice none 0 0, .slice none 0 0] (w3.setCells gR 0 [.int .i64 ki, .int .i64 0, .int .i64 0, .bool true, .bool false, .bool false, .bool false, .bool false, .slice (some ⟨gQ, 0, none⟩) 1 1, .slice none 0 0, .slice none 0 0, .slice none 0 0]) from HR.out.into rfl)
  have HB9 := Lib.hid (tb_sets HB.out (b := gR) HS.out.1 0 [.int .i64 ki, .int .i64 0, .int .i64 0, .bool true, .bool false, .bool false, .bool false, .bool false, .slice (some ⟨gQ, 0, none⟩) 1 1, .slice none 0 0, .slice none 0 0, .slice none 0 0])
  have HQ9 := Lib.hid (HQ.out.frm ((Frm.refl w3 [gR]).sets gR 0 (Or.inl (by simp)) [.int .i64 ki, .int .i64 0, .int .i64 0, .bool true, .bool false, .bool false, .bool false, .bool false, .slice (some ⟨gQ, 0, none⟩) 1 1, .slice none 0 0, .slice none 0 0, .slice none 0 0]) (by simp; have := HS.out; omega))
  have HMR := Lib.hid (show w3.rangeAt (gQ + 1) 0 [.int .i64 ki, .int .i64 0, .int .i64 0, .bool true, .bool false, .bool false, .bool false, .bool false, .slice (some ⟨gQ, 0, none⟩) 1 1, .slice none 0 0, .slice none 0 0, .slice none 0 0] from fun j v hj => by rw [Nat.zero_add]; exact (HM.out.1 j v hj).1)
  obtain ⟨w9, hw9⟩ : ∃ z, w3.setCells gR 0 [.int .i64 ki, .int .i64 0, .int .i64 0, .bool true, .bool false, .bool false, .bool false, .bool false, .slice (some ⟨gQ, 0, none⟩) 1 1, .slice none 0 0, .slice none 0 0, .slice none 0 0] = z := ⟨_, rfl⟩
  rw [hw9] at HBX HB9 HQ9
  have HW9 := Lib.hid (show w3.setCells gR 0 ([.int .i64 ki, .int .i64 0, .int .i64 0, .bool true, .bool false, .bool false, .bool false, .bool false, .slice (some ⟨gQ, 0, none⟩) 1 1, .slice none 0 0, .slice none 0 0, .slice none 0 0] : List Value).toArray.toList = w9 from hw9)
  have HON := Lib.hid (one_x (ki) true gQ)
  clear hw9
  go_wp2_with (first | (refine wpList_load_mid rfl 75 (.tmp 5) rfl _ _ rfl _ _ HMR.out Try.underlying75 rfl (by kernel_rfl) ?_) | (refine wpList_store_mid rfl 75 (.tmp 4) (.tmp 47) rfl _ _ _ rfl rfl HRT.out (by kernel_rfl) (all_oneCell_toArray HON.out) ?_; rw [HW9.out]))
  refine bodyPost_ret (v := .agg ([.int .i64 ki, .int .i64 0, .int .i64 0, .bool true, .bool false, .bool false, .bool false, .bool false, .slice (some ⟨gQ, 0, none⟩) 1 1, .slice none 0 0, .slice none 0 0, .slice none 0 0] : List Value).toArray) ?_ rfl ⟨gQ, rfl, ⟨rfl, Or.inr ⟨gQ, 0, rfl, HQ9.out.2, fun j r hj => by
    have hj0 : j = 0 := by have := (List.getElem?_eq_some_iff.1 hj).1; simp at this; omega
    subst hj0
    obtain rfl := (Option.some.inj hj).symm
    exact ⟨(HQ9.out.1 0 _ rfl).1, (HQ9.out.1 1 _ rfl).1, (HQ9.out.1 2 _ rfl).1⟩⟩⟩, HB9.out⟩
  rw [results_cell1 Try.results46]
  have hr := run_loadVar_mid (P := Try.prog) _ gR 0 75 [.int .i64 ki, .int .i64 0, .int .i64 0, .bool true, .bool false, .bool false, .bool false, .bool false, .slice (some ⟨gQ, 0, none⟩) 1 1, .slice none 0 0, .slice none 0 0, .slice none 0 0] _ (fun j v hj => by rw [Nat.zero_add]; exact (HBX.out.1 j v hj).1) Try.underlying75 rfl (by kernel_rfl)
  show ((asAddr (.pointer (some ⟨gR, 0, none⟩))).run Try.prog _).andThen _ = _
  simp [asAddr, hr]
end Go.Proofs.Ytocfphijheidbaa
