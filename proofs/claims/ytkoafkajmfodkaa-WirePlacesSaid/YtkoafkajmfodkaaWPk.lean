/- WirePlaces: the walk. -/
import Derived.Test.YtkoafkajmfodkaaWPf
namespace Go.Proofs.Ytkoafkajmfodkaa
open Go.RowKit

set_option maxRecDepth 100000 in
set_option maxHeartbeats 16000000 in
theorem walkPlaces (n m : ByteArray) (id : Int) (w : World) :
    Calls Try.prog 8 #[.string n, .string m, .int .i64 id] w fun e w' => e = .returned (.bool true) ∧ Below w.heap.size w w' := by
  go_enter Try.func8, Try.ntmps8
  go_wp2_with fail
  refine (first5 _).mono ?_; rintro e w2 ⟨rfl, hb⟩
  have HB := Lib.hid hb
  clear hb
  by_cases g0 : 255 < n.size
  · have d0 := dT (p := (255 : Int) < (n.size : Int)) (by omega)
    clear g0
    go_wp2_with fail
    refine (first5 _).mono ?_; rintro e wb ⟨rfl, hb⟩
    have HBB := Lib.hid (HB.out.trans (hb.mono HB.out.size))
    clear hb
    go_wp2
    go_ret
    exact ⟨rfl, HBB.out⟩
  have d0 := dF (p := (255 : Int) < (n.size : Int)) (by omega)
  by_cases g1 : 255 < m.size
  · have d1 := dT (p := (255 : Int) < (m.size : Int)) (by omega)
    clear g1
    go_wp2_with fail
    refine (first5 _).mono ?_; rintro e wb ⟨rfl, hb⟩
    have HBB := Lib.hid (HB.out.trans (hb.mono HB.out.size))
    clear hb
    go_wp2
    go_ret
    exact ⟨rfl, HBB.out⟩
  have d1 := dF (p := (255 : Int) < (m.size : Int)) (by omega)
  by_cases g2 : id < 0
  · have d2 := dT (p := id < 0) (by omega)
    clear g2
    go_wp2_with fail
    refine (first5 _).mono ?_; rintro e wb ⟨rfl, hb⟩
    have HBB := Lib.hid (HB.out.trans (hb.mono HB.out.size))
    clear hb
    go_wp2
    go_ret
    exact ⟨rfl, HBB.out⟩
  have d2 := dF (p := id < 0) (by omega)
  by_cases g3 : 65535 < id
  · have d3 := dT (p := 65535 < id) (by omega)
    clear g3
    go_wp2_with fail
    refine (first5 _).mono ?_; rintro e wb ⟨rfl, hb⟩
    have HBB := Lib.hid (HB.out.trans (hb.mono HB.out.size))
    clear hb
    go_wp2
    go_ret
    exact ⟨rfl, HBB.out⟩
  have d3 := dF (p := 65535 < id) (by omega)
  have HID := Lib.hid (show inR id 65535 = true by simp [inR]; omega)
  have HI2 := Lib.hid (show 0 ≤ id ∧ id ≤ 65535 by omega)
  have HSZ := Lib.hid (show n.size ≤ 255 ∧ m.size ≤ 255 by omega)
  have HZ1 := Lib.hid (show ∀ r ∈ ([⟨n, 1, 1⟩] : List Ky), r.n.size ≤ 1000000 by intro r hr; obtain rfl : r = _ := (by simpa using hr); show n.size ≤ 1000000; omega)
  have HZ2 := Lib.hid (show ∀ r ∈ ([⟨m, 1, 1⟩] : List Ky), r.n.size ≤ 1000000 by intro r hr; obtain rfl : r = _ := (by simpa using hr); show m.size ≤ 1000000; omega)
  have HZ3 := Lib.hid (show ∀ r ∈ ([⟨n, 1, 1⟩, ⟨m, 1, 1⟩] : List Ky), r.n.size ≤ 1000000 by intro r hr; simp only [List.mem_cons, List.not_mem_nil, or_false] at hr; rcases hr with rfl | rfl <;> first | (show n.size ≤ 1000000; omega) | (show m.size ≤ 1000000; omega))
  have HZ4 := Lib.hid (show ∀ r ∈ ([⟨n, 1, 1⟩, ⟨n, 1, 1⟩] : List Ky), r.n.size ≤ 1000000 by intro r hr; obtain rfl : r = _ := (by simpa using hr); show n.size ≤ 1000000; omega)
  have hb3 := (HB.out.alloc HB.out.size (.cells #[.string n, .int .i64 1, .int .i64 1] 70)).alloc (by have := HB.out.size; simp; omega) (.cells #[.string m, .int .i64 1, .int .i64 1] 70)
  have hqc := (CN.new w2 #[.string n, .int .i64 1, .int .i64 1] 70).below ((Below.refl _ _).alloc (Nat.le_refl _) (.cells #[.string m, .int .i64 1, .int .i64 1] 70))
  have hpc := CN.new (w2.alloc (.cells #[.string n, .int .i64 1, .int .i64 1] 70)) #[.string m, .int .i64 1, .int .i64 1] 70
  rw [World.size_alloc] at hpc
  obtain ⟨w3, hw3⟩ : ∃ x, (w2.alloc (.cells #[.string n, .int .i64 1, .int .i64 1] 70)).alloc (.cells #[.string m, .int .i64 1, .int .i64 1] 70) = x := ⟨_, rfl⟩
  rw [hw3] at hb3 hqc hpc
  have HW3 := Lib.hid hw3
  have HG3 := Lib.hid (show w2.heap.size + 1 + 1 = w3.heap.size by rw [← hw3]; simp)
  have HB0 := Lib.hid hb3
  have HQC := Lib.hid hqc
  have HPC := Lib.hid hpc
  have HBW := Lib.hid (Below.refl w3.heap.size w3)
  clear g0 g1 g2 g3 hb3 hqc hpc hw3 HB
  cases hn : mayN n
  · have E1 := Lib.hid (enc_no (mi := id) (most := 16000) (Q := [⟨n, 1, 1⟩]) (by simp [mayK, hn]))
    have E3 := Lib.hid (enc_no (mi := id) (most := 16000) (Q := [⟨n, 1, 1⟩, ⟨m, 1, 1⟩]) (by simp [mayK, hn]))
    clear hn
    have HB1 := Lib.hid (HBW.out.trans ((Below.refl w3.heap.size w3).alloc (Nat.le_refl _) (.cells #[.string n, .int .i64 1, .int .i64 1] 70) |>.mono HBW.out.size))
    have HQ1 := Lib.hid (lit1_q w3 n 1 1 70)
    clear HBW
    go_wp2_with fail
    rw [HW3.out, HG3.out]
    refine (ask_ex id _ 1 1 [⟨n, 1, 1⟩] _ HQ1.out (fun h => by cases h) (by decide)).mono ?_; rintro e y1 ⟨qa1, qc1, rfl, ho, hb⟩
    have HBW := Lib.hid (HB1.out.trans (hb.mono HB1.out.size))
    have HR1 := Lib.hid (rowQ_own2 ho).1
    clear ho hb HB1 HQ1
    go_wp2_with fail
    refine (encodeQ id 16000 qa1 1 qc1 [⟨n, 1, 1⟩] _ HID.out HR1.out (by decide) HZ1.out).mono ?_; rintro e z1 ⟨v1, rfl, ho, hb⟩
    obtain ⟨s1, c1, rfl, -⟩ := cellsK_own ho
    replace HBW := Lib.hid (HBW.out.trans (hb.mono HBW.out.size))
    obtain ⟨ln1, hln1⟩ : ∃ x, (encL id 16000 [⟨n, 1, 1⟩]).length = x := ⟨_, rfl⟩
    obtain ⟨en1, hen1⟩ : ∃ x, encE id 16000 [⟨n, 1, 1⟩] = x := ⟨_, rfl⟩
    rw [hln1, hen1]
    obtain rfl : 4 = en1 := E1.out.1.symm.trans hen1
    have HLN1 := Lib.hid hln1
    clear ho hb HR1 hln1 hen1
    have HB2 := Lib.hid (HBW.out.trans ((Below.refl z1.heap.size z1).alloc (Nat.le_refl _) (.cells #[.string m, .int .i64 1, .int .i64 1] 70) |>.mono HBW.out.size))
    have HQ2 := Lib.hid (lit1_q z1 m 1 1 70)
    obtain ⟨b0, b1, b2⟩ := cn3 (HPC.out.below HBW.out)
    clear HBW
    go_wp2_with fail
    refine (ask_ex id _ 1 1 [⟨m, 1, 1⟩] _ HQ2.out (fun h => by cases h) (by decide)).mono ?_; rintro e y2 ⟨qa2, qc2, rfl, ho, hb⟩
    clear b0 b1 b2
    have HBW := Lib.hid (HB2.out.trans (hb.mono HB2.out.size))
    have HR2 := Lib.hid (rowQ_own2 ho).1
    clear ho hb HB2 HQ2
    go_wp2_with fail
    refine (encodeQ id 16000 qa2 1 qc2 [⟨m, 1, 1⟩] _ HID.out HR2.out (by decide) HZ2.out).mono ?_; rintro e z2 ⟨v2, rfl, ho, hb⟩
    obtain ⟨s2, c2, rfl, -⟩ := cellsK_own ho
    replace HBW := Lib.hid (HBW.out.trans (hb.mono HBW.out.size))
    obtain ⟨ln2, hln2⟩ : ∃ x, (encL id 16000 [⟨m, 1, 1⟩]).length = x := ⟨_, rfl⟩
    obtain ⟨en2, hen2⟩ : ∃ x, encE id 16000 [⟨m, 1, 1⟩] = x := ⟨_, rfl⟩
    rw [hln2, hen2]
    skip
    have HLN2 := Lib.hid hln2
    clear ho hb HR2 hln2 hen2
    have HB3 := Lib.hid (HBW.out.trans ((Below.refl z2.heap.size z2).alloc (Nat.le_refl _) (.cells #[.string n, .int .i64 1, .int .i64 1, .string m, .int .i64 1, .int .i64 1] 70) |>.mono HBW.out.size))
    have HQ3 := Lib.hid (lit2_q z2 n m 1 1 1 1 70)
    obtain ⟨a0, a1, a2⟩ := cn3 (HQC.out.below HBW.out)
    obtain ⟨b0, b1, b2⟩ := cn3 (HPC.out.below HBW.out)
    clear HBW
    go_wp2_with fail
    refine (ask_ex id _ 2 2 [⟨n, 1, 1⟩, ⟨m, 1, 1⟩] _ HQ3.out (fun h => by cases h) (by decide)).mono ?_; rintro e y3 ⟨qa3, qc3, rfl, ho, hb⟩
    clear a0 a1 a2 b0 b1 b2
    have HBW := Lib.hid (HB3.out.trans (hb.mono HB3.out.size))
    have HR3 := Lib.hid (rowQ_own2 ho).1
    clear ho hb HB3 HQ3
    go_wp2_with fail
    refine (encodeQ id 16000 qa3 2 qc3 [⟨n, 1, 1⟩, ⟨m, 1, 1⟩] _ HID.out HR3.out (by decide) HZ3.out).mono ?_; rintro e z3 ⟨v3, rfl, ho, hb⟩
    obtain ⟨s3, c3, rfl, -⟩ := cellsK_own ho
    replace HBW := Lib.hid (HBW.out.trans (hb.mono HBW.out.size))
    obtain ⟨ln3, hln3⟩ : ∃ x, (encL id 16000 [⟨n, 1, 1⟩, ⟨m, 1, 1⟩]).length = x := ⟨_, rfl⟩
    obtain ⟨en3, hen3⟩ : ∃ x, encE id 16000 [⟨n, 1, 1⟩, ⟨m, 1, 1⟩] = x := ⟨_, rfl⟩
    rw [hln3, hen3]
    obtain rfl : 4 = en3 := E3.out.1.symm.trans hen3
    have HLN3 := Lib.hid hln3
    clear ho hb HR3 hln3 hen3
    have HB4 := Lib.hid (HBW.out.trans ((Below.refl z3.heap.size z3).alloc (Nat.le_refl _) (.cells #[.string n, .int .i64 1, .int .i64 1, .string n, .int .i64 1, .int .i64 1] 70) |>.mono HBW.out.size))
    have HQ4 := Lib.hid (lit2_q z3 n n 1 1 1 1 70)
    obtain ⟨a0, a1, a2⟩ := cn3 (HQC.out.below HBW.out)
    clear HBW
    go_wp2_with fail
    refine (ask_ex id _ 2 2 [⟨n, 1, 1⟩, ⟨n, 1, 1⟩] _ HQ4.out (fun h => by cases h) (by decide)).mono ?_; rintro e y4 ⟨qa4, qc4, rfl, ho, hb⟩
    clear a0 a1 a2 
    have HBW := Lib.hid (HB4.out.trans (hb.mono HB4.out.size))
    have HR4 := Lib.hid (rowQ_own2 ho).1
    clear ho hb HB4 HQ4
    go_wp2_with fail
    refine (encodeQ id 16000 qa4 2 qc4 [⟨n, 1, 1⟩, ⟨n, 1, 1⟩] _ HID.out HR4.out (by decide) HZ4.out).mono ?_; rintro e z4 ⟨v4, rfl, ho, hb⟩
    obtain ⟨s4, c4, rfl, -⟩ := cellsK_own ho
    replace HBW := Lib.hid (HBW.out.trans (hb.mono HBW.out.size))
    obtain ⟨ln4, hln4⟩ : ∃ x, (encL id 16000 [⟨n, 1, 1⟩, ⟨n, 1, 1⟩]).length = x := ⟨_, rfl⟩
    obtain ⟨en4, hen4⟩ : ∃ x, encE id 16000 [⟨n, 1, 1⟩, ⟨n, 1, 1⟩] = x := ⟨_, rfl⟩
    rw [hln4, hen4]
    skip
    have HLN4 := Lib.hid hln4
    clear ho hb HR4 hln4 hen4
    go_wp2_with fail
    refine (first5 _).mono ?_; rintro e wb ⟨rfl, hb⟩
    have HBX := Lib.hid (HB0.out.trans (HBW.out.mono HB0.out.size))
    have HBB := Lib.hid (HBX.out.trans (hb.mono HBX.out.size))
    clear hb
    go_wp2
    go_ret
    exact ⟨rfl, HBB.out⟩
  cases hm : mayN m
  · have E1 := Lib.hid (enc_no (mi := id) (most := 16000) (Q := [⟨m, 1, 1⟩]) (by simp [mayK, hm]))
    have E3 := Lib.hid (enc_no (mi := id) (most := 16000) (Q := [⟨n, 1, 1⟩, ⟨m, 1, 1⟩]) (by simp [mayK, hm]))
    have E0 := Lib.hid (show encE id 16000 [⟨n, 1, 1⟩] = 0 by obtain ⟨_, _, _, hp⟩ := plF hn hn HI2.out; exact hp.a.1)
    clear hn hm
    have HB1 := Lib.hid (HBW.out.trans ((Below.refl w3.heap.size w3).alloc (Nat.le_refl _) (.cells #[.string n, .int .i64 1, .int .i64 1] 70) |>.mono HBW.out.size))
    have HQ1 := Lib.hid (lit1_q w3 n 1 1 70)
    clear HBW
    go_wp2_with fail
    rw [HW3.out, HG3.out]
    refine (ask_ex id _ 1 1 [⟨n, 1, 1⟩] _ HQ1.out (fun h => by cases h) (by decide)).mono ?_; rintro e y1 ⟨qa1, qc1, rfl, ho, hb⟩
    have HBW := Lib.hid (HB1.out.trans (hb.mono HB1.out.size))
    have HR1 := Lib.hid (rowQ_own2 ho).1
    clear ho hb HB1 HQ1
    go_wp2_with fail
    refine (encodeQ id 16000 qa1 1 qc1 [⟨n, 1, 1⟩] _ HID.out HR1.out (by decide) HZ1.out).mono ?_; rintro e z1 ⟨v1, rfl, ho, hb⟩
    obtain ⟨s1, c1, rfl, -⟩ := cellsK_own ho
    replace HBW := Lib.hid (HBW.out.trans (hb.mono HBW.out.size))
    obtain ⟨ln1, hln1⟩ : ∃ x, (encL id 16000 [⟨n, 1, 1⟩]).length = x := ⟨_, rfl⟩
    obtain ⟨en1, hen1⟩ : ∃ x, encE id 16000 [⟨n, 1, 1⟩] = x := ⟨_, rfl⟩
    rw [hln1, hen1]
    obtain rfl : 0 = en1 := E0.out.symm.trans hen1
    have HLN1 := Lib.hid hln1
    clear ho hb HR1 hln1 hen1
    have HB2 := Lib.hid (HBW.out.trans ((Below.refl z1.heap.size z1).alloc (Nat.le_refl _) (.cells #[.string m, .int .i64 1, .int .i64 1] 70) |>.mono HBW.out.size))
    have HQ2 := Lib.hid (lit1_q z1 m 1 1 70)
    obtain ⟨b0, b1, b2⟩ := cn3 (HPC.out.below HBW.out)
    clear HBW
    go_wp2_with fail
    refine (ask_ex id _ 1 1 [⟨m, 1, 1⟩] _ HQ2.out (fun h => by cases h) (by decide)).mono ?_; rintro e y2 ⟨qa2, qc2, rfl, ho, hb⟩
    clear b0 b1 b2
    have HBW := Lib.hid (HB2.out.trans (hb.mono HB2.out.size))
    have HR2 := Lib.hid (rowQ_own2 ho).1
    clear ho hb HB2 HQ2
    go_wp2_with fail
    refine (encodeQ id 16000 qa2 1 qc2 [⟨m, 1, 1⟩] _ HID.out HR2.out (by decide) HZ2.out).mono ?_; rintro e z2 ⟨v2, rfl, ho, hb⟩
    obtain ⟨s2, c2, rfl, -⟩ := cellsK_own ho
    replace HBW := Lib.hid (HBW.out.trans (hb.mono HBW.out.size))
    obtain ⟨ln2, hln2⟩ : ∃ x, (encL id 16000 [⟨m, 1, 1⟩]).length = x := ⟨_, rfl⟩
    obtain ⟨en2, hen2⟩ : ∃ x, encE id 16000 [⟨m, 1, 1⟩] = x := ⟨_, rfl⟩
    rw [hln2, hen2]
    obtain rfl : 4 = en2 := E1.out.1.symm.trans hen2
    have HLN2 := Lib.hid hln2
    clear ho hb HR2 hln2 hen2
    have HB3 := Lib.hid (HBW.out.trans ((Below.refl z2.heap.size z2).alloc (Nat.le_refl _) (.cells #[.string n, .int .i64 1, .int .i64 1, .string m, .int .i64 1, .int .i64 1] 70) |>.mono HBW.out.size))
    have HQ3 := Lib.hid (lit2_q z2 n m 1 1 1 1 70)
    obtain ⟨a0, a1, a2⟩ := cn3 (HQC.out.below HBW.out)
    obtain ⟨b0, b1, b2⟩ := cn3 (HPC.out.below HBW.out)
    clear HBW
    go_wp2_with fail
    refine (ask_ex id _ 2 2 [⟨n, 1, 1⟩, ⟨m, 1, 1⟩] _ HQ3.out (fun h => by cases h) (by decide)).mono ?_; rintro e y3 ⟨qa3, qc3, rfl, ho, hb⟩
    clear a0 a1 a2 b0 b1 b2
    have HBW := Lib.hid (HB3.out.trans (hb.mono HB3.out.size))
    have HR3 := Lib.hid (rowQ_own2 ho).1
    clear ho hb HB3 HQ3
    go_wp2_with fail
    refine (encodeQ id 16000 qa3 2 qc3 [⟨n, 1, 1⟩, ⟨m, 1, 1⟩] _ HID.out HR3.out (by decide) HZ3.out).mono ?_; rintro e z3 ⟨v3, rfl, ho, hb⟩
    obtain ⟨s3, c3, rfl, -⟩ := cellsK_own ho
    replace HBW := Lib.hid (HBW.out.trans (hb.mono HBW.out.size))
    obtain ⟨ln3, hln3⟩ : ∃ x, (encL id 16000 [⟨n, 1, 1⟩, ⟨m, 1, 1⟩]).length = x := ⟨_, rfl⟩
    obtain ⟨en3, hen3⟩ : ∃ x, encE id 16000 [⟨n, 1, 1⟩, ⟨m, 1, 1⟩] = x := ⟨_, rfl⟩
    rw [hln3, hen3]
    obtain rfl : 4 = en3 := E3.out.1.symm.trans hen3
    have HLN3 := Lib.hid hln3
    clear ho hb HR3 hln3 hen3
    have HB4 := Lib.hid (HBW.out.trans ((Below.refl z3.heap.size z3).alloc (Nat.le_refl _) (.cells #[.string n, .int .i64 1, .int .i64 1, .string n, .int .i64 1, .int .i64 1] 70) |>.mono HBW.out.size))
    have HQ4 := Lib.hid (lit2_q z3 n n 1 1 1 1 70)
    obtain ⟨a0, a1, a2⟩ := cn3 (HQC.out.below HBW.out)
    clear HBW
    go_wp2_with fail
    refine (ask_ex id _ 2 2 [⟨n, 1, 1⟩, ⟨n, 1, 1⟩] _ HQ4.out (fun h => by cases h) (by decide)).mono ?_; rintro e y4 ⟨qa4, qc4, rfl, ho, hb⟩
    clear a0 a1 a2 
    have HBW := Lib.hid (HB4.out.trans (hb.mono HB4.out.size))
    have HR4 := Lib.hid (rowQ_own2 ho).1
    clear ho hb HB4 HQ4
    go_wp2_with fail
    refine (encodeQ id 16000 qa4 2 qc4 [⟨n, 1, 1⟩, ⟨n, 1, 1⟩] _ HID.out HR4.out (by decide) HZ4.out).mono ?_; rintro e z4 ⟨v4, rfl, ho, hb⟩
    obtain ⟨s4, c4, rfl, -⟩ := cellsK_own ho
    replace HBW := Lib.hid (HBW.out.trans (hb.mono HBW.out.size))
    obtain ⟨ln4, hln4⟩ : ∃ x, (encL id 16000 [⟨n, 1, 1⟩, ⟨n, 1, 1⟩]).length = x := ⟨_, rfl⟩
    obtain ⟨en4, hen4⟩ : ∃ x, encE id 16000 [⟨n, 1, 1⟩, ⟨n, 1, 1⟩] = x := ⟨_, rfl⟩
    rw [hln4, hen4]
    skip
    have HLN4 := Lib.hid hln4
    clear ho hb HR4 hln4 hen4
    go_wp2_with fail
    refine (first5 _).mono ?_; rintro e wb ⟨rfl, hb⟩
    have HBX := Lib.hid (HB0.out.trans (HBW.out.mono HB0.out.size))
    have HBB := Lib.hid (HBX.out.trans (hb.mono HBX.out.size))
    clear hb
    go_wp2
    go_ret
    exact ⟨rfl, HBB.out⟩
  obtain ⟨kz, kr, nr, hp⟩ := plF hn hm HI2.out
  have HP := Lib.hid hp
  clear hp hn hm
  have HB1 := Lib.hid (HBW.out.trans ((Below.refl w3.heap.size w3).alloc (Nat.le_refl _) (.cells #[.string n, .int .i64 1, .int .i64 1] 70) |>.mono HBW.out.size))
  have HQ1 := Lib.hid (lit1_q w3 n 1 1 70)
  clear HBW
  go_wp2_with fail
  rw [HW3.out, HG3.out]
  refine (ask_ex id _ 1 1 [⟨n, 1, 1⟩] _ HQ1.out (fun h => by cases h) (by decide)).mono ?_; rintro e y1 ⟨qa1, qc1, rfl, ho, hb⟩
  have HBW := Lib.hid (HB1.out.trans (hb.mono HB1.out.size))
  have HR1 := Lib.hid (rowQ_own2 ho).1
  clear ho hb HB1 HQ1
  go_wp2_with fail
  refine (encodeQ id 16000 qa1 1 qc1 [⟨n, 1, 1⟩] _ HID.out HR1.out (by decide) HZ1.out).mono ?_; rintro e z1 ⟨v1, rfl, ho, hb⟩
  obtain ⟨s1, c1, rfl, -⟩ := cellsK_own ho
  replace HBW := Lib.hid (HBW.out.trans (hb.mono HBW.out.size))
  obtain ⟨ln1, hln1⟩ : ∃ x, (encL id 16000 [⟨n, 1, 1⟩]).length = x := ⟨_, rfl⟩
  obtain ⟨en1, hen1⟩ : ∃ x, encE id 16000 [⟨n, 1, 1⟩] = x := ⟨_, rfl⟩
  rw [hln1, hen1]
  obtain rfl : 0 = en1 := HP.out.a.1.symm.trans hen1
  have HLN1 := Lib.hid hln1
  clear ho hb HR1 hln1 hen1
  have HB2 := Lib.hid (HBW.out.trans ((Below.refl z1.heap.size z1).alloc (Nat.le_refl _) (.cells #[.string m, .int .i64 1, .int .i64 1] 70) |>.mono HBW.out.size))
  have HQ2 := Lib.hid (lit1_q z1 m 1 1 70)
  obtain ⟨b0, b1, b2⟩ := cn3 (HPC.out.below HBW.out)
  clear HBW
  go_wp2_with fail
  refine (ask_ex id _ 1 1 [⟨m, 1, 1⟩] _ HQ2.out (fun h => by cases h) (by decide)).mono ?_; rintro e y2 ⟨qa2, qc2, rfl, ho, hb⟩
  clear b0 b1 b2
  have HBW := Lib.hid (HB2.out.trans (hb.mono HB2.out.size))
  have HR2 := Lib.hid (rowQ_own2 ho).1
  clear ho hb HB2 HQ2
  go_wp2_with fail
  refine (encodeQ id 16000 qa2 1 qc2 [⟨m, 1, 1⟩] _ HID.out HR2.out (by decide) HZ2.out).mono ?_; rintro e z2 ⟨v2, rfl, ho, hb⟩
  obtain ⟨s2, c2, rfl, -⟩ := cellsK_own ho
  replace HBW := Lib.hid (HBW.out.trans (hb.mono HBW.out.size))
  obtain ⟨ln2, hln2⟩ : ∃ x, (encL id 16000 [⟨m, 1, 1⟩]).length = x := ⟨_, rfl⟩
  obtain ⟨en2, hen2⟩ : ∃ x, encE id 16000 [⟨m, 1, 1⟩] = x := ⟨_, rfl⟩
  rw [hln2, hen2]
  obtain rfl : 0 = en2 := HP.out.b.1.symm.trans hen2
  have HLN2 := Lib.hid hln2
  clear ho hb HR2 hln2 hen2
  have HB3 := Lib.hid (HBW.out.trans ((Below.refl z2.heap.size z2).alloc (Nat.le_refl _) (.cells #[.string n, .int .i64 1, .int .i64 1, .string m, .int .i64 1, .int .i64 1] 70) |>.mono HBW.out.size))
  have HQ3 := Lib.hid (lit2_q z2 n m 1 1 1 1 70)
  obtain ⟨a0, a1, a2⟩ := cn3 (HQC.out.below HBW.out)
  obtain ⟨b0, b1, b2⟩ := cn3 (HPC.out.below HBW.out)
  clear HBW
  go_wp2_with fail
  refine (ask_ex id _ 2 2 [⟨n, 1, 1⟩, ⟨m, 1, 1⟩] _ HQ3.out (fun h => by cases h) (by decide)).mono ?_; rintro e y3 ⟨qa3, qc3, rfl, ho, hb⟩
  clear a0 a1 a2 b0 b1 b2
  have HBW := Lib.hid (HB3.out.trans (hb.mono HB3.out.size))
  have HR3 := Lib.hid (rowQ_own2 ho).1
  clear ho hb HB3 HQ3
  go_wp2_with fail
  refine (encodeQ id 16000 qa3 2 qc3 [⟨n, 1, 1⟩, ⟨m, 1, 1⟩] _ HID.out HR3.out (by decide) HZ3.out).mono ?_; rintro e z3 ⟨v3, rfl, ho, hb⟩
  obtain ⟨s3, c3, rfl, -⟩ := cellsK_own ho
  replace HBW := Lib.hid (HBW.out.trans (hb.mono HBW.out.size))
  obtain ⟨ln3, hln3⟩ : ∃ x, (encL id 16000 [⟨n, 1, 1⟩, ⟨m, 1, 1⟩]).length = x := ⟨_, rfl⟩
  obtain ⟨en3, hen3⟩ : ∃ x, encE id 16000 [⟨n, 1, 1⟩, ⟨m, 1, 1⟩] = x := ⟨_, rfl⟩
  rw [hln3, hen3]
  obtain rfl : 0 = en3 := HP.out.c.1.symm.trans hen3
  have HLN3 := Lib.hid hln3
  clear ho hb HR3 hln3 hen3
  have HB4 := Lib.hid (HBW.out.trans ((Below.refl z3.heap.size z3).alloc (Nat.le_refl _) (.cells #[.string n, .int .i64 1, .int .i64 1, .string n, .int .i64 1, .int .i64 1] 70) |>.mono HBW.out.size))
  have HQ4 := Lib.hid (lit2_q z3 n n 1 1 1 1 70)
  obtain ⟨a0, a1, a2⟩ := cn3 (HQC.out.below HBW.out)
  clear HBW
  go_wp2_with fail
  refine (ask_ex id _ 2 2 [⟨n, 1, 1⟩, ⟨n, 1, 1⟩] _ HQ4.out (fun h => by cases h) (by decide)).mono ?_; rintro e y4 ⟨qa4, qc4, rfl, ho, hb⟩
  clear a0 a1 a2 
  have HBW := Lib.hid (HB4.out.trans (hb.mono HB4.out.size))
  have HR4 := Lib.hid (rowQ_own2 ho).1
  clear ho hb HB4 HQ4
  go_wp2_with fail
  refine (encodeQ id 16000 qa4 2 qc4 [⟨n, 1, 1⟩, ⟨n, 1, 1⟩] _ HID.out HR4.out (by decide) HZ4.out).mono ?_; rintro e z4 ⟨v4, rfl, ho, hb⟩
  obtain ⟨s4, c4, rfl, -⟩ := cellsK_own ho
  replace HBW := Lib.hid (HBW.out.trans (hb.mono HBW.out.size))
  obtain ⟨ln4, hln4⟩ : ∃ x, (encL id 16000 [⟨n, 1, 1⟩, ⟨n, 1, 1⟩]).length = x := ⟨_, rfl⟩
  obtain ⟨en4, hen4⟩ : ∃ x, encE id 16000 [⟨n, 1, 1⟩, ⟨n, 1, 1⟩] = x := ⟨_, rfl⟩
  rw [hln4, hen4]
  obtain rfl : 0 = en4 := HP.out.d.1.symm.trans hen4
  have HLN4 := Lib.hid hln4
  clear ho hb HR4 hln4 hen4
  obtain ⟨t3, ht3⟩ : ∃ x, ln1 + 4 = x := ⟨_, rfl⟩
  obtain ⟨t4, ht4⟩ : ∃ x, t3 + m.size = x := ⟨_, rfl⟩
  obtain ⟨t6, ht6⟩ : ∃ x, t3 + n.size = x := ⟨_, rfl⟩
  have XT := Lib.hid (show ln1 = 16 + n.size ∧ ln2 = 16 + m.size ∧ ln1 + 4 = t3 ∧ t3 + m.size = t4 ∧ t3 + n.size = t6 ∧ ln3 + kz = 20 + n.size + m.size + (if kr then 1 else 2) ∧ ln4 = 20 + n.size + (if nr then 1 else 2) ∧ n.size ≤ 255 ∧ m.size ≤ 255 from ⟨HLN1.out.symm.trans HP.out.a.2, HLN2.out.symm.trans HP.out.b.2, ht3, ht4, ht6, by rw [← HLN3.out]; exact HP.out.c.2, HLN4.out.symm.trans HP.out.d.2, HSZ.out.1, HSZ.out.2⟩)
  clear ht3 ht4 ht6
  have X3 := Lib.hid (show IntKind.i64.wrap ((ln1 : Int) + 4) = (t3 : Int) by have := XT.out; rw [IntKind.wrap_i64]; omega)
  have X4 := Lib.hid (show IntKind.i64.wrap ((t3 : Int) + (m.size : Int)) = (t4 : Int) by have := XT.out; rw [IntKind.wrap_i64]; omega)
  have X8 := Lib.hid (show IntKind.i64.wrap ((t3 : Int) + (n.size : Int)) = (t6 : Int) by have := XT.out; rw [IntKind.wrap_i64]; omega)
  have x1 : IntKind.i64.wrap (16 + (n.size : Int)) = (ln1 : Int) := by have := XT.out; rw [IntKind.wrap_i64]; omega
  have x2 : IntKind.i64.wrap (16 + (m.size : Int)) = (ln2 : Int) := by have := XT.out; rw [IntKind.wrap_i64]; omega
  have x3 : IntKind.i64.wrap ((ln1 : Int) + 4) = (t3 : Int) := X3.out
  have x4 : IntKind.i64.wrap ((t3 : Int) + (m.size : Int)) = (t4 : Int) := X4.out
  have d4 : decide (t4 < ln3) = false := dF (by have := XT.out; have := HP.out.z; cases kr <;> simp at * <;> omega)
  go_wp2_with fail
  have HRS := Lib.hid (rowS_lit1 z4 m 9)
  have HBY := Lib.hid (HBW.out.trans ((Below.refl z4.heap.size z4).alloc (Nat.le_refl _) (.cells #[.string m] 9) |>.mono HBW.out.size))
  refine (rcommon_any n _ 1 1 [m] _ HRS.out (by decide) (by have := HSZ.out.1; omega) (by intro k hk; obtain rfl : k = 0 := (by omega); show m.size ≤ 1000000; have := HSZ.out.2; omega)).mono ?_; rintro e z5 ⟨rfl, hb⟩
  have HB5 := Lib.hid (HBY.out.trans (hb.mono HBY.out.size))
  clear hb x1 x2 x3 x4 d4
  obtain ⟨ks, hks⟩ : ∃ x, comS n [m] = x := ⟨_, rfl⟩
  rw [hks]
  have HKS := Lib.hid hks
  clear hks
  cases kr <;> cases nr
  · have hr : (ks.toList == [0]) = false := by rw [← HKS.out]; exact HP.out.k.2.1
    have hnr : (n.toList == [0]) = false := HP.out.k.2.2
    have hkz : ks.size = kz := by rw [← HKS.out]; exact HP.out.k.1
    have hz := HP.out.z
    simp at hz
    have hxt := XT.out
    simp at hxt
    obtain ⟨sv, hsv⟩ : ∃ x : Int, IntKind.i64.wrap ((ks.size : Int) - 2) = x := ⟨_, rfl⟩
    have HSV := Lib.hid (show sv = (ks.size : Int) - 2 by rw [← hsv]; exact IntWalk.i64_in _ (by omega))
    obtain ⟨tv, htv⟩ : ∃ x : Int, IntKind.i64.wrap ((n.size : Int) - 2) = x := ⟨_, rfl⟩
    have HTV := Lib.hid (show tv = (n.size : Int) - 2 by rw [← htv]; exact IntWalk.i64_in _ (by omega))
    have x3 : IntKind.i64.wrap ((ln1 : Int) + 4) = (t3 : Int) := X3.out
    have x4 : IntKind.i64.wrap ((t3 : Int) + (m.size : Int)) = (t4 : Int) := X4.out
    have x8 : IntKind.i64.wrap ((t3 : Int) + (n.size : Int)) = (t6 : Int) := X8.out
    have x7 : IntKind.i64.wrap ((t4 : Int) - sv) = (ln3 : Int) := by have := HSV.out; rw [IntKind.wrap_i64]; omega
    have x9 : IntKind.i64.wrap ((t6 : Int) - tv) = (ln4 : Int) := by have := HTV.out; rw [IntKind.wrap_i64]; omega
    clear hkz hz hxt
    go_wp2_with fail
    refine (first5 _).mono ?_; rintro e wb ⟨rfl, hb⟩
    have HBX := Lib.hid (HB0.out.trans (HB5.out.mono HB0.out.size))
    have HBB := Lib.hid (HBX.out.trans (hb.mono HBX.out.size))
    clear hb
    go_wp2
    go_ret
    exact ⟨rfl, HBB.out⟩
  · have hr : (ks.toList == [0]) = false := by rw [← HKS.out]; exact HP.out.k.2.1
    have hnr : (n.toList == [0]) = true := HP.out.k.2.2
    have hkz : ks.size = kz := by rw [← HKS.out]; exact HP.out.k.1
    have hz := HP.out.z
    simp at hz
    have hxt := XT.out
    simp at hxt
    obtain ⟨sv, hsv⟩ : ∃ x : Int, IntKind.i64.wrap ((ks.size : Int) - 2) = x := ⟨_, rfl⟩
    have HSV := Lib.hid (show sv = (ks.size : Int) - 2 by rw [← hsv]; exact IntWalk.i64_in _ (by omega))
    obtain ⟨tv, htv⟩ : ∃ x : Int, IntKind.i64.wrap ((n.size : Int) - 2) = x := ⟨_, rfl⟩
    have HTV := Lib.hid (show tv = (n.size : Int) - 2 by rw [← htv]; exact IntWalk.i64_in _ (by omega))
    have x3 : IntKind.i64.wrap ((ln1 : Int) + 4) = (t3 : Int) := X3.out
    have x4 : IntKind.i64.wrap ((t3 : Int) + (m.size : Int)) = (t4 : Int) := X4.out
    have x8 : IntKind.i64.wrap ((t3 : Int) + (n.size : Int)) = (t6 : Int) := X8.out
    have x7 : IntKind.i64.wrap ((t4 : Int) - sv) = (ln3 : Int) := by have := HSV.out; rw [IntKind.wrap_i64]; omega
    have x9 : IntKind.i64.wrap ((t6 : Int) - 0) = (ln4 : Int) := by have := HTV.out; rw [IntKind.wrap_i64]; omega
    have x9' : IntKind.i64.wrap (t6 : Int) = (ln4 : Int) := by have := HTV.out; rw [IntKind.wrap_i64]; omega
    clear hkz hz hxt
    go_wp2_with fail
    refine (first5 _).mono ?_; rintro e wb ⟨rfl, hb⟩
    have HBX := Lib.hid (HB0.out.trans (HB5.out.mono HB0.out.size))
    have HBB := Lib.hid (HBX.out.trans (hb.mono HBX.out.size))
    clear hb
    go_wp2
    go_ret
    exact ⟨rfl, HBB.out⟩
  · have hr : (ks.toList == [0]) = true := by rw [← HKS.out]; exact HP.out.k.2.1
    have hnr : (n.toList == [0]) = false := HP.out.k.2.2
    have hkz : ks.size = kz := by rw [← HKS.out]; exact HP.out.k.1
    have hz := HP.out.z
    simp at hz
    have hxt := XT.out
    simp at hxt
    obtain ⟨sv, hsv⟩ : ∃ x : Int, IntKind.i64.wrap ((ks.size : Int) - 2) = x := ⟨_, rfl⟩
    have HSV := Lib.hid (show sv = (ks.size : Int) - 2 by rw [← hsv]; exact IntWalk.i64_in _ (by omega))
    obtain ⟨tv, htv⟩ : ∃ x : Int, IntKind.i64.wrap ((n.size : Int) - 2) = x := ⟨_, rfl⟩
    have HTV := Lib.hid (show tv = (n.size : Int) - 2 by rw [← htv]; exact IntWalk.i64_in _ (by omega))
    have x3 : IntKind.i64.wrap ((ln1 : Int) + 4) = (t3 : Int) := X3.out
    have x4 : IntKind.i64.wrap ((t3 : Int) + (m.size : Int)) = (t4 : Int) := X4.out
    have x8 : IntKind.i64.wrap ((t3 : Int) + (n.size : Int)) = (t6 : Int) := X8.out
    have x7 : IntKind.i64.wrap ((t4 : Int) - 0) = (ln3 : Int) := by have := HSV.out; rw [IntKind.wrap_i64]; omega
    have x9 : IntKind.i64.wrap ((t6 : Int) - tv) = (ln4 : Int) := by have := HTV.out; rw [IntKind.wrap_i64]; omega
    have x7' : IntKind.i64.wrap (t4 : Int) = (ln3 : Int) := by have := HSV.out; rw [IntKind.wrap_i64]; omega
    clear hkz hz hxt
    go_wp2_with fail
    refine (first5 _).mono ?_; rintro e wb ⟨rfl, hb⟩
    have HBX := Lib.hid (HB0.out.trans (HB5.out.mono HB0.out.size))
    have HBB := Lib.hid (HBX.out.trans (hb.mono HBX.out.size))
    clear hb
    go_wp2
    go_ret
    exact ⟨rfl, HBB.out⟩
  · have hr : (ks.toList == [0]) = true := by rw [← HKS.out]; exact HP.out.k.2.1
    have hnr : (n.toList == [0]) = true := HP.out.k.2.2
    have hkz : ks.size = kz := by rw [← HKS.out]; exact HP.out.k.1
    have hz := HP.out.z
    simp at hz
    have hxt := XT.out
    simp at hxt
    obtain ⟨sv, hsv⟩ : ∃ x : Int, IntKind.i64.wrap ((ks.size : Int) - 2) = x := ⟨_, rfl⟩
    have HSV := Lib.hid (show sv = (ks.size : Int) - 2 by rw [← hsv]; exact IntWalk.i64_in _ (by omega))
    obtain ⟨tv, htv⟩ : ∃ x : Int, IntKind.i64.wrap ((n.size : Int) - 2) = x := ⟨_, rfl⟩
    have HTV := Lib.hid (show tv = (n.size : Int) - 2 by rw [← htv]; exact IntWalk.i64_in _ (by omega))
    have x3 : IntKind.i64.wrap ((ln1 : Int) + 4) = (t3 : Int) := X3.out
    have x4 : IntKind.i64.wrap ((t3 : Int) + (m.size : Int)) = (t4 : Int) := X4.out
    have x8 : IntKind.i64.wrap ((t3 : Int) + (n.size : Int)) = (t6 : Int) := X8.out
    have x7 : IntKind.i64.wrap ((t4 : Int) - 0) = (ln3 : Int) := by have := HSV.out; rw [IntKind.wrap_i64]; omega
    have x9 : IntKind.i64.wrap ((t6 : Int) - 0) = (ln4 : Int) := by have := HTV.out; rw [IntKind.wrap_i64]; omega
    have x7' : IntKind.i64.wrap (t4 : Int) = (ln3 : Int) := by have := HSV.out; rw [IntKind.wrap_i64]; omega
    have x9' : IntKind.i64.wrap (t6 : Int) = (ln4 : Int) := by have := HTV.out; rw [IntKind.wrap_i64]; omega
    clear hkz hz hxt
    go_wp2_with fail
    refine (first5 _).mono ?_; rintro e wb ⟨rfl, hb⟩
    have HBX := Lib.hid (HB0.out.trans (HB5.out.mono HB0.out.size))
    have HBB := Lib.hid (HBX.out.trans (hb.mono HBX.out.size))
    clear hb
    go_wp2
    go_ret
    exact ⟨rfl, HBB.out⟩
end Go.Proofs.Ytkoafkajmfodkaa
