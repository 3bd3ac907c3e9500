/- NumSums: the walk. -/
import Derived.Test.YtcpihfkhhmggfaaNumK
import Derived.Test.YtcpihfkhhmggfaaNumE
namespace Go.Proofs.Ytcpihfkhhmggfaa
open Go.RowKit

theorem fill_step (f : Nat → UInt8) (n k : Nat) (h : k < n) (v : Value) (hv : v = .int .u8 ((f k).toNat : Int)) :
    (bc ((List.range k).map f ++ List.replicate (n - k) 0)).set k v = bc ((List.range (k + 1)).map f ++ List.replicate (n - (k + 1)) 0) := by
  have e : n - k = (n - (k + 1)) + 1 := by omega
  rw [e, List.replicate_succ, List.range_succ, List.map_append, bc_append, bc_append, List.set_append_right _ _ (by simp [bc_length])]
  simp [bc, hv]

def dB (a b c : ByteArray) (i : Nat) : UInt8 := UInt8.ofNat (byteAt a i ^^^ byteAt b i ^^^ byteAt c i)
theorem xor_lt8 {a b : Nat} (ha : a < 256) (hb : b < 256) : a ^^^ b < 256 := Nat.xor_lt_two_pow (n := 8) ha hb
theorem dB_toNat (a b c : ByteArray) (i : Nat) : (dB a b c i).toNat = byteAt a i ^^^ byteAt b i ^^^ byteAt c i := by
  unfold dB
  exact UInt8.toNat_ofNat_of_lt' (xor_lt8 (xor_lt8 (byteAt_lt a i) (byteAt_lt b i)) (byteAt_lt c i))

theorem crc_d (a b c : ByteArray) (hb : b.size = a.size) (hc : c.size = a.size) : crcN (bs ((List.range a.size).map (dB a b c))) = crcN a ^^^ crcN b ^^^ crcN c := by
  have hs : (bs ((List.range a.size).map (dB a b c))).size = a.size := by rw [bs_size]; simp
  refine crc_xor3 _ a b c hs.symm (by omega) (by omega) ?_
  intro i hi
  rw [hs] at hi
  rw [byteAt_bs', ← dB_toNat]
  simp [List.getD_eq_getElem?_getD, hi]
where byteAt_bs' {l : List UInt8} {i : Nat} : byteAt (bs l) i = (l.getD i 0).toNat := rfl

theorem crc_t (a : ByteArray) (k : Nat) (hk : k < a.size) (q : UInt8) (hq : q.toNat ≠ byteAt a k) : crcN (bs (a.data.toList.set k q)) ≠ crcN a := by
  have hl : a.data.toList.length = a.size := by simp
  have hs : (bs (a.data.toList.set k q)).size = a.size := by rw [bs_size, List.length_set, hl]
  refine crc_turn _ _ k hs.symm (by omega) ?_ ?_
  · intro i hi
    show (((a.data.toList.set k q)).getD i 0).toNat = (a.data.toList.getD i 0).toNat
    rw [List.getD_eq_getElem?_getD, List.getElem?_set_ne (by omega), List.getD_eq_getElem?_getD]
  · show (((a.data.toList.set k q)).getD k 0).toNat ≠ _
    rw [List.getD_eq_getElem?_getD, List.getElem?_set_self (by omega)]
    exact hq

def KeptT (w : World) (g n : Nat) (l : List UInt8) : Prop := g < w.heap.size ∧ ∀ j, j < n → w.cell? ⟨g, j, none⟩ = some (.int .u8 ((l.getD j 0).toNat : Int)) ∧ w.frozen? ⟨g, j, none⟩ = false
theorem KeptT.below {w w' : World} {g n : Nat} {l : List UInt8} (h : KeptT w g n l) (hb : Below w.heap.size w w') : KeptT w' g n l :=
  ⟨Nat.lt_of_lt_of_le h.1 hb.size, fun j hj => ⟨by rw [hb.cell h.1]; exact (h.2 j hj).1, by rw [hb.frozen h.1]; exact (h.2 j hj).2⟩⟩
theorem KeptT.grown {w w' : World} {g n r : Nat} {l : List UInt8} (h : KeptT w g n l) (hg : w.grownBy w' (some r)) (hr : r ≠ g) : KeptT w' g n l := by
  refine ⟨Nat.lt_of_lt_of_le h.1 hg.size, fun j hj => ?_⟩
  have hb := hg.block g h.1 (by simpa using Ne.symm hr)
  exact ⟨by rw [World.cell?_of_block (w := w) hb]; exact (h.2 j hj).1, by rw [World.frozen?_of_block (w := w) hb]; exact (h.2 j hj).2⟩
theorem KeptT.set {w : World} {g n p : Nat} {l : List UInt8} (h : KeptT w g n l) (hp : p < n) (hl : l.length = n) (q : UInt8) : KeptT (w.setCell ⟨g, p, none⟩ (.int .u8 (q.toNat : Int))) g n (l.set p q) := by
  refine ⟨by simpa [World.setCell] using h.1, fun j hj => ⟨?_, by rw [World.frozen?_setCell]; exact (h.2 j hj).2⟩⟩
  by_cases e : j = p
  · subst e
    rw [World.cell?_setCell_same' _ _ _ (by rw [(h.2 j hj).1]; rfl), List.getD_eq_getElem?_getD, List.getElem?_set_self (by omega)]
    rfl
  · rw [World.cell?_setCell_other (h := by intro h2; simp only [Addr.mk.injEq] at h2; omega), (h.2 j hj).1, List.getD_eq_getElem?_getD, List.getD_eq_getElem?_getD, List.getElem?_set_ne (by omega)]
theorem KeptT.conv {w : World} {g cap : Nat} {l : List UInt8} (h : KeptT w g l.length l) :
    (convert 42 9 (.slice (some ⟨g, 0, none⟩) l.length cap)).run Try.prog w = .ok (.string (bs l)) w := by
  refine run_convert_bytes_back w _ _ 5 ⟨g, 0, none⟩ cap l Try.underlying42 Try.underlying5 Try.underlying9 ?_
  intro j hj
  have e : (⟨g, 0, none⟩ : Addr).add j = ⟨g, 0 + j, none⟩ := by simp only [Addr.add]; split <;> simp_all
  rw [e, Nat.zero_add, (h.2 j hj).1, List.getD_eq_getElem?_getD, List.getElem?_eq_getElem hj]
  rfl

set_option maxRecDepth 100000 in
set_option maxHeartbeats 1000000 in
theorem walkSums1 (a b c : ByteArray) (at' : Int) (x : Nat) (w : World) (h1 : a.size ≤ 8000) (hb : b.size = a.size) (hc : c.size = a.size) (hx : x < 256) :
    Calls Try.prog 8 #[.string a, .string b, .string c, .int .i64 at', .int .u8 x] w fun e w' => e = .returned (.bool true) ∧ Below w.heap.size w w' := by
  obtain ⟨i0, hi, hz0, hz1, hz2⟩ := info_parts infoU8
  have HI := Lib.hid hi
  have HZ0 := Lib.hid hz0
  have HZ1 := Lib.hid hz1
  have HZ2 := Lib.hid hz2
  clear hi hz0 hz1 hz2
  obtain ⟨n, hn⟩ : ∃ n, a.size = n := ⟨_, rfl⟩
  rw [hn] at hb hc h1
  have d1 := dF (p := (8000 : Int) < (n : Int)) (by omega)
  have HN := Lib.hid hn
  go_enter Try.func8, Try.ntmps8
  go_wp2_with fail
  refine (nfirst _).mono ?_; rintro e w1 ⟨rfl, hb1⟩
  have HB1 := Lib.hid hb1; clear hb1
  go_wp2_with (first | (at_make; refine wpList_make_full _ rfl _ _ 42 rfl w.heap.size 5 i0 (.int .u8 0) 1 Try.underlying42 HI.out HZ0.out HZ1.out .i64 .i64 _ _ n rfl rfl rfl rfl ?b2 ?b3 HB1.out.size ?_))
  case b2 => rw [HZ2.out]; omega
  case b3 => unfold maxLen; omega
  intro w2 hown hgrow
  rw [toList_madeCells_one] at hown
  have HO2 := Lib.hid hown
  have HB2 := Lib.hid (HB1.out.grown hgrow HB1.out.size (by simp))
  have hlt := (hown.lt w1.heap.size rfl).2
  have HLT := Lib.hid hlt
  clear hown hgrow hlt
  go_wp2_with (refine conv_bytes rfl _ rfl a rfl ?_)
  intro cap w3 hcap hbel hsz hcells hfroz
  have hkt : KeptT w3 w2.heap.size n a.data.toList := ⟨by omega, fun j hj => ⟨by have := hcells j (by omega); simpa [List.getD_eq_getElem?_getD] using this, hfroz j (by omega)⟩⟩
  have HK3 := Lib.hid hkt
  have HO3 := Lib.hid (own_below HO2.out hbel)
  have HB3 := Lib.hid (HB2.out.trans (hbel.mono HB2.out.size))
  clear hkt hcells hfroz hbel hsz hcap
  go_wp2
  go_loopw [13] (fun i wr => ∃ k : Nat, k ≤ n ∧ i = .int .i64 k ∧ wr.ownsRow w.heap.size 5 1 (.slice (some ⟨w1.heap.size, 0, none⟩) n n) n (bc ((List.range k).map (dB a b c) ++ List.replicate (n - k) 0)) ∧ KeptT wr w2.heap.size n a.data.toList ∧ Below w.heap.size w wr) (fun i _ => n - (intOf i).toNat)
  case atStart =>
    refine ⟨0, Nat.zero_le _, rfl, ?_, HK3.out, HB3.out⟩
    have h := HO3.out
    simpa [bc] using h
  case round =>
    obtain ⟨k, hk, rfl, hown1, hkt1, hbel⟩ := hrel
    have HO := Lib.hid hown1
    have HK := Lib.hid hkt1
    have HBL := Lib.hid hbel
    by_cases hlt : k < n
    · have hcell := own_at hown1 k hlt
      have hfr := hown1.frozenAt k
      obtain ⟨c0, hc0⟩ : ∃ x, (((((List.range k).map (dB a b c)) ++ List.replicate (n - k) 0).getD k 0).toNat : Int) = x := ⟨_, rfl⟩
      rw [hc0] at hcell
      have ga := byte_get (s := a) (i := k) (by omega)
      have gb := byte_get (s := b) (i := k) (by omega)
      have gc := byte_get (s := c) (i := k) (by omega)
      have la := byteAt_lt a k
      have lb := byteAt_lt b k
      have lc := byteAt_lt c k
      have hx1 := u8_xor_nat _ _ la lb
      have hx2 := u8_xor_nat _ _ (xor_lt8 la lb) lc
      have hdv : ((byteAt a k ^^^ byteAt b k ^^^ byteAt c k : Nat) : Int) = ((dB a b c k).toNat : Int) := by rw [dB_toNat]
      rw [hdv] at hx2
      have hia : (k : Int) < (a.size : Int) := by omega
      have hib : (k : Int) < (b.size : Int) := by omega
      have hic : (k : Int) < (c.size : Int) := by omega
      have hin : (k : Int) < (n : Int) := by omega
      clear hown1 hkt1 hbel hc0 hdv
      go_wp2
      go_region
      all_goals
        go_wp2
        go_roundw
        case rel =>
          refine ⟨k + 1, by omega, by go_num, ?_, ?_, ?_⟩
          · have := (HO.out.stored k (Value.int IntKind.u8 ((dB a b c k).toNat : Int))).1
            rw [fill_step (dB a b c) n k hlt _ rfl] at this
            exact this.drew
          · exact (HK.out.grown (HO.out.stored k (Value.int IntKind.u8 ((dB a b c k).toNat : Int))).2 (by have := HLT.out; omega)).below (Below.refl _ _).drew
          · exact (HBL.out.setCell (by have := HB1.out.size; exact this) _).drew
        case measure => simp [intOf]; omega
    · have hkn : k = n := by omega
      subst hkn
      rw [Nat.sub_self, List.replicate_zero, List.append_nil] at hown1
      have hconv := conv_own hown1
      have hds : (bs ((List.range k).map (dB a b c))).size = k := by rw [bs_size]; simp
      have hcr := crc_d a b c (by omega) (by omega)
      rw [hn] at hcr
      obtain ⟨D, hD⟩ : ∃ D, bs ((List.range k).map (dB a b c)) = D := ⟨_, rfl⟩
      rw [hD] at hconv hds hcr
      obtain ⟨ca, hca⟩ : ∃ x, crcN a = x := ⟨_, rfl⟩
      obtain ⟨cb, hcb⟩ : ∃ x, crcN b = x := ⟨_, rfl⟩
      obtain ⟨cc, hcc⟩ : ∃ x, crcN c = x := ⟨_, rfl⟩
      rw [hca, hcb, hcc] at hcr
      have la := crcN_lt a
      have lb := crcN_lt b
      have lc := crcN_lt c
      rw [hca] at la
      rw [hcb] at lb
      rw [hcc] at lc
      have hx1 := u32_xor_nat _ _ la lb
      have hx2 := u32_xor_nat _ _ (xor_lt la lb) lc
      obtain ⟨ct, hct⟩ : ∃ x, ca ^^^ cb ^^^ cc = x := ⟨_, rfl⟩
      rw [hct] at hx2 hcr
      clear hown1 hkt1 hbel hct hD
      by_cases hp : 0 ≤ at' ∧ at' < (k : Int) ∧ 0 < x
      · obtain ⟨hp0, hpk, hx0⟩ := hp
        obtain ⟨p, rfl⟩ := Int.eq_ofNat_of_zero_le hp0
        have hpn : p < k := by omega
        have t1 := dF (p := (p : Int) < 0) (by omega)
        have t2 := dF (p := k ≤ p) (by omega)
        have t3 : ((x : Int) == 0) = false := eF (by omega)
        have hcl : wr.cell? ⟨w2.heap.size, p, none⟩ = some (.int .u8 (byteAt a p : Int)) := (HK.out.2 p hpn).1
        have hfr := (HK.out.2 p hpn).2
        have lq := byteAt_lt a p
        have hq := u8_xor_nat _ _ lq hx
        have hql := xor_lt8 lq hx
        have hqv : (UInt8.ofNat (byteAt a p ^^^ x)).toNat = byteAt a p ^^^ x := UInt8.toNat_ofNat_of_lt' hql
        have hqn : (UInt8.ofNat (byteAt a p ^^^ x)).toNat ≠ byteAt a p := by
          rw [hqv]
          intro h
          have h2 : byteAt a p ^^^ x = byteAt a p ^^^ 0 := by rw [h, Nat.xor_zero]
          have := xor_cancel' h2
          omega
        rw [← hqv] at hq
        have hct := crc_t a p (by omega) _ hqn
        obtain ⟨q, hqe⟩ : ∃ q, UInt8.ofNat (byteAt a p ^^^ x) = q := ⟨_, rfl⟩
        rw [hqe] at hq hct
        rw [hca] at hct
        have hlen : (a.data.toList.set p q).length = k := by rw [List.length_set]; simpa using hn
        have HS := Lib.hid (HK.out.set hpn (by simpa using hn) q)
        have htz : (bs (a.data.toList.set p q)).size = k := by rw [bs_size, hlen]
        obtain ⟨T, hT⟩ : ∃ T, bs (a.data.toList.set p q) = T := ⟨_, rfl⟩
        rw [hT] at hct htz
        obtain ⟨cx, hcx⟩ : ∃ x, crcN T = x := ⟨_, rfl⟩
        rw [hcx] at hct
        have t4 : ((cx : Int) != (ca : Int)) = true := nT (by omega)
        have HT := Lib.hid hT
        have HLE := Lib.hid hlen
        clear hqv hqn hqe hct hT hlen
        go_wp2_with (first | (go_at_call 25; refine (crc_any _ _ (by omega)).mono ?_; rintro e w' ⟨rfl, rfl⟩))
        refine (nfirst _).mono ?_; rintro e w5 ⟨rfl, hb5⟩
        have HB5 := Lib.hid ((HBL.out.setCell HB2.out.size _).trans (hb5.mono (by simp only [World.size_setCell]; exact HBL.out.size)))
        have hc5 := (HS.out.below hb5)
        rw [← HLE.out] at hc5
        have hconv5 := hc5.conv (cap := cap)
        rw [HLE.out, HT.out] at hconv5
        clear hb5 hc5
        go_wp2_with (first | (go_at_call 25; refine (crc_any _ _ (by omega)).mono ?_; rintro e w' ⟨rfl, rfl⟩))
        go_ret
        exact ⟨rfl, HB5.out⟩
      · have hd : decide (at' < 0) = true ∨ decide (at' < 0) = false ∧ (decide ((k : Int) ≤ at') = true ∨ decide ((k : Int) ≤ at') = false ∧ ((x : Int) == 0) = true) := by
          simp only [decide_eq_true_eq, decide_eq_false_iff_not, beq_iff_eq]; omega
        clear hp
        rcases hd with t1 | ⟨t1, t2 | ⟨t2, t3⟩⟩
        all_goals
          go_wp2_with (first | (go_at_call 25; refine (crc_any _ _ (by omega)).mono ?_; rintro e w' ⟨rfl, rfl⟩))
          refine (nfirst _).mono ?_; rintro e w5 ⟨rfl, hb5⟩
          have HB5 := Lib.hid (HBL.out.trans (hb5.mono HBL.out.size))
          clear hb5
          go_wp2
          go_ret
          exact ⟨rfl, HB5.out⟩

set_option maxRecDepth 100000 in
set_option maxHeartbeats 1000000 in
theorem walkSums (a b c : ByteArray) (at' : Int) (x : Nat) (w : World) (ha : a.size ≤ maxLen) (_hbm : b.size ≤ maxLen) (_hcm : c.size ≤ maxLen) (hx : x < 256) :
    Calls Try.prog 8 #[.string a, .string b, .string c, .int .i64 at', .int .u8 x] w fun e w' => e = .returned (.bool true) ∧ Below w.heap.size w w' := by
  unfold maxLen at ha
  by_cases h : a.size ≤ 8000 ∧ b.size = a.size ∧ c.size = a.size
  · exact walkSums1 a b c at' x w h.1 h.2.1 h.2.2 hx
  · obtain ⟨n, hn⟩ : ∃ n, a.size = n := ⟨_, rfl⟩
    obtain ⟨m, hm⟩ : ∃ n, b.size = n := ⟨_, rfl⟩
    obtain ⟨l, hl⟩ : ∃ n, c.size = n := ⟨_, rfl⟩
    rw [hn, hm, hl] at h
    rw [hn] at ha
    have hd : decide ((8000 : Int) < (n : Int)) = true ∨ decide ((8000 : Int) < (n : Int)) = false ∧ (((m : Int) != (n : Int)) = true ∨ ((m : Int) != (n : Int)) = false ∧ ((l : Int) != (n : Int)) = true) := by
      simp only [decide_eq_true_eq, decide_eq_false_iff_not, bne_iff_ne, ne_eq, bne_eq_false_iff_eq]; omega
    clear h
    rcases hd with t1 | ⟨t1, t2 | ⟨t2, t3⟩⟩
    all_goals
      go_enter Try.func8, Try.ntmps8
      go_wp2_with fail
      refine (nfirst _).mono ?_; rintro e w1 ⟨rfl, hb⟩
      have HB1 := Lib.hid hb; clear hb
      go_wp2_with fail
      refine (nfirst _).mono ?_; rintro e w2 ⟨rfl, hb⟩
      have HB2 := Lib.hid (HB1.out.trans (hb.mono HB1.out.size)); clear hb
      go_wp2
      go_ret
      exact ⟨rfl, HB2.out⟩
end Go.Proofs.Ytcpihfkhhmggfaa
