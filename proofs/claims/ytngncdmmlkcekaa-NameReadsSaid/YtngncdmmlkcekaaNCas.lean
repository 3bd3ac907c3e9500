/- NameCase: the walk. -/
import Derived.Test.YtngncdmmlkcekaaNBac
namespace Go.Proofs.Ytngncdmmlkcekaa
open Go.RowKit

def up1 (b : UInt8) : UInt8 := if 97 ≤ b.toNat ∧ b.toNat ≤ 122 then UInt8.ofNat (b.toNat - 32) else b
def upS (s : ByteArray) : ByteArray := bs (s.data.toList.map up1)
theorem up1_low (b : UInt8) : low1 (up1 b) = low1 b := by
  by_cases h : 97 ≤ b.toNat ∧ b.toNat ≤ 122
  · have h1 : (up1 b).toNat = b.toNat - 32 := by rw [up1, if_pos h]; exact u8n (by omega)
    have h2 : great (up1 b).toNat = true := by rw [h1]; simp only [great, decide_eq_true_eq]; omega
    have h3 : low1 b = b := low1_no (by simp only [great, decide_eq_false_iff_not]; omega)
    rw [h3]
    apply UInt8.toNat_inj.1
    rw [low1_yes h2, h1]; omega
  · rw [up1, if_neg h]
theorem up_low (s : ByteArray) : lowS (upS s) = lowS s := by
  show bs ((s.data.toList.map up1).map low1) = bs (s.data.toList.map low1)
  rw [List.map_map]
  congr 1
  exact List.map_congr_left fun b _ => up1_low b
theorem upS_size (s : ByteArray) : (upS s).size = s.size := by rw [upS, bs_size]; simp
theorem parse_up (s : ByteArray) : parseE (upS s) = parseE s ∧ parseS (upS s) = parseS s := by
  obtain ⟨a1, a2⟩ := parse_low (upS s)
  obtain ⟨b1, b2⟩ := parse_low s
  rw [up_low] at a1 a2
  exact ⟨by rw [← a1, b1], by rw [← a2, b2]⟩
def upF (s : ByteArray) (k j : Nat) : Int := if j < k then ((up1 (s.data.toList.getD j 0)).toNat : Int) else (byteAt s j : Int)
theorem upF_end (s : ByteArray) (j : Nat) (h : j < s.size) : upF s s.size j = (((s.data.toList.map up1).getD j 0).toNat : Int) := by
  have h' : j < s.data.toList.length := by rw [size_data]; exact h
  rw [upF, if_pos h, List.getD_eq_getElem?_getD, List.getD_eq_getElem?_getD, List.getElem?_map, List.getElem?_eq_getElem h']
  rfl
theorem upF_at (s : ByteArray) (k : Nat) : upF s k k = (byteAt s k : Int) := by rw [upF, if_neg (by omega)]
theorem upF_no (s : ByteArray) (k : Nat) (h : ¬ (97 ≤ byteAt s k ∧ byteAt s k ≤ 122)) : upF s (k + 1) = upF s k := by
  funext j
  rw [upF, upF]
  by_cases e : j = k
  · subst e
    rw [if_pos (by omega), if_neg (by omega), up1]
    rw [byteAt] at h
    rw [if_neg h]; rfl
  · by_cases e2 : j < k
    · rw [if_pos (by omega), if_pos e2]
    · rw [if_neg (by omega), if_neg e2]
theorem upF_yes (s : ByteArray) (k : Nat) (h : 97 ≤ byteAt s k ∧ byteAt s k ≤ 122) : (fun j => if j = k then (byteAt s k : Int) - 32 else upF s k j) = upF s (k + 1) := by
  funext j
  rw [upF, upF]
  by_cases e : j = k
  · subst e
    rw [if_pos rfl, if_pos (by omega), up1]
    rw [byteAt] at h ⊢
    rw [if_pos h, u8n (by omega)]; omega
  · rw [if_neg e]
    by_cases e2 : j < k
    · rw [if_pos e2, if_pos (by omega)]
    · rw [if_neg e2, if_neg (by omega)]
theorem RowS.int {w : World} {a : Option Addr} {len : Nat} {l : List ByteArray} (h : RowS w a len l) {p : Addr} {x y : Int} (hp : w.cell? p = some (.int .u8 x)) : RowS (w.setCell p (.int .u8 y)) a len l := by
  refine ⟨h.1, ?_⟩
  rcases h.2 with h0 | ⟨b, off, rfl, hb, hc⟩
  · exact Or.inl h0
  · refine Or.inr ⟨b, off, rfl, by simpa using hb, fun j hj => ?_⟩
    have h1 := hc j hj
    rw [World.cell?_setCell_other _ _ _ _ (by intro e; rw [e, h1] at hp; cases hp)]
    exact h1
theorem conv_lit3 (w : World) (x : Nat) (hx : x < 256) : (convert 43 9 (.slice (some ⟨w.heap.size, 0, none⟩) 3 3)).run Try.prog (w.alloc (.cells #[.int .u8 (48 + (x : Int) / 100), .int .u8 (48 + (x : Int) / 10 % 10), .int .u8 (48 + (x : Int) % 10)] 5)) = .ok (.string (bs [UInt8.ofNat (48 + x / 100), UInt8.ofNat (48 + x / 10 % 10), UInt8.ofNat (48 + x % 10)])) (w.alloc (.cells #[.int .u8 (48 + (x : Int) / 100), .int .u8 (48 + (x : Int) / 10 % 10), .int .u8 (48 + (x : Int) % 10)] 5)) := by
  refine run_convert_bytes_back _ _ _ 5 ⟨w.heap.size, 0, none⟩ 3 [UInt8.ofNat (48 + x / 100), UInt8.ofNat (48 + x / 10 % 10), UInt8.ofNat (48 + x % 10)] Try.underlying43 Try.underlying5 Try.underlying9 ?_
  intro j hj
  simp only [List.length_cons, List.length_nil] at hj
  have e1 : (((UInt8.ofNat (48 + x / 100)).toNat : Nat) : Int) = 48 + (x : Int) / 100 := by rw [u8n (by omega)]; omega
  have e2 : (((UInt8.ofNat (48 + x / 10 % 10)).toNat : Nat) : Int) = 48 + (x : Int) / 10 % 10 := by rw [u8n (by omega)]; omega
  have e3 : (((UInt8.ofNat (48 + x % 10)).toNat : Nat) : Int) = 48 + (x : Int) % 10 := by rw [u8n (by omega)]; omega
  rcases (by omega : j = 0 ∨ j = 1 ∨ j = 2) with rfl | rfl | rfl
  · show _ = some (Value.int .u8 (((UInt8.ofNat (48 + x / 100)).toNat : Nat) : Int))
    rw [e1]; simp [Addr.add]
  · show _ = some (Value.int .u8 (((UInt8.ofNat (48 + x / 10 % 10)).toNat : Nat) : Int))
    rw [e2]; simp [Addr.add]
  · show _ = some (Value.int .u8 (((UInt8.ofNat (48 + x % 10)).toNat : Nat) : Int))
    rw [e3]; simp [Addr.add]
theorem digs_len (m : List UInt8) : (tells digs m).length = 4 * m.length := by
  induction m with
  | nil => rfl
  | cons b m ih => rw [tells_cons, List.length_append, ih, List.length_cons]; show 4 + _ = _; omega
theorem prints_dlen {L : List ByteArray} (h : ∀ x ∈ L, x.size ≤ 63) : (prints digs L).length ≤ 253 * L.length := by
  induction L with
  | nil => exact Nat.le_refl _
  | cons s L ih =>
    have h1 := h s (by simp)
    have h2 := ih (fun x hx => h x (by simp [hx]))
    have h3 := digs_len s.data.toList
    rw [size_data] at h3
    rw [prints_cons, List.length_append, List.length_cons, List.length_cons]; omega
theorem digs_next (p : List UInt8) (s : ByteArray) (k x : Nat) (hk : k < s.size) (hx : byteAt s k = x) : bs (p ++ tells digs (s.data.toList.take k)) ++ ((⟨#[92]⟩ : ByteArray) ++ bs [UInt8.ofNat (48 + x / 100), UInt8.ofNat (48 + x / 10 % 10), UInt8.ofNat (48 + x % 10)]) = bs (p ++ tells digs (s.data.toList.take (k + 1))) := by
  rw [tells_next digs s k hk, hx]
  show bs _ ++ (bs [92] ++ _) = _
  rw [bs_append, bs_append, List.append_assoc]
  rfl
/-- A name's telling without its last point. -/
theorem case_fact {L : List ByteArray} (hL : OkL L) (hz : off L L.length ≤ 254) (hne : L ≠ []) : ∃ U : List UInt8, 1 ≤ U.length ∧ U.length ≤ 49000 ∧ printL L = bs (U ++ [46]) ∧ parseE (bs U) = 0 ∧ parseS (bs U) = nameB L := by
  obtain ⟨M, x, rfl⟩ : ∃ M x, L = M ++ [x] := ⟨L.dropLast, L.getLast hne, (List.dropLast_concat_getLast hne).symm⟩
  have hx : x.data.toList ≠ [] := fun e => okL_mem hL x (by simp) (by rw [← size_data, e]; rfl)
  have hd : isDot (bs (prints tell M ++ tells tell x.data.toList)) = false := by
    cases M with
    | nil =>
      have := tells_first told_tell (m := x.data.toList) (r := []) hx
      rw [List.append_nil] at this
      exact this
    | cons y M => exact prints_dot told_tell (M := y :: M) (r := tells tell x.data.toList) (fun z hz => okL_mem hL z (by simp at hz ⊢; rcases hz with h | h <;> simp [h])) (by simp)
  obtain ⟨p1, p2⟩ := parse_of hd (parse_prints' told_tell (okL_mem hL)) hL hz
  have hp : prints tell (M ++ [x]) = (prints tell M ++ tells tell x.data.toList) ++ [46] := by
    rw [prints_append, prints_cons, List.append_assoc]; rfl
  have hlen := prints_len (okL_le hL)
  have hge := off_ge _ hL (M ++ [x]).length (Nat.le_refl _)
  have hT := tells_first told_tell (m := x.data.toList) (r := []) hx
  refine ⟨prints tell M ++ tells tell x.data.toList, ?_, ?_, ?_, p1, p2⟩
  · rw [List.length_append]
    cases h : x.data.toList with
    | nil => exact absurd h hx
    | cons b m => rw [tells_cons, List.length_append]; have := (tell_len b.toNat).1; omega
  · rw [hp, List.length_append] at hlen
    omega
  · rw [printL, if_neg (by simp), hp]
theorem cut_last (U : List UInt8) : (bs (U ++ [46])).extract 0 ((bs (U ++ [46])).size - 1) = bs U := by
  apply ba_eq
  rw [extract_toList, bs_size, List.drop_zero]
  show (U ++ [46]).take _ = U
  rw [List.length_append, List.length_cons, List.length_nil, show U.length + (0 + 1) - 1 - 0 = U.length by omega, List.take_left]
theorem last_byte (U : List UInt8) : byteAt (bs (U ++ [46])) U.length = 46 := by
  rw [byteAt_bs, List.getD_eq_getElem?_getD, List.getElem?_append_right (Nat.le_refl _), Nat.sub_self]; rfl

set_option maxRecDepth 100000 in
set_option maxHeartbeats 3200000 in
theorem ncase_yes (L : List ByteArray) (n : ByteArray) (w : World) (hL : OkL L) (hz : off L L.length ≤ 254) (hn : n = nameB L) (hne : L ≠ []) :
    Calls Try.prog 9 #[.string n] w fun e w' => e = .returned (.bool true) ∧ Below w.heap.size w w' := by
  have hm := labels_may hL hz
  have hr := root_toList L hL
  have hsz := nameB_size L
  have hge := off_ge L hL L.length (Nat.le_refl _)
  obtain ⟨U, u1, u2, u3, u4, u5⟩ := case_fact hL hz hne
  obtain ⟨p1, p2, p3⟩ := print_back hL hz
  have hdl := prints_dlen (okL_le hL)
  have hdd : parseE (bs (prints digs L)) = 0 ∧ parseS (bs (prints digs L)) = nameB L := by
    have := prints_dot told_digs (M := L) (r := []) (okL_mem hL) hne
    rw [List.append_nil] at this
    exact parse_of this (parse_prints told_digs hne (okL_mem hL)) hL hz
  obtain ⟨d1, d2⟩ := hdd
  have hPR := fun w => print_yes L w hL hz
  have hLB := fun w => labels_yes L w hL hz
  have hie : L.isEmpty = false := by cases L with
    | nil => exact absurd rfl hne
    | cons _ _ => rfl
  rw [hie] at hr
  rw [← hn] at hm hr hsz u5 p2 hPR hLB d2
  obtain ⟨t, ht⟩ : ∃ t, printL L = t := ⟨_, rfl⟩
  rw [ht] at u3 p1 p2 p3 hPR
  have q1 := cut_last U
  rw [← u3] at q1
  have q2 := last_byte U
  rw [← u3] at q2
  have q3 : t.size = U.length + 1 := by rw [u3, bs_size]; simp
  obtain ⟨v1, v2⟩ := parse_up t
  rw [p1] at v1
  rw [p2] at v2
  have HU := Lib.hid (fun w => parse_any (upS t) w (by rw [upS_size]; omega))
  rw [v1, v2] at HU
  have HV := Lib.hid (fun w => parse_any (bs U) w (by rw [bs_size]; omega))
  rw [u4, u5] at HV
  have HW := Lib.hid (fun w => parse_any (bs (prints digs L)) w (by rw [bs_size]; omega))
  rw [d1, d2] at HW
  have hg9 := byte_get (s := t) (i := U.length) (by omega)
  rw [q2] at hg9
  obtain ⟨ul, hul⟩ : ∃ k, U.length = k := ⟨_, rfl⟩
  have hg8 : ∀ h : ul < t.size, ((t[ul]).toNat : Int) = 46 := by subst hul; intro h; rw [hg9]; rfl
  have q3' := q3
  rw [hul] at q3' u1 u2
  obtain ⟨N, hN⟩ : ∃ N, L.length = N := ⟨_, rfl⟩
  rw [hN] at hLB hge hdl hsz hz
  have HM := Lib.hid hm
  have HPR := Lib.hid hPR
  have HLB := Lib.hid hLB
  have HOK := Lib.hid hL
  have HN := Lib.hid hN
  have dn := dF (p := (2000 : Int) < (n.size : Int)) (by omega)
  have dt := dF (p := (t.size : Int) < 2) (by omega)
  have e0 : (t.size : Int) - 1 = (ul : Int) := by omega
  have ex : t.extract 0 ul = bs U := by rw [← q1]; congr 1; omega
  have EX := Lib.hid ex
  have hgt : ul < t.size := by omega
  have G8 := hg8 hgt
  have q4 : t.size ≤ ul + 1 := by omega
  have q5 : ul + 1 ≤ t.size := by omega
  have hs9 : n.size ≤ 1000 := by omega
  have hN7 : N ≤ 127 := by omega
  clear hm hPR hLB hL hN hz hn hne hie p1 p2 ht u3 u4 u5 v1 v2 d1 d2 q1 q2 hul ex hg8 hg9 q3 q3' hsz
  go_enter Try.func9, Try.ntmps9
  go_wp2_with fail
  refine (first2 _).mono ?_; rintro e w1 ⟨rfl, hb⟩
  have HB1 := Lib.hid hb; clear hb
  go_wp2_with fail
  refine (nmay_any _ _ (by omega)).mono ?_; rintro e w' ⟨rfl, rfl⟩
  rw [HM.out]
  go_wp2_with fail
  refine (HPR.out _).mono ?_; rintro e w2 ⟨rfl, hb⟩
  have HB2 := Lib.hid (HB1.out.trans (hb.mono HB1.out.size)); clear hb
  go_wp2_with (first | (refine conv_bytes rfl (.tmp 53) rfl _ rfl ?_))
  intro cap w3 hcap hbel hsize hcells hfr
  have HA := Lib.hid (show BytAt w3 w2.heap.size t.size (upF t 0) from fun j hj => ⟨by rw [hcells j hj, upF, if_neg (by omega), byteAt]; simp, hfr j hj⟩)
  have HB3 := Lib.hid (HB2.out.trans (hbel.mono HB2.out.size))
  obtain ⟨q, hq⟩ : ∃ q, w2.heap.size = q := ⟨_, rfl⟩
  have hwq : w.heap.size ≤ q := by rw [← hq]; exact HB2.out.size
  rw [hq] at HA
  rw [hq]
  clear hcells hfr hbel hsize hcap HB1 HB2 hq
  go_wp2_with fail
  refine (HLB.out _).mono ?_; rintro e w4 ⟨la, rfl, hrow, hb⟩
  have HR := Lib.hid hrow
  have HA4 := Lib.hid (HA.out.below hb)
  have HB4 := Lib.hid (HB3.out.trans (hb.mono HB3.out.size)); clear hb hrow HB3 HA
  go_wp2_with fail
  go_loopw [8] (fun i wr => ∃ k : Nat, k ≤ t.size ∧ i = .int .i64 k ∧ BytAt wr q t.size (upF t k) ∧ RowS wr la N L ∧ Below w.heap.size w wr) (fun i _ => t.size - (intOf i).toNat)
  case atStart => exact ⟨0, Nat.zero_le _, rfl, HA4.out, HR.out, HB4.out⟩
  case round =>
    obtain ⟨k, hk, rfl, ha, hrr, hb⟩ := hrel
    have HA := Lib.hid ha
    have HRR := Lib.hid hrr
    have HB := Lib.hid hb
    clear ha hb hrr
    by_cases hlt : k < t.size
    · obtain ⟨c1, f1⟩ := HA.out k hlt
      rw [upF_at] at c1
      have hb2 := byteAt_lt t k
      by_cases hgr : 97 ≤ byteAt t k ∧ byteAt t k ≤ 122
      · have HN1 := Lib.hid (upF_yes t k hgr)
        obtain ⟨b, hb⟩ : ∃ b, byteAt t k = b := ⟨_, rfl⟩
        rw [hb] at c1 hb2 hgr HN1
        obtain ⟨hr1, hr2⟩ := hgr
        clear hb
        have t1 := dT (p := (97 : Int) ≤ (b : Int)) (by omega)
        have t2 := dT (p := (b : Int) ≤ (122 : Int)) (by omega)
        have HRS := Lib.hid (HRR.out.int (y := (b : Int) - 32) c1)
        have h1 := HA.out.set hlt ((b : Int) - 32)
        rw [HN1.out] at h1
        have HS1 := Lib.hid h1
        clear h1
        go_wp2
        go_roundw
        case rel => exact ⟨k + 1, by omega, by go_num, HS1.out, HRS.out, HB.out.setCell hwq _⟩
        case measure => simp [intOf]; omega
      · have HN1 := Lib.hid (upF_no t k hgr)
        have hd : decide ((97 : Int) ≤ (byteAt t k : Int)) = false ∨ decide ((97 : Int) ≤ (byteAt t k : Int)) = true ∧ decide ((byteAt t k : Int) ≤ (122 : Int)) = false := by
          simp only [decide_eq_true_eq, decide_eq_false_iff_not]; omega
        clear hgr
        obtain ⟨b, hb⟩ : ∃ b, byteAt t k = b := ⟨_, rfl⟩
        rw [hb] at c1 hb2 hd
        clear hb
        rcases hd with t1 | ⟨t1, t2⟩
        all_goals
          go_wp2
          go_roundw
          case rel => exact ⟨k + 1, by omega, by go_num, by rw [HN1.out]; exact HA.out, HRR.out, HB.out⟩
          case measure => simp [intOf]; omega
    · have hkl : k = t.size := by omega
      subst hkl
      clear HA4 HB4 HR
      go_wp2_with fail
      obtain ⟨wo, rfl⟩ : ∃ wo : World, wo = wr := ⟨_, rfl⟩
      go_loopw [6, 9] (fun v i wr => ∃ k : Nat, k ≤ N ∧ i = .int .i64 k ∧ v = .string (bs (prints digs (L.take k))) ∧ (prints digs (L.take k)).length ≤ 253 * k ∧ BytAt wr q t.size (upF t t.size) ∧ RowS wr la N L ∧ Below w.heap.size w wr) (fun _ i _ => N - (intOf i).toNat)
      case atStart => exact ⟨0, Nat.zero_le _, rfl, rfl, Nat.zero_le _, HA.out, HRR.out, HB.out⟩
      case round =>
        obtain ⟨j, hj, rfl, rfl, hpl, ha, hrr, hb⟩ := hrel
        clear HA HRR HB
        have HA := Lib.hid ha
        have HRR := Lib.hid hrr
        have HB := Lib.hid hb
        clear ha hb hrr
        by_cases hlt2 : j < N
        · rcases HRR.out.2 with h9 | ⟨b, o, rfl, hbl, hc⟩
          · omega
          have HPN := Lib.hid (prints_next digs L j (by rw [HN.out]; exact hlt2))
          have hs6 := (HOK.out j (by rw [HN.out]; exact hlt2)).2.1
          have hcw0 := hc j hlt2
          obtain ⟨P, hP⟩ : ∃ P, prints digs (L.take j) = P := ⟨_, rfl⟩
          obtain ⟨s, hs⟩ : ∃ s, tx L j = s := ⟨_, rfl⟩
          have hcell : wr.cell? ⟨b, o + j, none⟩ = some (.string s) := by rw [← hs]; exact hcw0
          rw [hP] at HPN hpl ⊢
          rw [hs] at HPN hs6
          have HS := Lib.hid hs
          clear hc hcw0 hP hs
          go_wp2_with fail
          obtain ⟨wo2, rfl⟩ : ∃ wo : World, wo = wr := ⟨_, rfl⟩
          go_loopw [6, 10] (fun v i wr => ∃ m : Nat, m ≤ s.size ∧ i = .int .i64 m ∧ v = .string (bs (P ++ tells digs (s.data.toList.take m))) ∧ BytAt wr q t.size (upF t t.size) ∧ RowS wr (some ⟨b, o, none⟩) N L ∧ Below w.heap.size w wr) (fun _ i _ => s.size - (intOf i).toNat)
          case atStart => exact ⟨0, Nat.zero_le _, rfl, by simp [tells], HA.out, HRR.out, HB.out⟩
          case round =>
            obtain ⟨m, hm, rfl, rfl, ha, hrr, hb⟩ := hrel
            clear HA HRR HB
            have hcell2 : wr.cell? ⟨b, o + j, none⟩ = some (.string s) := by
              rcases hrr.2 with h9 | ⟨b', o', he, hbl', hc'⟩
              · omega
              · injection he with he; injection he with h1 h2; subst h1 h2; rw [← HS.out]; exact hc' j hlt2
            have HA := Lib.hid ha
            have HRR := Lib.hid hrr
            have HB := Lib.hid hb
            have hgq := hb.size
            clear ha hb hrr
            have hAs : (bs (P ++ tells digs (s.data.toList.take m))).size ≤ 100000 := by
              have := List.length_take_le m s.data.toList
              rw [bs_size, List.length_append, digs_len]; omega
            by_cases hlt3 : m < s.size
            · have hg := byte_get hlt3
              have hlb := byteAt_lt s m
              have HX := Lib.hid (fun x => digs_next P s m x hlt3)
              obtain ⟨x, hx⟩ : ∃ x, byteAt s m = x := ⟨_, rfl⟩
              have HX2 := Lib.hid (HX.out x hx)
              rw [hx] at hg hlb
              have hconv := conv_lit3 wr x hlb
              have hC1 : (bs [UInt8.ofNat (48 + x / 100), UInt8.ofNat (48 + x / 10 % 10), UInt8.ofNat (48 + x % 10)]).size ≤ 3 := by rw [bs_size]; exact Nat.le_refl _
              obtain ⟨C3, hC3⟩ : ∃ C, bs [UInt8.ofNat (48 + x / 100), UInt8.ofNat (48 + x / 10 % 10), UInt8.ofNat (48 + x % 10)] = C := ⟨_, rfl⟩
              obtain ⟨A3, hA3⟩ : ∃ C, bs (P ++ tells digs (s.data.toList.take m)) = C := ⟨_, rfl⟩
              rw [hC3] at hconv HX2 hC1
              rw [hA3] at HX2 hAs ⊢
              clear hx HX hC3 hA3
              go_wp2
              go_roundw
              case rel => exact ⟨m + 1, by omega, by go_num, by rw [HX2.out], HA.out.below ((Below.refl _ _).alloc (Nat.le_refl _) _), HRR.out.below ((Below.refl _ _).alloc (Nat.le_refl _) _), HB.out.alloc hgq _⟩
              case measure => simp [intOf]; omega
            · have hmt : m = s.size := by omega
              subst hmt
              have hTK : s.data.toList.take s.size = s.data.toList := List.take_of_length_le (by rw [size_data]; exact Nat.le_refl _)
              have HQ := Lib.hid (show bs (P ++ tells digs (s.data.toList.take s.size)) ++ (⟨#[46]⟩ : ByteArray) = bs (prints digs (L.take (j + 1))) by
                rw [hTK, HPN.out, ← List.append_assoc]; exact bs_append _ [46])
              have HQ2 := Lib.hid (show (prints digs (L.take (j + 1))).length ≤ 253 * (j + 1) by
                have h3 := digs_len s.data.toList
                rw [size_data] at h3
                rw [HPN.out, List.length_append, List.length_append, h3]; simp; omega)
              obtain ⟨A3, hA3⟩ : ∃ C, bs (P ++ tells digs (s.data.toList.take s.size)) = C := ⟨_, rfl⟩
              rw [hA3] at HQ hAs ⊢
              clear hTK hA3
              go_wp2
              go_roundw
              case rel => exact ⟨j + 1, by omega, by go_num, by rw [HQ.out], HQ2.out, HA.out, HRR.out, HB.out⟩
              case measure => simp [intOf]; omega
        · have hjn : j = N := by omega
          subst hjn
          have HT := Lib.hid (show L.take j = L by rw [← HN.out]; exact List.take_length)
          rw [HT.out]
          have hconv := conv_at (cap := cap) HA.out (l := t.data.toList.map up1) (by simp) (upF_end t)
          have HU2 := HU
          rw [upS] at HU2
          clear HU
          go_wp2_with fail
          refine (HU2.out _).mono ?_; rintro e w5 ⟨rfl, hb⟩
          have HB5 := Lib.hid (HB.out.trans (hb.mono HB.out.size)); clear hb
          go_wp2_with fail
          rw [EX.out]
          refine (HV.out _).mono ?_; rintro e w6 ⟨rfl, hb⟩
          have HB6 := Lib.hid (HB5.out.trans (hb.mono HB5.out.size)); clear hb
          go_wp2_with fail
          refine (HW.out _).mono ?_; rintro e w7 ⟨rfl, hb⟩
          have HB7 := Lib.hid (HB6.out.trans (hb.mono HB6.out.size)); clear hb
          go_wp2_with fail
          refine (first2 _).mono ?_; rintro e w8 ⟨rfl, hb⟩
          have HB8 := Lib.hid (HB7.out.trans (hb.mono HB7.out.size)); clear hb
          go_wp2
          go_ret
          exact ⟨rfl, HB8.out⟩

set_option maxRecDepth 100000 in
theorem ncase_big (n : ByteArray) (w : World) (h1 : n.size ≤ 9223372036854775807) (h : 2000 < n.size) :
    Calls Try.prog 9 #[.string n] w fun e w' => e = .returned (.bool true) ∧ Below w.heap.size w w' := by
  have d1 := dT (p := (2000 : Int) < (n.size : Int)) (by omega)
  clear h
  go_enter Try.func9, Try.ntmps9
  go_wp2_with fail
  refine (first2 _).mono ?_; rintro e w1 ⟨rfl, hb⟩
  have HB1 := Lib.hid hb; clear hb
  go_wp2_with fail
  refine (first2 _).mono ?_; rintro e w2 ⟨rfl, hb⟩
  have HB2 := Lib.hid (HB1.out.trans (hb.mono HB1.out.size)); clear hb
  go_wp2
  go_ret
  exact ⟨rfl, HB2.out⟩

set_option maxRecDepth 100000 in
theorem ncase_no (n : ByteArray) (w : World) (h : n.size ≤ 2000) (hm : mayN n = false ∨ mayN n = true ∧ (n.toList == [0]) = true) :
    Calls Try.prog 9 #[.string n] w fun e w' => e = .returned (.bool true) ∧ Below w.heap.size w w' := by
  have d1 := dF (p := (2000 : Int) < (n.size : Int)) (by omega)
  rcases hm with hm | ⟨hm, hr⟩
  all_goals
    have HM := Lib.hid hm
    clear hm
    go_enter Try.func9, Try.ntmps9
    go_wp2_with fail
    refine (first2 _).mono ?_; rintro e w1 ⟨rfl, hb⟩
    have HB1 := Lib.hid hb; clear hb
    go_wp2_with fail
    refine (nmay_any _ _ (by omega)).mono ?_; rintro e w' ⟨rfl, rfl⟩
    rw [HM.out]
    go_wp2_with fail
    refine (first2 _).mono ?_; rintro e w2 ⟨rfl, hb⟩
    have HB2 := Lib.hid (HB1.out.trans (hb.mono HB1.out.size)); clear hb
    go_wp2
    go_ret
    exact ⟨rfl, HB2.out⟩

theorem walkNCase (n : ByteArray) (w : World) (h1 : n.size ≤ 9223372036854775807) :
    Calls Try.prog 9 #[.string n] w fun e w' => e = .returned (.bool true) ∧ Below w.heap.size w w' := by
  by_cases h : 2000 < n.size
  · exact ncase_big n w h1 h
  · cases hm : mayN n
    · exact ncase_no n w (by omega) (Or.inl hm)
    · obtain ⟨L, hL, hz, hn⟩ := may_labels hm
      by_cases hne : L = []
      · exact ncase_no n w (by omega) (Or.inr ⟨hm, by rw [hn, root_toList L hL, hne]; rfl⟩)
      · exact ncase_yes L n w hL hz hn hne
end Go.Proofs.Ytngncdmmlkcekaa
