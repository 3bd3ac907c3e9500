/- The contract of name.Print (chapter 2), over this seat's translation. -/
import Derived.Test.YtngncdmmlkcekaaTld
import Derived.Test.YtngncdmmlkcekaaPar
namespace Go.Proofs.Ytngncdmmlkcekaa
open Go.RowKit

theorem tells_next (T : Nat → List UInt8) (s : ByteArray) (k : Nat) (hk : k < s.size) : tells T (s.data.toList.take (k + 1)) = tells T (s.data.toList.take k) ++ T (byteAt s k) := by
  have hl : k < s.data.toList.length := by rw [size_data]; exact hk
  rw [List.take_succ_eq_append_getElem hl, tells, List.flatMap_append, byteAt, List.getD_eq_getElem?_getD, List.getElem?_eq_getElem hl]
  simp [tells]
theorem prints_next (T : Nat → List UInt8) (L : List ByteArray) (k : Nat) (hk : k < L.length) : prints T (L.take (k + 1)) = prints T (L.take k) ++ (tells T (tx L k).data.toList ++ [46]) := by
  rw [List.take_succ_eq_append_getElem hk, prints_append, tx, List.getD_eq_getElem?_getD, List.getElem?_eq_getElem hk]
  simp [prints]
theorem tells_len (m : List UInt8) : (tells tell m).length ≤ 4 * m.length := by
  induction m with
  | nil => exact Nat.le_refl _
  | cons b m ih => have := tell_len b.toNat; rw [tells_cons, List.length_append, List.length_cons]; omega
def printL (L : List ByteArray) : ByteArray := if L = [] then bs [46] else bs (prints tell L)
theorem own_below' {w w' : World} {base : Nat} {e : TypeId} {size : Nat} {v : Value} {n : Nat} {xs : List Value} (h : w.ownsRow base e size v n xs) (hb : Below w.heap.size w w') : w'.ownsRow base e size v n xs :=
  h.kept (row := none) ⟨hb.os, hb.tape, hb.output, hb.size, fun k hk _ => hb.block k hk⟩ (by cases hv : v.ownBlock with
    | none => exact Or.inl rfl
    | some x => exact Or.inr (by simp))
/-- A row of bytes of the call's own. -/
def OwnB (w : World) (B : Nat) (v : Value) (l : List UInt8) : Prop := ∃ a n c, v = .slice a n c ∧ n = l.length ∧ w.ownsRow B 5 1 (.slice a n c) n (bc l)
theorem OwnB.nil (w : World) (B : Nat) : OwnB w B (.slice none 0 0) [] := ⟨none, 0, 0, rfl, rfl, World.ownsRow_nil _ _ _ _⟩
theorem OwnB.mk {w : World} {B n : Nat} {v : Value} {l : List UInt8} (h : w.ownsRow B 5 1 v n (bc l)) : OwnB w B v l := by
  have hl : l.length = n := by have := h.1; rw [bc_length] at this; omega
  obtain ⟨a, c, rfl⟩ := own_shape h
  exact ⟨a, n, c, rfl, hl.symm, h⟩

theorem print_no (s : ByteArray) (w : World) (h : mayN s = false) (hs : s.size ≤ 1000000) : Calls Try.prog 20 #[.string s] w fun e w' => e = .returned (.tuple #[.string ⟨#[]⟩, .int .i64 10]) ∧ w = w' := by
  have HM := Lib.hid h
  clear h
  go_enter Try.func20, Try.ntmps20
  go_wp2_with (first | (go_at_call 26; refine (nmay_any _ _ (by omega)).mono ?_; rintro e w' ⟨rfl, rfl⟩; rw [HM.out]))
  go_ret2
  exact ⟨rfl, rfl⟩

theorem write_own (a : Option Addr) (n d : Nat) (l : List UInt8) (c B : Nat) (w : World) (hc : c < 256) (hown : w.ownsRow B 5 1 (.slice a n d) n (bc l)) (hn : n ≤ 1000000) (hB : B ≤ w.heap.size) :
    Calls Try.prog 55 #[.slice a n d, .int .u8 c] w fun e w' => ∃ v, e = .returned v ∧ OwnB w' B v (l ++ tell c) ∧ Below B w w' :=
  (write_any _ n l c B w hc hown hn hB).mono fun _ _ ⟨v, he, ho, hb⟩ => ⟨v, he, OwnB.mk ho, hb⟩

set_option maxRecDepth 100000 in
set_option maxHeartbeats 3200000 in
theorem print_yes (L : List ByteArray) (w : World) (hL : OkL L) (hz : off L L.length ≤ 254) : Calls Try.prog 20 #[.string (nameB L)] w fun e w' => e = .returned (.tuple #[.string (printL L), .int .i64 0]) ∧ Below w.heap.size w w' := by
  have hr := root_toList L hL
  have hm := labels_may hL hz
  have hsz := nameB_size L
  have hge := off_ge L hL L.length (Nat.le_refl _)
  have HL := Lib.hid hL
  have HZ := Lib.hid hz
  obtain ⟨i0, hi, hz0, hz1, hz2⟩ := info_parts infoU8
  have HI := Lib.hid hi
  have HZ0 := Lib.hid hz0
  have HZ1 := Lib.hid hz1
  have HZ2 := Lib.hid hz2
  obtain ⟨s, hs⟩ : ∃ s, nameB L = s := ⟨_, rfl⟩
  rw [hs] at hr hm hsz ⊢
  have HM := Lib.hid hm
  have HS := Lib.hid hs
  have hs2 : s.size ≤ 1000000 := by omega
  have HLB := Lib.hid (fun w => labels_yes L w HL.out HZ.out)
  simp only [HS.out] at HLB
  have HN : L.length ≤ 127 := by omega
  clear hm hi hz0 hz1 hz2 hs hsz hL hge
  cases he : L.isEmpty with
  | true =>
    have HV := Lib.hid (show printL L = bs [46] by rw [printL, if_pos (List.isEmpty_iff.1 he)])
    rw [he] at hr
    clear he
    go_enter Try.func20, Try.ntmps20
    go_wp2_with (first | (go_at_call 26; refine (nmay_any _ _ (by omega)).mono ?_; rintro e w' ⟨rfl, rfl⟩; rw [HM.out]))
    go_ret2
    rw [HV.out]
    exact ⟨rfl, Below.refl _ _⟩
  | false =>
    have HV := Lib.hid (show printL L = bs (prints tell L) by rw [printL, if_neg (fun h => by rw [h] at he; cases he)])
    rw [he] at hr
    obtain ⟨N, hN⟩ : ∃ N, L.length = N := ⟨_, rfl⟩
    rw [hN] at HLB HN
    have HNN := Lib.hid hN
    clear he hz
    go_enter Try.func20, Try.ntmps20
    go_wp2_with fail
    refine (nmay_any _ _ hs2).mono ?_; rintro e w' ⟨rfl, rfl⟩; rw [HM.out]
    go_wp2_with fail
    refine (HLB.out _).mono ?_; rintro e w2 ⟨a, rfl, hrow, hb2⟩; have HB2 := Lib.hid hb2; have HR := Lib.hid hrow; clear hb2 hrow hN
    go_wp2_with fail
    go_loopw [4, 16] (fun v i wr => ∃ k : Nat, k ≤ N ∧ i = .int .i64 k ∧ OwnB wr w2.heap.size v (prints tell (L.take k)) ∧ Below w2.heap.size w2 wr ∧ (prints tell (L.take k)).length ≤ 253 * k) (fun _ i _ => N - (intOf i).toNat)
    case atStart => exact ⟨0, Nat.zero_le _, rfl, OwnB.nil _ _, Below.refl _ _, Nat.zero_le _⟩
    case round =>
      obtain ⟨k, hk, rfl, ⟨va, n, vc, rfl, hn, hown1⟩, hbel, hbd⟩ := hrel
      rw [← hn] at hbd
      have HN1 := Lib.hid hn
      have HO := Lib.hid hown1
      have HBL := Lib.hid hbel
      have hszz := hbel.size
      clear hown1 hbel hn
      by_cases hlt : k < N
      · rcases HR.out.2 with hz | ⟨b, o, rfl, hbl, hc⟩
        · omega
        have HPN := Lib.hid (prints_next tell L k (by rw [HNN.out]; exact hlt))
        obtain ⟨p, hp⟩ : ∃ p, prints tell (L.take k) = p := ⟨_, rfl⟩
        have ht6 : 1 ≤ (tx L k).size ∧ (tx L k).size ≤ 63 := ⟨(HL.out k (by rw [HNN.out]; exact hlt)).1, (HL.out k (by rw [HNN.out]; exact hlt)).2.1⟩
        have hcell : wr.cell? ⟨b, o + k, none⟩ = some (.string (tx L k)) := by rw [HBL.out.cell hbl]; exact hc k hlt
        obtain ⟨t, ht⟩ : ∃ t, tx L k = t := ⟨_, rfl⟩
        rw [hp, ht] at HPN
        rw [hp] at HO HN1
        rw [ht] at ht6 hcell
        obtain ⟨ht7, ht8⟩ := ht6
        clear hp ht hc
        go_wp2_with fail
        obtain ⟨wo, rfl⟩ : ∃ wo : World, wo = wr := ⟨_, rfl⟩
        go_loopw [4, 22] (fun v i wi => ∃ m : Nat, m ≤ t.size ∧ i = .int .i64 m ∧ OwnB wi w2.heap.size v (p ++ tells tell (t.data.toList.take m)) ∧ Below w2.heap.size w2 wi) (fun _ i _ => t.size - (intOf i).toNat)
        case atStart => exact ⟨0, Nat.zero_le _, rfl, ⟨va, n, vc, rfl, by rw [HN1.out]; simp [tells], by have := HO.out; simpa [tells] using this⟩, HBL.out⟩
        case round =>
          obtain ⟨m, hm, rfl, ⟨vb, q, vd, rfl, hq, hown3⟩, hbel3⟩ := hrel
          have htl := tells_len (t.data.toList.take m)
          have htm : (t.data.toList.take m).length ≤ m := List.length_take_le _ _
          have hpl : p.length = n := HN1.out.symm
          rw [List.length_append] at hq
          have hq2 : q ≤ 253 * k + 252 := by omega
          have HO3 := Lib.hid hown3
          have HB3 := Lib.hid hbel3
          have hsz3 := hbel3.size
          clear hown3 hbel3 htl htm hpl
          have HQ := Lib.hid hq
          clear hq
          by_cases hlt2 : m < t.size
          · have hg := byte_get hlt2
            have hlb := byteAt_lt t m
            have HTN := Lib.hid (tells_next tell t m hlt2)
            obtain ⟨x, hx⟩ : ∃ x, byteAt t m = x := ⟨_, rfl⟩
            rw [hx] at hg hlb HTN
            clear hx
            go_wp2_with fail
            refine (write_own _ _ _ _ _ w2.heap.size _ hlb HO3.out (by omega) hsz3).mono ?_; rintro e w4 ⟨v4, rfl, hown4, hb4⟩
            rw [List.append_assoc, ← HTN.out] at hown4
            have HO4 := Lib.hid hown4; have HB4 := Lib.hid (HB3.out.trans hb4); clear hown4 hb4
            go_wp2_with fail
            go_roundw
            case rel => exact ⟨m + 1, by omega, by go_num, HO4.out, HB4.out⟩
            case measure => simp [intOf]; omega
          · have hmt : m = t.size := by omega
            subst hmt
            have hTK : t.data.toList.take t.size = t.data.toList := List.take_of_length_le (by rw [size_data]; exact Nat.le_refl _)
            rw [hTK] at HO3 HQ
            clear hTK
            go_wp2_with (first | (at_builtin; refine wpList_append_own _ rfl _ _ 43 rfl w2.heap.size 5 i0 (.int .u8 0) 1 1 Try.underlying43 HI.out HZ0.out HZ1.out HZ2.out rfl (by decide) _ q _ rfl (HO3.out.alloc _) ⟨wr.heap.size, 0, none⟩ 1 1 [.int .u8 46] rfl rfl ?c1 ?c2 ?c3 ?c4 ?c5 ?_))
            case c1 => exact cell_one_new _ _ _
            case c2 => exact one_int _ _
            case c3 => unfold maxLen; omega
            case c4 => omega
            case c5 => simp; omega
            intro v5 w5 hown5 hgrow5 _
            have HB5 := Lib.hid (below_append HB3.out hsz3 HO3.out hgrow5)
            have e9 : bc (p ++ tells tell t.data.toList) ++ [Value.int .u8 46] = bc (prints tell (L.take (k + 1))) := by rw [HPN.out, ← List.append_assoc, bc_append (p ++ _)]; rfl
            have e8 : (prints tell (L.take (k + 1))).length ≤ 253 * (k + 1) := by
              rw [HPN.out, ← List.append_assoc, List.length_append, List.length_append, ← HQ.out]; simp; omega
            rw [e9] at hown5
            have HO5 := Lib.hid (OwnB.mk hown5)
            have HE8 := Lib.hid e8
            clear hown5 hgrow5 e9 e8
            go_wp2_with fail
            go_roundw
            case rel => exact ⟨k + 1, by omega, by go_num, HO5.out, HB5.out, HE8.out⟩
            case measure => simp [intOf]; omega
      · have hkn : k = N := by omega
        subst hkn
        have HT := Lib.hid (show L.take k = L by rw [← HNN.out]; exact List.take_length)
        rw [HT.out] at HO
        have hconv := conv_own HO.out
        go_wp2
        go_ret2
        rw [HV.out]
        exact ⟨rfl, HB2.out.trans (HBL.out.mono HB2.out.size)⟩
end Go.Proofs.Ytngncdmmlkcekaa
