/- The contract of the document's Parse (chapter 2), over this seat's translation. -/
import Derived.Test.YtngncdmmlkcekaaRPt
import Derived.Test.YtngncdmmlkcekaaRJn
namespace Go.Proofs.Ytngncdmmlkcekaa
open Go.RowKit

/-- A digit is lacking. -/
theorem readV_lack {s : ByteArray} (h0 : byteAt s 0 = 92) (h1 : ¬ (1 < s.size ∧ (byteAt s 1 = 46 ∨ byteAt s 1 = 92))) (h : ∃ m, 1 ≤ m ∧ m ≤ 3 ∧ (s.size ≤ m ∨ digOk (byteAt s m) = false)) : (readV s).2 = 0 := by
  obtain ⟨m, m1, m3, hm⟩ := h
  have d0 : ¬ byteAt s 0 ≠ 92 := fun h => h h0
  rw [readV, if_neg d0, if_neg h1]
  by_cases c2 : s.size < 4
  · rw [if_pos c2]
  · rw [if_neg c2]
    have hd : digOk (byteAt s m) = false := by
      rcases hm with h | h
      · omega
      · exact h
    have : ¬ (digOk (byteAt s 1) && digOk (byteAt s 2) && digOk (byteAt s 3)) = true := by
      intro h
      simp only [Bool.and_eq_true] at h
      rcases (by omega : m = 1 ∨ m = 2 ∨ m = 3) with rfl | rfl | rfl
      · rw [h.1.1] at hd; cases hd
      · rw [h.1.2] at hd; cases hd
      · rw [h.2] at hd; cases hd
    rw [if_neg this]
/-- The value of the digits so far. -/
def dv (s : ByteArray) : Nat → Nat
  | 0 => 0
  | m + 1 => 10 * dv s m + (byteAt s (m + 1) - 48)
theorem readV_dig {s : ByteArray} (h0 : byteAt s 0 = 92) (h1 : ¬ (1 < s.size ∧ (byteAt s 1 = 46 ∨ byteAt s 1 = 92))) (h4 : 4 ≤ s.size) (h : ∀ m, 1 ≤ m → m ≤ 3 → digOk (byteAt s m) = true) : readV s = if dv s 3 ≤ 255 then (dv s 3, 4) else (0, 0) := by
  have d0 : ¬ byteAt s 0 ≠ 92 := fun h => h h0
  have e : dv s 3 = 100 * (byteAt s 1 - 48) + 10 * (byteAt s 2 - 48) + (byteAt s 3 - 48) := by
    show 10 * (10 * (10 * 0 + (byteAt s 1 - 48)) + (byteAt s 2 - 48)) + (byteAt s 3 - 48) = _
    omega
  rw [readV, if_neg d0, if_neg h1, if_neg (by omega), if_pos (by rw [h 1 (by omega) (by omega), h 2 (by omega) (by omega), h 3 (by omega) (by omega)]; rfl), e]
theorem dv_le {s : ByteArray} : ∀ m, (∀ k, 1 ≤ k → k ≤ m → digOk (byteAt s k) = true) → dv s m < 10 ^ m := by
  intro m
  induction m with
  | zero => intro _; exact Nat.one_pos
  | succ m ih =>
    intro h
    have h1 := ih (fun k a b => h k a (by omega))
    have h2 := h (m + 1) (by omega) (by omega)
    simp only [digOk, decide_eq_true_eq] at h2
    rw [dv, Nat.pow_succ]; omega
theorem conv_lit1 (w : World) (x : Nat) (hx : x < 256) : (convert 43 9 (.slice (some ⟨w.heap.size, 0, none⟩) 1 1)).run Try.prog (w.alloc (.cells #[.int .u8 (x : Int)] 5)) = .ok (.string (bs [UInt8.ofNat x])) (w.alloc (.cells #[.int .u8 (x : Int)] 5)) := by
  refine run_convert_bytes_back _ _ _ 5 ⟨w.heap.size, 0, none⟩ 1 [UInt8.ofNat x] Try.underlying43 Try.underlying5 Try.underlying9 ?_
  intro j hj
  have : j = 0 := by simp at hj; omega
  subst this
  show _ = some (Value.int .u8 (((UInt8.ofNat x).toNat : Nat) : Int))
  rw [u8n hx]; simp [Addr.add]
theorem bs_snoc (b : List UInt8) (x : Nat) : bs b ++ bs [UInt8.ofNat x] = bs (b ++ [UInt8.ofNat x]) := bs_append _ _
theorem isE_snoc {α : Type} (b : List α) (x : α) : false = (b ++ [x]).isEmpty := by simp
theorem ne_snoc {α : Type} (b : List α) (x : α) : b ++ [x] ≠ [] := by simp
theorem bs_empty (b : List UInt8) : (bs b).toList.isEmpty = b.isEmpty := by rw [bs_toList]

set_option maxRecDepth 100000 in
set_option maxHeartbeats 6400000 in
theorem rparse_any (s : ByteArray) (w : World) (hs : s.size ≤ 50000) : Calls Try.prog 19 #[.string s] w fun e w' => e = .returned (.tuple #[.string (parseS s), .int .i64 (parseE s)]) ∧ Below w.heap.size w w' := by
  cases hdot : isDot s
  · have HPS := Lib.hid (show parseS s = match parseL s with | none => ⟨#[]⟩ | some L => joinS2 L by rw [parseS, hdot]; rfl)
    have HPE := Lib.hid (show parseE s = match parseL s with | none => 4 | some L => joinE2 L by rw [parseE, hdot]; rfl)
    have HNO := Lib.hid (show parseL s = none → Ending.returned (.tuple #[.string ⟨#[]⟩, .int .i64 4]) = Ending.returned (.tuple #[.string (parseS s), .int .i64 (parseE s)]) from fun h => ret_si (by rw [HPS.out, h]) (by rw [HPE.out, h]))
    have hd' : (s.toList == [46]) = false := hdot
    obtain ⟨i1, hi', hz0', hz1', hz2'⟩ := info_parts infoStr
    have HJ := Lib.hid hi'
    have HY0 := Lib.hid hz0'
    have HY1 := Lib.hid hz1'
    have HY2 := Lib.hid hz2'
    clear hdot hi' hz0' hz1' hz2'
    go_enter Try.func19, Try.ntmps19
    go_wp2_with fail
    go_loopw [4, 5, 6, 7] (fun vl vb vd i wr => ∃ (k : Nat) (l : List ByteArray) (b : List UInt8) (d : Bool), k ≤ s.size ∧ i = .int .i64 k ∧ wr.ownsRow w.heap.size 9 1 vl l.length (sc l) ∧ vb = .string (bs b) ∧ vd = .bool d ∧ Below w.heap.size w wr ∧ l.length ≤ k ∧ b.length ≤ k ∧ Hid (Sml l k) ∧ Hid (parseL s = pRun s s.size l b k) ∧ Hid (d = b.isEmpty) ∧ Hid (k = 0 ∨ l ≠ [] ∨ b ≠ [])) (fun _ _ _ i _ => s.size - (intOf i).toNat)
    case atStart => exact ⟨0, [], [], true, Nat.zero_le _, rfl, World.ownsRow_nil _ _ _ _, rfl, rfl, Below.refl _ _, Nat.le_refl _, Nat.le_refl _, fun j hj => absurd hj (by simp), rfl, rfl, Or.inl rfl⟩
    case round =>
      obtain ⟨k, l, b, d, hk, rfl, hol, rfl, rfl, hbel, hlk, hbk, hsm, hp, hdd, hor⟩ := hrel
      obtain ⟨la, lc, rfl⟩ := own_shape hol
      have HOL := Lib.hid hol
      have HB := Lib.hid hbel
      have hsz := hbel.size
      have hst := pRun_step s l b k
      have hbs : (bs b).size ≤ 50000 := by rw [bs_size]; omega
      have HBE := Lib.hid (bs_empty b)
      have HBN := Lib.hid (fun x => bs_snoc b x)
      clear hol hbel
      by_cases hlt : k < s.size
      · rw [if_pos hlt] at hst
        have hg := byte_get hlt
        have hbl := byteAt_lt s k
        have hE1 := fun x => ext_one s k x hlt
        have hrs : (s.extract k s.size).size = s.size - k := extract_size _ _ _ (Nat.le_refl _)
        have hby : ∀ j, k + j < s.size → byteAt (s.extract k s.size) j = byteAt s (k + j) := fun j hj => byteAt_extract _ _ _ _ (Nat.le_refl _) hj
        have hb0 := hby 0 (by omega)
        rw [Nat.add_zero] at hb0
        obtain ⟨lb, hlb⟩ : ∃ lb, bs b = lb := ⟨_, rfl⟩
        rw [hlb] at hbs HBE HBN ⊢
        obtain ⟨r, hr⟩ : ∃ r, s.extract k s.size = r := ⟨_, rfl⟩
        rw [hr] at hst hrs hby hb0
        obtain ⟨x, hx⟩ : ∃ x, byteAt s k = x := ⟨_, rfl⟩
        have HE1 := Lib.hid (hE1 x hx)
        rw [hx] at hst hg hbl hb0
        have HLB := Lib.hid hlb
        have HBY := Lib.hid hby
        have HRS := Lib.hid hrs
        have HB0 := Lib.hid hb0
        clear hx hr hlb hby hrs hb0 hE1
        have hk5 : k ≤ 50000 := by omega
        by_cases c46 : x = 46
        · subst c46
          rw [if_pos rfl] at hst
          by_cases cb : b = []
          · subst cb
            rw [if_pos rfl] at hst
            have HN := Lib.hid (hp.out.trans hst)
            have hem : lb.toList.isEmpty = true := HBE.out
            clear hst hp
            go_wp2
            go_ret2
            exact ⟨HNO.out HN.out, HB.out⟩
          · rw [if_neg cb] at hst
            have HN := Lib.hid (hp.out.trans hst)
            have hem : lb.toList.isEmpty = false := by
              rw [HBE.out]
              cases b with
              | nil => exact absurd rfl cb
              | cons _ _ => rfl
            have hl1 : l.length ≤ 50000 := by omega
            clear hst hp
            go_wp2_with (first | (at_builtin; refine wpList_append_own _ rfl _ _ 22 rfl w.heap.size 9 i1 (.string ⟨#[]⟩) 1 16 Try.underlying22 HJ.out HY0.out HY1.out HY2.out rfl (by decide) _ l.length _ rfl (HOL.out.alloc _) ⟨wr.heap.size, 0, none⟩ 1 1 [.string lb] rfl rfl ?c1 ?c2 ?c3 ?c4 ?c5 ?_))
            case c1 => exact cell_one_new _ _ _
            case c2 => exact one_str _
            case c3 => unfold maxLen; omega
            case c4 => omega
            case c5 => simp; omega
            intro v2 w2 hown2 hgrow2 _
            have HB2 := Lib.hid (below_appendS HB.out hsz HOL.out hgrow2)
            have hq : sc l ++ [Value.string lb] = sc (l ++ [bs b]) := by rw [sc_append, HLB.out]; rfl
            have hq2 : l.length + 1 = (l ++ [bs b]).length := by simp
            rw [hq, hq2] at hown2
            have HO2 := Lib.hid hown2
            clear hown2 hgrow2 hq hq2
            go_wp2_with fail
            go_roundw
            case rel => exact ⟨k + 1, l ++ [bs b], [], true, by omega, by go_num, HO2.out, rfl, rfl, HB2.out, by simp; omega, by simp, sml_next hsm.out (by omega) (by rw [bs_size]; omega), HN.out, rfl, Or.inr (Or.inl (ne_snoc _ _))⟩
            case measure => simp [intOf]; omega
        · rw [if_neg c46] at hst
          have e46 : ((x : Int) == 46) = false := eF (by omega)
          by_cases c92 : x = 92
          · subst c92
            by_cases c1 : 1 < r.size ∧ (byteAt r 1 = 46 ∨ byteAt r 1 = 92)
            · have hrv : readV r = (byteAt r 1, 2) := by rw [readV, if_neg (fun h => h HB0.out), if_pos c1]
              rw [hrv] at hst
              have hk1 : k + 1 < s.size := by have := HRS.out; omega
              have hy := HBY.out 1 hk1
              rw [hy] at hst c1
              have hg1 := byte_get hk1
              have hbl1 := byteAt_lt s (k + 1)
              have HE2 := Lib.hid (fun y => ext_one s (k + 1) y hk1)
              obtain ⟨y, hyy⟩ : ∃ y, byteAt s (k + 1) = y := ⟨_, rfl⟩
              have HE3 := Lib.hid (HE2.out y hyy)
              rw [hyy] at hst c1 hg1 hbl1
              have HN : Hid (parseL s = pRun s s.size l (b ++ [UInt8.ofNat y]) (k + 2)) := Lib.hid (hp.out.trans (hst.trans (if_neg (Nat.succ_ne_zero 1))))
              have hEs : (s.extract (k + 1) (k + 2)).size ≤ 1 := by rw [extract_size _ _ _ (by omega)]; omega
              obtain ⟨E3, hE3⟩ : ∃ C, s.extract (k + 1) (k + 2) = C := ⟨_, rfl⟩
              have HLN := Lib.hid (show lb ++ E3 = bs (b ++ [UInt8.ofNat y]) by rw [← hE3]; rw [HE3.out]; exact HBN.out y)
              rw [hE3] at hEs
              have t1 : (k : Int) + 1 < (s.size : Int) := by omega
              have t2 : (k : Int) + 2 ≤ (s.size : Int) := by omega
              have hd : ((y : Int) == 46) = true ∨ ((y : Int) == 46) = false ∧ ((y : Int) == 92) = true := by
                rcases c1.2 with h | h
                · exact Or.inl (eT (by omega))
                · exact Or.inr ⟨eF (by omega), eT (by omega)⟩
              clear hst hp c1 hrv hy hyy HE2 c46
              rcases hd with e1 | ⟨e1, e2⟩
              all_goals
                go_wp2
                go_roundw
                case rel => exact ⟨k + 2, l, b ++ [UInt8.ofNat y], false, by omega, by go_num, HOL.out, by rw [HLN.out], rfl, HB.out, by omega, by simp; omega, fun j hj => Nat.le_trans (hsm.out j hj) (by omega), HN.out, isE_snoc _ _, Or.inr (Or.inr (ne_snoc _ _))⟩
                case measure => simp [intOf]; omega
            · have hd : decide ((k : Int) + 1 < (s.size : Int)) = false ∨ ∃ h : k + 1 < s.size, decide ((k : Int) + 1 < (s.size : Int)) = true ∧ ∃ y : Nat, (s[k + 1]).toNat = y ∧ y < 256 ∧ ((y : Int) == 46) = false ∧ ((y : Int) == 92) = false := by
                by_cases h : k + 1 < s.size
                · right
                  refine ⟨h, dT (by omega), byteAt s (k + 1), byte_get h, byteAt_lt _ _, ?_⟩
                  have h1 := HBY.out 1 h
                  have h2 := HRS.out
                  rw [← h1]
                  exact ⟨eF (by intro e; exact c1 ⟨by omega, Or.inl (by omega)⟩), eF (by intro e; exact c1 ⟨by omega, Or.inr (by omega)⟩)⟩
                · exact Or.inl (dF (by omega))
              have HL := Lib.hid (fun h => readV_lack HB0.out c1 h)
              have HD := Lib.hid (fun h4 h => readV_dig HB0.out c1 h4 h)
              have HST := Lib.hid (hp.out.trans hst)
              clear hst hp c1 c46
              have hbk2 : b.length ≤ 50000 := by omega
              rcases hd with d1 | ⟨h1, d1, y, g1, g2, g3, g4⟩
              all_goals
                go_wp2_with fail
                go_loop [9, 10] (fun n kk => ∃ q v : Nat, 1 ≤ q ∧ q ≤ 4 ∧ kk = .int .i64 q ∧ n = .int .i64 v ∧ v < 1000 ∧ Hid (v = dv r (q - 1)) ∧ k + q ≤ s.size ∧ Hid (∀ j, 1 ≤ j → j < q → digOk (byteAt r j) = true)) (fun _ kk => 4 - (intOf kk).toNat)
                case atStart => exact ⟨1, 0, by omega, by omega, rfl, rfl, by omega, rfl, by omega, fun j h1 h2 => absurd h2 (by omega)⟩
                case round =>
                  obtain ⟨q, v, q1, q4, rfl, rfl, hv, hdv, hks, hall⟩ := hrel
                  have w0 := dv_le (s := r) (q - 1) (fun j a c => hall.out j a (by omega))
                  by_cases hq3 : q ≤ 3
                  · have hdn : dv r q = 10 * dv r (q - 1) + (byteAt r q - 48) := by
                      obtain ⟨m, rfl⟩ : ∃ m, q = m + 1 := ⟨q - 1, by omega⟩
                      rfl
                    have hq100 : v < 100 := by
                      rw [hdv.out]
                      rcases (by omega : q - 1 = 0 ∨ q - 1 = 1 ∨ q - 1 = 2) with h | h | h <;> (rw [h] at w0 ⊢; omega)
                    rw [← hdv.out] at hdn
                    have hpw : ((k + q : Nat) : Int) = (k : Int) + (q : Int) := by omega
                    obtain ⟨p, hp⟩ : ∃ p, k + q = p := ⟨_, rfl⟩
                    have h9 := HBY.out q
                    have hr9 := HRS.out
                    rw [hp] at hpw h9
                    have w9 : IntKind.i64.wrap ((k : Int) + (q : Int)) = (p : Int) := by rw [IntKind.wrap_i64]; omega
                    have hpw' := hpw.symm
                    have tq := dT (p := (q : Int) ≤ 3) (by omega)
                    by_cases cs : s.size ≤ p
                    · have HN := Lib.hid (show parseL s = none by rw [HST.out, if_pos (HL.out ⟨q, q1, hq3, Or.inl (by omega)⟩)])
                      have t1 := dT (p := s.size ≤ p) cs
                      clear w0 hdn h9 hr9 hp hpw
                      go_wp2
                      go_ret2
                      exact ⟨HNO.out HN.out, HB.out⟩
                    · have hps : p < s.size := by omega
                      have hbr := h9 hps
                      have hg2 := byte_get hps
                      have hlb2 := byteAt_lt s p
                      have t1 := dF (p := s.size ≤ p) cs
                      by_cases cd : digOk (byteAt s p) = true
                      · have HA := Lib.hid (show ∀ j, 1 ≤ j → j < q + 1 → digOk (byteAt r j) = true by
                          intro j h1 h2
                          by_cases e : j = q
                          · subst e; rw [hbr]; exact cd
                          · exact hall.out j h1 (by omega))
                        have HV := Lib.hid (show 10 * v + (byteAt s p - 48) = dv r (q + 1 - 1) by rw [Nat.add_sub_cancel, hdn, hbr])
                        simp only [digOk, decide_eq_true_eq] at cd
                        obtain ⟨z, hz⟩ : ∃ z, byteAt s p = z := ⟨_, rfl⟩
                        rw [hz] at hg2 hlb2 cd HV
                        obtain ⟨cd1, cd2⟩ := cd
                        have t2 := dF (p := (z : Int) < 48) (by omega)
                        have t3 := dF (p := (57 : Int) < (z : Int)) (by omega)
                        clear w0 hdn h9 hr9 hp hpw hbr hz hdv hall cs
                        go_wp2
                        go_round
                        case rel => exact ⟨q + 1, 10 * v + (z - 48), by omega, by omega, by go_num, by rw [show ((10 * v + (z - 48) : Nat) : Int) = 10 * (v : Int) + ((z : Int) - 48) by omega], by omega, HV.out, by omega, HA.out⟩
                        case measure => simp [intOf]; omega
                      · have cd' : digOk (byteAt s p) = false := by simpa using cd
                        have HN := Lib.hid (show parseL s = none by rw [HST.out, if_pos (HL.out ⟨q, q1, hq3, Or.inr (by rw [hbr]; exact cd')⟩)])
                        simp only [digOk, decide_eq_false_iff_not] at cd'
                        obtain ⟨z, hz⟩ : ∃ z, byteAt s p = z := ⟨_, rfl⟩
                        rw [hz] at hg2 hlb2 cd'
                        have hd2 : decide ((z : Int) < 48) = true ∨ decide ((z : Int) < 48) = false ∧ decide ((57 : Int) < (z : Int)) = true := by
                          simp only [decide_eq_true_eq, decide_eq_false_iff_not]; omega
                        clear w0 hdn h9 hr9 hp hpw hbr hz hdv hall cs cd cd'
                        rcases hd2 with t2 | ⟨t2, t3⟩
                        all_goals
                          go_wp2
                          go_ret2
                          exact ⟨HNO.out HN.out, HB.out⟩
                  · have hq : q = 4 := by omega
                    subst hq
                    have hrv := HD.out (by have := HRS.out; omega) (fun j a c => hall.out j a (by omega))
                    rw [show dv r 3 = v from hdv.out.symm] at hrv
                    by_cases c255 : v ≤ 255
                    · rw [if_pos c255] at hrv
                      have HN : Hid (parseL s = pRun s s.size l (b ++ [UInt8.ofNat v]) (k + 4)) := Lib.hid (by rw [HST.out, hrv, if_neg (Nat.succ_ne_zero 3)])
                      have t5 := dF (p := (255 : Int) < (v : Int)) (by omega)
                      have hconv := conv_lit1 wr v (by omega)
                      have HLN := Lib.hid (HBN.out v)
                      have hC1 : (bs [UInt8.ofNat v]).size ≤ 1 := by rw [bs_size]; exact Nat.le_refl _
                      obtain ⟨C1, hC⟩ : ∃ C, bs [UInt8.ofNat v] = C := ⟨_, rfl⟩
                      rw [hC] at hconv HLN hC1
                      clear hrv w0 hC hdv hall hq3
                      go_wp2
                      go_roundw
                      case rel => exact ⟨k + 4, l, b ++ [UInt8.ofNat v], false, by omega, by go_num, HOL.out.alloc _, by rw [HLN.out], rfl, HB.out.alloc hsz _, by omega, by simp; omega, fun j hj => Nat.le_trans (hsm.out j hj) (by omega), HN.out, isE_snoc _ _, Or.inr (Or.inr (ne_snoc _ _))⟩
                      case measure => simp [intOf]; omega
                    · rw [if_neg c255] at hrv
                      have HN := Lib.hid (show parseL s = none by rw [HST.out, hrv, if_pos rfl])
                      have t5 := dT (p := (255 : Int) < (v : Int)) (by omega)
                      clear hrv w0 hdv hall hq3
                      go_wp2
                      go_ret2
                      exact ⟨HNO.out HN.out, HB.out⟩
          · have e92 : ((x : Int) == 92) = false := eF (by omega)
            by_cases cp : plainN x = true
            · have hrv : readV r = (x, 1) := by rw [readV, HB0.out, if_pos c92, if_pos cp]
              rw [hrv] at hst
              have HN : Hid (parseL s = pRun s s.size l (b ++ [UInt8.ofNat x]) (k + 1)) := Lib.hid (hp.out.trans (hst.trans (if_neg (Nat.succ_ne_zero 0))))
              simp only [plainN, decide_eq_true_eq] at cp
              have t1 := dF (p := (x : Int) < 33) (by omega)
              have t2 := dF (p := (126 : Int) < (x : Int)) (by omega)
              have hEs : (s.extract k (k + 1)).size ≤ 1 := by rw [extract_size _ _ _ (by omega)]; omega
              obtain ⟨E3, hE3⟩ : ∃ C, s.extract k (k + 1) = C := ⟨_, rfl⟩
              have HLN := Lib.hid (show lb ++ E3 = bs (b ++ [UInt8.ofNat x]) by rw [← hE3, HE1.out]; exact HBN.out x)
              rw [hE3] at hEs
              have t3 : (k : Int) + 1 ≤ (s.size : Int) := by omega
              clear hst hp hrv cp c46 c92
              go_wp2
              go_roundw
              case rel => exact ⟨k + 1, l, b ++ [UInt8.ofNat x], false, by omega, by go_num, HOL.out, by rw [HLN.out], rfl, HB.out, by omega, by simp; omega, fun j hj => Nat.le_trans (hsm.out j hj) (by omega), HN.out, isE_snoc _ _, Or.inr (Or.inr (ne_snoc _ _))⟩
              case measure => simp [intOf]; omega
            · have hrv : readV r = (0, 0) := by rw [readV, HB0.out, if_pos c92, if_neg cp]
              rw [hrv] at hst
              have HN := Lib.hid (hp.out.trans (hst.trans (if_pos rfl)))
              simp only [plainN, decide_eq_true_eq] at cp
              have hd2 : decide ((x : Int) < 33) = true ∨ decide ((x : Int) < 33) = false ∧ decide ((126 : Int) < (x : Int)) = true := by
                simp only [decide_eq_true_eq, decide_eq_false_iff_not]; omega
              clear hst hp hrv cp c46 c92
              rcases hd2 with t1 | ⟨t1, t2⟩
              all_goals
                go_wp2
                go_ret2
                exact ⟨HNO.out HN.out, HB.out⟩
      · rw [if_neg hlt] at hst
        have HN := Lib.hid (hp.out.trans hst)
        obtain ⟨lb, hlb⟩ : ∃ lb, bs b = lb := ⟨_, rfl⟩
        rw [hlb]
        rw [hlb] at hbs
        have HLB := Lib.hid hlb
        clear hst hp HBN HBE hlb
        by_cases hs0 : s.size = 0
        · have hempty : s.toList.isEmpty = true := by
            rw [Lib.toList_data]
            have := size_data s
            cases h : s.data.toList with
            | nil => rfl
            | cons x y => rw [h] at this; simp at this; omega
          have HN2 := Lib.hid (show parseL s = none by
            have e1 : l = [] := List.eq_nil_of_length_eq_zero (by omega)
            have e2 : b = [] := List.eq_nil_of_length_eq_zero (by omega)
            rw [HN.out, e1, e2]; rfl)
          go_wp2
          go_ret2
          exact ⟨HNO.out HN2.out, HB.out⟩
        · have hempty : s.toList.isEmpty = false := by
            rw [Lib.toList_data]
            have := size_data s
            cases h : s.data.toList with
            | nil => rw [h] at this; simp at this; omega
            | cons x y => rfl
          by_cases cb : b = []
          · subst cb
            have hd1 : d = true := hdd.out
            subst hd1
            have cl : l ≠ [] := by
              rcases hor.out with h | h | h
              · omega
              · exact h
              · exact absurd rfl h
            have HN2 := Lib.hid (show parseL s = some l by rw [HN.out, pEnd, if_pos rfl, if_neg cl])
            obtain ⟨a1, c1, hv, hrow, _⟩ := rowS_of_own HOL.out
            injection hv with v1 v2 v3
            subst v1
            have HROW := Lib.hid hrow
            have HL1 := Lib.hid (show l.length ≤ 100000 by omega)
            have HS2 := Lib.hid (show ∀ j, j < l.length → (tx l j).size ≤ 1000000 from fun j hj => Nat.le_trans (hsm.out j hj) (by omega))
            clear hrow v2 v3
            go_wp2_with fail
            refine (rjoinName_any _ _ _ l _ HROW.out HL1.out HS2.out).mono ?_; rintro e w2 ⟨rfl, hb⟩
            have HB2 := Lib.hid (HB.out.trans (hb.mono HB.out.size))
            clear hb
            go_wp2
            go_ret2
            exact ⟨ret_si (by rw [HPS.out, HN2.out]) (by rw [HPE.out, HN2.out]), HB2.out⟩
          · have hd1 : d = false := by
              rw [hdd.out]
              cases b with
              | nil => exact absurd rfl cb
              | cons _ _ => rfl
            subst hd1
            have HN2 := Lib.hid (show parseL s = some (l ++ [bs b]) by rw [HN.out, pEnd, if_neg cb])
            have hl1 : l.length ≤ 100000 := by omega
            have hbs2 : (bs b).size ≤ k + 1 := by rw [bs_size]; omega
            have HS2 := Lib.hid (show ∀ j, j < (l ++ [bs b]).length → (tx (l ++ [bs b]) j).size ≤ 1000000 from fun j hj => Nat.le_trans (sml_next hsm.out (Nat.le_succ k) hbs2 j hj) (by omega))
            have HLE := Lib.hid (show (l ++ [bs b]).length = l.length + 1 by simp)
            clear hbs2
            go_wp2_with (first | (at_builtin; refine wpList_append_own _ rfl _ _ 22 rfl w.heap.size 9 i1 (.string ⟨#[]⟩) 1 16 Try.underlying22 HJ.out HY0.out HY1.out HY2.out rfl (by decide) _ l.length _ rfl (HOL.out.alloc _) ⟨wr.heap.size, 0, none⟩ 1 1 [.string lb] rfl rfl ?c1 ?c2 ?c3 ?c4 ?c5 ?_))
            case c1 => exact cell_one_new _ _ _
            case c2 => exact one_str _
            case c3 => unfold maxLen; omega
            case c4 => omega
            case c5 => simp; omega
            intro v2 w2 hown2 hgrow2 _
            have HB2 := Lib.hid (below_appendS HB.out hsz HOL.out hgrow2)
            rw [show sc l ++ [Value.string lb] = sc (l ++ [bs b]) by rw [sc_append, HLB.out]; rfl] at hown2
            obtain ⟨a1, c1, hv, hrow, _⟩ := rowS_of_own hown2
            subst hv
            have HROW := Lib.hid hrow
            clear hrow hown2 hgrow2
            go_wp2_with fail
            refine (rjoinName_any _ _ _ (l ++ [bs b]) _ HROW.out (by omega) (by have := HS2.out; rw [HLE.out] at this; exact this)).mono ?_; rintro e w3 ⟨rfl, hb⟩
            have HB3 := Lib.hid (HB2.out.trans (hb.mono HB2.out.size))
            clear hb
            go_wp2
            go_ret2
            exact ⟨ret_si (by rw [HPS.out, HN2.out]) (by rw [HPE.out, HN2.out]), HB3.out⟩
  · have HPS := Lib.hid (show parseS s = ⟨#[0]⟩ by rw [parseS, hdot]; rfl)
    have HPE := Lib.hid (show parseE s = 0 by rw [parseE, hdot]; rfl)
    have hd' : (s.toList == [46]) = true := hdot
    clear hdot
    go_enter Try.func19, Try.ntmps19
    go_wp2
    go_ret2
    exact ⟨ret_si HPS.out.symm HPE.out.symm, Below.refl _ _⟩
end Go.Proofs.Ytngncdmmlkcekaa
