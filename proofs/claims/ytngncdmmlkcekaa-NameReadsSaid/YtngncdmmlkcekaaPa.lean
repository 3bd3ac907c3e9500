/- The contract of name.Parse (chapter 2), over this seat's translation. -/
import Derived.Test.YtngncdmmlkcekaaPrs
import Derived.Test.YtngncdmmlkcekaaJn
import Derived.Test.YtngncdmmlkcekaaLbl
import Derived.Deep.AppendLies
import Derived.Deep.RegionLaw
import Derived.Lib.Strings
namespace Go.Proofs.Ytngncdmmlkcekaa
open Go.RowKit

def pEnd (l : List ByteArray) (b : List UInt8) : Option (List ByteArray) := if b = [] then (if l = [] then none else some l) else some (l ++ [bs b])
def pRun (s : ByteArray) : Nat → List ByteArray → List UInt8 → Nat → Option (List ByteArray)
  | 0, l, b, _ => pEnd l b
  | f + 1, l, b, k => if k < s.size then (if byteAt s k = 46 then (if b = [] then none else pRun s f (l ++ [bs b]) [] (k + 1)) else (if (readV (s.extract k s.size)).2 = 0 then none else pRun s f l (b ++ [UInt8.ofNat (readV (s.extract k s.size)).1]) (k + (readV (s.extract k s.size)).2))) else pEnd l b
theorem pRun_more (s : ByteArray) : ∀ (f : Nat) (l : List ByteArray) (b : List UInt8) (k : Nat), s.size ≤ k + f → pRun s (f + 1) l b k = pRun s f l b k := by
  intro f
  induction f with
  | zero => intro l b k h; show (if k < s.size then _ else pEnd l b) = pEnd l b; rw [if_neg (by omega)]
  | succ f ih =>
    intro l b k h
    rw [pRun]
    conv => rhs; rw [pRun]
    by_cases c1 : k < s.size
    · rw [if_pos c1, if_pos c1]
      by_cases c2 : byteAt s k = 46
      · rw [if_pos c2, if_pos c2]
        by_cases c3 : b = []
        · rw [if_pos c3, if_pos c3]
        · rw [if_neg c3, if_neg c3, ih _ _ _ (by omega)]
      · rw [if_neg c2, if_neg c2]
        by_cases c4 : (readV (s.extract k s.size)).2 = 0
        · rw [if_pos c4, if_pos c4]
        · rw [if_neg c4, if_neg c4, ih _ _ _ (by omega)]
    · rw [if_neg c1, if_neg c1]
theorem pRun_step (s : ByteArray) (l : List ByteArray) (b : List UInt8) (k : Nat) : pRun s s.size l b k = if k < s.size then (if byteAt s k = 46 then (if b = [] then none else pRun s s.size (l ++ [bs b]) [] (k + 1)) else (if (readV (s.extract k s.size)).2 = 0 then none else pRun s s.size l (b ++ [UInt8.ofNat (readV (s.extract k s.size)).1]) (k + (readV (s.extract k s.size)).2))) else pEnd l b := by
  rw [← pRun_more s s.size l b k (by omega), pRun]
theorem readV_rng (s : ByteArray) (h : 0 < s.size) : (readV s).1 < 256 ∧ (readV s).2 ≤ s.size ∧ (readV s).2 ≤ 4 := by
  have l0 := byteAt_lt s 0
  have l1 := byteAt_lt s 1
  unfold readV
  split
  · split
    · exact ⟨l0, h, by simp⟩
    · exact ⟨by decide, Nat.zero_le _, by decide⟩
  · split
    · rename_i h1
      exact ⟨l1, h1.1, by simp⟩
    · split
      · exact ⟨by decide, Nat.zero_le _, by decide⟩
      · split
        · split
          · rename_i h4 _ h5
            exact ⟨Nat.lt_of_le_of_lt h5 (by decide), by simp; omega, by simp⟩
          · exact ⟨by decide, Nat.zero_le _, by decide⟩
        · exact ⟨by decide, Nat.zero_le _, by decide⟩
def parseL (s : ByteArray) : Option (List ByteArray) := pRun s s.size [] [] 0
def isDot (s : ByteArray) : Bool := s.toList == [46]
def parseE (s : ByteArray) : Int := if isDot s = true then 0 else match parseL s with | none => 4 | some L => joinE2 L
def parseS (s : ByteArray) : ByteArray := if isDot s = true then ⟨#[0]⟩ else match parseL s with | none => ⟨#[]⟩ | some L => joinS2 L
theorem extract_from (s : ByteArray) (k n : Nat) (h : k + n ≤ s.size) : (s.extract k s.size).extract n (s.extract k s.size).size = s.extract (k + n) s.size := by
  apply ba_eq
  rw [extract_toList, extract_toList, extract_toList, extract_size _ _ _ (Nat.le_refl _)]
  have hl := size_data s
  rw [List.take_of_length_le (by rw [List.length_drop, List.length_take, List.length_drop]; omega), List.take_of_length_le (by rw [List.length_drop]; omega), List.take_of_length_le (by rw [List.length_drop]; omega), List.drop_drop]
theorem own_ne {w : World} {B n1 n2 : Nat} {v1 v2 : Value} {x1 x2 : List Value} (h1 : w.ownsRow B 9 1 v1 n1 x1) (h2 : w.ownsRow B 5 1 v2 n2 x2) : v2.ownBlock = none ∨ v2.ownBlock ≠ v1.ownBlock := by
  rcases h2.2 with ⟨rfl, _⟩ | ⟨g2, c2, u2, rfl, _, hg2, _⟩
  · exact Or.inl rfl
  · right
    rcases h1.2 with ⟨rfl, _⟩ | ⟨g1, c1, u1, rfl, _, hg1, _⟩
    · simp [Value.ownBlock]
    · simp only [Value.ownBlock]
      intro h
      have hgg : g2 = g1 := by simpa using h
      subst hgg
      rw [hg1] at hg2
      simp at hg2
theorem own_ne' {w : World} {B n1 n2 : Nat} {v1 v2 : Value} {x1 x2 : List Value} (h1 : w.ownsRow B 9 1 v1 n1 x1) (h2 : w.ownsRow B 5 1 v2 n2 x2) : v1.ownBlock = none ∨ v1.ownBlock ≠ v2.ownBlock := by
  rcases own_ne h1 h2 with h | h
  · cases h3 : v1.ownBlock with
    | none => exact Or.inl rfl
    | some g => right; rw [h]; simp
  · exact Or.inr fun e => h e.symm
theorem below_appendD {w wr w' : World} {v : Value} {B n : Nat} {e : TypeId} {xs : List Value} {o : Obj} (hb : Below B w wr) (hB : B ≤ wr.heap.size) (hown : wr.ownsRow B e 1 v n xs) (hg : (wr.alloc o).drew.grownBy w' v.ownBlock) : Below B w w' :=
  ((hb.alloc hB o).drew).grown hg (by simp; omega) (fun k hk => (hown.lt k hk).1)
/-- All labels so far are short. -/
def Sml (l : List ByteArray) (m : Nat) : Prop := ∀ j, j < l.length → (tx l j).size ≤ m
theorem sml_next {l : List ByteArray} {s : ByteArray} {m n : Nat} (h : Sml l m) (hm : m ≤ n) (hs : s.size ≤ n) : Sml (l ++ [s]) n := by
  intro j hj
  by_cases e : j < l.length
  · have : tx (l ++ [s]) j = tx l j := by rw [tx, tx, List.getD_eq_getElem?_getD, List.getD_eq_getElem?_getD, List.getElem?_append_left e]
    rw [this]
    exact Nat.le_trans (h j e) hm
  · have ej : j = l.length := by simp at hj; omega
    subst ej
    have : tx (l ++ [s]) l.length = s := by rw [tx, List.getD_eq_getElem?_getD, List.getElem?_append_right (Nat.le_refl _)]; simp
    rw [this]; exact hs

set_option maxRecDepth 100000 in
set_option maxHeartbeats 3200000 in
theorem parse_any (s : ByteArray) (w : World) (hs : s.size ≤ 50000) : Calls Try.prog 18 #[.string s] w fun e w' => e = .returned (.tuple #[.string (parseS s), .int .i64 (parseE s)]) ∧ Below w.heap.size w w' := by
  cases hdot : isDot s
  · have HPS := Lib.hid (show parseS s = match parseL s with | none => ⟨#[]⟩ | some L => joinS2 L by rw [parseS, hdot]; rfl)
    have HPE := Lib.hid (show parseE s = match parseL s with | none => 4 | some L => joinE2 L by rw [parseE, hdot]; rfl)
    have hd' : (s.toList == [46]) = false := hdot
    obtain ⟨i0, hi, hz0, hz1, hz2⟩ := info_parts infoU8
    have HI := Lib.hid hi
    have HZ0 := Lib.hid hz0
    have HZ1 := Lib.hid hz1
    have HZ2 := Lib.hid hz2
    obtain ⟨i1, hi', hz0', hz1', hz2'⟩ := info_parts infoStr
    have HJ := Lib.hid hi'
    have HY0 := Lib.hid hz0'
    have HY1 := Lib.hid hz1'
    have HY2 := Lib.hid hz2'
    have HEX := Lib.hid (show s.extract 0 s.size = s from by apply ba_eq; rw [extract_toList, List.drop_zero, List.take_of_length_le (by rw [size_data]; omega)])
    clear hi hz0 hz1 hz2 hdot hi' hz0' hz1' hz2'
    go_enter Try.func18, Try.ntmps18
    go_wp2_with fail
    go_loopw [4, 5, 6] (fun vl vb r wr => ∃ (k : Nat) (l : List ByteArray) (b : List UInt8), k ≤ s.size ∧ r = .string (s.extract k s.size) ∧ wr.ownsRow w.heap.size 9 1 vl l.length (sc l) ∧ wr.ownsRow w.heap.size 5 1 vb b.length (bc b) ∧ Below w.heap.size w wr ∧ l.length ≤ k ∧ b.length ≤ k ∧ Hid (Sml l k) ∧ Hid (parseL s = pRun s s.size l b k)) (fun _ _ r _ => strOf r)
    case atStart => exact ⟨0, [], [], Nat.zero_le _, by rw [HEX.out], World.ownsRow_nil _ _ _ _, World.ownsRow_nil _ _ _ _, Below.refl _ _, Nat.le_refl _, Nat.le_refl _, fun j hj => absurd hj (by simp), rfl⟩
    case round =>
      obtain ⟨k, l, b, hk, rfl, hol, hob, hbel, hlk, hbk, hsm, hp⟩ := hrel
      obtain ⟨la, lc, rfl⟩ := own_shape hol
      obtain ⟨ba, bc', rfl⟩ := own_shape hob
      have HOL := Lib.hid hol
      have HOB := Lib.hid hob
      have HB := Lib.hid hbel
      have hsz := hbel.size
      have hst := pRun_step s l b k
      obtain ⟨r, hr⟩ : ∃ r, s.extract k s.size = r := ⟨_, rfl⟩
      have hrs : r.size = s.size - k := by rw [← hr]; exact extract_size _ _ _ (Nat.le_refl _)
      rw [hr]
      clear hol hob hbel
      by_cases hlt : k < s.size
      · rw [if_pos hlt, hr] at hst
        have hr0 : 0 < r.size := by omega
        have hb0 : byteAt r 0 = byteAt s k := by rw [← hr, byteAt_extract _ _ _ _ (Nat.le_refl _) (by omega), Nat.add_zero]
        have hg := (byte_get hr0).trans hb0
        have hbl := byteAt_lt s k
        have hne : r.toList.isEmpty = false := by
          rw [Lib.toList_data]
          cases h : r.data.toList with
          | nil =>
            have h8 := congrArg List.length h
            rw [size_data] at h8
            have h9 : r.size = 0 := h8
            omega
          | cons x y => rfl
        obtain ⟨x, hx⟩ : ∃ x, byteAt s k = x := ⟨_, rfl⟩
        rw [hx] at hst hg hbl
        have HR := Lib.hid hr
        have hrs2 : r.size ≤ 100000 := by omega
        have HRS := Lib.hid hrs
        clear hx hb0 hr hrs
        by_cases c46 : x = 46
        · subst c46
          rw [if_pos rfl] at hst
          by_cases cb : b = []
          · subst cb
            rw [if_pos rfl] at hst
            have HN := Lib.hid (hp.out.trans hst)
            clear hst hp
            go_wp2
            go_ret2
            exact ⟨ret_si (by rw [HPS.out, HN.out]) (by rw [HPE.out, HN.out]), HB.out⟩
          · rw [if_neg cb] at hst
            have HN := Lib.hid (hp.out.trans hst)
            have hbp : 0 < b.length := by cases b with
              | nil => exact absurd rfl cb
              | cons _ _ => simp
            have e1 : ((b.length : Int) == 0) = false := eF (by omega)
            have hcv : (convert 43 9 (.slice ba b.length bc')).run Try.prog wr.drew = .ok (.string (bs b)) wr.drew := conv_own HOB.out.drew
            have HL1 := Lib.hid (show l.length ≤ 100000 by omega)
            have hl1 : l.length ≤ 100000 := by omega
            have in1 : (1 : Int) ≤ (r.size : Int) := by omega
            have hbs : (bs b).size ≤ k + 1 := by rw [bs_size]; omega
            have HBS := Lib.hid hbs
            clear hst hp hbs
            go_wp2_with fail
            go_region_law (refine step_append_lies _ (by rfl) _ _ _ (by rfl) w.heap.size 9 i1 (.string ⟨#[]⟩) 1 16 Try.underlying22 HJ.out HY0.out HY1.out HY2.out rfl (by decide) _ l.length _ (by rfl) ((HOL.out.alloc _).drew) _ 1 _ _ (by rfl) (by rfl) (cell_one_new _ _ _) (one_str _) (by decide) (by unfold maxLen; omega) (by omega) (by simp; omega) _ rfl ?_; intro g cap w2 hown2 hgrow2 _ _; have HO2 := Lib.hid hown2; have HG2 := Lib.hid hgrow2; clear hown2 hgrow2)
            all_goals
              go_wp2
              simp only [Act.put, List.getElem_toArray, List.getElem_cons_succ, List.getElem_cons_zero, List.setIfInBounds_toArray, List.set_cons_zero, List.set_cons_succ]
              go_roundw
              case rel =>
                have h1 := HO2.out
                rw [show sc l ++ [Value.string (bs b)] = sc (l ++ [bs b]) by rw [sc_append]; rfl, show l.length + 1 = (l ++ [bs b]).length by simp] at h1
                exact ⟨k + 1, l ++ [bs b], [], by omega, by rw [← HR.out, extract_from s k 1 (by omega)], by rw [show l.length + 1 = (l ++ [bs b]).length by simp]; exact h1, World.ownsRow_nil _ _ _ _, below_appendD HB.out hsz HOL.out HG2.out, by simp; omega, by simp, sml_next hsm.out (by omega) HBS.out, HN.out⟩
              case measure => simp only [strOf]; rw [ByteArray.size_extract]; omega
        · have hne46 : ((x : Int) == 46) = false := eF (by omega)
          rw [if_neg c46] at hst
          have hrd := read_any r wr hr0 (by omega)
          obtain ⟨q1, q2, q3⟩ := readV_rng r hr0
          obtain ⟨c, hc⟩ : ∃ c, (readV r).1 = c := ⟨_, rfl⟩
          obtain ⟨n, hn⟩ : ∃ n, (readV r).2 = n := ⟨_, rfl⟩
          rw [hc] at hst hrd q1
          rw [hn] at hst hrd q2 q3
          have HRD := Lib.hid hrd
          clear hc hn hrd c46
          by_cases cn : n = 0
          · rw [if_pos cn] at hst
            have HN := Lib.hid (hp.out.trans hst)
            have e1 : ((n : Int) == 0) = true := eT (by omega)
            clear hst hp cn q2 q3
            go_wp2_with fail
            refine HRD.out.mono ?_; rintro e w' ⟨rfl, rfl⟩
            go_wp2
            go_ret2
            exact ⟨ret_si (by rw [HPS.out, HN.out]) (by rw [HPE.out, HN.out]), HB.out⟩
          · rw [if_neg cn] at hst
            have HN := Lib.hid (hp.out.trans hst)
            have e1 : ((n : Int) == 0) = false := eF (by omega)
            have hb1 : b.length ≤ 100000 := by omega
            have in1 : (n : Int) ≤ (r.size : Int) := by omega
            clear hst hp
            go_wp2_with fail
            refine HRD.out.mono ?_; rintro e w' ⟨rfl, rfl⟩
            go_wp2_with fail
            go_region_law (refine step_append_lies _ (by rfl) _ _ _ (by rfl) w.heap.size 5 i0 (.int .u8 0) 1 1 Try.underlying43 HI.out HZ0.out HZ1.out HZ2.out rfl (by decide) _ b.length _ (by rfl) ((HOB.out.alloc _).drew) _ 1 _ _ (by rfl) (by rfl) (cell_one_new _ _ _) (one_int _ _) (by decide) (by unfold maxLen; omega) (by omega) (by simp; omega) _ rfl ?_; intro g cap w2 hown2 hgrow2 _ _; have HO2 := Lib.hid hown2; have HG2 := Lib.hid hgrow2; clear hown2 hgrow2)
            all_goals
              go_wp2
              simp only [Act.put, List.getElem_toArray, List.getElem_cons_succ, List.getElem_cons_zero, List.setIfInBounds_toArray, List.set_cons_zero, List.set_cons_succ]
              go_roundw
              case rel =>
                have h1 := HO2.out
                rw [show bc b ++ [Value.int .u8 (c : Int)] = bc (b ++ [UInt8.ofNat c]) by rw [bc_append]; simp [bc, UInt8.toNat_ofNat_of_lt' (show c < UInt8.size from q1)], show b.length + 1 = (b ++ [UInt8.ofNat c]).length by simp] at h1
                have h2 := (HOL.out.alloc (.cells #[.int .u8 (c : Int)] 5)).drew.kept HG2.out (own_ne' HOL.out HOB.out)
                exact ⟨k + n, l, b ++ [UInt8.ofNat c], by have := HRS.out; omega, by rw [← HR.out, extract_from s k n (by have := HRS.out; omega)], h2, by rw [show b.length + 1 = (b ++ [UInt8.ofNat c]).length by simp]; exact h1, below_appendD HB.out hsz HOB.out HG2.out, by omega, by simp; omega, fun j hj => Nat.le_trans (hsm.out j hj) (by omega), HN.out⟩
              case measure => simp only [strOf]; rw [ByteArray.size_extract]; omega
      · rw [if_neg hlt] at hst
        have HN := Lib.hid (hp.out.trans hst)
        have hempty : r.toList.isEmpty = true := by
          rw [Lib.toList_data]
          have := size_data r
          cases h : r.data.toList with
          | nil => rfl
          | cons x y => rw [h] at this; simp at this; omega
        clear hst hp hr hrs
        by_cases cb : b = []
        · subst cb
          by_cases cl : l = []
          · subst cl
            have HN2 := Lib.hid (show parseL s = none by rw [HN.out]; rfl)
            go_wp2
            go_ret2
            exact ⟨ret_si (by rw [HPS.out, HN2.out]) (by rw [HPE.out, HN2.out]), HB.out⟩
          · have HN2 := Lib.hid (show parseL s = some l by rw [HN.out, pEnd, if_pos rfl, if_neg cl])
            have hlp : 0 < l.length := by cases l with
              | nil => exact absurd rfl cl
              | cons _ _ => simp
            have e2 : ((l.length : Int) == 0) = false := eF (by omega)
            obtain ⟨a1, c1, hv, hrow, _⟩ := rowS_of_own HOL.out
            injection hv with v1 v2 v3
            subst v1
            have HROW := Lib.hid hrow
            have HL1 := Lib.hid (show l.length ≤ 100000 by omega)
            have HS2 := Lib.hid (show ∀ j, j < l.length → (tx l j).size ≤ 1000000 from fun j hj => Nat.le_trans (hsm.out j hj) (by omega))
            clear hrow v2 v3
            go_wp2_with fail
            refine (joinName_any _ _ _ l _ HROW.out HL1.out HS2.out).mono ?_; rintro e w2 ⟨rfl, hb⟩
            have HB2 := Lib.hid (HB.out.trans (hb.mono HB.out.size))
            clear hb
            go_wp2
            go_ret2
            exact ⟨ret_si (by rw [HPS.out, HN2.out]) (by rw [HPE.out, HN2.out]), HB2.out⟩
        · have HN2 := Lib.hid (show parseL s = some (l ++ [bs b]) by rw [HN.out, pEnd, if_neg cb])
          have hbp : 0 < b.length := by cases b with
            | nil => exact absurd rfl cb
            | cons _ _ => simp
          have hcv : (convert 43 9 (.slice ba b.length bc')).run Try.prog wr = .ok (.string (bs b)) wr := conv_own HOB.out
          have hbs : (bs b).size ≤ k + 1 := by rw [bs_size]; omega
          have hl1 : l.length ≤ 100000 := by omega
          have HS2 := Lib.hid (show ∀ j, j < (l ++ [bs b]).length → (tx (l ++ [bs b]) j).size ≤ 1000000 from fun j hj => Nat.le_trans (sml_next hsm.out (Nat.le_succ k) hbs j hj) (by omega))
          have HL1 := Lib.hid (show (l ++ [bs b]).length ≤ 100000 by simp; omega)
          have HLE := Lib.hid (show (l ++ [bs b]).length = l.length + 1 by simp)
          clear hbs
          go_wp2_with (first | (at_builtin; refine wpList_append_own _ rfl _ _ 22 rfl w.heap.size 9 i1 (.string ⟨#[]⟩) 1 16 Try.underlying22 HJ.out HY0.out HY1.out HY2.out rfl (by decide) _ l.length _ rfl (HOL.out.alloc _) ⟨wr.heap.size, 0, none⟩ 1 1 [.string (bs b)] rfl rfl ?c1 ?c2 ?c3 ?c4 ?c5 ?_))
          case c1 => exact cell_one_new _ _ _
          case c2 => exact one_str _
          case c3 => unfold maxLen; omega
          case c4 => omega
          case c5 => simp; omega
          intro v2 w2 hown2 hgrow2 _
          have HB2 := Lib.hid (below_appendS HB.out hsz HOL.out hgrow2)
          rw [show sc l ++ [Value.string (bs b)] = sc (l ++ [bs b]) by rw [sc_append]; rfl] at hown2
          obtain ⟨a1, c1, hv, hrow, _⟩ := rowS_of_own hown2
          subst hv
          have HROW := Lib.hid hrow
          have e2 : (((l.length : Int) + 1) == 0) = false := eF (by omega)
          clear hrow hown2 hgrow2
          go_wp2_with fail
          refine (joinName_any _ _ _ (l ++ [bs b]) _ HROW.out (by have := HL1.out; have := HLE.out; omega) (by have := HS2.out; rw [HLE.out] at this; exact this)).mono ?_; rintro e w3 ⟨rfl, hb⟩
          have HB3 := Lib.hid (HB2.out.trans (hb.mono HB2.out.size))
          clear hb
          go_wp2
          go_ret2
          exact ⟨ret_si (by rw [HPS.out, HN2.out]) (by rw [HPE.out, HN2.out]), HB3.out⟩
  · have HPS := Lib.hid (show parseS s = ⟨#[0]⟩ by rw [parseS, hdot]; rfl)
    have HPE := Lib.hid (show parseE s = 0 by rw [parseE, hdot]; rfl)
    have hd' : (s.toList == [46]) = true := hdot
    clear hdot
    go_enter Try.func18, Try.ntmps18
    go_wp2
    go_ret2
    exact ⟨ret_si HPS.out.symm HPE.out.symm, Below.refl _ _⟩
end Go.Proofs.Ytngncdmmlkcekaa
