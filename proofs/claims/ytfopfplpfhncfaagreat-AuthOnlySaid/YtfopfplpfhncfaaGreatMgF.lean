/- Texts that others rest on, one behind the other: Prs, Low, Jn, Pa, Fst2, NTre, NTrf. -/
import Derived.Test.YtfopfplpfhncfaaGreatMgA
import Derived.LoopN
import Derived.Deep.MidRow
import Derived.OwnWalk
import Derived.Deep.AppendLies
import Derived.Deep.RegionLaw
import Derived.Lib.Strings
import Derived.Test.YtfopfplpfhncfaaGreatMgB
import Derived.Deep.RegionHeld3
import Derived.Deep.DeepCutAuto
section
namespace Go.Proofs.YtfopfplpfhncfaaGreat
open Go.RowKit

def plainN (b : Nat) : Bool := decide (33 ≤ b ∧ b ≤ 126 ∧ b ≠ 46 ∧ b ≠ 92)
def digOk (b : Nat) : Bool := decide (48 ≤ b ∧ b ≤ 57)
/-- The byte that stands ahead, and in how many it is told. -/
def readV (s : ByteArray) : Nat × Nat :=
  if byteAt s 0 ≠ 92 then (if plainN (byteAt s 0) = true then (byteAt s 0, 1) else (0, 0))
  else if 1 < s.size ∧ (byteAt s 1 = 46 ∨ byteAt s 1 = 92) then (byteAt s 1, 2)
  else if s.size < 4 then (0, 0)
  else if (digOk (byteAt s 1) && digOk (byteAt s 2) && digOk (byteAt s 3)) = true then
    (if 100 * (byteAt s 1 - 48) + 10 * (byteAt s 2 - 48) + (byteAt s 3 - 48) ≤ 255 then (100 * (byteAt s 1 - 48) + 10 * (byteAt s 2 - 48) + (byteAt s 3 - 48), 4) else (0, 0))
  else (0, 0)
theorem ret_ui {a b c d : Int} (h : a = b) (g : c = d) : Ending.returned (.tuple #[.int .u8 a, .int .i64 c]) = Ending.returned (.tuple #[.int .u8 b, .int .i64 d]) := by rw [h, g]

end Go.Proofs.YtfopfplpfhncfaaGreat
end

section
namespace Go.Proofs.YtfopfplpfhncfaaGreat
open Go.RowKit

/-- Bytes in a block. -/
def BytAt (w : World) (q n : Nat) (f : Nat → Int) : Prop := ∀ j, j < n → w.cell? ⟨q, j, none⟩ = some (.int .u8 (f j)) ∧ w.frozen? ⟨q, j, none⟩ = false
theorem BytAt.below {w w' : World} {q n : Nat} {f : Nat → Int} (h : BytAt w q n f) (hb : Below w.heap.size w w') : BytAt w' q n f := by
  intro j hj
  obtain ⟨h1, h2⟩ := h j hj
  have hlt : q < w.heap.size := block_lt_of_cell h1
  exact ⟨by rw [hb.cell hlt]; exact h1, by rw [hb.frozen hlt]; exact h2⟩
theorem BytAt.set {w : World} {q n : Nat} {f : Nat → Int} (h : BytAt w q n f) {k : Nat} (hk : k < n) (v : Int) : BytAt (w.setCell ⟨q, k, none⟩ (.int .u8 v)) q n (fun j => if j = k then v else f j) := by
  intro j hj
  obtain ⟨h1, h2⟩ := h j hj
  refine ⟨?_, by simpa using h2⟩
  show _ = some (Value.int .u8 (if j = k then v else f j))
  by_cases e : j = k
  · subst e
    rw [if_pos rfl]
    exact World.cell?_setCell_same _ _ _ h1
  · rw [if_neg e, World.cell?_setCell_other _ _ _ _ (by simp)]
    exact h1
theorem conv_at {w : World} {q n cap : Nat} {f : Nat → Int} {l : List UInt8} (h : BytAt w q n f) (hl : l.length = n) (hf : ∀ j, j < n → f j = ((l.getD j 0).toNat : Int)) :
    (convert 84 9 (.slice (some ⟨q, 0, none⟩) n cap)).run Tryz.prog w = .ok (.string (bs l)) w := by
  subst hl
  refine run_convert_bytes_back w _ _ 5 ⟨q, 0, none⟩ cap l Tryz.underlying84 Tryz.underlying5 Tryz.underlying9 ?_
  intro j hj
  have := (h j hj).1
  rw [hf j hj] at this
  have e : l.getD j 0 = l[j] := by rw [List.getD_eq_getElem?_getD, List.getElem?_eq_getElem hj]; rfl
  rw [e] at this
  rw [show (⟨q, 0, none⟩ : Addr).add j = ⟨q, j, none⟩ by simp only [Addr.add]; split <;> simp_all]
  exact this

/-- A small letter for a great one. -/
def low1 (b : UInt8) : UInt8 := if great b.toNat = true then UInt8.ofNat (b.toNat + 32) else b
def lowS (s : ByteArray) : ByteArray := bs (s.data.toList.map low1)
theorem low1_no {b : UInt8} (h : great b.toNat = false) : low1 b = b := by rw [low1, h]; rfl
theorem low1_yes {b : UInt8} (h : great b.toNat = true) : (low1 b).toNat = b.toNat + 32 := by
  rw [low1, if_pos h]
  simp only [great, decide_eq_true_eq] at h
  exact UInt8.toNat_ofNat_of_lt' (by have : UInt8.size = 256 := rfl; omega)
theorem lowS_size (s : ByteArray) : (lowS s).size = s.size := by rw [lowS, bs_size]; simp
theorem lowS_no {s : ByteArray} (h : anyG s 0 s.size = false) : lowS s = s := by
  have hall : ∀ j, j < s.size → great (byteAt s j) = false := by
    intro j hj
    cases hg : great (byteAt s j)
    · rfl
    · have := anyG_yes (s := s) (at' := 0) (n := s.size) hj (by rw [Nat.zero_add]; exact hg)
      rw [h] at this
      cases this
  have : s.data.toList.map low1 = s.data.toList := by
    apply List.ext_getElem (by simp)
    intro i h1 h2
    rw [List.getElem_map]
    have h3 := hall i (by simpa using h2)
    rw [byteAt, List.getD_eq_getElem?_getD, List.getElem?_eq_getElem h2] at h3
    exact low1_no h3
  rw [lowS, this]
  rfl
/-- Half lowered. -/
def lowF (s : ByteArray) (k j : Nat) : Int := if j < k then ((low1 (s.data.toList.getD j 0)).toNat : Int) else (byteAt s j : Int)
theorem lowF_end (s : ByteArray) (j : Nat) (h : j < s.size) : lowF s s.size j = (((s.data.toList.map low1).getD j 0).toNat : Int) := by
  have hj : j < s.data.toList.length := by simpa using h
  rw [lowF, if_pos h, List.getD_eq_getElem?_getD, List.getD_eq_getElem?_getD, List.getElem?_map, List.getElem?_eq_getElem hj]
  rfl
theorem lowF_at (s : ByteArray) (k : Nat) : lowF s k k = (byteAt s k : Int) := by rw [lowF, if_neg (by omega)]
theorem lowF_no (s : ByteArray) (k : Nat) (h : great (byteAt s k) = false) : lowF s (k + 1) = lowF s k := by
  funext j
  unfold lowF
  by_cases e : j = k
  · subst e
    rw [if_pos (by omega), if_neg (by omega), low1_no h]
    rfl
  · by_cases h : j < k
    · rw [if_pos h, if_pos (by omega)]
    · rw [if_neg h, if_neg (by omega)]
theorem lowF_yes (s : ByteArray) (k : Nat) (h : great (byteAt s k) = true) : (fun j => if j = k then (byteAt s k : Int) + 32 else lowF s k j) = lowF s (k + 1) := by
  funext j
  unfold lowF
  by_cases e : j = k
  · subst e
    rw [if_pos rfl, if_pos (by omega), low1_yes h]
    rfl
  · rw [if_neg e]
    by_cases h : j < k
    · rw [if_pos h, if_pos (by omega)]
    · rw [if_neg h, if_neg (by omega)]

set_option maxRecDepth 100000 in
theorem lower_any (s : ByteArray) (w : World) (hs : s.size ≤ 1000000) : Calls Tryz.prog 221 #[.string s] w fun e w' => e = .returned (.string (lowS s)) ∧ Below w.heap.size w w' := by
  cases hg : anyG s 0 s.size
  · have HG := Lib.hid hg
    have HV := Lib.hid (lowS_no hg)
    clear hg
    go_enter Tryz.func221, Tryz.ntmps221
    go_wp2_with fail
    refine (hasGreat_any _ _ hs).mono ?_; rintro e w' ⟨rfl, rfl⟩
    rw [HG.out]
    go_wp2
    go_ret
    exact ⟨ret_str HV.out.symm, Below.refl _ _⟩
  · have HG := Lib.hid hg
    clear hg
    go_enter Tryz.func221, Tryz.ntmps221
    go_wp2_with fail
    refine (hasGreat_any _ _ hs).mono ?_; rintro e w' ⟨rfl, rfl⟩
    rw [HG.out]
    go_wp2_with (first | (refine conv_bytes rfl (.tmp 10) rfl _ rfl ?_))
    intro cap wb hcap hbel hsize hcells hfr
    have hA : BytAt wb w.heap.size s.size (lowF s 0) := fun j hj => ⟨by rw [hcells j hj, lowF, if_neg (by omega), byteAt]; simp, hfr j hj⟩
    have HA := Lib.hid hA
    have HB := Lib.hid hbel
    clear hcells hfr hA hbel
    go_wp2_with fail
    go_loopw [4, 5, 14] (fun _ _ i wr => ∃ k : Nat, k ≤ s.size ∧ i = .int .i64 k ∧ BytAt wr w.heap.size s.size (lowF s k) ∧ Below w.heap.size w wr) (fun _ _ i _ => s.size - (intOf i).toNat)
    case atStart => exact ⟨0, Nat.zero_le _, rfl, HA.out, HB.out⟩
    case round =>
      obtain ⟨k, hk, rfl, ha, hb⟩ := hrel
      have HA := Lib.hid ha
      have HB := Lib.hid hb
      clear ha hb
      by_cases hlt : k < s.size
      · obtain ⟨c1, f1⟩ := HA.out k hlt
        rw [lowF_at] at c1
        have hb2 := byteAt_lt s k
        cases hgr : great (byteAt s k)
        · have HN := Lib.hid (lowF_no s k hgr)
          have HGR := Lib.hid hgr
          clear hgr
          obtain ⟨b, hb⟩ : ∃ b, byteAt s k = b := ⟨_, rfl⟩
          rw [hb] at c1 hb2 HGR
          clear hb
          go_wp2_with (go_at_call 190; refine (isGreat_any _ _ (by omega)).mono ?_; rintro e w' ⟨rfl, rfl⟩; rw [HGR.out])
          go_roundw
          case rel => exact ⟨k + 1, by omega, by go_num, by rw [HN.out]; exact HA.out, HB.out⟩
          case measure => simp [intOf]; omega
        · have HN := Lib.hid (lowF_yes s k hgr)
          have HGR := Lib.hid hgr
          have hr : 65 ≤ byteAt s k ∧ byteAt s k ≤ 90 := by simpa [great] using hgr
          clear hgr
          obtain ⟨b, hb⟩ : ∃ b, byteAt s k = b := ⟨_, rfl⟩
          rw [hb] at c1 hb2 HGR hr HN
          obtain ⟨hr1, hr2⟩ := hr
          clear hb
          go_wp2_with (go_at_call 190; refine (isGreat_any _ _ (by omega)).mono ?_; rintro e w' ⟨rfl, rfl⟩; rw [HGR.out])
          have h1 := HA.out.set hlt ((b : Int) + 32)
          rw [HN.out] at h1
          go_roundw
          case rel =>
            refine ⟨k + 1, by omega, by go_num, ?_, HB.out.setCell (Nat.le_refl _) _⟩
            rw [show (b : Int) - 65 + 97 = b + 32 by omega]; exact h1
          case measure => simp [intOf]; omega
      · have hkl : k = s.size := by omega
        subst hkl
        have hc := conv_at (cap := cap) HA.out (l := s.data.toList.map low1) (by simp) (lowF_end s)
        go_wp2
        go_ret
        exact ⟨rfl, HB.out⟩

end Go.Proofs.YtfopfplpfhncfaaGreat
end

section
namespace Go.Proofs.YtfopfplpfhncfaaGreat
open Go.RowKit

def jScan : List ByteArray → Int
  | [] => 0
  | s :: r => if s.size = 0 then 4 else if 63 < s.size then 3 else jScan r
def joinE2 (L : List ByteArray) : Int := if jScan L = 0 then (if 255 < off L L.length + 1 then 3 else 0) else jScan L
def joinS2 (L : List ByteArray) : ByteArray := if joinE2 L = 0 then lowS (nameB L) else ⟨#[]⟩
theorem jScan_step (L : List ByteArray) (k : Nat) (hk : k < L.length) : jScan (L.drop k) = if (tx L k).size = 0 then 4 else if 63 < (tx L k).size then 3 else jScan (L.drop (k + 1)) := by
  rw [drop_cons_tx L k hk]; rfl
theorem ret_s4 {L : List ByteArray} (h : joinE2 L ≠ 0) : Ending.returned (.tuple #[.string ⟨#[]⟩, .int .i64 (joinE2 L)]) = Ending.returned (.tuple #[.string (joinS2 L), .int .i64 (joinE2 L)]) := by rw [joinS2, if_neg h]

end Go.Proofs.YtfopfplpfhncfaaGreat
end

section
namespace Go.Proofs.YtfopfplpfhncfaaGreat
open Go.RowKit

def pEnd (l : List ByteArray) (b : List UInt8) : Option (List ByteArray) := if b = [] then (if l = [] then none else some l) else some (l ++ [bs b])
def pRun (s : ByteArray) : Nat → List ByteArray → List UInt8 → Nat → Option (List ByteArray)
  | 0, l, b, _ => pEnd l b
  | f + 1, l, b, k => if k < s.size then (if byteAt s k = 46 then (if b = [] then none else pRun s f (l ++ [bs b]) [] (k + 1)) else (if (readV (s.extract k s.size)).2 = 0 then none else pRun s f l (b ++ [UInt8.ofNat (readV (s.extract k s.size)).1]) (k + (readV (s.extract k s.size)).2))) else pEnd l b
theorem pRun_more (s : ByteArray) : ∀ (f : Nat) (l : List ByteArray) (b : List UInt8) (k : Nat), s.size ≤ k + f → pRun s (f + 1) l b k = pRun s f l b k := by
  intro f
  induction f with
  | zero => intro l b k h; show (if k < s.size then _ else pEnd l b) = pEnd l b; rw [if_neg (by omega)]
  | succ f ih =>
    intro l b k h
    rw [pRun]
    conv => rhs; rw [pRun]
    by_cases c1 : k < s.size
    · rw [if_pos c1, if_pos c1]
      by_cases c2 : byteAt s k = 46
      · rw [if_pos c2, if_pos c2]
        by_cases c3 : b = []
        · rw [if_pos c3, if_pos c3]
        · rw [if_neg c3, if_neg c3, ih _ _ _ (by omega)]
      · rw [if_neg c2, if_neg c2]
        by_cases c4 : (readV (s.extract k s.size)).2 = 0
        · rw [if_pos c4, if_pos c4]
        · rw [if_neg c4, if_neg c4, ih _ _ _ (by omega)]
    · rw [if_neg c1, if_neg c1]
theorem pRun_step (s : ByteArray) (l : List ByteArray) (b : List UInt8) (k : Nat) : pRun s s.size l b k = if k < s.size then (if byteAt s k = 46 then (if b = [] then none else pRun s s.size (l ++ [bs b]) [] (k + 1)) else (if (readV (s.extract k s.size)).2 = 0 then none else pRun s s.size l (b ++ [UInt8.ofNat (readV (s.extract k s.size)).1]) (k + (readV (s.extract k s.size)).2))) else pEnd l b := by
  rw [← pRun_more s s.size l b k (by omega), pRun]
theorem readV_rng (s : ByteArray) (h : 0 < s.size) : (readV s).1 < 256 ∧ (readV s).2 ≤ s.size ∧ (readV s).2 ≤ 4 := by
  have l0 := byteAt_lt s 0
  have l1 := byteAt_lt s 1
  unfold readV
  split
  · split
    · exact ⟨l0, h, by simp⟩
    · exact ⟨by decide, Nat.zero_le _, by decide⟩
  · split
    · rename_i h1
      exact ⟨l1, h1.1, by simp⟩
    · split
      · exact ⟨by decide, Nat.zero_le _, by decide⟩
      · split
        · split
          · rename_i h4 _ h5
            exact ⟨Nat.lt_of_le_of_lt h5 (by decide), by simp; omega, by simp⟩
          · exact ⟨by decide, Nat.zero_le _, by decide⟩
        · exact ⟨by decide, Nat.zero_le _, by decide⟩
def parseL (s : ByteArray) : Option (List ByteArray) := pRun s s.size [] [] 0
def isDot (s : ByteArray) : Bool := s.toList == [46]
def parseE (s : ByteArray) : Int := if isDot s = true then 0 else match parseL s with | none => 4 | some L => joinE2 L
def parseS (s : ByteArray) : ByteArray := if isDot s = true then ⟨#[0]⟩ else match parseL s with | none => ⟨#[]⟩ | some L => joinS2 L
theorem extract_from (s : ByteArray) (k n : Nat) (h : k + n ≤ s.size) : (s.extract k s.size).extract n (s.extract k s.size).size = s.extract (k + n) s.size := by
  apply ba_eq
  rw [extract_toList, extract_toList, extract_toList, extract_size _ _ _ (Nat.le_refl _)]
  have hl := size_data s
  rw [List.take_of_length_le (by rw [List.length_drop, List.length_take, List.length_drop]; omega), List.take_of_length_le (by rw [List.length_drop]; omega), List.take_of_length_le (by rw [List.length_drop]; omega), List.drop_drop]
theorem own_ne {w : World} {B n1 n2 : Nat} {v1 v2 : Value} {x1 x2 : List Value} (h1 : w.ownsRow B 9 1 v1 n1 x1) (h2 : w.ownsRow B 5 1 v2 n2 x2) : v2.ownBlock = none ∨ v2.ownBlock ≠ v1.ownBlock := by
  rcases h2.2 with ⟨rfl, _⟩ | ⟨g2, c2, u2, rfl, _, hg2, _⟩
  · exact Or.inl rfl
  · right
    rcases h1.2 with ⟨rfl, _⟩ | ⟨g1, c1, u1, rfl, _, hg1, _⟩
    · simp [Value.ownBlock]
    · simp only [Value.ownBlock]
      intro h
      have hgg : g2 = g1 := by simpa using h
      subst hgg
      rw [hg1] at hg2
      simp at hg2
theorem own_ne' {w : World} {B n1 n2 : Nat} {v1 v2 : Value} {x1 x2 : List Value} (h1 : w.ownsRow B 9 1 v1 n1 x1) (h2 : w.ownsRow B 5 1 v2 n2 x2) : v1.ownBlock = none ∨ v1.ownBlock ≠ v2.ownBlock := by
  rcases own_ne h1 h2 with h | h
  · cases h3 : v1.ownBlock with
    | none => exact Or.inl rfl
    | some g => right; rw [h]; simp
  · exact Or.inr fun e => h e.symm
theorem below_appendD {w wr w' : World} {v : Value} {B n : Nat} {e : TypeId} {xs : List Value} {o : Obj} (hb : Below B w wr) (hB : B ≤ wr.heap.size) (hown : wr.ownsRow B e 1 v n xs) (hg : (wr.alloc o).drew.grownBy w' v.ownBlock) : Below B w w' :=
  ((hb.alloc hB o).drew).grown hg (by simp; omega) (fun k hk => (hown.lt k hk).1)
/-- All labels so far are short. -/
def Sml (l : List ByteArray) (m : Nat) : Prop := ∀ j, j < l.length → (tx l j).size ≤ m
theorem sml_next {l : List ByteArray} {s : ByteArray} {m n : Nat} (h : Sml l m) (hm : m ≤ n) (hs : s.size ≤ n) : Sml (l ++ [s]) n := by
  intro j hj
  by_cases e : j < l.length
  · have : tx (l ++ [s]) j = tx l j := by rw [tx, tx, List.getD_eq_getElem?_getD, List.getD_eq_getElem?_getD, List.getElem?_append_left e]
    rw [this]
    exact Nat.le_trans (h j e) hm
  · have ej : j = l.length := by simp at hj; omega
    subst ej
    have : tx (l ++ [s]) l.length = s := by rw [tx, List.getD_eq_getElem?_getD, List.getElem?_append_right (Nat.le_refl _)]; simp
    rw [this]; exact hs

end Go.Proofs.YtfopfplpfhncfaaGreat
end

section
namespace Go.Proofs.YtfopfplpfhncfaaGreat
open Go.RowKit

theorem p_one : parseE ⟨#[65, 98, 46, 99]⟩ = 0 ∧ parseS ⟨#[65, 98, 46, 99]⟩ = ⟨#[2, 97, 98, 1, 99, 0]⟩ := by decide +kernel
theorem p_two : parseE ⟨#[97, 46, 98, 46]⟩ = 0 ∧ parseS ⟨#[97, 46, 98, 46]⟩ = ⟨#[1, 97, 1, 98, 0]⟩ := by decide +kernel
theorem p_three : parseE ⟨#[122, 46, 97, 46]⟩ = 0 ∧ parseS ⟨#[122, 46, 97, 46]⟩ = ⟨#[1, 122, 1, 97, 0]⟩ := by decide +kernel
theorem c_first : cmpS ⟨#[1, 97, 1, 98, 0]⟩ ⟨#[1, 122, 1, 97, 0]⟩ = 1 := by
  have m1 : mayN ⟨#[1, 97, 1, 98, 0]⟩ = true := by decide +kernel
  have m2 : mayN ⟨#[1, 122, 1, 97, 0]⟩ = true := by decide +kernel
  have ok1 : OkL [⟨#[97]⟩, ⟨#[98]⟩] := by
    intro k hk
    have : k = 0 ∨ k = 1 := by simp at hk; omega
    rcases this with rfl | rfl <;> decide +kernel
  have ok2 : OkL [⟨#[122]⟩, ⟨#[97]⟩] := by
    intro k hk
    have : k = 0 ∨ k = 1 := by simp at hk; omega
    rcases this with rfl | rfl <;> decide +kernel
  rw [cmpS, if_pos m1, if_pos m2, labs_eq (L := [⟨#[97]⟩, ⟨#[98]⟩]) ok1 (by decide +kernel) (by decide +kernel), labs_eq (L := [⟨#[122]⟩, ⟨#[97]⟩]) ok2 (by decide +kernel) (by decide +kernel)]
  decide +kernel

end Go.Proofs.YtfopfplpfhncfaaGreat
end

section
namespace Go.Proofs.YtfopfplpfhncfaaGreat
open Go.RowKit

theorem rowS_lit1 (w : World) (s : ByteArray) (t : TypeId) : RowS (w.alloc (.cells #[.string s] t)) (some ⟨w.heap.size, 0, none⟩) 1 [s] := by
  refine ⟨rfl, Or.inr ⟨w.heap.size, 0, rfl, by simp, ?_⟩⟩
  intro j hj
  have : j = 0 := by omega
  subst this
  simp [World.cell?_alloc_at]
theorem lit_sz {s : ByteArray} (h : s.size ≤ 1000000) : ∀ k, k < 1 → (tx [s] k).size ≤ 1000000 := by
  intro k hk
  have : k = 0 := by omega
  subst this
  exact h

end Go.Proofs.YtfopfplpfhncfaaGreat
end

section
namespace Go.Proofs.YtfopfplpfhncfaaGreat
open Go.RowKit

theorem rowS_lit1' (w : World) (g : Nat) (s : ByteArray) (t : TypeId) (h : w.heap.size = g) : RowS (w.alloc (.cells #[.string s] t)) (some ⟨g, 0, none⟩) 1 [s] := by
  subst h
  exact rowS_lit1 w s t
end Go.Proofs.YtfopfplpfhncfaaGreat
end
