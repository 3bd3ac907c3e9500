/- Contracts of name.Parent, name.Compare, name.Under, and of the document's (chapter 2), over this seat's translation. -/
import Derived.Test.YtngncdmmlkcekaaLbl
import Derived.Test.YtngncdmmlkcekaaOrd
import Derived.Test.YtngncdmmlkcekaaCmp
import Derived.Deep.RegionHeld3
namespace Go.Proofs.Ytngncdmmlkcekaa
open Go.RowKit

def parS : List ByteArray → ByteArray
  | [] => ⟨#[]⟩
  | _ :: M => nameB M
def parB : List ByteArray → Bool
  | [] => false
  | _ :: _ => true
theorem root_toList (L : List ByteArray) (hL : OkL L) : ((nameB L).toList == [0]) = L.isEmpty := by
  rw [Lib.toList_data]
  show (nameL L == [0]) = _
  cases L with
  | nil => rfl
  | cons s L =>
    obtain ⟨g1, g2, _⟩ := hL 0 (by simp)
    rw [tx_cons_zero] at g1 g2
    show _ = false
    rw [beq_eq_false_iff_ne]
    intro h
    rw [nameL_cons] at h
    have h0 : UInt8.ofNat s.size = 0 := (List.cons.inj h).1
    have := congrArg UInt8.toNat h0
    rw [UInt8.toNat_ofNat_of_lt' (by have : UInt8.size = 256 := rfl; omega)] at this
    have h9 : (0 : UInt8).toNat = 0 := rfl
    omega

set_option maxRecDepth 100000 in
theorem parent_yes (L : List ByteArray) (w : World) (hL : OkL L) (hz : off L L.length ≤ 254) : Calls Try.prog 24 #[.string (nameB L)] w fun e w' => e = .returned (.tuple #[.string (parS L), .bool (parB L)]) ∧ w = w' := by
  have hr := root_toList L hL
  have hm := labels_may hL hz
  have hsz := nameB_size L
  cases L with
  | nil =>
    have hr' : ((nameB []).toList == [0]) = true := hr
    obtain ⟨s, hs⟩ : ∃ s, nameB [] = s := ⟨_, rfl⟩
    rw [hs] at hr' ⊢
    clear hr hm hsz hz hL hs
    go_enter Try.func24, Try.ntmps24
    go_wp2
    go_ret2
    exact ⟨rfl, rfl⟩
  | cons t M =>
    have hr' : ((nameB (t :: M)).toList == [0]) = false := hr
    have hb := name_byte (t :: M) 0 (by simp) (by obtain ⟨_, g, _⟩ := hL 0 (by simp); omega)
    have hx := name_suffix (t :: M) 1 (by simp)
    have ho : off (t :: M) 1 = 1 + t.size := by rw [off_succ, tx_cons_zero, off_zero, Nat.zero_add]
    have hm1 := off_mono (t :: M) (show 1 ≤ (t :: M).length by simp)
    rw [tx_cons_zero, off_zero] at hb
    rw [ho] at hx hm1
    have hx' : (nameB (t :: M)).extract (1 + t.size) (nameB (t :: M)).size = nameB M := hx
    obtain ⟨s, hs⟩ : ∃ s, nameB (t :: M) = s := ⟨_, rfl⟩
    obtain ⟨k, hk⟩ : ∃ k, t.size = k := ⟨_, rfl⟩
    obtain ⟨z, hzz⟩ : ∃ z, off (t :: M) (t :: M).length = z := ⟨_, rfl⟩
    rw [hzz] at hm1 hz hsz
    rw [hk] at hb hx' hm1
    rw [hs] at hr' hb hx' hm hsz
    rw [hsz] at hx'
    have HM := Lib.hid hm
    have HX := Lib.hid hx'
    have hlt : 0 < s.size := by omega
    have hg := (byte_get hlt).trans hb
    show Calls Try.prog _ _ _ fun e w' => e = .returned (.tuple #[.string (nameB M), .bool true]) ∧ w = w'
    rw [hs]
    clear hr hm hx hx' hzz hk hs ho hb hL
    go_enter Try.func24, Try.ntmps24
    go_wp2_with (first | (go_at_call 26; refine (nmay_any _ _ (by omega)).mono ?_; rintro e w' ⟨rfl, rfl⟩; rw [HM.out]))
    go_ret2
    rw [HX.out]
    exact ⟨rfl, rfl⟩
theorem parent_no (s : ByteArray) (w : World) (h : mayN s = false) (hs : s.size ≤ 1000000) : Calls Try.prog 24 #[.string s] w fun e w' => e = .returned (.tuple #[.string ⟨#[]⟩, .bool false]) ∧ w = w' := by
  have HM := Lib.hid h
  clear h
  cases hr : s.toList == [0]
  all_goals
    go_enter Try.func24, Try.ntmps24
    go_wp2_with (first | (go_at_call 26; refine (nmay_any _ _ (by omega)).mono ?_; rintro e w' ⟨rfl, rfl⟩; rw [HM.out]))
    go_ret2
    exact ⟨rfl, rfl⟩
set_option maxRecDepth 100000 in
theorem rparent_yes (L : List ByteArray) (w : World) (hL : OkL L) (hz : off L L.length ≤ 254) : Calls Try.prog 25 #[.string (nameB L)] w fun e w' => e = .returned (.tuple #[.string (parS L), .bool (parB L)]) ∧ w = w' := by
  have hr := root_toList L hL
  have hm := labels_may hL hz
  have hsz := nameB_size L
  cases L with
  | nil =>
    have hr' : ((nameB []).toList == [0]) = true := hr
    obtain ⟨s, hs⟩ : ∃ s, nameB [] = s := ⟨_, rfl⟩
    rw [hs] at hr' hm hsz ⊢
    have HM := Lib.hid hm
    have hs2 : s.size ≤ 1000000 := by rw [hsz]; decide
    clear hr hm hsz hz hL hs
    go_enter Try.func25, Try.ntmps25
    go_wp2_with (first | (go_at_call 27; refine (rmay_any _ _ (by omega)).mono ?_; rintro e w' ⟨rfl, rfl⟩; rw [HM.out]))
    go_ret2
    exact ⟨rfl, rfl⟩
  | cons t M =>
    have hr' : ((nameB (t :: M)).toList == [0]) = false := hr
    have hb := name_byte (t :: M) 0 (by simp) (by obtain ⟨_, g, _⟩ := hL 0 (by simp); omega)
    have hx := name_suffix (t :: M) 1 (by simp)
    have ho : off (t :: M) 1 = 1 + t.size := by rw [off_succ, tx_cons_zero, off_zero, Nat.zero_add]
    have hm1 := off_mono (t :: M) (show 1 ≤ (t :: M).length by simp)
    rw [tx_cons_zero, off_zero] at hb
    rw [ho] at hx hm1
    have hx' : (nameB (t :: M)).extract (1 + t.size) (nameB (t :: M)).size = nameB M := hx
    obtain ⟨s, hs⟩ : ∃ s, nameB (t :: M) = s := ⟨_, rfl⟩
    obtain ⟨k, hk⟩ : ∃ k, t.size = k := ⟨_, rfl⟩
    obtain ⟨z, hzz⟩ : ∃ z, off (t :: M) (t :: M).length = z := ⟨_, rfl⟩
    rw [hzz] at hm1 hz hsz
    rw [hk] at hb hx' hm1
    rw [hs] at hr' hb hx' hm hsz
    rw [hsz] at hx'
    have HM := Lib.hid hm
    have HX := Lib.hid hx'
    have hlt : 0 < s.size := by omega
    have hg := (byte_get hlt).trans hb
    show Calls Try.prog _ _ _ fun e w' => e = .returned (.tuple #[.string (nameB M), .bool true]) ∧ w = w'
    rw [hs]
    clear hr hm hx hx' hzz hk hs ho hb hL
    go_enter Try.func25, Try.ntmps25
    go_wp2_with (first | (go_at_call 27; refine (rmay_any _ _ (by omega)).mono ?_; rintro e w' ⟨rfl, rfl⟩; rw [HM.out]))
    go_ret2
    rw [HX.out]
    exact ⟨rfl, rfl⟩
theorem rparent_no (s : ByteArray) (w : World) (h : mayN s = false) (hs : s.size ≤ 1000000) : Calls Try.prog 25 #[.string s] w fun e w' => e = .returned (.tuple #[.string ⟨#[]⟩, .bool false]) ∧ w = w' := by
  have HM := Lib.hid h
  clear h
  go_enter Try.func25, Try.ntmps25
  go_wp2_with (first | (go_at_call 27; refine (rmay_any _ _ (by omega)).mono ?_; rintro e w' ⟨rfl, rfl⟩; rw [HM.out]))
  go_ret2
  exact ⟨rfl, rfl⟩
end Go.Proofs.Ytngncdmmlkcekaa
