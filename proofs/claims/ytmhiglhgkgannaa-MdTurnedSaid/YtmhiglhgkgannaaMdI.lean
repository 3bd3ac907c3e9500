/- Layer 9: first, few. -/
import Derived.Test.YtmhiglhgkgannaaMdH
import Derived.Test.YtmhiglhgkgannaaFew4
namespace Go.Proofs.Ytmhiglhgkgannaa
open Go.RowKit

theorem once_nil (p : R5 → Bool) : onceF mcmp p [] = [] := (onceF_ok ord_mcmp p []).none (fun r hr => by cases hr)
theorem chk_first : chkE ⟨#[0]⟩ [] = 11 := by
  have h0 : dgE ⟨#[0]⟩ [] = 0 := dgE_ok (by decide) (fun r hr => by cases hr)
  have h1 := onceF_ok ord_mcmp (isSoa ⟨#[0]⟩) []
  exact chk_soa0 h0 h1 (by rw [once_nil]; decide)
theorem chk_second : chkE ⟨#[]⟩ [] = 10 := by
  have h0 : dgE ⟨#[]⟩ [] = 10 := dgE_name (by decide)
  rw [chk_dg (by rw [h0]; decide), h0]
set_option maxRecDepth 100000 in
set_option maxHeartbeats 2000000 in
theorem first9 (w : World) : Calls Try.prog 8 #[] w fun e w' => e = .returned (.bool true) ∧ Below w.heap.size w w' := by
  have H1 := Lib.hid (fun wx => show Calls Try.prog 11 #[.string ⟨#[0]⟩, .slice none 0 0] wx fun e w' => e = .returned (.int .i64 11) ∧ Below wx.heap.size wx w' by
    have h := check_any ⟨#[0]⟩ none 0 0 [] wx ⟨rfl, rfl, Or.inl rfl⟩ (by decide) (fun r hr => by cases hr) (by decide)
    rw [chk_first] at h; exact h)
  have H2 := Lib.hid (fun wx => show Calls Try.prog 11 #[.string ⟨#[]⟩, .slice none 0 0] wx fun e w' => e = .returned (.int .i64 10) ∧ Below wx.heap.size wx w' by
    have h := check_any ⟨#[]⟩ none 0 0 [] wx ⟨rfl, rfl, Or.inl rfl⟩ (by decide) (fun r hr => by cases hr) (by decide)
    rw [chk_second] at h; exact h)
  go_enter Try.func8, Try.ntmps8
  go_wp2_with fail
  refine (H1.out _).mono ?_; rintro e w1 ⟨rfl, hb⟩
  have HB1 := Lib.hid hb
  clear hb
  go_wp2_with fail
  refine (H2.out _).mono ?_; rintro e w2 ⟨rfl, hb⟩
  have HB2 := Lib.hid (HB1.out.trans (hb.mono HB1.out.size))
  clear hb
  go_wp2
  go_ret
  exact ⟨rfl, HB2.out⟩
set_option maxRecDepth 100000 in
set_option maxHeartbeats 2000000 in
theorem few9 (a : Option Addr) (len cap : Nat) (l : List R5) (w : World) (h : RowR w a len l) (hlen : len ≤ 9223372036854775807) (hsz : ∀ r ∈ l, SzR r) :
    Calls Try.prog 9 #[.slice a len cap] w fun e w' => (e = .returned (.bool false) ∨ e = .returned (.bool true) ∧ len ≤ 60 ∧ ∀ r ∈ l, SmX r) ∧ Below w.heap.size w w' := by
  have HF := Lib.hid (few4 a len cap l w h hlen hsz)
  clear h hsz
  by_cases h1 : len ≤ 60
  · have d1 : decide (len ≤ 60) = true := dT h1
    have d2 : decide ((len : Int) ≤ 60) = true := dT (by omega)
    have HL := Lib.hid h1
    clear h1
    go_enter Try.func9, Try.ntmps9
    go_wp2_with fail
    refine HF.out.mono ?_; rintro e w1 ⟨h, m, rfl⟩
    have HB := Lib.hid (below_drewN (Below.refl w.heap.size w) m)
    rcases h with rfl | ⟨rfl, -, hs⟩
    · go_wp2
      go_ret
      exact ⟨Or.inl rfl, HB.out⟩
    · have HS := Lib.hid (show ∀ r ∈ l, SmX r from fun r hr => ⟨Nat.le_trans (hs r hr).1 (by decide), Nat.le_trans (hs r hr).2 (by decide)⟩)
      clear hs
      go_wp2
      go_ret
      exact ⟨Or.inr ⟨rfl, HL.out, HS.out⟩, HB.out⟩
  · have d1 : decide (len ≤ 60) = false := dF h1
    have d2 : decide ((len : Int) ≤ 60) = false := dF (by omega)
    clear HF h1
    go_enter Try.func9, Try.ntmps9
    go_wp2
    go_ret
    exact ⟨Or.inl rfl, Below.refl _ _⟩
end Go.Proofs.Ytmhiglhgkgannaa
