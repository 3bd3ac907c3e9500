/- Zones: New. -/
import Derived.Test.YtfopfplpfhncfaaGreatZnF
import Derived.Test.YtfopfplpfhncfaaGreatMgC
namespace Go.Proofs.YtfopfplpfhncfaaGreat
open Go.RowKit

def mayR5 (r : R5) : Bool := mayR r.k.n r.k.t r.k.c r.ttl r.d
/-- What New answers. -/
def NewR (apex : ByteArray) (l : List R5) (w : World) (e : Ending) (w' : World) : Prop :=
  (mayN apex = false ∧ e = .returned (.tuple #[.pointer none, .int .i64 10]) ∨ mayN apex = true ∧
    ((∃ r ∈ l, mayR5 r = false) ∧ e = .returned (.tuple #[.pointer none, .int .i64 4]) ∨ (∀ r ∈ l, mayR5 r = true) ∧
      (300 < l.length ∧ e = .returned (.tuple #[.pointer none, .int .i64 13]) ∨ l.length ≤ 300 ∧ ∃ S, Canon l S ∧ sumD S ≤ l.length ∧ S.length ≤ l.length ∧
        (wholeB apex S = false ∧ e = .returned (.tuple #[.pointer none, .int .i64 11]) ∨ wholeB apex S = true ∧ ∃ z, e = .returned (.tuple #[.pointer (some ⟨z, 0, none⟩), .int .i64 0]) ∧ w.heap.size ≤ z ∧ ZnAt w' z apex S)))) ∧ Below w.heap.size w w'
theorem Canon.sz {l : List R5} {S : List SetP} (h : Canon l S) (h1 : sumD S ≤ l.length) (h2 : S.length ≤ l.length) (hl : l.length ≤ 100000) (hk : ∀ r ∈ l, r.k.n.size ≤ 1000000) : SzZ S :=
  ⟨by omega, fun s hs => ⟨(h.size (b2 := 0 + (l.map fun r => r.d.size).foldr max 0) hk (fun r hr => by
    have : ∀ (L : List R5), r ∈ L → r.d.size ≤ (L.map fun r => r.d.size).foldr max 0 := fun L => by
      induction L with
      | nil => intro h; cases h
      | cons x L ih =>
        intro h
        rw [List.map_cons, List.foldr_cons]
        rcases List.mem_cons.1 h with rfl | h
        · exact Nat.le_max_left _ _
        · exact Nat.le_trans (ih h) (Nat.le_max_right _ _)
    rw [Nat.zero_add]
    exact this l hr) hs).1, Nat.le_trans (data_le_sum hs) (by omega)⟩⟩
set_option maxRecDepth 100000 in
set_option maxHeartbeats 4000000 in
theorem znew_any (apex : ByteArray) (a : Option Addr) (n c : Nat) (l : List R5) (w : World) (h : RowR w a n l) (hn : a = none → n = 0 ∧ c = 0) (hlen : n ≤ 100000) (hk : ∀ r ∈ l, r.k.n.size ≤ 1000000) (hd : ∀ r ∈ l, r.d.size ≤ 1000000) (ha : apex.size ≤ 1000000) :
    Calls Tryz.prog 12 #[.string apex, .slice a n c] w fun e w' => NewR apex l w e w' := by
  have HR := Lib.hid h
  have HL := Lib.hid h.1
  have HN := Lib.hid hn
  have HK := Lib.hid hk
  have HD := Lib.hid hd
  have HAS := Lib.hid ha
  have HM := Lib.hid (fun wx => nmay_any apex wx ha)
  obtain ⟨mn, hmn⟩ : ∃ x, mayN apex = x := ⟨_, rfl⟩
  rw [hmn] at HM
  have HMN := Lib.hid hmn
  clear h hn hk hd ha hmn
  go_enter Tryz.func12, Tryz.ntmps12
  go_wp2_with fail
  refine (HM.out _).mono ?_; rintro e w1 ⟨rfl, rfl⟩
  have HB1 := Lib.hid (Below.refl w.heap.size w)
  clear HM
  cases mn
  · go_wp2
    refine bodyPost_ret (v := .tuple #[.pointer none, .int .i64 10]) (by simp [results, Tryz.results12, go_sem]) rfl ⟨Or.inl ⟨HMN.out, rfl⟩, HB1.out⟩
  go_wp2_with fail
  go_loopw [14] (fun i wr => ∃ k : Nat, k ≤ n ∧ i = .int .i64 k ∧ Hid (∀ r ∈ l.take k, mayR5 r = true) ∧ Hid (Below w.heap.size w wr)) (fun i _ => n - (intOf i).toNat)
  case atStart => exact ⟨0, Nat.zero_le _, rfl, Lib.hid (fun r hr => by simp at hr), HB1⟩
  case round =>
    obtain ⟨k, hk, rfl, hall, hbw⟩ := hrel
    clear HB1
    by_cases hlt : k < n
    · obtain ⟨b, o, r, rfl, hbl, hlk, c0, c1, c2, c3, c4⟩ := (HR.out.below hbw.out).at k hlt
      have hmem := List.mem_of_getElem? hlk
      have HMEM := Lib.hid hmem
      have HLK := Lib.hid hlk
      have h1 := HK.out r hmem
      have h2 := HD.out r hmem
      obtain ⟨⟨rn, rt, rc⟩, ru, rd⟩ := r
      have HBA := Lib.hid ((Below.refl wr.heap.size wr).alloc (Nat.le_refl _) (.cells #[.string rn, .int .i64 rt, .int .i64 rc, .int .i64 ru, .string rd] 125))
      have HC := Lib.hid (fun wx => mayRR_any rn rt rc ru rd wx h1 h2)
      have HRV := Lib.hid (show mayR5 ⟨⟨rn, rt, rc⟩, ru, rd⟩ = mayR rn rt rc ru rd from rfl)
      obtain ⟨v, hv⟩ : ∃ x, mayR rn rt rc ru rd = x := ⟨_, rfl⟩
      rw [hv] at HC HRV
      have i1 : (0 : Int) ≤ (k : Int) := by omega
      have i2 : (k : Int) < (n : Int) := by omega
      have HLT := Lib.hid hlt
      clear hmem hlk h1 h2 hv hbl
      go_wp2_with fail
      refine (HC.out _).mono ?_; rintro e w2 ⟨rfl, hb2⟩
      have HB2 := Lib.hid (hbw.out.trans ((HBA.out.trans (hb2.mono HBA.out.size)).mono hbw.out.size))
      clear hb2 c0 c1 c2 c3 c4 hbw HBA
      cases v
      · go_wp2
        refine bodyPost_ret (v := .tuple #[.pointer none, .int .i64 4]) (by simp [results, Tryz.results12, go_sem]) rfl ⟨Or.inr ⟨HMN.out, Or.inl ⟨⟨_, HMEM.out, HRV.out⟩, rfl⟩⟩, HB2.out⟩
      · go_wp2
        go_roundw
        case rel => exact ⟨k + 1, HLT.out, by have := HLT.out; go_num, Lib.hid (fun r hr => by
          rw [List.take_add_one, HLK.out] at hr
          rcases List.mem_append.1 hr with h1 | h1
          · exact hall.out r h1
          · obtain rfl := List.mem_singleton.1 h1; exact HRV.out), HB2⟩
        case measure => have := HLT.out; simp [intOf]; omega
    · have hkn : k = n := by omega
      subst hkn
      have HAL := Lib.hid (show ∀ r ∈ l, mayR5 r = true by have h1 := hall.out; rw [List.take_of_length_le (by rw [HL.out]; exact Nat.le_refl _)] at h1; exact h1)
      clear hall hlt hk
      by_cases h3 : 300 < k
      · have d1 : decide (300 < k) = true := dT h3
        have d2 : decide ((300 : Int) < (k : Int)) = true := dT (by omega)
        have HX := Lib.hid (show 300 < l.length by rw [HL.out]; exact h3)
        clear h3
        go_wp2
        refine bodyPost_ret (v := .tuple #[.pointer none, .int .i64 13]) (by simp [results, Tryz.results12, go_sem]) rfl ⟨Or.inr ⟨HMN.out, Or.inr ⟨HAL.out, Or.inl ⟨HX.out, rfl⟩⟩⟩, hbw.out⟩
      · have d1 : decide (300 < k) = false := dF h3
        have d2 : decide ((300 : Int) < (k : Int)) = false := dF (by omega)
        have HX := Lib.hid (show l.length ≤ 300 by rw [HL.out]; omega)
        clear h3
        go_wp2_with fail
        refine (group_any a k c l _ (HR.out.below hbw.out) HN.out hlen HK.out).mono ?_; rintro e w2 ⟨ga, gc, S, rfl, hcan, hs1, hs2, hsa, hb2⟩
        have HB2 := Lib.hid (hbw.out.trans (hb2.mono hbw.out.size))
        have HCN := Lib.hid hcan
        have HS1 := Lib.hid hs1
        have HS2 := Lib.hid hs2
        have hba := (Below.refl w2.heap.size w2).alloc (Nat.le_refl _) (.cells #[.string apex, .slice ga S.length gc] 129)
        have HZA := Lib.hid (show ZnAt (w2.alloc (.cells #[.string apex, .slice ga S.length gc] 129)) w2.heap.size apex S from ⟨ga, gc, CN.new w2 #[.string apex, .slice ga S.length gc] _, hsa.below hba⟩)
        have HB3 := Lib.hid (HB2.out.trans (hba.mono HB2.out.size))
        have HSZ := Lib.hid (hcan.sz hs1 hs2 (by have := HX.out; omega) HK.out)
        have HZG := Lib.hid HB2.out.size
        obtain ⟨len, hlen2⟩ : ∃ x, S.length = x := ⟨_, rfl⟩
        rw [hlen2] at HZA HB3 ⊢
        clear hba hcan hs1 hs2 hsa hb2 HB2 hlen2 d1 d2
        go_upto_region 12 with (fail)
        obtain ⟨w3, hw3⟩ : ∃ x, w2.alloc (.cells #[.string apex, .slice ga len gc] 129) = x := ⟨_, rfl⟩
        rw [hw3] at HZA HB3 ⊢
        clear hw3
        obtain ⟨z, hz⟩ : ∃ x, w2.heap.size = x := ⟨_, rfl⟩
        rw [hz] at HZA HZG ⊢
        clear hz
        go_wp2_with fail
        refine (whole_any z apex S w3 HZA.out HCN.out.keys HSZ.out HAS.out).mono ?_; rintro e w4 ⟨rfl, hb4⟩
        have HZ4 := Lib.hid (HZA.out.below hb4)
        have HB4 := Lib.hid (HB3.out.trans (hb4.mono HB3.out.size))
        clear hb4 HB3 HZA
        obtain ⟨v, hv⟩ : ∃ x, wholeB apex S = x := ⟨_, rfl⟩
        have HV := Lib.hid hv
        rw [hv]
        clear hv
        cases v
        · go_wp2
          refine bodyPost_ret (v := .tuple #[.pointer none, .int .i64 11]) (by simp [results, Tryz.results12, go_sem]) rfl ⟨Or.inr ⟨HMN.out, Or.inr ⟨HAL.out, Or.inr ⟨HX.out, S, HCN.out, HS1.out, HS2.out, Or.inl ⟨HV.out, rfl⟩⟩⟩⟩, HB4.out⟩
        · go_wp2
          refine bodyPost_ret (v := .tuple #[.pointer (some ⟨z, 0, none⟩), .int .i64 0]) (by simp [results, Tryz.results12, go_sem]) rfl ⟨Or.inr ⟨HMN.out, Or.inr ⟨HAL.out, Or.inr ⟨HX.out, S, HCN.out, HS1.out, HS2.out, Or.inr ⟨HV.out, z, rfl, HZG.out, HZ4.out⟩⟩⟩⟩, HB4.out⟩
end Go.Proofs.YtfopfplpfhncfaaGreat
