/- ZoneCuts: the walk. -/
import Derived.Test.YtgdhbelcellabaaZnI
namespace Go.Proofs.Ytgdhbelcellabaa
open Go.RowKit

theorem cutI_some {S : List SetP} {P : Nat → ByteArray} : ∀ (r i : Nat) (acc : Option SetP) (X : SetP), cutI S P r i acc = some X → acc = some X ∨ ∃ j, i ≤ j ∧ j < i + r ∧ X.k = ⟨P j, 2, 1⟩
  | 0, i, acc, X, h => Or.inl h
  | r + 1, i, acc, X, h => by
    rw [cutI] at h
    rcases cutI_some r (i + 1) _ X h with h1 | ⟨j, h1, h2, h3⟩
    · split at h1
      · rename_i s hs
        obtain rfl := Option.some.inj h1
        refine Or.inr ⟨i, Nat.le_refl _, by omega, ?_⟩
        rw [findK] at hs
        have := List.find?_some hs
        simpa using this
      · exact Or.inl h1
    · exact Or.inr ⟨j, by omega, by omega, h3⟩
theorem eqB_refl (a : ByteArray) : (a.toList == a.toList) = true := by simp
theorem found_k {S : List SetP} {k : Ky} {s : SetP} (h : findK S k = some s) : s.k = k := by
  rw [findK] at h
  have := List.find?_some h
  simpa using this
set_option maxRecDepth 100000 in
set_option maxHeartbeats 8000000 in
theorem walkZCuts (apex : ByteArray) (a : Option Addr) (n c : Nat) (l : List R5) (nm : ByteArray) (w : World) (h : RowR w a n l) (hn : a = none → n = 0 ∧ c = 0) (hlen : n ≤ 9223372036854775807) (hsz : ∀ r ∈ l, SzR r) (ha : apex.size ≤ 9223372036854775807) (hm : nm.size ≤ 9223372036854775807) :
    Calls Try.prog 4 #[.string apex, .slice a n c, .string nm] w fun e w' => e = .returned (.bool true) ∧ Below w.heap.size w w' := by
  have HR := Lib.hid h
  have HN := Lib.hid hn
  have HSZ := Lib.hid hsz
  have HA := Lib.hid ha
  have HM := Lib.hid hm
  clear h hn hsz
  go_enter Try.func4, Try.ntmps4
  go_wp2_with fail
  refine (first10 _).mono ?_; rintro e w1 ⟨rfl, hb⟩
  have HB1 := Lib.hid hb
  clear hb
  go_wp2_with fail
  refine (few10 a n c l _ (HR.out.below HB1.out) hlen HSZ.out).mono ?_; rintro e w2 ⟨hres, hb⟩
  have HB2 := Lib.hid (HB1.out.trans (hb.mono HB1.out.size))
  clear hb HB1
  rcases hres with rfl | ⟨rfl, hn4, hsm⟩
  · go_wp2_with fail
    refine (first10 _).mono ?_; rintro e w3 ⟨rfl, hb⟩
    have HB3 := Lib.hid (HB2.out.trans (hb.mono HB2.out.size))
    clear hb
    go_wp2
    go_ret
    exact ⟨rfl, HB3.out⟩
  have HN4 := Lib.hid hn4
  have HSM := Lib.hid hsm
  clear hn4 hsm
  by_cases h1 : 1000 < apex.size
  · have d1 : decide (1000 < apex.size) = true := dT h1
    have d2 : decide ((1000 : Int) < (apex.size : Int)) = true := dT (by omega)
    clear h1
    go_wp2_with fail
    refine (first10 _).mono ?_; rintro e w3 ⟨rfl, hb⟩
    have HB3 := Lib.hid (HB2.out.trans (hb.mono HB2.out.size))
    clear hb
    go_wp2
    go_ret
    exact ⟨rfl, HB3.out⟩
  have d1 : decide (1000 < apex.size) = false := dF h1
  have d2 : decide ((1000 : Int) < (apex.size : Int)) = false := dF (by omega)
  have HA1 := Lib.hid (show apex.size ≤ 1000000 by omega)
  clear h1
  by_cases h1 : 1000 < nm.size
  · have d3 : decide (1000 < nm.size) = true := dT h1
    have d4 : decide ((1000 : Int) < (nm.size : Int)) = true := dT (by omega)
    clear h1
    go_wp2_with fail
    refine (first10 _).mono ?_; rintro e w3 ⟨rfl, hb⟩
    have HB3 := Lib.hid (HB2.out.trans (hb.mono HB2.out.size))
    clear hb
    go_wp2
    go_ret
    exact ⟨rfl, HB3.out⟩
  have d3 : decide (1000 < nm.size) = false := dF h1
  have d4 : decide ((1000 : Int) < (nm.size : Int)) = false := dF (by omega)
  have HM1 := Lib.hid (show nm.size ≤ 1000000 by omega)
  clear h1
  go_wp2_with fail
  refine (znew_any apex a n c l w2 (HR.out.below HB2.out) HN.out (by have := HN4.out; omega) (fun r hr => by have := (HSM.out r hr).1; omega) (fun r hr => by have := (HSM.out r hr).2; omega) HA1.out).mono ?_; rintro e w3 hnr
  obtain ⟨hres, hb⟩ := hnr.two
  have HB3 := Lib.hid (HB2.out.trans (hb.mono HB2.out.size))
  clear hnr hb HB2 d1 d2 d3 d4 ha hm
  rcases hres with ⟨x, -, rfl⟩ | ⟨z, S, rfl, hzw, hok⟩
  · go_wp2_with fail
    refine (first10 _).mono ?_; rintro e w4 ⟨rfl, hb⟩
    have HB4 := Lib.hid (HB3.out.trans (hb.mono HB3.out.size))
    clear hb
    go_wp2
    go_ret
    exact ⟨rfl, HB4.out⟩
  have HOK := Lib.hid hok
  have HBZ := Lib.hid (Below.refl w3.heap.size w3)
  clear hok hzw
  go_wp2_with fail
  refine (zcut_any z apex nm S w3 HOK.out.is HOK.out.canon.keys HOK.out.sz HOK.out.canon.non HA1.out HM1.out).mono ?_; rintro e w4 ⟨⟨X, xa, xc, hX, rfl, -⟩, hb⟩
  obtain ⟨⟨xn, xt, xcl⟩, xu, xd⟩ := X
  obtain ⟨xl, hxl⟩ : ∃ x, xd.length = x := ⟨_, rfl⟩
  have HX := Lib.hid hX
  dsimp only
  rw [hxl]
  obtain ⟨ok, hok⟩ : ∃ x, (cutP S apex nm).isSome = x := ⟨_, rfl⟩
  rw [hok]
  have HOKK := Lib.hid hok
  have hba := (Below.refl w4.heap.size w4).alloc (Nat.le_refl _) (.cells #[.string xn, .int .i64 xt, .int .i64 xcl, .int .i64 xu, .slice xa xl xc] 39)
  have HZ4 := Lib.hid (hb.trans (hba.mono hb.size))
  have HC := Lib.hid (c5_new w4 (.string xn) (.int .i64 xt) (.int .i64 xcl) (.int .i64 xu) (.slice xa xl xc) 39)
  clear hb hX hok hxl hba HBZ
  go_upto_region 9 with (fail)
  obtain ⟨w5, hw5⟩ : ∃ x, w4.alloc (.cells #[.string xn, .int .i64 xt, .int .i64 xcl, .int .i64 xu, .slice xa xl xc] 39) = x := ⟨_, rfl⟩
  rw [hw5] at HZ4 HC ⊢
  clear hw5
  obtain ⟨q, hq⟩ : ∃ x, w4.heap.size = x := ⟨_, rfl⟩
  rw [hq] at HC ⊢
  clear hq
  have HRU := Lib.hid (fun wx => runder_any nm apex wx HM1.out HA1.out)
  obtain ⟨P, d, hp, hcp⟩ := cut_path S apex nm HM1.out
  by_cases hu : undS nm apex = true
  · rw [hu] at HRU
    have HPT := Lib.hid hp
    have HCP := Lib.hid hcp
    have hap : P d = apex := by
      rcases hp.last with h | ⟨h1, h2⟩
      · exact h.1
      · subst h2; rw [hp.zero, hu] at h1; cases h1
    have HAP := Lib.hid hap
    have HPZ := Lib.hid hp.zero
    clear hp hcp hu hap
    go_wp2_with fail
    refine (HRU.out _).mono ?_; rintro e w6 ⟨rfl, hb⟩
    have HB6 := Lib.hid (HZ4.out.trans (hb.mono HZ4.out.size))
    have HC6 := Lib.hid (HC.out.below hb)
    clear hb HC HZ4
    go_wp2_with fail
    go_loopw [11, 12, 13] (fun av bv nv wr => ∃ (k : Nat) (p : ByteArray) (acc : Option SetP) (wt : ByteArray) (hs : Bool), k ≤ d ∧ nv = .string p ∧ av = .string wt ∧ bv = .bool hs ∧ Hid (p = P k) ∧ Hid (cutI S P (d - k) k acc = cutI S P d 0 none) ∧ Hid (acc.isSome = hs ∧ ∀ s, acc = some s → s.k.n = wt) ∧ Hid (C5 wr q (.string xn) (.int .i64 xt) (.int .i64 xcl) (.int .i64 xu) (.slice xa xl xc)) ∧ Hid (Below w3.heap.size w3 wr)) (fun _ _ nv _ => match nv with | .string p => p.size | _ => 0)
    case atStart => exact ⟨0, nm, none, _, false, Nat.zero_le _, rfl, rfl, rfl, Lib.hid HPZ.out.symm, Lib.hid rfl, Lib.hid ⟨rfl, fun s h => by cases h⟩, HC6, HB6⟩
    case round =>
      obtain ⟨k, p, acc, wt, hs, hk, rfl, rfl, rfl, hpk, hcut, hacc, hc6, hbw⟩ := hrel
      clear HC6 HB6
      by_cases hlt : k < d
      · obtain ⟨e1, e2, e3, L, e4, e5, e6, e7, e8⟩ := HPT.out.mid k hlt
        rw [← hpk.out] at e1 e2 e3 e4
        have HPA := Lib.hid (fun wx => rparent_yes L wx e5 e6)
        rw [← e4, e7, e8] at HPA
        have HP3 := Lib.hid e3
        have HDEC := Lib.hid (show (P (k + 1)).size < p.size by
          have h1 := tail_ok e5 e6 (by rintro rfl; cases e8)
          rw [← e7, h1.2.2.1, e4]; exact h1.2.2.2)
        have HCK := Lib.hid (show cutI S P (d - (k + 1)) (k + 1) (match findK S ⟨p, 2, 1⟩ with | some s => some s | none => acc) = cutI S P d 0 none by
          rw [← hcut.out, show d - k = (d - (k + 1)) + 1 by omega, cutI, ← hpk.out]; rfl)
        obtain ⟨p2, hp2⟩ : ∃ x, P (k + 1) = x := ⟨_, rfl⟩
        rw [hp2] at HPA HDEC
        have HP2 := Lib.hid hp2.symm
        have HLT := Lib.hid hlt
        clear e2 e3 e4 e5 e6 e7 e8 hp2 hlt
        go_wp2_with fail
        refine (zget_any z apex S p 2 1 wr (HOK.out.is.below hbw.out) HOK.out.canon.keys HOK.out.sz HP3.out).mono ?_; rintro e w7 ⟨hf, hb7⟩
        have HFK := Lib.hid (fun s => found_k (S := S) (k := ⟨p, 2, 1⟩) (s := s))
        obtain ⟨n1, t1, c1, u1, a1, l1, cc1, rfl⟩ := found_ex hf
        have HBA := Lib.hid ((Below.refl w7.heap.size w7).alloc (Nat.le_refl _) (.cells #[.string n1, .int .i64 t1, .int .i64 c1, .int .i64 u1, .slice a1 l1 cc1] 39))
        have HXX := Lib.hid (hb7.trans (HBA.out.mono hb7.size))
        have HBX := Lib.hid (hbw.out.trans (HXX.out.mono hbw.out.size))
        have HCX := Lib.hid (hc6.out.below HXX.out)
        clear hf hb7 HBA HXX hbw hc6 e1
        dsimp only
        cases hfo : findK S ⟨p, 2, 1⟩ with
        | none =>
          have HFO := Lib.hid hfo
          rw [hfo] at HCK
          clear hfo
          go_wp2_with fail
          refine (HPA.out _).mono ?_; rintro e w8 ⟨rfl, rfl⟩
          go_wp2
          go_roundw
          case rel => exact ⟨k + 1, p2, acc, wt, hs, HLT.out, rfl, rfl, rfl, HP2, HCK, hacc, HCX, HBX⟩
          case measure => exact HDEC.out
        | some s =>
          have HFO := Lib.hid hfo
          rw [hfo] at HCK
          clear hfo
          go_wp2_with fail
          refine (HPA.out _).mono ?_; rintro e w8 ⟨rfl, rfl⟩
          go_wp2
          go_roundw
          case rel => exact ⟨k + 1, p2, some s, p, true, HLT.out, rfl, rfl, rfl, HP2, HCK, Lib.hid ⟨rfl, fun t ht => by obtain rfl := Option.some.inj ht; rw [HFK.out _ HFO.out]⟩, HCX, HBX⟩
          case measure => exact HDEC.out
      · obtain rfl : k = d := by omega
        have HAC := Lib.hid (show cutP S apex nm = acc by rw [HCP.out, ← hcut.out, Nat.sub_self]; rfl)
        obtain rfl : p = apex := by rw [hpk.out, HAP.out]
        have HHS := Lib.hid (show hs = ok by rw [← hacc.out.1, ← HAC.out]; exact HOKK.out)
        clear hlt hcut hpk hk
        go_wp2_with fail
        refine (first10 _).mono ?_; rintro e w7 ⟨rfl, hb⟩
        have HB7 := Lib.hid (hbw.out.trans (hb.mono hbw.out.size))
        have HC7 := Lib.hid (hc6.out.below hb)
        clear hb hbw hc6
        obtain rfl := HHS.out
        cases hs
        · go_wp2
          go_ret
          exact ⟨rfl, HB3.out.trans (HB7.out.mono HB3.out.size)⟩
        · obtain ⟨X, hXX⟩ := Option.isSome_iff_exists.1 hacc.out.1
          have hwt := hacc.out.2 X hXX
          have hx : X = ⟨⟨xn, xt, xcl⟩, xu, xd⟩ := by
            have h1 := HX.out
            rw [HAC.out, hXX] at h1
            exact h1
          have hc9 := HCP.out
          rw [HAC.out, hXX] at hc9
          rcases cutI_some k 0 none X hc9.symm with h1 | ⟨j, -, hj, hkey⟩
          · cases h1
          have hup := HPT.out.up j (by omega)
          obtain ⟨e1, -, e3, -⟩ := HPT.out.mid j (by omega)
          rw [hx] at hkey hwt
          injection hkey with g1 g2 g3
          replace hwt : xn = wt := hwt
          rw [← g1] at hup e1 e3
          subst hwt
          have HUP := Lib.hid (fun wx => runder_any nm xn wx HM1.out e3)
          rw [hup] at HUP
          subst g2 g3
          obtain ⟨-, q0, q1, q2, q3, q4, -⟩ := HC7.out
          have e2 := eqB_refl xn
          have HNE := Lib.hid e1
          clear hXX hc9 hup g1 hx hj e1
          go_wp2_with fail
          have hba := (Below.refl w7.heap.size w7).alloc (Nat.le_refl _) (.cells #[.int .i64 2] 3)
          refine (isK ⟨xn, 2, 1⟩ _ 1 1 [2] _ (row1_lit w7 2 3) (by decide)).mono ?_; rintro e w8 ⟨rfl, hb5⟩
          have HXX := Lib.hid (hba.trans (hb5.mono hba.size))
          have HB8 := Lib.hid (HB7.out.trans (HXX.out.mono HB7.out.size))
          have HC8 := Lib.hid (HC7.out.below HXX.out)
          clear q0 q1 q2 q3 q4 hba hb5 HXX HB7 HC7
          dsimp only
          rw [show decide ((2 : Int) ∈ [2]) = true from rfl]
          obtain ⟨-, q0, q1, q2, q3, q4, -⟩ := HC8.out
          go_wp2_with fail
          refine (HUP.out _).mono ?_; rintro e w9 ⟨rfl, hb⟩
          have HB9 := Lib.hid (HB8.out.trans (hb.mono HB8.out.size))
          have HC9 := Lib.hid (HC8.out.below hb)
          clear hb q0 q1 q2 q3 q4 HB8 HC8
          obtain ⟨-, q0, q1, q2, q3, q4, -⟩ := HC9.out
          have e1 := HNE.out
          go_wp2
          go_ret
          exact ⟨rfl, HB3.out.trans (HB9.out.mono HB3.out.size)⟩
  · replace hu : undS nm apex = false := by simpa using hu
    have HV := Lib.hid (show cutP S apex nm = none from if_neg (by rw [hu]; simp))
    have HZT := Lib.hid (fun wx (hx : Below w3.heap.size w3 wx) => zthere_any z apex S nm wx (HOK.out.is.below hx) HOK.out.sz HA1.out HM1.out)
    rw [hu] at HRU HZT
    obtain rfl : ok = false := by rw [← HOKK.out, HV.out]; rfl
    clear hu hp hcp
    go_wp2_with fail
    refine (HRU.out _).mono ?_; rintro e w6 ⟨rfl, hb⟩
    have HB6 := Lib.hid (HZ4.out.trans (hb.mono HZ4.out.size))
    clear hb HC HZ4
    go_wp2_with fail
    refine (first10 _).mono ?_; rintro e w7 ⟨rfl, hb⟩
    have HB7 := Lib.hid (HB6.out.trans (hb.mono HB6.out.size))
    clear hb HB6
    go_wp2_with fail
    refine (HZT.out w7 HB7.out).mono ?_; rintro e w8 ⟨rfl, hb⟩
    have HB8 := Lib.hid (HB7.out.trans (hb.mono HB7.out.size))
    clear hb HB7
    go_wp2
    go_ret
    exact ⟨rfl, HB3.out.trans (HB8.out.mono HB3.out.size)⟩
end Go.Proofs.Ytgdhbelcellabaa
