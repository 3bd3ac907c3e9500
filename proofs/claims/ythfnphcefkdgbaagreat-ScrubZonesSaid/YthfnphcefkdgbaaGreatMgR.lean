/- Texts that others rest on, one behind the other: ZMp, ZnU, AGp, ZCu, ATw, AOp. -/
import Derived.Test.YthfnphcefkdgbaaGreatMgP
import Derived.Test.YthfnphcefkdgbaaGreatMgM
import Derived.Test.YthfnphcefkdgbaaGreatSUp
import Derived.Test.YthfnphcefkdgbaaGreatAuF
section
namespace Go.Proofs.YthfnphcefkdgbaaGreat
open Go.RowKit
end Go.Proofs.YthfnphcefkdgbaaGreat
end
section
namespace Go.Proofs.YthfnphcefkdgbaaGreat
open Go.RowKit
def NewU (apex : ByteArray) (l : List R5) (w : World) (e : Ending) (w' : World) : Prop :=
 (mayN apex = false ∧ e = .returned (.tuple #[.pointer none, .int .i64 10]) ∨ mayN apex = true ∧
  ((∃ r ∈ l, mayR5 r = false) ∧ e = .returned (.tuple #[.pointer none, .int .i64 4]) ∨ (∀ r ∈ l, mayR5 r = true) ∧
   (300 < l.length ∧ e = .returned (.tuple #[.pointer none, .int .i64 13]) ∨ l.length ≤ 300 ∧ ∃ S, Canon l S ∧ sumD S ≤ l.length ∧ S.length ≤ l.length ∧
    (wholeB apex S = false ∧ e = .returned (.tuple #[.pointer none, .int .i64 11]) ∨ wholeB apex S = true ∧ ∃ z, e = .returned (.tuple #[.pointer (some ⟨z, 0, none⟩), .int .i64 0]) ∧ w.heap.size ≤ z ∧ ZnUp w' w.heap.size z apex S)))) ∧ Below w.heap.size w w'
set_option maxRecDepth 100000 in
set_option maxHeartbeats 4000000 in
theorem znew_up (apex : ByteArray) (a : Option Addr) (n c : Nat) (l : List R5) (w : World) (h : RowR w a n l) (hn : a = none → n = 0 ∧ c = 0) (hlen : n ≤ 100000) (hk : ∀ r ∈ l, r.k.n.size ≤ 1000000) (hd : ∀ r ∈ l, r.d.size ≤ 1000000) (ha : apex.size ≤ 1000000) :
   Calls Tryz.prog 10 #[.string apex, .slice a n c] w fun e w' => NewU apex l w e w' := by
 have HR := Lib.hid h
 have HL := Lib.hid h.1
 have HN := Lib.hid hn
 have HK := Lib.hid hk
 have HD := Lib.hid hd
 have HAS := Lib.hid ha
 have HM := Lib.hid (fun wx => nmay_any apex wx ha)
 obtain ⟨mn, hmn⟩ : ∃ x, mayN apex = x := ⟨_, rfl⟩
 rw [hmn] at HM
 have HMN := Lib.hid hmn
 clear h hn hk hd ha hmn
 go_enter Tryz.func10, Tryz.ntmps10
 go_wp2_with fail
 refine (HM.out _).mono ?_; rintro e w1 ⟨rfl, rfl⟩
 have HB1 := Lib.hid (Below.refl w.heap.size w)
 clear HM
 cases mn
 · go_wp2
   refine bodyPost_ret (v := .tuple #[.pointer none, .int .i64 10]) (by simp [results, Tryz.results10, go_sem]) rfl ⟨Or.inl ⟨HMN.out, rfl⟩, HB1.out⟩
 go_wp2_with fail
 go_loopw [14] (fun i wr => ∃ k : Nat, k ≤ n ∧ i = .int .i64 k ∧ Hid (∀ r ∈ l.take k, mayR5 r = true) ∧ Hid (Below w.heap.size w wr)) (fun i _ => n - (intOf i).toNat)
 case atStart => exact ⟨0, Nat.zero_le _, rfl, Lib.hid (fun r hr => by simp at hr), HB1⟩
 case round =>
   obtain ⟨k, hk, rfl, hall, hbw⟩ := hrel
   clear HB1
   by_cases hlt : k < n
   · obtain ⟨b, o, r, rfl, hbl, hlk, c0, c1, c2, c3, c4⟩ := (HR.out.below hbw.out).at k hlt
     have hmem := List.mem_of_getElem? hlk
     have HMEM := Lib.hid hmem
     have HLK := Lib.hid hlk
     have h1 := HK.out r hmem
     have h2 := HD.out r hmem
     obtain ⟨⟨rn, rt, rc⟩, ru, rd⟩ := r
     have HBA := Lib.hid ((Below.refl wr.heap.size wr).alloc (Nat.le_refl _) (.cells #[.string rn, .int .i64 rt, .int .i64 rc, .int .i64 ru, .string rd] 111))
     have HC := Lib.hid (fun wx => mayRR_any rn rt rc ru rd wx h1 h2)
     have HRV := Lib.hid (show mayR5 ⟨⟨rn, rt, rc⟩, ru, rd⟩ = mayR rn rt rc ru rd from rfl)
     obtain ⟨v, hv⟩ : ∃ x, mayR rn rt rc ru rd = x := ⟨_, rfl⟩
     rw [hv] at HC HRV
     have i1 : (0 : Int) ≤ (k : Int) := by omega
     have i2 : (k : Int) < (n : Int) := by omega
     have HLT := Lib.hid hlt
     clear hmem hlk h1 h2 hv hbl
     go_wp2_with fail
     refine (HC.out _).mono ?_; rintro e w2 ⟨rfl, hb2⟩
     have HB2 := Lib.hid (hbw.out.trans ((HBA.out.trans (hb2.mono HBA.out.size)).mono hbw.out.size))
     clear hb2 c0 c1 c2 c3 c4 hbw HBA
     cases v
     · go_wp2
       refine bodyPost_ret (v := .tuple #[.pointer none, .int .i64 4]) (by simp [results, Tryz.results10, go_sem]) rfl ⟨Or.inr ⟨HMN.out, Or.inl ⟨⟨_, HMEM.out, HRV.out⟩, rfl⟩⟩, HB2.out⟩
     · go_wp2
       go_roundw
       case rel => exact ⟨k + 1, HLT.out, by have := HLT.out; go_num, Lib.hid (fun r hr => by
         rw [List.take_add_one, HLK.out] at hr
         rcases List.mem_append.1 hr with h1 | h1
         · exact hall.out r h1
         · obtain rfl := List.mem_singleton.1 h1; exact HRV.out), HB2⟩
       case measure => have := HLT.out; simp [intOf]; omega
   · have hkn : k = n := by omega
     subst hkn
     have HAL := Lib.hid (show ∀ r ∈ l, mayR5 r = true by have h1 := hall.out; rw [List.take_of_length_le (by rw [HL.out]; exact Nat.le_refl _)] at h1; exact h1)
     clear hall hlt hk
     by_cases h3 : 300 < k
     · have d1 : decide (300 < k) = true := dT h3
       have d2 : decide ((300 : Int) < (k : Int)) = true := dT (by omega)
       have HX := Lib.hid (show 300 < l.length by rw [HL.out]; exact h3)
       clear h3
       go_wp2
       refine bodyPost_ret (v := .tuple #[.pointer none, .int .i64 13]) (by simp [results, Tryz.results10, go_sem]) rfl ⟨Or.inr ⟨HMN.out, Or.inr ⟨HAL.out, Or.inl ⟨HX.out, rfl⟩⟩⟩, hbw.out⟩
     · have d1 : decide (300 < k) = false := dF h3
       have d2 : decide ((300 : Int) < (k : Int)) = false := dF (by omega)
       have HX := Lib.hid (show l.length ≤ 300 by rw [HL.out]; omega)
       clear h3
       go_wp2_with fail
       refine (group_up a k c l _ (HR.out.below hbw.out) HN.out hlen HK.out).mono ?_; rintro e w2 ⟨ga, gc, S, rfl, hcan, hs1, hs2, hsa, hb2⟩
       have HB2 := Lib.hid (hbw.out.trans (hb2.mono hbw.out.size))
       have HCN := Lib.hid hcan
       have HS1 := Lib.hid hs1
       have HS2 := Lib.hid hs2
       have hba := (Below.refl w2.heap.size w2).alloc (Nat.le_refl _) (.cells #[.string apex, .slice ga S.length gc] 115)
       have HZA := Lib.hid (show ZnUp (w2.alloc (.cells #[.string apex, .slice ga S.length gc] 115)) w.heap.size w2.heap.size apex S from ⟨HB2.out.size, ga, gc, CN.new w2 #[.string apex, .slice ga S.length gc] _, (hsa.mono hbw.out.size).below hba⟩)
       have HB3 := Lib.hid (HB2.out.trans (hba.mono HB2.out.size))
       have HSZ := Lib.hid (hcan.sz hs1 hs2 (by have := HX.out; omega) HK.out)
       have HZG := Lib.hid HB2.out.size
       obtain ⟨len, hlen2⟩ : ∃ x, S.length = x := ⟨_, rfl⟩
       rw [hlen2] at HZA HB3 ⊢
       clear hba hcan hs1 hs2 hsa hb2 HB2 hlen2 d1 d2
       go_upto_region 12 with (fail)
       obtain ⟨w3, hw3⟩ : ∃ x, w2.alloc (.cells #[.string apex, .slice ga len gc] 115) = x := ⟨_, rfl⟩
       rw [hw3] at HZA HB3 ⊢
       clear hw3
       obtain ⟨z, hz⟩ : ∃ x, w2.heap.size = x := ⟨_, rfl⟩
       rw [hz] at HZA HZG ⊢
       clear hz
       go_wp2_with fail
       refine (whole_any z apex S w3 HZA.out.is HCN.out.keys HSZ.out HAS.out).mono ?_; rintro e w4 ⟨rfl, hb4⟩
       have HZ4 := Lib.hid (HZA.out.below hb4)
       have HB4 := Lib.hid (HB3.out.trans (hb4.mono HB3.out.size))
       clear hb4 HB3 HZA
       obtain ⟨v, hv⟩ : ∃ x, wholeB apex S = x := ⟨_, rfl⟩
       have HV := Lib.hid hv
       rw [hv]
       clear hv
       cases v
       · go_wp2
         refine bodyPost_ret (v := .tuple #[.pointer none, .int .i64 11]) (by simp [results, Tryz.results10, go_sem]) rfl ⟨Or.inr ⟨HMN.out, Or.inr ⟨HAL.out, Or.inr ⟨HX.out, S, HCN.out, HS1.out, HS2.out, Or.inl ⟨HV.out, rfl⟩⟩⟩⟩, HB4.out⟩
       · go_wp2
         refine bodyPost_ret (v := .tuple #[.pointer (some ⟨z, 0, none⟩), .int .i64 0]) (by simp [results, Tryz.results10, go_sem]) rfl ⟨Or.inr ⟨HMN.out, Or.inr ⟨HAL.out, Or.inr ⟨HX.out, S, HCN.out, HS1.out, HS2.out, Or.inr ⟨HV.out, z, rfl, HZG.out, HZ4.out⟩⟩⟩⟩, HB4.out⟩
end Go.Proofs.YthfnphcefkdgbaaGreat
end
section
namespace Go.Proofs.YthfnphcefkdgbaaGreat
open Go.RowKit
theorem riseB_nodup {l : List ByteArray} (h : l.Pairwise (fun x y => cmpB x y < 0)) : l.Nodup := h.imp (fun {a b} hab e => by
 rw [e, (ord_cmpB.zero b b).2 rfl] at hab; omega)
theorem tg_nodup {l : List ByteArray} (h : l.Pairwise (fun x y => cmpS x y < 0)) : l.Nodup := h.imp (fun {a b} hab e => by
 rw [e, (ord_cmpS.zero b b).2 rfl] at hab; omega)
theorem glue_in {S : List SetP} {T : List ByteArray} {g : SetP} (h : g ∈ glueP S T) : findK S g.k = some g ∧ (g.k.t = 1 ∨ g.k.t = 28) ∧ g.k.n ∈ T ∧ g.k.c = 1 := by
 rw [glueP, List.mem_flatMap] at h
 obtain ⟨x, hx, hg⟩ := h
 rw [glueN, List.mem_append] at hg
 have one : ∀ t, g ∈ glueF S x t → findK S ⟨x, t, 1⟩ = some g := fun t h => by
   rw [glueF] at h
   cases hf : findK S ⟨x, t, 1⟩ with
   | none => rw [hf] at h; cases h
   | some s => rw [hf] at h; obtain rfl := List.mem_singleton.1 (show g ∈ [s] from h); rfl
 rcases hg with hg | hg
 · have h1 := one 1 hg
   have h2 := find_key h1
   rw [h2]; exact ⟨h1, Or.inl rfl, hx, rfl⟩
 · have h1 := one 28 hg
   have h2 := find_key h1
   rw [h2]; exact ⟨h1, Or.inr rfl, hx, rfl⟩
theorem glueN_n {S : List SetP} {x : ByteArray} {g : SetP} (h : g ∈ glueN S x) : g.k.n = x := by
 rw [glueN, List.mem_append] at h
 have one : ∀ t, g ∈ glueF S x t → g.k.n = x := fun t h => by
   rw [glueF] at h
   cases hf : findK S ⟨x, t, 1⟩ with
   | none => rw [hf] at h; cases h
   | some s => rw [hf] at h; obtain rfl := List.mem_singleton.1 (show g ∈ [s] from h); rw [find_key hf]
 rcases h with h | h
 · exact one 1 h
 · exact one 28 h
theorem kcmp_t {x : ByteArray} {c t u : Int} (h : t < u) : kcmp ⟨x, t, c⟩ ⟨x, u, c⟩ < 0 := by
 show orI [cmpS x x, Lib.compareInt c c, Lib.compareInt t u] < 0
 rw [or3, (ord_cmpS.zero x x).2 rfl, if_pos rfl, (ord_int.zero c c).2 rfl, if_pos rfl]
 rcases ord_int.rng t u with h1 | h1 | h1
 · rw [h1]; decide
 · have := (ord_int.zero t u).1 h1; omega
 · exfalso
   have h2 : Lib.compareInt t u = -1 := by simp [Lib.compareInt, h]
   omega
theorem glueN_rise (S : List SetP) (x : ByteArray) : (glueN S x).Pairwise (fun s t => kcmp s.k t.k < 0) := by
 rw [glueN, glueF, glueF]
 cases h1 : findK S ⟨x, 1, 1⟩ with
 | none => cases h2 : findK S ⟨x, 28, 1⟩ with
  | none => exact List.Pairwise.nil
  | some t => exact List.pairwise_singleton _ _
 | some s => cases h2 : findK S ⟨x, 28, 1⟩ with
  | none => exact List.pairwise_singleton _ _
  | some t =>
   refine List.pairwise_cons.2 ⟨fun u hu => ?_, List.pairwise_singleton _ _⟩
   obtain rfl := List.mem_singleton.1 (show u ∈ [t] from hu)
   rw [find_key h1, find_key h2]
   exact kcmp_t (by decide)
theorem glueP_rise (S : List SetP) : ∀ T : List ByteArray, T.Pairwise (fun x y => cmpS x y < 0) → (glueP S T).Pairwise (fun s t => kcmp s.k t.k < 0)
 | [], _ => List.Pairwise.nil
 | x :: T, h => by
  obtain ⟨h1, h2⟩ := List.pairwise_cons.1 h
  rw [glueP, List.flatMap_cons]
  refine List.pairwise_append.2 ⟨glueN_rise S x, glueP_rise S T h2, fun s hs t ht => ?_⟩
  have hn := glueN_n hs
  have ht' := (glue_in (S := S) (T := T) ht).2.2.1
  have h3 := h1 _ ht'
  rw [← hn] at h3
  show orI [cmpS s.k.n t.k.n, Lib.compareInt s.k.c t.k.c, Lib.compareInt s.k.t t.k.t] < 0
  rw [or3, if_neg (by omega)]; exact h3
theorem same_selfG (n : ByteArray) (t k u : Int) (d : List ByteArray) (pa pb : Option Addr) (dl ca cb : Nat) (w : World) (h1 : RowS w pa dl d) (h2 : RowS w pb dl d) (hl : dl ≤ 100000) : Calls Tryz.prog 48 #[.agg #[.string n, .int .i64 t, .int .i64 k, .int .i64 u, .slice pa dl ca], .agg #[.string n, .int .i64 t, .int .i64 k, .int .i64 u, .slice pb dl cb]] w fun e w' => e = .returned (.bool true) ∧ Below w.heap.size w w' := by
 have hd := h1.1
 subst hd
 have h := same_any ⟨⟨n, t, k⟩, u, d⟩ ⟨⟨n, t, k⟩, u, d⟩ pa pb ca cb w h1 h2 (by show d.length ≤ 1000000; omega)
 rw [(sameP_iff _ _).2 rfl] at h
 exact h
theorem newU_two {apex : ByteArray} {l : List R5} {w w' : World} {e : Ending} (h : NewU apex l w e w') : ((∃ x : Int, x ≠ 0 ∧ e = .returned (.tuple #[.pointer none, .int .i64 x])) ∨ ∃ z S, e = .returned (.tuple #[.pointer (some ⟨z, 0, none⟩), .int .i64 0]) ∧ ZnUp w' w.heap.size z apex S ∧ ZOk w' z apex l S) ∧ Below w.heap.size w w' := by
 obtain ⟨h, hb⟩ := h
 refine ⟨?_, hb⟩
 rcases h with ⟨_, rfl⟩ | ⟨h1, ⟨_, rfl⟩ | ⟨h2, ⟨_, rfl⟩ | ⟨h3, S, hc, hs, hl, ⟨_, rfl⟩ | ⟨hw, z, rfl, hz, hza⟩⟩⟩⟩
 · exact Or.inl ⟨10, by decide, rfl⟩
 · exact Or.inl ⟨4, by decide, rfl⟩
 · exact Or.inl ⟨13, by decide, rfl⟩
 · exact Or.inl ⟨11, by decide, rfl⟩
 · exact Or.inr ⟨z, S, rfl, hza, h1, h2, h3, hc, hs, hl, hw, hza.is⟩
end Go.Proofs.YthfnphcefkdgbaaGreat
end
section
namespace Go.Proofs.YthfnphcefkdgbaaGreat
open Go.RowKit
end Go.Proofs.YthfnphcefkdgbaaGreat
end
section
namespace Go.Proofs.YthfnphcefkdgbaaGreat
open Go.RowKit
theorem und_may {n a : ByteArray} (h : undS n a = true) : mayN n = true := by
 rw [undS, Bool.and_eq_true, Bool.and_eq_true] at h; exact h.1.1
theorem ans_out {S : List SetP} {apex n : ByteArray} {t c : Int} (h : inQ apex n t c = false) : ansF S apex n t c = ⟨6, 5, [], [], []⟩ := by rw [ansF, if_pos h]
theorem ans_cut {S : List SetP} {apex n : ByteArray} {t c : Int} {x : SetP} (h : inQ apex n t c = true) (hc : cutP S apex n = some x) (ht : ¬ (x.k.n = n ∧ t = 43)) : ansF S apex n t c = ⟨3, 0, [], [x], glueL S [x]⟩ := by
 rw [ansF, if_neg (by rw [h]; simp), hc]; exact if_neg ht
theorem ans_no {S : List SetP} {apex n : ByteArray} {t c : Int} (h : inQ apex n t c = true) (hc : cutP S apex n = none) : ansF S apex n t c = ansT S apex n t := by
 rw [ansF, if_neg (by rw [h]; simp), hc]
theorem ansT_alias {S : List SetP} {apex n : ByteArray} {t : Int} {s : SetP} (h : findK S ⟨n, 5, 1⟩ = some s) (ht : t ≠ 5) : ansT S apex n t = ⟨2, 0, [s], [], []⟩ := by rw [ansT, h]; exact if_neg ht
theorem ansT_k {S : List SetP} {apex n : ByteArray} {t : Int} (h : findK S ⟨n, 5, 1⟩ = none ∨ t = 5) : ansT S apex n t = ansK S apex n t := by
 rw [ansT]
 cases hf : findK S ⟨n, 5, 1⟩ with
 | none => rfl
 | some s =>
  rcases h with h | h
  · rw [hf] at h; cases h
  · exact if_pos h
theorem ansK_yes {S : List SetP} {apex n : ByteArray} {t : Int} {s : SetP} (h : findK S ⟨n, t, 1⟩ = some s) : ansK S apex n t = ⟨1, 0, [s], [], glueL S [s]⟩ := by rw [ansK, h]
theorem ansK_no {S : List SetP} {apex n : ByteArray} {t : Int} (h : findK S ⟨n, t, 1⟩ = none) : ansK S apex n t = if thereP S n = true then ⟨5, 0, [], soaL S apex, []⟩ else ⟨4, 3, [], soaL S apex, []⟩ := by rw [ansK, h]
end Go.Proofs.YthfnphcefkdgbaaGreat
end
section
namespace Go.Proofs.YthfnphcefkdgbaaGreat
open Go.RowKit
theorem cutI_find {S : List SetP} {P : Nat → ByteArray} : ∀ (r i : Nat) (acc : Option SetP) (x : SetP), cutI S P r i acc = some x → acc = some x ∨ ∃ j, i ≤ j ∧ j < i + r ∧ findK S ⟨P j, 2, 1⟩ = some x
 | 0, _, _, _, h => Or.inl h
 | r + 1, i, acc, x, h => by
  rw [cutI] at h
  rcases cutI_find r (i + 1) _ x h with h1 | ⟨j, h1, h2, h3⟩
  · cases hf : findK S ⟨P i, 2, 1⟩ with
    | none => rw [hf] at h1; exact Or.inl h1
    | some s =>
     rw [hf] at h1
     obtain rfl : s = x := Option.some.inj h1
     exact Or.inr ⟨i, Nat.le_refl _, by omega, hf⟩
  · exact Or.inr ⟨j, by omega, by omega, h3⟩
theorem cut_facts {S : List SetP} {apex n : ByteArray} {x : SetP} (hn : n.size ≤ 1000000) (h : cutP S apex n = some x) : x.k.t = 2 ∧ undS n x.k.n = true ∧ (x.k.n.toList == apex.toList) = false ∧ findK S x.k = some x := by
 obtain ⟨P, d, hp, he⟩ := cut_path S apex n hn
 rw [he] at h
 rcases cutI_find d 0 none x h with h1 | ⟨j, -, h2, h3⟩
 · cases h1
 · have hk := find_key h3
   rw [hk]
   exact ⟨rfl, hp.up j (by omega), (hp.mid j (by omega)).1, h3⟩
theorem soa_found {w : World} {z : Nat} {apex : ByteArray} {l : List R5} {S : List SetP} (h : ZOk w z apex l S) : ∃ s, soaL S apex = [s] ∧ findK S s.k = some s ∧ s.k.t = 6 := by
 obtain ⟨s0, d0, hs, -⟩ := soa_one h
 have hk := find_key hs
 exact ⟨s0, by rw [soaL, hs]; rfl, by rw [hk]; exact hs, by rw [hk]⟩
def OnlyP (S : List SetP) (apex qn : ByteArray) (qt : Int) (R : RepP) : Prop :=
 (∀ g ∈ R.an ++ R.ns ++ R.ar, findK S g.k = some g) ∧
 ((R.kind = 1 ∧ R.rc = 0 ∧ ∃ s, R.an = [s] ∧ s.k.n = qn ∧ s.k.t = qt) ∨
  (R.kind = 2 ∧ qt ≠ 5 ∧ R.ns = [] ∧ ∃ s, R.an = [s] ∧ s.k.n = qn ∧ s.k.t = 5) ∨
  (R.kind = 3 ∧ R.an = [] ∧ ∃ x, R.ns = [x] ∧ x.k.t = 2 ∧ undS qn x.k.n = true ∧ (x.k.n.toList == apex.toList) = false) ∨
  (R.kind = 4 ∧ R.rc = 3 ∧ R.an = [] ∧ thereP S qn = false ∧ ∃ x, R.ns = [x] ∧ x.k.t = 6) ∨
  (R.kind = 5 ∧ R.rc = 0 ∧ R.an = [] ∧ undS qn apex = true ∧ thereP S qn = true ∧ ∃ x, R.ns = [x] ∧ x.k.t = 6) ∨
  (R.kind = 6 ∧ R.rc = 5 ∧ R.an = [] ∧ R.ns = [] ∧ R.ar = []))
theorem glueL_found {S L : List SetP} : ∀ g ∈ glueL S L, findK S g.k = some g := fun _ hg => (glue_in hg).1
theorem onlyT {w : World} {z : Nat} {apex : ByteArray} {l : List R5} {S : List SetP} (h : ZOk w z apex l S) {qn : ByteArray} (hu : undS qn apex = true) (qt : Int) : OnlyP S apex qn qt (ansT S apex qn qt) := by
 have hK : OnlyP S apex qn qt (ansK S apex qn qt) := by
  cases hf : findK S ⟨qn, qt, 1⟩ with
  | some s =>
    have hk := find_key hf
    rw [ansK_yes hf]
    refine ⟨fun g hg => ?_, Or.inl ⟨rfl, rfl, s, rfl, by rw [hk], by rw [hk]⟩⟩
    rcases List.mem_append.1 hg with hg | hg
    · obtain rfl : g = s := by simpa using hg
      rw [hk]; exact hf
    · exact glueL_found g hg
  | none =>
    obtain ⟨x, hx, hxf, hx6⟩ := soa_found h
    rw [ansK_no hf]
    have hg : ∀ k r : Int, ∀ g ∈ (⟨k, r, [], soaL S apex, []⟩ : RepP).an ++ (⟨k, r, [], soaL S apex, []⟩ : RepP).ns ++ (⟨k, r, [], soaL S apex, []⟩ : RepP).ar, findK S g.k = some g := fun k r g hg => by
      obtain rfl : g = x := by simpa [hx] using hg
      exact hxf
    cases ht : thereP S qn with
    | true =>
      rw [if_pos rfl]
      exact ⟨hg 5 0, Or.inr (Or.inr (Or.inr (Or.inr (Or.inl ⟨rfl, rfl, rfl, hu, ht, x, hx, hx6⟩))))⟩
    | false =>
      rw [if_neg (by simp)]
      exact ⟨hg 4 3, Or.inr (Or.inr (Or.inr (Or.inl ⟨rfl, rfl, rfl, ht, x, hx, hx6⟩)))⟩
 cases h5 : findK S ⟨qn, 5, 1⟩ with
 | none => rw [ansT_k (Or.inl h5)]; exact hK
 | some s =>
  by_cases ht : qt = 5
  · rw [ansT_k (Or.inr ht)]; exact hK
  · have hk := find_key h5
    rw [ansT_alias h5 ht]
    refine ⟨fun g hg => ?_, Or.inr (Or.inl ⟨rfl, ht, rfl, s, rfl, by rw [hk], by rw [hk]⟩)⟩
    obtain rfl : g = s := by simpa using hg
    rw [hk]; exact h5
theorem onlyP {w : World} {z : Nat} {apex : ByteArray} {l : List R5} {S : List SetP} (h : ZOk w z apex l S) {qn : ByteArray} (hn : qn.size ≤ 1000000) (qt qc : Int) : OnlyP S apex qn qt (ansF S apex qn qt qc) := by
 cases hq : inQ apex qn qt qc with
 | false =>
  rw [ans_out hq]
  exact ⟨fun g hg => by simp at hg, Or.inr (Or.inr (Or.inr (Or.inr (Or.inr ⟨rfl, rfl, rfl, rfl, rfl⟩))))⟩
 | true =>
  have hu : undS qn apex = true := by
   rw [inQ, Bool.and_eq_true, Bool.and_eq_true] at hq
   exact hq.2.1
  cases hc : cutP S apex qn with
  | none => rw [ans_no hq hc]; exact onlyT h hu qt
  | some x =>
   by_cases hd : x.k.n = qn ∧ qt = 43
   · have e : ansF S apex qn qt qc = ansT S apex qn qt := by rw [ansF, if_neg (by rw [hq]; simp), hc]; exact if_pos hd
     rw [e]; exact onlyT h hu qt
   · obtain ⟨c1, c2, c3, c4⟩ := cut_facts hn hc
     rw [ans_cut hq hc hd]
     refine ⟨fun g hg => ?_, Or.inr (Or.inr (Or.inl ⟨rfl, rfl, x, rfl, c1, c2, c3⟩))⟩
     rcases List.mem_append.1 hg with hg | hg
     · obtain rfl : g = x := by simpa using hg
       exact c4
     · exact glueL_found g hg
end Go.Proofs.YthfnphcefkdgbaaGreat
end
