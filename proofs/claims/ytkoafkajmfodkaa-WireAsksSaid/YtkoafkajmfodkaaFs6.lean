/- The examples of chapter 6 hold; what a size is, plain. -/
import Derived.Test.YtkoafkajmfodkaaFm5
namespace Go.Proofs.Ytkoafkajmfodkaa
open Go.RowKit

theorem MsgAt.cells {w : World} {v : Value} {m : MsgP} (h : MsgAt w v m) : ∃ (mi mo mr : Int) (b1 b2 b3 b4 b5 : Bool) (qa na sa xa : Option Addr) (ql qc nl nc sl sc xl xc : Nat), v = .agg #[.int .i64 mi, .int .i64 mo, .int .i64 mr, .bool b1, .bool b2, .bool b3, .bool b4, .bool b5, .slice qa ql qc, .slice na nl nc, .slice sa sl sc, .slice xa xl xc] := by
  obtain ⟨qa, qc, na, nc, sa, sc, xa, xc, rfl, _⟩ := h
  exact ⟨_, _, _, _, _, _, _, _, qa, na, sa, xa, _, qc, _, nc, _, sc, _, xc, rfl⟩
theorem keepR_app (p : R5 → Bool) (A B : List R5) : keepR p (A ++ B) = keepR p A ++ keepR p B := List.filter_append _ _
theorem keep_two (X : List R5) : keepR optN (keepR optB X) = [] := by
  rw [keepR, keepR, List.filter_filter, List.filter_eq_nil_iff]
  intro r _
  simp [optN, optB]
theorem keep_bb (X : List R5) : keepR optB (keepR optB X) = keepR optB X := by
  rw [keepR, keepR, List.filter_filter]
  congr 1
  funext r
  simp
theorem putR_ok {o : OptP} (h : putE o = 0) : putR o = ⟨⟨⟨#[0]⟩, 41, o.size⟩, ttlO o, o.data⟩ := by rw [putR, if_pos h]
theorem keepN_put {o : OptP} (h : putE o = 0) : keepR optN [putR o] = [putR o] := by rw [putR_ok h]; rfl
theorem getO_none (X : List R5) : getO (keepR optB X) = (opt0, false, 0) := by rw [getO, keep_two]; rfl
theorem root_list : (⟨#[0]⟩ : ByteArray).toList = [0] := by decide +kernel
theorem getO_one (X : List R5) {o : OptP} (h : putE o = 0) : getO (keepR optB X ++ [putR o]) = (optOf (putR o), true, 0) := by
  rw [getO, keepR_app, keep_two, keepN_put h, List.nil_append, getF, if_pos (by rw [putR_ok h]; exact root_list)]
theorem getO_two (X : List R5) {o p : OptP} (h : putE o = 0) (h2 : putE p = 0) : getO (keepR optB X ++ [putR o, putR p]) = (opt0, false, 7) := by
  rw [getO, show keepR optB X ++ [putR o, putR p] = (keepR optB X ++ [putR o]) ++ [putR p] by simp, keepR_app, keepR_app, keep_two, keepN_put h, keepN_put h2]
  rfl
theorem sizeO_none (X : List R5) (l k : Int) : sizeO (keepR optB X) l k = l := by rw [sizeO, getO_none]; rfl
theorem sizeO_two (X : List R5) {o p : OptP} (h : putE o = 0) (h2 : putE p = 0) (l k : Int) : sizeO (keepR optB X ++ [putR o, putR p]) l k = l := by rw [sizeO, getO_two X h h2]; rfl
theorem sizeO_one (X : List R5) {o : OptP} (h : putE o = 0) (l k : Int) : sizeO (keepR optB X ++ [putR o]) l k = if k < (if o.size < l then l else o.size) then k else (if o.size < l then l else o.size) := by
  rw [sizeO, getO_one X h, if_pos rfl]
  show (if k < (if (optOf (putR o)).size < l then l else (optOf (putR o)).size) then k else (if (optOf (putR o)).size < l then l else (optOf (putR o)).size)) = _
  rw [putR_ok h]; rfl
theorem sizeO_rng (X : List R5) {l k : Int} (h : l ≤ k) : l ≤ sizeO X l k ∧ sizeO X l k ≤ k := by
  rw [sizeO]
  split
  · split <;> split <;> omega
  · omega
theorem putE_size {s : Int} {d : Bool} (h1 : 0 ≤ s) (h2 : s ≤ 65535) : putE ⟨s, 0, 0, d, ⟨#[]⟩⟩ = 0 := by
  have e : inR s 65535 = true := by simp [inR, h1, h2]
  rw [putE]
  simp only [e]
  rfl
theorem rowO_lit1 (w : World) (s : Int) (d : Bool) : RowO (w.alloc (.cells #[.int .i64 s, .int .i64 0, .int .i64 0, .bool d, .string ⟨#[]⟩] 80)) (some ⟨w.heap.size, 0, none⟩) 1 [⟨s, 0, 0, d, ⟨#[]⟩⟩] :=
  ⟨rfl, cells_lit w #[.int .i64 s, .int .i64 0, .int .i64 0, .bool d, .string ⟨#[]⟩] 80⟩
theorem rowO_lit2 (w : World) (s : Int) : RowO (w.alloc (.cells #[.int .i64 s, .int .i64 0, .int .i64 0, .bool false, .string ⟨#[]⟩, .int .i64 0, .int .i64 0, .int .i64 0, .bool false, .string ⟨#[]⟩] 80)) (some ⟨w.heap.size, 0, none⟩) 2 [⟨s, 0, 0, false, ⟨#[]⟩⟩, opt0] :=
  ⟨rfl, cells_lit w #[.int .i64 s, .int .i64 0, .int .i64 0, .bool false, .string ⟨#[]⟩, .int .i64 0, .int .i64 0, .int .i64 0, .bool false, .string ⟨#[]⟩] 80⟩
theorem small_ask (i : Int) : SmallM (askM i []) := ⟨⟨by simp [askM], by simp [askM]⟩, ⟨by simp [askM], by simp [askM]⟩, ⟨by simp [askM], by simp [askM]⟩, ⟨by simp [askM], by simp [askM]⟩⟩
theorem rowQ_nil (w : World) : RowQ w none 0 [] := ⟨rfl, rfl, Or.inl rfl⟩
def o900 : OptP := ⟨900, 0, 0, true, ⟨#[]⟩⟩
theorem put900 : putE o900 = 0 := putE_size (by decide) (by decide)
theorem get900 : getO [putR o900] = (optOf (putR o900), true, 0) := getO_one [] put900
theorem do900 : (optOf (putR o900)).d = true := by rw [putR_ok put900]; decide +kernel
theorem sz900 : (optOf (putR o900)).size = 900 := by rw [putR_ok put900]; rfl
theorem size900 : sizeO [putR o900] 512 1232 = 900 := (sizeO_one [] put900 512 1232).trans (by decide)

set_option maxRecDepth 100000 in
set_option maxHeartbeats 8000000 in
theorem first6 (w : World) : Calls Try.prog 40 #[] w fun e w' => e = .returned (.bool true) ∧ Below w.heap.size w w' := by
  go_enter Try.func40, Try.ntmps40
  go_wp2_with fail
  refine (askM_any 1 none 0 0 [] w (rowQ_nil w) (fun _ => ⟨rfl, rfl⟩) (by omega)).mono ?_; rintro e w1 ⟨v1, rfl, hm1, hb1⟩
  have hat1 := hm1.at
  obtain ⟨mi1, mo1, mr1, b11, b21, b31, b41, b51, qa1, na1, sa1, xa1, ql1, qc1, nl1, nc1, sl1, sc1, xl1, xc1, rfl⟩ := hat1.cells
  have HA1 := Lib.hid hat1
  have HB1 := Lib.hid hb1
  clear hm1 hat1 hb1
  have hbl := (Below.refl w1.heap.size w1).alloc (Nat.le_refl _) (.cells #[.int .i64 900, .int .i64 0, .int .i64 0, .bool true, .string ⟨#[]⟩] 80)
  have HA1' := Lib.hid (HA1.out.below hbl)
  have HBL := Lib.hid (HB1.out.trans (hbl.mono HB1.out.size))
  clear hbl
  go_wp2_with fail
  refine (withM_any _ (askM 1 []) _ 1 1 [o900] _ HA1'.out (small_ask 1) (rowO_lit1 w1 900 true) (by omega) (by intro o ho; rw [List.mem_singleton.1 ho]; decide)).mono ?_; rintro e w2 ⟨he, hb2⟩
  rcases he with ⟨_, v2, rfl, hm2⟩ | ⟨hne, _⟩
  rotate_left
  · exact absurd (by rw [withE, if_pos put900, withE]) hne
  have hat2 := hm2.at
  obtain ⟨mi2, mo2, mr2, b12, b22, b32, b42, b52, qa2, na2, sa2, xa2, ql2, qc2, nl2, nc2, sl2, sc2, xl2, xc2, rfl⟩ := hat2.cells
  have HB2 := Lib.hid (HBL.out.trans (hb2.mono HBL.out.size))
  have HA2 := Lib.hid hat2
  clear hm2 hat2 hb2
  have hba := (Below.refl w2.heap.size w2).alloc (Nat.le_refl _) (.cells #[.int .i64 mi2, .int .i64 mo2, .int .i64 mr2, .bool b12, .bool b22, .bool b32, .bool b42, .bool b52, .slice qa2 ql2 qc2, .slice na2 nl2 nc2, .slice sa2 sl2 sc2, .slice xa2 xl2 xc2] 27)
  have HC3 := Lib.hid (CN.new w2 #[.int .i64 mi2, .int .i64 mo2, .int .i64 mr2, .bool b12, .bool b22, .bool b32, .bool b42, .bool b52, .slice qa2 ql2 qc2, .slice na2 nl2 nc2, .slice sa2 sl2 sc2, .slice xa2 xl2 xc2] 27)
  have HB3 := Lib.hid (HB2.out.trans (hba.mono HB2.out.size))
  have HA3 := Lib.hid (HA2.out.below hba)
  clear hba
  go_wp2_with fail
  refine (getM_any _ _ _ HA3.out (by simp [askM, keepR])).mono ?_; rintro e w4 ⟨rfl, hb4⟩
  have hgx : getO ({ askM 1 [] with x := keepR optB (askM 1 []).x ++ [o900].map putR } : MsgP).x = (optOf (putR o900), true, 0) := get900
  rw [hgx]
  obtain ⟨⟨g1, g2, g3, g4, g5⟩, hoo⟩ : ∃ y, optOf (putR o900) = y := ⟨_, rfl⟩
  have hd := do900
  have hs := sz900
  rw [hoo] at hd hs ⊢
  obtain rfl : g4 = true := hd
  obtain rfl : g1 = 900 := hs
  simp only [optV]
  have HC4 := Lib.hid (HC3.out.below hb4)
  have HB4 := Lib.hid (HB3.out.trans (hb4.mono HB3.out.size))
  have HA4 := Lib.hid (HA3.out.below hb4)
  clear hgx hoo hb4 HC3
  obtain ⟨w5, hw5⟩ : ∃ x, w4.alloc (.cells #[.int .i64 900, .int .i64 g2, .int .i64 g3, .bool true, .string g5] 80) = x := ⟨_, rfl⟩
  have hba := (Below.refl w4.heap.size w4).alloc (Nat.le_refl _) (.cells #[.int .i64 900, .int .i64 g2, .int .i64 g3, .bool true, .string g5] 80)
  have hcn := CN.new w4 #[.int .i64 900, .int .i64 g2, .int .i64 g3, .bool true, .string g5] 80
  rw [hw5] at hba hcn
  have HC5 := Lib.hid (HC4.out.below hba)
  have HB5 := Lib.hid (HB4.out.trans (hba.mono HB4.out.size))
  have HA5 := Lib.hid (HA4.out.below hba)
  have HO5 := Lib.hid hcn
  have HW5 := Lib.hid hw5
  clear hba hcn hw5 HC4
  go_wp2_with fail
  rw [HW5.out]
  refine (askM_any 1 none 0 0 [] w5 (rowQ_nil w5) (fun _ => ⟨rfl, rfl⟩) (by omega)).mono ?_; rintro e w6 ⟨v6, rfl, hm6, hb6⟩
  have hat6 := hm6.at
  obtain ⟨mi6, mo6, mr6, b16, b26, b36, b46, b56, qa6, na6, sa6, xa6, ql6, qc6, nl6, nc6, sl6, sc6, xl6, xc6, rfl⟩ := hat6.cells
  have HA6 := Lib.hid hat6
  have HB6 := Lib.hid (HB5.out.trans (hb6.mono HB5.out.size))
  have HC6 := Lib.hid (HC5.out.below hb6)
  have HO6 := Lib.hid (HO5.out.below hb6)
  have HM6 := Lib.hid (HA5.out.below hb6)
  clear hat6 hm6 hb6 HC5 HO5
  go_wp2_with fail
  refine (sizeM_any _ _ _ 512 1232 HA6.out (by simp [askM])).mono ?_; rintro e w7 ⟨rfl, hb7⟩
  have hs7 : sizeO (askM 1 []).x 512 1232 = 512 := sizeO_none [] 512 1232
  rw [hs7]
  have HB7 := Lib.hid (HB6.out.trans (hb7.mono HB6.out.size))
  have HC7 := Lib.hid (HC6.out.below hb7)
  have HO7 := Lib.hid (HO6.out.below hb7)
  have HM7 := Lib.hid (HM6.out.below hb7)
  clear hb7 hs7 HC6 HO6
  obtain ⟨y0, y1, y2, y3, y4, y5, y6, y7, y8, y9, y10, y11, _⟩ := HC7.out.u12
  obtain ⟨p0, p1, p2, p3, p4, _⟩ := HO7.out.u5
  go_wp2_with fail
  refine (sizeM_any _ _ _ 512 1232 HM7.out (by simp [askM, keepR])).mono ?_; rintro e w8 ⟨rfl, hb8⟩
  have hs8 : sizeO ({ askM 1 [] with x := keepR optB (askM 1 []).x ++ [o900].map putR } : MsgP).x 512 1232 = 900 := size900
  rw [hs8]
  have HB8 := Lib.hid (HB7.out.trans (hb8.mono HB7.out.size))
  clear hb8 hs8
  go_wp2
  go_ret
  exact ⟨rfl, HB8.out⟩
end Go.Proofs.Ytkoafkajmfodkaa
