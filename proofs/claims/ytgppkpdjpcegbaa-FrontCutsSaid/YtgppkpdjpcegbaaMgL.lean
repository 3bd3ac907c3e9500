/- Texts that others rest on, one behind the other: FtP, FtO. -/
import Derived.Test.YtgppkpdjpcegbaaFtC
section
namespace Go.Proofs.Ytgppkpdjpcegbaa
open Go.RowKit

theorem wQ_len (a : List UInt8 × Pls) (q : Ky) (h : mayK q = true) : (wQ a q).1.length ≤ a.1.length + 260 := by
  have h1 : mayN q.n = true := by
    have h2 : (mayN q.n && (inR q.t 65535 && inR q.c 65535)) = true := h
    simp only [Bool.and_eq_true] at h2
    exact h2.1
  have h3 := wNm_le (labs q.n) a.2 a.1
  have h4 := (labs_spec h1).2.1
  have h5 := (mayN_size h1).2
  have h6 := joinL_two [q.t, q.c]
  rw [wQ, List.length_append]
  simp only [List.length_cons, List.length_nil] at h6
  omega
theorem foldQ_len : ∀ (Q : List Ky) (a : List UInt8 × Pls), Q.all mayK = true → (Q.foldl wQ a).1.length ≤ a.1.length + 260 * Q.length
  | [], a, _ => Nat.le_add_right _ _
  | q :: Q, a, h => by
    rw [List.all_cons, Bool.and_eq_true] at h
    have h1 := wQ_len a q h.1
    have h2 := foldQ_len Q (wQ a q) h.2
    rw [List.foldl_cons, List.length_cons]
    omega
theorem encX0_len (mi mo mr : Int) (b1 b2 b3 b4 b5 : Bool) (Q : List Ky) (A N X : List R5) : (encX0 mi mo mr b1 b2 b3 b4 b5 Q A N X).length ≤ 12 := joinL_two _
/-- A message without records is small. -/
theorem encY_len {m : MsgP} (h : mayP m = true) (ha : m.a = []) (hn : m.n = []) (hx : m.x = []) : (encY2 m).length ≤ 12 + 260 * m.q.length := by
  have h1 := mayM_parts h
  have h2 := foldQ_len m.q (encX0 m.i m.o m.r m.b1 m.b2 m.b3 m.b4 m.b5 m.q m.a m.n m.x, fun _ => none) h1.2.2.1
  have h3 := encX0_len m.i m.o m.r m.b1 m.b2 m.b3 m.b4 m.b5 m.q m.a m.n m.x
  have h4 : encY2 m = (m.q.foldl wQ (encX0 m.i m.o m.r m.b1 m.b2 m.b3 m.b4 m.b5 m.q m.a m.n m.x, fun _ => none)).1 := by
    rw [encY2, encXG, ha, hn, hx]; rfl
  rw [h4]
  exact Nat.le_trans h2 (by show _ + 260 * m.q.length ≤ _; exact Nat.add_le_add_right h3 _)
theorem enc_fit {m : MsgP} {most : Int} (hm : mayP m = true) (h1 : ((encY2 m).length : Int) ≤ most) (h2 : (encY2 m).length ≤ 16000) : encE2 m most = 0 ∧ encL2 m most = encY2 m :=
  encG_yes hm (by show ¬ most < ((encY2 m).length : Int); omega) (by show ¬ 16000 < (encY2 m).length; omega)
theorem enc_zero {m : MsgP} {most : Int} (h : encE2 m most = 0) : mayP m = true ∧ encL2 m most = encY2 m ∧ 12 ≤ (encY2 m).length ∧ ((encY2 m).length : Int) ≤ most ∧ (encY2 m).length ≤ 16000 := by
  cases hm : mayP m
  · have := (encG_no (mi := m.i) (mo := m.o) (mr := m.r) (most := most) (b1 := m.b1) (b2 := m.b2) (b3 := m.b3) (b4 := m.b4) (b5 := m.b5) hm).1
    rw [encE2, this] at h
    cases h
  · by_cases h2 : most < ((encY2 m).length : Int) ∨ 16000 < (encY2 m).length
    · have := (encG_long (mi := m.i) (mo := m.o) (mr := m.r) (most := most) (b1 := m.b1) (b2 := m.b2) (b3 := m.b3) (b4 := m.b4) (b5 := m.b5) hm h2).1
      rw [encE2, this] at h
      cases h
    · have := enc_fit hm (most := most) (by omega) (by omega)
      exact ⟨rfl, this.2, (msg_back hm).1, by omega, by omega⟩
theorem enc_nil {m : MsgP} {most : Int} (h : encE2 m most ≠ 0) : encL2 m most = [] := by
  unfold encL2 encLG
  exact if_neg h
theorem enc_back {m : MsgP} {most : Int} (h : encE2 m most = 0) : decP (bs (encL2 m most)) = some (fromP m) := by
  obtain ⟨h1, h2, h3, h4, h5⟩ := enc_zero h
  rw [h2]
  exact enc_dec (enc_fit h1 (most := 16000) (by omega) h5).1
theorem hd_more {m : MsgP} (hm : mayP m = true) (R : List UInt8) : hdH (bs (encY2 m ++ R)) = ⟨m.i, m.o, m.r, m.b1, m.b2, m.b3, m.b4, m.b5⟩ ∧ 12 ≤ (bs (encY2 m ++ R)).size := by
  have h := msgP_hd (enc_msg hm R)
  exact ⟨h.1.symm, h.2⟩
theorem hd_enc {m : MsgP} (hm : mayP m = true) : hdH (bs (encY2 m)) = ⟨m.i, m.o, m.r, m.b1, m.b2, m.b3, m.b4, m.b5⟩ ∧ 12 ≤ (bs (encY2 m)).size := by
  have h := hd_more hm []
  rw [List.append_nil] at h
  exact h
theorem mayP_head {m k : MsgP} (h : mayP m = true) (h1 : inR k.i 65535 = true) (h2 : inR k.o 15 = true) (h3 : inR k.r 15 = true) (hq : k.q = m.q) (ha : k.a = m.a) (hn : k.n = m.n) (hx : k.x = m.x) : mayP k = true := by
  have h4 : (headM m.i m.o m.r && (decide (m.q.length + m.a.length + m.n.length + m.x.length ≤ 300) && (m.q.all mayK && (m.x.all mayX && (m.a.all mayRr && m.n.all mayRr))))) = true := h
  show (headM k.i k.o k.r && (decide (k.q.length + k.a.length + k.n.length + k.x.length ≤ 300) && (k.q.all mayK && (k.x.all mayX && (k.a.all mayRr && k.n.all mayRr))))) = true
  rw [hq, ha, hn, hx, headM, h1, h2, h3]
  exact ((Bool.and_eq_true _ _).mp h4).2
theorem inR_mk {x m : Int} (h1 : 0 ≤ x) (h2 : x ≤ m) : inR x m = true := by simp [inR, h1, h2]
theorem readO_enc {fr : ByteArray} {tcp : Bool} {m : MsgP} (hm : mayP m = true) (hl : (encY2 m).length ≤ 16000) (hq : m.b1 = false) : readO fr tcp (bs (encY2 m)) = readM fr tcp (fromP m) := by
  have hh := hd_enc hm
  have hd : decP (bs (encY2 m)) = some (fromP m) := enc_dec (enc_fit hm (most := 16000) (by omega) hl).1
  exact readO_some (by have := hh.2; omega) (by rw [hh.1]; exact hq) hd
theorem mayP_in {m : MsgP} (h : mayP m = true) : inR m.i 65535 = true ∧ inR m.o 15 = true ∧ inR m.r 15 = true := by
  have h4 := (mayM_parts h).1
  simpa [headM, and_assoc] using h4
/-- A question alone, with its flag. -/
def qM (id op : Int) (qr rd : Bool) (Q : List Ky) : MsgP := ⟨id, op, 0, qr, false, false, rd, false, Q, [], [], []⟩
theorem mayP_fail {id op rc : Int} {rd : Bool} (h1 : inR id 65535 = true) (h2 : inR op 15 = true) (h3 : inR rc 15 = true) : mayP (failM id op rc rd []) = true := by
  show (headM id op rc && _) = true
  rw [headM, h1, h2, h3]; rfl
theorem failL_ok {id op rc : Int} {rd : Bool} (h1 : inR id 65535 = true) (h2 : inR op 15 = true) (h3 : inR rc 15 = true) : decP (bs (failL id op rc rd [])) = some (fromP (failM id op rc rd [])) ∧ (failL id op rc rd []).length = 12 := by
  have hm := mayP_fail (rd := rd) h1 h2 h3
  have hl := encY_len hm rfl rfl rfl
  have hl2 : (encY2 (failM id op rc rd [])).length ≤ 12 := hl
  have h := enc_fit hm (most := 16000) (by omega) (by omega)
  refine ⟨enc_back h.1, ?_⟩
  have h12 := (enc_zero h.1).2.2.1
  rw [failL, h.2]
  omega
/-- What Read tells of a question twice. -/
theorem read_two {fr : ByteArray} {tcp : Bool} {id : Int} {rd : Bool} {q : Ky} (h : encE2 (qM id 0 false rd [q]) 16000 = 0) :
    encE2 (qM id 0 false rd [q, q]) 16000 = 0 ∧ readO fr tcp (bs (encL2 (qM id 0 false rd [q, q]) 16000)) = .inl (failL id 0 1 rd []) ∧ (encL2 (qM id 0 false rd [q, q]) 16000).length ≤ 16000 := by
  have hm := (enc_zero h).1
  have hm2 : mayP (qM id 0 false rd [q, q]) = true := by
    have h4 := mayM_parts hm
    have h5 : mayK q = true := by have := h4.2.2.1; simpa [qM] using this
    show (headM id 0 0 && (_ && ([q, q].all mayK && _))) = true
    have h6 : headM id 0 0 = true := h4.1
    rw [h6]
    simp [h5, qM]
  have hl := encY_len hm2 rfl rfl rfl
  have hl2 : (encY2 (qM id 0 false rd [q, q])).length ≤ 12 + 260 * 2 := hl
  have h2 := enc_fit hm2 (most := 16000) (by omega) (by omega)
  refine ⟨h2.1, ?_, by rw [h2.2]; omega⟩
  rw [h2.2, readO_enc hm2 (by omega) rfl, readM_form (M := fromP (qM id 0 false rd [q, q])) rfl (Or.inl (by show (2 : Nat) ≠ 1; decide))]
  rfl
theorem read_opc {fr : ByteArray} {tcp : Bool} {id op : Int} {rd : Bool} {q : Ky} (h : encE2 (qM id 0 false rd [q]) 16000 = 0) (ho : 1 ≤ op ∧ op ≤ 15) :
    encE2 (qM id op false rd [q]) 16000 = 0 ∧ readO fr tcp (bs (encL2 (qM id op false rd [q]) 16000)) = .inl (failL id op 4 rd []) ∧ (encL2 (qM id op false rd [q]) 16000).length ≤ 16000 := by
  have hm := (enc_zero h).1
  have hm2 : mayP (qM id op false rd [q]) = true := mayP_head hm (mayP_in hm).1 (inR_mk (by show 0 ≤ op; omega) (by show op ≤ 15; omega)) rfl rfl rfl rfl rfl
  have hl := encY_len hm2 rfl rfl rfl
  have hl2 : (encY2 (qM id op false rd [q])).length ≤ 12 + 260 * 1 := hl
  have h2 := enc_fit hm2 (most := 16000) (by omega) (by omega)
  refine ⟨h2.1, ?_, by rw [h2.2]; omega⟩
  rw [h2.2, readO_enc hm2 (by omega) rfl, readM_op (M := fromP (qM id op false rd [q])) (by show op ≠ 0; omega)]
  rfl
theorem read_qr {fr : ByteArray} {tcp : Bool} {id : Int} {rd : Bool} {q : Ky} (h : encE2 (qM id 0 false rd [q]) 16000 = 0) :
    encE2 (qM id 0 true rd [q]) 16000 = 0 ∧ readO fr tcp (bs (encL2 (qM id 0 true rd [q]) 16000)) = .inl [] ∧ (encL2 (qM id 0 true rd [q]) 16000).length ≤ 16000 := by
  have hm := (enc_zero h).1
  have hm2 : mayP (qM id 0 true rd [q]) = true := mayP_head hm (mayP_in hm).1 rfl rfl rfl rfl rfl rfl
  have hl := encY_len hm2 rfl rfl rfl
  have hl2 : (encY2 (qM id 0 true rd [q])).length ≤ 12 + 260 * 1 := hl
  have h2 := enc_fit hm2 (most := 16000) (by omega) (by omega)
  refine ⟨h2.1, ?_, by rw [h2.2]; omega⟩
  have hh := hd_enc hm2
  rw [h2.2]
  exact readO_qr (by have := hh.2; omega) (by rw [hh.1]; rfl)
theorem read_more {fr : ByteArray} {tcp : Bool} {id : Int} {rd : Bool} {q : Ky} (h : encE2 (qM id 0 false rd [q]) 16000 = 0) (x : UInt8) :
    readO fr tcp (bs (encL2 (qM id 0 false rd [q]) 16000 ++ [x])) = .inl (failL id 0 1 rd []) := by
  obtain ⟨hm, hl, -⟩ := enc_zero h
  have hh := hd_more hm [x]
  rw [hl, readO_no (by have := hh.2; omega) (by rw [hh.1]; rfl) (dec_more (enc_msg hm [x]) (by simp)), hh.1]
  rfl
end Go.Proofs.Ytgppkpdjpcegbaa
end

section
namespace Go.Proofs.Ytgppkpdjpcegbaa
open Go.RowKit

def Apt (v : Value) (q : Nat) : Prop := ∀ k, v.ownBlock = some k → (some q : Option Nat) ≠ some k
theorem opt_putE {o : OptP} (h : putE o = 0) : withE [o] = 0 := by rw [withE, if_pos h, withE]
theorem withP_one {o : OptP} (m : MsgP) (h : putE o = 0) (hx : m.x = []) : withP m [o] = { m with x := [putR o] } := by
  rw [withP, if_pos (opt_putE h), hx]; rfl
theorem getO_put {o : OptP} (h : putE o = 0) : getO [putR o] = (o, true, 0) := by
  have h2 : getO [putR o] = (optOf (putR o), true, 0) := getO_one [] h
  rw [h2, optOf_put h]
theorem getO_nil : getO [] = (opt0, false, 0) := rfl
theorem sizeO_put {o : OptP} (h : putE o = 0) : sizeO [putR o] 512 1232 = min (max o.size 512) 1232 := by
  have h2 : sizeO [putR o] 512 1232 = if 1232 < (if o.size < 512 then 512 else o.size) then 1232 else (if o.size < 512 then 512 else o.size) := sizeO_one [] h 512 1232
  rw [h2]
  split <;> split at * <;> omega
theorem mayX_put {o : OptP} (h : putE o = 0) : mayX (putR o) = true := by
  obtain ⟨⟨h1, h2⟩, -, -, h3⟩ := putE_rng h
  obtain ⟨h4, h5⟩ := ttlO_rng h
  have h6 : mayO (putR o) = true := by
    rw [putR_ok h]
    show (decide ((41 : Int) = 41) && ((ByteArray.toList ⟨#[0]⟩ == [0]) && (inR o.size 65535 && (inR (ttlO o) 4294967295 && decide (o.data.size ≤ 1000))))) = true
    rw [inR_mk h1 h2, inR_mk h4 h5, decide_eq_true h3, ByteArray.toList_eq]
    rfl
  rw [mayX, h6, Bool.or_true]
theorem mayP_opt {m : MsgP} {o : OptP} (h : mayP m = true) (hl : m.q.length + m.a.length + m.n.length ≤ 299) (ho : putE o = 0) : mayP { m with x := [putR o] } = true := by
  have h4 := mayM_parts h
  show (headM m.i m.o m.r && (decide (m.q.length + m.a.length + m.n.length + 1 ≤ 300) && (m.q.all mayK && ((mayX (putR o) && true) && (m.a.all mayRr && m.n.all mayRr))))) = true
  rw [h4.1, h4.2.2.1, h4.2.2.2.2.1, h4.2.2.2.2.2, mayX_put ho, decide_eq_true (by omega)]
  rfl
theorem labs_root : labs ⟨#[0]⟩ = [] := by
  have h := (labs_spec may_root)
  have h1 := h.2.2
  cases hL : labs ⟨#[0]⟩ with
  | nil => rfl
  | cons s L =>
    rw [hL] at h h1
    have h2 := congrArg ByteArray.size h1
    have h3 := off_ge (s :: L) h.1 (s :: L).length (Nat.le_refl _)
    have h4 : (nameB (s :: L)).size = off (s :: L) (s :: L).length + 1 := by rw [nameB_size]
    have h5 : (ByteArray.mk #[0]).size = 1 := rfl
    rw [List.length_cons] at h3
    rw [List.length_cons] at h4
    omega
theorem wDat_opt (f : Pls) (X : List UInt8) : (wDat f X 41 ⟨#[]⟩).1 = X := by
  have h : nmL 41 ⟨#[]⟩ = [] := by decide +kernel
  rw [wDat, h]
  show X ++ [] = X
  exact List.append_nil _
theorem wRec_opt (f : Pls) (X : List UInt8) {o : OptP} (h : putE o = 0) (hd : o.data = ⟨#[]⟩) : (wRec f X (putR o)).1.length ≤ X.length + 13 := by
  rw [putR_ok h, hd, wRec]
  show (setLen _ _).length ≤ _
  rw [setLen_length, rec4]
  show (wDat _ _ 41 ⟨#[]⟩).1.length ≤ _
  rw [wDat_opt, List.length_append, zeros2, rec2, List.length_append, List.length_append]
  show (wNm f X (labs ⟨#[0]⟩)).1.length + (joinL 2 [41, o.size]).length + (joinL 4 [ttlO o]).length + 2 ≤ _
  have h1 := joinL_two [41, o.size]
  have h2 := joinL_le 4 [ttlO o]
  rw [labs_root, wNm, List.length_append]
  simp only [List.length_cons, List.length_nil] at h1 h2 ⊢
  omega
theorem encY_len2 {m : MsgP} {o : OptP} (h : mayP m = true) (ha : m.a = []) (hn : m.n = []) (ho : putE o = 0) (hd : o.data = ⟨#[]⟩) (hx : m.x = [putR o]) : (encY2 m).length ≤ 12 + 260 * m.q.length + 13 := by
  have h1 := mayM_parts h
  have h2 := foldQ_len m.q (encX0 m.i m.o m.r m.b1 m.b2 m.b3 m.b4 m.b5 m.q m.a m.n m.x, fun _ => none) h1.2.2.1
  have h3 := encX0_len m.i m.o m.r m.b1 m.b2 m.b3 m.b4 m.b5 m.q m.a m.n m.x
  obtain ⟨a, hA⟩ : ∃ a, m.q.foldl wQ (encX0 m.i m.o m.r m.b1 m.b2 m.b3 m.b4 m.b5 m.q m.a m.n m.x, fun _ => none) = a := ⟨_, rfl⟩
  rw [hA] at h2
  have h4 : encY2 m = (wRec a.2 a.1 (putR o)).1 := by
    rw [encY2, encXG, ← hA, ha, hn, hx]; rfl
  rw [h4]
  have h5 := wRec_opt a.2 a.1 ho hd
  have h6 : a.1.length ≤ 12 + 260 * m.q.length := Nat.le_trans h2 (Nat.add_le_add_right h3 _)
  omega
/-- A question with an OPT. -/
def oM (id : Int) (q : Ky) (o : OptP) : MsgP := ⟨id, 0, 0, false, false, false, false, false, [q], [], [], [putR o]⟩
theorem withP_ask {id : Int} {q : Ky} {o : OptP} (h : putE o = 0) : withP (askM id [q]) [o] = oM id q o := withP_one _ h rfl
theorem readM_o {fr : ByteArray} {tcp : Bool} {id : Int} {q : Ky} {o : OptP} (h : encE2 (oM id q o) 16000 = 0) : readO fr tcp (bs (encL2 (oM id q o) 16000)) = readM fr tcp (fromP (oM id q o)) ∧ (encL2 (oM id q o) 16000).length ≤ 16000 := by
  obtain ⟨h1, h2, h3, h4, h5⟩ := enc_zero h
  rw [h2]
  exact ⟨readO_enc h1 h5 rfl, h5⟩
theorem not_form {id : Int} {q : Ky} {o : OptP} (ho : putE o = 0) : ¬ ((fromP (oM id q o)).q.length ≠ 1 ∨ 0 < (fromP (oM id q o)).a.length ∨ 0 < (fromP (oM id q o)).n.length ∨ (getO (fromP (oM id q o)).x).2.2 ≠ 0) := by
  have h : (getO (fromP (oM id q o)).x).2.2 = 0 := by
    show (getO [putR o]).2.2 = 0
    rw [getO_put ho]
  rw [h]
  show ¬ ((1 : Nat) ≠ 1 ∨ 0 < 0 ∨ 0 < 0 ∨ (0 : Int) ≠ 0)
  simp
theorem ver_o {id : Int} {q : Ky} {o : OptP} (ho : putE o = 0) : (getO (fromP (oM id q o)).x).1 = o := by
  show (getO [putR o]).1 = o
  rw [getO_put ho]
theorem read_ver {fr : ByteArray} {tcp : Bool} {id : Int} {q : Ky} {o : OptP} (ho : putE o = 0) (hv : 0 < o.ver) : readM fr tcp (fromP (oM id q o)) = .inl (encL2 (withP (failM id 0 0 false [q]) [optW 1]) 16000) :=
  readM_ver rfl (not_form ho) (by rw [ver_o ho]; exact hv)
theorem read_refuse {fr : ByteArray} {tcp : Bool} {id : Int} {q : Ky} {o : OptP} (ho : putE o = 0) (hv : ¬ 0 < o.ver) (hk : askK q = false) : readM fr tcp (fromP (oM id q o)) = .inl (failL id 0 5 false [q]) :=
  readM_ref rfl (not_form ho) (by rw [ver_o ho]; exact hv) hk
theorem read_yes {fr : ByteArray} {tcp : Bool} {id : Int} {q : Ky} {o : OptP} (ho : putE o = 0) (hv : ¬ 0 < o.ver) (hk : askK q = true) : readM fr tcp (fromP (oM id q o)) = .inr ⟨q, fr, id, if tcp then 16000 else min (max o.size 512) 1232, false, true, tcp⟩ := by
  have h := readM_yes (fr := fr) (tcp := tcp) (M := fromP (oM id q o)) rfl (not_form ho) (by rw [ver_o ho]; exact hv) hk
  rw [h]
  show (Sum.inr (ClP.mk q fr id (if tcp = true then 16000 else sizeO [putR o] 512 1232) false (getO [putR o]).2.1 tcp) : List UInt8 ⊕ ClP) = _
  rw [sizeO_put ho, getO_put ho]
/-- The answer to a version that is not known. -/
def vM (id : Int) (q : Ky) : MsgP := ⟨id, 0, 0, true, false, false, false, true, [q], [], [], [putR (optW 1)]⟩
theorem vM_ok {id : Int} {q : Ky} {o : OptP} (h : encE2 (oM id q o) 16000 = 0) : withP (failM id 0 0 false [q]) [optW 1] = vM id q ∧ encE2 (vM id q) 16000 = 0 ∧ decP (bs (encL2 (vM id q) 16000)) = some (fromP (vM id q)) ∧ (encL2 (vM id q) 16000).length ≤ 16000 := by
  have hw : putE (optW 1) = 0 := rfl
  have hm := (enc_zero h).1
  have h4 := mayM_parts hm
  have h5 : mayK q = true := by have := h4.2.2.1; simpa [oM] using this
  have hm1 : mayP (failM id 0 0 false [q]) = true := by
    show (headM id 0 0 && (_ && ([q].all mayK && _))) = true
    have h6 : headM id 0 0 = true := h4.1
    rw [h6]
    simp [h5, failM]
  have hm2 : mayP (vM id q) = true := mayP_opt (m := failM id 0 0 false [q]) hm1 (by show 1 + 0 + 0 ≤ 299; decide) hw
  have hl := encY_len2 hm2 rfl rfl hw rfl rfl
  have hl2 : (encY2 (vM id q)).length ≤ 12 + 260 * 1 + 13 := hl
  have h2 := enc_fit hm2 (most := 16000) (by omega) (by omega)
  exact ⟨withP_one _ hw rfl, h2.1, enc_back h2.1, by rw [h2.2]; omega⟩
theorem fM_ok {id : Int} {q : Ky} {o : OptP} (h : encE2 (oM id q o) 16000 = 0) : decP (bs (failL id 0 5 false [q])) = some (fromP (failM id 0 5 false [q])) ∧ (failL id 0 5 false [q]).length ≤ 16000 := by
  have hm := (enc_zero h).1
  have h4 := mayM_parts hm
  have h5 : mayK q = true := by have := h4.2.2.1; simpa [oM] using this
  have hm2 : mayP (failM id 0 5 false [q]) = true := by
    show (headM id 0 5 && (_ && ([q].all mayK && _))) = true
    have h6 : headM id 0 0 = true := h4.1
    have h7 : headM id 0 5 = true := by
      have h8 : (inR id 65535 && (inR 0 15 && inR 0 15)) = true := h6
      rw [Bool.and_eq_true] at h8
      rw [headM, h8.1]; rfl
    rw [h7]
    simp [h5, failM]
  have hl := encY_len hm2 rfl rfl rfl
  have hl2 : (encY2 (failM id 0 5 false [q])).length ≤ 12 + 260 * 1 := hl
  have h2 := enc_fit hm2 (most := 16000) (by omega) (by omega)
  exact ⟨enc_back h2.1, by rw [failL, h2.2]; omega⟩
end Go.Proofs.Ytgppkpdjpcegbaa
end
