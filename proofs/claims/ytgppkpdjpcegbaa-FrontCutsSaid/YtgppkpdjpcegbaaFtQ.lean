/- Plain: shapes of what Read and Reply tell. -/
import Derived.Test.YtgppkpdjpcegbaaFtR
namespace Go.Proofs.Ytgppkpdjpcegbaa
open Go.RowKit

theorem bytes_eq {s t : ByteArray} (h : getTo s 0 2 = getTo t 0 2) : byteAt s 0 = byteAt t 0 ∧ byteAt s 1 = byteAt t 1 := by
  have h0 : ((0 * 256 + (byteAt s 0 : Int)) * 256 + (byteAt s 1 : Int)) = ((0 * 256 + (byteAt t 0 : Int)) * 256 + (byteAt t 1 : Int)) := h
  have h1 := byteAt_lt s 0
  have h2 := byteAt_lt s 1
  have h3 := byteAt_lt t 0
  have h4 := byteAt_lt t 1
  omega
def BadS (s : ByteArray) (L : List UInt8) : Prop := L = [] ∨ (12 ≤ s.size ∧ L.length ≤ 16000 ∧ 12 ≤ L.length ∧ ∃ m : MsgP, decP (bs L) = some (fromP m) ∧ m.b1 = true ∧ m.b5 = true ∧ m.a = [] ∧ byteAt (bs L) 0 = byteAt s 0 ∧ byteAt (bs L) 1 = byteAt s 1)
theorem bad_enc {s : ByteArray} {m : MsgP} (h12 : 12 ≤ s.size) (hi : m.i = (hdH s).i) (h1 : m.b1 = true) (h5 : m.b5 = true) (ha : m.a = []) : BadS s (encL2 m 16000) := by
  by_cases h : encE2 m 16000 = 0
  · right
    obtain ⟨-, e2, e3, -, e5⟩ := enc_zero h
    have hb := enc_back h
    have hd := (decP_hd hb).1
    have hi2 : m.i = getTo (bs (encL2 m 16000)) 0 2 := congrArg H8.i hd
    have hi3 : m.i = getTo s 0 2 := hi
    obtain ⟨b0, b1⟩ := bytes_eq (hi2.symm.trans hi3)
    refine ⟨h12, by rw [e2]; exact e5, by rw [e2]; exact e3, m, hb, h1, h5, ha, b0, b1⟩
  · left
    exact enc_nil h
theorem read_bads {fr : ByteArray} {tcp : Bool} {s : ByteArray} {L : List UInt8} (h : readO fr tcp s = .inl L) : BadS s L := by
  unfold readO at h
  split at h
  · injection h with h; exact Or.inl h.symm
  · rename_i h12
    split at h
    · injection h with h; exact Or.inl h.symm
    · split at h
      · injection h with h
        subst h
        exact bad_enc (by omega) rfl rfl rfl rfl
      · rename_i M hd
        have hh := (decP_hd hd).1
        have hhi : M.h.i = (hdH s).i := by rw [hh]
        unfold readM at h
        split at h
        · injection h with h
          subst h
          exact bad_enc (by omega) hhi rfl rfl rfl
        · split at h
          · injection h with h
            subst h
            exact bad_enc (by omega) hhi rfl rfl rfl
          · split at h
            · injection h with h
              subst h
              rw [withP_one _ (show putE (optW 1) = 0 from rfl) rfl]
              exact bad_enc (by omega) hhi rfl rfl rfl
            · split at h
              · injection h with h
                subst h
                exact bad_enc (by omega) hhi rfl rfl rfl
              · cases h
theorem read_goods {fr : ByteArray} {tcp : Bool} {s : ByteArray} {c : ClP} (h : readO fr tcp s = .inr c) : ∃ M : MsgD, decP s = some M ∧ M.q = [c.q] ∧ (getO M.x).2.2 = 0 ∧ c.id = M.h.i ∧ c.rd = M.h.b4 ∧ c.ed = (getO M.x).2.1 ∧ c.tc = tcp ∧ c.fr = fr ∧ c.sz = (if tcp then 16000 else sizeO M.x 512 1232) := by
  unfold readO at h
  split at h
  · cases h
  · split at h
    · cases h
    · split at h
      · cases h
      · rename_i M hd
        unfold readM at h
        split at h
        · cases h
        · split at h
          · cases h
          · rename_i hn
            split at h
            · cases h
            · split at h
              · cases h
              · injection h with h
                subst h
                have h1 : M.q.length = 1 := Classical.byContradiction fun e => hn (Or.inl e)
                have h2 : (getO M.x).2.2 = 0 := Classical.byContradiction fun e => hn (Or.inr (Or.inr (Or.inr e)))
                obtain ⟨q, hq⟩ := List.length_eq_one_iff.1 h1
                refine ⟨M, hd, ?_, h2, rfl, rfl, rfl, rfl, rfl, rfl⟩
                show M.q = [M.q.getD 0 ky0]
                rw [hq]; rfl
theorem rep_opt (q : Ky) (id rc : Int) (rd ed tc : Bool) (A : List R5) : (getO (repM q id rc rd ed tc A).x).2 = (ed, 0) := by
  show (getO (if ed = true then [putR (optW 0)] else [])).2 = (ed, 0)
  cases ed
  · rfl
  · rw [if_pos rfl, getO_put (show putE (optW 0) = 0 from rfl)]
theorem mayP_cut {q : Ky} {id : Int} {rd ed : Bool} (hq : mayK q = true) (hid : inR id 65535 = true) : mayP (repM q id 0 rd ed true []) = true := by
  have h0 : mayP (repM q id 0 rd false true []) = true := by
    show (headM id 0 0 && (_ && ([q].all mayK && _))) = true
    rw [headM, hid]
    simp [hq, repM]
    decide
  cases ed
  · exact h0
  · exact mayP_opt (m := repM q id 0 rd false true []) h0 (by show 1 + 0 + 0 ≤ 299; decide) (show putE (optW 0) = 0 from rfl)
theorem cut_len {q : Ky} {id : Int} {rd ed : Bool} (h : mayP (repM q id 0 rd ed true []) = true) : (encY2 (repM q id 0 rd ed true [])).length ≤ 12 + 260 * 1 + 13 := by
  cases ed
  · exact Nat.le_trans (encY_len h rfl rfl rfl) (Nat.le_add_right _ _)
  · exact encY_len2 h rfl rfl (show putE (optW 0) = 0 from rfl) rfl rfl
theorem reply_shape {q : Ky} {id sz : Int} {rd ed : Bool} (A : List R5) (hq : mayK q = true) (hid : inR id 65535 = true) (hsz : 512 ≤ sz) : ∃ (tc : Bool) (B : List R5), decP (bs (replyL q id 0 sz rd ed A)) = some (fromP (repM q id 0 rd ed tc B)) ∧ ((replyL q id 0 sz rd ed A).length : Int) ≤ sz ∧ (replyL q id 0 sz rd ed A).length ≤ 16000 ∧ ((tc = true ∧ B = []) ∨ (tc = false ∧ B = A)) := by
  unfold replyL
  split
  · rename_i h0
    have h : encE2 (repM q id 0 rd ed false A) sz = 0 := Classical.byContradiction fun e => by rw [enc_nil e] at h0; exact absurd h0 (by decide)
    obtain ⟨h1, h2, h3, h4, h5⟩ := enc_zero h
    exact ⟨false, A, enc_back h, by rw [h2]; exact h4, by rw [h2]; exact h5, Or.inr ⟨rfl, rfl⟩⟩
  · have hm := mayP_cut (rd := rd) (ed := ed) hq hid
    have hl := cut_len hm
    have h := enc_fit hm (most := sz) (by omega) (by omega)
    exact ⟨true, [], enc_back h.1, by rw [h.2]; omega, by rw [h.2]; omega, Or.inl ⟨rfl, rfl⟩⟩
theorem dec_q {s : ByteArray} {M : MsgD} {q : Ky} (h : decP s = some M) (hq : M.q = [q]) : mayK q = true ∧ inR M.h.i 65535 = true := by
  have h1 := dec_may h
  have h4 := mayM_parts h1
  have h5 : M.q.all mayK = true := h4.2.2.1
  rw [hq] at h5
  exact ⟨by simpa using h5, (mayP_in h1).1⟩
end Go.Proofs.Ytgppkpdjpcegbaa
