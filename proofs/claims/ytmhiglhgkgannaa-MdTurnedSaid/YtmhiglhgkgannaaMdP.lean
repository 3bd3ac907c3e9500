/- Plain: a zone's digest: the order of its records, their forms, what counts. -/
import Derived.Test.YtmhiglhgkgannaaMdG
import Derived.Test.YtmhiglhgkgannaaMgE
import Derived.Test.YtmhiglhgkgannaaMgC
namespace Go.Proofs.Ytmhiglhgkgannaa
open Go.RowKit

noncomputable def mcmp (a b : R5) : Int := orI [kcmp a.k b.k, cmpB a.d b.d, Lib.compareInt a.ttl b.ttl]
theorem ord_mcmp : IsOrd mcmp := by
  have h := (ord_kcmp.pre.comap R5.k).lex ((ord_cmpB.pre.comap R5.d).lex (ord_int.pre.comap R5.ttl))
  have e : mcmp = fun a b => if kcmp a.k b.k = 0 then (if cmpB a.d b.d = 0 then Lib.compareInt a.ttl b.ttl else cmpB a.d b.d) else kcmp a.k b.k := by
    funext a b; rw [mcmp, or3]
  refine ⟨by rw [e]; exact h.rng, by rw [e]; exact h.anti, fun a b => ?_, by rw [e]; exact h.trans⟩
  rw [e]
  show (if kcmp a.k b.k = 0 then (if cmpB a.d b.d = 0 then Lib.compareInt a.ttl b.ttl else cmpB a.d b.d) else kcmp a.k b.k) = 0 ↔ a = b
  obtain ⟨ak, au, ad⟩ := a
  obtain ⟨bk, bu, bd⟩ := b
  have h1 := ord_kcmp.zero ak bk
  have h2 := ord_cmpB.zero ad bd
  have h3 := ord_int.zero au bu
  simp only [R5.mk.injEq]
  constructor
  · intro h
    by_cases k1 : kcmp ak bk = 0
    · rw [if_pos k1] at h
      by_cases k2 : cmpB ad bd = 0
      · rw [if_pos k2] at h; exact ⟨h1.1 k1, h3.1 h, h2.1 k2⟩
      · rw [if_neg k2] at h; exact absurd h k2
    · rw [if_neg k1] at h; exact absurd h k1
  · rintro ⟨rfl, rfl, rfl⟩
    rw [if_pos (h1.2 rfl), if_pos (h2.2 rfl)]
    exact h3.2 rfl

def mayM (r : R5) : Bool := mayR r.k.n r.k.t r.k.c r.ttl r.d
/-- A record's form. -/
def fmB (r : R5) : ByteArray := r.k.n ++ bs (joinL 2 [r.k.t, r.k.c]) ++ bs (putL r.ttl 4) ++ bs (putL (r.d.size : Int) 2) ++ r.d
def fmS (r : R5) : ByteArray := if mayM r = true then fmB r else ⟨#[]⟩
def fmE (r : R5) : Int := if mayM r = true then 0 else 4
theorem mayM_parts {r : R5} (h : mayM r = true) : mayN r.k.n = true ∧ (0 ≤ r.k.t ∧ r.k.t ≤ 65535) ∧ (0 ≤ r.k.c ∧ r.k.c ≤ 65535) ∧ (0 ≤ r.ttl ∧ r.ttl ≤ 2147483647) ∧ r.d.size ≤ 1000 ∧ mayD r.k.t r.d = true := by
  simp only [mayM, mayR, Bool.and_eq_true, decide_eq_true_eq] at h
  obtain ⟨_, h1, h2, h3, h4⟩ := h
  have h5 := h4
  simp only [mayD, Bool.and_eq_true, decide_eq_true_eq] at h5
  exact ⟨h1, h5.1.1, h2, h3, h5.1.2, h4⟩
theorem fits2 {a : Int} (h : 0 ≤ a ∧ a ≤ 65535) : fits a 2 = true := (fits_iff a 2).2 ⟨by decide, by decide, h.1, by have := h.2; omega⟩
theorem join2_ok {a b : Int} (ha : 0 ≤ a ∧ a ≤ 65535) (hb : 0 ≤ b ∧ b ≤ 65535) : joinOk 2 [a, b] = true := by
  have h1 := fits2 ha
  have h2 := fits2 hb
  simp [joinOk, h1, h2]
theorem join2_all {a b : Int} (ha : 0 ≤ a ∧ a ≤ 65535) (hb : 0 ≤ b ∧ b ≤ 65535) : AllFit 2 [a, b] [a, b].length := by
  intro j hj
  match j, hj with
  | 0, _ => exact fits2 ha
  | 1, _ => exact fits2 hb
theorem join2_inj {a b c d : Int} (ha : 0 ≤ a ∧ a ≤ 65535) (hb : 0 ≤ b ∧ b ≤ 65535) (hc : 0 ≤ c ∧ c ≤ 65535) (hd : 0 ≤ d ∧ d ≤ 65535) (h : joinL 2 [a, b] = joinL 2 [c, d]) : a = c ∧ b = d := by
  rw [joinL, if_pos (join2_ok ha hb), joinL, if_pos (join2_ok hc hd)] at h
  have x0 := (get_join 2 [a, b] 0 (by simp) (by omega) (by omega) (join2_all ha hb)).1
  have x1 := (get_join 2 [a, b] 1 (by simp) (by omega) (by omega) (join2_all ha hb)).1
  have y0 := (get_join 2 [c, d] 0 (by simp) (by omega) (by omega) (join2_all hc hd)).1
  have y1 := (get_join 2 [c, d] 1 (by simp) (by omega) (by omega) (join2_all hc hd)).1
  have e : joinTo 2 [a, b] [a, b].length = joinTo 2 [c, d] [c, d].length := h
  rw [e] at x0 x1
  exact ⟨(x0.symm.trans y0), (x1.symm.trans y1)⟩
theorem join2_len {a b : Int} (ha : 0 ≤ a ∧ a ≤ 65535) (hb : 0 ≤ b ∧ b ≤ 65535) : (joinL 2 [a, b]).length = 4 := by
  rw [joinL, if_pos (join2_ok ha hb), joinTo_length]; rfl
theorem put4_len {a : Int} (h : fits a 4 = true) : (putL a 4).length = 4 := by rw [← bs_size]; exact (put4 a h).1
theorem put4_inj {a b : Int} (ha : fits a 4 = true) (hb : fits b 4 = true) (h : putL a 4 = putL b 4) : a = b := by
  rw [← (put4 a ha).2, ← (put4 b hb).2, h]
theorem put2_len {a : Int} (h : fits a 2 = true) : (putL a 2).length = 2 := by rw [putL, if_pos h, putTo_length]; rfl

/-- No name goes on behind another's end. -/
theorem nameL_pre {L M : List ByteArray} {x y : List UInt8} (hL : OkL L) (hM : OkL M) (h : nameL L ++ x = nameL M ++ y) : L = M ∧ x = y := by
  induction L generalizing M with
  | nil =>
    cases M with
    | nil => exact ⟨rfl, by simpa [nameL] using h⟩
    | cons t M =>
      obtain ⟨g1, g2, _⟩ := hM 0 (by simp)
      rw [tx_cons_zero] at g1 g2
      rw [nameL_cons] at h
      have h0 : (0 : UInt8) = UInt8.ofNat t.size := (List.cons.inj h).1
      have := congrArg UInt8.toNat h0
      rw [UInt8.toNat_ofNat_of_lt' (by have : UInt8.size = 256 := rfl; omega)] at this
      simp at this
      exact absurd this (by omega)
  | cons s L ih =>
    obtain ⟨g1, g2, _⟩ := hL 0 (by simp)
    rw [tx_cons_zero] at g1 g2
    cases M with
    | nil =>
      rw [nameL_cons] at h
      have h0 : UInt8.ofNat s.size = 0 := (List.cons.inj h).1
      have := congrArg UInt8.toNat h0
      rw [UInt8.toNat_ofNat_of_lt' (by have : UInt8.size = 256 := rfl; omega)] at this
      have h9 : (0 : UInt8).toNat = 0 := rfl
      omega
    | cons t M =>
      obtain ⟨f1, f2, _⟩ := hM 0 (by simp)
      rw [tx_cons_zero] at f1 f2
      rw [nameL_cons, nameL_cons] at h
      obtain ⟨h0, h1⟩ := List.cons.inj h
      have h2 := congrArg UInt8.toNat h0
      rw [UInt8.toNat_ofNat_of_lt' (by have : UInt8.size = 256 := rfl; omega), UInt8.toNat_ofNat_of_lt' (by have : UInt8.size = 256 := rfl; omega)] at h2
      have h1' : s.data.toList ++ (nameL L ++ x) = t.data.toList ++ (nameL M ++ y) := by
        rw [← List.append_assoc, ← List.append_assoc]; exact h1
      obtain ⟨e1, e2⟩ := List.append_inj h1' (by rw [Array.length_toList, Array.length_toList]; exact h2)
      obtain ⟨e3, e4⟩ := ih (fun k hk => hL (k + 1) (by simp; omega)) (fun k hk => hM (k + 1) (by simp; omega)) e2
      exact ⟨by rw [e3, ByteArray.ext (Array.toList_inj.1 e1)], e4⟩
theorem name_preM {n m : ByteArray} {x y : List UInt8} (hn : mayN n = true) (hm : mayN m = true) (h : n.data.toList ++ x = m.data.toList ++ y) : n = m ∧ x = y := by
  obtain ⟨a1, _, a2⟩ := labs_spec hn
  obtain ⟨b1, _, b2⟩ := labs_spec hm
  obtain ⟨n', hn'⟩ : ∃ z, labs n = z := ⟨_, rfl⟩
  obtain ⟨m', hm'⟩ : ∃ z, labs m = z := ⟨_, rfl⟩
  rw [hn'] at a1 a2
  rw [hm'] at b1 b2
  subst a2 b2
  obtain ⟨e1, e2⟩ := nameL_pre a1 b1 (by exact h)
  exact ⟨by rw [e1], e2⟩

theorem fmB_list (r : R5) : (fmB r).data.toList = r.k.n.data.toList ++ (joinL 2 [r.k.t, r.k.c] ++ (putL r.ttl 4 ++ (putL (r.d.size : Int) 2 ++ r.d.data.toList))) := by
  simp [fmB, bs, ByteArray.data_append, Array.toList_append, List.append_assoc]
theorem fmB_size {r : R5} (h : mayM r = true) : (fmB r).size = r.k.n.size + 10 + r.d.size := by
  obtain ⟨h1, h2, h3, h4, h5, _⟩ := mayM_parts h
  have e1 := join2_len h2 h3
  have e2 := put4_len (a := r.ttl) ((fits_iff _ 4).2 ⟨by decide, by decide, h4.1, by have := h4.2; omega⟩)
  have e3 := put2_len (a := (r.d.size : Int)) (fits2 ⟨by omega, by omega⟩)
  simp only [fmB, ByteArray.size_append, bs_size, e1, e2, e3]
theorem fmB_inj {a b : R5} (ha : mayM a = true) (hb : mayM b = true) (h : fmB a = fmB b) : a = b := by
  obtain ⟨a1, a2, a3, a4, a5, _⟩ := mayM_parts ha
  obtain ⟨b1, b2, b3, b4, b5, _⟩ := mayM_parts hb
  have fa := (fits_iff a.ttl 4).2 ⟨by decide, by decide, a4.1, by have := a4.2; omega⟩
  have fb := (fits_iff b.ttl 4).2 ⟨by decide, by decide, b4.1, by have := b4.2; omega⟩
  have h1 := congrArg (fun s : ByteArray => s.data.toList) h
  simp only [fmB_list] at h1
  obtain ⟨e1, e2⟩ := name_preM a1 b1 h1
  obtain ⟨e3, e4⟩ := List.append_inj e2 (by rw [join2_len a2 a3, join2_len b2 b3])
  obtain ⟨e5, e6⟩ := List.append_inj e4 (by rw [put4_len fa, put4_len fb])
  obtain ⟨_, e8⟩ := List.append_inj e6 (by rw [put2_len (fits2 ⟨by omega, by omega⟩), put2_len (fits2 ⟨by omega, by omega⟩)])
  obtain ⟨e9, e10⟩ := join2_inj a2 a3 b2 b3 e3
  have e11 := put4_inj fa fb e5
  obtain ⟨⟨an, at1, ac⟩, au, ad⟩ := a
  obtain ⟨⟨bn, bt, bk⟩, bu, bd⟩ := b
  have e12 : ad = bd := ByteArray.ext (Array.toList_inj.1 e8)
  simp only at e1 e9 e10 e11 e12
  subst e1 e9 e10 e11 e12
  rfl

/-- Is the digest of r, too? -/
noncomputable def cntB (apex : ByteArray) (r : R5) : Bool := if r.k.n = apex then !(r.k.t == 63) && !((r.k.t == 46) && Lib.hasPrefix r.d.data.toList [0, 63]) else undS r.k.n apex
/-- The bytes of which the digest is. -/
noncomputable def dgL (apex : ByteArray) (l : List R5) : List UInt8 := (onceF mcmp (cntB apex) l).flatMap fun r => (fmB r).data.toList
/-- .. and the error ahead of it. -/
def dgE (apex : ByteArray) (l : List R5) : Int := if mayN apex = true then (if l.all mayM = true then 0 else 4) else 10
end Go.Proofs.Ytmhiglhgkgannaa
