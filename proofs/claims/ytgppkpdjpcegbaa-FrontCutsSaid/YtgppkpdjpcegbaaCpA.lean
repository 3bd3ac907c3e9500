/- Bytes copied, bytes alike: contracts (chapter 5's statements use them), over this seat's translation. -/
import Derived.Test.YtgppkpdjpcegbaaDeE
import Derived.Test.YtgppkpdjpcegbaaMsg
namespace Go.Proofs.Ytgppkpdjpcegbaa
open Go.RowKit

theorem rowB_own {w : World} {B n c : Nat} {a : Option Addr} {l : List UInt8} (h : w.ownsRow B 5 1 (.slice a n c) n (bc l)) : RowB w a n l ∧ (a = none → n = 0 ∧ c = 0) := by
  obtain ⟨a', c', e, h1, h2⟩ := cells_own h
  injection e with e1 e2 e3
  subst e1 e3
  exact ⟨h1, h2⟩
theorem rowB_of_is {w : World} {a : Option Addr} {len cap : Nat} {zs : List Int} (h : IsRow .u8 w a len cap zs) : RowB w a len ((zs.take len).map by8) ∧ (a = none → len = 0 ∧ cap = 0) ∧ len ≤ cap ∧ cap ≤ maxLen := by
  rcases h with ⟨rfl, rfl, rfl, rfl⟩ | ⟨x, rfl, hl, hm, hz, hcell, hwf⟩
  · exact ⟨⟨rfl, Or.inl rfl⟩, fun _ => ⟨rfl, rfl⟩, Nat.le_refl _, Nat.zero_le _⟩
  · refine ⟨⟨by rw [bc_length, List.length_map, List.length_take]; omega, ?_⟩, (fun h => by cases h), hl, hm⟩
    by_cases h0 : len = 0
    · exact Or.inl h0
    right
    obtain ⟨b, off, spot⟩ := x
    have hc := hcell 0 (by omega)
    have hspot : spot = none := by simpa [Addr.add] using World.cell?_spot hc
    subst hspot
    refine ⟨b, off, rfl, ?_, fun i x hi => ?_⟩
    · have := block_lt_of_cell hc
      simpa [Addr.add] using this
    · have hi2 : i < len := by
        have := (List.getElem?_eq_some_iff.1 hi).1
        rw [bc_length, List.length_map, List.length_take] at this; omega
      have := hcell i (by omega)
      rw [show (⟨b, off, none⟩ : Addr).add i = ⟨b, off + i, none⟩ by simp only [Addr.add]; split <;> simp_all] at this
      rw [this]
      have hz2 : i < zs.length := by omega
      have hwf2 := hwf zs[i] (List.getElem_mem hz2)
      have hb := by8_toNat zs[i]
      have hr : 0 ≤ zs[i] ∧ zs[i] < 256 := by
        have := hwf2
        simp [Lit.wf, IntKind.min, IntKind.max, IntKind.signed, IntKind.bits] at this
        omega
      rw [bc, List.getElem?_map, List.getElem?_map, List.getElem?_take, if_pos hi2, List.getElem?_eq_getElem hz2] at hi
      simp only [Option.map_some, Option.some.injEq] at hi
      rw [← hi, hb, List.getD_eq_getElem?_getD, List.getElem?_eq_getElem hz2]
      simp; omega

theorem copyBytes_any (a : Option Addr) (n c : Nat) (l : List UInt8) (w : World) (h : RowB w a n l) (hn : a = none → n = 0 ∧ c = 0) (hlen : n ≤ 1000000) :
    Calls Try.prog 17 #[.slice a n c] w fun e w' => ∃ v, e = .returned v ∧ w'.ownsRow w.heap.size 5 1 v n (bc l) ∧ Below w.heap.size w w' := by
  have HR := Lib.hid h
  have HN := Lib.hid hn
  obtain ⟨i0, hi, hz0, hz1, hz2⟩ := info_parts infoU8
  have HI := Lib.hid hi
  have HZ0 := Lib.hid hz0
  have HZ1 := Lib.hid hz1
  have HZ2 := Lib.hid hz2
  clear h hn hi hz0 hz1 hz2
  go_enter Try.func17, Try.ntmps17
  go_wp2_with (at_builtin; refine append_cells rfl _ _ 22 5 rfl i0 (.int .u8 0) 1 Try.underlying22 HI.out HZ0.out HZ1.out HZ2.out rfl w.heap.size _ 0 [] rfl (World.ownsRow_made w #[] 0 (Nat.le_refl _) (by decide) rfl) a n c (bc l) rfl HN.out (CellsAt.below HR.out ((Below.refl _ _).alloc (Nat.le_refl _) _)) (bc_oneCell l) (by omega) (by decide) (by simp) ?_)
  intro v' w' hown hgrow
  have HB := Lib.hid (((Below.refl w.heap.size w).alloc (Nat.le_refl _) _).grown hgrow (by simp) (fun k hk => by simp [Value.ownBlock] at hk; omega))
  have HO := Lib.hid hown
  clear hown hgrow
  go_wp2
  go_ret
  exact ⟨_, rfl, HO.out, HB.out⟩

/-- The message that bytes tell, or the empty one. -/
def decM (s : ByteArray) : MsgD := (decP s).getD msg0
theorem decode_x (l : List UInt8) (a : Option Addr) (n cp : Nat) (w : World) (hr : RowB w a n l) (hn : a = none → n = 0 ∧ cp = 0) (hb : n ≤ 20000) :
    Calls Try.prog 10 #[.slice a n cp] w fun en w' => ∃ (qv av nv xv : Value) (er : Int), en = .returned (.tuple #[.agg (msgC (decM (bs l)).h qv av nv xv), .int .i64 er]) ∧ RowsM w' w.heap.size (decM (bs l)) qv av nv xv ∧ SzMD (decM (bs l)) ∧ (er == 0) = (decP (bs l)).isSome ∧ Below w.heap.size w w' := by
  refine (decode_any l a n cp w hr hn hb).mono ?_
  rintro en w' ⟨⟨M, qv, av, nv, xv, h1, rfl, h2, h3⟩ | ⟨h1, er, h2, rfl⟩, hB⟩
  · refine ⟨qv, av, nv, xv, 0, ?_, ?_, ?_, ?_, hB⟩
    · rw [decM, h1]; rfl
    · rw [decM, h1]; exact h2
    · rw [decM, h1]; exact h3
    · rw [h1]; rfl
  · refine ⟨.slice none 0 0, .slice none 0 0, .slice none 0 0, .slice none 0 0, er, ?_, ?_, ?_, ?_, hB⟩
    · rw [decM, h1]; rfl
    · rw [decM, h1]; exact rowsM0 _ _
    · rw [decM, h1]; exact szM0
    · rw [h1]
      simpa using h2
/-- .. as a message's parts. -/
def toP (M : MsgD) : MsgP := ⟨M.h.i, M.h.o, M.h.r, M.h.b1, M.h.b2, M.h.b3, M.h.b4, M.h.b5, M.q, M.a, M.n, M.x⟩
theorem msgOwn_of {w : World} {B : Nat} {M : MsgD} {qv av nv xv : Value} (h : RowsM w B M qv av nv xv) : MsgOwn w B (.agg (msgC M.h qv av nv xv)) (toP M) := by
  obtain ⟨h1, h2, h3, h4⟩ := h
  obtain ⟨qa, qc, rfl, -⟩ := rowQ_own h1
  obtain ⟨na, nc, rfl, -⟩ := rowR_own h2
  obtain ⟨sa, sc, rfl, -⟩ := rowR_own h3
  obtain ⟨xa, xc, rfl, -⟩ := rowR_own h4
  exact ⟨qa, qc, na, nc, sa, sc, xa, xc, rfl, h1, h2, h3, h4⟩
theorem smM_of {M : MsgD} (h : SzMD M) : SmM (toP M) := by
  obtain ⟨h1, h2, h3, h4⟩ := h
  refine ⟨?_, ?_, ?_, ?_⟩
  · show M.q.length ≤ 100000; have := h1.1; omega
  · show M.a.length ≤ 100000; have := h2.1; omega
  · show M.n.length ≤ 100000; have := h3.1; omega
  · show M.x.length ≤ 100000; have := h4.1; omega
theorem decode_y (l : List UInt8) (a : Option Addr) (n cp : Nat) (w : World) (hr : RowB w a n l) (hn : a = none → n = 0 ∧ cp = 0) (hb : n ≤ 20000) :
    Calls Try.prog 10 #[.slice a n cp] w fun en w' => ∃ (v : Value) (er : Int), en = .returned (.tuple #[v, .int .i64 er]) ∧ MsgOwn w' w.heap.size v (toP (decM (bs l))) ∧ SmM (toP (decM (bs l))) ∧ (er == 0) = (decP (bs l)).isSome ∧ Below w.heap.size w w' := by
  refine (decode_x l a n cp w hr hn hb).mono ?_
  rintro en w' ⟨qv, av, nv, xv, er, rfl, h1, h2, h3, h4⟩
  exact ⟨_, er, rfl, msgOwn_of h1, smM_of h2, h3, h4⟩
theorem MsgAt.parts {w : World} {v : Value} {mi mo mr : Int} {b1 b2 b3 b4 b5 : Bool} {Q : List Ky} {A N X : List R5} (h : MsgAt w v ⟨mi, mo, mr, b1, b2, b3, b4, b5, Q, A, N, X⟩) :
    ∃ (qa : Option Addr) (ql qc : Nat) (na : Option Addr) (nl nc : Nat) (sa : Option Addr) (sl sc : Nat) (xa : Option Addr) (xl xc : Nat), v = .agg #[.int .i64 mi, .int .i64 mo, .int .i64 mr, .bool b1, .bool b2, .bool b3, .bool b4, .bool b5, .slice qa ql qc, .slice na nl nc, .slice sa sl sc, .slice xa xl xc] ∧ MsgAt w (.agg #[.int .i64 mi, .int .i64 mo, .int .i64 mr, .bool b1, .bool b2, .bool b3, .bool b4, .bool b5, .slice qa ql qc, .slice na nl nc, .slice sa sl sc, .slice xa xl xc]) ⟨mi, mo, mr, b1, b2, b3, b4, b5, Q, A, N, X⟩ := by
  obtain ⟨qa, qc, na, nc, sa, sc, xa, xc, rfl, h1, h2, h3, h4⟩ := h
  exact ⟨qa, _, qc, na, _, nc, sa, _, sc, xa, _, xc, rfl, qa, qc, na, nc, sa, sc, xa, xc, rfl, h1, h2, h3, h4⟩
end Go.Proofs.Ytgppkpdjpcegbaa
