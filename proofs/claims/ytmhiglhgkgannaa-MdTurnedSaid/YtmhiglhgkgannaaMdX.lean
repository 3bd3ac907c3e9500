/- Helpers of layer 9's walks. -/
import Derived.Test.YtmhiglhgkgannaaMdV
import Derived.Test.YtmhiglhgkgannaaCpR
import Derived.Test.YtmhiglhgkgannaaZnR
namespace Go.Proofs.Ytmhiglhgkgannaa
open Go.RowKit

theorem rowR_own2M {w : World} {B n c : Nat} {a : Option Addr} {l : List R5} (h : w.ownsRow B 30 5 (.slice a n c) n (flatR l)) : RowR w a n l ∧ (a = none → n = 0 ∧ c = 0) := by
  obtain ⟨a', c', e, h1, h2⟩ := rowR_own h
  injection e with e1 _ e3
  subst e1 e3
  exact ⟨h1, h2⟩
theorem own_grownM {w w' : World} {B size n : Nat} {e : TypeId} {v : Value} {xs : List Value} {row : Option Nat} (h : w.ownsRow B e size v n xs) (hg : w.grownBy w' row) (hne : ∀ k, v.ownBlock = some k → row ≠ some k) : w'.ownsRow B e size v n xs := by
  refine ⟨h.1, ?_⟩
  rcases h.2 with hn | ⟨g', cap, cur, h1, h2, h3, rest⟩
  · exact .inl hn
  · have hlt : g' < w.heap.size := (Array.getElem?_eq_some_iff.1 h3).1
    exact .inr ⟨g', cap, cur, h1, h2, (hg.block g' hlt (fun e => hne g' (by rw [h1]; rfl) e.symm)).trans h3, rest⟩
theorem own_capM {w : World} {B size n c : Nat} {e : TypeId} {a : Option Addr} {xs : List Value} (h : w.ownsRow B e size (.slice a n c) n xs) : n ≤ c := by
  rcases h.2 with ⟨hv, hn⟩ | ⟨g', cap, cur, hv, _, _, hnc, _⟩
  · injection hv with _ h2 h3; omega
  · injection hv with h1 h2 h3; subst h3; exact hnc
theorem own_atS5 {w : World} {B n c : Nat} {a : Option Addr} {l : List R5} (h : w.ownsRow B 30 5 (.slice a n c) n (flatR l)) (j : Nat) (yn : ByteArray) (yt yc yu : Int) (yd : ByteArray) (hj : l[j]? = some ⟨⟨yn, yt, yc⟩, yu, yd⟩) (hl : j < n) : ∃ b of, a = some ⟨b, of, none⟩ ∧ w.cell? ⟨b, of + j * 5, none⟩ = some (.string yn) ∧ w.cell? ⟨b, of + j * 5 + 1, none⟩ = some (.int .i64 yt) ∧ w.cell? ⟨b, of + j * 5 + 2, none⟩ = some (.int .i64 yc) ∧ w.cell? ⟨b, of + j * 5 + 3, none⟩ = some (.int .i64 yu) ∧ w.cell? ⟨b, of + j * 5 + 4, none⟩ = some (.string yd) := by
  obtain ⟨b, of, r, h1, _, hr, x0, x1, x2, x3, x4⟩ := (rowR_own2M h).1.at j hl
  rw [hj] at hr
  obtain rfl := Option.some.inj hr
  exact ⟨b, of, h1, x0, x1, x2, x3, x4⟩
theorem own_atA5 {w : World} {B n c b of : Nat} {l : List R5} (h : w.ownsRow B 30 5 (.slice (some ⟨b, of, none⟩) n c) n (flatR l)) (j : Nat) (yn : ByteArray) (yt yc yu : Int) (yd : ByteArray) (hj : l[j]? = some ⟨⟨yn, yt, yc⟩, yu, yd⟩) (hl : j < n) : w.cell? ⟨b, of + j * 5, none⟩ = some (.string yn) ∧ w.cell? ⟨b, of + j * 5 + 1, none⟩ = some (.int .i64 yt) ∧ w.cell? ⟨b, of + j * 5 + 2, none⟩ = some (.int .i64 yc) ∧ w.cell? ⟨b, of + j * 5 + 3, none⟩ = some (.int .i64 yu) ∧ w.cell? ⟨b, of + j * 5 + 4, none⟩ = some (.string yd) := by
  obtain ⟨b', of', h1, x⟩ := own_atS5 h j yn yt yc yu yd hj hl
  injection h1 with h1
  injection h1 with e1 e2 _
  subst e1 e2
  exact x
theorem mask32M (n : Int) : bits .and .i64 n 4294967295 = n % 4294967296 := by
  have hm : (BitVec.ofInt 64 4294967295).toNat = 2 ^ 32 - 1 := by decide
  have key : (BitVec.ofInt 64 n &&& BitVec.ofInt 64 4294967295).toNat = (n % ((2 ^ 64 : Nat) : Int)).toNat % 2 ^ 32 := by
    rw [BitVec.toNat_and, BitVec.toNat_ofInt, hm, Nat.and_two_pow_sub_one_eq_mod]
  show IntKind.i64.wrap ((BitVec.ofInt 64 n &&& BitVec.ofInt 64 4294967295).toNat : Nat) = n % 4294967296
  rw [key, IntKind.wrap_i64]
  omega
theorem cn4 {w : World} {q : Nat} {c0 c1 c2 c3 : Value} (h : CN w q [c0, c1, c2, c3]) : w.cell? ⟨q, 0, none⟩ = some c0 ∧ w.cell? ⟨q, 1, none⟩ = some c1 ∧ w.cell? ⟨q, 2, none⟩ = some c2 ∧ w.cell? ⟨q, 3, none⟩ = some c3 ∧ w.frozen? ⟨q, 0, none⟩ = false ∧ w.frozen? ⟨q, 1, none⟩ = false ∧ w.frozen? ⟨q, 2, none⟩ = false ∧ w.frozen? ⟨q, 3, none⟩ = false :=
  ⟨(h.2 0 _ rfl).1, (h.2 1 _ rfl).1, (h.2 2 _ rfl).1, (h.2 3 _ rfl).1, (h.2 0 _ rfl).2, (h.2 1 _ rfl).2, (h.2 2 _ rfl).2, (h.2 3 _ rfl).2⟩
theorem flatR_lastd : ∀ (T : List R5) (n : ByteArray) (t c u : Int) (d d2 : ByteArray), (flatR (T ++ [⟨⟨n, t, c⟩, u, d⟩])).set (T.length * 5 + 4) (.string d2) = flatR (T ++ [⟨⟨n, t, c⟩, u, d2⟩])
  | [], _, _, _, _, _, _ => rfl
  | r :: T, n, t, c, u, d, d2 => by
    have ih := flatR_lastd T n t c u d d2
    have h1 : ∀ l : List R5, flatR (r :: l) = encR r ++ flatR l := fun _ => rfl
    rw [List.cons_append, List.cons_append, h1, h1, List.length_cons, List.set_append_right _ _ (by rw [encR_len]; omega), encR_len, show (T.length + 1) * 5 + 4 - 5 = T.length * 5 + 4 by omega, ih]
/-- The last record's data written over. -/
theorem own_last {w : World} {B g n c mt : Nat} {L T : List R5} {rn : ByteArray} {rt rc ru : Int} {rd : ByteArray} (h : w.ownsRow B 30 5 (.slice (some ⟨g, 0, none⟩) n c) n (flatR L)) (hL : L = T ++ [⟨⟨rn, rt, rc⟩, ru, rd⟩]) (hm : T.length = mt) (d2 : ByteArray) : (w.setCell ⟨g, mt * 5 + 4, none⟩ (.string d2)).ownsRow B 30 5 (.slice (some ⟨g, 0, none⟩) n c) n (flatR (T ++ [⟨⟨rn, rt, rc⟩, ru, d2⟩])) := by
  have h1 := (h.stored (mt * 5 + 4) (.string d2)).1
  rw [hL, ← hm, flatR_lastd] at h1
  rw [← hm]; exact h1
theorem rowR_takeM {w : World} {a : Option Addr} {n m : Nat} {l T : List R5} (h : RowR w a n l) (ht : l.take m = T) (hT : T.length = m) (hm : m ≤ n) : RowR w a m T := by
  refine ⟨hT, by rw [flatR_len, hT], ?_⟩
  rcases h.2.2 with h0 | ⟨b, off, rfl, hlt, hc⟩
  · exact Or.inl (by omega)
  · refine Or.inr ⟨b, off, rfl, hlt, fun j u hj => ?_⟩
    have hjl := (List.getElem?_eq_some_iff.1 hj).1
    rw [flatR_len, hT] at hjl
    refine hc j u ?_
    rw [← ht, ← flatR_takeM, List.getElem?_take_of_lt (by omega)] at hj
    exact hj
/-- The digest, or none. -/
noncomputable def dgD (apex : ByteArray) (l : List R5) : List UInt8 := if dgE apex l = 0 then shaL (dgL apex l) else []
theorem digest_one (apex : ByteArray) (a : Option Addr) (n c : Nat) (l : List R5) (w : World) (h : RowR w a n l) (hn : n ≤ 1000) (hs : ∀ r ∈ l, SmX r) (ha : apex.size ≤ 1000000) :
    Calls Try.prog 16 #[.string apex, .slice a n c] w fun e w' => (∃ va vc, e = .returned (.tuple #[.slice va (dgD apex l).length vc, .int .i64 (dgE apex l)]) ∧ w'.ownsRow w.heap.size 5 1 (.slice va (dgD apex l).length vc) (dgD apex l).length (bc (dgD apex l))) ∧ Below w.heap.size w w' := by
  refine (digest_any apex a n c l w h hn hs ha).mono ?_
  rintro e w' ⟨hd, hb⟩
  refine ⟨?_, hb⟩
  rcases hd with ⟨h0, rfl⟩ | ⟨h0, va, vc, rfl, ho⟩
  · have hD : dgD apex l = [] := by rw [dgD, if_neg h0]
    rw [hD]
    exact ⟨none, 0, rfl, World.ownsRow_nil _ _ _ _⟩
  · have hD : dgD apex l = shaL (dgL apex l) := by rw [dgD, if_pos h0]
    rw [hD, h0, shaL_len]
    exact ⟨va, vc, rfl, ho⟩
theorem rowR_grownM {w w' : World} {a : Option Addr} {n : Nat} {l : List R5} {row : Option Nat} (h : RowR w a n l) (hg : w.grownBy w' row) (hne : ∀ b o, a = some ⟨b, o, none⟩ → row ≠ some b) : RowR w' a n l := by
  refine ⟨h.1, h.2.1, ?_⟩
  rcases h.2.2 with h0 | ⟨b, off, rfl, hlt, hc⟩
  · exact Or.inl h0
  · refine Or.inr ⟨b, off, rfl, Nat.lt_of_lt_of_le hlt hg.size, fun j u hj => ?_⟩
    rw [← hc j u hj]
    exact World.cell?_of_block (hg.block _ hlt (fun e => hne b off rfl e.symm))
theorem und_reflM {n : ByteArray} (h : mayN n = true) : undS n n = true := by rw [undS, h, undL_refl]; rfl
theorem dg_same {apex : ByteArray} {l m : List R5} (h : ∀ r, r ∈ m ↔ r ∈ l) : dgE apex m = dgE apex l ∧ dgD apex m = dgD apex l := by
  have e1 : dgE apex m = dgE apex l := by
    have : m.all mayM = l.all mayM := by
      refine Bool.eq_iff_iff.2 ?_
      rw [List.all_eq_true, List.all_eq_true]
      exact ⟨fun g r hr => g r ((h r).2 hr), fun g r hr => g r ((h r).1 hr)⟩
    rw [dgE, dgE, this]
  refine ⟨e1, ?_⟩
  rw [dgD, dgD, e1, dgL, dgL, onceF_congr ord_mcmp (p := cntB apex) (q := cntB apex) (l := m) (m := l) (fun r => by rw [h r])]
theorem dg_out {apex : ByteArray} {l : List R5} {r : R5} (h0 : dgE apex l = 0) (hm : mayM r = true) (hc : cntB apex r = false) : dgE apex (l ++ [r]) = 0 ∧ dgD apex (l ++ [r]) = dgD apex l := by
  obtain ⟨h1, h2⟩ := dgE_zero h0
  have e1 : dgE apex (l ++ [r]) = 0 := dgE_ok h1 (fun x hx => by
    rcases List.mem_append.1 hx with h | h
    · exact h2 x h
    · rw [List.mem_singleton.1 h]; exact hm)
  refine ⟨e1, ?_⟩
  have hi : ∀ x, (x ∈ l ++ [r] ∧ cntB apex x = true) ↔ (x ∈ l ∧ cntB apex x = true) := by
    intro x
    constructor
    · rintro ⟨hx, hp⟩
      rcases List.mem_append.1 hx with h | h
      · exact ⟨h, hp⟩
      · rw [List.mem_singleton.1 h, hc] at hp; cases hp
    · rintro ⟨hx, hp⟩
      exact ⟨List.mem_append.2 (Or.inl hx), hp⟩
  rw [dgD, dgD, if_pos e1, if_pos h0, dgL, dgL, onceF_congr ord_mcmp hi]
theorem cnt_out {apex rn : ByteArray} {rt rc ru : Int} {rd : ByteArray} (ha : mayN apex = true) (h : undS rn apex = false ∨ rn = apex ∧ rt = 63) : cntB apex ⟨⟨rn, rt, rc⟩, ru, rd⟩ = false := by
  by_cases e : rn = apex
  · rcases h with h | ⟨_, h⟩
    · rw [e, und_reflM ha] at h; cases h
    · rw [cntB, if_pos e]
      show (!(rt == 63) && _) = false
      rw [eT h]; rfl
  · rcases h with h | ⟨h, _⟩
    · rw [cntB, if_neg e]; exact h
    · exact absurd h e
theorem bytesM (a b : Option Addr) (n m c d : Nat) (l k : List UInt8) (w : World) (ha : RowB w a n l) (hb : RowB w b m k) (na : a = none → n = 0 ∧ c = 0) (nb : b = none → m = 0 ∧ d = 0) :
    Calls Try.prog 17 #[.slice a n c, .slice b m d] w fun e w' => e = .returned (.bool (l == k)) ∧ w = w' := by
  have h1 := conv_row (cap := c) ha na
  have h2 := conv_row (cap := d) hb nb
  have h3 : ((bs l).toList == (bs k).toList) = (l == k) := by rw [bs_toList, bs_toList]
  obtain ⟨s, hs⟩ : ∃ s, bs l = s := ⟨_, rfl⟩
  obtain ⟨t, ht⟩ : ∃ s, bs k = s := ⟨_, rfl⟩
  obtain ⟨x, hx⟩ : ∃ x, (l == k) = x := ⟨_, rfl⟩
  rw [hs] at h1 h3
  rw [ht] at h2 h3
  rw [hx] at h3 ⊢
  clear ha hb na nb hs ht hx
  cases x
  all_goals
    go_enter Try.func17, Try.ntmps17
    go_wp2
    go_ret
    exact ⟨rfl, rfl⟩
/-- One bit of a byte turned. -/
theorem xor1M (x : UInt8) : bits .xor .u8 (x.toNat : Int) 1 = ((x ^^^ 1).toNat : Int) := by
  have h : ∀ n : Fin 256, bits .xor .u8 ((n.val : Nat) : Int) 1 = ((UInt8.ofNat n.val ^^^ 1).toNat : Int) := by decide +kernel
  have h2 := h ⟨x.toNat, x.toNat_lt⟩
  simpa using h2
theorem xor1_ne (x : UInt8) : x ^^^ 1 ≠ x := by
  have h : ∀ n : Fin 256, UInt8.ofNat n.val ^^^ 1 ≠ UInt8.ofNat n.val := by decide +kernel
  have h2 := h ⟨x.toNat, x.toNat_lt⟩
  simpa using h2
theorem add1M (x : UInt8) : IntKind.u8.wrap ((x.toNat : Int) + 1) = ((x + 1).toNat : Int) := by
  have h : ∀ n : Fin 256, IntKind.u8.wrap (((n.val : Nat) : Int) + 1) = ((UInt8.ofNat n.val + 1).toNat : Int) := by decide +kernel
  have h2 := h ⟨x.toNat, x.toNat_lt⟩
  simpa using h2
theorem add1_ne (x : UInt8) : x + 1 ≠ x := by simp
/-- A block of bytes as a slice. -/
theorem CN.rowB {w : World} {q n : Nat} {l : List UInt8} (h : CN w q (bc l)) (hn : l.length = n) : RowB w (some ⟨q, 0, none⟩) n l :=
  ⟨by rw [bc_length, hn], Or.inr ⟨q, 0, rfl, h.1, fun j u hj => by rw [Nat.zero_add]; exact (h.2 j u hj).1⟩⟩
theorem bc_set (l : List UInt8) (j : Nat) (x : UInt8) : (bc l).set j (.int .u8 (x.toNat : Int)) = bc (l.set j x) := by rw [bc, bc, List.map_set]
theorem CN.bset {w : World} {q : Nat} {l : List UInt8} (h : CN w q (bc l)) (j : Nat) (hj : j < l.length) (x : UInt8) : CN (w.setCell ⟨q, j, none⟩ (.int .u8 (x.toNat : Int))) q (bc (l.set j x)) := by
  have h1 := h.set j (by rw [bc_length]; exact hj) (.int .u8 (x.toNat : Int))
  rwa [bc_set] at h1
theorem CN.bat {w : World} {q : Nat} {l : List UInt8} (h : CN w q (bc l)) (j : Nat) (hj : j < l.length) : w.cell? ⟨q, j, none⟩ = some (.int .u8 ((l[j]'hj).toNat : Int)) ∧ w.frozen? ⟨q, j, none⟩ = false :=
  h.2 j _ (by rw [bc, List.getElem?_map, List.getElem?_eq_getElem hj]; rfl)
theorem byteAt_bsM (l : List UInt8) (j : Nat) : byteAt (bs l) j = (l.getD j 0).toNat := by
  unfold byteAt; rfl
theorem step_append_cellsG {w : World} {ops : Array Oper} {o : Oper} {act : Act} {K : Act → World → Prop} {Q : Exit → Act → World → Prop} {E : Prop} (hw : Region.wanted o (yielded ops act.tmps) = true) (s x : Operand) (t e : TypeId)
    (ho : o.op = .call { callee := .builtin .append, args := #[s, x], argTypes := #[t, t] })
    (i : TypeInfo) (z : Value) (size bytes : Nat) (ht : Try.prog.underlying t = some (.slice e)) (hi : Try.prog.info? e = some i) (hz : i.zero = some z) (hsize : i.size = size) (hby : i.bytes = bytes) (hzs : z.cells.size = size) (h0 : 0 < size)
    (B : Nat) (v : Value) (n : Nat) (xs : List Value) (hs : act.eval s = v) (hown : w.ownsRow B e size v n xs)
    (a : Option Addr) (len cap : Nat) (cs : List Value) (hx : act.eval x = .slice a len cap) (hn : a = none → len = 0 ∧ cap = 0) (hr : CellsAt w a (len * size) cs) (h1 : ∀ u ∈ cs, u.oneCell' = true)
    (hb : n + len ≤ 1000000) (hb2 : bytes ≤ 64) (hbase : B ≤ w.heap.size)
    (h : ∀ v' w', w'.ownsRow B e size v' (n + len) (xs ++ cs) → w.grownBy w' v.ownBlock → K (act.put o.dst v') w') : if Region.wanted o (yielded ops act.tmps) = true then Oper.wp Try.prog o act w K Q else E := by
  rw [if_pos hw]
  cases a with
  | none =>
    obtain ⟨rfl, rfl⟩ := hn rfl
    have hl : cs = [] := List.eq_nil_of_length_eq_zero (by rw [hr.1]; exact Nat.zero_mul _)
    subst hl
    have hrun := run_append_owned_none (P := Try.prog) (w := w) B t o.type e i size ht hi v n xs hown
    unfold Oper.wp
    simp [execOp, ho, resolve, invoke, builtin, hs, hx, hrun, Result.andThen]
    exact h v w (by simpa using hown) (World.grownBy.refl _ _)
  | some ad =>
    have hm : (n + len) * bytes ≤ 1000000 * 64 := Nat.mul_le_mul hb hb2
    refine wp_append_own w s x t ho B e i z size bytes ht hi hz hsize hby hzs h0 v n xs hs hown ad len cap cs hx hr.1 ?_ h1 (by unfold maxLen; omega) (by omega) hbase (fun v' w' h1 h2 _ => h v' w' h1 h2)
    · intro j u hj
      rcases hr.2 with h0' | ⟨b, off, hab, _, hc⟩
      · have h3 := hr.1
        have h4 := (List.getElem?_eq_some_iff.1 hj).1
        omega
      · simp only [Option.some.injEq] at hab
        subst hab
        rw [Addr.add_mid]
        exact hc j u hj
end Go.Proofs.Ytmhiglhgkgannaa
