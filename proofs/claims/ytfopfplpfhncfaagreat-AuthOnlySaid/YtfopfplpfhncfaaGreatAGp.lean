/- AuthGlue, plain: what is glued. -/
import Derived.Test.YtfopfplpfhncfaaGreatAuF
import Derived.Test.YtfopfplpfhncfaaGreatZMp
import Derived.Test.YtfopfplpfhncfaaGreatZnU
namespace Go.Proofs.YtfopfplpfhncfaaGreat
open Go.RowKit

theorem riseB_nodup {l : List ByteArray} (h : l.Pairwise (fun x y => cmpB x y < 0)) : l.Nodup := h.imp (fun {a b} hab e => by
  rw [e, (ord_cmpB.zero b b).2 rfl] at hab; omega)
theorem tg_nodup {l : List ByteArray} (h : l.Pairwise (fun x y => cmpS x y < 0)) : l.Nodup := h.imp (fun {a b} hab e => by
  rw [e, (ord_cmpS.zero b b).2 rfl] at hab; omega)
/-- The data of an NS set of a zone are targets. -/
theorem ns_data {w : World} {z : Nat} {apex : ByteArray} {l : List R5} {S : List SetP} (h : ZOk w z apex l S) {s : SetP} (hs : s ∈ S) (ht : s.k.t = 2) : ∀ d ∈ s.data, tgB 2 d = true := by
  intro d hd
  obtain ⟨r, hr, k1, rfl⟩ := (h.canon.mem s.k d).1 ⟨s, hs, rfl, hd⟩
  have hm := h.may r hr
  simp only [mayR5, mayR, Bool.and_eq_true] at hm
  have h2 := hm.2.2.2.2
  rw [k1, ht] at h2
  rw [tgB, h2]; rfl
theorem nsD_two {s : SetP} (ht : s.k.t = 2) (hd : ∀ d ∈ s.data, tgB 2 d = true) (x : ByteArray) : x ∈ nsD [s, s] ↔ x ∈ s.data := by
  have h1 : tgL s = s.data := by rw [tgL, if_pos ht]; exact List.filter_eq_self.2 hd
  simp [nsD, h1]
theorem glueP_len {S : List SetP} {T U : List ByteArray} (h : T.Perm U) : (glueP S T).length = (glueP S U).length := (List.Perm.flatMap_right (glueN S) h).length_eq
theorem glue_count {S : List SetP} {s : SetP} {T : List ByteArray} (ht : s.k.t = 2) (hd : ∀ d ∈ s.data, tgB 2 d = true) (hr : s.data.Pairwise (fun x y => cmpB x y < 0)) (h : TgOf [s, s] T) : (glueP S T).length = (glueP S s.data).length ∧ ∀ x ∈ T, x ∈ s.data :=
  ⟨glueP_len ((List.perm_ext_iff_of_nodup (tg_nodup h.1) (riseB_nodup hr)).2 (fun x => (h.2 x).trans (nsD_two ht hd x))), fun x hx => (nsD_two ht hd x).1 ((h.2 x).1 hx)⟩
theorem glue_in {S : List SetP} {T : List ByteArray} {g : SetP} (h : g ∈ glueP S T) : findK S g.k = some g ∧ (g.k.t = 1 ∨ g.k.t = 28) ∧ g.k.n ∈ T ∧ g.k.c = 1 := by
  rw [glueP, List.mem_flatMap] at h
  obtain ⟨x, hx, hg⟩ := h
  rw [glueN, List.mem_append] at hg
  have one : ∀ t, g ∈ glueF S x t → findK S ⟨x, t, 1⟩ = some g := fun t h => by
    rw [glueF] at h
    cases hf : findK S ⟨x, t, 1⟩ with
    | none => rw [hf] at h; cases h
    | some s => rw [hf] at h; obtain rfl := List.mem_singleton.1 (show g ∈ [s] from h); rfl
  rcases hg with hg | hg
  · have h1 := one 1 hg
    have h2 := find_key h1
    rw [h2]; exact ⟨h1, Or.inl rfl, hx, rfl⟩
  · have h1 := one 28 hg
    have h2 := find_key h1
    rw [h2]; exact ⟨h1, Or.inr rfl, hx, rfl⟩
theorem glueN_n {S : List SetP} {x : ByteArray} {g : SetP} (h : g ∈ glueN S x) : g.k.n = x := by
  rw [glueN, List.mem_append] at h
  have one : ∀ t, g ∈ glueF S x t → g.k.n = x := fun t h => by
    rw [glueF] at h
    cases hf : findK S ⟨x, t, 1⟩ with
    | none => rw [hf] at h; cases h
    | some s => rw [hf] at h; obtain rfl := List.mem_singleton.1 (show g ∈ [s] from h); rw [find_key hf]
  rcases h with h | h
  · exact one 1 h
  · exact one 28 h
theorem kcmp_t {x : ByteArray} {c t u : Int} (h : t < u) : kcmp ⟨x, t, c⟩ ⟨x, u, c⟩ < 0 := by
  show orI [cmpS x x, Lib.compareInt c c, Lib.compareInt t u] < 0
  rw [or3, (ord_cmpS.zero x x).2 rfl, if_pos rfl, (ord_int.zero c c).2 rfl, if_pos rfl]
  rcases ord_int.rng t u with h1 | h1 | h1
  · rw [h1]; decide
  · have := (ord_int.zero t u).1 h1; omega
  · exfalso
    have h2 : Lib.compareInt t u = -1 := by simp [Lib.compareInt, h]
    omega
theorem glueN_rise (S : List SetP) (x : ByteArray) : (glueN S x).Pairwise (fun s t => kcmp s.k t.k < 0) := by
  rw [glueN, glueF, glueF]
  cases h1 : findK S ⟨x, 1, 1⟩ with
  | none => cases h2 : findK S ⟨x, 28, 1⟩ with
    | none => exact List.Pairwise.nil
    | some t => exact List.pairwise_singleton _ _
  | some s => cases h2 : findK S ⟨x, 28, 1⟩ with
    | none => exact List.pairwise_singleton _ _
    | some t =>
      refine List.pairwise_cons.2 ⟨fun u hu => ?_, List.pairwise_singleton _ _⟩
      obtain rfl := List.mem_singleton.1 (show u ∈ [t] from hu)
      rw [find_key h1, find_key h2]
      exact kcmp_t (by decide)
theorem glueP_rise (S : List SetP) : ∀ T : List ByteArray, T.Pairwise (fun x y => cmpS x y < 0) → (glueP S T).Pairwise (fun s t => kcmp s.k t.k < 0)
  | [], _ => List.Pairwise.nil
  | x :: T, h => by
    obtain ⟨h1, h2⟩ := List.pairwise_cons.1 h
    rw [glueP, List.flatMap_cons]
    refine List.pairwise_append.2 ⟨glueN_rise S x, glueP_rise S T h2, fun s hs t ht => ?_⟩
    have hn := glueN_n hs
    have ht' := (glue_in (S := S) (T := T) ht).2.2.1
    have h3 := h1 _ ht'
    rw [← hn] at h3
    show orI [cmpS s.k.n t.k.n, Lib.compareInt s.k.c t.k.c, Lib.compareInt s.k.t t.k.t] < 0
    rw [or3, if_neg (by omega)]; exact h3
theorem same_selfG (n : ByteArray) (t k u : Int) (d : List ByteArray) (pa pb : Option Addr) (dl ca cb : Nat) (w : World) (h1 : RowS w pa dl d) (h2 : RowS w pb dl d) (hl : dl ≤ 100000) : Calls Tryz.prog 36 #[.agg #[.string n, .int .i64 t, .int .i64 k, .int .i64 u, .slice pa dl ca], .agg #[.string n, .int .i64 t, .int .i64 k, .int .i64 u, .slice pb dl cb]] w fun e w' => e = .returned (.bool true) ∧ Below w.heap.size w w' := by
  have hd := h1.1
  subst hd
  have h := same_any ⟨⟨n, t, k⟩, u, d⟩ ⟨⟨n, t, k⟩, u, d⟩ pa pb ca cb w h1 h2 (by show d.length ≤ 1000000; omega)
  rw [(sameP_iff _ _).2 rfl] at h
  exact h
theorem two_data {s : SetP} (h : ∀ d ∈ s.data, d.size ≤ 1000000) : ∀ t ∈ [s, s], ∀ d ∈ t.data, d.size ≤ 1000000 := by
  intro t ht
  have e : t = s := by simpa using ht
  rw [e]; exact h
theorem newU_two {apex : ByteArray} {l : List R5} {w w' : World} {e : Ending} (h : NewU apex l w e w') : ((∃ x : Int, x ≠ 0 ∧ e = .returned (.tuple #[.pointer none, .int .i64 x])) ∨ ∃ z S, e = .returned (.tuple #[.pointer (some ⟨z, 0, none⟩), .int .i64 0]) ∧ ZnUp w' w.heap.size z apex S ∧ ZOk w' z apex l S) ∧ Below w.heap.size w w' := by
  obtain ⟨h, hb⟩ := h
  refine ⟨?_, hb⟩
  rcases h with ⟨_, rfl⟩ | ⟨h1, ⟨_, rfl⟩ | ⟨h2, ⟨_, rfl⟩ | ⟨h3, S, hc, hs, hl, ⟨_, rfl⟩ | ⟨hw, z, rfl, hz, hza⟩⟩⟩⟩
  · exact Or.inl ⟨10, by decide, rfl⟩
  · exact Or.inl ⟨4, by decide, rfl⟩
  · exact Or.inl ⟨13, by decide, rfl⟩
  · exact Or.inl ⟨11, by decide, rfl⟩
  · exact Or.inr ⟨z, S, rfl, hza, h1, h2, h3, hc, hs, hl, hw, hza.is⟩
theorem gotD_small {w : World} {z : Nat} {apex : ByteArray} {l : List R5} {S : List SetP} (h : ZOk w z apex l S) {k : Ky} {s : SetP} (hs : (findK S k).getD sZ = s) : s.data.length ≤ 300 ∧ ∀ d ∈ s.data, d.size ≤ 1000000 := by
  cases hf : findK S k with
  | none =>
    rw [hf] at hs
    obtain rfl : sZ = s := hs
    exact ⟨Nat.zero_le _, fun d hd => by cases hd⟩
  | some t =>
    rw [hf] at hs
    obtain rfl : t = s := hs
    have h1 := data_le_sum (find_mem hf)
    have h2 := h.sum
    have h3 := h.few
    exact ⟨by omega, h.szd t (find_mem hf)⟩
theorem setsAt_two {w : World} {sn : ByteArray} {st sk su : Int} {sd : List ByteArray} {da : Option Addr} {dl dc : Nat} (hd : sd.length = dl) (hr : RowS w da dl sd) (hn : da = none → dl = 0 ∧ dc = 0) : SetsAt (w.alloc (.cells #[.string sn, .int .i64 st, .int .i64 sk, .int .i64 su, .slice da dl dc, .string sn, .int .i64 st, .int .i64 sk, .int .i64 su, .slice da dl dc] 38)) (some ⟨w.heap.size, 0, none⟩) 2 [⟨⟨sn, st, sk⟩, su, sd⟩, ⟨⟨sn, st, sk⟩, su, sd⟩] := by
  subst hd
  refine flatS_at (L := [((⟨⟨sn, st, sk⟩, su, sd⟩ : SetP), Value.slice da sd.length dc), ((⟨⟨sn, st, sk⟩, su, sd⟩ : SetP), Value.slice da sd.length dc)]) (cells_lit w #[.string sn, .int .i64 st, .int .i64 sk, .int .i64 su, .slice da sd.length dc, .string sn, .int .i64 st, .int .i64 sk, .int .i64 su, .slice da sd.length dc] _) rfl (fun p hp => ?_)
  have h : p = ((⟨⟨sn, st, sk⟩, su, sd⟩ : SetP), Value.slice da sd.length dc) := by simpa using hp
  subst h
  exact ⟨da, dc, rfl, hr.below ((Below.refl w.heap.size w).alloc (Nat.le_refl _) _), hn⟩
theorem glue_none {S : List SetP} {T : List ByteArray} {m : Nat} {s : SetP} (hs : s = sZ) (h : TgOf [s, s] T) (hm : (glueP S T).length = m) : m = 0 := by
  have hT : T = [] := by
    cases T with
    | nil => rfl
    | cons x T =>
      have h1 := (h.2 x).1 (by simp)
      rw [hs] at h1
      simp [nsD, tgL, sZ] at h1
  rw [hT] at hm
  rw [← hm]; rfl
theorem glue_next {S : List SetP} {l : List ByteArray} {k : Nat} {d : ByteArray} (h : l[k]? = some d) : (glueP S (l.take (k + 1))).length = (glueP S (l.take k)).length + (if (findK S ⟨d, 1, 1⟩).isSome = true then 1 else 0) + (if (findK S ⟨d, 28, 1⟩).isSome = true then 1 else 0) := by
  rw [glueP_snoc h, List.length_append, glueN, List.length_append, glueF, glueF]
  cases findK S ⟨d, 1, 1⟩ <;> cases findK S ⟨d, 28, 1⟩ <;> simp <;> omega
end Go.Proofs.YtfopfplpfhncfaaGreat
