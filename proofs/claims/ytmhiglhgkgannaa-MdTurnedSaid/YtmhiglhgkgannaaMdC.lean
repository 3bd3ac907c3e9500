/- slices.Compact at records. -/
import Derived.Test.YtmhiglhgkgannaaMgA
import Derived.Test.YtmhiglhgkgannaaMdB
import Derived.Test.YtmhiglhgkgannaaRec
import Derived.Test.YtmhiglhgkgannaaLst
import Derived.Test.YtmhiglhgkgannaaDdP
import Derived.Test.YtmhiglhgkgannaaZnK
import Derived.Laws.StructEq
import Derived.BigQuiet
namespace Go.Proofs.Ytmhiglhgkgannaa
open Go.RowKit

theorem toList_inj5M {s t : ByteArray} (h : s.toList = t.toList) : s = t := by
  have h2 : s.data.toList = t.data.toList := (bs_toList s.data.toList).symm.trans (Eq.trans h (bs_toList t.data.toList))
  exact ByteArray.ext (Array.toList_inj.1 h2)
theorem rr_equalM (an bn : ByteArray) (at1 bt : Int) (ac bc : Int) (au bu : Int) (ad bd : ByteArray) (W : World) : (Op.equalIn 10000 30 (.agg #[.string an, .int .i64 at1, .int .i64 ac, .int .i64 au, .string ad]) (.agg #[.string bn, .int .i64 bt, .int .i64 bc, .int .i64 bu, .string bd])).run Try.prog W = .ok (an.toList == bn.toList && (at1 == bt && (ac == bc && (au == bu && (ad.toList == bd.toList))))) W := by
  have u3 := Try.underlying3
  have a3 := Try.isAgg3
  have z3 := Try.sizeOf3
  have u9 := Try.underlying9
  have a9 := Try.isAgg9
  have z9 := Try.sizeOf9
  have hS : Try.prog.underlying 30 = some (.struct (Try.prog.fieldsOf 30)) := by
    simp [Program.fieldsOf, Try.underlying30]
  rw [show (10000 : Nat) = 9999 + 1 from rfl, run_equalIn_agg W 9999 30 _ _ hS (by kernel_rfl)]
  simp only [Program.fieldsOf, Try.underlying30]
  go_simp
  by_cases h0 : an.toList = bn.toList <;> by_cases h1 : at1 = bt <;> by_cases h2 : ac = bc <;> by_cases h3 : au = bu <;> by_cases h4 : ad.toList = bd.toList <;> simp [h0, h1, h2, h3, h4]
theorem rr_neqM (an bn : ByteArray) (at1 bt : Int) (ac bc : Int) (au bu : Int) (ad bd : ByteArray) (W : World) : (binOp .neq 30 (.agg #[.string an, .int .i64 at1, .int .i64 ac, .int .i64 au, .string ad]) (.agg #[.string bn, .int .i64 bt, .int .i64 bc, .int .i64 bu, .string bd])).run Try.prog W = .ok (.bool (!(an.toList == bn.toList && (at1 == bt && (ac == bc && (au == bu && (ad.toList == bd.toList))))))) W := by
  rw [run_neq_struct, rr_equalM]; rfl
theorem rr_eqlM (an bn : ByteArray) (at1 bt : Int) (ac bc : Int) (au bu : Int) (ad bd : ByteArray) (W : World) : (binOp .eql 30 (.agg #[.string an, .int .i64 at1, .int .i64 ac, .int .i64 au, .string ad]) (.agg #[.string bn, .int .i64 bt, .int .i64 bc, .int .i64 bu, .string bd])).run Try.prog W = .ok (.bool (an.toList == bn.toList && (at1 == bt && (ac == bc && (au == bu && (ad.toList == bd.toList)))))) W := by
  rw [run_eql_struct, rr_equalM]; rfl
theorem rr_sameM (an bn : ByteArray) (at1 bt ac bc au bu : Int) (ad bd : ByteArray) : (an.toList == bn.toList && (at1 == bt && (ac == bc && (au == bu && (ad.toList == bd.toList))))) = true ↔ (⟨⟨an, at1, ac⟩, au, ad⟩ : R5) = ⟨⟨bn, bt, bc⟩, bu, bd⟩ := by
  have h0 : ∀ x y : ByteArray, x.toList = y.toList ↔ x = y := fun x y => ⟨toList_inj5M, fun h => by rw [h]⟩
  simp only [Bool.and_eq_true, beq_iff_eq, h0, R5.mk.injEq, Ky.mk.injEq]
  constructor
  · rintro ⟨h1, h2, h3, h4, h5⟩; exact ⟨⟨h1, h2, h3⟩, h4, h5⟩
  · rintro ⟨⟨h1, h2, h3⟩, h4, h5⟩; exact ⟨h1, h2, h3, h4, h5⟩
instance decR5M : DecidableEq R5 := fun a b => decidable_of_iff ((a.k.n.toList == b.k.n.toList && (a.k.t == b.k.t && (a.k.c == b.k.c && (a.ttl == b.ttl && a.d.toList == b.d.toList)))) = true) (rr_sameM a.k.n b.k.n a.k.t b.k.t a.k.c b.k.c a.ttl b.ttl a.d b.d)
theorem slice_headKM {T E : TypeId} {i : TypeInfo} {size : Nat} (hu : Try.prog.underlying T = some (.slice E)) (hi : Try.prog.info? E = some i) (hz : i.size = size) (av : Option Addr) (n cap h : Nat) (hav : av = none ∧ n = 0 ∧ cap = 0 ∨ ∃ β off, av = some ⟨β, off, none⟩) (h2 : h ≤ cap) (W : World) : (Instr.slice T (.slice av n cap) none (some (.int .i64 (h : Int))) none).run Try.prog W = .ok (.slice av h cap) W := by
  have he : Try.prog.elem T = E := by simp [Program.elem, hu]
  have hu' : Try.prog.underlying T = some (.slice (Try.prog.elem T)) := by rw [he]; exact hu
  rw [run_slice_h (P := Try.prog) (w := W) T av n cap hu' .i64 _ (by omega) (by omega), he]
  rcases hav with ⟨rfl, rfl, rfl⟩ | ⟨β, off, rfl⟩
  · simp [sizeOf, typeInfo, hi, hz, Result.andThen, sliced]
  · simp [sizeOf, typeInfo, hi, hz, Result.andThen, sliced, Addr.add]
theorem slice_tailKM {T E : TypeId} {i : TypeInfo} {size : Nat} (hu : Try.prog.underlying T = some (.slice E)) (hi : Try.prog.info? E = some i) (hz : i.size = size) (av : Option Addr) (n cap l : Nat) (hav : av = none ∧ n = 0 ∧ cap = 0 ∨ ∃ β off, av = some ⟨β, off, none⟩) (h1 : l ≤ n) (h2 : n ≤ cap) :
    ∃ ad : Option Addr, (∀ W, (Instr.slice T (.slice av n cap) (some (.int .i64 (l : Int))) none none).run Try.prog W = .ok (.slice ad (n - l) (cap - l)) W) ∧ (ad = none → n - l = 0 ∧ cap - l = 0) ∧ (l < n → ∀ β off, av = some ⟨β, off, none⟩ → ad = some ⟨β, off + l * size, none⟩) := by
  have he : Try.prog.elem T = E := by simp [Program.elem, hu]
  have hu' : Try.prog.underlying T = some (.slice (Try.prog.elem T)) := by rw [he]; exact hu
  refine ⟨if cap = l then av else av.map (·.add (l * size)), fun W => ?_, fun h3 => ?_, fun h3 β off h4 => ?_⟩
  · rw [run_slice_l (P := Try.prog) (w := W) T av n cap hu' .i64 (l : Int) (by omega) (by omega), he]
    simp [sizeOf, typeInfo, hi, hz, Result.andThen, sliced]
  · rcases hav with ⟨rfl, rfl, rfl⟩ | ⟨β, off, rfl⟩
    · omega
    · split at h3 <;> simp at h3
  · subst h4
    rw [if_neg (by omega), Option.map_some, Addr.add_mid]
theorem bel_grownM {w w' : World} (h : Below w.heap.size w w') (row : Option Nat) : w.grownBy w' row := ⟨h.os, h.tape, h.output, h.size, fun i hi _ => h.block i hi⟩
theorem own_prefixM {w : World} {B g c n size : Nat} {e : TypeId} {xs : List Value} (h : w.ownsRow B e size (.slice (some ⟨g, 0, none⟩) n c) n xs) (k : Nat) (hk : k ≤ n) : w.ownsRow B e size (.slice (some ⟨g, 0, none⟩) k c) k (xs.take (k * size)) := by
  have h0 := h.1
  have hkn : k * size ≤ n * size := Nat.mul_le_mul_right _ hk
  rcases h.2 with ⟨h', _⟩ | ⟨g', cap', cur, h', hb, hg, hnc, hcm, hcs, htake⟩
  · cases h'
  · injection h' with h1 h2 h3
    injection h1 with h1
    injection h1 with h1
    subst h1 h3
    refine ⟨by rw [List.length_take, h0]; omega, Or.inr ⟨g, c, cur, rfl, hb, hg, by omega, hcm, hcs, ?_⟩⟩
    rw [← htake, List.take_take, Nat.min_eq_left hkn]
theorem flatR_takeM : ∀ (l : List R5) (k : Nat), (flatR l).take (k * 5) = flatR (l.take k)
  | [], k => by simp [flatR]
  | r :: l, 0 => by simp [flatR]
  | r :: l, k + 1 => by
    have h1 : flatR (r :: l) = encR r ++ flatR l := rfl
    have h2 : flatR ((r :: l).take (k + 1)) = encR r ++ flatR (l.take k) := rfl
    rw [h1, h2, List.take_append, ← flatR_takeM l k, encR_len, List.take_of_length_le (by rw [encR_len]; omega), show (k + 1) * 5 - 5 = k * 5 by omega]
theorem flatR_getM (l : List R5) (j i : Nat) (r : R5) (hj : l[j]? = some r) (hi : i < 5) : (flatR l)[j * 5 + i]? = (encR r)[i]? := by
  rw [flatR, flatMap_get encR 5 encR_len (by omega), show (j * 5 + i) / 5 = j by omega, show (j * 5 + i) % 5 = i by omega, hj]; rfl
theorem own_atM {w : World} {B g n c : Nat} {l : List R5} (h : w.ownsRow B 30 5 (.slice (some ⟨g, 0, none⟩) n c) n (flatR l)) (j : Nat) (xn : ByteArray) (xt xc xu : Int) (xd : ByteArray) (hj : l[j]? = some ⟨⟨xn, xt, xc⟩, xu, xd⟩) : w.cell? ⟨g, j * 5, none⟩ = some (.string xn) ∧ w.cell? ⟨g, j * 5 + 1, none⟩ = some (.int .i64 xt) ∧ w.cell? ⟨g, j * 5 + 2, none⟩ = some (.int .i64 xc) ∧ w.cell? ⟨g, j * 5 + 3, none⟩ = some (.int .i64 xu) ∧ w.cell? ⟨g, j * 5 + 4, none⟩ = some (.string xd) :=
  ⟨ownsRow_at h (j * 5) _ (flatR_getM l j 0 _ hj (by omega)), ownsRow_at h (j * 5 + 1) _ (flatR_getM l j 1 _ hj (by omega)), ownsRow_at h (j * 5 + 2) _ (flatR_getM l j 2 _ hj (by omega)), ownsRow_at h (j * 5 + 3) _ (flatR_getM l j 3 _ hj (by omega)), ownsRow_at h (j * 5 + 4) _ (flatR_getM l j 4 _ hj (by omega))⟩
theorem zero_rrM (m : Nat) : (Builtin.zeroCells (Value.agg #[.string ⟨#[]⟩, .int .i64 0, .int .i64 0, .int .i64 0, .string ⟨#[]⟩]).cells m).toList = flatR (List.replicate m rr0) := by
  have hc : (Value.agg #[.string ⟨#[]⟩, .int .i64 0, .int .i64 0, .int .i64 0, .string ⟨#[]⟩]).cells = #[.string ⟨#[]⟩, .int .i64 0, .int .i64 0, .int .i64 0, .string ⟨#[]⟩] := by simp [Value.cells]
  have h := made_rr m
  rw [hc] at h ⊢
  exact h
theorem flatR_oneM {l : List R5} {u : Value} (h : u ∈ flatR l) : u.oneCell' = true := by
  simp only [flatR, List.mem_flatMap] at h
  obtain ⟨r, _, h⟩ := h
  simp only [encR, List.mem_cons, List.not_mem_nil, or_false] at h
  rcases h with rfl | rfl | rfl | rfl | rfl <;> rfl
/-- clear(s[k:]) of a row of records that is owned. -/
theorem clear_tailM {w : World} {B g n c : Nat} {l : List R5} (h : w.ownsRow B 30 5 (.slice (some ⟨g, 0, none⟩) n c) n (flatR l)) (k : Nat) (hk : k < n) (ad : Option Addr) (had : ad = some ⟨g, 0 + k * 5, none⟩) :
    ∃ w', (∀ ty, (Builtin.clear_ #[22] ty #[.slice ad (n - k) (c - k)]).run Try.prog w = .ok (.tuple #[]) w') ∧ w'.ownsRow B 30 5 (.slice (some ⟨g, 0, none⟩) k c) k (flatR (l.take k)) ∧ w.grownBy w' (some g) := by
  subst had
  have h0 := h.1
  have hz := zero_rrM (n - k)
  rcases h.2 with ⟨h', _⟩ | ⟨g', cap', cur, h', hb, hg, hnc, hcm, hcs, htake⟩
  · cases h'
  injection h' with h1 h2 h3
  injection h1 with h1
  injection h1 with h1
  subst h1 h3
  have hzl : (flatR (List.replicate (n - k) rr0)).length = (n - k) * 5 := by rw [flatR_len, List.length_replicate]
  have hst := run_storeCells_at (P := Try.prog) g (0 + k * 5) 30 (flatR (List.replicate (n - k) rr0)) 0 cur w hg (by rw [hzl]; omega) (fun u hu => flatR_oneM hu)
  obtain ⟨nr, hnr⟩ : ∃ nr, nr = (List.take (0 + k * 5 + 0) cur.toList ++ flatR (List.replicate (n - k) rr0) ++ List.drop (0 + k * 5 + 0 + (flatR (List.replicate (n - k) rr0)).length) cur.toList).toArray := ⟨_, rfl⟩
  rw [← hnr] at hst
  have hnl : nr.size = c * 5 := by
    rw [hnr]
    simp only [List.size_toArray, List.length_append, List.length_take, List.length_drop, hzl, Array.length_toList, hcs]
    omega
  have hnt : nr.toList.take (k * 5) = flatR (l.take k) := by
    rw [hnr, List.append_assoc, List.take_append_of_le_length (by rw [List.length_take, Array.length_toList]; omega), ← flatR_takeM, ← htake, List.take_take, List.take_take, Nat.zero_add, Nat.add_zero, Nat.min_self, Nat.min_eq_left (by omega)]
  obtain ⟨m, hm⟩ : ∃ m, n - k = m + 1 := ⟨n - k - 1, by omega⟩
  refine ⟨w.setRow g nr, fun ty => ?_, ⟨?_, Or.inr ⟨g, c, nr, rfl, hb, setRow_heap w g cur nr _ _ hg, by omega, hcm, hnl, hnt⟩⟩, ⟨rfl, rfl, rfl, by simp [World.setRow], fun j _ hj => setRow_other w g j _ (fun e => hj (by rw [e]))⟩⟩
  · clear hnr hnl hnt hzl
    generalize flatR (List.replicate (n - k) rr0) = fr at hz hst
    rw [hm] at hz ⊢
    rw [Nat.zero_add] at hst
    simp [Builtin.clear_, run_underlying Try.underlying22, Try.zeroValue30, hz, hst]
  · have : l.length = n := by rw [flatR_len] at h0; omega
    rw [flatR_len, List.length_take]; omega
theorem info_rrM : ∃ i, Try.prog.info? 30 = some i ∧ i.zero = some (Value.agg #[.string ⟨#[]⟩, .int .i64 0, .int .i64 0, .int .i64 0, .string ⟨#[]⟩]) ∧ i.size = 5 := by
  obtain ⟨i0, hi, hz0, hz1, hz2⟩ := info_parts infoRR
  exact ⟨i0, hi, hz0, hz1⟩
theorem eqlM (x y : R5) (W : World) : (binOp .eql 30 (.agg #[.string x.k.n, .int .i64 x.k.t, .int .i64 x.k.c, .int .i64 x.ttl, .string x.d]) (.agg #[.string y.k.n, .int .i64 y.k.t, .int .i64 y.k.c, .int .i64 y.ttl, .string y.d])).run Try.prog W = .ok (.bool (decide (x = y))) W := by
  rw [rr_eqlM]
  congr 2
  refine Bool.eq_iff_iff.2 ((rr_sameM _ _ _ _ _ _ _ _ _ _).trans ?_)
  rw [decide_eq_true_eq]
theorem neqM (x y : R5) (W : World) : (binOp .neq 30 (.agg #[.string x.k.n, .int .i64 x.k.t, .int .i64 x.k.c, .int .i64 x.ttl, .string x.d]) (.agg #[.string y.k.n, .int .i64 y.k.t, .int .i64 y.k.c, .int .i64 y.ttl, .string y.d])).run Try.prog W = .ok (.bool (!decide (x = y))) W := by
  rw [rr_neqM]
  congr 3
  refine Bool.eq_iff_iff.2 ((rr_sameM _ _ _ _ _ _ _ _ _ _).trans ?_)
  rw [decide_eq_true_eq]
set_option maxRecDepth 100000 in
set_option maxHeartbeats 8000000 in
theorem compactM_any (B g n c : Nat) (l : List R5) (w : World) (hown : w.ownsRow B 30 5 (.slice (some ⟨g, 0, none⟩) n c) n (flatR l)) (hn : n ≤ 1000000) :
    Calls Try.prog 48 #[.slice (some ⟨g, 0, none⟩) n c] w fun e w' => ∃ m, m = (dd l).length ∧ e = .returned (.slice (some ⟨g, 0, none⟩) m c) ∧ w'.ownsRow B 30 5 (.slice (some ⟨g, 0, none⟩) m c) m (flatR (dd l)) ∧ w.grownBy w' (some g) := by
  have hl : l.length = n := by have := hown.1; rw [flatR_len] at this; omega
  have hnc : n ≤ c := by
    rcases hown.2 with ⟨hv, _⟩ | ⟨g', cap, cur, hv, _, _, hnc, _⟩
    · cases hv
    · injection hv with h1 h2 h3
      subst h3; exact hnc
  have HL := Lib.hid hl
  have HC := Lib.hid hnc
  have HO := Lib.hid hown
  have HG := Lib.hid (bel_grownM (Below.refl w.heap.size w) (some g))
  by_cases h2 : n < 2
  · have hd := dd_short l (by omega)
    have d1 : decide (n < 2) = true := dT h2
    have d2 : decide ((n : Int) < 2) = true := dT (by omega)
    have HP := Lib.hid (show ∃ m, m = (dd l).length ∧ Ending.returned (.slice (some ⟨g, 0, none⟩) n c) = .returned (.slice (some ⟨g, 0, none⟩) m c) ∧ w.ownsRow B 30 5 (.slice (some ⟨g, 0, none⟩) m c) m (flatR (dd l)) ∧ w.grownBy w (some g) from ⟨n, by rw [hd, hl], rfl, by rw [hd]; exact hown, HG.out⟩)
    clear hd hl hnc hown h2
    go_enter Try.func48, Try.ntmps48
    go_wp2
    go_ret
    exact HP.out
  have d1 : decide (n < 2) = false := dF h2
  have d2 : decide ((n : Int) < 2) = false := dF (by omega)
  have HN2 := Lib.hid (show 2 ≤ n by omega)
  obtain ⟨i0, hi, hz0, hz1⟩ := info_rrM
  have HI := Lib.hid hi
  have HZ1 := Lib.hid hz1
  clear hl hnc hown h2 hi hz0 hz1
  go_enter Try.func48, Try.ntmps48
  go_wp2_with fail
  clear d1 d2
  go_loopw [3] (fun i wr => ∃ k : Nat, 1 ≤ k ∧ k ≤ n ∧ i = .int .i64 k ∧ Hid (∀ j, j + 1 < k → l[j]? ≠ l[j + 1]?) ∧ Hid (wr.ownsRow B 30 5 (.slice (some ⟨g, 0, none⟩) n c) n (flatR l)) ∧ Hid (w.grownBy wr (some g))) (fun i _ => n - (intOf i).toNat)
  case atStart => exact ⟨1, Nat.le_refl _, by have := HN2.out; omega, rfl, Lib.hid (fun j hj => by omega), HO, HG⟩
  case round =>
    obtain ⟨k, hk1, hk, rfl, hne, ho, hgr⟩ := hrel
    by_cases hlt : k < n
    · obtain ⟨k0, rfl⟩ : ∃ k0, k = k0 + 1 := ⟨k - 1, by omega⟩
      obtain ⟨⟨⟨yn, yt, yc⟩, yu, yd⟩, hy⟩ : ∃ y, l[k0]? = some y := ⟨_, List.getElem?_eq_getElem (by rw [HL.out]; omega)⟩
      obtain ⟨⟨⟨xn, xt, xc⟩, xu, xd⟩, hx⟩ : ∃ x, l[k0 + 1]? = some x := ⟨_, List.getElem?_eq_getElem (by rw [HL.out]; omega)⟩
      have HY := Lib.hid hy
      have HX := Lib.hid hx
      obtain ⟨k1, hk1e⟩ : ∃ k1, k0 + 1 = k1 := ⟨_, rfl⟩
      have HK1 := Lib.hid hk1e
      have hbd := (Below.refl wr.heap.size wr).drew
      have HO2 := Lib.hid (own_below' ho.out hbd)
      have HG2 := Lib.hid (hgr.out.trans (bel_grownM hbd (some g)))
      have C1 := Lib.hid (own_atM HO2.out k1 xn xt xc xu xd (by rw [← hk1e]; exact hx))
      have C0 := Lib.hid (own_atM HO2.out k0 yn yt yc yu yd hy)
      rw [hk1e] at hlt ⊢
      have f1 : (k1 : Int) - 1 = (k0 : Int) := by omega
      have f2 : IntKind.i64.wrap (k0 : Int) = (k0 : Int) := by have := hn; rw [IntKind.wrap_i64]; omega
      have i0' : (0 : Int) ≤ (k0 : Int) := by omega
      have i1 : (0 : Int) ≤ (k1 : Int) := by omega
      have i2 : (k1 : Int) < (n : Int) := by omega
      have i3 : (k0 : Int) < (n : Int) := by omega
      have HLT := Lib.hid hlt
      obtain ⟨v, hv⟩ : ∃ v, decide ((⟨⟨xn, xt, xc⟩, xu, xd⟩ : R5) = ⟨⟨yn, yt, yc⟩, yu, yd⟩) = v := ⟨_, rfl⟩
      have HV := Lib.hid hv
      have hE : ∀ W, (binOp .eql 30 (.agg #[.string xn, .int .i64 xt, .int .i64 xc, .int .i64 xu, .string xd]) (.agg #[.string yn, .int .i64 yt, .int .i64 yc, .int .i64 yu, .string yd])).run Try.prog W = .ok (.bool v) W := fun W => by rw [← hv]; exact eqlM ⟨⟨xn, xt, xc⟩, xu, xd⟩ ⟨⟨yn, yt, yc⟩, yu, yd⟩ W
      clear hx hy hbd hk1e ho hgr hk hk1 hv
      go_upto_region 6 with (fail)
      refine wp_region_held_drew (S := (fun wx => (wx.cell? ⟨g, k1 * 5, none⟩ = some (.string xn) ∧ wx.cell? ⟨g, k1 * 5 + 1, none⟩ = some (.int .i64 xt) ∧ wx.cell? ⟨g, k1 * 5 + 2, none⟩ = some (.int .i64 xc) ∧ wx.cell? ⟨g, k1 * 5 + 3, none⟩ = some (.int .i64 xu) ∧ wx.cell? ⟨g, k1 * 5 + 4, none⟩ = some (.string xd)) ∧ (wx.cell? ⟨g, k0 * 5, none⟩ = some (.string yn) ∧ wx.cell? ⟨g, k0 * 5 + 1, none⟩ = some (.int .i64 yt) ∧ wx.cell? ⟨g, k0 * 5 + 2, none⟩ = some (.int .i64 yc) ∧ wx.cell? ⟨g, k0 * 5 + 3, none⟩ = some (.int .i64 yu) ∧ wx.cell? ⟨g, k0 * 5 + 4, none⟩ = some (.string yd)))) (by kernel_rfl) (⟨C1.out, C0.out⟩) (fun hHeld => ?_)
      refine Plan.of [0, 1, 2, 3, 4, 5, 6, 7, 8, 9] ?_
      iterate 10 (refine Plan.w (v := ?_) rfl hHeld (by rfl) ?_ ?_; rotate_left; (focus (intro w hSw; (try dsimp only at hSw); obtain ⟨⟨s0, s1, s2, s3, s4⟩, t0, t1, t2, t3, t4⟩ := hSw; go_simp; try with_reducible rfl)); try simp only [Act.put, List.setIfInBounds_toArray, List.set_cons_zero, List.set_cons_succ])
      refine Plan.fin ?_
      refine wpAnyH_done (by kernel_rfl) ?_ _
      clear hHeld C1 C0 f1 f2 i0' i3 hE
      cases v
      case false =>
        have hxy : ¬ (⟨⟨yn, yt, yc⟩, yu, yd⟩ : R5) = ⟨⟨xn, xt, xc⟩, xu, xd⟩ := fun e => of_decide_eq_false HV.out e.symm
        have HNE := Lib.hid (show ∀ j, j + 1 < k1 + 1 → l[j]? ≠ l[j + 1]? from fun j hj => by
          by_cases h : j = k0
          · subst h
            rw [HY.out, HX.out]
            intro e
            exact hxy (Option.some.inj e)
          · exact hne.out j (by have := HK1.out; omega))
        clear hxy hne
        go_wp2
        go_roundw
        case rel => exact ⟨k1 + 1, by omega, by have := HLT.out; omega, by have := HLT.out; go_num, HNE, HO2, HG2⟩
        case measure => have := HLT.out; simp [intOf]; omega
      have hxy : (⟨⟨yn, yt, yc⟩, yu, yd⟩ : R5) = ⟨⟨xn, xt, xc⟩, xu, xd⟩ := (of_decide_eq_true HV.out).symm
      have HS := Lib.hid (show CmI l (k0 + 2) (k0 + 1) l from CmI.start (fun j hj => hne.out j (by have := HK1.out; omega)) HY.out HX.out hxy)
      have hck : ¬ c = k1 := by have := HC.out; have := HLT.out; omega
      clear hxy hne
      go_wp2_with fail
      obtain ⟨n1, hn1⟩ : ∃ x, n - k1 = x := ⟨_, rfl⟩
      obtain ⟨c1, hc1⟩ : ∃ x, c - k1 = x := ⟨_, rfl⟩
      have HN1 := Lib.hid hn1
      rw [hn1, hc1]
      have HLE := Lib.hid (show l.length = n from HL.out)
      clear hn1 hc1 hck HY HX
      go_loopw [3, 5] (fun i j wr => ∃ (kw k2 : Nat) (C : List R5), 1 ≤ k2 ∧ k2 ≤ n1 ∧ kw < n ∧ i = .int .i64 kw ∧ j = .int .i64 k2 ∧ Hid (CmI l (k1 + k2) kw C) ∧ Hid (wr.ownsRow B 30 5 (.slice (some ⟨g, 0, none⟩) n c) n (flatR C)) ∧ Hid (w.grownBy wr (some g))) (fun _ j _ => n1 - (intOf j).toNat)
      case atStart => exact ⟨k1, 1, l, Nat.le_refl _, by have := HN1.out; have := HLT.out; omega, HLT.out, rfl, rfl, Lib.hid (by have h := HS.out; have := HK1.out; rw [show k1 + 1 = k0 + 2 by omega, ← HK1.out]; exact h), HO2, HG2⟩
      case round =>
        obtain ⟨kw, k2, C, hk21, hk2, hkw, rfl, rfl, hcm, ho, hgr⟩ := hrel
        by_cases hlt2 : k2 < n1
        · obtain ⟨k3, rfl⟩ : ∃ k3, k2 = k3 + 1 := ⟨k2 - 1, by omega⟩
          obtain ⟨⟨⟨vn, vt, vc⟩, vu, vd⟩, hy2⟩ : ∃ y, l[k1 + k3]? = some y := ⟨_, List.getElem?_eq_getElem (by rw [HLE.out]; have := HN1.out; omega)⟩
          obtain ⟨⟨⟨un, ut, uc⟩, uu, ud⟩, hx2⟩ : ∃ x, l[k1 + k3 + 1]? = some x := ⟨_, List.getElem?_eq_getElem (by rw [HLE.out]; have := HN1.out; omega)⟩
          have HY2 := Lib.hid hy2
          have HX2 := Lib.hid hx2
          have hcx := (hcm.out.rest (k1 + k3 + 1) (by omega)).trans hx2
          have hcy := (hcm.out.rest (k1 + k3) (by omega)).trans hy2
          obtain ⟨k4, hk4⟩ : ∃ k4, k3 + 1 = k4 := ⟨_, rfl⟩
          have HK4 := Lib.hid hk4
          have hbd := (Below.refl wr.heap.size wr).drew
          have HO2 := Lib.hid (own_below' ho.out hbd)
          have HG2 := Lib.hid (hgr.out.trans (bel_grownM hbd (some g)))
          have C1 := Lib.hid (by have h := own_atM HO2.out (k1 + k4) un ut uc uu ud (by rw [← hk4]; exact hcx); rw [Nat.add_mul] at h; exact h)
          have C0 := Lib.hid (by have h := own_atM HO2.out (k1 + k3) vn vt vc vu vd hcy; rw [Nat.add_mul] at h; exact h)
          rw [hk4] at hlt2 ⊢
          have f1 : (k4 : Int) - 1 = (k3 : Int) := by omega
          have f2 : IntKind.i64.wrap (k3 : Int) = (k3 : Int) := by have := hn; have := HN1.out; rw [IntKind.wrap_i64]; omega
          have i0' : (0 : Int) ≤ (k3 : Int) := by omega
          have i1 : (0 : Int) ≤ (k4 : Int) := by omega
          have i2 : (k4 : Int) < (n1 : Int) := by omega
          have i3 : (k3 : Int) < (n1 : Int) := by omega
          have HLT2 := Lib.hid hlt2
          have HKW := Lib.hid hkw
          obtain ⟨v, hv⟩ : ∃ v, decide ((⟨⟨un, ut, uc⟩, uu, ud⟩ : R5) = ⟨⟨vn, vt, vc⟩, vu, vd⟩) = v := ⟨_, rfl⟩
          have HV := Lib.hid hv
          have hE : ∀ W, (binOp .neq 30 (.agg #[.string un, .int .i64 ut, .int .i64 uc, .int .i64 uu, .string ud]) (.agg #[.string vn, .int .i64 vt, .int .i64 vc, .int .i64 vu, .string vd])).run Try.prog W = .ok (.bool (!v)) W := fun W => by rw [← hv]; exact neqM ⟨⟨un, ut, uc⟩, uu, ud⟩ ⟨⟨vn, vt, vc⟩, vu, vd⟩ W
          clear hx2 hy2 hcx hcy hbd hk4 ho hgr hk2 hk21 hv
          go_upto_region 11 with (fail)
          refine wp_region_held_drew (S := (fun wx => (wx.cell? ⟨g, k1 * 5 + k4 * 5, none⟩ = some (.string un) ∧ wx.cell? ⟨g, k1 * 5 + k4 * 5 + 1, none⟩ = some (.int .i64 ut) ∧ wx.cell? ⟨g, k1 * 5 + k4 * 5 + 2, none⟩ = some (.int .i64 uc) ∧ wx.cell? ⟨g, k1 * 5 + k4 * 5 + 3, none⟩ = some (.int .i64 uu) ∧ wx.cell? ⟨g, k1 * 5 + k4 * 5 + 4, none⟩ = some (.string ud)) ∧ (wx.cell? ⟨g, k1 * 5 + k3 * 5, none⟩ = some (.string vn) ∧ wx.cell? ⟨g, k1 * 5 + k3 * 5 + 1, none⟩ = some (.int .i64 vt) ∧ wx.cell? ⟨g, k1 * 5 + k3 * 5 + 2, none⟩ = some (.int .i64 vc) ∧ wx.cell? ⟨g, k1 * 5 + k3 * 5 + 3, none⟩ = some (.int .i64 vu) ∧ wx.cell? ⟨g, k1 * 5 + k3 * 5 + 4, none⟩ = some (.string vd)))) (by kernel_rfl) (⟨C1.out, C0.out⟩) (fun hHeld => ?_)
          refine Plan.of [0, 1, 2, 3, 4, 5, 6, 7, 8, 9] ?_
          iterate 10 (refine Plan.w (v := ?_) rfl hHeld (by rfl) ?_ ?_; rotate_left; (focus (intro w hSw; (try dsimp only at hSw); obtain ⟨⟨s0, s1, s2, s3, s4⟩, t0, t1, t2, t3, t4⟩ := hSw; go_simp; try with_reducible rfl)); try simp only [Act.put, List.setIfInBounds_toArray, List.set_cons_zero, List.set_cons_succ])
          refine Plan.fin ?_
          refine wpAnyH_done (by kernel_rfl) ?_ _
          clear hHeld C0 f1 f2 i0' i3 hE
          cases v
          case true =>
            have hxy : (⟨⟨vn, vt, vc⟩, vu, vd⟩ : R5) = ⟨⟨un, ut, uc⟩, uu, ud⟩ := (of_decide_eq_true HV.out).symm
            have HD := Lib.hid (show CmI l (k1 + (k4 + 1)) kw C by
              have h := CmI.skip (m := k1 + k3) (by have h := hcm.out; exact h) HY2.out HX2.out hxy
              have := HK4.out
              rw [show k1 + (k4 + 1) = k1 + k3 + 2 by omega]; exact h)
            have hb4 : (k4 : Int) ≤ 1000000 := by have := HN1.out; have := HLT2.out; omega
            clear hxy hcm C1 HY2 HX2
            go_wp2
            go_roundw
            case rel => exact ⟨kw, k4 + 1, C, by omega, by have := HLT2.out; omega, HKW.out, rfl, by have := HLT2.out; have := HN1.out; have := hn; go_num, HD, HO2, HG2⟩
            case measure => have := HLT2.out; simp [intOf]; omega
          have hxy : ¬ (⟨⟨vn, vt, vc⟩, vu, vd⟩ : R5) = ⟨⟨un, ut, uc⟩, uu, ud⟩ := fun e => of_decide_eq_false HV.out e.symm
          have HD := Lib.hid (show CmI l (k1 + (k4 + 1)) (kw + 1) (C.set kw ⟨⟨un, ut, uc⟩, uu, ud⟩) by
            have h := CmI.keep (m := k1 + k3) (by have h := hcm.out; exact h) HY2.out HX2.out hxy
            have := HK4.out
            rw [show k1 + (k4 + 1) = k1 + k3 + 2 by omega]; exact h)
          have HKW2 := Lib.hid (show kw + 1 < n by have h := HD.out.less; have := HN1.out; have := HLT2.out; omega)
          have i5 : (0 : Int) ≤ (kw : Int) := by omega
          have i6 : (kw : Int) < (n : Int) := by omega
          have HCL := Lib.hid (show kw < C.length by rw [hcm.out.len, HLE.out]; exact HKW.out)
          clear hxy hcm HY2 HX2
          obtain ⟨wd, hwd⟩ : ∃ z, wr.drew = z := ⟨_, rfl⟩
          rw [hwd] at HO2 HG2 C1 ⊢
          clear hwd
          obtain ⟨v0, v1, v2, v3, v4, y0, y1, y2, y3, y4⟩ := own_cells5 HO2.out kw HKW.out
          have g0 := HO2.out.frozenAt (kw * 5)
          have g1 := HO2.out.frozenAt (kw * 5 + 1)
          have g2 := HO2.out.frozenAt (kw * 5 + 2)
          have g3 := HO2.out.frozenAt (kw * 5 + 3)
          have g4 := HO2.out.frozenAt (kw * 5 + 4)
          obtain ⟨c0', c1', c2', c3', c4'⟩ := C1.out
          have hb4 : (k4 : Int) ≤ 1000000 := by have := HN1.out; have := HLT2.out; omega
          have HO4 := Lib.hid (own_set_rr HO2.out kw HCL.out ⟨⟨un, ut, uc⟩, uu, ud⟩)
          have HG4 := Lib.hid (HG2.out.trans (((((grown_cell _ g (kw * 5) (.string un)).trans (grown_cell _ g (kw * 5 + 1) (.int .i64 ut))).trans (grown_cell _ g (kw * 5 + 2) (.int .i64 uc))).trans (grown_cell _ g (kw * 5 + 3) (.int .i64 uu))).trans (grown_cell _ g (kw * 5 + 4) (.string ud))))
          clear HO2 HG2 C1
          go_wp2
          go_roundw
          case rel => exact ⟨kw + 1, k4 + 1, C.set kw ⟨⟨un, ut, uc⟩, uu, ud⟩, by omega, by have := HLT2.out; omega, HKW2.out, by have := HKW2.out; have := hn; go_num, by have := HLT2.out; have := HN1.out; have := hn; go_num, HD, HO4, HG4⟩
          case measure => have := HLT2.out; simp [intOf]; omega
        · have hk2n : k1 + k2 = n := by have := HN1.out; have := HLT.out; omega
          have hd := hcm.out
          rw [hk2n, ← HLE.out] at hd
          have hp := hd.pre
          have hke := hd.kwe
          rw [List.take_length] at hp hke
          obtain ⟨ad, hrun, hdn, hds⟩ := slice_tailKM Try.underlying22 HI.out HZ1.out (some ⟨g, 0, none⟩) n c kw (Or.inr ⟨g, 0, rfl⟩) (by omega) HC.out
          have had := hds hkw g 0 rfl
          obtain ⟨wz, hcl, hoz, hgz⟩ := clear_tailM ho.out kw hkw ad had
          have hhd := slice_headKM Try.underlying22 HI.out HZ1.out (some ⟨g, 0, none⟩) n c kw (Or.inr ⟨g, 0, rfl⟩) (by have := HC.out; omega)
          rw [hp] at hoz
          have HP := Lib.hid (show ∃ m, m = (dd l).length ∧ Ending.returned (.slice (some ⟨g, 0, none⟩) kw c) = .returned (.slice (some ⟨g, 0, none⟩) m c) ∧ wz.ownsRow B 30 5 (.slice (some ⟨g, 0, none⟩) m c) m (flatR (dd l)) ∧ w.grownBy wz (some g) from ⟨kw, hke, rfl, hoz, hgr.out.trans hgz⟩)
          have i5 : (0 : Int) ≤ (kw : Int) := by omega
          clear hd hp hke ho hgr hds had hdn hoz hgz hcm hk2n
          go_wp2
          go_ret
          exact HP.out
    · have hkn : k = n := by omega
      have hd : dd l = l := by
        have h := dd_same l k (by rw [HL.out]; omega) hne.out
        rwa [hkn, ← HL.out, List.take_length] at h
      have HP := Lib.hid (show ∃ m, m = (dd l).length ∧ Ending.returned (.slice (some ⟨g, 0, none⟩) n c) = .returned (.slice (some ⟨g, 0, none⟩) m c) ∧ wr.ownsRow B 30 5 (.slice (some ⟨g, 0, none⟩) m c) m (flatR (dd l)) ∧ w.grownBy wr (some g) from ⟨n, by rw [hd, HL.out], rfl, by rw [hd]; exact ho.out, hgr.out⟩)
      clear hd hkn hne ho hgr
      go_wp2
      go_ret
      exact HP.out
end Go.Proofs.Ytmhiglhgkgannaa
