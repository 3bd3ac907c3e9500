/- A disk copied: slices.Clone of sectors and of writes, Copy. -/
import Derived.Test.YtocfphijheidbaaDkR
namespace Go.Proofs.Ytocfphijheidbaa
open Go.RowKit

set_option maxRecDepth 100000 in
theorem cloneSec (q n c : Nat) (cs : List Value) (w : World) (h : CellsAt w (some ⟨q, 0, none⟩) (n * 256) cs) (h1 : ∀ u ∈ cs, u.oneCell' = true) (hlen : n ≤ 10000) :
    Calls Try.prog 69 #[.slice (some ⟨q, 0, none⟩) n c] w fun e w' => ∃ v, e = .returned v ∧ w'.ownsRow w.heap.size 131 256 v n cs ∧ Below w.heap.size w w' := by
  obtain ⟨i0, hi, hz0, hz1, hz2⟩ := info_parts infoSec2
  have HH := Lib.hid (CellsAt.below h ((Below.refl w.heap.size w).alloc (Nat.le_refl _) (.cells #[] 131)))
  have HO := Lib.hid (show (w.alloc (.cells #[] 131)).ownsRow w.heap.size 131 256 (.slice (some ⟨w.heap.size, 0, none⟩) 0 0) 0 [] from World.ownsRow_made w #[] 0 (Nat.le_refl _) (Nat.zero_le _) rfl)
  have HB := Lib.hid ((Below.refl w.heap.size w).alloc (Nat.le_refl _) (.cells #[] 131))
  have H1 := Lib.hid h1
  clear h h1
  have he : (binOp .eql 125 (.slice (some ⟨q, 0, none⟩) n c) (.slice none 0 0)).run Try.prog w = .ok (.bool false) w := Lib.run_eql_slice_nil w 125 131 (some ⟨q, 0, none⟩) n c 0 0 Try.underlying125
  go_enter Try.func69, Try.ntmps69
  go_wp2_with (first | (at_builtin; refine append_cellsL rfl _ _ 125 131 rfl i0 zSec 256 256 Try.underlying125 hi hz0 hz1 hz2 zSec_size (by decide) w.heap.size _ 0 [] rfl HO.out (some ⟨q, 0, none⟩) n c cs rfl (fun h => by cases h) HH.out H1.out (by omega) (by decide) (by simp) ?_))
  intro v' w' ho hg
  go_wp2
  go_ret
  exact ⟨v', rfl, ho, HB.out.grown hg (by simp) (fun k hk => (HO.out.lt k hk).1)⟩
set_option maxRecDepth 100000 in
theorem cloneWr (B : Nat) (v : Value) (n : Nat) (cs : List Value) (w : World) (h : w.ownsRow B 134 257 v n cs) (h1 : ∀ u ∈ cs, u.oneCell' = true) (hlen : n ≤ 10000) :
    Calls Try.prog 70 #[v] w fun e w' => ∃ v', e = .returned v' ∧ w'.ownsRow w.heap.size 134 257 v' n cs ∧ Below w.heap.size w w' := by
  obtain ⟨i0, hi, hz0, hz1, hz2⟩ := info_parts infoWr
  obtain ⟨a, c, rfl, hc, hnil⟩ := cellsK_own h
  have H1 := Lib.hid h1
  cases a with
  | none =>
    obtain ⟨rfl, rfl⟩ := hnil rfl
    have hl0 : cs = [] := List.eq_nil_of_length_eq_zero (by have := hc.1; omega)
    subst hl0
    clear h h1 hc hnil
    have he : (binOp .eql 126 (.slice none 0 0) (.slice none 0 0)).run Try.prog w = .ok (.bool true) w := Lib.run_eql_slice_nil w 126 134 none 0 0 0 0 Try.underlying126
    go_enter Try.func70, Try.ntmps70
    go_wp2
    go_ret
    exact ⟨_, rfl, World.ownsRow_nil _ _ _ _, Below.refl _ _⟩
  | some ad =>
    have HH := Lib.hid (CellsAt.below hc ((Below.refl w.heap.size w).alloc (Nat.le_refl _) (.cells #[] 134)))
    have HO := Lib.hid (show (w.alloc (.cells #[] 134)).ownsRow w.heap.size 134 257 (.slice (some ⟨w.heap.size, 0, none⟩) 0 0) 0 [] from World.ownsRow_made w #[] 0 (Nat.le_refl _) (Nat.zero_le _) rfl)
    have HB := Lib.hid ((Below.refl w.heap.size w).alloc (Nat.le_refl _) (.cells #[] 134))
    clear h h1 hc hnil
    have he : (binOp .eql 126 (.slice (some ad) n c) (.slice none 0 0)).run Try.prog w = .ok (.bool false) w := Lib.run_eql_slice_nil w 126 134 (some ad) n c 0 0 Try.underlying126
    go_enter Try.func70, Try.ntmps70
    go_wp2_with (first | (at_builtin; refine append_cellsL rfl _ _ 126 134 rfl i0 zWr 257 264 Try.underlying126 hi hz0 hz1 hz2 zWr_size (by decide) w.heap.size _ 0 [] rfl HO.out (some ad) n c cs rfl (fun h => by cases h) HH.out H1.out (by omega) (by decide) (by simp) ?_))
    intro v' w' ho hg
    go_wp2
    go_ret
    exact ⟨v', rfl, ho, HB.out.grown hg (by simp) (fun k hk => (HO.out.lt k hk).1)⟩
theorem own_shp {w : World} {B n size : Nat} {e : TypeId} {v : Value} {xs : List Value} (h : w.ownsRow B e size v n xs) (hn : n ≠ 0) : ∃ g c, v = .slice (some ⟨g, 0, none⟩) n c ∧ B ≤ g ∧ g < w.heap.size := by
  rcases h.2 with ⟨_, h1⟩ | ⟨g, cap, cur, rfl, hb, hg, _⟩
  · exact absurd h1 hn
  · exact ⟨g, cap, rfl, hb, (Array.getElem?_eq_some_iff.1 hg).1⟩
theorem arA_own {w : World} {B n size N g c : Nat} {e : TypeId} {f : Nat → Int} (h : w.ownsRow B e size (.slice (some ⟨g, 0, none⟩) n c) n (arL .u8 N f)) : ArA .u8 N w g 0 f := by
  intro j hj
  refine ⟨?_, ?_⟩
  · have h1 := ownsRow_at h j (.int .u8 (f j)) (by simp [arL, hj])
    rw [Nat.zero_add]
    exact h1
  · rcases h.2 with ⟨h1, _⟩ | ⟨g', cap, cur, e1, _, hg, _⟩
    · cases h1
    · injection e1 with e1
      injection e1 with e1
      injection e1 with e1 _
      subst e1
      simp [World.frozen?, hg]
theorem arA_cells {w : World} {q n N : Nat} {f : Nat → Int} (h : ArA .u8 N w q 0 f) (hq : q < w.heap.size) (hN : N = n) : CellsAt w (some ⟨q, 0, none⟩) n (arL .u8 N f) :=
  ⟨by rw [arL_length, hN], Or.inr ⟨q, 0, rfl, hq, h.range⟩⟩
def Held (q : Nat) (cs : List Value) (w : World) : Prop := DC w q cs ∧ q < w.heap.size
theorem Held.below {q : Nat} {cs : List Value} {w w' : World} (h : Held q cs w) (hb : Below w.heap.size w w') : Held q cs w' := ⟨h.1.kept (hb.block q h.2), Nat.lt_of_lt_of_le h.2 hb.size⟩
theorem Held.other {q p i : Nat} {cs : List Value} {w : World} (h : Held q cs w) (hp : q ≠ p) (v : Value) : Held q cs (w.setCell ⟨p, i, none⟩ v) := ⟨h.1.kept (Below.heap_setCell _ _ _ _ hp), by simpa using h.2⟩
theorem Held.set {q i : Nat} {cs : List Value} {w : World} (h : Held q cs w) (hi : i < cs.length) (v : Value) : Held q (cs.set i v) (w.setCell ⟨q, i, none⟩ v) := ⟨h.1.set i hi v, by simpa using h.2⟩
theorem flatP_one (P : List (Nat × List UInt8)) : ∀ u ∈ flatP P, u.oneCell' = true := by
  intro u hu
  obtain ⟨x, _, hx⟩ := List.mem_flatMap.1 hu
  exact wr_one _ _ u hx
/-- A copy, out of its parts. -/
theorem copy_dk {w : World} {q1 ga ca gb cb Ba Bb Bp Bm : Nat} {vp vm : Value} {s : DkP} (hW : DkW s)
    (hc : Held q1 [.slice (some ⟨ga, 0, none⟩) s.n ca, .slice (some ⟨gb, 0, none⟩) s.n cb, vp, .bool s.down, .int .i64 (s.wr : Int), .int .i64 s.fall, vm] w)
    (hd : w.ownsRow Ba 131 256 (.slice (some ⟨ga, 0, none⟩) s.n ca) s.n (arL .u8 (256 * s.n) (secF s.D)))
    (hr : w.ownsRow Bb 131 256 (.slice (some ⟨gb, 0, none⟩) s.n cb) s.n (arL .u8 (256 * s.n) (secF s.R)))
    (hp : w.ownsRow Bp 134 257 vp s.P.length (flatP s.P)) (hm : w.ownsRow Bm 5 1 vm s.mask.length (bc s.mask))
    (o1 : q1 < ga) (o2 : ga < gb) (o3 : gb < Bp) (o4 : ∀ g, vp.ownBlock = some g → g < Bm) (o5 : Bp ≤ Bm) :
    ∃ bs, DkS w bs q1 { s with cd := ca, cr := cb } ∧ ∀ x ∈ bs, q1 ≤ x := by
  have la := (hd.lt ga rfl).2
  have lb := (hr.lt gb rfl).2
  have lp := hp.lt
  have lm := hm.lt
  have hmm : ∀ x, x ∈ q1 :: ga :: gb :: (vp.ownBlock.toList ++ vm.ownBlock.toList) ↔ x = q1 ∨ x = ga ∨ x = gb ∨ vp.ownBlock = some x ∨ vm.ownBlock = some x := by
    intro x
    simp [Option.mem_toList]
  refine ⟨q1 :: ga :: gb :: (vp.ownBlock.toList ++ vm.ownBlock.toList), ⟨ga, gb, vp, vm, ⟨hc.1, arA_own hd, arA_own hr, own_base hp (Nat.zero_le _), ValC.own hm⟩, ⟨⟨(hmm _).2 (Or.inl rfl), (hmm _).2 (Or.inr (Or.inl rfl)), (hmm _).2 (Or.inr (Or.inr (Or.inl rfl))), fun g hg => (hmm _).2 (Or.inr (Or.inr (Or.inr (Or.inl hg)))), fun b off l c e => Or.inr ((hmm _).2 (Or.inr (Or.inr (Or.inr (Or.inr (by rw [e]; rfl))))))⟩, ?_, ⟨by omega, by omega, by omega, fun g hg => by have := (lp g hg).1; omega⟩, ?_⟩, hW⟩, ?_⟩
  · intro b hb
    rcases (hmm b).1 hb with rfl | rfl | rfl | h | h
    · exact hc.2
    · exact la
    · exact lb
    · exact (lp b h).2
    · exact (lm b h).2
  · intro b off l c e
    right
    have h1 := lm b (by rw [e]; rfl)
    refine ⟨by omega, by omega, by omega, fun e2 => ?_⟩
    have := o4 b e2
    omega
  · intro b hb
    rcases (hmm b).1 hb with rfl | rfl | rfl | h | h
    · exact Nat.le_refl _
    · omega
    · omega
    · have := (lp b h).1; omega
    · have := (lm b h).1; omega
theorem frm_own {w w' : World} {q B n size : Nat} {e : TypeId} {v : Value} {xs : List Value} (h : w.ownsRow B e size v n xs) (hf : Frm w w' [q]) (hq : q < B) : w'.ownsRow B e size v n xs :=
  own_kept h (fun g hg => hf.block g (h.lt g hg).2 (by have := (h.lt g hg).1; simp; omega))
end Go.Proofs.Ytocfphijheidbaa
