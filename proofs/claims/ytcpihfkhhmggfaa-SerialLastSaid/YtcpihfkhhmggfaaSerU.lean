/- SerialLast: the walk. -/
import Derived.Test.YtcpihfkhhmggfaaSerT
import Derived.Test.YtcpihfkhhmggfaaAppI
import Derived.Deep.RegionHeld3
namespace Go.Proofs.Ytcpihfkhhmggfaa
open Go.RowKit

theorem last_same {l m : List Int} (h : ∀ n, n ∈ l ↔ n ∈ m) : lastOk l = lastOk m ∧ lastN l = lastN m := by
  have ht : ∀ x, topB x l = topB x m := by
    intro x
    rw [Bool.eq_iff_iff, topB_of, topB_of]
    exact ⟨fun g n hn => g n ((h n).2 hn), fun g n hn => g n ((h n).1 hn)⟩
  have ho : lastOk l = lastOk m := by
    rw [Bool.eq_iff_iff, lastOk_iff, lastOk_iff]
    constructor
    · rintro ⟨h1, x, hx, hx2⟩
      exact ⟨fun n hn => h1 n ((h n).2 hn), x, (h x).1 hx, by rw [← ht]; exact hx2⟩
    · rintro ⟨h1, x, hx, hx2⟩
      exact ⟨fun n hn => h1 n ((h n).1 hn), x, (h x).2 hx, by rw [ht]; exact hx2⟩
  refine ⟨ho, ?_⟩
  cases hl : lastOk l
  · rw [lastN_no hl, lastN_no (by rw [← ho]; exact hl)]
  · obtain ⟨h1, x, hx, hx2⟩ := lastOk_iff.1 hl
    rw [(lastN_of h1 hx hx2).1, (lastN_of (fun n hn => h1 n ((h n).2 hn)) ((h x).1 hx) (by rw [← ht]; exact hx2)).1]

/-- The list turned round by r. -/
def rot (l : List Int) (r k : Nat) : List Int := (List.range k).map fun i => l.getD ((i + r) % l.length) 0
theorem rot_succ (l : List Int) (r k : Nat) : rot l r (k + 1) = rot l r k ++ [l.getD ((k + r) % l.length) 0] := by simp [rot, List.range_succ]
theorem rot_length (l : List Int) (r k : Nat) : (rot l r k).length = k := by simp [rot]
theorem rot_mem (l : List Int) (r : Nat) (hr : r < l.length) (n : Int) : n ∈ l ↔ n ∈ rot l r l.length := by
  simp only [rot, List.mem_map, List.mem_range]
  constructor
  · intro hn
    obtain ⟨j, hj, rfl⟩ := List.getElem_of_mem hn
    refine ⟨(j + (l.length - r)) % l.length, Nat.mod_lt _ (by omega), ?_⟩
    have e : ((j + (l.length - r)) % l.length + r) % l.length = j := by
      rw [Nat.mod_add_mod, show j + (l.length - r) + r = j + l.length by omega, Nat.add_mod_right, Nat.mod_eq_of_lt hj]
    rw [e, List.getD_eq_getElem?_getD, List.getElem?_eq_getElem hj]
    rfl
  · rintro ⟨i, hi, rfl⟩
    have := Nat.mod_lt (i + r) (show 0 < l.length by omega)
    rw [List.getD_eq_getElem?_getD, List.getElem?_eq_getElem this]
    exact List.getElem_mem this

theorem last_two (x : Int) : lastOk [x, x] = mayB x ∧ (mayB x = true → lastN [x, x] = x) := by
  have h : mayB x = true → lastN [x, x] = x ∧ lastOk [x, x] = true := fun h => lastN_of (by simp [h]) (by simp) (by simp [topB])
  refine ⟨?_, fun h1 => (h h1).1⟩
  cases hm : mayB x
  · cases ho : lastOk [x, x]
    · rfl
    · have := (lastOk_iff.1 ho).1 x (by simp)
      rw [hm] at this
      exact absurd this (by simp)
  · exact (h hm).2

def goodTo (l : List Int) (k : Nat) : Bool := (l.take k).all mayB
theorem goodTo_succ (l : List Int) (k : Nat) (hk : k < l.length) : goodTo l (k + 1) = (goodTo l k && (decide (0 ≤ l.getD k 0) && decide (l.getD k 0 < 4294967296))) := by
  unfold goodTo
  rw [List.take_succ_eq_append_getElem hk, List.all_append, List.getD_eq_getElem?_getD, List.getElem?_eq_getElem hk]
  simp [mayB]
theorem goodTo_all (l : List Int) (h : 0 < l.length) : (lastOk l = true → goodTo l l.length = true) ∧ (goodTo l l.length = true → mayB (l.getD 0 0) = true) := by
  unfold goodTo
  rw [List.take_length, List.all_eq_true]
  refine ⟨fun h1 => (lastOk_iff.1 h1).1, fun h1 => h1 _ (head_mem (by intro e; subst e; simp at h))⟩
theorem last_tops {l : List Int} (h : lastOk l = true) (j : Nat) (hj : j < l.length) : l.getD j 0 = lastN l ∨ newerB (lastN l) (l.getD j 0) = true := by
  obtain ⟨h1, x, hx, hx2⟩ := lastOk_iff.1 h
  rw [(lastN_of h1 hx hx2).1, List.getD_eq_getElem?_getD, List.getElem?_eq_getElem hj]
  exact topB_of.1 hx2 _ (List.getElem_mem hj)

theorem two_call (m : Int) (w : World) (t : TypeId) : Calls Try.prog 30 #[.slice (some ⟨w.heap.size, 0, none⟩) 2 2] (w.alloc (.cells #[.int .i64 m, .int .i64 m] t)).drew fun e w' => e = .returned (.tuple #[.int .i64 (lastN [m, m]), .bool (lastOk [m, m])]) ∧ (w.alloc (.cells #[.int .i64 m, .int .i64 m] t)).drew = w' := by
  refine last_some _ 0 2 2 [m, m] _ rfl (by omega) (by omega) ?_
  intro j hj
  rcases (by omega : j = 0 ∨ j = 1) with rfl | rfl <;> simp [World.cell?_alloc_at]

set_option maxRecDepth 100000 in
set_option maxHeartbeats 1000000 in
theorem walkLastNo (turn : Int) (a : Option Addr) (len cap : Nat) (w : World) (h : ¬ (len ≤ 500 ∧ 1 ≤ len ∧ 0 ≤ turn)) :
    Calls Try.prog 12 #[.slice a len cap, .int .i64 turn] w fun e w' => e = .returned (.bool true) ∧ Below w.heap.size w w' := by
  have hd : decide ((500 : Int) < (len : Int)) = true ∨ decide ((500 : Int) < (len : Int)) = false ∧ (decide ((len : Int) < 1) = true ∨ decide ((len : Int) < 1) = false ∧ decide (turn < 0) = true) := by
    simp only [decide_eq_true_eq, decide_eq_false_iff_not]; omega
  have h0 : lastOk [] = false := rfl
  clear h
  rcases hd with t1 | ⟨t1, t2 | ⟨t2, t3⟩⟩
  all_goals
    go_enter Try.func12, Try.ntmps12
    go_wp2_with (first | (go_at_call 27; refine (sfirst _).mono ?_; rintro e w' ⟨rfl, rfl⟩) | (go_at_call 30; refine (last_none _ _ _).mono ?_; rintro e w' ⟨rfl, rfl⟩))
    go_ret
    exact ⟨rfl, Below.refl _ _⟩

set_option maxRecDepth 100000 in
set_option maxHeartbeats 1000000 in
theorem walkLastYes (T : Nat) (b off len cap : Nat) (l : List Int) (w : World) (h1 : len ≤ 500) (h2 : 1 ≤ len) (hl : l.length = len) (hb : b < w.heap.size) (hc : ∀ j, j < len → w.cell? ⟨b, off + j, none⟩ = some (.int .i64 (l.getD j 0))) (hT : T ≤ 9223372036854775807) :
    Calls Try.prog 12 #[.slice (some ⟨b, off, none⟩) len cap, .int .i64 T] w fun e w' => e = .returned (.bool true) ∧ Below w.heap.size w w' := by
  obtain ⟨i0, hi, hz0, hz1, hz2⟩ := info_parts infoInt
  have HI := Lib.hid hi
  have HZ0 := Lib.hid hz0
  have HZ1 := Lib.hid hz1
  have HZ2 := Lib.hid hz2
  have t1 := dF (p := (500 : Int) < (len : Int)) (by omega)
  have t2 := dF (p := (len : Int) < 1) (by omega)
  have t3 := dF (p := (T : Int) < 0) (by omega)
  obtain ⟨r, hr⟩ : ∃ r, T % len = r := ⟨_, rfl⟩
  have hrl : r < len := by rw [← hr]; exact Nat.mod_lt _ (by omega)
  have hri : (T : Int) % (len : Int) = (r : Int) := by rw [← hr]; rfl
  have hg := goodTo_all l (by omega)
  have hs := last_same (rot_mem l r (by omega))
  have htop : ∀ j, j < len → lastOk l = true → l.getD j 0 = lastN l ∨ newerB (lastN l) (l.getD j 0) = true := fun j hj h => last_tops h j (by omega)
  have hno : lastOk l = false → lastN l = 0 := lastN_no
  rw [hl] at hg hs
  have HC := Lib.hid hc
  have HL := Lib.hid hl
  have HG := Lib.hid hg
  have HS := Lib.hid hs
  have HT := Lib.hid htop
  have HNO := Lib.hid hno
  have hc0 := hc 0 (by omega)
  rw [Nat.add_zero] at hc0
  obtain ⟨m, hm⟩ : ∃ m, l.getD 0 0 = m := ⟨_, rfl⟩
  rw [hm] at hc0
  have HM := Lib.hid hm
  have HC0 := Lib.hid hc0
  clear hi hz0 hz1 hz2 hr hg hs htop hno hc hl hm hc0
  go_enter Try.func12, Try.ntmps12
  go_wp2_with fail
  refine (sfirst _).mono ?_; rintro e w' ⟨rfl, rfl⟩
  go_wp2
  go_loopw [7, 8, 9] (fun v g i wr => ∃ k : Nat, k ≤ len ∧ i = .int .i64 k ∧ g = .bool (goodTo l k) ∧ wr.ownsRow w.heap.size 3 1 v k (ic (rot l r k)) ∧ Below w.heap.size w wr) (fun _ _ i _ => len - (intOf i).toNat)
  case atStart => exact ⟨0, Nat.zero_le _, rfl, rfl, World.ownsRow_nil _ _ _ _, Below.refl _ _⟩
  case round =>
    obtain ⟨k, hk, rfl, rfl, hown1, hbel⟩ := hrel
    have HO := Lib.hid hown1
    have HBL := Lib.hid hbel
    have hsz := hbel.size
    clear hown1 hbel
    by_cases hlt : k < len
    · obtain ⟨q, hq⟩ : ∃ q, (k + r) % len = q := ⟨_, rfl⟩
      have hql : q < len := by rw [← hq]; exact Nat.mod_lt _ (by omega)
      have hqi : ((k : Int) + (r : Int)) % (len : Int) = (q : Int) := by rw [← hq]; rfl
      obtain ⟨y, hy⟩ : ∃ y, l.getD q 0 = y := ⟨_, rfl⟩
      obtain ⟨z, hz⟩ : ∃ z, l.getD k 0 = z := ⟨_, rfl⟩
      have hcq : wr.cell? ⟨b, off + q, none⟩ = some (.int .i64 y) := by rw [HBL.out.cell hb, ← hy]; exact HC.out q hql
      have hck : ∀ W, Below w.heap.size w W → W.cell? ⟨b, off + k, none⟩ = some (.int .i64 z) := fun W hW => by rw [hW.cell hb, ← hz]; exact HC.out k hlt
      have hgs := goodTo_succ l k (by rw [HL.out]; exact hlt)
      rw [hz] at hgs
      have hrs := rot_succ l r k
      rw [HL.out, hq, hy] at hrs
      have HGS := Lib.hid hgs
      have HRS := Lib.hid hrs
      have HCK := Lib.hid hck
      clear hq hy hz hgs hrs hck
      go_wp2_with (at_builtin; refine wpList_append_own _ rfl _ _ 22 rfl w.heap.size 3 i0 (.int .i64 0) 1 8 Try.underlying22 HI.out HZ0.out HZ1.out HZ2.out rfl (by decide) _ k _ rfl (HO.out.alloc _) ⟨wr.heap.size, 0, none⟩ 1 1 [.int .i64 y] rfl rfl ?c1 ?c2 ?c3 ?c4 ?c5 ?_)
      case c1 => exact cell_one_new _ _ _
      case c2 => (intro u hu; simp only [List.mem_cons, List.not_mem_nil, or_false] at hu; subst hu; rfl)
      case c3 => unfold maxLen; omega
      case c4 => omega
      case c5 => simp; omega
      intro v' w' hown' hgrow _
      have hbel' := (HBL.out.alloc hsz _).grown hgrow (by simp; omega) (fun k hk => (HO.out.lt k hk).1)
      rw [show ic (rot l r k) ++ [Value.int .i64 y] = ic (rot l r (k + 1)) by rw [HRS.out, ic_append]; rfl] at hown'
      have HO2 := Lib.hid hown'
      have HB2 := Lib.hid hbel'
      have hck := HCK.out w' hbel'
      clear hown' hgrow hbel' hcq
      go_wp2
      all_goals
        go_roundw
        case rel => exact ⟨k + 1, by omega, by go_num, congrArg Value.bool (by rw [HGS.out]; simp [*]), HO2.out, HB2.out⟩
        case measure => simp [intOf]; omega
    · have hkl : k = len := by omega
      subst hkl
      obtain ⟨ok0, hok0⟩ : ∃ x, lastOk l = x := ⟨_, rfl⟩
      obtain ⟨n0, hn0⟩ : ∃ x, lastN l = x := ⟨_, rfl⟩
      obtain ⟨g0, hg0⟩ : ∃ x, goodTo l k = x := ⟨_, rfl⟩
      have s1 := HS.out.1
      have s2 := HS.out.2
      rw [hok0] at s1
      rw [hn0] at s2
      have s1' := s1.symm
      have s2' := s2.symm
      have hgg := HG.out
      rw [hok0, hg0, HM.out] at hgg
      have htop := HT.out
      rw [hok0, hn0] at htop
      have hno := HNO.out
      rw [hok0, hn0] at hno
      obtain ⟨w1', w2'⟩ := last_two m
      have hcase : (ok0 = true ∧ g0 = true ∧ lastOk [m, m] = true ∧ lastN [m, m] = m) ∨ (ok0 = false ∧ n0 = 0 ∧ g0 = true ∧ lastOk [m, m] = true ∧ lastN [m, m] = m) ∨ (ok0 = false ∧ n0 = 0 ∧ g0 = false) := by
        cases ok0
        · cases g0
          · exact Or.inr (Or.inr ⟨rfl, hno rfl, rfl⟩)
          · have hm := hgg.2 rfl
            exact Or.inr (Or.inl ⟨rfl, hno rfl, rfl, by rw [w1', hm], w2' hm⟩)
        · have hg := hgg.1 rfl
          have hm := hgg.2 hg
          exact Or.inl ⟨rfl, hg, by rw [w1', hm], w2' hm⟩
      have HTT := Lib.hid htop
      obtain ⟨at', ct, rfl, _, hrow⟩ := row_of_own HO.out
      have HR := Lib.hid hrow
      have hcm : wr.cell? ⟨b, off, none⟩ = some (.int .i64 m) := by rw [HBL.out.cell hb]; exact HC0.out
      have i0' : (0 : Int) < (k : Int) := by omega
      have i0n : 0 < k := by omega
      clear s1 s2 hgg htop hno w1' w2' hrow
      have hlast1 := fun W (hW : Below w.heap.size w W) => last_some b off k cap l W HL.out (by omega) (by omega) (fun j hj => by rw [hW.cell hb]; exact HC.out j hj)
      have HL1 := Lib.hid hlast1
      clear hlast1
      rcases hcase with ⟨rfl, rfl, c1, c2⟩ | ⟨rfl, rfl, rfl, c1, c2⟩ | ⟨rfl, rfl, rfl⟩
      all_goals
        go_wp2_with fail
        refine (HL1.out _ HBL.out).mono ?_; rintro e w' ⟨rfl, rfl⟩
        go_wp2_with fail
        refine (last_row _ _ _ _ _ HR.out (by omega)).mono ?_; rintro e w' ⟨rfl, rfl⟩
        go_wp2_with fail
        go_region_held3 (fun w' => w'.cell? ⟨b, off, none⟩ = some (.int .i64 m)) (go_keep) (first | (go_at_call 30; refine (two_call _ _ _).mono ?_; rintro e w' ⟨rfl, rfl⟩))
        go_wp2_with fail
      · have hbw : b < wr.heap.size := Nat.lt_of_lt_of_le hb HBL.out.size
        have HB9 := HBL.out
        have HB9' := Lib.hid HB9
        clear HB9
        go_loop [16] (fun i => ∃ j : Nat, j ≤ k ∧ i = .int .i64 j) (fun i => k - (intOf i).toNat)
        case atStart => exact ⟨0, Nat.zero_le _, rfl⟩
        case round =>
          obtain ⟨j, hj, rfl⟩ := hrel
          by_cases hlt : j < k
          · obtain ⟨y, hy⟩ : ∃ y, l.getD j 0 = y := ⟨_, rfl⟩
            have hcell : wr.cell? ⟨b, off + j, none⟩ = some (.int .i64 y) := by rw [HBL.out.cell hb, ← hy]; exact HC.out j hlt
            have htt := HTT.out j hlt (by first | rfl | trivial)
            rw [hy] at htt
            clear hy
            by_cases e1 : y = n0
            · have e2 := nF e1
              clear htt e1
              go_wp2_with (first | (go_at_call 32; refine (newer_any _ _ _).mono ?_; rintro e w' ⟨rfl, rfl⟩))
              go_round
              case rel => exact ⟨j + 1, by omega, by go_num⟩
              case measure => simp [intOf]; omega
            · have e2 := nT e1
              have e3 : newerB n0 y = true := by
                rcases htt with h | h
                · exact absurd h e1
                · exact h
              clear htt e1
              go_wp2_with (first | (go_at_call 32; refine (newer_any _ _ _).mono ?_; rintro e w' ⟨rfl, rfl⟩))
              go_round
              case rel => exact ⟨j + 1, by omega, by go_num⟩
              case measure => simp [intOf]; omega
          · have hjk : j = k := by omega
            subst hjk
            go_wp2_with (first | (go_at_call 27; refine (sfirst _).mono ?_; rintro e w' ⟨rfl, rfl⟩))
            go_ret
            have HB9 := HB9'.out
            exact ⟨rfl, by go_grown⟩
      all_goals
        refine wp_loop_rounds 1 ?_
        rw [rounds_succ]
        go_wp2_with (first | (go_at_call 27; refine (sfirst _).mono ?_; rintro e w' ⟨rfl, rfl⟩))
        go_ret
        have HB9 := HBL.out
        exact ⟨rfl, by go_grown⟩
end Go.Proofs.Ytcpihfkhhmggfaa
