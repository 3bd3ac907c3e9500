/- The contract of name.write (chapter 2), over this seat's translation. -/
import Derived.Test.YtngncdmmlkcekaaPrs
import Derived.Test.YtngncdmmlkcekaaLab
import Derived.Test.YtngncdmmlkcekaaNm
import Derived.OwnWalk
namespace Go.Proofs.Ytngncdmmlkcekaa
open Go.RowKit

/-- A byte, told. -/
def tell (c : Nat) : List UInt8 :=
  if plainN c = true then [UInt8.ofNat c]
  else if c = 46 ∨ c = 92 then [92, UInt8.ofNat c]
  else [92, UInt8.ofNat (48 + c / 100), UInt8.ofNat (48 + c / 10 % 10), UInt8.ofNat (48 + c % 10)]
theorem bc_nat (c : Nat) (h : c < 256) : Value.int .u8 ((UInt8.ofNat c).toNat : Int) = Value.int .u8 (c : Int) := by
  rw [UInt8.toNat_ofNat']; congr 2; omega
theorem cells_new2 (w : World) (x y : Value) (t : TypeId) : ∀ j u, [x, y][j]? = some u → (w.alloc (.cells #[x, y] t)).cell? ((⟨w.heap.size, 0, none⟩ : Addr).add j) = some u := by
  intro j u hj
  match j, hj with
  | 0, hj => simp at hj; subst hj; simp [Addr.add]
  | 1, hj => simp at hj; subst hj; simp [Addr.add]
theorem cells_new4 (w : World) (x y z v : Value) (t : TypeId) : ∀ j u, [x, y, z, v][j]? = some u → (w.alloc (.cells #[x, y, z, v] t)).cell? ((⟨w.heap.size, 0, none⟩ : Addr).add j) = some u := by
  intro j u hj
  match j, hj with
  | 0, hj => simp at hj; subst hj; simp [Addr.add]
  | 1, hj => simp at hj; subst hj; simp [Addr.add]
  | 2, hj => simp at hj; subst hj; simp [Addr.add]
  | 3, hj => simp at hj; subst hj; simp [Addr.add]
theorem tell_len (c : Nat) : 1 ≤ (tell c).length ∧ (tell c).length ≤ 4 := by
  unfold tell
  split
  · simp only [List.length_cons, List.length_nil]; omega
  · split <;> (simp only [List.length_cons, List.length_nil]; omega)

set_option maxRecDepth 100000 in
set_option maxHeartbeats 1600000 in
theorem write_any (v : Value) (n : Nat) (l : List UInt8) (c B : Nat) (w : World) (hc : c < 256) (hown : w.ownsRow B 5 1 v n (bc l)) (hn : n ≤ 1000000) (hB : B ≤ w.heap.size) :
    Calls Try.prog 55 #[v, .int .u8 c] w fun e w' => ∃ v', e = .returned v' ∧ w'.ownsRow B 5 1 v' (n + (tell c).length) (bc (l ++ tell c)) ∧ Below B w w' := by
  obtain ⟨i0, hi, hz0, hz1, hz2⟩ := info_parts infoU8
  have HI := Lib.hid hi
  have HZ0 := Lib.hid hz0
  have HZ1 := Lib.hid hz1
  have HZ2 := Lib.hid hz2
  obtain ⟨va, vc, rfl⟩ := own_shape hown
  have HO := Lib.hid hown
  clear hi hz0 hz1 hz2 hown
  by_cases c1 : plainN c = true
  · have ht : tell c = [UInt8.ofNat c] := by rw [tell, if_pos c1]
    have e9 : bc l ++ [Value.int .u8 (c : Int)] = bc (l ++ tell c) := by rw [ht, bc_append]; simp only [bc, List.map_cons, List.map_nil, bc_nat c hc]
    have HE := Lib.hid e9
    have HL := Lib.hid (show (tell c).length = 1 by rw [ht]; rfl)
    have HP := Lib.hid c1
    clear ht e9 c1
    go_enter Try.func55, Try.ntmps55
    go_wp2_with (first | (go_at_call 68; refine (isPlain_any _ _ (by omega)).mono ?_; rintro e w' ⟨rfl, rfl⟩; rw [HP.out]) | (at_builtin; refine wpList_append_own _ rfl _ _ 43 rfl B 5 i0 (.int .u8 0) 1 1 Try.underlying43 HI.out HZ0.out HZ1.out HZ2.out rfl (by decide) _ n _ rfl (HO.out.alloc _) ⟨w.heap.size, 0, none⟩ 1 1 [.int .u8 (c : Int)] rfl rfl ?c1 ?c2 ?c3 ?c4 ?c5 ?_))
    case c1 => exact cell_one_new _ _ _
    case c2 => exact one_int _ _
    case c3 => unfold maxLen; omega
    case c4 => omega
    case c5 => simp; omega
    intro v2 w2 hown2 hgrow2 _
    have HB2 := Lib.hid (below_append (Below.refl B w) hB HO.out hgrow2)
    rw [HE.out] at hown2
    have HO2 := Lib.hid hown2
    clear hown2 hgrow2
    go_wp2
    go_ret
    exact ⟨_, rfl, by rw [HL.out]; exact HO2.out, HB2.out⟩
  · have HP := Lib.hid (show plainN c = false by simpa using c1)
    by_cases c2 : c = 46 ∨ c = 92
    · have ht : tell c = [92, UInt8.ofNat c] := by rw [tell, if_neg c1, if_pos c2]
      have e9 : bc l ++ [Value.int .u8 92, Value.int .u8 (c : Int)] = bc (l ++ tell c) := by rw [ht, bc_append]; simp only [bc, List.map_cons, List.map_nil, bc_nat c hc]; rfl
      have HE := Lib.hid e9
      have HL := Lib.hid (show (tell c).length = 2 by rw [ht]; rfl)
      clear ht e9 c1
      go_enter Try.func55, Try.ntmps55
      have e1 : ((c : Int) == 46) = true ∨ ((c : Int) == 46) = false ∧ ((c : Int) == 92) = true := by
        rcases c2 with h | h
        · exact Or.inl (eT (by omega))
        · exact Or.inr ⟨eF (by omega), eT (by omega)⟩
      clear c2
      rcases e1 with e1 | ⟨e1, e2⟩
      all_goals
        go_wp2_with (first | (go_at_call 68; refine (isPlain_any _ _ (by omega)).mono ?_; rintro e w' ⟨rfl, rfl⟩; rw [HP.out]) | (at_builtin; refine wpList_append_own _ rfl _ _ 43 rfl B 5 i0 (.int .u8 0) 1 1 Try.underlying43 HI.out HZ0.out HZ1.out HZ2.out rfl (by decide) _ n _ rfl (HO.out.alloc _) ⟨w.heap.size, 0, none⟩ 2 2 [.int .u8 92, .int .u8 (c : Int)] rfl rfl ?c1 ?c2 ?c3 ?c4 ?c5 ?_))
        case c1 => exact cells_new2 _ _ _ _
        case c2 => intro u hu; simp only [List.mem_cons, List.not_mem_nil, or_false] at hu; rcases hu with rfl | rfl <;> rfl
        case c3 => unfold maxLen; omega
        case c4 => omega
        case c5 => simp; omega
        intro v2 w2 hown2 hgrow2 _
        have HB2 := Lib.hid (below_append (Below.refl B w) hB HO.out hgrow2)
        rw [HE.out] at hown2
        have HO2 := Lib.hid hown2
        clear hown2 hgrow2
        go_wp2
        go_ret
        exact ⟨_, rfl, by rw [HL.out]; exact HO2.out, HB2.out⟩
    · have ht : tell c = [92, UInt8.ofNat (48 + c / 100), UInt8.ofNat (48 + c / 10 % 10), UInt8.ofNat (48 + c % 10)] := by rw [tell, if_neg c1, if_neg c2]
      have e9 : bc l ++ [Value.int .u8 92, Value.int .u8 (48 + (c : Int) / 100), Value.int .u8 (48 + (c : Int) / 10 % 10), Value.int .u8 (48 + (c : Int) % 10)] = bc (l ++ tell c) := by
        rw [ht, bc_append]
        simp only [bc, List.map_cons, List.map_nil, bc_nat (48 + c / 100) (by omega), bc_nat (48 + c / 10 % 10) (by omega), bc_nat (48 + c % 10) (by omega)]
        rfl
      have HE := Lib.hid e9
      have HL := Lib.hid (show (tell c).length = 4 by rw [ht]; rfl)
      have e1 : ((c : Int) == 46) = false := eF (by omega)
      have e2 : ((c : Int) == 92) = false := eF (by omega)
      clear ht e9 c1 c2
      go_enter Try.func55, Try.ntmps55
      go_wp2_with (first | (go_at_call 68; refine (isPlain_any _ _ (by omega)).mono ?_; rintro e w' ⟨rfl, rfl⟩; rw [HP.out]) | (at_builtin; refine wpList_append_own _ rfl _ _ 43 rfl B 5 i0 (.int .u8 0) 1 1 Try.underlying43 HI.out HZ0.out HZ1.out HZ2.out rfl (by decide) _ n _ rfl (HO.out.alloc _) ⟨w.heap.size, 0, none⟩ 4 4 [.int .u8 92, .int .u8 (48 + (c : Int) / 100), .int .u8 (48 + (c : Int) / 10 % 10), .int .u8 (48 + (c : Int) % 10)] rfl rfl ?c1 ?c2 ?c3 ?c4 ?c5 ?_))
      case c1 => exact cells_new4 _ _ _ _ _ _
      case c2 => intro u hu; simp only [List.mem_cons, List.not_mem_nil, or_false] at hu; rcases hu with rfl | rfl | rfl | rfl <;> rfl
      case c3 => unfold maxLen; omega
      case c4 => omega
      case c5 => simp; omega
      intro v2 w2 hown2 hgrow2 _
      have HB2 := Lib.hid (below_append (Below.refl B w) hB HO.out hgrow2)
      rw [HE.out] at hown2
      have HO2 := Lib.hid hown2
      clear hown2 hgrow2
      go_wp2
      go_ret
      exact ⟨_, rfl, by rw [HL.out]; exact HO2.out, HB2.out⟩
end Go.Proofs.Ytngncdmmlkcekaa
