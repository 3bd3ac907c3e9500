/- Texts that others rest on, one behind the other: NumB, NumC, NumD, NumE, AppI, NumJ. -/
import Derived.Test.YtfopfplpfhncfaaGreatMgC
import Derived.Deep.AppendLies
import Derived.Deep.RegionLaw
import Derived.BigRegion
import Derived.Test.YtfopfplpfhncfaaGreatMgA
import Derived.Laws.AppendOwnNone
section
namespace Go.Proofs.YtfopfplpfhncfaaGreat
open Go.RowKit

/-- One bit's step of the check sum. -/
def cStep (c : Nat) : Nat := if c % 2 = 1 then (c / 2) ^^^ 3988292384 else c / 2
def cSteps (c : Nat) : Nat → Nat
  | 0 => c
  | k + 1 => cStep (cSteps c k)
/-- One byte's. -/
def cByte (c b : Nat) : Nat := cSteps (c ^^^ b) 8
def cTo (s : ByteArray) : Nat → Nat
  | 0 => 4294967295
  | k + 1 => cByte (cTo s k) (byteAt s k)
def crcN (s : ByteArray) : Nat := 4294967295 ^^^ cTo s s.size

theorem xor_lt {a b : Nat} (ha : a < 4294967296) (hb : b < 4294967296) : a ^^^ b < 4294967296 := Nat.xor_lt_two_pow (n := 32) ha hb
theorem cStep_lt {c : Nat} (h : c < 4294967296) : cStep c < 4294967296 := by
  unfold cStep
  split
  · exact xor_lt (by omega) (by decide)
  · omega
theorem cSteps_lt {c : Nat} (h : c < 4294967296) (k : Nat) : cSteps c k < 4294967296 := by
  induction k with
  | zero => exact h
  | succ k ih => exact cStep_lt ih
theorem cTo_lt (s : ByteArray) (k : Nat) : cTo s k < 4294967296 := by
  induction k with
  | zero => simp [cTo]
  | succ k ih => exact cSteps_lt (xor_lt ih (by have := byteAt_lt s k; omega)) 8
theorem and1 {c : Nat} (h1 : c < 4294967296) : bits .and .u32 (c : Int) 1 = ((c % 2 : Nat) : Int) := by
  have := u32_and_nat c 1 h1 (by decide)
  rw [nat_mask1] at this
  exact this
theorem step0 {c : Nat} (h : c < 4294967296) (h2 : c % 2 = 0) : bits .xor .u32 ((c : Int) / 2) (bits .and .u32 3988292384 0) = ((cStep c : Nat) : Int) := by
  have e : bits .and .u32 3988292384 0 = ((0 : Nat) : Int) := by decide
  rw [e, show ((c : Int) / 2) = ((c / 2 : Nat) : Int) from rfl, u32_xor_nat _ _ (by omega) (by decide)]
  simp [cStep, h2]
theorem step1 {c : Nat} (h : c < 4294967296) (h2 : c % 2 = 1) : bits .xor .u32 ((c : Int) / 2) (bits .and .u32 3988292384 4294967295) = ((cStep c : Nat) : Int) := by
  have e : bits .and .u32 3988292384 4294967295 = ((3988292384 : Nat) : Int) := by decide
  rw [e, show ((c : Int) / 2) = ((c / 2 : Nat) : Int) from rfl, u32_xor_nat _ _ (by omega) (by decide)]
  simp [cStep, h2]
theorem step1' {c : Nat} (h : c < 4294967296) (h2 : c % 2 = 1) : bits .xor .u32 ((c : Int) / 2) 3988292384 = ((cStep c : Nat) : Int) := by
  rw [show (3988292384 : Int) = ((3988292384 : Nat) : Int) from rfl, show ((c : Int) / 2) = ((c / 2 : Nat) : Int) from rfl, u32_xor_nat _ _ (by omega) (by decide)]
  simp [cStep, h2]
theorem step0' {c : Nat} (h2 : c % 2 = 0) : ((c : Int) / 2) = ((cStep c : Nat) : Int) := by
  simp [cStep, h2]

theorem crc_any (s : ByteArray) (w : World) (h4 : s.size ≤ 9223372036854775807) : Calls Tryz.prog 104 #[.string s] w fun e w' => e = .returned (.int .u32 (crcN s : Nat)) ∧ w = w' := by
  go_enter Tryz.func104, Tryz.ntmps104
  go_wp2
  go_loop [3, 7] (fun c i => ∃ k : Nat, k ≤ s.size ∧ i = .int .i64 k ∧ c = .int .u32 (cTo s k : Nat)) (fun _ i => s.size - (intOf i).toNat)
  case atStart => exact ⟨0, Nat.zero_le _, rfl, rfl⟩
  case round =>
    obtain ⟨k, hk, rfl, rfl⟩ := hrel
    by_cases hlt : k < s.size
    · have n1 := cTo_lt s k
      have hb := byte_get hlt
      have hb2 := byteAt_lt s k
      have hx := u32_xor_nat (cTo s k) (byteAt s k) n1 (by omega)
      obtain ⟨x, hxe⟩ : ∃ x, cTo s k ^^^ byteAt s k = x := ⟨_, rfl⟩
      have hxl : x < 4294967296 := by rw [← hxe]; exact xor_lt n1 (by omega)
      have HX := Lib.hid hxe
      rw [hxe] at hx
      clear hxe
      go_wp2
      go_loop [3, 16] (fun c i => ∃ j : Nat, j ≤ 8 ∧ i = .int .i64 j ∧ c = .int .u32 (cSteps x j : Nat)) (fun _ i => 8 - (intOf i).toNat)
      case atStart => exact ⟨0, Nat.zero_le _, rfl, rfl⟩
      case round =>
        obtain ⟨j, hj, rfl, rfl⟩ := hrel
        by_cases hlj : j < 8
        · have hc := cSteps_lt hxl j
          have ha := and1 hc
          rcases (by omega : cSteps x j % 2 = 0 ∨ cSteps x j % 2 = 1) with h2 | h2
          · rw [h2] at ha
            have H2 := Lib.hid h2
            clear h2
            go_wp2
            go_round
            case rel => exact ⟨j + 1, by omega, by go_num, by rw [step0 hc H2.out]; rfl⟩
            case measure => simp [intOf]; omega
          · rw [h2] at ha
            have H2 := Lib.hid h2
            clear h2
            go_wp2
            go_round
            case rel => exact ⟨j + 1, by omega, by go_num, by rw [step1 hc H2.out]; rfl⟩
            case measure => simp [intOf]; omega
        · have : j = 8 := by omega
          subst this
          go_wp2
          go_round
          case rel => exact ⟨k + 1, by omega, by go_num, by rw [← HX.out]; rfl⟩
          case measure => simp [intOf]; omega
    · have hkl : k = s.size := by omega
      subst hkl
      have hx := u32_xor_nat 4294967295 (cTo s s.size) (by decide) (cTo_lt s _)
      go_wp2
      go_ret
      exact ⟨ret_int hx, rfl⟩

end Go.Proofs.YtfopfplpfhncfaaGreat
end

section
namespace Go.Proofs.YtfopfplpfhncfaaGreat
open Go.RowKit

def hexB (q : Nat) : UInt8 := [48, 49, 50, 51, 52, 53, 54, 55, 56, 57, 97, 98, 99, 100, 101, 102].getD q 0
def hexN (q : Nat) : Nat := (hexB q).toNat
theorem hex_at {q : Nat} (_h : q < 16) (hp : q < (ByteArray.mk #[48, 49, 50, 51, 52, 53, 54, 55, 56, 57, 97, 98, 99, 100, 101, 102]).size) :
    ((ByteArray.mk #[48, 49, 50, 51, 52, 53, 54, 55, 56, 57, 97, 98, 99, 100, 101, 102])[q]'hp).toNat = hexN q := byte_get hp
theorem and15 {b : Nat} (h : b < 256) : bits .and .u8 (b : Int) 15 = ((b % 16 : Nat) : Int) := by
  have := u8_and_nat b 15 h (by decide)
  rw [nat_mask4] at this
  exact this

/-- The digits of the first k bytes. -/
def hexTo (s : ByteArray) : Nat → List UInt8
  | 0 => []
  | k + 1 => hexTo s k ++ [hexB (byteAt s k / 16), hexB (byteAt s k % 16)]
theorem hexTo_length (s : ByteArray) (k : Nat) : (hexTo s k).length = 2 * k := by
  induction k with
  | zero => rfl
  | succ k ih => simp [hexTo, ih]; omega
theorem hexTo_bc (s : ByteArray) (k Q R : Nat) (hQ : byteAt s k / 16 = Q) (hR : byteAt s k % 16 = R) : bc (hexTo s k) ++ [Value.int .u8 (hexN Q : Int), Value.int .u8 (hexN R : Int)] = bc (hexTo s (k + 1)) := by
  subst hQ hR
  rw [hexTo, bc_append]
  rfl

theorem below_append' {w wr w' : World} {v : Value} {B n : Nat} {xs : List Value} {o : Obj} (hb : Below B w wr) (hB : B ≤ wr.heap.size) (hown : wr.ownsRow B 5 1 v n xs) (hg : (wr.alloc o).drew.grownBy w' v.ownBlock) : Below B w w' :=
  (hb.alloc hB o).drew.grown hg (by simp; omega) (fun k hk => (hown.lt k hk).1)

end Go.Proofs.YtfopfplpfhncfaaGreat
end

section
namespace Go.Proofs.YtfopfplpfhncfaaGreat
open Go.RowKit

def digN (b : Nat) : Int := if 48 ≤ b ∧ b ≤ 57 then (b : Int) - 48 else if 97 ≤ b ∧ b ≤ 102 then (b : Int) - 87 else -1
theorem digN_rng (b : Nat) : -1 ≤ digN b ∧ digN b < 16 := by unfold digN; split <;> (try split) <;> omega

theorem or16 (n c : Int) (h0 : 0 ≤ n) (h1 : n < 16) (h2 : 0 ≤ c) (h3 : c < 16) : bits .or .i64 (n * 16) c = n * 16 + c :=
  bits_join .i64 62 (by decide) wraps_i64R 4 _ _ (by omega) (by omega) (by omega) h2 (by omega) (by omega)

/-- Are the first k pairs digits? -/
def okTo (s : ByteArray) : Nat → Bool
  | 0 => true
  | k + 1 => okTo s k && decide (0 ≤ digN (byteAt s (2 * k))) && decide (0 ≤ digN (byteAt s (2 * k + 1)))
def unTo (s : ByteArray) : Nat → List UInt8
  | 0 => []
  | k + 1 => unTo s k ++ [by8 (digN (byteAt s (2 * k)) * 16 + digN (byteAt s (2 * k + 1)))]
theorem unTo_length (s : ByteArray) (k : Nat) : (unTo s k).length = k := by
  induction k with
  | zero => rfl
  | succ k ih => simp [unTo, ih]
theorem okTo_no {s : ByteArray} {k n : Nat} (hk : k < n) (h : okTo s (k + 1) = false) : okTo s n = false := by
  induction n with
  | zero => omega
  | succ n ih =>
    by_cases e : k = n
    · subst e; exact h
    · have := ih (by omega)
      simp [okTo, this]
def unOk (s : ByteArray) : Bool := decide (s.size % 2 = 0) && okTo s (s.size / 2)
def unL (s : ByteArray) : List UInt8 := if unOk s = true then unTo s (s.size / 2) else []

theorem un_odd {s : ByteArray} (h : s.size % 2 ≠ 0) : unOk s = false ∧ unL s = [] := by
  have : unOk s = false := by simp [unOk, h]
  exact ⟨this, by simp [unL, this]⟩
theorem un_no {s : ByteArray} {k : Nat} (hk : 2 * k < s.size) (he : s.size % 2 = 0) (h : okTo s (k + 1) = false) : unOk s = false ∧ unL s = [] := by
  have : unOk s = false := by simp [unOk, okTo_no (n := s.size / 2) (by omega) h]
  exact ⟨this, by simp [unL, this]⟩
theorem un_yes {s : ByteArray} {k : Nat} (hk : s.size = 2 * k) (h : okTo s k = true) : unOk s = true ∧ unL s = unTo s k := by
  have e : s.size / 2 = k := by omega
  have : unOk s = true := by simp [unOk, e, h]; omega
  exact ⟨this, by simp [unL, this, e]⟩
theorem unTo_bc (s : ByteArray) (k : Nat) (h l : Int) (hh : digN (byteAt s (2 * k)) = h) (hl : digN (byteAt s (2 * k + 1)) = l) : bc (unTo s k) ++ [Value.int .u8 ((h * 16 + l) % 256)] = bc (unTo s (k + 1)) := by
  subst hh hl
  rw [unTo, bc_append, bc_one]

end Go.Proofs.YtfopfplpfhncfaaGreat
end

section
namespace Go.Proofs.YtfopfplpfhncfaaGreat
open Go.RowKit

end Go.Proofs.YtfopfplpfhncfaaGreat
end

section
namespace Go.Proofs.YtfopfplpfhncfaaGreat
open Go.RowKit

def ic (l : List Int) : List Value := l.map (Value.int .i64)
theorem ic_append (l m : List Int) : ic (l ++ m) = ic l ++ ic m := by simp [ic]
theorem ic_oneCell (l : List Int) : ∀ u ∈ ic l, u.oneCell' = true := by
  intro u hu
  simp only [ic, List.mem_map] at hu
  obtain ⟨b, _, rfl⟩ := hu
  rfl
theorem infoInt : (Tryz.prog.info? 3).map (fun i => (i.zero, i.size, i.bytes)) = some (some (.int .i64 0), 1, 8) := by kernel_rfl

theorem append_row {w : World} {ops : Array Oper} {rest : List Oper} {o : Oper} {act : Act} {Q : Exit → Act → World → Prop} (hgd : o.guard = none) (s x : Operand)
    (ho : o.op = .call { callee := .builtin .append, args := #[s, x], argTypes := #[149, 149] })
    (B : Nat) (v : Value) (n : Nat) (xs : List Value) (hs : act.eval s = v) (hown : w.ownsRow B 3 1 v n xs)
    (a : Option Addr) (len cap : Nat) (l : List Int) (hx : act.eval x = .slice a len cap) (hn : a = none → len = 0 ∧ cap = 0) (hr : Row w a len l)
    (hb : n + len ≤ 1000000) (hbase : B ≤ w.heap.size)
    (h : ∀ v' w', w'.ownsRow B 3 1 v' (n + len) (xs ++ ic l) → w.grownBy w' v.ownBlock → wpList Tryz.prog ops Q rest (act.put o.dst v') w') : wpList Tryz.prog ops Q (o :: rest) act w := by
  obtain ⟨i0, hi, hz0, hz1, hz2⟩ := info_parts infoInt
  cases a with
  | none =>
    obtain ⟨rfl, rfl⟩ := hn rfl
    have hl : l = [] := List.eq_nil_of_length_eq_zero hr.1
    subst hl
    refine wpList_append_own_none hgd s x 149 ho B 3 i0 1 Tryz.underlying149 hi v n xs hs hown hx ?_
    refine h v w ?_ (World.grownBy.refl _ _)
    simpa [ic] using hown
  | some ad =>
    refine wpList_append_own w hgd s x 149 ho B 3 i0 (.int .i64 0) 1 8 Tryz.underlying149 hi hz0 hz1 hz2 rfl (by decide) v n xs hs hown ad len cap (ic l) hx (by simp [ic, hr.1]) ?_ (ic_oneCell l) (by unfold maxLen; omega) (by omega) hbase (fun v' w' h1 h2 _ => h v' w' h1 h2)
    intro j u hj
    have hjl : j < l.length := by
      have := (List.getElem?_eq_some_iff.1 hj).1
      simpa [ic] using this
    rcases hr.2 with h0 | ⟨b, off, hab, _, hc⟩
    · have := hr.1; omega
    · simp only [Option.some.injEq] at hab
      subst hab
      have e : (⟨b, off, none⟩ : Addr).add j = ⟨b, off + j, none⟩ := by simp only [Addr.add]; split <;> simp_all
      rw [e, hc j (by rw [← hr.1]; exact hjl)]
      simp only [ic, List.getElem?_map, List.getElem?_eq_getElem hjl, Option.map_some, Option.some.injEq] at hj
      rw [← hj, List.getD_eq_getElem?_getD, List.getElem?_eq_getElem hjl]
      rfl

theorem row_of_own {w : World} {B n : Nat} {v : Value} {l : List Int} (h : w.ownsRow B 3 1 v n (ic l)) : ∃ a c, v = .slice a n c ∧ (a = none → n = 0 ∧ c = 0) ∧ Row w a n l := by
  have hl : l.length = n := by have := h.1; simpa [ic] using this
  rcases h.2 with ⟨rfl, rfl⟩ | ⟨g, cap, cur, rfl, _, hg, _, _, _, htake⟩
  · exact ⟨none, 0, rfl, fun _ => ⟨rfl, rfl⟩, hl, Or.inl rfl⟩
  · refine ⟨some ⟨g, 0, none⟩, cap, rfl, (fun h => by cases h), hl, Or.inr ⟨g, 0, rfl, ?_, ?_⟩⟩
    · rcases Nat.lt_or_ge g w.heap.size with h1 | h1
      · exact h1
      · rw [Array.getElem?_eq_none h1] at hg; cases hg
    · intro j hj
      rw [Nat.zero_add, h.cellAt j (by omega)]
      have hjl : j < l.length := by omega
      simp [ic, List.getD_eq_getElem?_getD, List.getElem?_eq_getElem hjl]
end Go.Proofs.YtfopfplpfhncfaaGreat
end

section
namespace Go.Proofs.YtfopfplpfhncfaaGreat
open Go.RowKit

theorem joinTo_app (W : Nat) (a b : List Int) : joinTo W (a ++ b) (a ++ b).length = joinTo W a a.length ++ joinTo W b b.length := by
  have h1 : ∀ k, k ≤ a.length → joinTo W (a ++ b) k = joinTo W a k := by
    intro k hk
    induction k with
    | zero => rfl
    | succ k ih =>
      simp only [joinTo]
      rw [ih (by omega)]
      simp [List.getD_eq_getElem?_getD, List.getElem?_append_left (show k < a.length by omega)]
  have h2 : ∀ k, joinTo W (a ++ b) (a.length + k) = joinTo W a a.length ++ joinTo W b k := by
    intro k
    induction k with
    | zero => simp [h1, joinTo]
    | succ k ih =>
      rw [← Nat.add_assoc]
      simp only [joinTo]
      rw [ih]
      have e : (a ++ b)[a.length + k]? = b[k]? := by rw [List.getElem?_append_right (by omega)]; congr 1; omega
      simp [List.getD_eq_getElem?_getD, e]
  rw [List.length_append, h2]

theorem joinOk_app (W : Int) (a b : List Int) : joinOk W (a ++ b) = (joinOk W a && joinOk W b) := by
  simp only [joinOk, List.all_append]
  cases decide (1 ≤ W ∧ W ≤ 6) <;> simp

theorem joinOk_one (W n : Int) : joinOk W [n] = fits n W := by
  rw [Bool.eq_iff_iff]
  simp only [joinOk, List.all_cons, List.all_nil, Bool.and_true, Bool.and_eq_true, decide_eq_true_eq, fits]
  omega
theorem join_one (W n : Int) : joinL W [n] = putL n W ∧ joinE W [n] = putE n W := by
  rw [joinL, joinE, putL, putE, joinOk_one]
  refine ⟨?_, rfl⟩
  split
  · simp [joinTo]
  · rfl

theorem joinL_len (W : Int) (l : List Int) (h : l.length ≤ 1000) : (bs (joinL W l)).size ≤ 6000 := by
  rw [bs_size, joinL]
  split
  · rename_i h1
    simp only [joinOk, Bool.and_eq_true, decide_eq_true_eq] at h1
    rw [joinTo_length]
    have := Nat.mul_le_mul (show W.toNat ≤ 6 by omega) h
    omega
  · simp

theorem row_lit1 (w : World) (x : Int) (t : TypeId) : Row (w.alloc (.cells #[.int .i64 x] t)) (some ⟨w.heap.size, 0, none⟩) 1 [x] := by
  refine ⟨rfl, Or.inr ⟨w.heap.size, 0, rfl, by simp, ?_⟩⟩
  intro j hj
  have : j = 0 := by omega
  subst this
  simp [World.cell?_alloc_at]

end Go.Proofs.YtfopfplpfhncfaaGreat
end
