/- Texts that others rest on, one behind the other: Base, Byt, Nm, Str, Tx, Lab, StA, MayR, MayN, Lbl, AppS, BRw, CeK, Row, Ky5, ClR5, Cct, Few5, Del, RwR, DlF, CloQ, CN. -/
import Derived.Test.YtgppkpdjpcegbaaRows
import Derived.WalkKit
import Derived.WalkLawsBesides
import Derived.WalkSpells
import Derived.BigQuiet
import Derived.Deep.QuietTactic
import Derived.Handy
import Derived.Lib.Hide
import Derived.Lib.AppendStr
import Derived.Deep.MidRow
import Derived.Laws.ResultCell
import Derived.OwnWalk
import Derived.Outline
import Derived.Laws.AppendOwnNone
import Derived.Deep.Matrix
import Derived.Deep.RegionHeld3
import Derived.Lib.SliceRun
import Derived.Lib.AppendZerosOnto
import Derived.Deep.RegionLaw
import Derived.Deep.AppendLies
import Derived.Deep.DeepCutAuto
import Derived.Shelf.Abstract
import Derived.Laws.OwnMore
import Derived.Maps.AppendAt
section
namespace Go.Proofs.Ytgppkpdjpcegbaa
open Go.RowKit

theorem ret_bool {a b : Bool} (h : a = b) : Ending.returned (.bool a) = Ending.returned (.bool b) := by rw [h]
theorem ret_int {k : IntKind} {a b : Int} (h : a = b) : Ending.returned (.int k a) = Ending.returned (.int k b) := by rw [h]
theorem ret_str {a b : ByteArray} (h : a = b) : Ending.returned (.string a) = Ending.returned (.string b) := by rw [h]
theorem ret_ii {k l : IntKind} {a b c d : Int} (h : a = b) (g : c = d) : Ending.returned (.tuple #[.int k a, .int l c]) = Ending.returned (.tuple #[.int k b, .int l d]) := by rw [h, g]
theorem ret_ib {k : IntKind} {a b : Int} {c d : Bool} (h : a = b) (g : c = d) : Ending.returned (.tuple #[.int k a, .bool c]) = Ending.returned (.tuple #[.int k b, .bool d]) := by rw [h, g]
theorem ret_si {l : IntKind} {a b : ByteArray} {c d : Int} (h : a = b) (g : c = d) : Ending.returned (.tuple #[.string a, .int l c]) = Ending.returned (.tuple #[.string b, .int l d]) := by rw [h, g]
theorem ret_sb {a b : ByteArray} {c d : Bool} (h : a = b) (g : c = d) : Ending.returned (.tuple #[.string a, .bool c]) = Ending.returned (.tuple #[.string b, .bool d]) := by rw [h, g]
/-- A test's outcome, as the walk spells it. -/
theorem dT {p : Prop} [Decidable p] (h : p) : decide p = true := by simp [h]
theorem dF {p : Prop} [Decidable p] (h : ¬ p) : decide p = false := by simp [h]
theorem eT {a b : Int} (h : a = b) : (a == b) = true := by simp [h]
theorem eF {a b : Int} (h : ¬ a = b) : (a == b) = false := by simp [h]
theorem nT {a b : Int} (h : ¬ a = b) : (a != b) = true := by simp [h]
theorem nF {a b : Int} (h : a = b) : (a != b) = false := by simp [h]
/-- A call inside a region that only reads. -/
theorem quiet_same {P : Program} {f : FuncId} {args : Array Value} {w : World} {n : Nat} {v : Value}
    (h : Calls P f args (w.drewN n) fun e w' => e = .returned v ∧ w.drewN n = w') : Calls P f args (w.drewN n) fun e w'' => e = .returned v ∧ ∃ m, w'' = w.drewN m :=
  h.mono fun _ _ ⟨he, hm⟩ => ⟨he, n, hm.symm⟩
theorem below_drewN {B : Nat} {w w' : World} (h : Below B w w') (n : Nat) : Below B w (w'.drewN n) := by
  induction n with
  | zero => exact h
  | succ n ih => exact ih.drew
end Go.Proofs.Ytgppkpdjpcegbaa
end

section
namespace Go.Proofs.Ytgppkpdjpcegbaa
open Go.RowKit

/-- Bytes as cells. -/
def bc (l : List UInt8) : List Value := l.map fun b => Value.int .u8 (b.toNat : Int)
/-- A string of bytes. -/
def bs (l : List UInt8) : ByteArray := ⟨l.toArray⟩
/-- A byte of a number. -/
def by8 (n : Int) : UInt8 := UInt8.ofNat (n % 256).toNat

theorem bc_length (l : List UInt8) : (bc l).length = l.length := by simp [bc]
theorem bc_append (l m : List UInt8) : bc (l ++ m) = bc l ++ bc m := by simp [bc]
theorem bs_size (l : List UInt8) : (bs l).size = l.length := by simp [bs]; rfl
theorem bs_toList (l : List UInt8) : (bs l).toList = l := by simp [bs]
theorem bs_of (s : ByteArray) : bs s.data.toList = s := rfl
theorem bs_append (l m : List UInt8) : bs l ++ bs m = bs (l ++ m) := ByteArray.mk_append_mk l m
theorem by8_toNat (n : Int) : ((by8 n).toNat : Int) = n % 256 := by
  unfold by8
  have h : (n % 256).toNat < 256 := by omega
  rw [UInt8.toNat_ofNat_of_lt' h]
  omega
theorem bc_one (n : Int) : bc [by8 n] = [Value.int .u8 (n % 256)] := by simp [bc, by8_toNat]
theorem bc_one' (b : UInt8) : bc [b] = [Value.int .u8 (b.toNat : Int)] := rfl
theorem bc_oneCell (l : List UInt8) : ∀ u ∈ bc l, u.oneCell' = true := by
  intro u hu
  simp only [bc, List.mem_map] at hu
  obtain ⟨b, _, rfl⟩ := hu
  rfl
theorem strCells_bs (l : List UInt8) : Lib.strCells (bs l) = bc l := by simp [Lib.strCells, bs, bc]
theorem strCells_bc (s : ByteArray) : Lib.strCells s = bc s.data.toList := rfl

/-- A byte of a text, as a number. -/
def byteAt (s : ByteArray) (i : Nat) : Nat := (s.data.toList.getD i 0).toNat
theorem byteAt_lt (s : ByteArray) (i : Nat) : byteAt s i < 256 := (s.data.toList.getD i 0).toNat_lt
theorem byte_get {s : ByteArray} {i : Nat} (h : i < s.size) : (s[i]).toNat = byteAt s i := by
  have h' : i < s.data.toList.length := by simpa using h
  unfold byteAt
  rw [List.getD_eq_getElem?_getD, List.getElem?_eq_getElem h']
  rfl
theorem byteAt_bs (l : List UInt8) (i : Nat) : byteAt (bs l) i = (l.getD i 0).toNat := rfl

theorem infoU8 : (Try.prog.info? 5).map (fun i => (i.zero, i.size, i.bytes)) = some (some (.int .u8 0), 1, 1) := by kernel_rfl

/-- string(b), b a row of bytes of the call's own. -/
theorem conv_own {w : World} {base : Nat} {v : Value} {n : Nat} {l : List UInt8} (h : w.ownsRow base 5 1 v n (bc l)) :
    (convert 22 9 v).run Try.prog w = .ok (.string (bs l)) w := by
  have hl : l.length = n := by have := h.1; rw [bc_length] at this; omega
  rcases h.2 with ⟨rfl, rfl⟩ | ⟨g, cap, cur, rfl, _, hg, _, _, _, htake⟩
  · have : l = [] := List.eq_nil_of_length_eq_zero hl
    subst this
    have := run_convert_bytes_string (P := Try.prog) w 22 9 5 none 0 0 Try.underlying22 Try.underlying5 Try.underlying9
    rw [this]
    simp [bs]
    rfl
  · subst hl
    refine run_convert_bytes_back w _ _ 5 ⟨g, 0, none⟩ cap l Try.underlying22 Try.underlying5 Try.underlying9 ?_
    intro j hj
    have := h.cells (g := g) rfl j (.int .u8 (l[j].toNat : Int)) (by simp [bc, hj])
    exact this

theorem own_at {w : World} {base g n cap : Nat} {l : List UInt8} (h : w.ownsRow base 5 1 (.slice (some ⟨g, 0, none⟩) n cap) n (bc l)) (j : Nat) (hj : j < n) :
    w.cell? ⟨g, j, none⟩ = some (.int .u8 ((l.getD j 0).toNat : Int)) := by
  have hl : l.length = n := by have := h.1; rw [bc_length] at this; omega
  rw [h.cellAt j (by omega)]
  simp [bc, List.getD, show j < l.length by omega]
theorem one_int (k : IntKind) (n : Int) : ∀ u ∈ [Value.int k n], u.oneCell' = true := by
  intro u hu
  simp only [List.mem_cons, List.not_mem_nil, or_false] at hu
  subst hu
  rfl
theorem own_drewN {w : World} {base : Nat} {e : TypeId} {size : Nat} {v : Value} {n : Nat} {xs : List Value} (h : w.ownsRow base e size v n xs) (k : Nat) : (w.drewN k).ownsRow base e size v n xs := by
  induction k with
  | zero => exact h
  | succ k ih => exact ih.drew
/-- []byte(s): a new block that holds the bytes. -/
theorem conv_bytes {w : World} {ops : Array Oper} {rest : List Oper} {o : Oper} {act : Act} {Q : Exit → Act → World → Prop} (hgd : o.guard = none) (x : Operand) (ho : o.op = .convert 9 22 x) (s : ByteArray) (hx : act.eval x = .string s)
    (h : ∀ cap w', s.size ≤ cap → Below w.heap.size w w' → w'.heap.size = w.heap.size + 1 → (∀ j, j < s.size → w'.cell? ⟨w.heap.size, j, none⟩ = some (.int .u8 ((s.data.toList.getD j 0).toNat : Int))) → (∀ j, j < s.size → w'.frozen? ⟨w.heap.size, j, none⟩ = false) → wpList Try.prog ops Q rest (act.put o.dst (.slice (some ⟨w.heap.size, 0, none⟩) s.size cap)) w') : wpList Try.prog ops Q (o :: rest) act w := by
  refine wpList_plain hgd fun K hK => ?_
  have hrun := run_bytes_of_string (P := Try.prog) w 9 22 5 s Try.underlying9 Try.underlying22 Try.underlying5
  have hcap := grownCap_ge w s.size 0 5
  generalize grownCap w s.size 0 5 = cap at *
  have hsz : s.size ≤ (bytesRow s cap).size := by simp [bytesRow]
  unfold Oper.wp
  simp [execOp, ho, hx, hrun, Result.andThen]
  refine hK _ _ (h cap _ hcap ?_ (by simp) ?_ ?_)
  · exact ((Below.refl _ _).alloc (Nat.le_refl _) _).drew
  · intro j hj
    have hj' : j < s.data.size := hj
    have := World.cell?_alloc_mark w (bytesRow s cap) 5 ((bytesRow s cap).size, (bytesRow s cap).size + 1) j
    have h2 := bytesRow_at s cap j hj'
    show (w.alloc _).cell? _ = _
    rw [this, h2, List.getD_eq_getElem?_getD, List.getElem?_eq_getElem (by simpa using hj')]
    rfl
  · intro j hj
    have := World.frozen?_alloc_mark w (bytesRow s cap) 5 (bytesRow s cap).size ((bytesRow s cap).size + 1) j
    show (w.alloc _).frozen? _ = _
    rw [this]
    simp
    omega
/-- Behind an append of one byte to a row of the call's own. -/
theorem below_append {w wr w' : World} {v : Value} {B n : Nat} {xs : List Value} {o : Obj} (hb : Below B w wr) (hB : B ≤ wr.heap.size) (hown : wr.ownsRow B 5 1 v n xs) (hg : (wr.alloc o).grownBy w' v.ownBlock) : Below B w w' :=
  (hb.alloc hB o).grown hg (by simp; omega) (fun k hk => (hown.lt k hk).1)
end Go.Proofs.Ytgppkpdjpcegbaa
end

section
namespace Go.Proofs.Ytgppkpdjpcegbaa
open Go.RowKit

def great (b : Nat) : Bool := decide (65 ≤ b ∧ b ≤ 90)
theorem isGreat_any (b : Nat) (w : World) (h : b < 256) : Calls Try.prog 84 #[.int .u8 b] w fun e w' => e = .returned (.bool (great b)) ∧ w = w' := by
  go_enter Try.func84, Try.ntmps84
  go_wp2
  all_goals (go_ret; refine ⟨ret_bool ?_, rfl⟩; rw [Bool.eq_iff_iff]; simp [great]; try omega)

def anyG (s : ByteArray) (at' : Nat) : Nat → Bool
  | 0 => false
  | k + 1 => anyG s at' k || great (byteAt s (at' + k))
theorem anyG_yes {s : ByteArray} {at' k n : Nat} (hk : k < n) (h : great (byteAt s (at' + k)) = true) : anyG s at' n = true := by
  induction n with
  | zero => omega
  | succ n ih =>
    simp only [anyG]
    by_cases e : k = n
    · subst e; rw [h]; simp
    · rw [ih (by omega)]; simp
theorem anyG_congr {s t : ByteArray} {a b n : Nat} (h : ∀ j, j < n → byteAt s (a + j) = byteAt t (b + j)) : anyG s a n = anyG t b n := by
  induction n with
  | zero => rfl
  | succ n ih => simp only [anyG]; rw [ih fun j hj => h j (by omega), h n (by omega)]

theorem hasGreat_any (s : ByteArray) (w : World) (hs : s.size ≤ 1000000) : Calls Try.prog 82 #[.string s] w fun e w' => e = .returned (.bool (anyG s 0 s.size)) ∧ w = w' := by
  go_enter Try.func82, Try.ntmps82
  go_wp2
  go_loop [6] (fun i => ∃ k : Nat, k ≤ s.size ∧ anyG s 0 k = false ∧ i = .int .i64 k) (fun i => s.size - (intOf i).toNat)
  case atStart => exact ⟨0, Nat.zero_le _, rfl, rfl⟩
  case round =>
    obtain ⟨k, hk, hg, rfl⟩ := hrel
    have HG := Lib.hid hg
    clear hg
    by_cases hlt : k < s.size
    · have hb := byte_get hlt
      have hb2 := byteAt_lt s k
      cases hgr : great (byteAt s k)
      · have HN := Lib.hid (show anyG s 0 (k + 1) = false by simp only [anyG]; rw [HG.out, Nat.zero_add, hgr]; rfl)
        go_wp2_with (go_at_call 84; refine (isGreat_any _ _ (by omega)).mono ?_; rintro e w' ⟨rfl, rfl⟩)
        go_round
        case rel => exact ⟨k + 1, by omega, HN.out, by go_num⟩
        case measure => simp [intOf]; omega
      · have HN := Lib.hid (anyG_yes (s := s) (at' := 0) hlt (by rw [Nat.zero_add]; exact hgr))
        go_wp2_with (go_at_call 84; refine (isGreat_any _ _ (by omega)).mono ?_; rintro e w' ⟨rfl, rfl⟩)
        go_ret
        exact ⟨ret_bool HN.out.symm, rfl⟩
    · have hkl : k = s.size := by omega
      subst hkl
      go_wp2
      go_ret
      exact ⟨ret_bool HG.out.symm, rfl⟩

theorem extract_size (s : ByteArray) (a b : Nat) (h : b ≤ s.size) : (s.extract a b).size = b - a := by rw [ByteArray.size_extract]; omega
theorem byteAt_extract (s : ByteArray) (a b j : Nat) (h : b ≤ s.size) (hj : a + j < b) : byteAt (s.extract a b) j = byteAt s (a + j) := by
  rw [← byte_get (s := s.extract a b) (i := j) (by rw [extract_size _ _ _ h]; omega), ← byte_get (s := s) (i := a + j) (by omega)]
  rw [ByteArray.getElem_extract]

/-- May the label of s that begins at a place be? -/
def okStep (s : ByteArray) (at' : Nat) : Bool := decide (1 ≤ byteAt s at') && decide (byteAt s at' ≤ 63) && decide (at' + 1 + byteAt s at' < s.size) && !anyG s (at' + 1) (byteAt s at')
def pastN (s : ByteArray) (at' : Nat) : Nat := if okStep s at' = true then at' + 1 + byteAt s at' else 0

theorem past_any (s : ByteArray) (A : Nat) (w : World) (hA : A < s.size) (hs : s.size ≤ 1000000) : Calls Try.prog 75 #[.string s, .int .i64 A] w fun e w' => e = .returned (.int .i64 (pastN s A : Nat)) ∧ w = w' := by
  have hb := byte_get hA
  have hb2 := byteAt_lt s A
  obtain ⟨k, hk⟩ : ∃ k, byteAt s A = k := ⟨_, rfl⟩
  have hok : okStep s A = (decide (1 ≤ k) && decide (k ≤ 63) && decide (A + 1 + k < s.size) && !anyG s (A + 1) k) := by rw [okStep, hk]
  have hp : pastN s A = if okStep s A = true then A + 1 + k else 0 := by rw [pastN, hk]
  have HOK := Lib.hid hok
  have HP := Lib.hid hp
  rw [hk] at hb hb2
  clear hok hp hk
  by_cases k0 : k = 0
  · subst k0
    have HZ := Lib.hid (show pastN s A = 0 by rw [HP.out, HOK.out]; simp)
    go_enter Try.func75, Try.ntmps75
    go_wp2
    go_ret
    exact ⟨ret_int (by rw [HZ.out]; rfl), rfl⟩
  · have e0 : ((k : Int) == 0) = false := eF (by omega)
    by_cases k63 : k ≤ 63
    · have e1 := dF (p := (63 : Int) < (k : Int)) (by omega)
      by_cases kn : A + 1 + k < s.size
      · have e2 := dF (p := (s.size : Int) ≤ (A : Int) + 1 + (k : Int)) (by omega)
        have hsz : (s.extract (A + 1) (A + 1 + k)).size = k := by rw [extract_size _ _ _ (by omega)]; omega
        have hg : anyG (s.extract (A + 1) (A + 1 + k)) 0 (s.extract (A + 1) (A + 1 + k)).size = anyG s (A + 1) k := by
          rw [hsz]
          refine anyG_congr ?_
          intro j hj
          rw [Nat.zero_add]
          exact byteAt_extract s (A + 1) (A + 1 + k) j (by omega) (by omega)
        cases hgv : anyG s (A + 1) k
        · rw [hgv] at hg
          have HG := Lib.hid hg
          have HZ := Lib.hid (show pastN s A = A + 1 + k by rw [HP.out, HOK.out, hgv]; simp; omega)
          clear hg hgv
          go_enter Try.func75, Try.ntmps75
          go_wp2_with fail
          refine (hasGreat_any _ _ (by rw [hsz]; omega)).mono ?_; rintro e w' ⟨rfl, rfl⟩
          rw [HG.out]
          go_wp2
          go_ret
          exact ⟨ret_int (by rw [HZ.out]; omega), rfl⟩
        · rw [hgv] at hg
          have HG := Lib.hid hg
          have HZ := Lib.hid (show pastN s A = 0 by rw [HP.out, HOK.out, hgv]; simp)
          clear hg hgv
          go_enter Try.func75, Try.ntmps75
          go_wp2_with fail
          refine (hasGreat_any _ _ (by rw [hsz]; omega)).mono ?_; rintro e w' ⟨rfl, rfl⟩
          rw [HG.out]
          go_wp2
          go_ret
          exact ⟨ret_int (by rw [HZ.out]; rfl), rfl⟩
      · have e2 := dT (p := (s.size : Int) ≤ (A : Int) + 1 + (k : Int)) (by omega)
        have HZ := Lib.hid (show pastN s A = 0 by rw [HP.out, HOK.out]; simp [kn])
        clear kn
        go_enter Try.func75, Try.ntmps75
        go_wp2
        go_ret
        exact ⟨ret_int (by rw [HZ.out]; rfl), rfl⟩
    · have e1 := dT (p := (63 : Int) < (k : Int)) (by omega)
      have HZ := Lib.hid (show pastN s A = 0 by rw [HP.out, HOK.out]; simp [k63])
      clear k63
      go_enter Try.func75, Try.ntmps75
      go_wp2
      go_ret
      exact ⟨ret_int (by rw [HZ.out]; rfl), rfl⟩

def mayRun (s : ByteArray) : Nat → Nat → Bool
  | 0, at' => byteAt s at' == 0
  | f + 1, at' => if at' + 1 < s.size then okStep s at' && mayRun s f (at' + 1 + byteAt s at') else byteAt s at' == 0
def mayN (s : ByteArray) : Bool := decide (1 ≤ s.size ∧ s.size ≤ 255) && mayRun s s.size 0

theorem mayRun_more (s : ByteArray) : ∀ (f at' : Nat), s.size ≤ at' + 1 + f → mayRun s (f + 1) at' = mayRun s f at' := by
  intro f
  induction f with
  | zero => intro at' h; show (if at' + 1 < s.size then _ else _) = _; rw [if_neg (by omega)]; rfl
  | succ f ih =>
    intro at' h
    show (if at' + 1 < s.size then okStep s at' && mayRun s (f + 1) (at' + 1 + byteAt s at') else byteAt s at' == 0) = (if at' + 1 < s.size then okStep s at' && mayRun s f (at' + 1 + byteAt s at') else byteAt s at' == 0)
    rw [ih _ (by omega)]
theorem mayRun_step (s : ByteArray) (at' : Nat) (h : at' + 1 < s.size) : mayRun s s.size at' = (okStep s at' && mayRun s s.size (at' + 1 + byteAt s at')) := by
  rw [← mayRun_more s s.size at' (by omega)]
  show (if at' + 1 < s.size then okStep s at' && mayRun s s.size (at' + 1 + byteAt s at') else byteAt s at' == 0) = _
  rw [if_pos h]
theorem mayRun_end (s : ByteArray) (f at' : Nat) (h : ¬ at' + 1 < s.size) : mayRun s f at' = (byteAt s at' == 0) := by
  cases f with
  | zero => rfl
  | succ f => show (if at' + 1 < s.size then _ else _) = _; rw [if_neg h]

theorem nmay_any (s : ByteArray) (w : World) (hs : s.size ≤ 1000000) : Calls Try.prog 66 #[.string s] w fun e w' => e = .returned (.bool (mayN s)) ∧ w = w' := by
  by_cases h1 : s.size = 0
  · have e1 : ((s.size : Int) == 0) = true := eT (by omega)
    have HN := Lib.hid (show mayN s = false by simp [mayN, h1])
    clear h1
    go_enter Try.func66, Try.ntmps66
    go_wp2
    go_ret
    exact ⟨ret_bool HN.out.symm, rfl⟩
  · have e1 : ((s.size : Int) == 0) = false := eF (by omega)
    by_cases h2 : s.size ≤ 255
    · have e2 := dF (p := (255 : Int) < (s.size : Int)) (by omega)
      have HN := Lib.hid (show mayN s = mayRun s s.size 0 by rw [mayN, dT (p := 1 ≤ s.size ∧ s.size ≤ 255) (by omega)]; rfl)
      have hpos : 0 < s.size := by omega
      clear h1
      go_enter Try.func66, Try.ntmps66
      go_wp2
      go_loop [3] (fun i => ∃ k : Nat, k < s.size ∧ Hid (mayRun s s.size 0 = mayRun s s.size k) ∧ i = .int .i64 k) (fun i => s.size - (intOf i).toNat)
      case atStart => exact ⟨0, hpos, rfl, rfl⟩
      case round =>
        obtain ⟨k, hk, hr, rfl⟩ := hrel
        by_cases hlt : k + 1 < s.size
        · have t1 : (k : Int) < (s.size : Int) - 1 := by omega
          have hst := mayRun_step s k hlt
          cases hok : okStep s k
          · have hp : pastN s k = 0 := by rw [pastN, hok]; rfl
            have HF := Lib.hid (show mayN s = false by rw [HN.out, hr.out, hst, hok]; rfl)
            clear hst hok hr
            go_wp2_with (go_at_call 75; refine (past_any _ _ _ hk hs).mono ?_; rintro e w' ⟨rfl, rfl⟩)
            go_ret
            exact ⟨ret_bool HF.out.symm, rfl⟩
          · obtain ⟨m, hm⟩ : ∃ m, k + 1 + byteAt s k = m := ⟨_, rfl⟩
            have hp : pastN s k = m := by rw [pastN, hok, ← hm]; rfl
            have hms : m < s.size := by
              simp only [okStep, Bool.and_eq_true, decide_eq_true_eq] at hok
              omega
            have hmk : k < m := by omega
            have HR := Lib.hid (show mayRun s s.size 0 = mayRun s s.size m by rw [hr.out, hst, hok, hm]; rfl)
            have e3 : ((m : Int) == 0) = false := eF (by omega)
            clear hst hok hr hm
            go_wp2_with (go_at_call 75; refine (past_any _ _ _ hk hs).mono ?_; rintro e w' ⟨rfl, rfl⟩)
            go_round
            case rel => exact ⟨m, hms, HR.out, rfl⟩
            case measure => simp [intOf]; omega
        · have t1 : ¬ (k : Int) < (s.size : Int) - 1 := by omega
          have he := mayRun_end s s.size k hlt
          have HF := Lib.hid (show mayN s = (byteAt s k == 0) by rw [HN.out, hr.out, he])
          have hb := byte_get hk
          have hb2 := byteAt_lt s k
          clear he hr hlt
          go_wp2
          go_ret
          exact ⟨ret_bool (by rw [HF.out, Bool.eq_iff_iff]; simp), rfl⟩
    · have e2 := dT (p := (255 : Int) < (s.size : Int)) (by omega)
      have HN := Lib.hid (show mayN s = false by simp [mayN]; omega)
      clear h2
      go_enter Try.func66, Try.ntmps66
      go_wp2
      go_ret
      exact ⟨ret_bool HN.out.symm, rfl⟩
end Go.Proofs.Ytgppkpdjpcegbaa
end

section
namespace Go.Proofs.Ytgppkpdjpcegbaa
open Go.RowKit

/-- The texts of a slice that came in. -/
def RowS (w : World) (a : Option Addr) (len : Nat) (l : List ByteArray) : Prop :=
  l.length = len ∧ (len = 0 ∨ ∃ b off, a = some ⟨b, off, none⟩ ∧ b < w.heap.size ∧ ∀ j, j < len → w.cell? ⟨b, off + j, none⟩ = some (.string (l.getD j ByteArray.empty)))

theorem RowS.below {w w' : World} {a : Option Addr} {len : Nat} {l : List ByteArray} (h : RowS w a len l) (hb : Below w.heap.size w w') : RowS w' a len l := by
  obtain ⟨h1, h2⟩ := h
  refine ⟨h1, ?_⟩
  rcases h2 with h2 | ⟨b, off, rfl, hlt, hc⟩
  · exact Or.inl h2
  · refine Or.inr ⟨b, off, rfl, Nat.lt_of_lt_of_le hlt hb.size, fun j hj => ?_⟩
    rw [hb.cell hlt]
    exact hc j hj

/-- What the reading of a slice of texts gives. -/
def IsRowS (w : World) (a : Option Addr) (len cap : Nat) (ss : List ByteArray) : Prop :=
  (a = none ∧ len = 0 ∧ cap = 0 ∧ ss = []) ∨
  ∃ x, a = some x ∧ len ≤ cap ∧ cap ≤ maxLen ∧ ss.length = cap ∧ (∀ i, i < ss.length → w.cell? (x.add i) = some (.string (ss.getD i ByteArray.empty))) ∧ ∀ s ∈ ss, s.size ≤ maxLen

theorem RowS.of {w : World} {a : Option Addr} {len cap : Nat} {ss : List ByteArray} (h : IsRowS w a len cap ss) : RowS w a len (ss.take len) ∧ (∀ s ∈ ss.take len, s.size ≤ maxLen) ∧ len ≤ maxLen := by
  rcases h with ⟨rfl, rfl, rfl, rfl⟩ | ⟨x, rfl, hl, hm, hz, hcell, hs⟩
  · exact ⟨⟨rfl, Or.inl rfl⟩, by simp, by decide⟩
  · refine ⟨⟨by simp; omega, ?_⟩, fun s hs2 => hs s (List.mem_of_mem_take hs2), by omega⟩
    by_cases h0 : len = 0
    · exact Or.inl h0
    · right
      obtain ⟨b, off, spot⟩ := x
      have hc := hcell 0 (by omega)
      have hspot : spot = none := by simpa [Addr.add] using World.cell?_spot hc
      subst hspot
      refine ⟨b, off, rfl, ?_, fun j hj => ?_⟩
      · have := block_lt_of_cell hc
        simpa [Addr.add] using this
      · have := hcell j (by omega)
        have e : (⟨b, off, none⟩ : Addr).add j = ⟨b, off + j, none⟩ := by simp only [Addr.add]; split <;> simp_all
        rw [e] at this
        rw [this]
        simp [List.getD, hj]
end Go.Proofs.Ytgppkpdjpcegbaa
end

section
namespace Go.Proofs.Ytgppkpdjpcegbaa
open Go.RowKit

theorem own_shape {w : World} {B n : Nat} {e : TypeId} {v : Value} {xs : List Value} (h : w.ownsRow B e 1 v n xs) : ∃ a c, v = .slice a n c := by
  rcases h.2 with ⟨rfl, rfl⟩ | ⟨g, cap, cur, rfl, _⟩
  · exact ⟨none, 0, rfl⟩
  · exact ⟨_, _, rfl⟩

def tx (l : List ByteArray) (k : Nat) : ByteArray := l.getD k ByteArray.empty
/-- The data of the first k texts. -/
def txtTo (l : List ByteArray) : Nat → List UInt8
  | 0 => []
  | k + 1 => txtTo l k ++ (UInt8.ofNat (tx l k).size :: (tx l k).data.toList)
def okTx (l : List ByteArray) : Nat → Bool
  | 0 => true
  | k + 1 => okTx l k && (decide ((tx l k).size ≤ 255) && decide ((txtTo l k).length + 1 + (tx l k).size ≤ 1000))
theorem txtTo_len (l : List ByteArray) (k : Nat) : (txtTo l (k + 1)).length = (txtTo l k).length + 1 + (tx l k).size := by
  simp [txtTo]
  omega
theorem okTx_le {l : List ByteArray} {k : Nat} (h : okTx l k = true) : (txtTo l k).length ≤ 1000 := by
  cases k with
  | zero => simp [txtTo]
  | succ k =>
    simp only [okTx, Bool.and_eq_true, decide_eq_true_eq] at h
    rw [txtTo_len]
    omega
theorem okTx_no {l : List ByteArray} {k n : Nat} (hk : k < n) (h : okTx l (k + 1) = false) : okTx l n = false := by
  induction n with
  | zero => omega
  | succ n ih =>
    by_cases e : k = n
    · subst e; exact h
    · simp only [okTx, ih (by omega), Bool.false_and]
theorem okTx_at {l : List ByteArray} {k n : Nat} (hk : k < n) (h : okTx l n = true) : (tx l k).size ≤ 255 := by
  cases h2 : okTx l (k + 1)
  · have := okTx_no hk h2
    rw [h] at this
    exact absurd this (by simp)
  · simp only [okTx, Bool.and_eq_true, decide_eq_true_eq] at h2
    omega
theorem txt_bc (l : List ByteArray) (k : Nat) (s : ByteArray) (hs : tx l k = s) (h : s.size ≤ 255) : bc (txtTo l k) ++ Value.int .u8 (s.size : Int) :: Lib.strCells s = bc (txtTo l (k + 1)) := by
  subst hs
  rw [txtTo, strCells_bc, bc_append]
  have e : ((UInt8.ofNat (tx l k).size).toNat : Int) = ((tx l k).size : Int) := by rw [UInt8.toNat_ofNat_of_lt' (by have : UInt8.size = 256 := rfl; omega)]
  simp only [bc, List.map_cons, e]

theorem txtTo_pre (l : List ByteArray) (k n : Nat) (h : k ≤ n) : ∃ r, txtTo l n = txtTo l k ++ r := by
  induction n with
  | zero =>
    have : k = 0 := by omega
    subst this
    exact ⟨[], by simp⟩
  | succ n ih =>
    by_cases e : k = n + 1
    · subst e; exact ⟨[], by simp⟩
    · obtain ⟨r, hr⟩ := ih (by omega)
      exact ⟨r ++ _, by rw [txtTo, hr, List.append_assoc]⟩
theorem txt_byte (l : List ByteArray) (k n : Nat) (h : k < n) (hs : (tx l k).size ≤ 255) : (txtTo l k).length < (bs (txtTo l n)).size ∧ byteAt (bs (txtTo l n)) (txtTo l k).length = (tx l k).size := by
  obtain ⟨r, hr⟩ := txtTo_pre l (k + 1) n h
  rw [txtTo, List.append_assoc] at hr
  constructor
  · rw [bs_size, hr]; simp
  · rw [byteAt_bs, hr, List.getD_eq_getElem?_getD, List.getElem?_append_right (Nat.le_refl _)]
    simp only [Nat.sub_self, List.cons_append, List.getElem?_cons_zero, Option.getD_some]
    exact UInt8.toNat_ofNat_of_lt' (by have : UInt8.size = 256 := rfl; omega)
end Go.Proofs.Ytgppkpdjpcegbaa
end

section
namespace Go.Proofs.Ytgppkpdjpcegbaa
open Go.RowKit

def strOf : Value → Nat
  | .string x => x.size
  | _ => 0
/-- The name of labels. -/
def nameL (L : List ByteArray) : List UInt8 := txtTo L L.length ++ [0]
def nameB (L : List ByteArray) : ByteArray := bs (nameL L)
/-- Where the k-th label begins. -/
def off (L : List ByteArray) (k : Nat) : Nat := (txtTo L k).length
def OkL (L : List ByteArray) : Prop := ∀ k, k < L.length → 1 ≤ (tx L k).size ∧ (tx L k).size ≤ 63 ∧ anyG (tx L k) 0 (tx L k).size = false

theorem off_succ (L : List ByteArray) (k : Nat) : off L (k + 1) = off L k + 1 + (tx L k).size := txtTo_len L k
theorem off_zero (L : List ByteArray) : off L 0 = 0 := rfl
theorem off_mono (L : List ByteArray) {k n : Nat} (h : k ≤ n) : off L k ≤ off L n := by
  induction n with
  | zero =>
    have : k = 0 := by omega
    subst this; exact Nat.le_refl _
  | succ n ih =>
    by_cases e : k = n + 1
    · subst e; exact Nat.le_refl _
    · have := ih (by omega)
      rw [off_succ]; omega
theorem nameB_size (L : List ByteArray) : (nameB L).size = off L L.length + 1 := by rw [nameB, bs_size, nameL]; simp [off]
theorem tx_cons_zero (s : ByteArray) (L : List ByteArray) : tx (s :: L) 0 = s := rfl
theorem tx_cons_succ (s : ByteArray) (L : List ByteArray) (k : Nat) : tx (s :: L) (k + 1) = tx L k := by simp [tx]
theorem txtTo_cons (s : ByteArray) (L : List ByteArray) (k : Nat) : txtTo (s :: L) (k + 1) = UInt8.ofNat s.size :: (s.data.toList ++ txtTo L k) := by
  induction k with
  | zero => simp [txtTo, tx_cons_zero]
  | succ k ih =>
    rw [txtTo, ih, tx_cons_succ, txtTo]
    simp
theorem nameL_cons (s : ByteArray) (L : List ByteArray) : nameL (s :: L) = UInt8.ofNat s.size :: (s.data.toList ++ nameL L) := by
  rw [nameL, nameL, List.length_cons, txtTo_cons]
  simp
theorem byteAt_drop (s : ByteArray) (a j : Nat) : byteAt s (a + j) = ((s.data.toList.drop a).getD j 0).toNat := by
  rw [byteAt, List.getD_eq_getElem?_getD, List.getD_eq_getElem?_getD, List.getElem?_drop]
theorem extract_toList (s : ByteArray) (a b : Nat) : (s.extract a b).data.toList = (s.data.toList.drop a).take (b - a) := by
  rw [ByteArray.data_extract, Array.toList_extract, List.extract_eq_take_drop]
theorem ba_eq {s t : ByteArray} (h : s.data.toList = t.data.toList) : s = t := ByteArray.ext (Array.toList_inj.1 h)
theorem size_data (s : ByteArray) : s.data.toList.length = s.size := by simp

theorem okL_cons {s : ByteArray} {L : List ByteArray} (h1 : 1 ≤ s.size ∧ s.size ≤ 63 ∧ anyG s 0 s.size = false) (h : OkL L) : OkL (s :: L) := by
  intro k hk
  cases k with
  | zero => exact h1
  | succ k => rw [tx_cons_succ]; exact h k (by simpa using hk)
theorem okL_tail {s : ByteArray} {L : List ByteArray} (h : OkL (s :: L)) : OkL L := by
  intro k hk
  have := h (k + 1) (by simpa using hk)
  rwa [tx_cons_succ] at this

/-- A run that ends well is labels. -/
theorem run_labels (s : ByteArray) : ∀ d at', s.size - at' ≤ d → at' < s.size → mayRun s s.size at' = true → ∃ L, OkL L ∧ s.data.toList.drop at' = nameL L := by
  intro d
  induction d with
  | zero => intro at' h1 h2; omega
  | succ d ih =>
    intro at' h1 h2 hm
    by_cases hlt : at' + 1 < s.size
    · rw [mayRun_step s at' hlt, Bool.and_eq_true] at hm
      obtain ⟨hok, hm⟩ := hm
      obtain ⟨b, hb⟩ : ∃ b, byteAt s at' = b := ⟨_, rfl⟩
      rw [okStep, hb] at hok
      simp only [Bool.and_eq_true, decide_eq_true_eq, Bool.not_eq_true'] at hok
      obtain ⟨⟨⟨k1, k2⟩, k3⟩, k4⟩ := hok
      rw [hb] at hm
      obtain ⟨L, hL, hd⟩ := ih (at' + 1 + b) (by omega) k3 hm
      have hsz : (s.extract (at' + 1) (at' + 1 + b)).size = b := by rw [extract_size _ _ _ (by omega)]; omega
      refine ⟨s.extract (at' + 1) (at' + 1 + b) :: L, okL_cons ⟨by omega, by omega, ?_⟩ hL, ?_⟩
      · rw [hsz, ← k4]
        refine anyG_congr fun j hj => ?_
        rw [Nat.zero_add, byteAt_extract _ _ _ _ (by omega) (by omega)]
      · rw [nameL_cons, hsz, extract_toList, ← hd]
        have hl : at' < s.data.toList.length := by rw [size_data]; omega
        rw [List.drop_eq_getElem_cons hl]
        have hb' : s.data.toList[at'] = UInt8.ofNat b := by
          rw [← hb, byteAt, List.getD_eq_getElem?_getD, List.getElem?_eq_getElem hl]
          simp
        rw [hb', show at' + 1 + b - (at' + 1) = b by omega]
        congr 1
        have := (List.take_append_drop b (s.data.toList.drop (at' + 1))).symm
        rw [List.drop_drop] at this
        exact this
    · rw [mayRun_end s _ at' hlt, beq_iff_eq] at hm
      refine ⟨[], fun k hk => by simp at hk, ?_⟩
      have hl : at' < s.data.toList.length := by rw [size_data]; omega
      rw [List.drop_eq_getElem_cons hl]
      have h0 : s.data.toList[at'] = 0 := by
        rw [byteAt, List.getD_eq_getElem?_getD, List.getElem?_eq_getElem hl] at hm
        exact UInt8.toNat_inj.1 hm
      rw [h0, List.drop_eq_nil_of_le (by rw [size_data]; omega)]
      rfl
theorem may_labels {s : ByteArray} (h : mayN s = true) : ∃ L, OkL L ∧ off L L.length ≤ 254 ∧ s = nameB L := by
  simp only [mayN, Bool.and_eq_true, decide_eq_true_eq] at h
  obtain ⟨⟨h1, h2⟩, h3⟩ := h
  obtain ⟨L, hL, hd⟩ := run_labels s s.size 0 (by omega) (by omega) h3
  have hs : s = nameB L := ba_eq (by rw [List.drop_zero] at hd; rw [hd, nameB]; rfl)
  refine ⟨L, hL, ?_, hs⟩
  have := nameB_size L
  rw [← hs] at this
  omega

theorem name_drop (L : List ByteArray) (k : Nat) (hk : k ≤ L.length) : (nameB L).data.toList.drop (off L k) = nameL (L.drop k) := by
  induction k generalizing L with
  | zero => rfl
  | succ k ih =>
    cases L with
    | nil => simp at hk
    | cons s L =>
      have h1 := ih L (by simpa using hk)
      have e : off (s :: L) (k + 1) = (s.size + off L k) + 1 := by
        rw [off, txtTo_cons, off]; simp
      rw [e]
      show (nameL (s :: L)).drop _ = _
      rw [nameL_cons, List.drop_succ_cons, ← List.drop_drop]
      have : (s.data.toList ++ nameL L).drop s.size = nameL L := by
        rw [← size_data, List.drop_left]
      rw [this]
      exact h1
theorem drop_cons_tx (L : List ByteArray) (k : Nat) (hk : k < L.length) : L.drop k = tx L k :: L.drop (k + 1) := by
  rw [List.drop_eq_getElem_cons hk, tx, List.getD_eq_getElem?_getD, List.getElem?_eq_getElem hk]
  rfl
/-- What stands at a label's beginning. -/
theorem name_byte (L : List ByteArray) (k : Nat) (hk : k < L.length) (h : (tx L k).size ≤ 255) : byteAt (nameB L) (off L k) = (tx L k).size := by
  have := byteAt_drop (nameB L) (off L k) 0
  rw [Nat.add_zero] at this
  rw [this, name_drop L k (by omega), drop_cons_tx L k hk, nameL_cons]
  exact UInt8.toNat_ofNat_of_lt' (by have : UInt8.size = 256 := rfl; omega)
theorem name_end (L : List ByteArray) : byteAt (nameB L) (off L L.length) = 0 := by
  have := byteAt_drop (nameB L) (off L L.length) 0
  rw [Nat.add_zero] at this
  rw [this, name_drop L _ (Nat.le_refl _), List.drop_length]
  rfl
theorem name_label (L : List ByteArray) (k : Nat) (hk : k < L.length) : (nameB L).extract (off L k + 1) (off L k + 1 + (tx L k).size) = tx L k := by
  apply ba_eq
  rw [extract_toList, ← List.drop_drop, name_drop L k (by omega), drop_cons_tx L k hk, nameL_cons]
  rw [show off L k + 1 + (tx L k).size - (off L k + 1) = (tx L k).data.toList.length by rw [size_data]; omega]
  rw [List.drop_succ_cons, List.drop_zero, List.take_left]
theorem name_suffix (L : List ByteArray) (k : Nat) (hk : k ≤ L.length) : (nameB L).extract (off L k) (nameB L).size = nameB (L.drop k) := by
  apply ba_eq
  rw [extract_toList, name_drop L k hk, List.take_of_length_le]
  · rfl
  · rw [← name_drop L k hk, List.length_drop, size_data]; omega

theorem labels_run (L : List ByteArray) (h : OkL L) : ∀ d k, L.length - k = d → k ≤ L.length → mayRun (nameB L) (nameB L).size (off L k) = true := by
  intro d
  induction d with
  | zero =>
    intro k h1 h2
    have : k = L.length := by omega
    subst this
    rw [mayRun_end _ _ _ (by rw [nameB_size]; omega), name_end]
    rfl
  | succ d ih =>
    intro k h1 h2
    have hk : k < L.length := by omega
    obtain ⟨g1, g2, g3⟩ := h k hk
    have hs := off_succ L k
    have hm := off_mono L (show k + 1 ≤ L.length by omega)
    rw [mayRun_step _ _ (by rw [nameB_size]; omega), name_byte L k hk (by omega), show off L k + 1 + (tx L k).size = off L (k + 1) by omega, ih (k + 1) (by omega) (by omega), Bool.and_true]
    rw [okStep, name_byte L k hk (by omega)]
    simp only [Bool.and_eq_true, decide_eq_true_eq, Bool.not_eq_true']
    refine ⟨⟨⟨g1, g2⟩, by rw [nameB_size]; omega⟩, ?_⟩
    rw [← g3]
    refine anyG_congr fun j hj => ?_
    rw [Nat.zero_add, ← byteAt_extract (nameB L) (off L k + 1) (off L k + 1 + (tx L k).size) j (by rw [nameB_size]; omega) (by omega), name_label L k hk]
theorem labels_may {L : List ByteArray} (h : OkL L) (hsz : off L L.length ≤ 254) : mayN (nameB L) = true := by
  have hz := nameB_size L
  simp only [mayN, Bool.and_eq_true, decide_eq_true_eq]
  exact ⟨by omega, labels_run L h L.length 0 (by omega) (by omega)⟩
/-- One name, one list of labels. -/
theorem nameL_inj {L M : List ByteArray} (hL : OkL L) (hM : OkL M) (h : nameL L = nameL M) : L = M := by
  induction L generalizing M with
  | nil =>
    cases M with
    | nil => rfl
    | cons t M =>
      obtain ⟨g1, g2, _⟩ := hM 0 (by simp)
      rw [tx_cons_zero] at g1 g2
      rw [nameL_cons] at h
      have h0 : (0 : UInt8) = UInt8.ofNat t.size := (List.cons.inj h).1
      have := congrArg UInt8.toNat h0
      rw [UInt8.toNat_ofNat_of_lt' (by have : UInt8.size = 256 := rfl; omega)] at this
      simp at this
      exact absurd this (by omega)
  | cons s L ih =>
    obtain ⟨g1, g2, _⟩ := hL 0 (by simp)
    rw [tx_cons_zero] at g1 g2
    cases M with
    | nil =>
      rw [nameL_cons] at h
      have h0 : UInt8.ofNat s.size = 0 := (List.cons.inj h).1
      have := congrArg UInt8.toNat h0
      rw [UInt8.toNat_ofNat_of_lt' (by have : UInt8.size = 256 := rfl; omega)] at this
      have h9 : (0 : UInt8).toNat = 0 := rfl
      omega
    | cons t M =>
      obtain ⟨f1, f2, _⟩ := hM 0 (by simp)
      rw [tx_cons_zero] at f1 f2
      rw [nameL_cons, nameL_cons] at h
      obtain ⟨h0, h1⟩ := List.cons.inj h
      have h2 := congrArg UInt8.toNat h0
      rw [UInt8.toNat_ofNat_of_lt' (by have : UInt8.size = 256 := rfl; omega), UInt8.toNat_ofNat_of_lt' (by have : UInt8.size = 256 := rfl; omega)] at h2
      obtain ⟨k1, k2⟩ := List.append_inj h1 (by rw [size_data, size_data]; exact h2)
      rw [ba_eq k1, ih (okL_tail hL) (okL_tail hM) k2]
theorem nameB_inj {L M : List ByteArray} (hL : OkL L) (hM : OkL M) (h : nameB L = nameB M) : L = M := by
  apply nameL_inj hL hM
  have := congrArg (fun s : ByteArray => s.data.toList) h
  exact this
end Go.Proofs.Ytgppkpdjpcegbaa
end

section
namespace Go.Proofs.Ytgppkpdjpcegbaa
open Go.RowKit

/-- An array of bytes in a block. -/
def ArrAt (w : World) (q : Nat) (f : Nat → Int) : Prop := ∀ j, j < 127 → w.cell? ⟨q, j, none⟩ = some (.int .u8 (f j)) ∧ w.frozen? ⟨q, j, none⟩ = false
def arrL (f : Nat → Int) : List Value := (List.range 127).map fun j => Value.int .u8 (f j)
theorem arrL_length (f : Nat → Int) : (arrL f).length = 127 := by simp [arrL]
theorem arrL_at (f : Nat → Int) (j : Nat) (v : Value) (h : (arrL f)[j]? = some v) : j < 127 ∧ v = .int .u8 (f j) := by
  have hj : j < 127 := by
    have := (List.getElem?_eq_some_iff.1 h).1
    rwa [arrL_length] at this
  refine ⟨hj, ?_⟩
  simp [arrL, hj] at h
  exact h.symm
theorem arrL_get (f : Nat → Int) (j : Nat) (h : j < 127) : (arrL f)[j]? = some (.int .u8 (f j)) := by simp [arrL, h]
theorem ArrAt.range {w : World} {q : Nat} {f : Nat → Int} (h : ArrAt w q f) : w.rangeAt q 0 (arrL f) := by
  intro j v hv
  obtain ⟨h1, rfl⟩ := arrL_at f j v hv
  rw [Nat.zero_add]
  exact (h j h1).1
theorem ArrAt.there {w : World} {q : Nat} {f : Nat → Int} (h : ArrAt w q f) : w.there q 0 127 := by
  intro j hj
  rw [Nat.zero_add, (h j hj).1, (h j hj).2]
  exact ⟨rfl, rfl⟩
theorem arr_one (f : Nat → Int) : (arrL f).toArray.all (·.oneCell') = true := by
  refine all_oneCell_toArray ?_
  intro v hv
  simp only [arrL, List.mem_map] at hv
  obtain ⟨_, _, rfl⟩ := hv
  rfl
theorem arr_stored {w : World} {q : Nat} {f g : Nat → Int} (h : ArrAt w q g) : ArrAt (w.setCells q 0 (arrL f)) q f := by
  have ht := h.there
  have h1 := World.rangeAt_setCells_same w q 0 (arrL f) (by rw [arrL_length]; exact ht)
  have h2 := World.there_setCells ht q 0 (arrL f)
  intro j hj
  have k1 := h1 j _ (arrL_get f j hj)
  have k2 := (h2 j hj).2
  rw [Nat.zero_add] at k1 k2
  exact ⟨k1, k2⟩
theorem ArrAt.below {w w' : World} {q : Nat} {f : Nat → Int} (h : ArrAt w q f) (hb : Below w.heap.size w w') : ArrAt w' q f := by
  intro j hj
  obtain ⟨h1, h2⟩ := h j hj
  have hlt : q < w.heap.size := block_lt_of_cell h1
  exact ⟨by rw [hb.cell hlt]; exact h1, by rw [hb.frozen hlt]; exact h2⟩
theorem ArrAt.set {w : World} {q : Nat} {f : Nat → Int} (h : ArrAt w q f) {k : Nat} (hk : k < 127) (v : Int) : ArrAt (w.setCell ⟨q, k, none⟩ (.int .u8 v)) q (fun j => if j = k then v else f j) := by
  intro j hj
  obtain ⟨h1, h2⟩ := h j hj
  refine ⟨?_, by simpa using h2⟩
  show _ = some (Value.int .u8 (if j = k then v else f j))
  by_cases e : j = k
  · subst e
    rw [if_pos rfl]
    exact World.cell?_setCell_same _ _ _ h1
  · rw [if_neg e, World.cell?_setCell_other _ _ _ _ (by simp)]
    exact h1
theorem ArrAt.other {w : World} {q : Nat} {f : Nat → Int} (h : ArrAt w q f) {p : Addr} (hk : p.block ≠ q) (v : Value) : ArrAt (w.setCell p v) q f := by
  intro j hj
  obtain ⟨h1, h2⟩ := h j hj
  refine ⟨?_, by simpa using h2⟩
  rw [World.cell?_setCell_other _ _ _ _ (by rintro rfl; exact hk rfl)]
  exact h1
theorem below_setCells {B : Nat} {w w' : World} (h : Below B w w') {b : Nat} (hb : B ≤ b) (o : Nat) (vs : List Value) : Below B w (w'.setCells b o vs) := by
  induction vs generalizing o w' with
  | nil => exact h
  | cons v vs ih => exact ih (h.setCell hb v) (o + 1)
/-- A whole array stored: a world. -/
theorem store_arr {w : World} {q : Nat} {g : Nat → Int} (h : ArrAt w q g) (f : Nat → Int) {B : Nat} {w0 : World} (hb : Below B w0 w) (hB : B ≤ q) :
    ∃ w2, (storeCells ⟨q, 0, none⟩ (arrL f)).run Try.prog w = .ok () w2 ∧ ArrAt w2 q f ∧ Below B w0 w2 := by
  refine ⟨w.setCells q 0 (arrL f), ?_, arr_stored h, below_setCells hb hB 0 (arrL f)⟩
  have h1 := run_storeCells_cells (P := Try.prog) q 0 (arrL f) 0 w ?_ ?_ ?_
  · simpa using h1
  · intro j hj
    rw [arrL_length] at hj
    simp only [Nat.zero_add, (h j hj).1]; rfl
  · intro j hj
    rw [arrL_length] at hj
    simp only [Nat.zero_add, (h j hj).2]
  · intro v hv
    simp only [arrL, List.mem_map] at hv
    obtain ⟨_, _, rfl⟩ := hv
    rfl

def stF (L : List ByteArray) (k j : Nat) : Int := if j < k then (off L j : Int) else 0
theorem stF_next (L : List ByteArray) (k : Nat) : (fun j => if j = k then (off L k : Int) else stF L k j) = stF L (k + 1) := by
  funext j
  unfold stF
  by_cases e : j = k
  · subst e; rw [if_pos rfl, if_pos (by omega)]
  · rw [if_neg e]
    by_cases h : j < k
    · rw [if_pos h, if_pos (by omega)]
    · rw [if_neg h, if_neg (by omega)]
theorem off_ge (L : List ByteArray) (hL : OkL L) (k : Nat) (hk : k ≤ L.length) : 2 * k ≤ off L k := by
  induction k with
  | zero => exact Nat.zero_le _
  | succ k ih =>
    have := ih (by omega)
    have := off_succ L k
    obtain ⟨g, _, _⟩ := hL k (by omega)
    omega

end Go.Proofs.Ytgppkpdjpcegbaa
end

section
namespace Go.Proofs.Ytgppkpdjpcegbaa
open Go.RowKit

def endRun (s : ByteArray) (A : Nat) : Nat → Nat → Int
  | 0, _ => -1
  | f + 1, i => if i < s.size then (if byteAt s i = 0 then (if 255 < i + 1 - A then -1 else ((i + 1 : Nat) : Int)) else if 63 < byteAt s i then -1 else endRun s A f (i + byteAt s i + 1)) else -1
def gRun (s : ByteArray) : Nat → Nat → Bool
  | 0, _ => false
  | f + 1, i => if i < s.size then anyG s (i + 1) (min (byteAt s i) (s.size - (i + 1))) || gRun s f (i + byteAt s i + 1) else false

theorem endRun_more (s : ByteArray) (A : Nat) : ∀ (f i : Nat), s.size ≤ i + f → endRun s A (f + 1) i = endRun s A f i := by
  intro f
  induction f with
  | zero => intro i h; show (if i < s.size then _ else _) = _; rw [if_neg (by omega)]; rfl
  | succ f ih =>
    intro i h
    show (if i < s.size then (if byteAt s i = 0 then (if 255 < i + 1 - A then -1 else ((i + 1 : Nat) : Int)) else if 63 < byteAt s i then -1 else endRun s A (f + 1) (i + byteAt s i + 1)) else -1) = (if i < s.size then (if byteAt s i = 0 then (if 255 < i + 1 - A then -1 else ((i + 1 : Nat) : Int)) else if 63 < byteAt s i then -1 else endRun s A f (i + byteAt s i + 1)) else -1)
    rw [ih _ (by omega)]
theorem endRun_step (s : ByteArray) (A i : Nat) : endRun s A s.size i = if i < s.size then (if byteAt s i = 0 then (if 255 < i + 1 - A then -1 else ((i + 1 : Nat) : Int)) else if 63 < byteAt s i then -1 else endRun s A s.size (i + byteAt s i + 1)) else -1 := by
  rw [← endRun_more s A s.size i (by omega)]
  rfl
theorem gRun_more (s : ByteArray) : ∀ (f i : Nat), s.size ≤ i + f → gRun s (f + 1) i = gRun s f i := by
  intro f
  induction f with
  | zero => intro i h; show (if i < s.size then _ else _) = _; rw [if_neg (by omega)]; rfl
  | succ f ih =>
    intro i h
    show (if i < s.size then anyG s (i + 1) (min (byteAt s i) (s.size - (i + 1))) || gRun s (f + 1) (i + byteAt s i + 1) else false) = (if i < s.size then anyG s (i + 1) (min (byteAt s i) (s.size - (i + 1))) || gRun s f (i + byteAt s i + 1) else false)
    rw [ih _ (by omega)]
theorem gRun_step (s : ByteArray) (i : Nat) : gRun s s.size i = if i < s.size then anyG s (i + 1) (min (byteAt s i) (s.size - (i + 1))) || gRun s s.size (i + byteAt s i + 1) else false := by
  rw [← gRun_more s s.size i (by omega)]
  rfl

theorem ref_run (s : ByteArray) (h255 : s.size ≤ 255) : ∀ (d i : Nat), i < s.size → s.size - i ≤ d → (!gRun s s.size i && endRun s 0 s.size i == (s.size : Int)) = mayRun s s.size i := by
  intro d
  induction d with
  | zero => intro i h1 h2; omega
  | succ d ih =>
    intro i h1 h2
    rw [gRun_step, endRun_step, if_pos h1, if_pos h1]
    by_cases hl : i + 1 < s.size
    · rw [mayRun_step s i hl]
      by_cases k0 : byteAt s i = 0
      · rw [if_pos k0, if_neg (by omega), okStep, k0]
        simp
        intros
        omega
      · rw [if_neg k0]
        by_cases k63 : 63 < byteAt s i
        · rw [if_pos k63, okStep, dF (p := byteAt s i ≤ 63) (by omega)]
          simp
        · rw [if_neg k63]
          by_cases kn : i + 1 + byteAt s i < s.size
          · have hi := ih (i + byteAt s i + 1) (by omega) (by omega)
            have e : i + 1 + byteAt s i = i + byteAt s i + 1 := by omega
            rw [e, ← hi, okStep, dT (p := 1 ≤ byteAt s i) (by omega), dT (p := byteAt s i ≤ 63) (by omega), dT kn, Nat.min_eq_left (by omega)]
            cases anyG s (i + 1) (byteAt s i) <;> simp
          · rw [endRun_step, if_neg (by omega), okStep, dF kn]
            simp
    · rw [mayRun_end s s.size i hl]
      by_cases k0 : byteAt s i = 0
      · rw [if_pos k0, if_neg (by omega), gRun_step, if_neg (by omega), k0]
        simp [anyG]
        omega
      · have e : (byteAt s i == 0) = false := by simpa using k0
        have e2 : endRun s 0 s.size (i + byteAt s i + 1) = -1 := by rw [endRun_step, if_neg (by omega)]
        rw [if_neg k0, e, e2]
        split <;> simp

theorem endRun_255 (s : ByteArray) : ∀ (f i : Nat), endRun s 0 f i ≤ 255 := by
  intro f
  induction f with
  | zero => intro i; simp [endRun]
  | succ f ih =>
    intro i
    simp only [endRun]
    repeat' split
    all_goals first | omega | exact ih _

theorem ref_may (s : ByteArray) : (!gRun s s.size 0 && endRun s 0 s.size 0 == (s.size : Int)) = mayN s := by
  by_cases h0 : s.size = 0
  · rw [endRun_step, if_neg (by omega), mayN, dF (p := 1 ≤ s.size ∧ s.size ≤ 255) (by omega)]
    simp
  · by_cases h : s.size ≤ 255
    · rw [ref_run s h s.size 0 (by omega) (by omega), mayN, dT (p := 1 ≤ s.size ∧ s.size ≤ 255) (by omega)]
      rfl
    · have := endRun_255 s s.size 0
      rw [mayN, dF (p := 1 ≤ s.size ∧ s.size ≤ 255) (by omega)]
      simp
      omega

end Go.Proofs.Ytgppkpdjpcegbaa
end

section
namespace Go.Proofs.Ytgppkpdjpcegbaa
open Go.RowKit

theorem anyG_up {s : ByteArray} {a n m : Nat} (h : anyG s a n = true) (hnm : n ≤ m) : anyG s a m = true := by
  induction m with
  | zero => have : n = 0 := by omega
            subst this; exact h
  | succ m ih =>
    by_cases e : n = m + 1
    · subst e; exact h
    · simp only [anyG]; rw [ih (by omega)]; simp

end Go.Proofs.Ytgppkpdjpcegbaa
end

section
namespace Go.Proofs.Ytgppkpdjpcegbaa
open Go.RowKit

/-- Texts as cells. -/
def sc (l : List ByteArray) : List Value := l.map Value.string
theorem sc_oneCell (l : List ByteArray) : ∀ u ∈ sc l, u.oneCell' = true := by
  intro u hu
  simp only [sc, List.mem_map] at hu
  obtain ⟨_, _, rfl⟩ := hu
  rfl
theorem sc_append (l m : List ByteArray) : sc (l ++ m) = sc l ++ sc m := by simp [sc]
theorem infoStr : (Try.prog.info? 9).map (fun i => (i.zero, i.size, i.bytes)) = some (some (.string ⟨#[]⟩), 1, 16) := by kernel_rfl
theorem rowS_of_own {w : World} {B n : Nat} {v : Value} {l : List ByteArray} (h : w.ownsRow B 9 1 v n (sc l)) : ∃ a c, v = .slice a n c ∧ RowS w a n l ∧ (a = none → n = 0 ∧ c = 0) := by
  have hl : l.length = n := by have := h.1; simp only [sc, List.length_map, Nat.mul_one] at this; exact this
  rcases h.2 with ⟨rfl, rfl⟩ | ⟨g, cap, cur, rfl, hb, hg, rest⟩
  · exact ⟨none, 0, rfl, ⟨hl, Or.inl rfl⟩, fun _ => ⟨rfl, rfl⟩⟩
  · refine ⟨_, _, rfl, ⟨hl, Or.inr ⟨g, 0, rfl, (Array.getElem?_eq_some_iff.1 hg).1, fun j hj => ?_⟩⟩, fun h => by cases h⟩
    rw [Nat.zero_add, h.cellAt j (by omega)]
    simp [sc, show j < l.length by omega]
theorem one_str (s : ByteArray) : ∀ u ∈ [Value.string s], u.oneCell' = true := by
  intro u hu
  simp only [List.mem_cons, List.not_mem_nil, or_false] at hu
  subst hu
  rfl
theorem below_appendS {w wr w' : World} {v : Value} {B n : Nat} {xs : List Value} {o : Obj} (hb : Below B w wr) (hB : B ≤ wr.heap.size) (hown : wr.ownsRow B 9 1 v n xs) (hg : (wr.alloc o).grownBy w' v.ownBlock) : Below B w w' :=
  (hb.alloc hB o).grown hg (by simp; omega) (fun k hk => (hown.lt k hk).1)
/-- Some labels laid, the others not yet. -/
def halfL (L : List ByteArray) (k : Nat) : List Value := sc (L.take k) ++ List.replicate (L.length - k) (.string ⟨#[]⟩)
theorem halfL_next (L : List ByteArray) (k : Nat) (hk : k < L.length) : (halfL L k).set k (.string (tx L k)) = halfL L (k + 1) := by
  have e1 : (sc (L.take k)).length = k := by simp [sc]; omega
  rw [halfL, List.set_append_right _ _ (by omega), e1, Nat.sub_self, show L.length - k = (L.length - (k + 1)) + 1 by omega, List.replicate_succ, List.set_cons_zero, halfL, List.take_succ_eq_append_getElem hk, sc_append]
  simp [sc, tx, List.getD_eq_getElem?_getD, List.getElem?_eq_getElem hk]
theorem halfL_at (L : List ByteArray) (k : Nat) (hk : k < L.length) : (halfL L k)[k]? = some (.string ⟨#[]⟩) := by
  have e1 : (sc (L.take k)).length = k := by simp [sc]; omega
  rw [halfL, List.getElem?_append_right (by omega), e1, Nat.sub_self, show L.length - k = (L.length - (k + 1)) + 1 by omega, List.replicate_succ]
  rfl
theorem halfL_end (L : List ByteArray) : halfL L L.length = sc L := by simp [halfL]

end Go.Proofs.Ytgppkpdjpcegbaa
end

section
namespace Go.Proofs.Ytgppkpdjpcegbaa
open Go.RowKit

theorem append_rowS {w : World} {ops : Array Oper} {rest : List Oper} {o : Oper} {act : Act} {Q : Exit → Act → World → Prop} (hgd : o.guard = none) (s x : Operand)
    (ho : o.op = .call { callee := .builtin .append, args := #[s, x], argTypes := #[56, 56] })
    (B : Nat) (v : Value) (n : Nat) (xs : List Value) (hs : act.eval s = v) (hown : w.ownsRow B 9 1 v n xs)
    (a : Option Addr) (len cap : Nat) (l : List ByteArray) (hx : act.eval x = .slice a len cap) (hn : a = none → len = 0 ∧ cap = 0) (hr : RowS w a len l)
    (hb : n + len ≤ 1000000) (hbase : B ≤ w.heap.size)
    (h : ∀ v' w', w'.ownsRow B 9 1 v' (n + len) (xs ++ sc l) → w.grownBy w' v.ownBlock → wpList Try.prog ops Q rest (act.put o.dst v') w') : wpList Try.prog ops Q (o :: rest) act w := by
  obtain ⟨i0, hi, hz0, hz1, hz2⟩ := info_parts infoStr
  cases a with
  | none =>
    obtain ⟨rfl, rfl⟩ := hn rfl
    have hl : l = [] := List.eq_nil_of_length_eq_zero hr.1
    subst hl
    refine wpList_append_own_none hgd s x 56 ho B 9 i0 1 Try.underlying56 hi v n xs hs hown hx ?_
    refine h v w ?_ (World.grownBy.refl _ _)
    simpa [sc] using hown
  | some ad =>
    refine wpList_append_own w hgd s x 56 ho B 9 i0 (.string ⟨#[]⟩) 1 16 Try.underlying56 hi hz0 hz1 hz2 rfl (by decide) v n xs hs hown ad len cap (sc l) hx (by simp [sc, hr.1]) ?_ (sc_oneCell l) (by unfold maxLen; omega) (by omega) hbase (fun v' w' h1 h2 _ => h v' w' h1 h2)
    intro j u hj
    have hjl : j < l.length := by
      have := (List.getElem?_eq_some_iff.1 hj).1
      simpa [sc] using this
    rcases hr.2 with h0 | ⟨b, off, hab, _, hc⟩
    · have := hr.1; omega
    · simp only [Option.some.injEq] at hab
      subst hab
      have e : (⟨b, off, none⟩ : Addr).add j = ⟨b, off + j, none⟩ := by simp only [Addr.add]; split <;> simp_all
      rw [e, hc j (by rw [← hr.1]; exact hjl)]
      simp only [sc, List.getElem?_map, List.getElem?_eq_getElem hjl, Option.map_some, Option.some.injEq] at hj
      rw [← hj, List.getD_eq_getElem?_getD, List.getElem?_eq_getElem hjl]
      rfl

theorem own_mono {w : World} {B B' n : Nat} {e : TypeId} {v : Value} {xs : List Value} (h : w.ownsRow B e 1 v n xs) (hB : B' ≤ B) : w.ownsRow B' e 1 v n xs := by
  refine ⟨h.1, ?_⟩
  rcases h.2 with h0 | ⟨g, cap, cur, h1, h2, h3⟩
  · exact Or.inl h0
  · exact Or.inr ⟨g, cap, cur, h1, Nat.le_trans hB h2, h3⟩
theorem RowS.nil {w : World} {a : Option Addr} {len cap : Nat} {ss : List ByteArray} (h : IsRowS w a len cap ss) : a = none → len = 0 ∧ cap = 0 := by
  intro ha
  rcases h with ⟨_, h1, h2, _⟩ | ⟨x, hx, _⟩
  · exact ⟨h1, h2⟩
  · rw [ha] at hx; cases hx

end Go.Proofs.Ytgppkpdjpcegbaa
end

section
namespace Go.Proofs.Ytgppkpdjpcegbaa
open Go.RowKit

/-- The cells of a slice, wherever it lies. -/
def CellsAt (w : World) (a : Option Addr) (n : Nat) (cs : List Value) : Prop :=
  cs.length = n ∧ (n = 0 ∨ ∃ b off, a = some ⟨b, off, none⟩ ∧ b < w.heap.size ∧ ∀ j u, cs[j]? = some u → w.cell? ⟨b, off + j, none⟩ = some u)
theorem CellsAt.below {w w' : World} {a : Option Addr} {n : Nat} {cs : List Value} (h : CellsAt w a n cs) (hb : Below w.heap.size w w') : CellsAt w' a n cs := by
  refine ⟨h.1, ?_⟩
  rcases h.2 with h2 | ⟨b, off, rfl, hlt, hc⟩
  · exact Or.inl h2
  · exact Or.inr ⟨b, off, rfl, Nat.lt_of_lt_of_le hlt hb.size, fun j u hj => by rw [hb.cell hlt]; exact hc j u hj⟩
theorem cells_own {w : World} {B n : Nat} {e : TypeId} {v : Value} {xs : List Value} (h : w.ownsRow B e 1 v n xs) : ∃ a c, v = .slice a n c ∧ CellsAt w a n xs ∧ (a = none → n = 0 ∧ c = 0) := by
  have hl : xs.length = n := by have := h.1; omega
  rcases h.2 with ⟨rfl, rfl⟩ | ⟨g, cap, cur, rfl, hb, hg, rest⟩
  · exact ⟨none, 0, rfl, ⟨hl, Or.inl rfl⟩, fun _ => ⟨rfl, rfl⟩⟩
  · refine ⟨_, _, rfl, ⟨hl, Or.inr ⟨g, 0, rfl, (Array.getElem?_eq_some_iff.1 hg).1, fun j u hj => ?_⟩⟩, fun h => by cases h⟩
    have := h.cells (g := g) rfl j u hj
    rw [show (⟨g, 0, none⟩ : Addr).add j = ⟨g, 0 + j, none⟩ by simp only [Addr.add]; split <;> simp_all] at this
    exact this
/-- append of a slice, wherever it lies, onto a row of the call's own. -/
theorem append_cells {w : World} {ops : Array Oper} {rest : List Oper} {o : Oper} {act : Act} {Q : Exit → Act → World → Prop} (hgd : o.guard = none) (s x : Operand) (t e : TypeId)
    (ho : o.op = .call { callee := .builtin .append, args := #[s, x], argTypes := #[t, t] })
    (i : TypeInfo) (z : Value) (bytes : Nat) (ht : Try.prog.underlying t = some (.slice e)) (hi : Try.prog.info? e = some i) (hz : i.zero = some z) (hsize : i.size = 1) (hby : i.bytes = bytes) (hzs : z.cells.size = 1)
    (B : Nat) (v : Value) (n : Nat) (xs : List Value) (hs : act.eval s = v) (hown : w.ownsRow B e 1 v n xs)
    (a : Option Addr) (len cap : Nat) (cs : List Value) (hx : act.eval x = .slice a len cap) (hn : a = none → len = 0 ∧ cap = 0) (hr : CellsAt w a len cs) (h1 : ∀ u ∈ cs, u.oneCell' = true)
    (hb : n + len ≤ 1000000) (hb2 : bytes ≤ 64) (hbase : B ≤ w.heap.size)
    (h : ∀ v' w', w'.ownsRow B e 1 v' (n + len) (xs ++ cs) → w.grownBy w' v.ownBlock → wpList Try.prog ops Q rest (act.put o.dst v') w') : wpList Try.prog ops Q (o :: rest) act w := by
  cases a with
  | none =>
    obtain ⟨rfl, rfl⟩ := hn rfl
    have hl : cs = [] := List.eq_nil_of_length_eq_zero hr.1
    subst hl
    refine wpList_append_own_none hgd s x t ho B e i 1 ht hi v n xs hs hown hx ?_
    refine h v w ?_ (World.grownBy.refl _ _)
    simpa using hown
  | some ad =>
    have hm : (n + len) * bytes ≤ 1000000 * 64 := Nat.mul_le_mul hb hb2
    refine wpList_append_own w hgd s x t ho B e i z 1 bytes ht hi hz hsize hby hzs (by decide) v n xs hs hown ad len cap cs hx (by rw [hr.1, Nat.mul_one]) ?_ h1 (by unfold maxLen; omega) (by omega) hbase (fun v' w' h1 h2 _ => h v' w' h1 h2)
    intro j u hj
    rcases hr.2 with h0 | ⟨b, off, hab, _, hc⟩
    · have h3 := hr.1
      have h4 := (List.getElem?_eq_some_iff.1 hj).1
      omega
    · simp only [Option.some.injEq] at hab
      subst hab
      rw [show (⟨b, off, none⟩ : Addr).add j = ⟨b, off + j, none⟩ by simp only [Addr.add]; split <;> simp_all]
      exact hc j u hj

theorem own_below' {w w' : World} {base : Nat} {e : TypeId} {size : Nat} {v : Value} {n : Nat} {xs : List Value} (h : w.ownsRow base e size v n xs) (hb : Below w.heap.size w w') : w'.ownsRow base e size v n xs :=
  h.kept (row := none) ⟨hb.os, hb.tape, hb.output, hb.size, fun k hk _ => hb.block k hk⟩ (by cases hv : v.ownBlock with
    | none => exact Or.inl rfl
    | some x => exact Or.inr (by simp))
/-- The bytes of a slice. -/
def RowB (w : World) (a : Option Addr) (n : Nat) (l : List UInt8) : Prop := CellsAt w a n (bc l)
theorem RowB.len {w : World} {a : Option Addr} {n : Nat} {l : List UInt8} (h : RowB w a n l) : l.length = n := by have := h.1; rwa [bc_length] at this
theorem RowB.at {w : World} {a : Option Addr} {n : Nat} {l : List UInt8} (h : RowB w a n l) (hn : 0 < n) : ∃ b off, a = some ⟨b, off, none⟩ ∧ b < w.heap.size ∧ ∀ j, j < n → w.cell? ⟨b, off + j, none⟩ = some (.int .u8 ((l.getD j 0).toNat : Int)) := by
  have hl := h.len
  rcases h.2 with h0 | ⟨b, off, rfl, hlt, hc⟩
  · omega
  · refine ⟨b, off, rfl, hlt, fun j hj => hc j _ ?_⟩
    simp [bc, List.getD_eq_getElem?_getD, List.getElem?_eq_getElem (show j < l.length by omega)]
/-- A part of a slice of bytes. -/
theorem RowB.part {w : World} {b off n : Nat} {l : List UInt8} (h : RowB w (some ⟨b, off, none⟩) n l) (lo hi : Nat) (h1 : lo ≤ hi) (h2 : hi ≤ n) (a : Option Addr) (ha : lo < hi → a = some ⟨b, off + lo, none⟩) : RowB w a (hi - lo) ((l.drop lo).take (hi - lo)) := by
  have hl := h.len
  refine ⟨by rw [bc_length, List.length_take, List.length_drop]; omega, ?_⟩
  by_cases h0 : hi - lo = 0
  · exact Or.inl h0
  · right
    rcases h.2 with h3 | ⟨b', off', he, hlt, hc⟩
    · omega
    · injection he with he; injection he with e1 e2; subst e1 e2
      refine ⟨b, off + lo, ha (by omega), hlt, fun j u hj => ?_⟩
      have hj2 : (bc l)[lo + j]? = some u := by
        rw [bc, List.getElem?_map, List.getElem?_take] at hj
        split at hj
        · rw [List.getElem?_drop] at hj
          rw [bc, List.getElem?_map]; exact hj
        · simp at hj
      rw [Nat.add_assoc]
      exact hc (lo + j) u hj2
/-- string(b). -/
theorem conv_row {w : World} {a : Option Addr} {n cap : Nat} {l : List UInt8} (h : RowB w a n l) (hn : a = none → n = 0 ∧ cap = 0) : (convert 22 9 (.slice a n cap)).run Try.prog w = .ok (.string (bs l)) w := by
  have hl := h.len
  subst hl
  cases a with
  | none =>
    obtain ⟨h1, rfl⟩ := hn rfl
    have : l = [] := List.eq_nil_of_length_eq_zero h1
    subst this
    have := run_convert_bytes_string (P := Try.prog) w 22 9 5 none 0 0 Try.underlying22 Try.underlying5 Try.underlying9
    rw [show (([] : List UInt8).length) = 0 from rfl, this]
    simp [bs]
    rfl
  | some x =>
    refine run_convert_bytes_back w _ _ 5 x cap l Try.underlying22 Try.underlying5 Try.underlying9 ?_
    intro j hj
    obtain ⟨b, off, he, _, hc⟩ := h.at (by omega)
    injection he with he
    subst he
    have := hc j hj
    rw [List.getD_eq_getElem?_getD, List.getElem?_eq_getElem hj] at this
    rw [show (⟨b, off, none⟩ : Addr).add j = ⟨b, off + j, none⟩ by simp only [Addr.add]; split <;> simp_all]
    exact this

theorem infoBs : (Try.prog.info? 22).map (fun i => (i.zero, i.size, i.bytes)) = some (some (.slice none 0 0), 1, 24) := by kernel_rfl
/-- A slice's value reads as bytes. -/
def ValB (w : World) (u : Value) (m : List UInt8) : Prop := ∃ a c, u = .slice a m.length c ∧ RowB w a m.length m ∧ (a = none → m.length = 0 ∧ c = 0)
theorem ValB.below {w w' : World} {u : Value} {m : List UInt8} (h : ValB w u m) (hb : Below w.heap.size w w') : ValB w' u m := by
  obtain ⟨a, c, h1, h2, h3⟩ := h
  exact ⟨a, c, h1, CellsAt.below h2 hb, h3⟩
theorem ValB.own {w : World} {B n : Nat} {v : Value} {m : List UInt8} (h : w.ownsRow B 5 1 v n (bc m)) : ValB w v m := by
  have hl : m.length = n := by have := h.1; rw [bc_length] at this; omega
  obtain ⟨a, c, h1, h2, h3⟩ := cells_own h
  subst hl
  exact ⟨a, c, h1, h2, h3⟩
/-- The slices of a slice. -/
def RowBB (w : World) (a : Option Addr) (n : Nat) (M : List (List UInt8)) : Prop :=
  ∃ cs, CellsAt w a n cs ∧ M.length = n ∧ ∀ j u, cs[j]? = some u → ValB w u (M.getD j [])
theorem RowBB.below {w w' : World} {a : Option Addr} {n : Nat} {M : List (List UInt8)} (h : RowBB w a n M) (hb : Below w.heap.size w w') : RowBB w' a n M := by
  obtain ⟨cs, h1, h2, h3⟩ := h
  exact ⟨cs, h1.below hb, h2, fun j u hj => (h3 j u hj).below hb⟩
theorem RowBB.at {w : World} {a : Option Addr} {n : Nat} {M : List (List UInt8)} (h : RowBB w a n M) (j : Nat) (hj : j < n) : ∃ b off ai ci, a = some ⟨b, off, none⟩ ∧ b < w.heap.size ∧ w.cell? ⟨b, off + j, none⟩ = some (.slice ai (M.getD j []).length ci) ∧ RowB w ai (M.getD j []).length (M.getD j []) ∧ (ai = none → (M.getD j []).length = 0 ∧ ci = 0) := by
  obtain ⟨cs, h1, h2, h3⟩ := h
  have hl := h1.1
  rcases h1.2 with h0 | ⟨b, off, rfl, hlt, hc⟩
  · omega
  · obtain ⟨u, hu⟩ : ∃ u, cs[j]? = some u := ⟨cs[j]'(by omega), List.getElem?_eq_getElem (by omega)⟩
    obtain ⟨ai, ci, rfl, hr, hn⟩ := h3 j u hu
    exact ⟨b, off, ai, ci, rfl, hlt, hc j _ hu, hr, hn⟩
/-- A slice's bytes lie apart from rows of slices that are made from block B on. -/
def Apart (B : Nat) (w : World) (u : Value) : Prop := ∀ (ad : Addr) (n c : Nat), u = Value.slice (some ad) n c → n = 0 ∨ ad.block < B ∨ ∃ cur fr, w.heap[ad.block]? = some (.cells cur 5 fr)
theorem Apart.ne {B n k c : Nat} {w : World} {ad : Addr} {v : Value} {xs : List Value} (h : Apart B w (.slice (some ad) k c)) (hk : k ≠ 0) (ho : w.ownsRow B 22 1 v n xs) : some ad.block ≠ v.ownBlock := by
  intro e
  rcases ho.2 with ⟨rfl, _⟩ | ⟨g, cap, cur, rfl, hB, hgg, _⟩
  · cases e
  · have e2 : ad.block = g := by simpa [Value.ownBlock] using e
    rcases h ad k c rfl with h1 | h1 | ⟨cur', fr, h1⟩
    · exact hk h1
    · omega
    · rw [e2, hgg] at h1
      simp at h1
theorem Apart.grow {B n : Nat} {w w' : World} {u v : Value} {xs : List Value} (h : Apart B w u) (ho : w.ownsRow B 22 1 v n xs) (hlt : ∀ (ad : Addr) (k c : Nat), u = Value.slice (some ad) k c → k = 0 ∨ ad.block < w.heap.size) (hg : w.grownBy w' v.ownBlock) : Apart B w' u := by
  intro ad k c e
  subst e
  by_cases hk : k = 0
  · exact Or.inl hk
  rcases h ad k c rfl with h1 | h1 | ⟨cur, fr, h1⟩
  · exact absurd h1 hk
  · exact Or.inr (Or.inl h1)
  · refine Or.inr (Or.inr ⟨cur, fr, ?_⟩)
    rw [hg.block _ (by rcases hlt ad k c rfl with h2 | h2; exact absurd h2 hk; exact h2) (h.ne hk ho)]
    exact h1
theorem ValB.lt {w : World} {u : Value} {m : List UInt8} (h : ValB w u m) : ∀ (ad : Addr) (k c : Nat), u = Value.slice (some ad) k c → k = 0 ∨ ad.block < w.heap.size := by
  intro ad k c e
  obtain ⟨a, c', rfl, hr, _⟩ := h
  injection e with e1 e2 e3
  subst e2
  rcases hr.2 with h0 | ⟨b, off, h1, h2, _⟩
  · exact Or.inl h0
  · rw [h1] at e1; injection e1 with e1; subst e1; exact Or.inr h2
theorem ValB.grow {B n : Nat} {w w' : World} {u v : Value} {m : List UInt8} {xs : List Value} (h : ValB w u m) (ha : Apart B w u) (ho : w.ownsRow B 22 1 v n xs) (hg : w.grownBy w' v.ownBlock) : ValB w' u m := by
  obtain ⟨a, c, rfl, hr, hn⟩ := h
  refine ⟨a, c, rfl, ⟨hr.1, ?_⟩, hn⟩
  rcases hr.2 with h0 | ⟨b, off, rfl, hlt, hc⟩
  · exact Or.inl h0
  · by_cases hz : m.length = 0
    · exact Or.inl hz
    exact Or.inr ⟨b, off, rfl, Nat.lt_of_lt_of_le hlt hg.size, fun j x hj => hg.cell (hc j x hj) (ha.ne hz ho)⟩
theorem Apart.own {B B' n : Nat} {w : World} {v : Value} {xs : List Value} (h : w.ownsRow B' 5 1 v n xs) : Apart B w v := by
  intro ad k c e
  rcases h.2 with ⟨rfl, _⟩ | ⟨g, cap, cur, rfl, hB, hgg, _⟩
  · cases e
  · injection e with e1 e2 e3
    injection e1 with e1
    subst e1
    exact Or.inr (Or.inr ⟨cur, _, hgg⟩)
theorem Apart.old {B : Nat} {w0 w : World} {u : Value} {m : List UInt8} (h : ValB w0 u m) (hB : w0.heap.size ≤ B) : Apart B w u := by
  intro ad k c e
  rcases h.lt ad k c e with h1 | h1
  · exact Or.inl h1
  · exact Or.inr (Or.inl (by omega))
/-- A slice of slices that a call owns, the slices lying apart. -/
def OwnBB (w : World) (B : Nat) (v : Value) (M : List (List UInt8)) : Prop :=
  ∃ xs, w.ownsRow B 22 1 v M.length xs ∧ ∀ j u, xs[j]? = some u → ValB w u (M.getD j []) ∧ Apart B w u
theorem OwnBB.nil (w : World) (B : Nat) : OwnBB w B (.slice none 0 0) [] := ⟨[], World.ownsRow_nil _ _ _ _, fun j u h => by simp at h⟩
theorem OwnBB.row {w : World} {B : Nat} {v : Value} {M : List (List UInt8)} (h : OwnBB w B v M) : ∃ a c, v = .slice a M.length c ∧ RowBB w a M.length M ∧ (a = none → M.length = 0 ∧ c = 0) := by
  obtain ⟨xs, h1, h2⟩ := h
  obtain ⟨a, c, rfl, h3, h4⟩ := cells_own h1
  exact ⟨a, c, rfl, ⟨xs, h3, rfl, fun j u hj => (h2 j u hj).1⟩, h4⟩
theorem OwnBB.below {w w' : World} {B : Nat} {v : Value} {M : List (List UInt8)} (h : OwnBB w B v M) (hb : Below w.heap.size w w') : OwnBB w' B v M := by
  obtain ⟨xs, h1, h2⟩ := h
  refine ⟨xs, h1.kept (row := none) ⟨hb.os, hb.tape, hb.output, hb.size, fun k hk _ => hb.block k hk⟩ (by cases hv : v.ownBlock with
    | none => exact Or.inl rfl
    | some x => exact Or.inr (by simp)), fun j u hj => ⟨(h2 j u hj).1.below hb, ?_⟩⟩
  intro ad k c e
  have h3 := (h2 j u hj).1.lt ad k c e
  rcases (h2 j u hj).2 ad k c e with h4 | h4 | ⟨cur, fr, h4⟩
  · exact Or.inl h4
  · exact Or.inr (Or.inl h4)
  · rcases h3 with h5 | h5
    · exact Or.inl h5
    · exact Or.inr (Or.inr ⟨cur, fr, by rw [hb.block _ h5]; exact h4⟩)
/-- One slice more. -/
theorem OwnBB.more {w w' : World} {B : Nat} {v v' u : Value} {M : List (List UInt8)} {m : List UInt8} {xs : List Value} (h1 : w.ownsRow B 22 1 v M.length xs) (h2 : ∀ j u, xs[j]? = some u → ValB w u (M.getD j []) ∧ Apart B w u) (hu : ValB w u m) (ha : Apart B w u) (ho : w'.ownsRow B 22 1 v' (M.length + 1) (xs ++ [u])) (hg : w.grownBy w' v.ownBlock) : OwnBB w' B v' (M ++ [m]) := by
  have hl : xs.length = M.length := by have := h1.1; omega
  refine ⟨xs ++ [u], by rw [List.length_append]; exact ho, fun j x hj => ?_⟩
  by_cases hj2 : j < M.length
  · rw [List.getElem?_append_left (by omega)] at hj
    obtain ⟨q1, q2⟩ := h2 j x hj
    have e : (M ++ [m]).getD j [] = M.getD j [] := by rw [List.getD_eq_getElem?_getD, List.getD_eq_getElem?_getD, List.getElem?_append_left hj2]
    rw [e]
    exact ⟨q1.grow q2 h1 hg, q2.grow h1 q1.lt hg⟩
  · rw [List.getElem?_append_right (by omega)] at hj
    have hj3 : j = M.length := by
      have := (List.getElem?_eq_some_iff.1 hj).1
      simp at this; omega
    subst hj3
    rw [hl, Nat.sub_self] at hj
    simp at hj
    subst hj
    have e : (M ++ [m]).getD M.length [] = m := by rw [List.getD_eq_getElem?_getD, List.getElem?_append_right (Nat.le_refl _), Nat.sub_self]; rfl
    rw [e]
    exact ⟨hu.grow ha h1 hg, ha.grow h1 hu.lt hg⟩
/-- Slices that came in, behind those that are there. -/
theorem OwnBB.many {w0 w w' : World} {B n : Nat} {v v' : Value} {M K : List (List UInt8)} {xs ys : List Value} (h1 : w.ownsRow B 22 1 v M.length xs) (h2 : ∀ j u, xs[j]? = some u → ValB w u (M.getD j []) ∧ Apart B w u) (hK : K.length = n) (hys : ∀ j u, ys[j]? = some u → ValB w0 u (K.getD j [])) (hb : Below w0.heap.size w0 w) (hB : w0.heap.size ≤ B) (ho : w'.ownsRow B 22 1 v' (M.length + n) (xs ++ ys)) (hg : w.grownBy w' v.ownBlock) : OwnBB w' B v' (M ++ K) := by
  have hl : xs.length = M.length := by have := h1.1; omega
  refine ⟨xs ++ ys, by rw [List.length_append, hK]; exact ho, fun j x hj => ?_⟩
  by_cases hj2 : j < M.length
  · rw [List.getElem?_append_left (by omega)] at hj
    obtain ⟨q1, q2⟩ := h2 j x hj
    have e : (M ++ K).getD j [] = M.getD j [] := by rw [List.getD_eq_getElem?_getD, List.getD_eq_getElem?_getD, List.getElem?_append_left hj2]
    rw [e]
    exact ⟨q1.grow q2 h1 hg, q2.grow h1 q1.lt hg⟩
  · rw [List.getElem?_append_right (by omega), hl] at hj
    have q0 := hys (j - M.length) x hj
    have q1 : ValB w x (K.getD (j - M.length) []) := q0.below hb
    have q2 : Apart B w x := Apart.old q0 hB
    have e : (M ++ K).getD j [] = K.getD (j - M.length) [] := by rw [List.getD_eq_getElem?_getD, List.getD_eq_getElem?_getD, List.getElem?_append_right (by omega)]
    rw [e]
    exact ⟨q1.grow q2 h1 hg, q2.grow h1 q1.lt hg⟩

/-- A slice of slices that a call owns, the slices too. -/
def OwnF (w : World) (B : Nat) (v : Value) (M : List (List UInt8)) : Prop :=
  ∃ xs, w.ownsRow B 22 1 v M.length xs ∧ ∀ j u, xs[j]? = some u → w.ownsRow B 5 1 u (M.getD j []).length (bc (M.getD j []))
theorem OwnF.nil (w : World) (B : Nat) : OwnF w B (.slice none 0 0) [] := ⟨[], World.ownsRow_nil _ _ _ _, fun j u h => by simp at h⟩
theorem OwnF.bb {w : World} {B : Nat} {v : Value} {M : List (List UInt8)} (h : OwnF w B v M) : OwnBB w B v M := by
  obtain ⟨xs, h1, h2⟩ := h
  exact ⟨xs, h1, fun j u hj => ⟨ValB.own (h2 j u hj), Apart.own (h2 j u hj)⟩⟩
theorem OwnF.below {w w' : World} {B : Nat} {v : Value} {M : List (List UInt8)} (h : OwnF w B v M) (hb : Below w.heap.size w w') : OwnF w' B v M := by
  obtain ⟨xs, h1, h2⟩ := h
  exact ⟨xs, own_below' h1 hb, fun j u hj => own_below' (h2 j u hj) hb⟩
theorem rows_apart {w : World} {B B' n m : Nat} {v u : Value} {xs ys : List Value} (h1 : w.ownsRow B 22 1 v n xs) (h2 : w.ownsRow B' 5 1 u m ys) : u.ownBlock = none ∨ u.ownBlock ≠ v.ownBlock := by
  rcases h2.2 with ⟨rfl, _⟩ | ⟨g2, c2, u2, rfl, _, hg2, _⟩
  · exact Or.inl rfl
  · right
    rcases h1.2 with ⟨rfl, _⟩ | ⟨g1, c1, u1, rfl, _, hg1, _⟩
    · simp [Value.ownBlock]
    · simp only [Value.ownBlock]
      intro h
      have hgg : g2 = g1 := by simpa using h
      subst hgg
      rw [hg1] at hg2
      simp at hg2
theorem OwnF.more {w w' : World} {B : Nat} {v v' u : Value} {M : List (List UInt8)} {m : List UInt8} {xs : List Value} (h1 : w.ownsRow B 22 1 v M.length xs) (h2 : ∀ j u, xs[j]? = some u → w.ownsRow B 5 1 u (M.getD j []).length (bc (M.getD j []))) (hu : w.ownsRow B 5 1 u m.length (bc m)) (ho : w'.ownsRow B 22 1 v' (M.length + 1) (xs ++ [u])) (hg : w.grownBy w' v.ownBlock) : OwnF w' B v' (M ++ [m]) := by
  have hl : xs.length = M.length := by have := h1.1; omega
  refine ⟨xs ++ [u], by rw [List.length_append]; exact ho, fun j x hj => ?_⟩
  by_cases hj2 : j < M.length
  · rw [List.getElem?_append_left (by omega)] at hj
    have e : (M ++ [m]).getD j [] = M.getD j [] := by rw [List.getD_eq_getElem?_getD, List.getD_eq_getElem?_getD, List.getElem?_append_left hj2]
    rw [e]
    exact (h2 j x hj).kept hg (rows_apart h1 (h2 j x hj))
  · rw [List.getElem?_append_right (by omega)] at hj
    have hj3 : j = M.length := by
      have := (List.getElem?_eq_some_iff.1 hj).1
      simp at this; omega
    subst hj3
    rw [hl, Nat.sub_self] at hj
    simp at hj
    subst hj
    have e : (M ++ [m]).getD M.length [] = m := by rw [List.getD_eq_getElem?_getD, List.getElem?_append_right (Nat.le_refl _), Nat.sub_self]; rfl
    rw [e]
    exact hu.kept hg (rows_apart h1 hu)

end Go.Proofs.Ytgppkpdjpcegbaa
end

section
namespace Go.Proofs.Ytgppkpdjpcegbaa
open Go.RowKit

theorem cellsK_own {w : World} {B n : Nat} {e : TypeId} {size : Nat} {v : Value} {xs : List Value} (h : w.ownsRow B e size v n xs) : ∃ a c, v = .slice a n c ∧ CellsAt w a (n * size) xs ∧ (a = none → n = 0 ∧ c = 0) := by
  rcases h.2 with ⟨rfl, rfl⟩ | ⟨g, cap, cur, rfl, hb, hg, rest⟩
  · exact ⟨none, 0, rfl, ⟨h.1, Or.inl (Nat.zero_mul _)⟩, fun _ => ⟨rfl, rfl⟩⟩
  · refine ⟨_, _, rfl, ⟨h.1, Or.inr ⟨g, 0, rfl, (Array.getElem?_eq_some_iff.1 hg).1, fun j u hj => ?_⟩⟩, fun h => by cases h⟩
    have := h.cells (g := g) rfl j u hj
    rwa [Addr.add_mid] at this
/-- append of a slice, wherever it lies, onto a row of the call's own. -/
theorem append_cellsK {w : World} {ops : Array Oper} {rest : List Oper} {o : Oper} {act : Act} {Q : Exit → Act → World → Prop} (hgd : o.guard = none) (s x : Operand) (t e : TypeId)
    (ho : o.op = .call { callee := .builtin .append, args := #[s, x], argTypes := #[t, t] })
    (i : TypeInfo) (z : Value) (size bytes : Nat) (ht : Try.prog.underlying t = some (.slice e)) (hi : Try.prog.info? e = some i) (hz : i.zero = some z) (hsize : i.size = size) (hby : i.bytes = bytes) (hzs : z.cells.size = size) (h0 : 0 < size)
    (B : Nat) (v : Value) (n : Nat) (xs : List Value) (hs : act.eval s = v) (hown : w.ownsRow B e size v n xs)
    (a : Option Addr) (len cap : Nat) (cs : List Value) (hx : act.eval x = .slice a len cap) (hn : a = none → len = 0 ∧ cap = 0) (hr : CellsAt w a (len * size) cs) (h1 : ∀ u ∈ cs, u.oneCell' = true)
    (hb : n + len ≤ 1000000) (hb2 : bytes ≤ 64) (hbase : B ≤ w.heap.size)
    (h : ∀ v' w', w'.ownsRow B e size v' (n + len) (xs ++ cs) → w.grownBy w' v.ownBlock → wpList Try.prog ops Q rest (act.put o.dst v') w') : wpList Try.prog ops Q (o :: rest) act w := by
  cases a with
  | none =>
    obtain ⟨rfl, rfl⟩ := hn rfl
    have hl : cs = [] := List.eq_nil_of_length_eq_zero (by rw [hr.1]; exact Nat.zero_mul _)
    subst hl
    refine wpList_append_own_none hgd s x t ho B e i size ht hi v n xs hs hown hx ?_
    refine h v w ?_ (World.grownBy.refl _ _)
    simpa using hown
  | some ad =>
    have hm : (n + len) * bytes ≤ 1000000 * 64 := Nat.mul_le_mul hb hb2
    refine wpList_append_own w hgd s x t ho B e i z size bytes ht hi hz hsize hby hzs h0 v n xs hs hown ad len cap cs hx hr.1 ?_ h1 (by unfold maxLen; omega) (by omega) hbase (fun v' w' h1 h2 _ => h v' w' h1 h2)
    intro j u hj
    rcases hr.2 with h0' | ⟨b, off, hab, _, hc⟩
    · have h3 := hr.1
      have h4 := (List.getElem?_eq_some_iff.1 hj).1
      omega
    · simp only [Option.some.injEq] at hab
      subst hab
      rw [Addr.add_mid]
      exact hc j u hj
theorem ownsRow_at {w : World} {B g n c size : Nat} {e : TypeId} {xs : List Value} (h : w.ownsRow B e size (.slice (some ⟨g, 0, none⟩) n c) n xs) (j : Nat) (u : Value) (hj : xs[j]? = some u) : w.cell? ⟨g, j, none⟩ = some u := by
  have := h.cells (g := g) rfl j u hj
  rw [Addr.add_mid, Nat.zero_add] at this
  exact this
/-- append of a slice, wherever it lies, in a region that draws. -/
theorem step_append_cellsK {w : World} {ops : Array Oper} {o : Oper} {act : Act} {K : Act → World → Prop} {Q : Exit → Act → World → Prop} {E : Prop} (hgd : o.guard = none) (s x : Operand) (t e : TypeId)
    (ho : o.op = .call { callee := .builtin .append, args := #[s, x], argTypes := #[t, t] })
    (i : TypeInfo) (z : Value) (size bytes : Nat) (ht : Try.prog.underlying t = some (.slice e)) (hi : Try.prog.info? e = some i) (hz : i.zero = some z) (hsize : i.size = size) (hby : i.bytes = bytes) (hzs : z.cells.size = size) (h0 : 0 < size)
    (B : Nat) (v : Value) (n : Nat) (xs : List Value) (hs : act.eval s = v) (hown : w.ownsRow B e size v n xs)
    (a : Option Addr) (len cap : Nat) (cs : List Value) (hx : act.eval x = .slice a len cap) (hn : a = none → len = 0 ∧ cap = 0) (hr : CellsAt w a (len * size) cs) (h1 : ∀ u ∈ cs, u.oneCell' = true)
    (hb : n + len ≤ 1000000) (hb2 : bytes ≤ 64) (hbase : B ≤ w.heap.size)
    (h : ∀ v' w', w'.ownsRow B e size v' (n + len) (xs ++ cs) → w.grownBy w' v.ownBlock → K (act.put o.dst v') w') : if Region.wanted o (yielded ops act.tmps) = true then Oper.wp Try.prog o act w K Q else E := by
  have hw : Region.wanted o (yielded ops act.tmps) = true := by simp [Region.wanted, hgd]
  rw [if_pos hw]
  cases a with
  | none =>
    obtain ⟨rfl, rfl⟩ := hn rfl
    have hl : cs = [] := List.eq_nil_of_length_eq_zero (by rw [hr.1]; exact Nat.zero_mul _)
    subst hl
    have hrun := run_append_owned_none (P := Try.prog) (w := w) B t o.type e i size ht hi v n xs hown
    unfold Oper.wp
    simp [execOp, ho, resolve, invoke, builtin, hs, hx, hrun, Result.andThen]
    exact h v w (by simpa using hown) (World.grownBy.refl _ _)
  | some ad =>
    have hm : (n + len) * bytes ≤ 1000000 * 64 := Nat.mul_le_mul hb hb2
    refine wp_append_own w s x t ho B e i z size bytes ht hi hz hsize hby hzs h0 v n xs hs hown ad len cap cs hx hr.1 ?_ h1 (by unfold maxLen; omega) (by omega) hbase (fun v' w' h1 h2 _ => h v' w' h1 h2)
    · intro j u hj
      rcases hr.2 with h0' | ⟨b, off, hab, _, hc⟩
      · have h3 := hr.1
        have h4 := (List.getElem?_eq_some_iff.1 hj).1
        omega
      · simp only [Option.some.injEq] at hab
        subst hab
        rw [Addr.add_mid]
        exact hc j u hj
theorem cells_lit (w : World) (cs : Array Value) (T : TypeId) : CellsAt (w.alloc (.cells cs T)) (some ⟨w.heap.size, 0, none⟩) cs.size cs.toList :=
  ⟨by simp, Or.inr ⟨w.heap.size, 0, rfl, by simp, fun j u hj => by
    rw [Nat.zero_add, World.cell?_alloc_new]
    rw [Array.getElem?_toList] at hj
    exact hj⟩⟩
end Go.Proofs.Ytgppkpdjpcegbaa
end

section
namespace Go.Proofs.Ytgppkpdjpcegbaa
open Go.RowKit

/-- The numbers of a slice that came in. -/
def Row (w : World) (a : Option Addr) (len : Nat) (l : List Int) : Prop :=
  l.length = len ∧ (len = 0 ∨ ∃ b off, a = some ⟨b, off, none⟩ ∧ b < w.heap.size ∧ ∀ j, j < len → w.cell? ⟨b, off + j, none⟩ = some (.int .i64 (l.getD j 0)))

theorem Row.below {w w' : World} {a : Option Addr} {len : Nat} {l : List Int} (h : Row w a len l) (hb : Below w.heap.size w w') : Row w' a len l := by
  obtain ⟨h1, h2⟩ := h
  refine ⟨h1, ?_⟩
  rcases h2 with h2 | ⟨b, off, rfl, hlt, hc⟩
  · exact Or.inl h2
  · refine Or.inr ⟨b, off, rfl, Nat.lt_of_lt_of_le hlt hb.size, fun j hj => ?_⟩
    rw [hb.cell hlt]
    exact hc j hj

/-- What the reading of a slice of numbers gives. -/
def IsRow (k : IntKind) (w : World) (a : Option Addr) (len cap : Nat) (zs : List Int) : Prop :=
  (a = none ∧ len = 0 ∧ cap = 0 ∧ zs = []) ∨
  ∃ x, a = some x ∧ len ≤ cap ∧ cap ≤ maxLen ∧ zs.length = cap ∧ (∀ i, i < zs.length → w.cell? (x.add i) = some (.int k (zs.getD i 0))) ∧ ∀ n ∈ zs, (Lit.int k n).wf = true

theorem Row.of {w : World} {a : Option Addr} {len cap : Nat} {zs : List Int}
    (h : (a = none ∧ len = 0 ∧ cap = 0 ∧ zs = []) ∨ ∃ x, a = some x ∧ len ≤ cap ∧ cap ≤ maxLen ∧ zs.length = cap ∧ (∀ i, i < zs.length → w.cell? (x.add i) = some (.int .i64 (zs.getD i 0))) ∧ ∀ n ∈ zs, (Lit.int .i64 n).wf = true) :
    Row w a len (zs.take len) := by
  rcases h with ⟨rfl, rfl, rfl, rfl⟩ | ⟨x, rfl, hl, hm, hz, hcell, _⟩
  · exact ⟨rfl, Or.inl rfl⟩
  · refine ⟨by simp; omega, ?_⟩
    by_cases h0 : len = 0
    · exact Or.inl h0
    · right
      obtain ⟨b, off, spot⟩ := x
      have hc := hcell 0 (by omega)
      have hspot : spot = none := by simpa [Addr.add] using World.cell?_spot hc
      subst hspot
      refine ⟨b, off, rfl, ?_, fun j hj => ?_⟩
      · have := block_lt_of_cell hc
        simpa [Addr.add] using this
      · have := hcell j (by omega)
        have e : (⟨b, off, none⟩ : Addr).add j = ⟨b, off + j, none⟩ := by simp only [Addr.add]; split <;> simp_all
        rw [e] at this
        rw [this]
        simp [List.getD, hj]
theorem Row.nil {w : World} {a : Option Addr} {len cap : Nat} {zs : List Int}
    (h : (a = none ∧ len = 0 ∧ cap = 0 ∧ zs = []) ∨ ∃ x, a = some x ∧ len ≤ cap ∧ cap ≤ maxLen ∧ zs.length = cap ∧ (∀ i, i < zs.length → w.cell? (x.add i) = some (.int .i64 (zs.getD i 0))) ∧ ∀ n ∈ zs, (Lit.int .i64 n).wf = true) :
    a = none → len = 0 ∧ cap = 0 := by
  intro ha
  rcases h with ⟨_, h1, h2, _⟩ | ⟨x, hx, _⟩
  · exact ⟨h1, h2⟩
  · rw [ha] at hx; cases hx
end Go.Proofs.Ytgppkpdjpcegbaa
end

section
namespace Go.Proofs.Ytgppkpdjpcegbaa
open Go.RowKit

/-- A key, a question. -/
structure Ky where
  n : ByteArray
  t : Int
  c : Int
/-- A record. -/
structure R5 where
  k : Ky
  ttl : Int
  d : ByteArray
def encK (k : Ky) : List Value := [.string k.n, .int .i64 k.t, .int .i64 k.c]
def encR (r : R5) : List Value := [.string r.k.n, .int .i64 r.k.t, .int .i64 r.k.c, .int .i64 r.ttl, .string r.d]
end Go.Proofs.Ytgppkpdjpcegbaa
end

section
namespace Go.Proofs.Ytgppkpdjpcegbaa
open Go.RowKit

def flatR (l : List R5) : List Value := l.flatMap encR
theorem encR_len (r : R5) : (encR r).length = 5 := rfl
theorem flatR_len (l : List R5) : (flatR l).length = l.length * 5 := by
  induction l with
  | nil => rfl
  | cons x l ih => rw [flatR, List.flatMap_cons, List.length_append, encR_len]; show 5 + (flatR l).length = _; rw [ih, List.length_cons]; omega
theorem flatMap_get {α : Type} (enc : α → List Value) (k : Nat) (hk : ∀ x, (enc x).length = k) (k0 : 0 < k) : ∀ (l : List α) (t : Nat), (l.flatMap enc)[t]? = (l[t / k]?).bind (fun x => (enc x)[t % k]?) := by
  intro l
  induction l with
  | nil => intro t; simp
  | cons x l ih =>
    intro t
    rw [List.flatMap_cons]
    by_cases h : t < k
    · rw [List.getElem?_append_left (by rw [hk]; exact h), Nat.div_eq_of_lt h, Nat.mod_eq_of_lt h]
      simp
    · rw [List.getElem?_append_right (by rw [hk]; omega), hk, ih]
      obtain ⟨s, rfl⟩ : ∃ s, t = s + k := ⟨t - k, by omega⟩
      rw [Nat.add_sub_cancel, Nat.add_div_right _ k0, Nat.add_mod_right]
      simp
/-- The records of a slice. -/
def RowR (w : World) (a : Option Addr) (n : Nat) (l : List R5) : Prop := l.length = n ∧ CellsAt w a (n * 5) (flatR l)
theorem RowR.below {w w' : World} {a : Option Addr} {n : Nat} {l : List R5} (h : RowR w a n l) (hb : Below w.heap.size w w') : RowR w' a n l := ⟨h.1, h.2.below hb⟩
theorem RowR.at {w : World} {a : Option Addr} {n : Nat} {l : List R5} (h : RowR w a n l) (j : Nat) (hj : j < n) : ∃ b off r, a = some ⟨b, off, none⟩ ∧ b < w.heap.size ∧ l[j]? = some r ∧ w.cell? ⟨b, off + j * 5, none⟩ = some (.string r.k.n) ∧ w.cell? ⟨b, off + j * 5 + 1, none⟩ = some (.int .i64 r.k.t) ∧ w.cell? ⟨b, off + j * 5 + 2, none⟩ = some (.int .i64 r.k.c) ∧ w.cell? ⟨b, off + j * 5 + 3, none⟩ = some (.int .i64 r.ttl) ∧ w.cell? ⟨b, off + j * 5 + 4, none⟩ = some (.string r.d) := by
  obtain ⟨h1, h2, h3⟩ := h
  rcases h3 with h0 | ⟨b, off, rfl, hlt, hc⟩
  · omega
  obtain ⟨r, hr⟩ : ∃ r, l[j]? = some r := ⟨l[j]'(by omega), List.getElem?_eq_getElem (by omega)⟩
  have hg : ∀ i, i < 5 → ∀ u, (encR r)[i]? = some u → w.cell? ⟨b, off + j * 5 + i, none⟩ = some u := fun i hi u hu => by
    have h4 := hc (j * 5 + i) u (by
      rw [flatR, flatMap_get encR 5 encR_len (by omega), show (j * 5 + i) / 5 = j by omega, show (j * 5 + i) % 5 = i by omega, hr]
      exact hu)
    rw [Nat.add_assoc]; exact h4
  exact ⟨b, off, r, rfl, hlt, hr, hg 0 (by omega) _ rfl, hg 1 (by omega) _ rfl, hg 2 (by omega) _ rfl, hg 3 (by omega) _ rfl, hg 4 (by omega) _ rfl⟩
theorem flatR_one (l : List R5) : ∀ u ∈ flatR l, u.oneCell' = true := by
  intro u hu
  obtain ⟨r, _, hr⟩ := List.mem_flatMap.1 hu
  simp only [encR, List.mem_cons, List.not_mem_nil, or_false] at hr
  rcases hr with rfl | rfl | rfl | rfl | rfl <;> rfl
theorem rowR_own {w : World} {B n : Nat} {v : Value} {l : List R5} (h : w.ownsRow B 77 5 v n (flatR l)) : ∃ a c, v = .slice a n c ∧ RowR w a n l ∧ (a = none → n = 0 ∧ c = 0) := by
  obtain ⟨a, c, e, h1, h2⟩ := cellsK_own h
  exact ⟨a, c, e, ⟨by have := h.1; rw [flatR_len] at this; omega, h1⟩, h2⟩
theorem infoRR : (Try.prog.info? 77).map (fun i => (i.zero, i.size, i.bytes)) = some (some (.agg #[.string ⟨#[]⟩, .int .i64 0, .int .i64 0, .int .i64 0, .string ⟨#[]⟩]), 5, 56) := by kernel_rfl

set_option maxRecDepth 100000 in
theorem cloneRR (a : Option Addr) (n c : Nat) (l : List R5) (w : World) (h : RowR w a n l) (hn : a = none → n = 0 ∧ c = 0) (hlen : n ≤ 100000) :
    Calls Try.prog 29 #[.slice a n c] w fun e w' => ∃ v, e = .returned v ∧ w'.ownsRow w.heap.size 77 5 v n (flatR l) ∧ Below w.heap.size w w' := by
  obtain ⟨i0, hi, hz0, hz1, hz2⟩ := info_parts infoRR
  have HR := Lib.hid h
  have HN := Lib.hid hn
  cases a with
  | none =>
    obtain ⟨rfl, rfl⟩ := hn rfl
    have hl0 : l = [] := List.eq_nil_of_length_eq_zero h.1
    subst hl0
    clear h hn
    have he : (binOp .eql 35 (.slice none 0 0) (.slice none 0 0)).run Try.prog w = .ok (.bool true) w := Lib.run_eql_slice_nil w 35 77 none 0 0 0 0 Try.underlying35
    go_enter Try.func29, Try.ntmps29
    go_wp2
    go_ret
    exact ⟨_, rfl, World.ownsRow_nil _ _ _ _, Below.refl _ _⟩
  | some ad =>
    have HH := Lib.hid (show RowR (w.alloc (.cells #[] 77)) (some ad) n l from h.below ((Below.refl _ _).alloc (Nat.le_refl _) _))
    have HO := Lib.hid (show (w.alloc (.cells #[] 77)).ownsRow w.heap.size 77 5 (.slice (some ⟨w.heap.size, 0, none⟩) 0 0) 0 [] from World.ownsRow_made w #[] 0 (Nat.le_refl _) (Nat.zero_le _) rfl)
    have HB := Lib.hid ((Below.refl w.heap.size w).alloc (Nat.le_refl _) (.cells #[] 77))
    clear h hn
    have he : (binOp .eql 35 (.slice (some ad) n c) (.slice none 0 0)).run Try.prog w = .ok (.bool false) w := Lib.run_eql_slice_nil w 35 77 (some ad) n c 0 0 Try.underlying35
    go_enter Try.func29, Try.ntmps29
    go_wp2_with (first | (at_builtin; refine append_cellsK rfl _ _ 35 77 rfl i0 _ 5 56 Try.underlying35 hi hz0 hz1 hz2 rfl (by decide) w.heap.size _ 0 _ rfl HO.out (some ad) n c (flatR l) rfl HN.out HH.out.2 (flatR_one l) (by omega) (by decide) (by simp) ?_))
    intro v' w' ho hg
    go_wp2
    go_ret
    exact ⟨v', rfl, ho, HB.out.grown hg (by simp) (fun k hk => (HO.out.lt k hk).1)⟩
end Go.Proofs.Ytgppkpdjpcegbaa
end

section
namespace Go.Proofs.Ytgppkpdjpcegbaa
open Go.RowKit

/-- A slice's value reads as records. -/
def SlR (w : World) (u : Value) (m : List R5) : Prop := ∃ a c, u = .slice a m.length c ∧ RowR w a m.length m ∧ (a = none → m.length = 0 ∧ c = 0)
theorem SlR.below {w w' : World} {u : Value} {m : List R5} (h : SlR w u m) (hb : Below w.heap.size w w') : SlR w' u m := by
  obtain ⟨a, c, h1, h2, h3⟩ := h
  exact ⟨a, c, h1, h2.below hb, h3⟩
theorem SlR.own {w : World} {B n : Nat} {v : Value} {m : List R5} (h : w.ownsRow B 77 5 v n (flatR m)) : SlR w v m := by
  obtain ⟨a, c, h1, h2, h3⟩ := rowR_own h
  have hl := h2.1
  subst hl
  exact ⟨a, c, h1, h2, h3⟩
/-- The slices of a slice. -/
def RowRR (w : World) (a : Option Addr) (n : Nat) (M : List (List R5)) : Prop :=
  ∃ cs, CellsAt w a n cs ∧ M.length = n ∧ ∀ (j : Nat) (u : Value), cs[j]? = some u → ∃ m : List R5, M[j]? = some m ∧ SlR w u m
theorem RowRR.below {w w' : World} {a : Option Addr} {n : Nat} {M : List (List R5)} (h : RowRR w a n M) (hb : Below w.heap.size w w') : RowRR w' a n M := by
  obtain ⟨cs, h1, h2, h3⟩ := h
  exact ⟨cs, h1.below hb, h2, fun j u hj => by obtain ⟨m, h4, h5⟩ := h3 j u hj; exact ⟨m, h4, h5.below hb⟩⟩
theorem RowRR.at {w : World} {a : Option Addr} {n : Nat} {M : List (List R5)} (h : RowRR w a n M) (j : Nat) (hj : j < n) : ∃ b off ai ci m ml, a = some ⟨b, off, none⟩ ∧ b < w.heap.size ∧ M[j]? = some m ∧ m.length = ml ∧ w.cell? ⟨b, off + j, none⟩ = some (.slice ai ml ci) ∧ RowR w ai ml m ∧ (ai = none → ml = 0 ∧ ci = 0) := by
  obtain ⟨cs, h1, h2, h3⟩ := h
  have hl := h1.1
  rcases h1.2 with h0 | ⟨b, off, rfl, hlt, hc⟩
  · omega
  · obtain ⟨u, hu⟩ : ∃ u, cs[j]? = some u := ⟨cs[j]'(by omega), List.getElem?_eq_getElem (by omega)⟩
    obtain ⟨m, hm, ai, ci, rfl, hr, hn⟩ := h3 j u hu
    exact ⟨b, off, ai, ci, m, m.length, rfl, hlt, hm, rfl, hc j _ hu, hr, hn⟩
def catR (M : List (List R5)) (k : Nat) : List R5 := (M.take k).flatten
theorem catR_next {M : List (List R5)} {k : Nat} {m : List R5} (h : M[k]? = some m) : catR M (k + 1) = catR M k ++ m := by
  rw [catR, List.take_add_one, h, List.flatten_append]
  simp [catR]
theorem catR_all {M : List (List R5)} {n : Nat} (h : M.length = n) : catR M n = M.flatten := by
  rw [catR, List.take_of_length_le (by omega)]
theorem catR_le (M : List (List R5)) (k : Nat) : (catR M k).length ≤ M.flatten.length := by
  have h : M.flatten = catR M k ++ (M.drop k).flatten := by rw [catR, ← List.flatten_append, List.take_append_drop]
  rw [h, List.length_append]; omega
theorem flatR_app (A B : List R5) : flatR (A ++ B) = flatR A ++ flatR B := List.flatMap_append

set_option maxRecDepth 100000 in
set_option maxHeartbeats 1600000 in
theorem growRR0 (n : Nat) (w : World) (hn : n ≤ 100000) : Calls Try.prog 70 #[.slice none 0 0, .int .i64 (n : Int)] w fun e w' => ∃ v, e = .returned v ∧ w'.ownsRow w.heap.size 77 5 v 0 [] ∧ Below w.heap.size w w' := by
  obtain ⟨i0, hi, hz0, hz1, hz2⟩ := info_parts infoRR
  rcases Nat.eq_zero_or_pos n with rfl | hp
  · go_enter Try.func70, Try.ntmps70
    go_wp2
    go_ret
    exact ⟨_, rfl, World.ownsRow_nil _ _ _ _, Below.refl _ _⟩
  · have hrz : ∀ ty, (Builtin.append_ #[35, 3] ty #[.slice none 0 0, .int .i64 (n : Int)]).run Try.prog w =
        .ok (.slice (some ⟨w.heap.size, 0, none⟩) n (grownCap w n 0 77)) (w.drew.alloc (.cells ((([] : List Value).toArray) ++ Builtin.zeroCells (Value.agg #[.string ⟨#[]⟩, .int .i64 0, .int .i64 0, .int .i64 0, .string ⟨#[]⟩]).cells n ++ Builtin.zeroCells (Value.agg #[.string ⟨#[]⟩, .int .i64 0, .int .i64 0, .int .i64 0, .string ⟨#[]⟩]).cells (grownCap w n 0 77 - n)) 77)) := fun ty => by
      have h := Lib.run_append_grow_zeros w 35 3 ty 77 i0 _ .i64 .i64 Try.underlying35 Try.underlying3 hi hz0 none 0 0 [] (run_firstCells_none w.drew i0.size 0 0 0) n hp (by omega) (by omega) (by omega) (by rw [hz2]; omega) (by rw [hz2]; simp only [Builtin.nextslicecap, Nat.zero_add, Nat.mul_zero, if_pos hp]; omega)
      rw [Nat.zero_add] at h
      exact h
    have hGn : n ≤ grownCap w n 0 77 := grownCap_ge w _ _ _
    have hG63 := grownCap_le_maxLen w n 0 77 (by unfold maxLen; omega)
    obtain ⟨G, hG⟩ : ∃ G, G = grownCap w n 0 77 := ⟨_, rfl⟩
    rw [← hG] at hrz hGn hG63
    have HMX := Lib.hid hG63
    unfold maxLen at hG63
    obtain ⟨cs, hcs⟩ : ∃ cs, cs = ((([] : List Value).toArray) ++ Builtin.zeroCells (Value.agg #[.string ⟨#[]⟩, .int .i64 0, .int .i64 0, .int .i64 0, .string ⟨#[]⟩]).cells n ++ Builtin.zeroCells (Value.agg #[.string ⟨#[]⟩, .int .i64 0, .int .i64 0, .int .i64 0, .string ⟨#[]⟩]).cells (G - n)) := ⟨_, rfl⟩
    have hsz : cs.size = G * 5 := by
      rw [hcs]
      simp only [Builtin.zeroCells, Value.cells, Array.size_append, Array.size_map, Array.size_range]
      simp
      omega
    rw [← hcs] at hrz
    have HB := Lib.hid (((Below.refl w.heap.size w).drew).alloc (Nat.le_refl _) (.cells cs 77))
    have HO := Lib.hid (show (w.drew.alloc (.cells cs 77)).ownsRow w.heap.size 77 5 (.slice (some ⟨w.heap.size, 0, none⟩) 0 G) 0 [] from World.ownsRow_made w.drew cs G (Nat.le_refl _) HMX.out hsz)
    clear hcs hG hsz hi hz0 hz1 hz2
    go_enter Try.func70, Try.ntmps70
    go_wp2_with (at_builtin; refine Lib.wpList_append_run _ rfl _ _ _ _ rfl _ _ rfl rfl _ _ (hrz _) ?_)
    go_wp2
    go_ret
    exact ⟨_, rfl, HO.out, HB.out⟩

set_option maxRecDepth 100000 in
set_option maxHeartbeats 3200000 in
theorem concatRR (a : Option Addr) (n c : Nat) (M : List (List R5)) (w : World) (h : RowRR w a n M) (hn : n ≤ 1000) (hsum : M.flatten.length ≤ 100000) :
    Calls Try.prog 59 #[.slice a n c] w fun e w' => ∃ v, e = .returned v ∧ w'.ownsRow w.heap.size 77 5 v M.flatten.length (flatR M.flatten) ∧ Below w.heap.size w w' := by
  obtain ⟨i0, hi, hz0, hz1, hz2⟩ := info_parts infoRR
  have HR := Lib.hid h
  have HL := Lib.hid h.choose_spec.2.1
  clear h
  go_enter Try.func59, Try.ntmps59
  go_wp2_with fail
  go_loopw [3, 11] (fun t i wr => ∃ k s : Nat, k ≤ n ∧ s ≤ 100000 ∧ i = .int .i64 k ∧ t = .int .i64 s ∧ Hid ((catR M k).length = s) ∧ w = wr) (fun _ i _ => n - (intOf i).toNat)
  case atStart => exact ⟨0, 0, Nat.zero_le _, Nat.zero_le _, rfl, rfl, rfl, rfl⟩
  case round =>
    obtain ⟨k, s, hk, hs, rfl, rfl, hc, rfl⟩ := hrel
    by_cases hlt : k < n
    · obtain ⟨b, o, ai, ci, m, ml, rfl, hbl, hm, hml, c0, hrow, hnil⟩ := HR.out.at k hlt
      have hnx := catR_next hm
      have hle := catR_le M (k + 1)
      have hsl := hc.out
      rw [hnx, List.length_append, hsl, hml] at hle
      have HNX := Lib.hid (show (catR M (k + 1)).length = s + ml by rw [hnx, List.length_append, hsl, hml])
      have d1 := dF (p := (s : Int) + (ml : Int) < 0) (by omega)
      have hs2 : s + ml ≤ 100000 := by omega
      clear hm hml hrow hnil hnx hle hsl hc
      go_wp2
      go_roundw
      case rel => exact ⟨k + 1, s + ml, by omega, hs2, by go_num, by go_num, HNX, trivial⟩
      case measure => simp [intOf]; omega
    · have hkn : k = n := by omega
      subst hkn
      go_wp2_with fail
      refine (growRR0 s _ hs).mono ?_; rintro e w1 ⟨v, rfl, ho, hb⟩
      have HO := Lib.hid ho
      have HB := Lib.hid hb
      clear ho hb
      go_wp2_with fail
      go_loopw [6, 27] (fun v i wr => ∃ j m : Nat, j ≤ k ∧ i = .int .i64 j ∧ Hid ((catR M j).length = m) ∧ Hid (wr.ownsRow w.heap.size 77 5 v m (flatR (catR M j))) ∧ Hid (Below w.heap.size w wr)) (fun _ i _ => k - (intOf i).toNat)
      case atStart => exact ⟨0, 0, Nat.zero_le _, rfl, rfl, HO, HB⟩
      case round =>
        obtain ⟨j, q, hj, rfl, hm, ho, hbw⟩ := hrel
        by_cases hlt : j < k
        · obtain ⟨b, o, ai, ci, m, ml, rfl, hbl, hmj, hml, c0, hrow, hnil⟩ := (HR.out.below hbw.out).at j hlt
          have hnx := catR_next hmj
          have hle := catR_le M (j + 1)
          have hsl := hm.out
          rw [hnx, List.length_append, hsl, hml] at hle
          have HNX := Lib.hid hnx
          have HML := Lib.hid hml
          have HROW := Lib.hid hrow
          have HNIL := Lib.hid hnil
          have hqb : q + ml ≤ 1000000 := by omega
          clear hmj hml hrow hnil hnx hle hsl
          go_wp2_with (at_builtin; refine append_cellsK rfl _ _ 35 77 rfl i0 _ 5 56 Try.underlying35 hi hz0 hz1 hz2 rfl (by decide) w.heap.size _ q _ rfl ho.out ai ml ci (flatR m) rfl HNIL.out HROW.out.2 (flatR_one m) hqb (by decide) hbw.out.size ?_)
          intro v' w3 hown' hgrow'
          have HO3 := Lib.hid hown'
          have HB3 := Lib.hid (hbw.out.grown hgrow' hbw.out.size (fun k hk => (ho.out.lt k hk).1))
          clear hown' hgrow'
          go_wp2
          go_roundw
          case rel => exact ⟨j + 1, q + ml, by omega, by go_num, Lib.hid (by rw [HNX.out, List.length_append, hm.out, HML.out]), Lib.hid (by rw [HNX.out, flatR_app]; exact HO3.out), HB3⟩
          case measure => simp [intOf]; omega
        · have hkj : j = k := by omega
          subst hkj
          have HF := Lib.hid (show wr.ownsRow w.heap.size 77 5 u6 M.flatten.length (flatR M.flatten) by
            have h1 := ho.out
            have h2 := hm.out
            rw [catR_all HL.out] at h1 h2
            rw [h2]; exact h1)
          clear ho hm
          go_wp2
          go_ret
          exact ⟨_, rfl, HF.out, hbw.out⟩
end Go.Proofs.Ytgppkpdjpcegbaa
end

section
namespace Go.Proofs.Ytgppkpdjpcegbaa
open Go.RowKit

theorem min60 (s : ByteArray) : ∃ v : Nat, (if (60001 : Int) < (s.size : Int) then (60001 : Int) else (s.size : Int)) = (v : Int) ∧ v ≤ 60001 ∧ (v ≤ 60000 → s.size ≤ 60000) := by
  by_cases h : 60001 < s.size
  · exact ⟨60001, by rw [if_pos (by omega)]; rfl, Nat.le_refl _, fun h => by omega⟩
  · exact ⟨s.size, by rw [if_neg (by omega)], by omega, fun h => h⟩
/-- Small records. -/
def SmR (r : R5) : Prop := r.k.n.size ≤ 60000 ∧ r.d.size ≤ 60000
def SzR (r : R5) : Prop := r.k.n.size ≤ 9223372036854775807 ∧ r.d.size ≤ 9223372036854775807

end Go.Proofs.Ytgppkpdjpcegbaa
end

section
namespace Go.Proofs.Ytgppkpdjpcegbaa
open Go.RowKit

def optB (r : R5) : Bool := r.k.t == 41
def optN (r : R5) : Bool := !(r.k.t == 41)
/-- A function of records that tells p, and only makes memory. -/
def Tells (f : FuncId) (p : R5 → Bool) : Prop := (∀ (args : Array Value) (w : World), (callFunc f args).run Try.prog w = .ok (.enter f args) w) ∧ ∀ (n : ByteArray) (t c u : Int) (d : ByteArray) (w : World), Calls Try.prog f #[.agg #[.string n, .int .i64 t, .int .i64 c, .int .i64 u, .string d]] w fun e w' => e = .returned (.bool (p ⟨⟨n, t, c⟩, u, d⟩)) ∧ Below w.heap.size w w'
set_option maxRecDepth 100000 in
theorem isOpt_any : Tells 31 optB := by
  refine ⟨enters_of Try.func31 (by kernel_rfl) rfl, ?_⟩
  intro n t c u d w
  go_enter Try.func31, Try.ntmps31
  go_wp2
  go_ret
  exact ⟨ret_bool rfl, (Below.refl _ _).alloc (Nat.le_refl _) _⟩
set_option maxRecDepth 100000 in
theorem notOpt_any : Tells 30 optN := by
  refine ⟨enters_of Try.func30 (by kernel_rfl) rfl, ?_⟩
  intro n t c u d w
  have HB := Lib.hid ((Below.refl w.heap.size w).alloc (Nat.le_refl _) (.cells #[.string n, .int .i64 t, .int .i64 c, .int .i64 u, .string d] 77))
  go_enter Try.func30, Try.ntmps30
  go_wp2_with fail
  refine (isOpt_any.2 _ _ _ _ _ _).mono ?_; rintro e w1 ⟨rfl, hb⟩
  have HB2 := Lib.hid (HB.out.trans (hb.mono HB.out.size))
  clear hb
  obtain ⟨x, hx⟩ : ∃ x, optB ⟨⟨n, t, c⟩, u, d⟩ = x := ⟨_, rfl⟩
  rw [hx]
  have HX := Lib.hid hx
  clear hx
  go_wp2
  go_ret
  exact ⟨ret_bool (by rw [← HX.out]; rfl), HB2.out⟩
/-- Where the first of which p holds stands. -/
def idxP (p : R5 → Bool) (l : List R5) : Int := if l.findIdx p < l.length then (l.findIdx p : Int) else -1
theorem none_till {p : R5 → Bool} {l : List R5} {k : Nat} (h : ∀ j r, j < k → l[j]? = some r → p r = false) (hk : k < l.length) (r : R5) (hr : l[k]? = some r) (hp : p r = true) : l.findIdx p = k := by
  have hk2 : l[k] = r := by rw [List.getElem?_eq_getElem hk] at hr; exact Option.some.inj hr
  rw [List.findIdx_eq hk]
  refine ⟨by rw [hk2]; exact hp, fun j hj => ?_⟩
  have := h j (l[j]'(by omega)) hj (List.getElem?_eq_getElem (by omega))
  simpa using this
theorem none_all {p : R5 → Bool} {l : List R5} (h : ∀ j r, j < l.length → l[j]? = some r → p r = false) : l.findIdx p = l.length := by
  rw [List.findIdx_eq_length]
  intro x hx
  obtain ⟨i, hi⟩ := List.getElem?_of_mem hx
  have hlt := (List.getElem?_eq_some_iff.1 hi).1
  exact h i x hlt hi

set_option maxRecDepth 100000 in
set_option maxHeartbeats 1600000 in
theorem indexRR (f : FuncId) (p : R5 → Bool) (hf : Tells f p) (a : Option Addr) (n c : Nat) (l : List R5) (w : World) (h : RowR w a n l) (hn : n ≤ 100000) :
    Calls Try.prog 50 #[.slice a n c, .func (.func f) #[] #[]] w fun e w' => e = .returned (.int .i64 (idxP p l)) ∧ Below w.heap.size w w' := by
  have HR := Lib.hid h
  have HF := Lib.hid hf.2
  have eg := hf.1
  have HL := Lib.hid h.1
  clear h hf
  go_enter Try.func50, Try.ntmps50
  go_wp2_with fail
  go_loopw [8] (fun i wr => ∃ k : Nat, k ≤ n ∧ i = .int .i64 k ∧ Hid (∀ j r, j < k → l[j]? = some r → p r = false) ∧ Hid (Below w.heap.size w wr)) (fun i _ => n - (intOf i).toNat)
  case atStart => exact ⟨0, Nat.zero_le _, rfl, (fun j r hj => absurd hj (by omega)), Below.refl _ _⟩
  case round =>
    obtain ⟨k, hk, rfl, ha, hbw⟩ := hrel
    by_cases hlt : k < n
    · obtain ⟨b, o, r, rfl, hbl, hr, c0, c1, c2, c3, c4⟩ := (HR.out.below hbw.out).at k hlt
      obtain ⟨⟨rn, rt, rc⟩, ru, rd⟩ := r
      replace c0 : wr.cell? ⟨b, o + k * 5, none⟩ = some (.string rn) := c0
      replace c1 : wr.cell? ⟨b, o + k * 5 + 1, none⟩ = some (.int .i64 rt) := c1
      replace c2 : wr.cell? ⟨b, o + k * 5 + 2, none⟩ = some (.int .i64 rc) := c2
      replace c3 : wr.cell? ⟨b, o + k * 5 + 3, none⟩ = some (.int .i64 ru) := c3
      replace c4 : wr.cell? ⟨b, o + k * 5 + 4, none⟩ = some (.string rd) := c4
      have HRK := Lib.hid hr
      clear hr
      go_wp2_with fail
      refine (HF.out rn rt rc ru rd _).mono ?_; rintro e w1 ⟨rfl, hb⟩
      have HB1 := Lib.hid (hbw.out.trans (hb.mono hbw.out.size))
      obtain ⟨x, hx⟩ : ∃ x, p ⟨⟨rn, rt, rc⟩, ru, rd⟩ = x := ⟨_, rfl⟩
      rw [hx]
      have HX := Lib.hid hx
      clear hx hb c0 c1 c2 c3 c4
      cases x with
      | true =>
        go_wp2
        go_ret
        refine ⟨ret_int ?_, HB1.out⟩
        have h1 := none_till ha.out (by have := HL.out; omega) _ HRK.out HX.out
        rw [idxP, h1, if_pos (by have := HL.out; omega)]
      | false =>
        have HA := Lib.hid (show ∀ j r, j < k + 1 → l[j]? = some r → p r = false from fun j r hj hjr => by
          rcases (by omega : j < k ∨ j = k) with h1 | rfl
          · exact ha.out j r h1 hjr
          · rw [HRK.out] at hjr
            rw [← Option.some.inj hjr]; exact HX.out)
        clear ha
        go_wp2
        go_roundw
        case rel => exact ⟨k + 1, by omega, by go_num, HA, HB1⟩
        case measure => simp [intOf]; omega
    · go_wp2
      go_ret
      refine ⟨ret_int ?_, hbw.out⟩
      have h1 := none_all (p := p) (l := l) (fun j r hj hr => ha.out j r (by have := HL.out; omega) hr)
      rw [idxP, h1, if_neg (by omega)]
end Go.Proofs.Ytgppkpdjpcegbaa
end

section
namespace Go.Proofs.Ytgppkpdjpcegbaa
open Go.RowKit

def rr0 : R5 := ⟨⟨⟨#[]⟩, 0, 0⟩, 0, ⟨#[]⟩⟩
theorem flatR_set (r : R5) : ∀ (L : List R5) (k : Nat), k < L.length → (((((flatR L).set (k * 5) (.string r.k.n)).set (k * 5 + 1) (.int .i64 r.k.t)).set (k * 5 + 2) (.int .i64 r.k.c)).set (k * 5 + 3) (.int .i64 r.ttl)).set (k * 5 + 4) (.string r.d) = flatR (L.set k r) := by
  intro L
  induction L with
  | nil => intro k hk; exact absurd hk (by simp)
  | cons x L ih =>
    intro k hk
    have h1 : ∀ y L, flatR (y :: L) = .string y.k.n :: .int .i64 y.k.t :: .int .i64 y.k.c :: .int .i64 y.ttl :: .string y.d :: flatR L := fun y L => rfl
    cases k with
    | zero =>
      rw [h1]
      rfl
    | succ k =>
      rw [List.set_cons_succ, h1, h1, ← ih k (by simpa using hk)]
      rw [show (k + 1) * 5 = k * 5 + 5 by omega, show k * 5 + 5 + 1 = k * 5 + 1 + 5 by omega, show k * 5 + 5 + 2 = k * 5 + 2 + 5 by omega, show k * 5 + 5 + 3 = k * 5 + 3 + 5 by omega, show k * 5 + 5 + 4 = k * 5 + 4 + 5 by omega]
      simp only [List.set_cons_succ]
theorem made_rr (n : Nat) : (madeCells (Value.agg #[.string ⟨#[]⟩, .int .i64 0, .int .i64 0, .int .i64 0, .string ⟨#[]⟩]).cells (n * 5)).toList = flatR (List.replicate n rr0) := by
  have hc : (Value.agg #[.string ⟨#[]⟩, .int .i64 0, .int .i64 0, .int .i64 0, .string ⟨#[]⟩]).cells = #[.string ⟨#[]⟩, .int .i64 0, .int .i64 0, .int .i64 0, .string ⟨#[]⟩] := by simp [Value.cells]
  apply List.ext_getElem?
  intro j
  rw [hc, flatR, flatMap_get encR 5 encR_len (by omega), Array.getElem?_toList]
  unfold madeCells
  by_cases hj : j < n * 5
  · have hd : j / 5 < n := by omega
    have hm : j % 5 < 5 := Nat.mod_lt _ (by omega)
    rw [List.getElem?_replicate, if_pos hd, Array.getElem?_map, Array.getElem?_range, if_pos hj]
    simp only [Option.map_some, Option.bind_some, List.size_toArray, List.length_cons, List.length_nil, Nat.zero_add, Nat.reduceAdd]
    obtain ⟨m, hm'⟩ : ∃ m, j % 5 = m := ⟨_, rfl⟩
    rw [hm'] at hm ⊢
    match m, hm with
    | 0, _ => rfl
    | 1, _ => rfl
    | 2, _ => rfl
    | 3, _ => rfl
    | 4, _ => rfl
  · have hd : ¬ j / 5 < n := by omega
    rw [List.getElem?_replicate, if_neg hd, Array.getElem?_map, Array.getElem?_range, if_neg hj]
    rfl
theorem own_cells5 {w : World} {B g n c : Nat} {L : List R5} (h : w.ownsRow B 77 5 (.slice (some ⟨g, 0, none⟩) n c) n (flatR L)) (k : Nat) (hk : k < n) : ∃ v0 v1 v2 v3 v4, w.cell? ⟨g, k * 5, none⟩ = some v0 ∧ w.cell? ⟨g, k * 5 + 1, none⟩ = some v1 ∧ w.cell? ⟨g, k * 5 + 2, none⟩ = some v2 ∧ w.cell? ⟨g, k * 5 + 3, none⟩ = some v3 ∧ w.cell? ⟨g, k * 5 + 4, none⟩ = some v4 := by
  have hl := h.1
  have hg : ∀ j, j < n * 5 → ∃ v, w.cell? ⟨g, j, none⟩ = some v := fun j hj => by
    rw [h.cellAt j hj, List.getElem?_eq_getElem (by omega)]
    exact ⟨_, rfl⟩
  obtain ⟨v0, h0⟩ := hg (k * 5) (by omega)
  obtain ⟨v1, h1⟩ := hg (k * 5 + 1) (by omega)
  obtain ⟨v2, h2⟩ := hg (k * 5 + 2) (by omega)
  obtain ⟨v3, h3⟩ := hg (k * 5 + 3) (by omega)
  obtain ⟨v4, h4⟩ := hg (k * 5 + 4) (by omega)
  exact ⟨v0, v1, v2, v3, v4, h0, h1, h2, h3, h4⟩
theorem own_set_rr {w : World} {B g n c : Nat} {L : List R5} (h : w.ownsRow B 77 5 (.slice (some ⟨g, 0, none⟩) n c) n (flatR L)) (k : Nat) (hk : k < L.length) (r : R5) : (((((w.setCell ⟨g, k * 5, none⟩ (.string r.k.n)).setCell ⟨g, k * 5 + 1, none⟩ (.int .i64 r.k.t)).setCell ⟨g, k * 5 + 2, none⟩ (.int .i64 r.k.c)).setCell ⟨g, k * 5 + 3, none⟩ (.int .i64 r.ttl)).setCell ⟨g, k * 5 + 4, none⟩ (.string r.d)).ownsRow B 77 5 (.slice (some ⟨g, 0, none⟩) n c) n (flatR (L.set k r)) := by
  have h1 := (h.stored (k * 5) (.string r.k.n)).1
  have h2 := (h1.stored (k * 5 + 1) (.int .i64 r.k.t)).1
  have h3 := (h2.stored (k * 5 + 2) (.int .i64 r.k.c)).1
  have h4 := (h3.stored (k * 5 + 3) (.int .i64 r.ttl)).1
  have h5 := (h4.stored (k * 5 + 4) (.string r.d)).1
  rw [flatR_set r L k hk] at h5
  exact h5
theorem below_set5' {B : Nat} {w w1 : World} (h : Below B w w1) {q : Nat} (hp : B ≤ q) (o : Nat) (v0 v1 v2 v3 v4 : Value) : Below B w (((((w1.setCell ⟨q, o, none⟩ v0).setCell ⟨q, o + 1, none⟩ v1).setCell ⟨q, o + 2, none⟩ v2).setCell ⟨q, o + 3, none⟩ v3).setCell ⟨q, o + 4, none⟩ v4) :=
  ((((h.setCell hp _).setCell hp _).setCell hp _).setCell hp _).setCell hp _
theorem slice_headK {T E : TypeId} {i : TypeInfo} {size : Nat} (hu : Try.prog.underlying T = some (.slice E)) (hi : Try.prog.info? E = some i) (hz : i.size = size) (av : Option Addr) (n cap h : Nat) (hav : av = none ∧ n = 0 ∧ cap = 0 ∨ ∃ β off, av = some ⟨β, off, none⟩) (h2 : h ≤ cap) (W : World) : (Instr.slice T (.slice av n cap) none (some (.int .i64 (h : Int))) none).run Try.prog W = .ok (.slice av h cap) W := by
  have he : Try.prog.elem T = E := by simp [Program.elem, hu]
  have hu' : Try.prog.underlying T = some (.slice (Try.prog.elem T)) := by rw [he]; exact hu
  rw [run_slice_h (P := Try.prog) (w := W) T av n cap hu' .i64 _ (by omega) (by omega), he]
  rcases hav with ⟨rfl, rfl, rfl⟩ | ⟨β, off, rfl⟩
  · simp [sizeOf, typeInfo, hi, hz, Result.andThen, sliced]
  · simp [sizeOf, typeInfo, hi, hz, Result.andThen, sliced, Addr.add]
theorem slice_tailK {T E : TypeId} {i : TypeInfo} {size : Nat} (hu : Try.prog.underlying T = some (.slice E)) (hi : Try.prog.info? E = some i) (hz : i.size = size) (av : Option Addr) (n cap l : Nat) (hav : av = none ∧ n = 0 ∧ cap = 0 ∨ ∃ β off, av = some ⟨β, off, none⟩) (h1 : l ≤ n) (h2 : n ≤ cap) :
    ∃ ad : Option Addr, (∀ W, (Instr.slice T (.slice av n cap) (some (.int .i64 (l : Int))) none none).run Try.prog W = .ok (.slice ad (n - l) (cap - l)) W) ∧ (ad = none → n - l = 0 ∧ cap - l = 0) ∧ (l < n → ∀ β off, av = some ⟨β, off, none⟩ → ad = some ⟨β, off + l * size, none⟩) := by
  have he : Try.prog.elem T = E := by simp [Program.elem, hu]
  have hu' : Try.prog.underlying T = some (.slice (Try.prog.elem T)) := by rw [he]; exact hu
  refine ⟨if cap = l then av else av.map (·.add (l * size)), fun W => ?_, fun h3 => ?_, fun h3 β off h4 => ?_⟩
  · rw [run_slice_l (P := Try.prog) (w := W) T av n cap hu' .i64 (l : Int) (by omega) (by omega), he]
    simp [sizeOf, typeInfo, hi, hz, Result.andThen, sliced]
  · rcases hav with ⟨rfl, rfl, rfl⟩ | ⟨β, off, rfl⟩
    · omega
    · split at h3 <;> simp at h3
  · subst h4
    rw [if_neg (by omega), Option.map_some, Addr.add_mid]
theorem own_prefix {w : World} {B g c n size : Nat} {e : TypeId} {xs : List Value} (h : w.ownsRow B e size (.slice (some ⟨g, 0, none⟩) n c) n xs) (k : Nat) (hk : k ≤ n) : w.ownsRow B e size (.slice (some ⟨g, 0, none⟩) k c) k (xs.take (k * size)) := by
  have h0 := h.1
  have hkn : k * size ≤ n * size := Nat.mul_le_mul_right _ hk
  rcases h.2 with ⟨h', _⟩ | ⟨g', cap', cur, h', hb, hg, hnc, hcm, hcs, htake⟩
  · cases h'
  · injection h' with h1 h2 h3
    injection h1 with h1
    injection h1 with h1
    subst h1 h3
    refine ⟨by rw [List.length_take, h0]; omega, Or.inr ⟨g, c, cur, rfl, hb, hg, by omega, hcm, hcs, ?_⟩⟩
    rw [← htake, List.take_take, Nat.min_eq_left hkn]
def C5 (w : World) (q : Nat) (c0 c1 c2 c3 c4 : Value) : Prop := q < w.heap.size ∧ w.cell? ⟨q, 0, none⟩ = some c0 ∧ w.cell? ⟨q, 1, none⟩ = some c1 ∧ w.cell? ⟨q, 2, none⟩ = some c2 ∧ w.cell? ⟨q, 3, none⟩ = some c3 ∧ w.cell? ⟨q, 4, none⟩ = some c4 ∧ w.frozen? ⟨q, 0, none⟩ = false ∧ w.frozen? ⟨q, 1, none⟩ = false ∧ w.frozen? ⟨q, 2, none⟩ = false ∧ w.frozen? ⟨q, 3, none⟩ = false ∧ w.frozen? ⟨q, 4, none⟩ = false
theorem C5.below {w w' : World} {q : Nat} {c0 c1 c2 c3 c4 : Value} (h : C5 w q c0 c1 c2 c3 c4) (hb : Below w.heap.size w w') : C5 w' q c0 c1 c2 c3 c4 := by
  obtain ⟨h0, h1, h2, h3, h4, h5, f0, f1, f2, f3, f4⟩ := h
  exact ⟨Nat.lt_of_lt_of_le h0 hb.size, (hb.cell h0).trans h1, (hb.cell h0).trans h2, (hb.cell h0).trans h3, (hb.cell h0).trans h4, (hb.cell h0).trans h5, (hb.frozen h0).trans f0, (hb.frozen h0).trans f1, (hb.frozen h0).trans f2, (hb.frozen h0).trans f3, (hb.frozen h0).trans f4⟩
theorem c5_new (w : World) (c0 c1 c2 c3 c4 : Value) (T : TypeId) : C5 (w.alloc (.cells #[c0, c1, c2, c3, c4] T)) w.heap.size c0 c1 c2 c3 c4 := by
  refine ⟨by simp, ?_, ?_, ?_, ?_, ?_, ?_, ?_, ?_, ?_, ?_⟩ <;> simp [World.cell?_alloc_at, World.frozen?_alloc_new]

theorem grown_cell (w : World) (g j : Nat) (u : Value) : w.grownBy (w.setCell ⟨g, j, none⟩ u) (some g) := ⟨rfl, rfl, rfl, by simp, fun k _ hk => heap_setCell_other w ⟨g, j, none⟩ k u (fun e => hk (by simp [e]))⟩
theorem grown_set5 (w : World) (g o : Nat) (v0 v1 v2 v3 v4 : Value) : w.grownBy (((((w.setCell ⟨g, o, none⟩ v0).setCell ⟨g, o + 1, none⟩ v1).setCell ⟨g, o + 2, none⟩ v2).setCell ⟨g, o + 3, none⟩ v3).setCell ⟨g, o + 4, none⟩ v4) (some g) :=
  ((((grown_cell w g o v0).trans (grown_cell _ g (o + 1) v1)).trans (grown_cell _ g (o + 2) v2)).trans (grown_cell _ g (o + 3) v3)).trans (grown_cell _ g (o + 4) v4)
theorem own_at5 {w : World} {B g n c : Nat} {L : List R5} (h : w.ownsRow B 77 5 (.slice (some ⟨g, 0, none⟩) n c) n (flatR L)) (j : Nat) (r : R5) (hj : L[j]? = some r) : w.cell? ⟨g, j * 5, none⟩ = some (.string r.k.n) ∧ w.cell? ⟨g, j * 5 + 1, none⟩ = some (.int .i64 r.k.t) ∧ w.cell? ⟨g, j * 5 + 2, none⟩ = some (.int .i64 r.k.c) ∧ w.cell? ⟨g, j * 5 + 3, none⟩ = some (.int .i64 r.ttl) ∧ w.cell? ⟨g, j * 5 + 4, none⟩ = some (.string r.d) := by
  have hg : ∀ i, i < 5 → ∀ u, (encR r)[i]? = some u → w.cell? ⟨g, j * 5 + i, none⟩ = some u := fun i hi u hu => ownsRow_at h _ u (by
    rw [flatR, flatMap_get encR 5 encR_len (by omega), show (j * 5 + i) / 5 = j by omega, show (j * 5 + i) % 5 = i by omega, hj]
    exact hu)
  exact ⟨hg 0 (by omega) _ rfl, hg 1 (by omega) _ rfl, hg 2 (by omega) _ rfl, hg 3 (by omega) _ rfl, hg 4 (by omega) _ rfl⟩
theorem bel_grown {w w' : World} (h : Below w.heap.size w w') (row : Option Nat) : w.grownBy w' row := ⟨h.os, h.tape, h.output, h.size, fun k hk _ => h.block k hk⟩
/-- clear(s[k:]) of a row that is owned. -/
theorem clear_tail {w : World} {B g n c : Nat} {xs : List Value} (h : w.ownsRow B 77 5 (.slice (some ⟨g, 0, none⟩) n c) n xs) (k : Nat) (hk : k < n) (ad : Option Addr) (had : ad = some ⟨g, 0 + k * 5, none⟩) :
    ∃ w', (∀ ty, (Builtin.clear_ #[35] ty #[.slice ad (n - k) (c - k)]).run Try.prog w = .ok (.tuple #[]) w') ∧ w'.ownsRow B 77 5 (.slice (some ⟨g, 0, none⟩) k c) k (xs.take (k * 5)) ∧ w.grownBy w' (some g) := by
  subst had
  have h0 := h.1
  have hkn : k * 5 + (n - k) * 5 = n * 5 := by omega
  have hz : (Builtin.zeroCells (Value.agg #[.string ⟨#[]⟩, .int .i64 0, .int .i64 0, .int .i64 0, .string ⟨#[]⟩]).cells (n - k)).toList = flatR (List.replicate (n - k) rr0) := by
    have h9 := made_rr (n - k)
    rw [← h9]
    simp [Builtin.zeroCells, madeCells, Value.cells]
  rcases h.2 with ⟨h', _⟩ | ⟨g', cap', cur, h', hb, hg, hnc, hcm, hcs, htake⟩
  · cases h'
  injection h' with h1 h2 h3
  injection h1 with h1
  injection h1 with h1
  subst h1 h3
  have hzl : (flatR (List.replicate (n - k) rr0)).length = (n - k) * 5 := by rw [flatR_len, List.length_replicate]
  have hkc : n * 5 ≤ c * 5 := Nat.mul_le_mul_right _ hnc
  have hst := run_storeCells_at (P := Try.prog) g (0 + k * 5) 77 (flatR (List.replicate (n - k) rr0)) 0 cur w hg (by rw [hzl]; omega) (flatR_one _)
  obtain ⟨nr, hnr⟩ : ∃ nr, nr = (List.take (0 + k * 5 + 0) cur.toList ++ flatR (List.replicate (n - k) rr0) ++ List.drop (0 + k * 5 + 0 + (flatR (List.replicate (n - k) rr0)).length) cur.toList).toArray := ⟨_, rfl⟩
  rw [← hnr] at hst
  have hnl : nr.size = c * 5 := by
    rw [hnr]
    simp only [List.size_toArray, List.length_append, List.length_take, List.length_drop, hzl, Array.length_toList, hcs]
    omega
  have hnt : nr.toList.take (k * 5) = xs.take (k * 5) := by
    rw [hnr, List.append_assoc, List.take_append_of_le_length (by rw [List.length_take, Array.length_toList]; omega), ← htake, List.take_take, List.take_take, Nat.zero_add, Nat.add_zero, Nat.min_self, Nat.min_eq_left (by omega)]
  obtain ⟨m, hm⟩ : ∃ m, n - k = m + 1 := ⟨n - k - 1, by omega⟩
  refine ⟨w.setRow g nr, fun ty => ?_, ⟨?_, Or.inr ⟨g, c, nr, rfl, hb, setRow_heap w g cur nr _ _ hg, by omega, hcm, hnl, hnt⟩⟩, ⟨rfl, rfl, rfl, by simp [World.setRow], fun j _ hj => setRow_other w g j _ (fun e => hj (by rw [e]))⟩⟩
  · clear hnr hnl hnt hzl
    generalize flatR (List.replicate (n - k) rr0) = fr at hz hst
    rw [hm] at hz ⊢
    rw [Nat.zero_add] at hst
    simp [Builtin.clear_, run_underlying Try.underlying35, Try.zeroValue77, hz, hst]
  · rw [List.length_take, h0]; omega
end Go.Proofs.Ytgppkpdjpcegbaa
end

section
namespace Go.Proofs.Ytgppkpdjpcegbaa
open Go.RowKit

def keepR (p : R5 → Bool) (l : List R5) : List R5 := l.filter (fun r => !p r)
/-- How a row stands when j records were looked at, i of them kept. -/
def DelI (p : R5 → Bool) (l : List R5) (j i : Nat) (L : List R5) : Prop := L.length = l.length ∧ L.take i = keepR p (l.take j) ∧ i = (keepR p (l.take j)).length ∧ L.drop j = l.drop j ∧ i < j
theorem keepR_next {p : R5 → Bool} {l : List R5} {j : Nat} {r : R5} (h : l[j]? = some r) : keepR p (l.take (j + 1)) = keepR p (l.take j) ++ (if p r then [] else [r]) := by
  rw [List.take_add_one, h, keepR, keepR, List.filter_append]
  cases hp : p r <;> simp [hp]
theorem DelI.keep {p : R5 → Bool} {l L : List R5} {j i : Nat} {r : R5} (h : DelI p l j i L) (hr : l[j]? = some r) (hp : p r = false) : DelI p l (j + 1) (i + 1) (L.set i r) := by
  obtain ⟨h1, h2, h3, h4, h5⟩ := h
  have hj := (List.getElem?_eq_some_iff.1 hr).1
  refine ⟨by rw [List.length_set, h1], ?_, ?_, ?_, by omega⟩
  · rw [keepR_next hr, hp, List.take_add_one, List.getElem?_set_self (by omega), List.take_set_of_le (by omega), h2]; rfl
  · rw [keepR_next hr, hp, List.length_append, ← h3]; rfl
  · rw [List.drop_set_of_lt (by omega)]
    rw [← List.drop_drop, ← List.drop_drop, h4]
theorem DelI.skip {p : R5 → Bool} {l L : List R5} {j i : Nat} {r : R5} (h : DelI p l j i L) (hr : l[j]? = some r) (hp : p r = true) : DelI p l (j + 1) i L := by
  obtain ⟨h1, h2, h3, h4, h5⟩ := h
  refine ⟨h1, ?_, ?_, ?_, by omega⟩
  · rw [keepR_next hr, hp, h2]; simp
  · rw [keepR_next hr, hp, h3]; simp
  · rw [← List.drop_drop, ← List.drop_drop, h4]
theorem DelI.start {p : R5 → Bool} {l : List R5} {k : Nat} (hk : k < l.length) (h : l.findIdx p = k) : DelI p l (k + 1) k l := by
  have hp : p (l[k]) = true := by
    have := List.findIdx_getElem (p := p) (xs := l) (w := by omega)
    simpa [h] using this
  have hb : ∀ x ∈ l.take k, p x = false := fun x hx => by
    obtain ⟨i, hi⟩ := List.getElem?_of_mem hx
    have hil := (List.getElem?_eq_some_iff.1 hi).1
    rw [List.length_take] at hil
    have hik : i < l.findIdx p := by omega
    have := List.not_of_lt_findIdx hik
    rw [List.getElem?_take_of_lt (by omega), List.getElem?_eq_getElem (by omega)] at hi
    rw [← Option.some.inj hi]
    simpa using this
  have hf : keepR p (l.take (k + 1)) = l.take k := by
    rw [keepR_next (r := l[k]) (List.getElem?_eq_getElem hk), hp]
    simp only [if_true, List.append_nil]
    rw [keepR, List.filter_eq_self]
    intro x hx
    rw [hb x hx]; rfl
  refine ⟨rfl, hf.symm, ?_, rfl, by omega⟩
  rw [hf, List.length_take]; omega
theorem keepR_none {p : R5 → Bool} {l : List R5} (h : l.findIdx p = l.length) : keepR p l = l := by
  rw [keepR, List.filter_eq_self]
  intro x hx
  rw [List.findIdx_eq_length] at h
  rw [h x hx]; rfl
theorem DelI.at {p : R5 → Bool} {l L : List R5} {j i : Nat} (h : DelI p l j i L) : L[j]? = l[j]? := by
  have h4 := congrArg (fun x => x[0]?) h.2.2.2.1
  simpa using h4

set_option maxRecDepth 100000 in
set_option maxHeartbeats 4000000 in
theorem deleteRR (f : FuncId) (p : R5 → Bool) (hf : Tells f p) (B : Nat) (v : Value) (n : Nat) (l : List R5) (w : World) (hown : w.ownsRow B 77 5 v n (flatR l)) (hlen : n ≤ 100000) :
    Calls Try.prog 28 #[v, .func (.func f) #[] #[]] w fun e w' => ∃ v', e = .returned v' ∧ w'.ownsRow B 77 5 v' (keepR p l).length (flatR (keepR p l)) ∧ w.grownBy w' v.ownBlock := by
  obtain ⟨i0, hi, hz0, hz1, hz2⟩ := info_parts infoRR
  have hl : l.length = n := by have := hown.1; rw [flatR_len] at this; omega
  obtain ⟨a, c, rfl, hrow, hnil⟩ := rowR_own hown
  have HF := Lib.hid hf.2
  have eg := hf.1
  have HI := Lib.hid (fun w => indexRR f p hf a n c l w)
  have HO := Lib.hid hown
  have HR := Lib.hid hrow
  have HL := Lib.hid hl
  by_cases hk : l.findIdx p < l.length
  · obtain ⟨k, hkk⟩ : ∃ k, l.findIdx p = k := ⟨_, rfl⟩
    have hs := DelI.start (by omega) hkk
    have hidx : idxP p l = (k : Int) := by rw [idxP, if_pos hk, hkk]
    obtain ⟨g, rfl⟩ : ∃ g, a = some ⟨g, 0, none⟩ := by
      rcases hown.2 with ⟨hv, h0⟩ | ⟨g, cap, cur, hv, _⟩
      · omega
      · injection hv with h1 h2 h3
        exact ⟨g, h1⟩
    have hgB := hown.lt g rfl
    have hav : ∃ β off, (some ⟨g, 0, none⟩ : Option Addr) = some ⟨β, off, none⟩ := ⟨_, _, rfl⟩
    have hnc : n ≤ c := by
      rcases hown.2 with ⟨hv, _⟩ | ⟨g', cap, cur, hv, _, _, hnc, _⟩
      · cases hv
      · injection hv with h1 h2 h3
        subst h3; exact hnc
    have HC := Lib.hid hnc
    have HS := Lib.hid hs
    have HGB := Lib.hid hgB
    have e1 := eF (a := (k : Int)) (b := -1) (by omega)
    have hkn : k < n := by omega
    clear hf hown hrow hnil hs hk hkk hgB hav hnc hl
    go_enter Try.func28, Try.ntmps28
    go_wp2_with fail
    refine (HI.out _ HR.out hlen).mono ?_; rintro e w1 ⟨rfl, hb⟩
    rw [hidx]
    clear hidx
    have HG1 := Lib.hid (bel_grown hb (some g))
    have HO1 := Lib.hid (own_below' HO.out hb)
    clear hb
    go_wp2_with fail
    go_loopw [5, 6] (fun si sj wr => ∃ (i j : Nat) (L : List R5), j ≤ n ∧ si = .int .i64 i ∧ sj = .int .i64 j ∧ Hid (DelI p l j i L) ∧ Hid (wr.ownsRow B 77 5 (.slice (some ⟨g, 0, none⟩) n c) n (flatR L)) ∧ Hid (w.grownBy wr (some g))) (fun _ sj _ => n - (intOf sj).toNat)
    case atStart => exact ⟨k, k + 1, l, by omega, rfl, by go_num, HS, HO1, HG1⟩
    case round =>
      obtain ⟨i, j, L, hj, rfl, rfl, hd, ho, hgr⟩ := hrel
      have hij := hd.out.2.2.2.2
      by_cases hlt : j < n
      · have hjl : j < l.length := by rw [HL.out]; exact hlt
        obtain ⟨r, hr⟩ : ∃ r, l[j]? = some r := ⟨l[j], List.getElem?_eq_getElem hjl⟩
        have hLj : L[j]? = some r := hd.out.at.trans hr
        obtain ⟨c0, c1, c2, c3, c4⟩ := own_at5 ho.out j r hLj
        obtain ⟨⟨rn, rt, rc⟩, ru, rd⟩ := r
        replace c0 : wr.cell? ⟨g, j * 5, none⟩ = some (.string rn) := c0
        replace c1 : wr.cell? ⟨g, j * 5 + 1, none⟩ = some (.int .i64 rt) := c1
        replace c2 : wr.cell? ⟨g, j * 5 + 2, none⟩ = some (.int .i64 rc) := c2
        replace c3 : wr.cell? ⟨g, j * 5 + 3, none⟩ = some (.int .i64 ru) := c3
        replace c4 : wr.cell? ⟨g, j * 5 + 4, none⟩ = some (.string rd) := c4
        have HRK := Lib.hid hr
        have HLl := Lib.hid (show i < L.length by rw [hd.out.1, HL.out]; omega)
        have hba := (Below.refl wr.heap.size wr).alloc (Nat.le_refl _) (.cells #[.string rn, .int .i64 rt, .int .i64 rc, .int .i64 ru, .string rd] 77)
        have HC5 := Lib.hid (c5_new wr (.string rn) (.int .i64 rt) (.int .i64 rc) (.int .i64 ru) (.string rd) 77)
        have HOa := Lib.hid (own_below' ho.out hba)
        have HGa := Lib.hid (hgr.out.trans (bel_grown hba (some g)))
        have hin : i < n := by omega
        clear hr hLj hjl hba ho hgr
        go_wp2_with fail
        refine (HF.out rn rt rc ru rd _).mono ?_; rintro e w2 ⟨rfl, hb⟩
        have HO2 := Lib.hid (own_below' HOa.out hb)
        have HG2 := Lib.hid (HGa.out.trans (bel_grown hb (some g)))
        have HC2 := Lib.hid (HC5.out.below hb)
        obtain ⟨x, hx⟩ : ∃ x, p ⟨⟨rn, rt, rc⟩, ru, rd⟩ = x := ⟨_, rfl⟩
        rw [hx]
        have HX := Lib.hid hx
        clear hx hb c0 c1 c2 c3 c4 HC5 HOa HGa
        cases x with
        | true =>
          have HD := Lib.hid (hd.out.skip HRK.out HX.out)
          clear hd
          go_wp2
          go_roundw
          case rel => exact ⟨i, j + 1, L, by omega, by go_num, by go_num, HD, HO2, HG2⟩
          case measure => simp [intOf]; omega
        | false =>
          have HD := Lib.hid (hd.out.keep HRK.out HX.out)
          clear hd
          obtain ⟨_, p0, p1, p2, p3, p4⟩ := HC2.out
          obtain ⟨v0, v1, v2, v3, v4, y0, y1, y2, y3, y4⟩ := own_cells5 HO2.out i hin
          have f0 := HO2.out.frozenAt (i * 5)
          have f1 := HO2.out.frozenAt (i * 5 + 1)
          have f2 := HO2.out.frozenAt (i * 5 + 2)
          have f3 := HO2.out.frozenAt (i * 5 + 3)
          have f4 := HO2.out.frozenAt (i * 5 + 4)
          have HO3 := Lib.hid (own_set_rr HO2.out i HLl.out ⟨⟨rn, rt, rc⟩, ru, rd⟩)
          have HG3 := Lib.hid (HG2.out.trans (grown_set5 w2 g (i * 5) (.string rn) (.int .i64 rt) (.int .i64 rc) (.int .i64 ru) (.string rd)))
          go_wp2
          go_roundw
          case rel => exact ⟨i + 1, j + 1, L.set i ⟨⟨rn, rt, rc⟩, ru, rd⟩, by omega, by go_num, by go_num, HD, HO3, HG3⟩
          case measure => simp [intOf]; omega
      · have hjn : j = n := by omega
        subst hjn
        obtain ⟨ad, hrun, hdn, hds⟩ := slice_tailK Try.underlying35 hi hz1 (some ⟨g, 0, none⟩) j c i (Or.inr ⟨g, 0, rfl⟩) (by omega) HC.out
        have had := hds hij g 0 rfl
        obtain ⟨wz, hcl, hoz, hgz⟩ := clear_tail ho.out i hij ad had
        have hhd := slice_headK Try.underlying35 hi hz1 (some ⟨g, 0, none⟩) j c i (Or.inr ⟨g, 0, rfl⟩) (by have := HC.out; omega)
        have HGZ := Lib.hid (hgr.out.trans hgz)
        have HF2 := Lib.hid (show wz.ownsRow B 77 5 (.slice (some ⟨g, 0, none⟩) i c) (keepR p l).length (flatR (keepR p l)) by
          obtain ⟨d1, d2, d3, d4, d5⟩ := hd.out
          have hll : l.take j = l := by rw [List.take_of_length_le (by rw [HL.out]; exact Nat.le_refl _)]
          rw [hll] at d2 d3
          have h9 : (flatR L).take (i * 5) = flatR (keepR p l) := by
            rw [← d2]
            have h8 : flatR L = flatR (L.take i) ++ flatR (L.drop i) := by rw [← flatR_app, List.take_append_drop]
            rw [h8, List.take_append_of_le_length (by rw [flatR_len, d2, ← d3]; exact Nat.le_refl _), List.take_of_length_le (by rw [flatR_len, d2, ← d3]; exact Nat.le_refl _)]
          rw [h9] at hoz
          rw [← d3]; exact hoz)
        clear hd ho hgr hds had hdn hoz hgz
        go_wp2
        go_ret
        exact ⟨_, rfl, HF2.out, HGZ.out⟩
  · have hfi : l.findIdx p = l.length := by have := List.findIdx_le_length (p := p) (xs := l); omega
    have hidx : idxP p l = -1 := by rw [idxP, if_neg hk]
    have hkr := keepR_none hfi
    rw [hkr, hl]
    clear hf hown hrow hnil hk hfi hl hkr
    go_enter Try.func28, Try.ntmps28
    go_wp2_with fail
    refine (HI.out _ HR.out hlen).mono ?_; rintro e w1 ⟨rfl, hb⟩
    rw [hidx]
    clear hidx
    have HG1 := Lib.hid (bel_grown hb (Value.slice a n c).ownBlock)
    have HO1 := Lib.hid (own_below' HO.out hb)
    clear hb
    go_wp2
    go_ret
    exact ⟨_, rfl, HO1.out, HG1.out⟩
end Go.Proofs.Ytgppkpdjpcegbaa
end

section
namespace Go.Proofs.Ytgppkpdjpcegbaa
open Go.RowKit

def flatQ (l : List Ky) : List Value := l.flatMap encK
theorem encK_len (r : Ky) : (encK r).length = 3 := rfl
theorem flatQ_len (l : List Ky) : (flatQ l).length = l.length * 3 := by
  induction l with
  | nil => rfl
  | cons x l ih => rw [flatQ, List.flatMap_cons, List.length_append, encK_len]; show 3 + (flatQ l).length = _; rw [ih, List.length_cons]; omega
/-- The questions of a slice. -/
def RowQ (w : World) (a : Option Addr) (n : Nat) (l : List Ky) : Prop := l.length = n ∧ CellsAt w a (n * 3) (flatQ l)
theorem RowQ.below {w w' : World} {a : Option Addr} {n : Nat} {l : List Ky} (h : RowQ w a n l) (hb : Below w.heap.size w w') : RowQ w' a n l := ⟨h.1, h.2.below hb⟩
theorem RowQ.at {w : World} {a : Option Addr} {n : Nat} {l : List Ky} (h : RowQ w a n l) (j : Nat) (hj : j < n) : ∃ b off r, a = some ⟨b, off, none⟩ ∧ b < w.heap.size ∧ l[j]? = some r ∧ w.cell? ⟨b, off + j * 3, none⟩ = some (.string r.n) ∧ w.cell? ⟨b, off + j * 3 + 1, none⟩ = some (.int .i64 r.t) ∧ w.cell? ⟨b, off + j * 3 + 2, none⟩ = some (.int .i64 r.c) := by
  obtain ⟨h1, h2, h3⟩ := h
  rcases h3 with h0 | ⟨b, off, rfl, hlt, hc⟩
  · omega
  obtain ⟨r, hr⟩ : ∃ r, l[j]? = some r := ⟨l[j]'(by omega), List.getElem?_eq_getElem (by omega)⟩
  have hg : ∀ i, i < 3 → ∀ u, (encK r)[i]? = some u → w.cell? ⟨b, off + j * 3 + i, none⟩ = some u := fun i hi u hu => by
    have h4 := hc (j * 3 + i) u (by
      rw [flatQ, flatMap_get encK 3 encK_len (by omega), show (j * 3 + i) / 3 = j by omega, show (j * 3 + i) % 3 = i by omega, hr]
      exact hu)
    rw [Nat.add_assoc]; exact h4
  exact ⟨b, off, r, rfl, hlt, hr, hg 0 (by omega) _ rfl, hg 1 (by omega) _ rfl, hg 2 (by omega) _ rfl⟩
theorem flatQ_one (l : List Ky) : ∀ u ∈ flatQ l, u.oneCell' = true := by
  intro u hu
  obtain ⟨r, _, hr⟩ := List.mem_flatMap.1 hu
  simp only [encK, List.mem_cons, List.not_mem_nil, or_false] at hr
  rcases hr with rfl | rfl | rfl <;> rfl
theorem rowQ_own {w : World} {B n : Nat} {v : Value} {l : List Ky} (h : w.ownsRow B 27 3 v n (flatQ l)) : ∃ a c, v = .slice a n c ∧ RowQ w a n l ∧ (a = none → n = 0 ∧ c = 0) := by
  obtain ⟨a, c, e, h1, h2⟩ := cellsK_own h
  exact ⟨a, c, e, ⟨by have := h.1; rw [flatQ_len] at this; omega, h1⟩, h2⟩
theorem infoQ : (Try.prog.info? 27).map (fun i => (i.zero, i.size, i.bytes)) = some (some (.agg #[.string ⟨#[]⟩, .int .i64 0, .int .i64 0]), 3, 32) := by kernel_rfl

set_option maxRecDepth 100000 in
theorem cloneQ (a : Option Addr) (n c : Nat) (l : List Ky) (w : World) (h : RowQ w a n l) (hn : a = none → n = 0 ∧ c = 0) (hlen : n ≤ 100000) :
    Calls Try.prog 33 #[.slice a n c] w fun e w' => ∃ v, e = .returned v ∧ w'.ownsRow w.heap.size 27 3 v n (flatQ l) ∧ Below w.heap.size w w' := by
  obtain ⟨i0, hi, hz0, hz1, hz2⟩ := info_parts infoQ
  have HR := Lib.hid h
  have HN := Lib.hid hn
  cases a with
  | none =>
    obtain ⟨rfl, rfl⟩ := hn rfl
    have hl0 : l = [] := List.eq_nil_of_length_eq_zero h.1
    subst hl0
    clear h hn
    have he : (binOp .eql 34 (.slice none 0 0) (.slice none 0 0)).run Try.prog w = .ok (.bool true) w := Lib.run_eql_slice_nil w 34 27 none 0 0 0 0 Try.underlying34
    go_enter Try.func33, Try.ntmps33
    go_wp2
    go_ret
    exact ⟨_, rfl, World.ownsRow_nil _ _ _ _, Below.refl _ _⟩
  | some ad =>
    have HH := Lib.hid (show RowQ (w.alloc (.cells #[] 27)) (some ad) n l from h.below ((Below.refl _ _).alloc (Nat.le_refl _) _))
    have HO := Lib.hid (show (w.alloc (.cells #[] 27)).ownsRow w.heap.size 27 3 (.slice (some ⟨w.heap.size, 0, none⟩) 0 0) 0 [] from World.ownsRow_made w #[] 0 (Nat.le_refl _) (Nat.zero_le _) rfl)
    have HB := Lib.hid ((Below.refl w.heap.size w).alloc (Nat.le_refl _) (.cells #[] 27))
    clear h hn
    have he : (binOp .eql 34 (.slice (some ad) n c) (.slice none 0 0)).run Try.prog w = .ok (.bool false) w := Lib.run_eql_slice_nil w 34 27 (some ad) n c 0 0 Try.underlying34
    go_enter Try.func33, Try.ntmps33
    go_wp2_with (first | (at_builtin; refine append_cellsK rfl _ _ 34 27 rfl i0 _ 3 32 Try.underlying34 hi hz0 hz1 hz2 rfl (by decide) w.heap.size _ 0 _ rfl HO.out (some ad) n c (flatQ l) rfl HN.out HH.out.2 (flatQ_one l) (by omega) (by decide) (by simp) ?_))
    intro v' w' ho hg
    go_wp2
    go_ret
    exact ⟨v', rfl, ho, HB.out.grown hg (by simp) (fun k hk => (HO.out.lt k hk).1)⟩
end Go.Proofs.Ytgppkpdjpcegbaa
end

section
namespace Go.Proofs.Ytgppkpdjpcegbaa
open Go.RowKit

/-- A block's cells, none frozen. -/
def CN (w : World) (q : Nat) (cs : List Value) : Prop := q < w.heap.size ∧ ∀ j c, cs[j]? = some c → w.cell? ⟨q, j, none⟩ = some c ∧ w.frozen? ⟨q, j, none⟩ = false
theorem CN.below {w w' : World} {q : Nat} {cs : List Value} (h : CN w q cs) (hb : Below w.heap.size w w') : CN w' q cs :=
  ⟨Nat.lt_of_lt_of_le h.1 hb.size, fun j c hj => ⟨(hb.cell (p := ⟨q, j, none⟩) h.1).trans (h.2 j c hj).1, (hb.frozen (p := ⟨q, j, none⟩) h.1).trans (h.2 j c hj).2⟩⟩
theorem CN.grown {w w' : World} {q : Nat} {cs : List Value} {row : Option Nat} (h : CN w q cs) (hg : w.grownBy w' row) (hne : some q ≠ row) : CN w' q cs :=
  ⟨Nat.lt_of_lt_of_le h.1 hg.size, fun j c hj => ⟨(World.cell?_of_block (a := ⟨q, j, none⟩) (hg.block q h.1 hne)).trans (h.2 j c hj).1, (World.frozen?_of_block (a := ⟨q, j, none⟩) (hg.block q h.1 hne)).trans (h.2 j c hj).2⟩⟩
theorem CN.new (w : World) (cs : Array Value) (T : TypeId) : CN (w.alloc (.cells cs T)) w.heap.size cs.toList :=
  ⟨by simp, fun j c hj => ⟨by rw [World.cell?_alloc_new]; rw [Array.getElem?_toList] at hj; exact hj, World.frozen?_alloc_new _ _ _ _⟩⟩
theorem CN.far {w : World} {q : Nat} {cs : List Value} (h : CN w q cs) (p : Addr) (hp : p.block ≠ q) (v : Value) : CN (w.setCell p v) q cs :=
  ⟨by simpa using h.1, fun j c hj => ⟨(World.cell?_setCell_far _ _ _ _ hp).trans (h.2 j c hj).1, by simpa using (h.2 j c hj).2⟩⟩
theorem CN.set {w : World} {q : Nat} {cs : List Value} (h : CN w q cs) (i : Nat) (hi : i < cs.length) (v : Value) : CN (w.setCell ⟨q, i, none⟩ v) q (cs.set i v) := by
  refine ⟨by simpa using h.1, fun j c hj => ?_⟩
  by_cases e : j = i
  · subst e
    rw [List.getElem?_set_self hi] at hj
    obtain rfl := Option.some.inj hj
    have h1 := h.2 j cs[j] (List.getElem?_eq_getElem hi)
    exact ⟨World.cell?_setCell_same _ _ _ h1.1, by rw [World.frozen?_setCell]; exact h1.2⟩
  · rw [List.getElem?_set_ne (by omega)] at hj
    have h1 := h.2 j c hj
    exact ⟨(World.cell?_setCell_other _ _ _ _ (by intro e2; injection e2; omega)).trans h1.1, by rw [World.frozen?_setCell]; exact h1.2⟩
theorem CN.u5 {w : World} {q : Nat} {c0 c1 c2 c3 c4 : Value} (h : CN w q [c0, c1, c2, c3, c4]) : w.cell? ⟨q, 0, none⟩ = some c0 ∧ w.cell? ⟨q, 1, none⟩ = some c1 ∧ w.cell? ⟨q, 2, none⟩ = some c2 ∧ w.cell? ⟨q, 3, none⟩ = some c3 ∧ w.cell? ⟨q, 4, none⟩ = some c4 ∧ w.frozen? ⟨q, 0, none⟩ = false ∧ w.frozen? ⟨q, 1, none⟩ = false ∧ w.frozen? ⟨q, 2, none⟩ = false ∧ w.frozen? ⟨q, 3, none⟩ = false ∧ w.frozen? ⟨q, 4, none⟩ = false :=
  ⟨(h.2 0 _ rfl).1, (h.2 1 _ rfl).1, (h.2 2 _ rfl).1, (h.2 3 _ rfl).1, (h.2 4 _ rfl).1, (h.2 0 _ rfl).2, (h.2 1 _ rfl).2, (h.2 2 _ rfl).2, (h.2 3 _ rfl).2, (h.2 4 _ rfl).2⟩
theorem CN.s5 {w : World} {q : Nat} {c0 c1 c2 c3 c4 : Value} (h : CN w q [c0, c1, c2, c3, c4]) (d0 d1 d2 d3 d4 : Value) : CN (((((w.setCell ⟨q, 0, none⟩ (d0)).setCell ⟨q, 1, none⟩ (d1)).setCell ⟨q, 2, none⟩ (d2)).setCell ⟨q, 3, none⟩ (d3)).setCell ⟨q, 4, none⟩ (d4)) q [d0, d1, d2, d3, d4] :=
  (((((h.set 0 (by simp) d0).set 1 (by simp) d1).set 2 (by simp) d2).set 3 (by simp) d3).set 4 (by simp) d4)
theorem CN.f5 {w : World} {q : Nat} {cs : List Value} (h : CN w q cs) {p : Nat} (hp : p ≠ q) (d0 d1 d2 d3 d4 : Value) : CN (((((w.setCell ⟨p, 0, none⟩ (d0)).setCell ⟨p, 1, none⟩ (d1)).setCell ⟨p, 2, none⟩ (d2)).setCell ⟨p, 3, none⟩ (d3)).setCell ⟨p, 4, none⟩ (d4)) q cs :=
  (((((h.far _ hp _).far _ hp _).far _ hp _).far _ hp _).far _ hp _)
theorem grown_s5 (w : World) (q : Nat) (d0 d1 d2 d3 d4 : Value) : w.grownBy (((((w.setCell ⟨q, 0, none⟩ (d0)).setCell ⟨q, 1, none⟩ (d1)).setCell ⟨q, 2, none⟩ (d2)).setCell ⟨q, 3, none⟩ (d3)).setCell ⟨q, 4, none⟩ (d4)) (some q) :=
  (((((grown_cell w q 0 d0).trans (grown_cell _ q 1 d1)).trans (grown_cell _ q 2 d2)).trans (grown_cell _ q 3 d3)).trans (grown_cell _ q 4 d4))
theorem CN.u12 {w : World} {q : Nat} {c0 c1 c2 c3 c4 c5 c6 c7 c8 c9 c10 c11 : Value} (h : CN w q [c0, c1, c2, c3, c4, c5, c6, c7, c8, c9, c10, c11]) : w.cell? ⟨q, 0, none⟩ = some c0 ∧ w.cell? ⟨q, 1, none⟩ = some c1 ∧ w.cell? ⟨q, 2, none⟩ = some c2 ∧ w.cell? ⟨q, 3, none⟩ = some c3 ∧ w.cell? ⟨q, 4, none⟩ = some c4 ∧ w.cell? ⟨q, 5, none⟩ = some c5 ∧ w.cell? ⟨q, 6, none⟩ = some c6 ∧ w.cell? ⟨q, 7, none⟩ = some c7 ∧ w.cell? ⟨q, 8, none⟩ = some c8 ∧ w.cell? ⟨q, 9, none⟩ = some c9 ∧ w.cell? ⟨q, 10, none⟩ = some c10 ∧ w.cell? ⟨q, 11, none⟩ = some c11 ∧ w.frozen? ⟨q, 0, none⟩ = false ∧ w.frozen? ⟨q, 1, none⟩ = false ∧ w.frozen? ⟨q, 2, none⟩ = false ∧ w.frozen? ⟨q, 3, none⟩ = false ∧ w.frozen? ⟨q, 4, none⟩ = false ∧ w.frozen? ⟨q, 5, none⟩ = false ∧ w.frozen? ⟨q, 6, none⟩ = false ∧ w.frozen? ⟨q, 7, none⟩ = false ∧ w.frozen? ⟨q, 8, none⟩ = false ∧ w.frozen? ⟨q, 9, none⟩ = false ∧ w.frozen? ⟨q, 10, none⟩ = false ∧ w.frozen? ⟨q, 11, none⟩ = false :=
  ⟨(h.2 0 _ rfl).1, (h.2 1 _ rfl).1, (h.2 2 _ rfl).1, (h.2 3 _ rfl).1, (h.2 4 _ rfl).1, (h.2 5 _ rfl).1, (h.2 6 _ rfl).1, (h.2 7 _ rfl).1, (h.2 8 _ rfl).1, (h.2 9 _ rfl).1, (h.2 10 _ rfl).1, (h.2 11 _ rfl).1, (h.2 0 _ rfl).2, (h.2 1 _ rfl).2, (h.2 2 _ rfl).2, (h.2 3 _ rfl).2, (h.2 4 _ rfl).2, (h.2 5 _ rfl).2, (h.2 6 _ rfl).2, (h.2 7 _ rfl).2, (h.2 8 _ rfl).2, (h.2 9 _ rfl).2, (h.2 10 _ rfl).2, (h.2 11 _ rfl).2⟩
theorem CN.s12 {w : World} {q : Nat} {c0 c1 c2 c3 c4 c5 c6 c7 c8 c9 c10 c11 : Value} (h : CN w q [c0, c1, c2, c3, c4, c5, c6, c7, c8, c9, c10, c11]) (d0 d1 d2 d3 d4 d5 d6 d7 d8 d9 d10 d11 : Value) : CN ((((((((((((w.setCell ⟨q, 0, none⟩ (d0)).setCell ⟨q, 1, none⟩ (d1)).setCell ⟨q, 2, none⟩ (d2)).setCell ⟨q, 3, none⟩ (d3)).setCell ⟨q, 4, none⟩ (d4)).setCell ⟨q, 5, none⟩ (d5)).setCell ⟨q, 6, none⟩ (d6)).setCell ⟨q, 7, none⟩ (d7)).setCell ⟨q, 8, none⟩ (d8)).setCell ⟨q, 9, none⟩ (d9)).setCell ⟨q, 10, none⟩ (d10)).setCell ⟨q, 11, none⟩ (d11)) q [d0, d1, d2, d3, d4, d5, d6, d7, d8, d9, d10, d11] :=
  ((((((((((((h.set 0 (by simp) d0).set 1 (by simp) d1).set 2 (by simp) d2).set 3 (by simp) d3).set 4 (by simp) d4).set 5 (by simp) d5).set 6 (by simp) d6).set 7 (by simp) d7).set 8 (by simp) d8).set 9 (by simp) d9).set 10 (by simp) d10).set 11 (by simp) d11)
theorem CN.f12 {w : World} {q : Nat} {cs : List Value} (h : CN w q cs) {p : Nat} (hp : p ≠ q) (d0 d1 d2 d3 d4 d5 d6 d7 d8 d9 d10 d11 : Value) : CN ((((((((((((w.setCell ⟨p, 0, none⟩ (d0)).setCell ⟨p, 1, none⟩ (d1)).setCell ⟨p, 2, none⟩ (d2)).setCell ⟨p, 3, none⟩ (d3)).setCell ⟨p, 4, none⟩ (d4)).setCell ⟨p, 5, none⟩ (d5)).setCell ⟨p, 6, none⟩ (d6)).setCell ⟨p, 7, none⟩ (d7)).setCell ⟨p, 8, none⟩ (d8)).setCell ⟨p, 9, none⟩ (d9)).setCell ⟨p, 10, none⟩ (d10)).setCell ⟨p, 11, none⟩ (d11)) q cs :=
  ((((((((((((h.far _ hp _).far _ hp _).far _ hp _).far _ hp _).far _ hp _).far _ hp _).far _ hp _).far _ hp _).far _ hp _).far _ hp _).far _ hp _).far _ hp _)
theorem grown_s12 (w : World) (q : Nat) (d0 d1 d2 d3 d4 d5 d6 d7 d8 d9 d10 d11 : Value) : w.grownBy ((((((((((((w.setCell ⟨q, 0, none⟩ (d0)).setCell ⟨q, 1, none⟩ (d1)).setCell ⟨q, 2, none⟩ (d2)).setCell ⟨q, 3, none⟩ (d3)).setCell ⟨q, 4, none⟩ (d4)).setCell ⟨q, 5, none⟩ (d5)).setCell ⟨q, 6, none⟩ (d6)).setCell ⟨q, 7, none⟩ (d7)).setCell ⟨q, 8, none⟩ (d8)).setCell ⟨q, 9, none⟩ (d9)).setCell ⟨q, 10, none⟩ (d10)).setCell ⟨q, 11, none⟩ (d11)) (some q) :=
  ((((((((((((grown_cell w q 0 d0).trans (grown_cell _ q 1 d1)).trans (grown_cell _ q 2 d2)).trans (grown_cell _ q 3 d3)).trans (grown_cell _ q 4 d4)).trans (grown_cell _ q 5 d5)).trans (grown_cell _ q 6 d6)).trans (grown_cell _ q 7 d7)).trans (grown_cell _ q 8 d8)).trans (grown_cell _ q 9 d9)).trans (grown_cell _ q 10 d10)).trans (grown_cell _ q 11 d11))
theorem own_mono4 {w : World} {base base' : Nat} {e : TypeId} {size n : Nat} {v : Value} {xs : List Value} (h : w.ownsRow base e size v n xs) (hb : base' ≤ base) : w.ownsRow base' e size v n xs := by
  refine ⟨h.1, ?_⟩
  rcases h.2 with hn | ⟨g, cap, cur, h1, h2, rest⟩
  · exact .inl hn
  · exact .inr ⟨g, cap, cur, h1, Nat.le_trans hb h2, rest⟩
theorem rowR_own2 {w : World} {B n c : Nat} {a : Option Addr} {l : List R5} (h : w.ownsRow B 77 5 (.slice a n c) n (flatR l)) : RowR w a n l ∧ (a = none → n = 0 ∧ c = 0) := by
  obtain ⟨a', c', e, h1, h2⟩ := rowR_own h
  injection e with e1 _ e3
  subst e1 e3
  exact ⟨h1, h2⟩
theorem rowQ_own2 {w : World} {B n c : Nat} {a : Option Addr} {l : List Ky} (h : w.ownsRow B 27 3 (.slice a n c) n (flatQ l)) : RowQ w a n l ∧ (a = none → n = 0 ∧ c = 0) := by
  obtain ⟨a', c', e, h1, h2⟩ := rowQ_own h
  injection e with e1 _ e3
  subst e1 e3
  exact ⟨h1, h2⟩
end Go.Proofs.Ytgppkpdjpcegbaa
end
