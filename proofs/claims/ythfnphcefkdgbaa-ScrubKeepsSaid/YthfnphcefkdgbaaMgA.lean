/- Texts that others rest on, one behind the other: Tk, Base, Byt, Nm, Str, Tx, Lab, StA, MayR, MayN, Lbl, AppS, BRw, Row. -/
import Derived.Deep.RegionHeld
import Derived.KernelRfl
import Derived.Test.YthfnphcefkdgbaaRows
import Derived.WalkKit
import Derived.WalkLawsBesides
import Derived.WalkSpells
import Derived.BigQuiet
import Derived.Deep.QuietTactic
import Derived.Handy
import Derived.Lib.Hide
import Derived.Lib.AppendStr
import Derived.Deep.MidRow
import Derived.Laws.ResultCell
import Derived.OwnWalk
import Derived.Outline
import Derived.Laws.AppendOwnNone
import Derived.Deep.Matrix
section
namespace Go.Proofs.Ythfnphcefkdgbaa
open Go
/-- An operation of a list by its number (so that the literal itself is found). -/
def opAt : List Oper → Nat → Option Oper
  | [], _ => none
  | o :: _, 0 => some o
  | _ :: l, i + 1 => opAt l i
theorem opAt_get : ∀ (l : List Oper) (i : Nat), opAt l i = l[i]?
  | [], _ => rfl
  | _ :: _, 0 => rfl
  | _ :: l, i + 1 => (opAt_get l i).trans List.getElem?_cons_succ.symm
theorem opAt_arr {ops : Array Oper} {i : Nat} {o : Oper} (h : opAt ops.toList i = some o) : ops[i]? = some o := by
  rw [opAt_get] at h
  rw [← h]; exact Array.getElem?_toList.symm
section
variable {P : Program} {ops : Array Oper} {Q : Exit → Act → World → Prop} {md : Region.Mode} {S : World → Prop}
/-- The numbers that are to be taken next. -/
def Plan (_ : List Nat) (p : Prop) : Prop := p
theorem Plan.of (l : List Nat) {p : Prop} (h : Plan l p) : p := h
theorem Plan.fin {p : Prop} (h : p) : Plan [] p := h
theorem Plan.w {i : Nat} {is : List Nat} {oi : Oper} {v : Value} {fuel : Nat} {listed : Array Bool} {a : Act} {w : World} (hi : opAt ops.toList i = some oi) (hS : S w)
    (hw : Region.wanted oi (yielded ops a.tmps) = true) (hy : ∀ w, S w → (execOp a.eval oi).run P w = .ok (.value v) w)
    (h : Plan is (wpAnyH P md ops Q S fuel (listed.setIfInBounds i true) (a.put oi.dst v) w))
    (hs : Region.noSelect ops = true := by kernel_rfl) (hf : Region.free md ops listed i = true := by kernel_rfl) (hr : (Region.ready md ops listed).contains i = true := by kernel_rfl)
    (hQ : ∀ c a w, Q (.panic c) (a.put oi.dst v) w → Q (.panic c) a w := by exact fun _ _ _ h => h) :
    Plan (i :: is) (wpAnyH P md ops Q S (fuel + 1) listed a w) :=
  wpAnyH_take (opAt_arr hi) hs hf hr hQ (Or.inl ⟨hw, hy⟩) hS h
theorem Plan.n {i : Nat} {is : List Nat} {oi : Oper} {fuel : Nat} {listed : Array Bool} {a : Act} {w : World} (hi : opAt ops.toList i = some oi) (hS : S w)
    (hw : Region.wanted oi (yielded ops a.tmps) = false)
    (h : Plan is (wpAnyH P md ops Q S fuel (listed.setIfInBounds i true) (a.put oi.dst undef) w))
    (hs : Region.noSelect ops = true := by kernel_rfl) (hf : Region.free md ops listed i = true := by kernel_rfl) (hr : (Region.ready md ops listed).contains i = true := by kernel_rfl)
    (hQ : ∀ c a w, Q (.panic c) (a.put oi.dst undef) w → Q (.panic c) a w := by exact fun _ _ _ h => h) :
    Plan (i :: is) (wpAnyH P md ops Q S (fuel + 1) listed a w) :=
  wpAnyH_take (opAt_arr hi) hs hf hr hQ (Or.inr ⟨hw, rfl⟩) hS h
theorem rdyH {fuel : Nat} {listed : Array Bool} {a : Act} {w : World} {i : Nat} {o : Oper} {rs : List Nat} (ho : opAt ops.toList i = some o)
    (h : ∀ K' : Act → World → Prop, Shut (∀ a w, S w → (S w → wpAnyH P md ops Q S fuel (listed.setIfInBounds i true) a w) → K' a w) → if Region.wanted o (yielded ops a.tmps) = true then Oper.wp P o a w K' Q else K' (a.put o.dst undef) w)
    (hs : AllReadyH P md ops Q S fuel listed a w rs) : AllReadyH P md ops Q S fuel listed a w (i :: rs) := AllReadyH.cons (opAt_arr ho) h hs
end
end Go.Proofs.Ythfnphcefkdgbaa
end

section
namespace Go.Proofs.Ythfnphcefkdgbaa
open Go.RowKit

theorem ret_bool {a b : Bool} (h : a = b) : Ending.returned (.bool a) = Ending.returned (.bool b) := by rw [h]
theorem ret_int {k : IntKind} {a b : Int} (h : a = b) : Ending.returned (.int k a) = Ending.returned (.int k b) := by rw [h]
theorem ret_str {a b : ByteArray} (h : a = b) : Ending.returned (.string a) = Ending.returned (.string b) := by rw [h]
theorem ret_ii {k l : IntKind} {a b c d : Int} (h : a = b) (g : c = d) : Ending.returned (.tuple #[.int k a, .int l c]) = Ending.returned (.tuple #[.int k b, .int l d]) := by rw [h, g]
theorem ret_ib {k : IntKind} {a b : Int} {c d : Bool} (h : a = b) (g : c = d) : Ending.returned (.tuple #[.int k a, .bool c]) = Ending.returned (.tuple #[.int k b, .bool d]) := by rw [h, g]
theorem ret_si {l : IntKind} {a b : ByteArray} {c d : Int} (h : a = b) (g : c = d) : Ending.returned (.tuple #[.string a, .int l c]) = Ending.returned (.tuple #[.string b, .int l d]) := by rw [h, g]
theorem ret_sb {a b : ByteArray} {c d : Bool} (h : a = b) (g : c = d) : Ending.returned (.tuple #[.string a, .bool c]) = Ending.returned (.tuple #[.string b, .bool d]) := by rw [h, g]
/-- A test's outcome, as the walk spells it. -/
theorem dT {p : Prop} [Decidable p] (h : p) : decide p = true := by simp [h]
theorem dF {p : Prop} [Decidable p] (h : ¬ p) : decide p = false := by simp [h]
theorem eT {a b : Int} (h : a = b) : (a == b) = true := by simp [h]
theorem eF {a b : Int} (h : ¬ a = b) : (a == b) = false := by simp [h]
theorem nT {a b : Int} (h : ¬ a = b) : (a != b) = true := by simp [h]
theorem nF {a b : Int} (h : a = b) : (a != b) = false := by simp [h]
/-- A call inside a region that only reads. -/
theorem quiet_same {P : Program} {f : FuncId} {args : Array Value} {w : World} {n : Nat} {v : Value}
    (h : Calls P f args (w.drewN n) fun e w' => e = .returned v ∧ w.drewN n = w') : Calls P f args (w.drewN n) fun e w'' => e = .returned v ∧ ∃ m, w'' = w.drewN m :=
  h.mono fun _ _ ⟨he, hm⟩ => ⟨he, n, hm.symm⟩
theorem below_drewN {B : Nat} {w w' : World} (h : Below B w w') (n : Nat) : Below B w (w'.drewN n) := by
  induction n with
  | zero => exact h
  | succ n ih => exact ih.drew
end Go.Proofs.Ythfnphcefkdgbaa
end

section
namespace Go.Proofs.Ythfnphcefkdgbaa
open Go.RowKit

/-- Bytes as cells. -/
def bc (l : List UInt8) : List Value := l.map fun b => Value.int .u8 (b.toNat : Int)
/-- A string of bytes. -/
def bs (l : List UInt8) : ByteArray := ⟨l.toArray⟩
/-- A byte of a number. -/
def by8 (n : Int) : UInt8 := UInt8.ofNat (n % 256).toNat

theorem bc_length (l : List UInt8) : (bc l).length = l.length := by simp [bc]
theorem bc_append (l m : List UInt8) : bc (l ++ m) = bc l ++ bc m := by simp [bc]
theorem bs_size (l : List UInt8) : (bs l).size = l.length := by simp [bs]; rfl
theorem bs_toList (l : List UInt8) : (bs l).toList = l := by simp [bs]
theorem bs_of (s : ByteArray) : bs s.data.toList = s := rfl
theorem bs_append (l m : List UInt8) : bs l ++ bs m = bs (l ++ m) := ByteArray.mk_append_mk l m
theorem by8_toNat (n : Int) : ((by8 n).toNat : Int) = n % 256 := by
  unfold by8
  have h : (n % 256).toNat < 256 := by omega
  rw [UInt8.toNat_ofNat_of_lt' h]
  omega
theorem bc_one (n : Int) : bc [by8 n] = [Value.int .u8 (n % 256)] := by simp [bc, by8_toNat]
theorem bc_one' (b : UInt8) : bc [b] = [Value.int .u8 (b.toNat : Int)] := rfl
theorem bc_oneCell (l : List UInt8) : ∀ u ∈ bc l, u.oneCell' = true := by
  intro u hu
  simp only [bc, List.mem_map] at hu
  obtain ⟨b, _, rfl⟩ := hu
  rfl
theorem strCells_bs (l : List UInt8) : Lib.strCells (bs l) = bc l := by simp [Lib.strCells, bs, bc]
theorem strCells_bc (s : ByteArray) : Lib.strCells s = bc s.data.toList := rfl

/-- A byte of a text, as a number. -/
def byteAt (s : ByteArray) (i : Nat) : Nat := (s.data.toList.getD i 0).toNat
theorem byteAt_lt (s : ByteArray) (i : Nat) : byteAt s i < 256 := (s.data.toList.getD i 0).toNat_lt
theorem byte_get {s : ByteArray} {i : Nat} (h : i < s.size) : (s[i]).toNat = byteAt s i := by
  have h' : i < s.data.toList.length := by simpa using h
  unfold byteAt
  rw [List.getD_eq_getElem?_getD, List.getElem?_eq_getElem h']
  rfl
theorem byteAt_bs (l : List UInt8) (i : Nat) : byteAt (bs l) i = (l.getD i 0).toNat := rfl

theorem infoU8 : (Try.prog.info? 5).map (fun i => (i.zero, i.size, i.bytes)) = some (some (.int .u8 0), 1, 1) := by kernel_rfl

/-- string(b), b a row of bytes of the call's own. -/
theorem conv_own {w : World} {base : Nat} {v : Value} {n : Nat} {l : List UInt8} (h : w.ownsRow base 5 1 v n (bc l)) :
    (convert 123 9 v).run Try.prog w = .ok (.string (bs l)) w := by
  have hl : l.length = n := by have := h.1; rw [bc_length] at this; omega
  rcases h.2 with ⟨rfl, rfl⟩ | ⟨g, cap, cur, rfl, _, hg, _, _, _, htake⟩
  · have : l = [] := List.eq_nil_of_length_eq_zero hl
    subst this
    have := run_convert_bytes_string (P := Try.prog) w 123 9 5 none 0 0 Try.underlying123 Try.underlying5 Try.underlying9
    rw [this]
    simp [bs]
    rfl
  · subst hl
    refine run_convert_bytes_back w _ _ 5 ⟨g, 0, none⟩ cap l Try.underlying123 Try.underlying5 Try.underlying9 ?_
    intro j hj
    have := h.cells (g := g) rfl j (.int .u8 (l[j].toNat : Int)) (by simp [bc, hj])
    exact this

theorem own_at {w : World} {base g n cap : Nat} {l : List UInt8} (h : w.ownsRow base 5 1 (.slice (some ⟨g, 0, none⟩) n cap) n (bc l)) (j : Nat) (hj : j < n) :
    w.cell? ⟨g, j, none⟩ = some (.int .u8 ((l.getD j 0).toNat : Int)) := by
  have hl : l.length = n := by have := h.1; rw [bc_length] at this; omega
  rw [h.cellAt j (by omega)]
  simp [bc, List.getD, show j < l.length by omega]
theorem one_int (k : IntKind) (n : Int) : ∀ u ∈ [Value.int k n], u.oneCell' = true := by
  intro u hu
  simp only [List.mem_cons, List.not_mem_nil, or_false] at hu
  subst hu
  rfl
theorem own_drewN {w : World} {base : Nat} {e : TypeId} {size : Nat} {v : Value} {n : Nat} {xs : List Value} (h : w.ownsRow base e size v n xs) (k : Nat) : (w.drewN k).ownsRow base e size v n xs := by
  induction k with
  | zero => exact h
  | succ k ih => exact ih.drew
/-- []byte(s): a new block that holds the bytes. -/
theorem conv_bytes {w : World} {ops : Array Oper} {rest : List Oper} {o : Oper} {act : Act} {Q : Exit → Act → World → Prop} (hgd : o.guard = none) (x : Operand) (ho : o.op = .convert 9 123 x) (s : ByteArray) (hx : act.eval x = .string s)
    (h : ∀ cap w', s.size ≤ cap → Below w.heap.size w w' → w'.heap.size = w.heap.size + 1 → (∀ j, j < s.size → w'.cell? ⟨w.heap.size, j, none⟩ = some (.int .u8 ((s.data.toList.getD j 0).toNat : Int))) → (∀ j, j < s.size → w'.frozen? ⟨w.heap.size, j, none⟩ = false) → wpList Try.prog ops Q rest (act.put o.dst (.slice (some ⟨w.heap.size, 0, none⟩) s.size cap)) w') : wpList Try.prog ops Q (o :: rest) act w := by
  refine wpList_plain hgd fun K hK => ?_
  have hrun := run_bytes_of_string (P := Try.prog) w 9 123 5 s Try.underlying9 Try.underlying123 Try.underlying5
  have hcap := grownCap_ge w s.size 0 5
  generalize grownCap w s.size 0 5 = cap at *
  have hsz : s.size ≤ (bytesRow s cap).size := by simp [bytesRow]
  unfold Oper.wp
  simp [execOp, ho, hx, hrun, Result.andThen]
  refine hK _ _ (h cap _ hcap ?_ (by simp) ?_ ?_)
  · exact ((Below.refl _ _).alloc (Nat.le_refl _) _).drew
  · intro j hj
    have hj' : j < s.data.size := hj
    have := World.cell?_alloc_mark w (bytesRow s cap) 5 ((bytesRow s cap).size, (bytesRow s cap).size + 1) j
    have h2 := bytesRow_at s cap j hj'
    show (w.alloc _).cell? _ = _
    rw [this, h2, List.getD_eq_getElem?_getD, List.getElem?_eq_getElem (by simpa using hj')]
    rfl
  · intro j hj
    have := World.frozen?_alloc_mark w (bytesRow s cap) 5 (bytesRow s cap).size ((bytesRow s cap).size + 1) j
    show (w.alloc _).frozen? _ = _
    rw [this]
    simp
    omega
/-- Behind an append of one byte to a row of the call's own. -/
theorem below_append {w wr w' : World} {v : Value} {B n : Nat} {xs : List Value} {o : Obj} (hb : Below B w wr) (hB : B ≤ wr.heap.size) (hown : wr.ownsRow B 5 1 v n xs) (hg : (wr.alloc o).grownBy w' v.ownBlock) : Below B w w' :=
  (hb.alloc hB o).grown hg (by simp; omega) (fun k hk => (hown.lt k hk).1)
end Go.Proofs.Ythfnphcefkdgbaa
end

section
namespace Go.Proofs.Ythfnphcefkdgbaa
open Go.RowKit

def great (b : Nat) : Bool := decide (65 ≤ b ∧ b ≤ 90)
theorem isGreat_any (b : Nat) (w : World) (h : b < 256) : Calls Try.prog 128 #[.int .u8 b] w fun e w' => e = .returned (.bool (great b)) ∧ w = w' := by
  go_enter Try.func128, Try.ntmps128
  go_wp2
  all_goals (go_ret; refine ⟨ret_bool ?_, rfl⟩; rw [Bool.eq_iff_iff]; simp [great]; try omega)

def anyG (s : ByteArray) (at' : Nat) : Nat → Bool
  | 0 => false
  | k + 1 => anyG s at' k || great (byteAt s (at' + k))
theorem anyG_yes {s : ByteArray} {at' k n : Nat} (hk : k < n) (h : great (byteAt s (at' + k)) = true) : anyG s at' n = true := by
  induction n with
  | zero => omega
  | succ n ih =>
    simp only [anyG]
    by_cases e : k = n
    · subst e; rw [h]; simp
    · rw [ih (by omega)]; simp
theorem anyG_congr {s t : ByteArray} {a b n : Nat} (h : ∀ j, j < n → byteAt s (a + j) = byteAt t (b + j)) : anyG s a n = anyG t b n := by
  induction n with
  | zero => rfl
  | succ n ih => simp only [anyG]; rw [ih fun j hj => h j (by omega), h n (by omega)]

theorem hasGreat_any (s : ByteArray) (w : World) (hs : s.size ≤ 1000000) : Calls Try.prog 115 #[.string s] w fun e w' => e = .returned (.bool (anyG s 0 s.size)) ∧ w = w' := by
  go_enter Try.func115, Try.ntmps115
  go_wp2
  go_loop [6] (fun i => ∃ k : Nat, k ≤ s.size ∧ anyG s 0 k = false ∧ i = .int .i64 k) (fun i => s.size - (intOf i).toNat)
  case atStart => exact ⟨0, Nat.zero_le _, rfl, rfl⟩
  case round =>
    obtain ⟨k, hk, hg, rfl⟩ := hrel
    have HG := Lib.hid hg
    clear hg
    by_cases hlt : k < s.size
    · have hb := byte_get hlt
      have hb2 := byteAt_lt s k
      cases hgr : great (byteAt s k)
      · have HN := Lib.hid (show anyG s 0 (k + 1) = false by simp only [anyG]; rw [HG.out, Nat.zero_add, hgr]; rfl)
        go_wp2_with (go_at_call 128; refine (isGreat_any _ _ (by omega)).mono ?_; rintro e w' ⟨rfl, rfl⟩)
        go_round
        case rel => exact ⟨k + 1, by omega, HN.out, by go_num⟩
        case measure => simp [intOf]; omega
      · have HN := Lib.hid (anyG_yes (s := s) (at' := 0) hlt (by rw [Nat.zero_add]; exact hgr))
        go_wp2_with (go_at_call 128; refine (isGreat_any _ _ (by omega)).mono ?_; rintro e w' ⟨rfl, rfl⟩)
        go_ret
        exact ⟨ret_bool HN.out.symm, rfl⟩
    · have hkl : k = s.size := by omega
      subst hkl
      go_wp2
      go_ret
      exact ⟨ret_bool HG.out.symm, rfl⟩

theorem extract_size (s : ByteArray) (a b : Nat) (h : b ≤ s.size) : (s.extract a b).size = b - a := by rw [ByteArray.size_extract]; omega
theorem byteAt_extract (s : ByteArray) (a b j : Nat) (h : b ≤ s.size) (hj : a + j < b) : byteAt (s.extract a b) j = byteAt s (a + j) := by
  rw [← byte_get (s := s.extract a b) (i := j) (by rw [extract_size _ _ _ h]; omega), ← byte_get (s := s) (i := a + j) (by omega)]
  rw [ByteArray.getElem_extract]

/-- May the label of s that begins at a place be? -/
def okStep (s : ByteArray) (at' : Nat) : Bool := decide (1 ≤ byteAt s at') && decide (byteAt s at' ≤ 63) && decide (at' + 1 + byteAt s at' < s.size) && !anyG s (at' + 1) (byteAt s at')
def pastN (s : ByteArray) (at' : Nat) : Nat := if okStep s at' = true then at' + 1 + byteAt s at' else 0

theorem past_any (s : ByteArray) (A : Nat) (w : World) (hA : A < s.size) (hs : s.size ≤ 1000000) : Calls Try.prog 89 #[.string s, .int .i64 A] w fun e w' => e = .returned (.int .i64 (pastN s A : Nat)) ∧ w = w' := by
  have hb := byte_get hA
  have hb2 := byteAt_lt s A
  obtain ⟨k, hk⟩ : ∃ k, byteAt s A = k := ⟨_, rfl⟩
  have hok : okStep s A = (decide (1 ≤ k) && decide (k ≤ 63) && decide (A + 1 + k < s.size) && !anyG s (A + 1) k) := by rw [okStep, hk]
  have hp : pastN s A = if okStep s A = true then A + 1 + k else 0 := by rw [pastN, hk]
  have HOK := Lib.hid hok
  have HP := Lib.hid hp
  rw [hk] at hb hb2
  clear hok hp hk
  by_cases k0 : k = 0
  · subst k0
    have HZ := Lib.hid (show pastN s A = 0 by rw [HP.out, HOK.out]; simp)
    go_enter Try.func89, Try.ntmps89
    go_wp2
    go_ret
    exact ⟨ret_int (by rw [HZ.out]; rfl), rfl⟩
  · have e0 : ((k : Int) == 0) = false := eF (by omega)
    by_cases k63 : k ≤ 63
    · have e1 := dF (p := (63 : Int) < (k : Int)) (by omega)
      by_cases kn : A + 1 + k < s.size
      · have e2 := dF (p := (s.size : Int) ≤ (A : Int) + 1 + (k : Int)) (by omega)
        have hsz : (s.extract (A + 1) (A + 1 + k)).size = k := by rw [extract_size _ _ _ (by omega)]; omega
        have hg : anyG (s.extract (A + 1) (A + 1 + k)) 0 (s.extract (A + 1) (A + 1 + k)).size = anyG s (A + 1) k := by
          rw [hsz]
          refine anyG_congr ?_
          intro j hj
          rw [Nat.zero_add]
          exact byteAt_extract s (A + 1) (A + 1 + k) j (by omega) (by omega)
        cases hgv : anyG s (A + 1) k
        · rw [hgv] at hg
          have HG := Lib.hid hg
          have HZ := Lib.hid (show pastN s A = A + 1 + k by rw [HP.out, HOK.out, hgv]; simp; omega)
          clear hg hgv
          go_enter Try.func89, Try.ntmps89
          go_wp2_with fail
          refine (hasGreat_any _ _ (by rw [hsz]; omega)).mono ?_; rintro e w' ⟨rfl, rfl⟩
          rw [HG.out]
          go_wp2
          go_ret
          exact ⟨ret_int (by rw [HZ.out]; omega), rfl⟩
        · rw [hgv] at hg
          have HG := Lib.hid hg
          have HZ := Lib.hid (show pastN s A = 0 by rw [HP.out, HOK.out, hgv]; simp)
          clear hg hgv
          go_enter Try.func89, Try.ntmps89
          go_wp2_with fail
          refine (hasGreat_any _ _ (by rw [hsz]; omega)).mono ?_; rintro e w' ⟨rfl, rfl⟩
          rw [HG.out]
          go_wp2
          go_ret
          exact ⟨ret_int (by rw [HZ.out]; rfl), rfl⟩
      · have e2 := dT (p := (s.size : Int) ≤ (A : Int) + 1 + (k : Int)) (by omega)
        have HZ := Lib.hid (show pastN s A = 0 by rw [HP.out, HOK.out]; simp [kn])
        clear kn
        go_enter Try.func89, Try.ntmps89
        go_wp2
        go_ret
        exact ⟨ret_int (by rw [HZ.out]; rfl), rfl⟩
    · have e1 := dT (p := (63 : Int) < (k : Int)) (by omega)
      have HZ := Lib.hid (show pastN s A = 0 by rw [HP.out, HOK.out]; simp [k63])
      clear k63
      go_enter Try.func89, Try.ntmps89
      go_wp2
      go_ret
      exact ⟨ret_int (by rw [HZ.out]; rfl), rfl⟩

def mayRun (s : ByteArray) : Nat → Nat → Bool
  | 0, at' => byteAt s at' == 0
  | f + 1, at' => if at' + 1 < s.size then okStep s at' && mayRun s f (at' + 1 + byteAt s at') else byteAt s at' == 0
def mayN (s : ByteArray) : Bool := decide (1 ≤ s.size ∧ s.size ≤ 255) && mayRun s s.size 0

theorem mayRun_more (s : ByteArray) : ∀ (f at' : Nat), s.size ≤ at' + 1 + f → mayRun s (f + 1) at' = mayRun s f at' := by
  intro f
  induction f with
  | zero => intro at' h; show (if at' + 1 < s.size then _ else _) = _; rw [if_neg (by omega)]; rfl
  | succ f ih =>
    intro at' h
    show (if at' + 1 < s.size then okStep s at' && mayRun s (f + 1) (at' + 1 + byteAt s at') else byteAt s at' == 0) = (if at' + 1 < s.size then okStep s at' && mayRun s f (at' + 1 + byteAt s at') else byteAt s at' == 0)
    rw [ih _ (by omega)]
theorem mayRun_step (s : ByteArray) (at' : Nat) (h : at' + 1 < s.size) : mayRun s s.size at' = (okStep s at' && mayRun s s.size (at' + 1 + byteAt s at')) := by
  rw [← mayRun_more s s.size at' (by omega)]
  show (if at' + 1 < s.size then okStep s at' && mayRun s s.size (at' + 1 + byteAt s at') else byteAt s at' == 0) = _
  rw [if_pos h]
theorem mayRun_end (s : ByteArray) (f at' : Nat) (h : ¬ at' + 1 < s.size) : mayRun s f at' = (byteAt s at' == 0) := by
  cases f with
  | zero => rfl
  | succ f => show (if at' + 1 < s.size then _ else _) = _; rw [if_neg h]

theorem nmay_any (s : ByteArray) (w : World) (hs : s.size ≤ 1000000) : Calls Try.prog 61 #[.string s] w fun e w' => e = .returned (.bool (mayN s)) ∧ w = w' := by
  by_cases h1 : s.size = 0
  · have e1 : ((s.size : Int) == 0) = true := eT (by omega)
    have HN := Lib.hid (show mayN s = false by simp [mayN, h1])
    clear h1
    go_enter Try.func61, Try.ntmps61
    go_wp2
    go_ret
    exact ⟨ret_bool HN.out.symm, rfl⟩
  · have e1 : ((s.size : Int) == 0) = false := eF (by omega)
    by_cases h2 : s.size ≤ 255
    · have e2 := dF (p := (255 : Int) < (s.size : Int)) (by omega)
      have HN := Lib.hid (show mayN s = mayRun s s.size 0 by rw [mayN, dT (p := 1 ≤ s.size ∧ s.size ≤ 255) (by omega)]; rfl)
      have hpos : 0 < s.size := by omega
      clear h1
      go_enter Try.func61, Try.ntmps61
      go_wp2
      go_loop [3] (fun i => ∃ k : Nat, k < s.size ∧ Hid (mayRun s s.size 0 = mayRun s s.size k) ∧ i = .int .i64 k) (fun i => s.size - (intOf i).toNat)
      case atStart => exact ⟨0, hpos, rfl, rfl⟩
      case round =>
        obtain ⟨k, hk, hr, rfl⟩ := hrel
        by_cases hlt : k + 1 < s.size
        · have t1 : (k : Int) < (s.size : Int) - 1 := by omega
          have hst := mayRun_step s k hlt
          cases hok : okStep s k
          · have hp : pastN s k = 0 := by rw [pastN, hok]; rfl
            have HF := Lib.hid (show mayN s = false by rw [HN.out, hr.out, hst, hok]; rfl)
            clear hst hok hr
            go_wp2_with (go_at_call 89; refine (past_any _ _ _ hk hs).mono ?_; rintro e w' ⟨rfl, rfl⟩)
            go_ret
            exact ⟨ret_bool HF.out.symm, rfl⟩
          · obtain ⟨m, hm⟩ : ∃ m, k + 1 + byteAt s k = m := ⟨_, rfl⟩
            have hp : pastN s k = m := by rw [pastN, hok, ← hm]; rfl
            have hms : m < s.size := by
              simp only [okStep, Bool.and_eq_true, decide_eq_true_eq] at hok
              omega
            have hmk : k < m := by omega
            have HR := Lib.hid (show mayRun s s.size 0 = mayRun s s.size m by rw [hr.out, hst, hok, hm]; rfl)
            have e3 : ((m : Int) == 0) = false := eF (by omega)
            clear hst hok hr hm
            go_wp2_with (go_at_call 89; refine (past_any _ _ _ hk hs).mono ?_; rintro e w' ⟨rfl, rfl⟩)
            go_round
            case rel => exact ⟨m, hms, HR.out, rfl⟩
            case measure => simp [intOf]; omega
        · have t1 : ¬ (k : Int) < (s.size : Int) - 1 := by omega
          have he := mayRun_end s s.size k hlt
          have HF := Lib.hid (show mayN s = (byteAt s k == 0) by rw [HN.out, hr.out, he])
          have hb := byte_get hk
          have hb2 := byteAt_lt s k
          clear he hr hlt
          go_wp2
          go_ret
          exact ⟨ret_bool (by rw [HF.out, Bool.eq_iff_iff]; simp), rfl⟩
    · have e2 := dT (p := (255 : Int) < (s.size : Int)) (by omega)
      have HN := Lib.hid (show mayN s = false by simp [mayN]; omega)
      clear h2
      go_enter Try.func61, Try.ntmps61
      go_wp2
      go_ret
      exact ⟨ret_bool HN.out.symm, rfl⟩
end Go.Proofs.Ythfnphcefkdgbaa
end

section
namespace Go.Proofs.Ythfnphcefkdgbaa
open Go.RowKit

/-- The texts of a slice that came in. -/
def RowS (w : World) (a : Option Addr) (len : Nat) (l : List ByteArray) : Prop :=
  l.length = len ∧ (len = 0 ∨ ∃ b off, a = some ⟨b, off, none⟩ ∧ b < w.heap.size ∧ ∀ j, j < len → w.cell? ⟨b, off + j, none⟩ = some (.string (l.getD j ByteArray.empty)))

theorem RowS.below {w w' : World} {a : Option Addr} {len : Nat} {l : List ByteArray} (h : RowS w a len l) (hb : Below w.heap.size w w') : RowS w' a len l := by
  obtain ⟨h1, h2⟩ := h
  refine ⟨h1, ?_⟩
  rcases h2 with h2 | ⟨b, off, rfl, hlt, hc⟩
  · exact Or.inl h2
  · refine Or.inr ⟨b, off, rfl, Nat.lt_of_lt_of_le hlt hb.size, fun j hj => ?_⟩
    rw [hb.cell hlt]
    exact hc j hj

/-- What the reading of a slice of texts gives. -/
def IsRowS (w : World) (a : Option Addr) (len cap : Nat) (ss : List ByteArray) : Prop :=
  (a = none ∧ len = 0 ∧ cap = 0 ∧ ss = []) ∨
  ∃ x, a = some x ∧ len ≤ cap ∧ cap ≤ maxLen ∧ ss.length = cap ∧ (∀ i, i < ss.length → w.cell? (x.add i) = some (.string (ss.getD i ByteArray.empty))) ∧ ∀ s ∈ ss, s.size ≤ maxLen

theorem RowS.of {w : World} {a : Option Addr} {len cap : Nat} {ss : List ByteArray} (h : IsRowS w a len cap ss) : RowS w a len (ss.take len) ∧ (∀ s ∈ ss.take len, s.size ≤ maxLen) ∧ len ≤ maxLen := by
  rcases h with ⟨rfl, rfl, rfl, rfl⟩ | ⟨x, rfl, hl, hm, hz, hcell, hs⟩
  · exact ⟨⟨rfl, Or.inl rfl⟩, by simp, by decide⟩
  · refine ⟨⟨by simp; omega, ?_⟩, fun s hs2 => hs s (List.mem_of_mem_take hs2), by omega⟩
    by_cases h0 : len = 0
    · exact Or.inl h0
    · right
      obtain ⟨b, off, spot⟩ := x
      have hc := hcell 0 (by omega)
      have hspot : spot = none := by simpa [Addr.add] using World.cell?_spot hc
      subst hspot
      refine ⟨b, off, rfl, ?_, fun j hj => ?_⟩
      · have := block_lt_of_cell hc
        simpa [Addr.add] using this
      · have := hcell j (by omega)
        have e : (⟨b, off, none⟩ : Addr).add j = ⟨b, off + j, none⟩ := by simp only [Addr.add]; split <;> simp_all
        rw [e] at this
        rw [this]
        simp [List.getD, hj]
end Go.Proofs.Ythfnphcefkdgbaa
end

section
namespace Go.Proofs.Ythfnphcefkdgbaa
open Go.RowKit

theorem own_shape {w : World} {B n : Nat} {e : TypeId} {v : Value} {xs : List Value} (h : w.ownsRow B e 1 v n xs) : ∃ a c, v = .slice a n c := by
  rcases h.2 with ⟨rfl, rfl⟩ | ⟨g, cap, cur, rfl, _⟩
  · exact ⟨none, 0, rfl⟩
  · exact ⟨_, _, rfl⟩

def tx (l : List ByteArray) (k : Nat) : ByteArray := l.getD k ByteArray.empty
/-- The data of the first k texts. -/
def txtTo (l : List ByteArray) : Nat → List UInt8
  | 0 => []
  | k + 1 => txtTo l k ++ (UInt8.ofNat (tx l k).size :: (tx l k).data.toList)
def okTx (l : List ByteArray) : Nat → Bool
  | 0 => true
  | k + 1 => okTx l k && (decide ((tx l k).size ≤ 255) && decide ((txtTo l k).length + 1 + (tx l k).size ≤ 1000))
theorem txtTo_len (l : List ByteArray) (k : Nat) : (txtTo l (k + 1)).length = (txtTo l k).length + 1 + (tx l k).size := by
  simp [txtTo]
  omega
theorem okTx_le {l : List ByteArray} {k : Nat} (h : okTx l k = true) : (txtTo l k).length ≤ 1000 := by
  cases k with
  | zero => simp [txtTo]
  | succ k =>
    simp only [okTx, Bool.and_eq_true, decide_eq_true_eq] at h
    rw [txtTo_len]
    omega
theorem okTx_no {l : List ByteArray} {k n : Nat} (hk : k < n) (h : okTx l (k + 1) = false) : okTx l n = false := by
  induction n with
  | zero => omega
  | succ n ih =>
    by_cases e : k = n
    · subst e; exact h
    · simp only [okTx, ih (by omega), Bool.false_and]
theorem okTx_at {l : List ByteArray} {k n : Nat} (hk : k < n) (h : okTx l n = true) : (tx l k).size ≤ 255 := by
  cases h2 : okTx l (k + 1)
  · have := okTx_no hk h2
    rw [h] at this
    exact absurd this (by simp)
  · simp only [okTx, Bool.and_eq_true, decide_eq_true_eq] at h2
    omega
theorem txt_bc (l : List ByteArray) (k : Nat) (s : ByteArray) (hs : tx l k = s) (h : s.size ≤ 255) : bc (txtTo l k) ++ Value.int .u8 (s.size : Int) :: Lib.strCells s = bc (txtTo l (k + 1)) := by
  subst hs
  rw [txtTo, strCells_bc, bc_append]
  have e : ((UInt8.ofNat (tx l k).size).toNat : Int) = ((tx l k).size : Int) := by rw [UInt8.toNat_ofNat_of_lt' (by have : UInt8.size = 256 := rfl; omega)]
  simp only [bc, List.map_cons, e]

theorem txtTo_pre (l : List ByteArray) (k n : Nat) (h : k ≤ n) : ∃ r, txtTo l n = txtTo l k ++ r := by
  induction n with
  | zero =>
    have : k = 0 := by omega
    subst this
    exact ⟨[], by simp⟩
  | succ n ih =>
    by_cases e : k = n + 1
    · subst e; exact ⟨[], by simp⟩
    · obtain ⟨r, hr⟩ := ih (by omega)
      exact ⟨r ++ _, by rw [txtTo, hr, List.append_assoc]⟩
theorem txt_byte (l : List ByteArray) (k n : Nat) (h : k < n) (hs : (tx l k).size ≤ 255) : (txtTo l k).length < (bs (txtTo l n)).size ∧ byteAt (bs (txtTo l n)) (txtTo l k).length = (tx l k).size := by
  obtain ⟨r, hr⟩ := txtTo_pre l (k + 1) n h
  rw [txtTo, List.append_assoc] at hr
  constructor
  · rw [bs_size, hr]; simp
  · rw [byteAt_bs, hr, List.getD_eq_getElem?_getD, List.getElem?_append_right (Nat.le_refl _)]
    simp only [Nat.sub_self, List.cons_append, List.getElem?_cons_zero, Option.getD_some]
    exact UInt8.toNat_ofNat_of_lt' (by have : UInt8.size = 256 := rfl; omega)
end Go.Proofs.Ythfnphcefkdgbaa
end

section
namespace Go.Proofs.Ythfnphcefkdgbaa
open Go.RowKit

def strOf : Value → Nat
  | .string x => x.size
  | _ => 0
/-- The name of labels. -/
def nameL (L : List ByteArray) : List UInt8 := txtTo L L.length ++ [0]
def nameB (L : List ByteArray) : ByteArray := bs (nameL L)
/-- Where the k-th label begins. -/
def off (L : List ByteArray) (k : Nat) : Nat := (txtTo L k).length
def OkL (L : List ByteArray) : Prop := ∀ k, k < L.length → 1 ≤ (tx L k).size ∧ (tx L k).size ≤ 63 ∧ anyG (tx L k) 0 (tx L k).size = false

theorem off_succ (L : List ByteArray) (k : Nat) : off L (k + 1) = off L k + 1 + (tx L k).size := txtTo_len L k
theorem off_zero (L : List ByteArray) : off L 0 = 0 := rfl
theorem off_mono (L : List ByteArray) {k n : Nat} (h : k ≤ n) : off L k ≤ off L n := by
  induction n with
  | zero =>
    have : k = 0 := by omega
    subst this; exact Nat.le_refl _
  | succ n ih =>
    by_cases e : k = n + 1
    · subst e; exact Nat.le_refl _
    · have := ih (by omega)
      rw [off_succ]; omega
theorem nameB_size (L : List ByteArray) : (nameB L).size = off L L.length + 1 := by rw [nameB, bs_size, nameL]; simp [off]
theorem tx_cons_zero (s : ByteArray) (L : List ByteArray) : tx (s :: L) 0 = s := rfl
theorem tx_cons_succ (s : ByteArray) (L : List ByteArray) (k : Nat) : tx (s :: L) (k + 1) = tx L k := by simp [tx]
theorem txtTo_cons (s : ByteArray) (L : List ByteArray) (k : Nat) : txtTo (s :: L) (k + 1) = UInt8.ofNat s.size :: (s.data.toList ++ txtTo L k) := by
  induction k with
  | zero => simp [txtTo, tx_cons_zero]
  | succ k ih =>
    rw [txtTo, ih, tx_cons_succ, txtTo]
    simp
theorem nameL_cons (s : ByteArray) (L : List ByteArray) : nameL (s :: L) = UInt8.ofNat s.size :: (s.data.toList ++ nameL L) := by
  rw [nameL, nameL, List.length_cons, txtTo_cons]
  simp
theorem byteAt_drop (s : ByteArray) (a j : Nat) : byteAt s (a + j) = ((s.data.toList.drop a).getD j 0).toNat := by
  rw [byteAt, List.getD_eq_getElem?_getD, List.getD_eq_getElem?_getD, List.getElem?_drop]
theorem extract_toList (s : ByteArray) (a b : Nat) : (s.extract a b).data.toList = (s.data.toList.drop a).take (b - a) := by
  rw [ByteArray.data_extract, Array.toList_extract, List.extract_eq_take_drop]
theorem ba_eq {s t : ByteArray} (h : s.data.toList = t.data.toList) : s = t := ByteArray.ext (Array.toList_inj.1 h)
theorem size_data (s : ByteArray) : s.data.toList.length = s.size := by simp

theorem okL_cons {s : ByteArray} {L : List ByteArray} (h1 : 1 ≤ s.size ∧ s.size ≤ 63 ∧ anyG s 0 s.size = false) (h : OkL L) : OkL (s :: L) := by
  intro k hk
  cases k with
  | zero => exact h1
  | succ k => rw [tx_cons_succ]; exact h k (by simpa using hk)
theorem okL_tail {s : ByteArray} {L : List ByteArray} (h : OkL (s :: L)) : OkL L := by
  intro k hk
  have := h (k + 1) (by simpa using hk)
  rwa [tx_cons_succ] at this

/-- A run that ends well is labels. -/
theorem run_labels (s : ByteArray) : ∀ d at', s.size - at' ≤ d → at' < s.size → mayRun s s.size at' = true → ∃ L, OkL L ∧ s.data.toList.drop at' = nameL L := by
  intro d
  induction d with
  | zero => intro at' h1 h2; omega
  | succ d ih =>
    intro at' h1 h2 hm
    by_cases hlt : at' + 1 < s.size
    · rw [mayRun_step s at' hlt, Bool.and_eq_true] at hm
      obtain ⟨hok, hm⟩ := hm
      obtain ⟨b, hb⟩ : ∃ b, byteAt s at' = b := ⟨_, rfl⟩
      rw [okStep, hb] at hok
      simp only [Bool.and_eq_true, decide_eq_true_eq, Bool.not_eq_true'] at hok
      obtain ⟨⟨⟨k1, k2⟩, k3⟩, k4⟩ := hok
      rw [hb] at hm
      obtain ⟨L, hL, hd⟩ := ih (at' + 1 + b) (by omega) k3 hm
      have hsz : (s.extract (at' + 1) (at' + 1 + b)).size = b := by rw [extract_size _ _ _ (by omega)]; omega
      refine ⟨s.extract (at' + 1) (at' + 1 + b) :: L, okL_cons ⟨by omega, by omega, ?_⟩ hL, ?_⟩
      · rw [hsz, ← k4]
        refine anyG_congr fun j hj => ?_
        rw [Nat.zero_add, byteAt_extract _ _ _ _ (by omega) (by omega)]
      · rw [nameL_cons, hsz, extract_toList, ← hd]
        have hl : at' < s.data.toList.length := by rw [size_data]; omega
        rw [List.drop_eq_getElem_cons hl]
        have hb' : s.data.toList[at'] = UInt8.ofNat b := by
          rw [← hb, byteAt, List.getD_eq_getElem?_getD, List.getElem?_eq_getElem hl]
          simp
        rw [hb', show at' + 1 + b - (at' + 1) = b by omega]
        congr 1
        have := (List.take_append_drop b (s.data.toList.drop (at' + 1))).symm
        rw [List.drop_drop] at this
        exact this
    · rw [mayRun_end s _ at' hlt, beq_iff_eq] at hm
      refine ⟨[], fun k hk => by simp at hk, ?_⟩
      have hl : at' < s.data.toList.length := by rw [size_data]; omega
      rw [List.drop_eq_getElem_cons hl]
      have h0 : s.data.toList[at'] = 0 := by
        rw [byteAt, List.getD_eq_getElem?_getD, List.getElem?_eq_getElem hl] at hm
        exact UInt8.toNat_inj.1 hm
      rw [h0, List.drop_eq_nil_of_le (by rw [size_data]; omega)]
      rfl
theorem may_labels {s : ByteArray} (h : mayN s = true) : ∃ L, OkL L ∧ off L L.length ≤ 254 ∧ s = nameB L := by
  simp only [mayN, Bool.and_eq_true, decide_eq_true_eq] at h
  obtain ⟨⟨h1, h2⟩, h3⟩ := h
  obtain ⟨L, hL, hd⟩ := run_labels s s.size 0 (by omega) (by omega) h3
  have hs : s = nameB L := ba_eq (by rw [List.drop_zero] at hd; rw [hd, nameB]; rfl)
  refine ⟨L, hL, ?_, hs⟩
  have := nameB_size L
  rw [← hs] at this
  omega

theorem name_drop (L : List ByteArray) (k : Nat) (hk : k ≤ L.length) : (nameB L).data.toList.drop (off L k) = nameL (L.drop k) := by
  induction k generalizing L with
  | zero => rfl
  | succ k ih =>
    cases L with
    | nil => simp at hk
    | cons s L =>
      have h1 := ih L (by simpa using hk)
      have e : off (s :: L) (k + 1) = (s.size + off L k) + 1 := by
        rw [off, txtTo_cons, off]; simp
      rw [e]
      show (nameL (s :: L)).drop _ = _
      rw [nameL_cons, List.drop_succ_cons, ← List.drop_drop]
      have : (s.data.toList ++ nameL L).drop s.size = nameL L := by
        rw [← size_data, List.drop_left]
      rw [this]
      exact h1
theorem drop_cons_tx (L : List ByteArray) (k : Nat) (hk : k < L.length) : L.drop k = tx L k :: L.drop (k + 1) := by
  rw [List.drop_eq_getElem_cons hk, tx, List.getD_eq_getElem?_getD, List.getElem?_eq_getElem hk]
  rfl
/-- What stands at a label's beginning. -/
theorem name_byte (L : List ByteArray) (k : Nat) (hk : k < L.length) (h : (tx L k).size ≤ 255) : byteAt (nameB L) (off L k) = (tx L k).size := by
  have := byteAt_drop (nameB L) (off L k) 0
  rw [Nat.add_zero] at this
  rw [this, name_drop L k (by omega), drop_cons_tx L k hk, nameL_cons]
  exact UInt8.toNat_ofNat_of_lt' (by have : UInt8.size = 256 := rfl; omega)
theorem name_end (L : List ByteArray) : byteAt (nameB L) (off L L.length) = 0 := by
  have := byteAt_drop (nameB L) (off L L.length) 0
  rw [Nat.add_zero] at this
  rw [this, name_drop L _ (Nat.le_refl _), List.drop_length]
  rfl
theorem name_label (L : List ByteArray) (k : Nat) (hk : k < L.length) : (nameB L).extract (off L k + 1) (off L k + 1 + (tx L k).size) = tx L k := by
  apply ba_eq
  rw [extract_toList, ← List.drop_drop, name_drop L k (by omega), drop_cons_tx L k hk, nameL_cons]
  rw [show off L k + 1 + (tx L k).size - (off L k + 1) = (tx L k).data.toList.length by rw [size_data]; omega]
  rw [List.drop_succ_cons, List.drop_zero, List.take_left]
theorem name_suffix (L : List ByteArray) (k : Nat) (hk : k ≤ L.length) : (nameB L).extract (off L k) (nameB L).size = nameB (L.drop k) := by
  apply ba_eq
  rw [extract_toList, name_drop L k hk, List.take_of_length_le]
  · rfl
  · rw [← name_drop L k hk, List.length_drop, size_data]; omega

theorem labels_run (L : List ByteArray) (h : OkL L) : ∀ d k, L.length - k = d → k ≤ L.length → mayRun (nameB L) (nameB L).size (off L k) = true := by
  intro d
  induction d with
  | zero =>
    intro k h1 h2
    have : k = L.length := by omega
    subst this
    rw [mayRun_end _ _ _ (by rw [nameB_size]; omega), name_end]
    rfl
  | succ d ih =>
    intro k h1 h2
    have hk : k < L.length := by omega
    obtain ⟨g1, g2, g3⟩ := h k hk
    have hs := off_succ L k
    have hm := off_mono L (show k + 1 ≤ L.length by omega)
    rw [mayRun_step _ _ (by rw [nameB_size]; omega), name_byte L k hk (by omega), show off L k + 1 + (tx L k).size = off L (k + 1) by omega, ih (k + 1) (by omega) (by omega), Bool.and_true]
    rw [okStep, name_byte L k hk (by omega)]
    simp only [Bool.and_eq_true, decide_eq_true_eq, Bool.not_eq_true']
    refine ⟨⟨⟨g1, g2⟩, by rw [nameB_size]; omega⟩, ?_⟩
    rw [← g3]
    refine anyG_congr fun j hj => ?_
    rw [Nat.zero_add, ← byteAt_extract (nameB L) (off L k + 1) (off L k + 1 + (tx L k).size) j (by rw [nameB_size]; omega) (by omega), name_label L k hk]
theorem labels_may {L : List ByteArray} (h : OkL L) (hsz : off L L.length ≤ 254) : mayN (nameB L) = true := by
  have hz := nameB_size L
  simp only [mayN, Bool.and_eq_true, decide_eq_true_eq]
  exact ⟨by omega, labels_run L h L.length 0 (by omega) (by omega)⟩
/-- One name, one list of labels. -/
theorem nameL_inj {L M : List ByteArray} (hL : OkL L) (hM : OkL M) (h : nameL L = nameL M) : L = M := by
  induction L generalizing M with
  | nil =>
    cases M with
    | nil => rfl
    | cons t M =>
      obtain ⟨g1, g2, _⟩ := hM 0 (by simp)
      rw [tx_cons_zero] at g1 g2
      rw [nameL_cons] at h
      have h0 : (0 : UInt8) = UInt8.ofNat t.size := (List.cons.inj h).1
      have := congrArg UInt8.toNat h0
      rw [UInt8.toNat_ofNat_of_lt' (by have : UInt8.size = 256 := rfl; omega)] at this
      simp at this
      exact absurd this (by omega)
  | cons s L ih =>
    obtain ⟨g1, g2, _⟩ := hL 0 (by simp)
    rw [tx_cons_zero] at g1 g2
    cases M with
    | nil =>
      rw [nameL_cons] at h
      have h0 : UInt8.ofNat s.size = 0 := (List.cons.inj h).1
      have := congrArg UInt8.toNat h0
      rw [UInt8.toNat_ofNat_of_lt' (by have : UInt8.size = 256 := rfl; omega)] at this
      have h9 : (0 : UInt8).toNat = 0 := rfl
      omega
    | cons t M =>
      obtain ⟨f1, f2, _⟩ := hM 0 (by simp)
      rw [tx_cons_zero] at f1 f2
      rw [nameL_cons, nameL_cons] at h
      obtain ⟨h0, h1⟩ := List.cons.inj h
      have h2 := congrArg UInt8.toNat h0
      rw [UInt8.toNat_ofNat_of_lt' (by have : UInt8.size = 256 := rfl; omega), UInt8.toNat_ofNat_of_lt' (by have : UInt8.size = 256 := rfl; omega)] at h2
      obtain ⟨k1, k2⟩ := List.append_inj h1 (by rw [size_data, size_data]; exact h2)
      rw [ba_eq k1, ih (okL_tail hL) (okL_tail hM) k2]
theorem nameB_inj {L M : List ByteArray} (hL : OkL L) (hM : OkL M) (h : nameB L = nameB M) : L = M := by
  apply nameL_inj hL hM
  have := congrArg (fun s : ByteArray => s.data.toList) h
  exact this
end Go.Proofs.Ythfnphcefkdgbaa
end

section
namespace Go.Proofs.Ythfnphcefkdgbaa
open Go.RowKit

set_option maxRecDepth 100000 in
theorem label_any (L : List ByteArray) (k : Nat) (w : World) (hL : OkL L) (hk : k < L.length) (hz : off L L.length ≤ 254) : Calls Try.prog 111 #[.string (nameB L), .int .u8 (off L k : Nat)] w fun e w' => e = .returned (.string (tx L k)) ∧ w = w' := by
  have hsz := nameB_size L
  have hm := off_mono L (show k + 1 ≤ L.length by omega)
  have hs := off_succ L k
  obtain ⟨g1, g2, _⟩ := hL k hk
  have hb := name_byte L k hk (by omega)
  have hlt : off L k < (nameB L).size := by omega
  have hg := byte_get hlt
  rw [hb] at hg
  have hl := name_label L k hk
  obtain ⟨s, hs1⟩ : ∃ s, nameB L = s := ⟨_, rfl⟩
  obtain ⟨a, ha⟩ : ∃ a, off L k = a := ⟨_, rfl⟩
  obtain ⟨t, ht⟩ : ∃ t, tx L k = t := ⟨_, rfl⟩
  simp only [hs1, ha, ht] at *
  have HL := Lib.hid hl
  clear hl hb
  go_enter Try.func111, Try.ntmps111
  go_wp2
  go_ret
  exact ⟨ret_str HL.out, rfl⟩

/-- An array of bytes in a block. -/
def ArrAt (w : World) (q : Nat) (f : Nat → Int) : Prop := ∀ j, j < 127 → w.cell? ⟨q, j, none⟩ = some (.int .u8 (f j)) ∧ w.frozen? ⟨q, j, none⟩ = false
def arrL (f : Nat → Int) : List Value := (List.range 127).map fun j => Value.int .u8 (f j)
theorem arrL_length (f : Nat → Int) : (arrL f).length = 127 := by simp [arrL]
theorem arrL_at (f : Nat → Int) (j : Nat) (v : Value) (h : (arrL f)[j]? = some v) : j < 127 ∧ v = .int .u8 (f j) := by
  have hj : j < 127 := by
    have := (List.getElem?_eq_some_iff.1 h).1
    rwa [arrL_length] at this
  refine ⟨hj, ?_⟩
  simp [arrL, hj] at h
  exact h.symm
theorem arrL_get (f : Nat → Int) (j : Nat) (h : j < 127) : (arrL f)[j]? = some (.int .u8 (f j)) := by simp [arrL, h]
theorem ArrAt.range {w : World} {q : Nat} {f : Nat → Int} (h : ArrAt w q f) : w.rangeAt q 0 (arrL f) := by
  intro j v hv
  obtain ⟨h1, rfl⟩ := arrL_at f j v hv
  rw [Nat.zero_add]
  exact (h j h1).1
theorem ArrAt.there {w : World} {q : Nat} {f : Nat → Int} (h : ArrAt w q f) : w.there q 0 127 := by
  intro j hj
  rw [Nat.zero_add, (h j hj).1, (h j hj).2]
  exact ⟨rfl, rfl⟩
theorem arr_one (f : Nat → Int) : (arrL f).toArray.all (·.oneCell') = true := by
  refine all_oneCell_toArray ?_
  intro v hv
  simp only [arrL, List.mem_map] at hv
  obtain ⟨_, _, rfl⟩ := hv
  rfl
theorem arr_stored {w : World} {q : Nat} {f g : Nat → Int} (h : ArrAt w q g) : ArrAt (w.setCells q 0 (arrL f)) q f := by
  have ht := h.there
  have h1 := World.rangeAt_setCells_same w q 0 (arrL f) (by rw [arrL_length]; exact ht)
  have h2 := World.there_setCells ht q 0 (arrL f)
  intro j hj
  have k1 := h1 j _ (arrL_get f j hj)
  have k2 := (h2 j hj).2
  rw [Nat.zero_add] at k1 k2
  exact ⟨k1, k2⟩
theorem ArrAt.below {w w' : World} {q : Nat} {f : Nat → Int} (h : ArrAt w q f) (hb : Below w.heap.size w w') : ArrAt w' q f := by
  intro j hj
  obtain ⟨h1, h2⟩ := h j hj
  have hlt : q < w.heap.size := block_lt_of_cell h1
  exact ⟨by rw [hb.cell hlt]; exact h1, by rw [hb.frozen hlt]; exact h2⟩
theorem ArrAt.set {w : World} {q : Nat} {f : Nat → Int} (h : ArrAt w q f) {k : Nat} (hk : k < 127) (v : Int) : ArrAt (w.setCell ⟨q, k, none⟩ (.int .u8 v)) q (fun j => if j = k then v else f j) := by
  intro j hj
  obtain ⟨h1, h2⟩ := h j hj
  refine ⟨?_, by simpa using h2⟩
  show _ = some (Value.int .u8 (if j = k then v else f j))
  by_cases e : j = k
  · subst e
    rw [if_pos rfl]
    exact World.cell?_setCell_same _ _ _ h1
  · rw [if_neg e, World.cell?_setCell_other _ _ _ _ (by simp)]
    exact h1
theorem ArrAt.other {w : World} {q : Nat} {f : Nat → Int} (h : ArrAt w q f) {p : Addr} (hk : p.block ≠ q) (v : Value) : ArrAt (w.setCell p v) q f := by
  intro j hj
  obtain ⟨h1, h2⟩ := h j hj
  refine ⟨?_, by simpa using h2⟩
  rw [World.cell?_setCell_other _ _ _ _ (by rintro rfl; exact hk rfl)]
  exact h1
theorem below_setCells {B : Nat} {w w' : World} (h : Below B w w') {b : Nat} (hb : B ≤ b) (o : Nat) (vs : List Value) : Below B w (w'.setCells b o vs) := by
  induction vs generalizing o w' with
  | nil => exact h
  | cons v vs ih => exact ih (h.setCell hb v) (o + 1)
theorem zero_at {j : Nat} (h : j < 127) : Try.zeroCells165[j]? = some (.int .u8 0) := by
  have e : Try.zeroCells165 = Array.replicate 127 (.int .u8 0) := by kernel_rfl
  rw [e, Array.getElem?_replicate, if_pos h]
theorem arr_new (w : World) : ArrAt (w.alloc (.cells Try.zeroCells165 165)) w.heap.size (fun _ => 0) := by
  intro j hj
  rw [World.cell?_alloc_new, World.frozen?_alloc_new]
  exact ⟨zero_at hj, rfl⟩

/-- A whole array stored: a world. -/
theorem store_arr {w : World} {q : Nat} {g : Nat → Int} (h : ArrAt w q g) (f : Nat → Int) {B : Nat} {w0 : World} (hb : Below B w0 w) (hB : B ≤ q) :
    ∃ w2, (storeCells ⟨q, 0, none⟩ (arrL f)).run Try.prog w = .ok () w2 ∧ ArrAt w2 q f ∧ Below B w0 w2 := by
  refine ⟨w.setCells q 0 (arrL f), ?_, arr_stored h, below_setCells hb hB 0 (arrL f)⟩
  have h1 := run_storeCells_cells (P := Try.prog) q 0 (arrL f) 0 w ?_ ?_ ?_
  · simpa using h1
  · intro j hj
    rw [arrL_length] at hj
    simp only [Nat.zero_add, (h j hj).1]; rfl
  · intro j hj
    rw [arrL_length] at hj
    simp only [Nat.zero_add, (h j hj).2]
  · intro v hv
    simp only [arrL, List.mem_map] at hv
    obtain ⟨_, _, rfl⟩ := hv
    rfl

def stF (L : List ByteArray) (k j : Nat) : Int := if j < k then (off L j : Int) else 0
theorem stF_next (L : List ByteArray) (k : Nat) : (fun j => if j = k then (off L k : Int) else stF L k j) = stF L (k + 1) := by
  funext j
  unfold stF
  by_cases e : j = k
  · subst e; rw [if_pos rfl, if_pos (by omega)]
  · rw [if_neg e]
    by_cases h : j < k
    · rw [if_pos h, if_pos (by omega)]
    · rw [if_neg h, if_neg (by omega)]
theorem off_ge (L : List ByteArray) (hL : OkL L) (k : Nat) (hk : k ≤ L.length) : 2 * k ≤ off L k := by
  induction k with
  | zero => exact Nat.zero_le _
  | succ k ih =>
    have := ih (by omega)
    have := off_succ L k
    obtain ⟨g, _, _⟩ := hL k (by omega)
    omega

set_option maxRecDepth 100000 in
theorem starts_any (L : List ByteArray) (w : World) (hL : OkL L) (hz : off L L.length ≤ 254) : Calls Try.prog 110 #[.string (nameB L)] w fun e w' => e = .returned (.tuple #[.agg (arrL (stF L L.length)).toArray, .int .i64 L.length]) ∧ Below w.heap.size w w' := by
  have hsz := nameB_size L
  obtain ⟨n, hn⟩ : ∃ n, L.length = n := ⟨_, rfl⟩
  obtain ⟨s, hs1⟩ : ∃ s, nameB L = s := ⟨_, rfl⟩
  rw [hn, hs1] at hsz
  rw [hn] at hz
  have HN := Lib.hid hn
  have HS := Lib.hid hs1
  have HL := Lib.hid hL
  rw [hs1, hn]
  clear hn hs1 hL
  go_enter Try.func110, Try.ntmps110
  go_wp2
  go_loopw [5, 6] (fun c a wr => ∃ k : Nat, k ≤ n ∧ c = .int .i64 k ∧ a = .int .i64 (off L k : Nat) ∧ ArrAt wr w.heap.size (fun _ => 0) ∧ ArrAt wr (w.heap.size + 1) (stF L k) ∧ Below w.heap.size w wr ∧ wr.heap.size = w.heap.size + 2) (fun c _ _ => n - (intOf c).toNat)
  case atStart =>
    refine ⟨0, Nat.zero_le _, rfl, rfl, ?_, ?_, ?_, by simp⟩
    · exact (arr_new w).below ((Below.refl _ _).alloc (Nat.le_refl _) _)
    · have h := arr_new (w.alloc (.cells Try.zeroCells165 165))
      rw [World.size_alloc] at h
      exact h
    · exact ((Below.refl _ _).alloc (Nat.le_refl _) _).alloc (by simp) _
  case round =>
    obtain ⟨k, hk, rfl, rfl, ha0, ha1, hbel, hsize⟩ := hrel
    have HA0 := Lib.hid ha0
    have HA1 := Lib.hid ha1
    have HB := Lib.hid hbel
    have HZ := Lib.hid hsize
    have hm := off_mono L hk
    have hge := off_ge L HL.out k (by rw [HN.out]; exact hk)
    have hge2 := off_ge L HL.out n (by rw [HN.out]; exact Nat.le_refl _)
    clear ha0 ha1 hbel
    by_cases hlt : k < n
    · have hs := off_succ L k
      have hm2 := off_mono L (show k + 1 ≤ n by omega)
      obtain ⟨g1, g2, _⟩ := HL.out k (by rw [HN.out]; exact hlt)
      have hb := name_byte L k (by rw [HN.out]; exact hlt) (by omega)
      rw [HS.out] at hb
      obtain ⟨c1, f1⟩ := HA1.out k (by omega)
      obtain ⟨a, ha⟩ : ∃ a, off L k = a := ⟨_, rfl⟩
      obtain ⟨a2, ha2⟩ : ∃ a, off L (k + 1) = a := ⟨_, rfl⟩
      obtain ⟨t, ht⟩ : ∃ t, (tx L k).size = t := ⟨_, rfl⟩
      simp only [ha, ha2, ht] at hs hm2 hb g1 g2 hge ⊢
      have hlt2 : a < s.size := by omega
      have hg := (byte_get hlt2).trans hb
      have HA := Lib.hid ha
      have HA2 := Lib.hid ha2
      clear ha ha2 ht hb hsize hm
      go_wp2
      go_roundw
      case rel =>
        have h1 := HA1.out.set (k := k) (by omega) (a : Int)
        rw [show (fun j => if j = k then (a : Int) else stF L k j) = stF L (k + 1) by rw [← HA.out]; exact stF_next L k] at h1
        refine ⟨k + 1, by omega, by go_num, ?_, ?_, ?_, ?_, ?_⟩
        · rw [HA2.out, hs]; go_num
        · exact HA0.out.other (by simp) _
        · exact h1
        · exact HB.out.setCell (by simp) _
        · simpa using HZ.out
      case measure => simp [intOf]; omega
    · have hkn : k = n := by omega
      subst hkn
      go_wp2_with (first | (refine wpList_load_mid rfl 165 (.tmp 4) rfl _ _ rfl _ _ HA1.out.range Try.underlying165 rfl (by rw [arrL_length]; kernel_rfl) ?_) | (refine wpList_store_mid rfl 165 (.tmp 2) (.tmp 25) rfl _ _ _ rfl rfl HA0.out.there (by rw [List.size_toArray, arrL_length]; kernel_rfl) (arr_one _) ?_))
      refine bodyPost_ret (v := .tuple #[.agg (arrL (stF L k)).toArray, .int .i64 k]) ?_ rfl ⟨rfl, below_setCells HB.out (Nat.le_refl _) _ _⟩
      rw [results_cell_tmp Try.results110]
      have hr := run_loadVar_mid (P := Try.prog) (wr.setCells w.heap.size 0 (arrL (stF L k))) w.heap.size 0 165 (arrL (stF L k)) _ (arr_stored HA0.out).range Try.underlying165 rfl (by rw [arrL_length]; kernel_rfl)
      simp [asAddr, hr]
end Go.Proofs.Ythfnphcefkdgbaa
end

section
namespace Go.Proofs.Ythfnphcefkdgbaa
open Go.RowKit

def endRun (s : ByteArray) (A : Nat) : Nat → Nat → Int
  | 0, _ => -1
  | f + 1, i => if i < s.size then (if byteAt s i = 0 then (if 255 < i + 1 - A then -1 else ((i + 1 : Nat) : Int)) else if 63 < byteAt s i then -1 else endRun s A f (i + byteAt s i + 1)) else -1
def gRun (s : ByteArray) : Nat → Nat → Bool
  | 0, _ => false
  | f + 1, i => if i < s.size then anyG s (i + 1) (min (byteAt s i) (s.size - (i + 1))) || gRun s f (i + byteAt s i + 1) else false

theorem endRun_more (s : ByteArray) (A : Nat) : ∀ (f i : Nat), s.size ≤ i + f → endRun s A (f + 1) i = endRun s A f i := by
  intro f
  induction f with
  | zero => intro i h; show (if i < s.size then _ else _) = _; rw [if_neg (by omega)]; rfl
  | succ f ih =>
    intro i h
    show (if i < s.size then (if byteAt s i = 0 then (if 255 < i + 1 - A then -1 else ((i + 1 : Nat) : Int)) else if 63 < byteAt s i then -1 else endRun s A (f + 1) (i + byteAt s i + 1)) else -1) = (if i < s.size then (if byteAt s i = 0 then (if 255 < i + 1 - A then -1 else ((i + 1 : Nat) : Int)) else if 63 < byteAt s i then -1 else endRun s A f (i + byteAt s i + 1)) else -1)
    rw [ih _ (by omega)]
theorem endRun_step (s : ByteArray) (A i : Nat) : endRun s A s.size i = if i < s.size then (if byteAt s i = 0 then (if 255 < i + 1 - A then -1 else ((i + 1 : Nat) : Int)) else if 63 < byteAt s i then -1 else endRun s A s.size (i + byteAt s i + 1)) else -1 := by
  rw [← endRun_more s A s.size i (by omega)]
  rfl
theorem gRun_more (s : ByteArray) : ∀ (f i : Nat), s.size ≤ i + f → gRun s (f + 1) i = gRun s f i := by
  intro f
  induction f with
  | zero => intro i h; show (if i < s.size then _ else _) = _; rw [if_neg (by omega)]; rfl
  | succ f ih =>
    intro i h
    show (if i < s.size then anyG s (i + 1) (min (byteAt s i) (s.size - (i + 1))) || gRun s (f + 1) (i + byteAt s i + 1) else false) = (if i < s.size then anyG s (i + 1) (min (byteAt s i) (s.size - (i + 1))) || gRun s f (i + byteAt s i + 1) else false)
    rw [ih _ (by omega)]
theorem gRun_step (s : ByteArray) (i : Nat) : gRun s s.size i = if i < s.size then anyG s (i + 1) (min (byteAt s i) (s.size - (i + 1))) || gRun s s.size (i + byteAt s i + 1) else false := by
  rw [← gRun_more s s.size i (by omega)]
  rfl

theorem ref_run (s : ByteArray) (h255 : s.size ≤ 255) : ∀ (d i : Nat), i < s.size → s.size - i ≤ d → (!gRun s s.size i && endRun s 0 s.size i == (s.size : Int)) = mayRun s s.size i := by
  intro d
  induction d with
  | zero => intro i h1 h2; omega
  | succ d ih =>
    intro i h1 h2
    rw [gRun_step, endRun_step, if_pos h1, if_pos h1]
    by_cases hl : i + 1 < s.size
    · rw [mayRun_step s i hl]
      by_cases k0 : byteAt s i = 0
      · rw [if_pos k0, if_neg (by omega), okStep, k0]
        simp
        intros
        omega
      · rw [if_neg k0]
        by_cases k63 : 63 < byteAt s i
        · rw [if_pos k63, okStep, dF (p := byteAt s i ≤ 63) (by omega)]
          simp
        · rw [if_neg k63]
          by_cases kn : i + 1 + byteAt s i < s.size
          · have hi := ih (i + byteAt s i + 1) (by omega) (by omega)
            have e : i + 1 + byteAt s i = i + byteAt s i + 1 := by omega
            rw [e, ← hi, okStep, dT (p := 1 ≤ byteAt s i) (by omega), dT (p := byteAt s i ≤ 63) (by omega), dT kn, Nat.min_eq_left (by omega)]
            cases anyG s (i + 1) (byteAt s i) <;> simp
          · rw [endRun_step, if_neg (by omega), okStep, dF kn]
            simp
    · rw [mayRun_end s s.size i hl]
      by_cases k0 : byteAt s i = 0
      · rw [if_pos k0, if_neg (by omega), gRun_step, if_neg (by omega), k0]
        simp [anyG]
        omega
      · have e : (byteAt s i == 0) = false := by simpa using k0
        have e2 : endRun s 0 s.size (i + byteAt s i + 1) = -1 := by rw [endRun_step, if_neg (by omega)]
        rw [if_neg k0, e, e2]
        split <;> simp

theorem endRun_255 (s : ByteArray) : ∀ (f i : Nat), endRun s 0 f i ≤ 255 := by
  intro f
  induction f with
  | zero => intro i; simp [endRun]
  | succ f ih =>
    intro i
    simp only [endRun]
    repeat' split
    all_goals first | omega | exact ih _

theorem ref_may (s : ByteArray) : (!gRun s s.size 0 && endRun s 0 s.size 0 == (s.size : Int)) = mayN s := by
  by_cases h0 : s.size = 0
  · rw [endRun_step, if_neg (by omega), mayN, dF (p := 1 ≤ s.size ∧ s.size ≤ 255) (by omega)]
    simp
  · by_cases h : s.size ≤ 255
    · rw [ref_run s h s.size 0 (by omega) (by omega), mayN, dT (p := 1 ≤ s.size ∧ s.size ≤ 255) (by omega)]
      rfl
    · have := endRun_255 s s.size 0
      rw [mayN, dF (p := 1 ≤ s.size ∧ s.size ≤ 255) (by omega)]
      simp
      omega

theorem rend_any (s : ByteArray) (A : Nat) (w : World) (hs : s.size ≤ 1000000) (hA : A ≤ 1000000) : Calls Try.prog 64 #[.string s, .int .i64 A] w fun e w' => e = .returned (.int .i64 (endRun s A s.size A)) ∧ w = w' := by
  go_enter Try.func64, Try.ntmps64
  go_wp2
  go_loop [5] (fun i => ∃ k : Nat, A ≤ k ∧ k ≤ 1000300 ∧ Hid (endRun s A s.size A = endRun s A s.size k) ∧ i = .int .i64 k) (fun i => s.size - (intOf i).toNat)
  case atStart => exact ⟨A, Nat.le_refl _, by omega, rfl, rfl⟩
  case round =>
    obtain ⟨k, hA2, hk, hr, rfl⟩ := hrel
    by_cases hlt : k < s.size
    · have hb := byte_get hlt
      have hb2 := byteAt_lt s k
      have hst := endRun_step s A k
      rw [if_pos hlt] at hst
      obtain ⟨b, hbe⟩ : ∃ b, byteAt s k = b := ⟨_, rfl⟩
      rw [hbe] at hb hb2 hst
      by_cases k0 : b = 0
      · subst k0
        rw [if_pos rfl] at hst
        by_cases kl : 255 < k + 1 - A
        · rw [if_pos kl] at hst
          have e1 := dT (p := (255 : Int) < (k : Int) + 1 - (A : Int)) (by omega)
          have HF := Lib.hid (hr.out.trans hst)
          clear hst hbe kl hr
          go_wp2
          go_ret
          exact ⟨ret_int HF.out.symm, rfl⟩
        · rw [if_neg kl] at hst
          have e1 := dF (p := (255 : Int) < (k : Int) + 1 - (A : Int)) (by omega)
          have HF := Lib.hid (hr.out.trans hst)
          clear hst hbe kl hr
          go_wp2
          go_ret
          exact ⟨ret_int (by rw [HF.out]; omega), rfl⟩
      · rw [if_neg k0] at hst
        have e0 : ((b : Int) == 0) = false := eF (by omega)
        by_cases k63 : 63 < b
        · rw [if_pos k63] at hst
          have e1 := dT (p := (63 : Int) < (b : Int)) (by omega)
          have HF := Lib.hid (hr.out.trans hst)
          clear hst hbe hr k0
          go_wp2
          go_ret
          exact ⟨ret_int HF.out.symm, rfl⟩
        · rw [if_neg k63] at hst
          have e1 := dF (p := (63 : Int) < (b : Int)) (by omega)
          have HF := Lib.hid (hr.out.trans hst)
          clear hst hbe hr k0
          go_wp2
          go_round
          case rel => exact ⟨k + b + 1, by omega, by omega, HF.out, by go_num⟩
          case measure => simp [intOf]; omega
    · have hst := endRun_step s A k
      rw [if_neg hlt] at hst
      have HF := Lib.hid (hr.out.trans hst)
      clear hst hr
      go_wp2
      go_ret
      exact ⟨ret_int HF.out.symm, rfl⟩
end Go.Proofs.Ythfnphcefkdgbaa
end

section
namespace Go.Proofs.Ythfnphcefkdgbaa
open Go.RowKit

theorem anyG_up {s : ByteArray} {a n m : Nat} (h : anyG s a n = true) (hnm : n ≤ m) : anyG s a m = true := by
  induction m with
  | zero => have : n = 0 := by omega
            subst this; exact h
  | succ m ih =>
    by_cases e : n = m + 1
    · subst e; exact h
    · simp only [anyG]; rw [ih (by omega)]; simp

set_option maxRecDepth 100000 in
theorem rmay_any (s : ByteArray) (w : World) (hs : s.size ≤ 1000000) : Calls Try.prog 25 #[.string s] w fun e w' => e = .returned (.bool (mayN s)) ∧ w = w' := by
  have HM := Lib.hid (ref_may s)
  go_enter Try.func25, Try.ntmps25
  go_wp2
  go_loop [3] (fun i => ∃ k : Nat, k ≤ 1000300 ∧ Hid (gRun s s.size 0 = gRun s s.size k) ∧ i = .int .i64 k) (fun i => s.size - (intOf i).toNat)
  case atStart => exact ⟨0, by omega, rfl, rfl⟩
  case round =>
    obtain ⟨k, hk, hr, rfl⟩ := hrel
    by_cases hlt : k < s.size
    · have hb := byte_get hlt
      have hb2 := byteAt_lt s k
      have hst := gRun_step s k
      rw [if_pos hlt] at hst
      have HB := Lib.hid (show ∃ b, byteAt s k = b from ⟨_, rfl⟩)
      have hbe := HB.out
      obtain ⟨b, hbe⟩ := hbe
      rw [hbe] at hb hb2 hst
      have HS := Lib.hid hst
      have HR := hr
      clear hst hr HB hbe
      go_wp2
      go_loop [5] (fun j => ∃ m : Nat, k + 1 ≤ m ∧ m ≤ k + 1 + b ∧ m ≤ s.size ∧ Hid (anyG s (k + 1) (m - (k + 1)) = false) ∧ j = .int .i64 m) (fun j => s.size - (intOf j).toNat)
      case atStart => exact ⟨k + 1, by omega, by omega, by omega, (by rw [Nat.sub_self]; rfl), by go_num⟩
      case round =>
        obtain ⟨m, hm1, hm2, hm3, hg, rfl⟩ := hrel
        by_cases t1 : m ≤ k + b
        · by_cases t2 : m < s.size
          · have hc := byte_get t2
            have hc2 := byteAt_lt s m
            have hnext : anyG s (k + 1) (m + 1 - (k + 1)) = (anyG s (k + 1) (m - (k + 1)) || great (byteAt s m)) := by
              have e : m + 1 - (k + 1) = (m - (k + 1)) + 1 := by omega
              have e2 : k + 1 + (m - (k + 1)) = m := by omega
              rw [e]; simp only [anyG]; rw [e2]
            have HC := Lib.hid (show ∃ c, byteAt s m = c from ⟨_, rfl⟩)
            have hce := HC.out
            obtain ⟨c, hce⟩ := hce
            rw [hce] at hc hc2 hnext
            by_cases hgr : 65 ≤ c ∧ c ≤ 90
            · have e1 := dT (p := (65 : Int) ≤ (c : Int)) (by omega)
              have e2 := dT (p := (c : Int) ≤ (90 : Int)) (by omega)
              have hgt : great c = true := by simp [great]; omega
              rw [hgt, Bool.or_true] at hnext
              have hall : gRun s s.size k = true := by
                rw [HS.out, anyG_up hnext (by omega)]; rfl
              have HF := Lib.hid (show mayN s = false by rw [← HM.out, HR.out, hall]; rfl)
              clear hnext hall hgt hce HC hgr
              go_wp2
              go_ret
              exact ⟨ret_bool HF.out.symm, rfl⟩
            · have hgt : great c = false := by simp [great]; omega
              rw [hgt, Bool.or_false, hg.out] at hnext
              have HN := Lib.hid hnext
              clear hnext hgt hce HC hg
              by_cases h65 : 65 ≤ c
              · have e1 := dT (p := (65 : Int) ≤ (c : Int)) (by omega)
                have e2 := dF (p := (c : Int) ≤ (90 : Int)) (by omega)
                clear hgr
                go_wp2
                go_round
                case rel => exact ⟨m + 1, by omega, by omega, by omega, HN.out, by go_num⟩
                case measure => simp [intOf]; omega
              · have e1 := dF (p := (65 : Int) ≤ (c : Int)) (by omega)
                clear hgr
                go_wp2
                go_round
                case rel => exact ⟨m + 1, by omega, by omega, by omega, HN.out, by go_num⟩
                case measure => simp [intOf]; omega
          · have hms : m = s.size := by omega
            have HN := Lib.hid (show gRun s s.size 0 = gRun s s.size (k + b + 1) by
              rw [HR.out, HS.out, Nat.min_eq_right (by omega), ← hms, hg.out]; rfl)
            subst hms
            clear hg
            go_wp2
            go_round
            case rel => exact ⟨k + b + 1, by omega, HN.out, by go_num⟩
            case measure => simp [intOf]; omega
        · have hmb : m - (k + 1) = b := by omega
          have HN := Lib.hid (show gRun s s.size 0 = gRun s s.size (k + b + 1) by
            rw [HR.out, HS.out, Nat.min_eq_left (by omega), ← hmb, hg.out]; rfl)
          clear hg hmb
          go_wp2
          go_round
          case rel => exact ⟨k + b + 1, by omega, HN.out, by go_num⟩
          case measure => simp [intOf]; omega
    · have hst := gRun_step s k
      rw [if_neg hlt] at hst
      have HF := Lib.hid (show mayN s = (endRun s 0 s.size 0 == (s.size : Int)) by rw [← HM.out, hr.out, hst]; rfl)
      clear hst hr
      go_wp2_with (go_at_call 64; refine (rend_any s 0 _ hs (by omega)).mono ?_; rintro e w' ⟨rfl, rfl⟩)
      go_ret
      exact ⟨ret_bool (by rw [HF.out]), rfl⟩
end Go.Proofs.Ythfnphcefkdgbaa
end

section
namespace Go.Proofs.Ythfnphcefkdgbaa
open Go.RowKit

/-- Texts as cells. -/
def sc (l : List ByteArray) : List Value := l.map Value.string
theorem sc_oneCell (l : List ByteArray) : ∀ u ∈ sc l, u.oneCell' = true := by
  intro u hu
  simp only [sc, List.mem_map] at hu
  obtain ⟨_, _, rfl⟩ := hu
  rfl
theorem sc_append (l m : List ByteArray) : sc (l ++ m) = sc l ++ sc m := by simp [sc]
theorem infoStr : (Try.prog.info? 9).map (fun i => (i.zero, i.size, i.bytes)) = some (some (.string ⟨#[]⟩), 1, 16) := by kernel_rfl
theorem rowS_of_own {w : World} {B n : Nat} {v : Value} {l : List ByteArray} (h : w.ownsRow B 9 1 v n (sc l)) : ∃ a c, v = .slice a n c ∧ RowS w a n l ∧ (a = none → n = 0 ∧ c = 0) := by
  have hl : l.length = n := by have := h.1; simp only [sc, List.length_map, Nat.mul_one] at this; exact this
  rcases h.2 with ⟨rfl, rfl⟩ | ⟨g, cap, cur, rfl, hb, hg, rest⟩
  · exact ⟨none, 0, rfl, ⟨hl, Or.inl rfl⟩, fun _ => ⟨rfl, rfl⟩⟩
  · refine ⟨_, _, rfl, ⟨hl, Or.inr ⟨g, 0, rfl, (Array.getElem?_eq_some_iff.1 hg).1, fun j hj => ?_⟩⟩, fun h => by cases h⟩
    rw [Nat.zero_add, h.cellAt j (by omega)]
    simp [sc, show j < l.length by omega]
theorem one_str (s : ByteArray) : ∀ u ∈ [Value.string s], u.oneCell' = true := by
  intro u hu
  simp only [List.mem_cons, List.not_mem_nil, or_false] at hu
  subst hu
  rfl
theorem below_appendS {w wr w' : World} {v : Value} {B n : Nat} {xs : List Value} {o : Obj} (hb : Below B w wr) (hB : B ≤ wr.heap.size) (hown : wr.ownsRow B 9 1 v n xs) (hg : (wr.alloc o).grownBy w' v.ownBlock) : Below B w w' :=
  (hb.alloc hB o).grown hg (by simp; omega) (fun k hk => (hown.lt k hk).1)
/-- Some labels laid, the others not yet. -/
def halfL (L : List ByteArray) (k : Nat) : List Value := sc (L.take k) ++ List.replicate (L.length - k) (.string ⟨#[]⟩)
theorem halfL_next (L : List ByteArray) (k : Nat) (hk : k < L.length) : (halfL L k).set k (.string (tx L k)) = halfL L (k + 1) := by
  have e1 : (sc (L.take k)).length = k := by simp [sc]; omega
  rw [halfL, List.set_append_right _ _ (by omega), e1, Nat.sub_self, show L.length - k = (L.length - (k + 1)) + 1 by omega, List.replicate_succ, List.set_cons_zero, halfL, List.take_succ_eq_append_getElem hk, sc_append]
  simp [sc, tx, List.getD_eq_getElem?_getD, List.getElem?_eq_getElem hk]
theorem halfL_at (L : List ByteArray) (k : Nat) (hk : k < L.length) : (halfL L k)[k]? = some (.string ⟨#[]⟩) := by
  have e1 : (sc (L.take k)).length = k := by simp [sc]; omega
  rw [halfL, List.getElem?_append_right (by omega), e1, Nat.sub_self, show L.length - k = (L.length - (k + 1)) + 1 by omega, List.replicate_succ]
  rfl
theorem halfL_end (L : List ByteArray) : halfL L L.length = sc L := by simp [halfL]

theorem rlabels_no (s : ByteArray) (w : World) (h : mayN s = false) (hs : s.size ≤ 1000000) : Calls Try.prog 66 #[.string s] w fun e w' => e = .returned (.slice none 0 0) ∧ w = w' := by
  have HM := Lib.hid h
  clear h
  go_enter Try.func66, Try.ntmps66
  go_wp2_with fail
  refine (rmay_any _ _ hs).mono ?_; rintro e w' ⟨rfl, rfl⟩
  rw [HM.out]
  go_wp2
  go_ret
  exact ⟨rfl, rfl⟩

set_option maxRecDepth 100000 in
theorem rlabels_yes (L : List ByteArray) (w : World) (hL : OkL L) (hz : off L L.length ≤ 254) : Calls Try.prog 66 #[.string (nameB L)] w fun e w' => ∃ a c, e = .returned (.slice a L.length c) ∧ RowS w' a L.length L ∧ Below w.heap.size w w' := by
  have hm := labels_may hL hz
  have hsz := nameB_size L
  obtain ⟨i0, hi, hz0, hz1, hz2⟩ := info_parts infoStr
  have HI := Lib.hid hi
  have HZ0 := Lib.hid hz0
  have HZ1 := Lib.hid hz1
  have HZ2 := Lib.hid hz2
  have hge := off_ge L hL L.length (Nat.le_refl _)
  have HM := Lib.hid hm
  have HL := Lib.hid hL
  obtain ⟨s, hs1⟩ : ∃ s, nameB L = s := ⟨_, rfl⟩
  obtain ⟨n, hn⟩ : ∃ n, L.length = n := ⟨_, rfl⟩
  have HS := Lib.hid hs1
  have HN := Lib.hid hn
  rw [hs1] at HM hsz ⊢
  rw [hn] at hsz hge hz ⊢
  clear hi hz0 hz1 hz2 hm hL hs1 hn
  go_enter Try.func66, Try.ntmps66
  go_wp2_with fail
  refine (rmay_any _ _ (by omega)).mono ?_; rintro e w' ⟨rfl, rfl⟩
  rw [HM.out]
  go_wp2_with fail
  go_loopw [3, 4] (fun v i wr => ∃ k : Nat, k ≤ n ∧ i = .int .i64 (off L k : Nat) ∧ wr.ownsRow w.heap.size 9 1 v k (sc (L.take k)) ∧ Below w.heap.size w wr) (fun _ i _ => s.size - (intOf i).toNat)
  case atStart => exact ⟨0, Nat.zero_le _, rfl, World.ownsRow_nil _ _ _ _, Below.refl _ _⟩
  case round =>
    obtain ⟨k, hk, rfl, ho, hb⟩ := hrel
    obtain ⟨va, vc, rfl⟩ := own_shape ho
    have HO := Lib.hid ho
    have HB := Lib.hid hb
    have hsz2 := hb.size
    clear ho hb
    have hm := off_mono L hk
    by_cases hlt : k < n
    · have hs := off_succ L k
      have hm2 := off_mono L (show k + 1 ≤ n by omega)
      obtain ⟨g1, g2, _⟩ := HL.out k (by rw [HN.out]; exact hlt)
      have hb := name_byte L k (by rw [HN.out]; exact hlt) (by omega)
      have hlab := name_label L k (by rw [HN.out]; exact hlt)
      rw [HS.out] at hb hlab
      have HT := Lib.hid (show sc (L.take k) ++ [Value.string (tx L k)] = sc (L.take (k + 1)) by
        rw [List.take_succ_eq_append_getElem (by rw [HN.out]; exact hlt), sc_append]
        simp [sc, tx, List.getD_eq_getElem?_getD, List.getElem?_eq_getElem (show k < L.length by rw [HN.out]; exact hlt)])
      obtain ⟨a, ha⟩ : ∃ a, off L k = a := ⟨_, rfl⟩
      obtain ⟨a2, ha2⟩ : ∃ a, off L (k + 1) = a := ⟨_, rfl⟩
      obtain ⟨x, hx⟩ : ∃ x, tx L k = x := ⟨_, rfl⟩
      obtain ⟨t, ht⟩ : ∃ t, x.size = t := ⟨_, rfl⟩
      rw [hx] at HT
      simp only [hx, ht, ha, ha2] at hs hm2 hb g1 g2 hm hlab ⊢
      have hlt2 : a < s.size := by omega
      have hg := (byte_get hlt2).trans hb
      have e0 : ((t : Int) != 0) = true := nT (by omega)
      have HA2 := Lib.hid ha2
      have HLAB := Lib.hid hlab
      clear ha ha2 ht hb hx hlab
      go_wp2_with (first | (at_builtin; refine wpList_append_own _ rfl _ _ 37 rfl w.heap.size 9 i0 (.string ⟨#[]⟩) 1 16 Try.underlying37 HI.out HZ0.out HZ1.out HZ2.out rfl (by decide) _ k _ rfl (HO.out.alloc _) ⟨wr.heap.size, 0, none⟩ 1 1 [.string (s.extract (a + 1) (a + 1 + t))] rfl rfl ?c1 ?c2 ?c3 ?c4 ?c5 ?_))
      case c1 => exact cell_one_new _ _ _
      case c2 => exact one_str _
      case c3 => unfold maxLen; omega
      case c4 => omega
      case c5 => simp; omega
      intro v2 w2 hown2 hgrow2 _
      rw [HLAB.out, HT.out] at hown2
      have HO2 := Lib.hid hown2
      have HB2 := Lib.hid (below_appendS HB.out hsz2 HO.out hgrow2)
      clear hown2 hgrow2
      go_wp2
      go_roundw
      case rel => exact ⟨k + 1, by omega, by rw [HA2.out, hs]; go_num, HO2.out, HB2.out⟩
      case measure => simp [intOf]; omega
    · have hkn : k = n := by omega
      subst hkn
      have hb := name_end L
      rw [HS.out, HN.out] at hb
      have hR := HO.out
      rw [show L.take k = L by rw [← HN.out]; exact List.take_length] at hR
      obtain ⟨a, c, hv, hrow, _⟩ := rowS_of_own hR
      injection hv with hv1 hv2 hv3
      subst hv1
      have HR := Lib.hid hrow
      obtain ⟨p, hp⟩ : ∃ p, off L k = p := ⟨_, rfl⟩
      simp only [hp] at hb hsz ⊢
      have hlt2 : p < s.size := by omega
      have hg := (byte_get hlt2).trans hb
      clear hR hrow hb hp
      go_wp2
      go_ret
      exact ⟨_, ⟨_, rfl⟩, HR.out, HB.out⟩
end Go.Proofs.Ythfnphcefkdgbaa
end

section
namespace Go.Proofs.Ythfnphcefkdgbaa
open Go.RowKit

theorem append_rowS {w : World} {ops : Array Oper} {rest : List Oper} {o : Oper} {act : Act} {Q : Exit → Act → World → Prop} (hgd : o.guard = none) (s x : Operand)
    (ho : o.op = .call { callee := .builtin .append, args := #[s, x], argTypes := #[37, 37] })
    (B : Nat) (v : Value) (n : Nat) (xs : List Value) (hs : act.eval s = v) (hown : w.ownsRow B 9 1 v n xs)
    (a : Option Addr) (len cap : Nat) (l : List ByteArray) (hx : act.eval x = .slice a len cap) (hn : a = none → len = 0 ∧ cap = 0) (hr : RowS w a len l)
    (hb : n + len ≤ 1000000) (hbase : B ≤ w.heap.size)
    (h : ∀ v' w', w'.ownsRow B 9 1 v' (n + len) (xs ++ sc l) → w.grownBy w' v.ownBlock → wpList Try.prog ops Q rest (act.put o.dst v') w') : wpList Try.prog ops Q (o :: rest) act w := by
  obtain ⟨i0, hi, hz0, hz1, hz2⟩ := info_parts infoStr
  cases a with
  | none =>
    obtain ⟨rfl, rfl⟩ := hn rfl
    have hl : l = [] := List.eq_nil_of_length_eq_zero hr.1
    subst hl
    refine wpList_append_own_none hgd s x 37 ho B 9 i0 1 Try.underlying37 hi v n xs hs hown hx ?_
    refine h v w ?_ (World.grownBy.refl _ _)
    simpa [sc] using hown
  | some ad =>
    refine wpList_append_own w hgd s x 37 ho B 9 i0 (.string ⟨#[]⟩) 1 16 Try.underlying37 hi hz0 hz1 hz2 rfl (by decide) v n xs hs hown ad len cap (sc l) hx (by simp [sc, hr.1]) ?_ (sc_oneCell l) (by unfold maxLen; omega) (by omega) hbase (fun v' w' h1 h2 _ => h v' w' h1 h2)
    intro j u hj
    have hjl : j < l.length := by
      have := (List.getElem?_eq_some_iff.1 hj).1
      simpa [sc] using this
    rcases hr.2 with h0 | ⟨b, off, hab, _, hc⟩
    · have := hr.1; omega
    · simp only [Option.some.injEq] at hab
      subst hab
      have e : (⟨b, off, none⟩ : Addr).add j = ⟨b, off + j, none⟩ := by simp only [Addr.add]; split <;> simp_all
      rw [e, hc j (by rw [← hr.1]; exact hjl)]
      simp only [sc, List.getElem?_map, List.getElem?_eq_getElem hjl, Option.map_some, Option.some.injEq] at hj
      rw [← hj, List.getD_eq_getElem?_getD, List.getElem?_eq_getElem hjl]
      rfl

theorem own_mono {w : World} {B B' n : Nat} {e : TypeId} {v : Value} {xs : List Value} (h : w.ownsRow B e 1 v n xs) (hB : B' ≤ B) : w.ownsRow B' e 1 v n xs := by
  refine ⟨h.1, ?_⟩
  rcases h.2 with h0 | ⟨g, cap, cur, h1, h2, h3⟩
  · exact Or.inl h0
  · exact Or.inr ⟨g, cap, cur, h1, Nat.le_trans hB h2, h3⟩
theorem RowS.nil {w : World} {a : Option Addr} {len cap : Nat} {ss : List ByteArray} (h : IsRowS w a len cap ss) : a = none → len = 0 ∧ cap = 0 := by
  intro ha
  rcases h with ⟨_, h1, h2, _⟩ | ⟨x, hx, _⟩
  · exact ⟨h1, h2⟩
  · rw [ha] at hx; cases hx

end Go.Proofs.Ythfnphcefkdgbaa
end

section
namespace Go.Proofs.Ythfnphcefkdgbaa
open Go.RowKit

/-- The cells of a slice, wherever it lies. -/
def CellsAt (w : World) (a : Option Addr) (n : Nat) (cs : List Value) : Prop :=
  cs.length = n ∧ (n = 0 ∨ ∃ b off, a = some ⟨b, off, none⟩ ∧ b < w.heap.size ∧ ∀ j u, cs[j]? = some u → w.cell? ⟨b, off + j, none⟩ = some u)
theorem CellsAt.below {w w' : World} {a : Option Addr} {n : Nat} {cs : List Value} (h : CellsAt w a n cs) (hb : Below w.heap.size w w') : CellsAt w' a n cs := by
  refine ⟨h.1, ?_⟩
  rcases h.2 with h2 | ⟨b, off, rfl, hlt, hc⟩
  · exact Or.inl h2
  · exact Or.inr ⟨b, off, rfl, Nat.lt_of_lt_of_le hlt hb.size, fun j u hj => by rw [hb.cell hlt]; exact hc j u hj⟩
theorem cells_own {w : World} {B n : Nat} {e : TypeId} {v : Value} {xs : List Value} (h : w.ownsRow B e 1 v n xs) : ∃ a c, v = .slice a n c ∧ CellsAt w a n xs ∧ (a = none → n = 0 ∧ c = 0) := by
  have hl : xs.length = n := by have := h.1; omega
  rcases h.2 with ⟨rfl, rfl⟩ | ⟨g, cap, cur, rfl, hb, hg, rest⟩
  · exact ⟨none, 0, rfl, ⟨hl, Or.inl rfl⟩, fun _ => ⟨rfl, rfl⟩⟩
  · refine ⟨_, _, rfl, ⟨hl, Or.inr ⟨g, 0, rfl, (Array.getElem?_eq_some_iff.1 hg).1, fun j u hj => ?_⟩⟩, fun h => by cases h⟩
    have := h.cells (g := g) rfl j u hj
    rw [show (⟨g, 0, none⟩ : Addr).add j = ⟨g, 0 + j, none⟩ by simp only [Addr.add]; split <;> simp_all] at this
    exact this
/-- append of a slice, wherever it lies, onto a row of the call's own. -/
theorem append_cells {w : World} {ops : Array Oper} {rest : List Oper} {o : Oper} {act : Act} {Q : Exit → Act → World → Prop} (hgd : o.guard = none) (s x : Operand) (t e : TypeId)
    (ho : o.op = .call { callee := .builtin .append, args := #[s, x], argTypes := #[t, t] })
    (i : TypeInfo) (z : Value) (bytes : Nat) (ht : Try.prog.underlying t = some (.slice e)) (hi : Try.prog.info? e = some i) (hz : i.zero = some z) (hsize : i.size = 1) (hby : i.bytes = bytes) (hzs : z.cells.size = 1)
    (B : Nat) (v : Value) (n : Nat) (xs : List Value) (hs : act.eval s = v) (hown : w.ownsRow B e 1 v n xs)
    (a : Option Addr) (len cap : Nat) (cs : List Value) (hx : act.eval x = .slice a len cap) (hn : a = none → len = 0 ∧ cap = 0) (hr : CellsAt w a len cs) (h1 : ∀ u ∈ cs, u.oneCell' = true)
    (hb : n + len ≤ 1000000) (hb2 : bytes ≤ 64) (hbase : B ≤ w.heap.size)
    (h : ∀ v' w', w'.ownsRow B e 1 v' (n + len) (xs ++ cs) → w.grownBy w' v.ownBlock → wpList Try.prog ops Q rest (act.put o.dst v') w') : wpList Try.prog ops Q (o :: rest) act w := by
  cases a with
  | none =>
    obtain ⟨rfl, rfl⟩ := hn rfl
    have hl : cs = [] := List.eq_nil_of_length_eq_zero hr.1
    subst hl
    refine wpList_append_own_none hgd s x t ho B e i 1 ht hi v n xs hs hown hx ?_
    refine h v w ?_ (World.grownBy.refl _ _)
    simpa using hown
  | some ad =>
    have hm : (n + len) * bytes ≤ 1000000 * 64 := Nat.mul_le_mul hb hb2
    refine wpList_append_own w hgd s x t ho B e i z 1 bytes ht hi hz hsize hby hzs (by decide) v n xs hs hown ad len cap cs hx (by rw [hr.1, Nat.mul_one]) ?_ h1 (by unfold maxLen; omega) (by omega) hbase (fun v' w' h1 h2 _ => h v' w' h1 h2)
    intro j u hj
    rcases hr.2 with h0 | ⟨b, off, hab, _, hc⟩
    · have h3 := hr.1
      have h4 := (List.getElem?_eq_some_iff.1 hj).1
      omega
    · simp only [Option.some.injEq] at hab
      subst hab
      rw [show (⟨b, off, none⟩ : Addr).add j = ⟨b, off + j, none⟩ by simp only [Addr.add]; split <;> simp_all]
      exact hc j u hj

theorem own_below' {w w' : World} {base : Nat} {e : TypeId} {size : Nat} {v : Value} {n : Nat} {xs : List Value} (h : w.ownsRow base e size v n xs) (hb : Below w.heap.size w w') : w'.ownsRow base e size v n xs :=
  h.kept (row := none) ⟨hb.os, hb.tape, hb.output, hb.size, fun k hk _ => hb.block k hk⟩ (by cases hv : v.ownBlock with
    | none => exact Or.inl rfl
    | some x => exact Or.inr (by simp))
/-- The bytes of a slice. -/
def RowB (w : World) (a : Option Addr) (n : Nat) (l : List UInt8) : Prop := CellsAt w a n (bc l)
theorem RowB.len {w : World} {a : Option Addr} {n : Nat} {l : List UInt8} (h : RowB w a n l) : l.length = n := by have := h.1; rwa [bc_length] at this
theorem RowB.at {w : World} {a : Option Addr} {n : Nat} {l : List UInt8} (h : RowB w a n l) (hn : 0 < n) : ∃ b off, a = some ⟨b, off, none⟩ ∧ b < w.heap.size ∧ ∀ j, j < n → w.cell? ⟨b, off + j, none⟩ = some (.int .u8 ((l.getD j 0).toNat : Int)) := by
  have hl := h.len
  rcases h.2 with h0 | ⟨b, off, rfl, hlt, hc⟩
  · omega
  · refine ⟨b, off, rfl, hlt, fun j hj => hc j _ ?_⟩
    simp [bc, List.getD_eq_getElem?_getD, List.getElem?_eq_getElem (show j < l.length by omega)]
/-- A part of a slice of bytes. -/
theorem RowB.part {w : World} {b off n : Nat} {l : List UInt8} (h : RowB w (some ⟨b, off, none⟩) n l) (lo hi : Nat) (h1 : lo ≤ hi) (h2 : hi ≤ n) (a : Option Addr) (ha : lo < hi → a = some ⟨b, off + lo, none⟩) : RowB w a (hi - lo) ((l.drop lo).take (hi - lo)) := by
  have hl := h.len
  refine ⟨by rw [bc_length, List.length_take, List.length_drop]; omega, ?_⟩
  by_cases h0 : hi - lo = 0
  · exact Or.inl h0
  · right
    rcases h.2 with h3 | ⟨b', off', he, hlt, hc⟩
    · omega
    · injection he with he; injection he with e1 e2; subst e1 e2
      refine ⟨b, off + lo, ha (by omega), hlt, fun j u hj => ?_⟩
      have hj2 : (bc l)[lo + j]? = some u := by
        rw [bc, List.getElem?_map, List.getElem?_take] at hj
        split at hj
        · rw [List.getElem?_drop] at hj
          rw [bc, List.getElem?_map]; exact hj
        · simp at hj
      rw [Nat.add_assoc]
      exact hc (lo + j) u hj2
/-- string(b). -/
theorem conv_row {w : World} {a : Option Addr} {n cap : Nat} {l : List UInt8} (h : RowB w a n l) (hn : a = none → n = 0 ∧ cap = 0) : (convert 123 9 (.slice a n cap)).run Try.prog w = .ok (.string (bs l)) w := by
  have hl := h.len
  subst hl
  cases a with
  | none =>
    obtain ⟨h1, rfl⟩ := hn rfl
    have : l = [] := List.eq_nil_of_length_eq_zero h1
    subst this
    have := run_convert_bytes_string (P := Try.prog) w 123 9 5 none 0 0 Try.underlying123 Try.underlying5 Try.underlying9
    rw [show (([] : List UInt8).length) = 0 from rfl, this]
    simp [bs]
    rfl
  | some x =>
    refine run_convert_bytes_back w _ _ 5 x cap l Try.underlying123 Try.underlying5 Try.underlying9 ?_
    intro j hj
    obtain ⟨b, off, he, _, hc⟩ := h.at (by omega)
    injection he with he
    subst he
    have := hc j hj
    rw [List.getD_eq_getElem?_getD, List.getElem?_eq_getElem hj] at this
    rw [show (⟨b, off, none⟩ : Addr).add j = ⟨b, off + j, none⟩ by simp only [Addr.add]; split <;> simp_all]
    exact this

theorem infoBs : (Try.prog.info? 123).map (fun i => (i.zero, i.size, i.bytes)) = some (some (.slice none 0 0), 1, 24) := by kernel_rfl
/-- A slice's value reads as bytes. -/
def ValB (w : World) (u : Value) (m : List UInt8) : Prop := ∃ a c, u = .slice a m.length c ∧ RowB w a m.length m ∧ (a = none → m.length = 0 ∧ c = 0)
theorem ValB.below {w w' : World} {u : Value} {m : List UInt8} (h : ValB w u m) (hb : Below w.heap.size w w') : ValB w' u m := by
  obtain ⟨a, c, h1, h2, h3⟩ := h
  exact ⟨a, c, h1, CellsAt.below h2 hb, h3⟩
theorem ValB.own {w : World} {B n : Nat} {v : Value} {m : List UInt8} (h : w.ownsRow B 5 1 v n (bc m)) : ValB w v m := by
  have hl : m.length = n := by have := h.1; rw [bc_length] at this; omega
  obtain ⟨a, c, h1, h2, h3⟩ := cells_own h
  subst hl
  exact ⟨a, c, h1, h2, h3⟩
/-- The slices of a slice. -/
def RowBB (w : World) (a : Option Addr) (n : Nat) (M : List (List UInt8)) : Prop :=
  ∃ cs, CellsAt w a n cs ∧ M.length = n ∧ ∀ j u, cs[j]? = some u → ValB w u (M.getD j [])
theorem RowBB.below {w w' : World} {a : Option Addr} {n : Nat} {M : List (List UInt8)} (h : RowBB w a n M) (hb : Below w.heap.size w w') : RowBB w' a n M := by
  obtain ⟨cs, h1, h2, h3⟩ := h
  exact ⟨cs, h1.below hb, h2, fun j u hj => (h3 j u hj).below hb⟩
theorem RowBB.at {w : World} {a : Option Addr} {n : Nat} {M : List (List UInt8)} (h : RowBB w a n M) (j : Nat) (hj : j < n) : ∃ b off ai ci, a = some ⟨b, off, none⟩ ∧ b < w.heap.size ∧ w.cell? ⟨b, off + j, none⟩ = some (.slice ai (M.getD j []).length ci) ∧ RowB w ai (M.getD j []).length (M.getD j []) ∧ (ai = none → (M.getD j []).length = 0 ∧ ci = 0) := by
  obtain ⟨cs, h1, h2, h3⟩ := h
  have hl := h1.1
  rcases h1.2 with h0 | ⟨b, off, rfl, hlt, hc⟩
  · omega
  · obtain ⟨u, hu⟩ : ∃ u, cs[j]? = some u := ⟨cs[j]'(by omega), List.getElem?_eq_getElem (by omega)⟩
    obtain ⟨ai, ci, rfl, hr, hn⟩ := h3 j u hu
    exact ⟨b, off, ai, ci, rfl, hlt, hc j _ hu, hr, hn⟩
/-- A slice's bytes lie apart from rows of slices that are made from block B on. -/
def Apart (B : Nat) (w : World) (u : Value) : Prop := ∀ (ad : Addr) (n c : Nat), u = Value.slice (some ad) n c → n = 0 ∨ ad.block < B ∨ ∃ cur fr, w.heap[ad.block]? = some (.cells cur 5 fr)
theorem Apart.ne {B n k c : Nat} {w : World} {ad : Addr} {v : Value} {xs : List Value} (h : Apart B w (.slice (some ad) k c)) (hk : k ≠ 0) (ho : w.ownsRow B 123 1 v n xs) : some ad.block ≠ v.ownBlock := by
  intro e
  rcases ho.2 with ⟨rfl, _⟩ | ⟨g, cap, cur, rfl, hB, hgg, _⟩
  · cases e
  · have e2 : ad.block = g := by simpa [Value.ownBlock] using e
    rcases h ad k c rfl with h1 | h1 | ⟨cur', fr, h1⟩
    · exact hk h1
    · omega
    · rw [e2, hgg] at h1
      simp at h1
theorem Apart.grow {B n : Nat} {w w' : World} {u v : Value} {xs : List Value} (h : Apart B w u) (ho : w.ownsRow B 123 1 v n xs) (hlt : ∀ (ad : Addr) (k c : Nat), u = Value.slice (some ad) k c → k = 0 ∨ ad.block < w.heap.size) (hg : w.grownBy w' v.ownBlock) : Apart B w' u := by
  intro ad k c e
  subst e
  by_cases hk : k = 0
  · exact Or.inl hk
  rcases h ad k c rfl with h1 | h1 | ⟨cur, fr, h1⟩
  · exact absurd h1 hk
  · exact Or.inr (Or.inl h1)
  · refine Or.inr (Or.inr ⟨cur, fr, ?_⟩)
    rw [hg.block _ (by rcases hlt ad k c rfl with h2 | h2; exact absurd h2 hk; exact h2) (h.ne hk ho)]
    exact h1
theorem ValB.lt {w : World} {u : Value} {m : List UInt8} (h : ValB w u m) : ∀ (ad : Addr) (k c : Nat), u = Value.slice (some ad) k c → k = 0 ∨ ad.block < w.heap.size := by
  intro ad k c e
  obtain ⟨a, c', rfl, hr, _⟩ := h
  injection e with e1 e2 e3
  subst e2
  rcases hr.2 with h0 | ⟨b, off, h1, h2, _⟩
  · exact Or.inl h0
  · rw [h1] at e1; injection e1 with e1; subst e1; exact Or.inr h2
theorem ValB.grow {B n : Nat} {w w' : World} {u v : Value} {m : List UInt8} {xs : List Value} (h : ValB w u m) (ha : Apart B w u) (ho : w.ownsRow B 123 1 v n xs) (hg : w.grownBy w' v.ownBlock) : ValB w' u m := by
  obtain ⟨a, c, rfl, hr, hn⟩ := h
  refine ⟨a, c, rfl, ⟨hr.1, ?_⟩, hn⟩
  rcases hr.2 with h0 | ⟨b, off, rfl, hlt, hc⟩
  · exact Or.inl h0
  · by_cases hz : m.length = 0
    · exact Or.inl hz
    exact Or.inr ⟨b, off, rfl, Nat.lt_of_lt_of_le hlt hg.size, fun j x hj => hg.cell (hc j x hj) (ha.ne hz ho)⟩
theorem Apart.own {B B' n : Nat} {w : World} {v : Value} {xs : List Value} (h : w.ownsRow B' 5 1 v n xs) : Apart B w v := by
  intro ad k c e
  rcases h.2 with ⟨rfl, _⟩ | ⟨g, cap, cur, rfl, hB, hgg, _⟩
  · cases e
  · injection e with e1 e2 e3
    injection e1 with e1
    subst e1
    exact Or.inr (Or.inr ⟨cur, _, hgg⟩)
theorem Apart.old {B : Nat} {w0 w : World} {u : Value} {m : List UInt8} (h : ValB w0 u m) (hB : w0.heap.size ≤ B) : Apart B w u := by
  intro ad k c e
  rcases h.lt ad k c e with h1 | h1
  · exact Or.inl h1
  · exact Or.inr (Or.inl (by omega))
/-- A slice of slices that a call owns, the slices lying apart. -/
def OwnBB (w : World) (B : Nat) (v : Value) (M : List (List UInt8)) : Prop :=
  ∃ xs, w.ownsRow B 123 1 v M.length xs ∧ ∀ j u, xs[j]? = some u → ValB w u (M.getD j []) ∧ Apart B w u
theorem OwnBB.nil (w : World) (B : Nat) : OwnBB w B (.slice none 0 0) [] := ⟨[], World.ownsRow_nil _ _ _ _, fun j u h => by simp at h⟩
theorem OwnBB.row {w : World} {B : Nat} {v : Value} {M : List (List UInt8)} (h : OwnBB w B v M) : ∃ a c, v = .slice a M.length c ∧ RowBB w a M.length M ∧ (a = none → M.length = 0 ∧ c = 0) := by
  obtain ⟨xs, h1, h2⟩ := h
  obtain ⟨a, c, rfl, h3, h4⟩ := cells_own h1
  exact ⟨a, c, rfl, ⟨xs, h3, rfl, fun j u hj => (h2 j u hj).1⟩, h4⟩
theorem OwnBB.below {w w' : World} {B : Nat} {v : Value} {M : List (List UInt8)} (h : OwnBB w B v M) (hb : Below w.heap.size w w') : OwnBB w' B v M := by
  obtain ⟨xs, h1, h2⟩ := h
  refine ⟨xs, h1.kept (row := none) ⟨hb.os, hb.tape, hb.output, hb.size, fun k hk _ => hb.block k hk⟩ (by cases hv : v.ownBlock with
    | none => exact Or.inl rfl
    | some x => exact Or.inr (by simp)), fun j u hj => ⟨(h2 j u hj).1.below hb, ?_⟩⟩
  intro ad k c e
  have h3 := (h2 j u hj).1.lt ad k c e
  rcases (h2 j u hj).2 ad k c e with h4 | h4 | ⟨cur, fr, h4⟩
  · exact Or.inl h4
  · exact Or.inr (Or.inl h4)
  · rcases h3 with h5 | h5
    · exact Or.inl h5
    · exact Or.inr (Or.inr ⟨cur, fr, by rw [hb.block _ h5]; exact h4⟩)
/-- One slice more. -/
theorem OwnBB.more {w w' : World} {B : Nat} {v v' u : Value} {M : List (List UInt8)} {m : List UInt8} {xs : List Value} (h1 : w.ownsRow B 123 1 v M.length xs) (h2 : ∀ j u, xs[j]? = some u → ValB w u (M.getD j []) ∧ Apart B w u) (hu : ValB w u m) (ha : Apart B w u) (ho : w'.ownsRow B 123 1 v' (M.length + 1) (xs ++ [u])) (hg : w.grownBy w' v.ownBlock) : OwnBB w' B v' (M ++ [m]) := by
  have hl : xs.length = M.length := by have := h1.1; omega
  refine ⟨xs ++ [u], by rw [List.length_append]; exact ho, fun j x hj => ?_⟩
  by_cases hj2 : j < M.length
  · rw [List.getElem?_append_left (by omega)] at hj
    obtain ⟨q1, q2⟩ := h2 j x hj
    have e : (M ++ [m]).getD j [] = M.getD j [] := by rw [List.getD_eq_getElem?_getD, List.getD_eq_getElem?_getD, List.getElem?_append_left hj2]
    rw [e]
    exact ⟨q1.grow q2 h1 hg, q2.grow h1 q1.lt hg⟩
  · rw [List.getElem?_append_right (by omega)] at hj
    have hj3 : j = M.length := by
      have := (List.getElem?_eq_some_iff.1 hj).1
      simp at this; omega
    subst hj3
    rw [hl, Nat.sub_self] at hj
    simp at hj
    subst hj
    have e : (M ++ [m]).getD M.length [] = m := by rw [List.getD_eq_getElem?_getD, List.getElem?_append_right (Nat.le_refl _), Nat.sub_self]; rfl
    rw [e]
    exact ⟨hu.grow ha h1 hg, ha.grow h1 hu.lt hg⟩
/-- Slices that came in, behind those that are there. -/
theorem OwnBB.many {w0 w w' : World} {B n : Nat} {v v' : Value} {M K : List (List UInt8)} {xs ys : List Value} (h1 : w.ownsRow B 123 1 v M.length xs) (h2 : ∀ j u, xs[j]? = some u → ValB w u (M.getD j []) ∧ Apart B w u) (hK : K.length = n) (hys : ∀ j u, ys[j]? = some u → ValB w0 u (K.getD j [])) (hb : Below w0.heap.size w0 w) (hB : w0.heap.size ≤ B) (ho : w'.ownsRow B 123 1 v' (M.length + n) (xs ++ ys)) (hg : w.grownBy w' v.ownBlock) : OwnBB w' B v' (M ++ K) := by
  have hl : xs.length = M.length := by have := h1.1; omega
  refine ⟨xs ++ ys, by rw [List.length_append, hK]; exact ho, fun j x hj => ?_⟩
  by_cases hj2 : j < M.length
  · rw [List.getElem?_append_left (by omega)] at hj
    obtain ⟨q1, q2⟩ := h2 j x hj
    have e : (M ++ K).getD j [] = M.getD j [] := by rw [List.getD_eq_getElem?_getD, List.getD_eq_getElem?_getD, List.getElem?_append_left hj2]
    rw [e]
    exact ⟨q1.grow q2 h1 hg, q2.grow h1 q1.lt hg⟩
  · rw [List.getElem?_append_right (by omega), hl] at hj
    have q0 := hys (j - M.length) x hj
    have q1 : ValB w x (K.getD (j - M.length) []) := q0.below hb
    have q2 : Apart B w x := Apart.old q0 hB
    have e : (M ++ K).getD j [] = K.getD (j - M.length) [] := by rw [List.getD_eq_getElem?_getD, List.getD_eq_getElem?_getD, List.getElem?_append_right (by omega)]
    rw [e]
    exact ⟨q1.grow q2 h1 hg, q2.grow h1 q1.lt hg⟩

/-- A slice of slices that a call owns, the slices too. -/
def OwnF (w : World) (B : Nat) (v : Value) (M : List (List UInt8)) : Prop :=
  ∃ xs, w.ownsRow B 123 1 v M.length xs ∧ ∀ j u, xs[j]? = some u → w.ownsRow B 5 1 u (M.getD j []).length (bc (M.getD j []))
theorem OwnF.nil (w : World) (B : Nat) : OwnF w B (.slice none 0 0) [] := ⟨[], World.ownsRow_nil _ _ _ _, fun j u h => by simp at h⟩
theorem OwnF.bb {w : World} {B : Nat} {v : Value} {M : List (List UInt8)} (h : OwnF w B v M) : OwnBB w B v M := by
  obtain ⟨xs, h1, h2⟩ := h
  exact ⟨xs, h1, fun j u hj => ⟨ValB.own (h2 j u hj), Apart.own (h2 j u hj)⟩⟩
theorem OwnF.below {w w' : World} {B : Nat} {v : Value} {M : List (List UInt8)} (h : OwnF w B v M) (hb : Below w.heap.size w w') : OwnF w' B v M := by
  obtain ⟨xs, h1, h2⟩ := h
  exact ⟨xs, own_below' h1 hb, fun j u hj => own_below' (h2 j u hj) hb⟩
theorem rows_apart {w : World} {B B' n m : Nat} {v u : Value} {xs ys : List Value} (h1 : w.ownsRow B 123 1 v n xs) (h2 : w.ownsRow B' 5 1 u m ys) : u.ownBlock = none ∨ u.ownBlock ≠ v.ownBlock := by
  rcases h2.2 with ⟨rfl, _⟩ | ⟨g2, c2, u2, rfl, _, hg2, _⟩
  · exact Or.inl rfl
  · right
    rcases h1.2 with ⟨rfl, _⟩ | ⟨g1, c1, u1, rfl, _, hg1, _⟩
    · simp [Value.ownBlock]
    · simp only [Value.ownBlock]
      intro h
      have hgg : g2 = g1 := by simpa using h
      subst hgg
      rw [hg1] at hg2
      simp at hg2
theorem OwnF.more {w w' : World} {B : Nat} {v v' u : Value} {M : List (List UInt8)} {m : List UInt8} {xs : List Value} (h1 : w.ownsRow B 123 1 v M.length xs) (h2 : ∀ j u, xs[j]? = some u → w.ownsRow B 5 1 u (M.getD j []).length (bc (M.getD j []))) (hu : w.ownsRow B 5 1 u m.length (bc m)) (ho : w'.ownsRow B 123 1 v' (M.length + 1) (xs ++ [u])) (hg : w.grownBy w' v.ownBlock) : OwnF w' B v' (M ++ [m]) := by
  have hl : xs.length = M.length := by have := h1.1; omega
  refine ⟨xs ++ [u], by rw [List.length_append]; exact ho, fun j x hj => ?_⟩
  by_cases hj2 : j < M.length
  · rw [List.getElem?_append_left (by omega)] at hj
    have e : (M ++ [m]).getD j [] = M.getD j [] := by rw [List.getD_eq_getElem?_getD, List.getD_eq_getElem?_getD, List.getElem?_append_left hj2]
    rw [e]
    exact (h2 j x hj).kept hg (rows_apart h1 (h2 j x hj))
  · rw [List.getElem?_append_right (by omega)] at hj
    have hj3 : j = M.length := by
      have := (List.getElem?_eq_some_iff.1 hj).1
      simp at this; omega
    subst hj3
    rw [hl, Nat.sub_self] at hj
    simp at hj
    subst hj
    have e : (M ++ [m]).getD M.length [] = m := by rw [List.getD_eq_getElem?_getD, List.getElem?_append_right (Nat.le_refl _), Nat.sub_self]; rfl
    rw [e]
    exact hu.kept hg (rows_apart h1 hu)

end Go.Proofs.Ythfnphcefkdgbaa
end

section
namespace Go.Proofs.Ythfnphcefkdgbaa
open Go.RowKit

/-- The numbers of a slice that came in. -/
def Row (w : World) (a : Option Addr) (len : Nat) (l : List Int) : Prop :=
  l.length = len ∧ (len = 0 ∨ ∃ b off, a = some ⟨b, off, none⟩ ∧ b < w.heap.size ∧ ∀ j, j < len → w.cell? ⟨b, off + j, none⟩ = some (.int .i64 (l.getD j 0)))

theorem Row.below {w w' : World} {a : Option Addr} {len : Nat} {l : List Int} (h : Row w a len l) (hb : Below w.heap.size w w') : Row w' a len l := by
  obtain ⟨h1, h2⟩ := h
  refine ⟨h1, ?_⟩
  rcases h2 with h2 | ⟨b, off, rfl, hlt, hc⟩
  · exact Or.inl h2
  · refine Or.inr ⟨b, off, rfl, Nat.lt_of_lt_of_le hlt hb.size, fun j hj => ?_⟩
    rw [hb.cell hlt]
    exact hc j hj

/-- What the reading of a slice of numbers gives. -/
def IsRow (k : IntKind) (w : World) (a : Option Addr) (len cap : Nat) (zs : List Int) : Prop :=
  (a = none ∧ len = 0 ∧ cap = 0 ∧ zs = []) ∨
  ∃ x, a = some x ∧ len ≤ cap ∧ cap ≤ maxLen ∧ zs.length = cap ∧ (∀ i, i < zs.length → w.cell? (x.add i) = some (.int k (zs.getD i 0))) ∧ ∀ n ∈ zs, (Lit.int k n).wf = true

theorem Row.of {w : World} {a : Option Addr} {len cap : Nat} {zs : List Int}
    (h : (a = none ∧ len = 0 ∧ cap = 0 ∧ zs = []) ∨ ∃ x, a = some x ∧ len ≤ cap ∧ cap ≤ maxLen ∧ zs.length = cap ∧ (∀ i, i < zs.length → w.cell? (x.add i) = some (.int .i64 (zs.getD i 0))) ∧ ∀ n ∈ zs, (Lit.int .i64 n).wf = true) :
    Row w a len (zs.take len) := by
  rcases h with ⟨rfl, rfl, rfl, rfl⟩ | ⟨x, rfl, hl, hm, hz, hcell, _⟩
  · exact ⟨rfl, Or.inl rfl⟩
  · refine ⟨by simp; omega, ?_⟩
    by_cases h0 : len = 0
    · exact Or.inl h0
    · right
      obtain ⟨b, off, spot⟩ := x
      have hc := hcell 0 (by omega)
      have hspot : spot = none := by simpa [Addr.add] using World.cell?_spot hc
      subst hspot
      refine ⟨b, off, rfl, ?_, fun j hj => ?_⟩
      · have := block_lt_of_cell hc
        simpa [Addr.add] using this
      · have := hcell j (by omega)
        have e : (⟨b, off, none⟩ : Addr).add j = ⟨b, off + j, none⟩ := by simp only [Addr.add]; split <;> simp_all
        rw [e] at this
        rw [this]
        simp [List.getD, hj]
theorem Row.nil {w : World} {a : Option Addr} {len cap : Nat} {zs : List Int}
    (h : (a = none ∧ len = 0 ∧ cap = 0 ∧ zs = []) ∨ ∃ x, a = some x ∧ len ≤ cap ∧ cap ≤ maxLen ∧ zs.length = cap ∧ (∀ i, i < zs.length → w.cell? (x.add i) = some (.int .i64 (zs.getD i 0))) ∧ ∀ n ∈ zs, (Lit.int .i64 n).wf = true) :
    a = none → len = 0 ∧ cap = 0 := by
  intro ha
  rcases h with ⟨_, h1, h2, _⟩ | ⟨x, hx, _⟩
  · exact ⟨h1, h2⟩
  · rw [ha] at hx; cases hx
end Go.Proofs.Ythfnphcefkdgbaa
end
