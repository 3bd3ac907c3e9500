/- Questions that are out: the table's state, plainly and as it lies; draws; two marks compared. -/
import Derived.Test.YtocfphijheidbaaMgV
import Derived.Laws.StructEq
namespace Go.Proofs.Ytocfphijheidbaa
open Go.RowKit

structure MkP where
  id : Int
  port : Int
  tx : ByteArray
  tcp : Bool
structure QsP where
  name : ByteArray
  ty : Int
  cl : Int
structure WtP where
  m : MkP
  q : QsP
  job : Int
  until_ : Int
def encM (m : MkP) : List Value := [.int .i64 m.id, .int .i64 m.port, .string m.tx, .bool m.tcp]
def encQs (q : QsP) : List Value := [.string q.name, .int .i64 q.ty, .int .i64 q.cl]
def encW (r : WtP) : List Value := [.int .i64 r.m.id, .int .i64 r.m.port, .string r.m.tx, .bool r.m.tcp, .string r.q.name, .int .i64 r.q.ty, .int .i64 r.q.cl, .int .i64 r.job, .int .i64 r.until_]
theorem encW_len (r : WtP) : (encW r).length = 9 := rfl
theorem encW_one (r : WtP) : ∀ u ∈ encW r, u.oneCell' = true := by
  intro u hu
  simp only [encW, List.mem_cons, List.not_mem_nil, or_false] at hu
  rcases hu with rfl | rfl | rfl | rfl | rfl | rfl | rfl | rfl | rfl <;> rfl
def flatW (l : List WtP) : List Value := l.flatMap encW
theorem flatW_app (A B : List WtP) : flatW (A ++ B) = flatW A ++ flatW B := List.flatMap_append
theorem flatW_one1 (r : WtP) : flatW [r] = encW r := by simp [flatW]
theorem flatW_len (l : List WtP) : (flatW l).length = l.length * 9 := by
  induction l with
  | nil => rfl
  | cons a l ih => simp only [flatW, List.flatMap_cons, List.length_append, encW_len] at ih ⊢; rw [ih]; simp; omega
theorem flatW_one (l : List WtP) : ∀ u ∈ flatW l, u.oneCell' = true := by
  intro u hu
  obtain ⟨x, _, hx⟩ := List.mem_flatMap.1 hu
  exact encW_one _ u hx
theorem flatW_at : ∀ (l : List WtP) (j i : Nat) (r : WtP), l[j]? = some r → i < 9 → (flatW l)[j * 9 + i]? = (encW r)[i]?
  | [], j, i, r, h, _ => by simp at h
  | a :: l, 0, i, r, h, hi => by
    simp at h; subst h
    rw [flatW, List.flatMap_cons, Nat.zero_mul, Nat.zero_add, List.getElem?_append_left (by rw [encW_len]; exact hi)]
  | a :: l, j + 1, i, r, h, hi => by
    rw [List.getElem?_cons_succ] at h
    rw [flatW, List.flatMap_cons, List.getElem?_append_right (by rw [encW_len]; omega), encW_len, show (j + 1) * 9 + i - 9 = j * 9 + i by omega]
    exact flatW_at l j i r h hi
structure TbP where
  most : Int
  x : Int
  ws : List WtP
def TbB (w : World) (q : Nat) (wv : Value) (s : TbP) : Prop := DC w q [.int .i64 s.most, .int .u32 s.x, wv] ∧ w.ownsRow 0 79 9 wv s.ws.length (flatW s.ws)
def TbS (w : World) (bs : List Nat) (q : Nat) (s : TbP) : Prop := ∃ wv, TbB w q wv s ∧ (q ∈ bs ∧ ∀ g, wv.ownBlock = some g → g ∈ bs ∧ g ≠ q) ∧ ∀ b ∈ bs, b < w.heap.size
theorem DC.u3 {w : World} {q : Nat} {c0 c1 c2 : Value} (h : DC w q [c0, c1, c2]) : w.cell? ⟨q, 0, none⟩ = some c0 ∧ w.cell? ⟨q, 1, none⟩ = some c1 ∧ w.cell? ⟨q, 2, none⟩ = some c2 ∧ w.frozen? ⟨q, 1, none⟩ = false ∧ w.frozen? ⟨q, 2, none⟩ = false :=
  ⟨(h 0 _ rfl).1, (h 1 _ rfl).1, (h 2 _ rfl).1, (h 1 _ rfl).2, (h 2 _ rfl).2⟩
theorem TbS.frm {w w' : World} {cs bs : List Nat} {q : Nat} {s : TbP} (h : TbS w cs q s) (g : Frm w w' bs) (hd : ∀ b ∈ cs, b ∉ bs) : TbS w' cs q s := by
  obtain ⟨wv, ⟨h1, h2⟩, ⟨a1, a2⟩, a3⟩ := h
  have hk : ∀ b ∈ cs, w'.heap[b]? = w.heap[b]? := fun b hb => g.block b (a3 b hb) (hd b hb)
  exact ⟨wv, ⟨h1.kept (hk q a1), own_kept h2 (fun b hb => hk b (a2 b hb).1)⟩, ⟨a1, a2⟩, fun b hb => Nat.lt_of_lt_of_le (a3 b hb) g.size⟩
theorem TbS.below {w w' : World} {cs : List Nat} {q : Nat} {s : TbP} (h : TbS w cs q s) (g : Below w.heap.size w w') : TbS w' cs q s := h.frm (frm_below g) (fun _ _ h => by simp at h)
theorem TbS.lt {w : World} {cs : List Nat} {q : Nat} {s : TbP} (h : TbS w cs q s) : ∀ b ∈ cs, b < w.heap.size := by
  obtain ⟨_, _, _, h2⟩ := h
  exact h2
/-- The next draw's state; what it tells. -/
def nxD (x : Int) : Int := (x * 69069 + 1) % 4294967296
def outD (x : Int) : Int := nxD x / 65536
theorem nxD_in (x : Int) : 0 ≤ nxD x ∧ nxD x < 4294967296 := by unfold nxD; omega
theorem outD_in (x : Int) : 0 ≤ outD x ∧ outD x < 65536 := by have := nxD_in x; unfold outD; omega
set_option maxRecDepth 100000 in
theorem next_any (q : Nat) (x : Int) (w : World) (hc : w.cell? ⟨q, 1, none⟩ = some (.int .u32 x)) (hf : w.frozen? ⟨q, 1, none⟩ = false) :
    Calls Try.prog 78 #[.pointer (some ⟨q, 1, none⟩)] w fun e w' => e = .returned (.int .i64 (outD x)) ∧ w' = w.setCell ⟨q, 1, none⟩ (.int .u32 (nxD x)) := by
  go_enter Try.func78, Try.ntmps78
  go_wp2
  go_ret
  exact ⟨rfl, rfl⟩
theorem mk_equal (a b : MkP) (W : World) : (Op.equalIn 10000 69 (.agg #[.int .i64 a.id, .int .i64 a.port, .string a.tx, .bool a.tcp]) (.agg #[.int .i64 b.id, .int .i64 b.port, .string b.tx, .bool b.tcp])).run Try.prog W = .ok (a.id == b.id && (a.port == b.port && (a.tx.toList == b.tx.toList && (a.tcp == b.tcp)))) W := by
  have u3 := Try.underlying3
  have a3 := Try.isAgg3
  have z3 := Try.sizeOf3
  have u9 := Try.underlying9
  have a9 := Try.isAgg9
  have z9 := Try.sizeOf9
  have u4 := Try.underlying4
  have a4 := Try.isAgg4
  have z4 := Try.sizeOf4
  have hS : Try.prog.underlying 69 = some (.struct (Try.prog.fieldsOf 69)) := by
    simp [Program.fieldsOf, Try.underlying69]
  rw [show (10000 : Nat) = 9999 + 1 from rfl, run_equalIn_agg W 9999 69 _ _ hS (by kernel_rfl)]
  simp only [Program.fieldsOf, Try.underlying69]
  go_simp
  by_cases h0 : a.id = b.id <;> by_cases h1 : a.port = b.port <;> by_cases h2 : a.tx.toList = b.tx.toList <;> by_cases h3 : a.tcp = b.tcp <;> simp [h0, h1, h2, h3]
def sameM (a b : MkP) : Bool := a.id == b.id && (a.port == b.port && (a.tx.toList == b.tx.toList && (a.tcp == b.tcp)))
theorem mk_eql (a b : MkP) (W : World) : (binOp .eql 69 (.agg #[.int .i64 a.id, .int .i64 a.port, .string a.tx, .bool a.tcp]) (.agg #[.int .i64 b.id, .int .i64 b.port, .string b.tx, .bool b.tcp])).run Try.prog W = .ok (.bool (sameM a b)) W := by
  rw [run_eql_struct, mk_equal]; rfl
theorem sameM_iff (a b : MkP) : sameM a b = true ↔ a = b := by
  obtain ⟨i, p, x, t⟩ := a
  obtain ⟨j, r, y, u⟩ := b
  have h0 : x.toList = y.toList ↔ x = y := by
    rw [ByteArray.toList_eq, ByteArray.toList_eq]
    exact ⟨fun h => ByteArray.ext (Array.toList_inj.mp h), fun h => by rw [h]⟩
  simp [sameM, h0]
end Go.Proofs.Ytocfphijheidbaa
