/- The state of TableOnce's walk; Waits for the document compared. -/
import Derived.Test.YtocfphijheidbaaTbX
namespace Go.Proofs.Ytocfphijheidbaa
open Go.RowKit

structure St20 (w wx : World) (q : Nat) (c : List Nat) (most : Int) (k : Nat) (s : TbP) : Prop where
  one : OneT w wx q c s
  mst : s.most = most
  ok : WsOk s.ws
  len : (s.ws.length : Int) ≤ most
  few : s.ws.length ≤ k
theorem St20.below {w wx wy : World} {q : Nat} {c : List Nat} {most : Int} {k : Nat} {s : TbP} (h : St20 w wx q c most k s) (hb : Below wx.heap.size wx wy) : St20 w wy q c most k s := ⟨h.one.below hb, h.mst, h.ok, h.len, h.few⟩
theorem St20.next {w wx : World} {q : Nat} {c : List Nat} {most : Int} {k : Nat} {s : TbP} (h : St20 w wx q c most k s) : St20 w wx q c most (k + 1) s := ⟨h.one, h.mst, h.ok, h.len, Nat.le_succ_of_le h.few⟩
theorem St20.put {w wx wy : World} {q : Nat} {c d bs : List Nat} {most : Int} {k : Nat} {s t : TbP} (h : St20 w wx q c most k s) (hs : TbS wy d q t) (hd : ∀ x ∈ d, x ∈ c ∨ wx.heap.size ≤ x) (hf : Frm wx wy bs) (hb : ∀ x ∈ bs, x ∈ c) (hm : t.most = s.most) (hsub : t.ws.Sublist s.ws) : St20 w wy q d most k t :=
  ⟨h.one.put hs hd hf hb, hm.trans h.mst, h.ok.sub hsub, by have := h.len; have := hsub.length_le; omega, Nat.le_trans hsub.length_le h.few⟩
theorem St20.opened {w wx wy : World} {q : Nat} {c d : List Nat} {most : Int} {k : Nat} {s : TbP} {now job : Int} {tx : ByteArray} {tcp : Bool} {qq : QsP} (h : St20 w wx q c most k s) (hs : TbS wy d q (openP s now job tx tcp qq)) (hd : ∀ x ∈ d, x ∈ c ∨ wx.heap.size ≤ x) (hf : Frm wx wy c) (hlt : (s.ws.length : Int) < most) (hm : most ≤ 1000) : St20 w wy q d most (k + 1) (openP s now job tx tcp qq) :=
  ⟨h.one.put hs hd hf (fun _ hx => hx), h.mst, h.ok.opened now job tx tcp qq (by omega), by show ((s.ws ++ [_]).length : Int) ≤ most; rw [List.length_append, List.length_singleton]; omega, by show (s.ws ++ [_]).length ≤ k + 1; rw [List.length_append, List.length_singleton]; have := h.few; omega⟩
theorem St20.few5 {w wx : World} {q : Nat} {c : List Nat} {most : Int} {k : Nat} {s : TbP} (h : St20 w wx q c most k s) (hm : most ≤ 1000) : s.ws.length ≤ 1000 := by have := h.len; omega
theorem St20.q {w wx : World} {q : Nat} {c : List Nat} {most : Int} {k : Nat} {s : TbP} (h : St20 w wx q c most k s) : q ∈ c := h.one.tb.choose_spec.2.1.1
theorem MRes.sub {s s' : TbP} {r : WtP} {n : Int} {C : List Value} {ok : Bool} (h : MRes s r n C ok s') : s'.most = s.most ∧ s'.ws.Sublist s.ws := by
  rcases h with ⟨i, r', _, _, _, _, rfl⟩ | ⟨_, _, _, rfl⟩
  · exact ⟨rfl, List.eraseIdx_sublist _ _⟩
  · exact ⟨rfl, List.Sublist.refl _⟩
theorem out_of {c d : List Nat} {wx : World} {g : Nat} (hd : ∀ x ∈ d, x ∈ c ∨ wx.heap.size ≤ x) (h : g ∉ c) (hlt : g < wx.heap.size) : g ∉ d := fun e => by
  rcases hd g e with h1 | h1
  · exact h h1
  · omega
set_option maxRecDepth 100000 in
theorem rw_neq (i p : Int) (x : ByteArray) (t : Bool) (n : ByteArray) (y c j u : Int) (W : World) : (binOp .neq 84 (.agg #[.int .i64 i, .int .i64 p, .string x, .bool t, .string n, .int .i64 y, .int .i64 c, .int .i64 j, .int .i64 u]) (.agg #[.int .i64 i, .int .i64 p, .string x, .bool t, .string n, .int .i64 y, .int .i64 c, .int .i64 j, .int .i64 u])).run Try.prog W = .ok (.bool false) W := by
  have u3 := Try.underlying3
  have a3 := Try.isAgg3
  have z3 := Try.sizeOf3
  have u9 := Try.underlying9
  have a9 := Try.isAgg9
  have z9 := Try.sizeOf9
  have u4 := Try.underlying4
  have a4 := Try.isAgg4
  have z4 := Try.sizeOf4
  have hS : Try.prog.underlying 84 = some (.struct (Try.prog.fieldsOf 84)) := by
    simp [Program.fieldsOf, Try.underlying84]
  rw [run_neq_struct, show (10000 : Nat) = 9999 + 1 from rfl, run_equalIn_agg W 9999 84 _ _ hS (by kernel_rfl)]
  simp only [Program.fieldsOf, Try.underlying84]
  go_simp
end Go.Proofs.Ytocfphijheidbaa
