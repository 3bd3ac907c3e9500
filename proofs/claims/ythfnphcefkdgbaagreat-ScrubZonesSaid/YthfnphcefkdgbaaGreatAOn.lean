/- AuthOnly: the walk. -/
import Derived.Test.YthfnphcefkdgbaaGreatMgR
namespace Go.Proofs.YthfnphcefkdgbaaGreat
open Go.RowKit
theorem tgF_len {x : SetP} (hr : x.data.Pairwise (fun x y => cmpB x y < 0)) : (tgF [x]).length ≤ x.data.length := by
 unfold tgF
 split
 · rename_i h
   obtain ⟨h1, h2⟩ := h.choose_spec
   have e : nsD [x] = tgL x := by simp [nsD]
   have hn : (tgL x).Nodup := by
    unfold tgL
    split
    · exact List.Pairwise.filter _ (riseB_nodup hr)
    · exact List.nodup_nil
   have hl : (tgL x).length ≤ x.data.length := by
    unfold tgL
    split
    · exact List.length_filter_le _ _
    · exact Nat.zero_le _
   have hp := ((List.perm_ext_iff_of_nodup (tg_nodup h1) hn).2 (fun y => by rw [h2 y, e])).length_eq
   omega
 · exact Nat.zero_le _
theorem glueL_len {w : World} {z : Nat} {apex : ByteArray} {l : List R5} {S : List SetP} (h : ZOk w z apex l S) {x : SetP} (hx : x ∈ S) : (glueL S [x]).length ≤ 600 := by
 have h1 := glueP_le S (tgF [x])
 have h2 := tgF_len (h.canon.rise x hx)
 have h3 := data_le_sum hx
 have h4 := h.sum
 have h5 := h.few
 rw [glueL]; omega
theorem ans_len {w : World} {z : Nat} {apex : ByteArray} {l : List R5} {S : List SetP} (h : ZOk w z apex l S) {qn : ByteArray} (hn : qn.size ≤ 1000000) (qt qc : Int) : (ansF S apex qn qt qc).an.length ≤ 1 ∧ (ansF S apex qn qt qc).ns.length ≤ 1 ∧ (ansF S apex qn qt qc).ar.length ≤ 600 := by
 have hT : ∀ t, (ansT S apex qn t).an.length ≤ 1 ∧ (ansT S apex qn t).ns.length ≤ 1 ∧ (ansT S apex qn t).ar.length ≤ 600 := fun t => by
  have hK : (ansK S apex qn t).an.length ≤ 1 ∧ (ansK S apex qn t).ns.length ≤ 1 ∧ (ansK S apex qn t).ar.length ≤ 600 := by
   cases hf : findK S ⟨qn, t, 1⟩ with
   | some s => rw [ansK_yes hf]; exact ⟨Nat.le_refl _, Nat.zero_le _, glueL_len h (find_mem hf)⟩
   | none =>
     obtain ⟨x, hx, -, -⟩ := soa_found h
     rw [ansK_no hf]
     split
     · exact ⟨Nat.zero_le _, by show (soaL S apex).length ≤ 1; rw [hx]; exact Nat.le_refl _, Nat.zero_le _⟩
     · exact ⟨Nat.zero_le _, by show (soaL S apex).length ≤ 1; rw [hx]; exact Nat.le_refl _, Nat.zero_le _⟩
  cases h5 : findK S ⟨qn, 5, 1⟩ with
  | none => rw [ansT_k (Or.inl h5)]; exact hK
  | some s =>
   by_cases ht : t = 5
   · rw [ansT_k (Or.inr ht)]; exact hK
   · rw [ansT_alias h5 ht]; exact ⟨Nat.le_refl _, Nat.zero_le _, Nat.zero_le _⟩
 cases hq : inQ apex qn qt qc with
 | false => rw [ans_out hq]; exact ⟨Nat.zero_le _, Nat.zero_le _, Nat.zero_le _⟩
 | true =>
  cases hc : cutP S apex qn with
  | none => rw [ans_no hq hc]; exact hT qt
  | some x =>
   by_cases hd : x.k.n = qn ∧ qt = 43
   · have e : ansF S apex qn qt qc = ansT S apex qn qt := by rw [ansF, if_neg (by rw [hq]; simp), hc]; exact if_pos hd
     rw [e]; exact hT qt
   · obtain ⟨-, -, -, c4⟩ := cut_facts hn hc
     rw [ans_cut hq hc hd]; exact ⟨Nat.zero_le _, Nat.le_refl _, glueL_len h (find_mem c4)⟩
theorem at_full3 {w : World} {a : Option Addr} {n : Nat} {s : SetP} (h : SetsAt w a n [s]) : n = 1 ∧ ∃ b o p c, a = some ⟨b, o, none⟩ ∧ SetAt w b o s p c := by
 have hn : 1 = n := h.1
 subst hn
 rcases h.2 with h9 | ⟨b, o, rfl, hb, hc⟩
 · cases h9
 · obtain ⟨p, c, h0⟩ := hc 0 (by omega)
   rw [Nat.zero_mul, Nat.add_zero] at h0
   exact ⟨rfl, b, o, p, c, rfl, h0⟩
theorem SetsUp.open {w : World} {B n : Nat} {a : Option Addr} {L : List SetP} (h : SetsUp w B a n L) : ∃ Lp : List (SetP × Value), Lp.map Prod.fst = L ∧ CellsAt w a (n * 5) (flatS Lp) ∧ ∀ p ∈ Lp, w.ownsRow B 9 1 p.2 p.1.data.length (sc p.1.data) := by
 obtain ⟨Lp, h1, h2, h3, h4⟩ := h
 refine ⟨Lp, h1, ⟨by rw [flatS_len, h2], ?_⟩, h4⟩
 rcases h3 with h3 | ⟨g, h5, -, h7, h8⟩
 · exact Or.inl (by rw [h3])
 · exact Or.inr ⟨g, 0, h5, h7, h8⟩
theorem same_selfO (n : ByteArray) (t k u : Int) (d : List ByteArray) (pa pb : Option Addr) (dl ca cb : Nat) (w : World) (h1 : RowS w pa dl d) (h2 : RowS w pb dl d) (hl : dl ≤ 100000) : Calls Tryz.prog 48 #[.agg #[.string n, .int .i64 t, .int .i64 k, .int .i64 u, .slice pa dl ca], .agg #[.string n, .int .i64 t, .int .i64 k, .int .i64 u, .slice pb dl cb]] w fun e w' => e = .returned (.bool true) ∧ Below w.heap.size w w' := same_selfG n t k u d pa pb dl ca cb w h1 h2 hl
end Go.Proofs.YthfnphcefkdgbaaGreat
