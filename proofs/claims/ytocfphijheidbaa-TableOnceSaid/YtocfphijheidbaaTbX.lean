/- What TableOnce asks, plainly; answers of every kind; what Match makes of them. -/
import Derived.Test.YtocfphijheidbaaTbU
import Derived.Test.YtocfphijheidbaaTbV
namespace Go.Proofs.Ytocfphijheidbaa
open Go.RowKit

theorem seek_free {ws : List WtP} {p : Int} {x : ByteArray} {t : Bool} : ∀ (f : Nat) (id : Int), 0 ≤ id ∧ id < 65536 → FreeI ws p x t id f → takenB ws ⟨seekI ws p x t (f + 1) id, p, x, t⟩ = false
  | 0, id, hid, h => by
    obtain ⟨j, hj, h1⟩ := h
    obtain rfl : j = 0 := by omega
    rw [show (id + ((0 : Nat) : Int)) % 65536 = id by omega] at h1
    rw [seek_stop 0 h1]
    exact h1
  | f + 1, id, hid, h => by
    by_cases ht : takenB ws ⟨id, p, x, t⟩ = true
    · rw [seekI_yes (f + 1) ht]
      exact seek_free f (nid id) (nid_in id) (free_next hid h ht)
    · rw [seekI_no (f + 1) ht]
      cases e : takenB ws ⟨id, p, x, t⟩
      · rfl
      · exact absurd e ht
theorem open_free (s : TbP) (now job : Int) (tx : ByteArray) (tcp : Bool) (q : QsP) (hl : s.ws.length ≤ 60000) : takenB s.ws (openW s now job tx tcp q).m = false :=
  seek_free s.ws.length _ (outD_in s.x) (freeI s.ws _ tx tcp _ hl)
structure WsOk (ws : List WtP) : Prop where
  ids : ∀ r ∈ ws, 0 ≤ r.m.id ∧ r.m.id < 65536
  apart : ws.Pairwise (fun a b => a.m ≠ b.m)
theorem WsOk.nil : WsOk [] := ⟨by simp, List.Pairwise.nil⟩
theorem WsOk.sub {ws vs : List WtP} (h : WsOk ws) (hs : vs.Sublist ws) : WsOk vs := ⟨fun r hr => h.ids r (hs.subset hr), h.apart.sublist hs⟩
theorem WsOk.opened {s : TbP} (h : WsOk s.ws) (now job : Int) (tx : ByteArray) (tcp : Bool) (q : QsP) (hl : s.ws.length ≤ 60000) : WsOk (openP s now job tx tcp q).ws := by
  have hf := open_free s now job tx tcp q hl
  refine ⟨fun r hr => ?_, ?_⟩
  · rcases List.mem_append.1 hr with h1 | h1
    · exact h.ids r h1
    · obtain rfl := List.mem_singleton.1 h1
      exact seek_in _ _ (outD_in s.x)
  · refine List.pairwise_append.2 ⟨h.apart, List.pairwise_singleton _ _, fun a ha b hb e => ?_⟩
    obtain rfl := List.mem_singleton.1 hb
    simp only [takenB, List.any_eq_false] at hf
    exact hf a ha ((sameM_iff _ _).2 e)
theorem WsOk.ne {ws : List WtP} (h : WsOk ws) {i j : Nat} {a b : WtP} (hi : ws[i]? = some a) (hj : ws[j]? = some b) (hij : i ≠ j) : a.m ≠ b.m := by
  obtain ⟨hi1, hi2⟩ := List.getElem?_eq_some_iff.1 hi
  obtain ⟨hj1, hj2⟩ := List.getElem?_eq_some_iff.1 hj
  rcases Nat.lt_or_gt_of_ne hij with h1 | h1
  · have := List.pairwise_iff_getElem.1 h.apart i j hi1 hj1 h1
    rw [hi2, hj2] at this
    exact this
  · have := List.pairwise_iff_getElem.1 h.apart j i hj1 hi1 h1
    rw [hi2, hj2] at this
    exact fun e => this e.symm
theorem sameM_no {a b : MkP} (h : a ≠ b) : sameM a b = false := by
  cases e : sameM a b
  · rfl
  · exact absurd ((sameM_iff a b).1 e) h
theorem WsOk.first {ws : List WtP} (h : WsOk ws) {i : Nat} {r : WtP} (hi : ws[i]? = some r) : FirstM ws r.m i r :=
  ⟨hi, (sameM_iff _ _).2 rfl, fun _ _ hj hr' => sameM_no (h.ne hr' hi (Nat.ne_of_lt hj))⟩
theorem WsOk.parted {ws : List WtP} (h : WsOk ws) (p : WtP → Bool) {r : WtP} (hr : r ∈ ws.filter p) : ∀ i r', ¬ FirstM (ws.filter (fun x => !p x)) r.m i r' := by
  rintro i r' ⟨h1, h2, -⟩
  obtain ⟨m1, m2⟩ := List.mem_filter.1 hr
  obtain ⟨n1, n2⟩ := List.mem_filter.1 (List.mem_of_getElem? h1)
  obtain ⟨a, ha⟩ := List.getElem?_of_mem m1
  obtain ⟨b, hb⟩ := List.getElem?_of_mem n1
  have e := (sameM_iff _ _).1 h2
  by_cases hab : a = b
  · subst hab
    rw [ha] at hb
    obtain rfl := Option.some.inj hb
    rw [m2] at n2
    cases n2
  · exact h.ne ha hb hab e.symm
theorem WsOk.erased {ws : List WtP} (h : WsOk ws) {i : Nat} {r : WtP} (hi : ws[i]? = some r) : ∀ j r', ¬ FirstM (ws.eraseIdx i) r.m j r' := by
  rintro j r' ⟨h1, h2, -⟩
  have e := (sameM_iff _ _).1 h2
  rw [List.getElem?_eraseIdx] at h1
  split at h1
  · exact h.ne h1 hi (by omega) e
  · exact h.ne h1 hi (by omega) e
def zWL : List Value := [.int .i64 0, .int .i64 0, .string ⟨#[]⟩, .bool false, .string ⟨#[]⟩, .int .i64 0, .int .i64 0, .int .i64 0, .int .i64 0]
/-- What Match makes of an answer to r, turned by n. -/
def MRes (s : TbP) (r : WtP) (n : Int) (C : List Value) (ok : Bool) (s' : TbP) : Prop :=
  (∃ i r', FirstM s.ws r.m i r' ∧ (r' = r → n = 0) ∧ ok = true ∧ C = encW r' ∧ s' = { s with ws := s.ws.eraseIdx i }) ∨ ((∀ i, FirstM s.ws r.m i r → n ≠ 0) ∧ ok = false ∧ C = zWL ∧ s' = s)
theorem MRes.no {s s' : TbP} {r : WtP} {n : Int} {C : List Value} {ok : Bool} (h : MRes s r n C ok s') (hn : ∀ i r', ¬ FirstM s.ws r.m i r') : ok = false ∧ s' = s := by
  rcases h with ⟨i, r', h1, _⟩ | ⟨_, h2, _, h4⟩
  · exact absurd h1 (hn i r')
  · exact ⟨h2, h4⟩
theorem MRes.wrong {s s' : TbP} {r : WtP} {n : Int} {C : List Value} {ok : Bool} {i : Nat} (h : MRes s r n C ok s') (hr : FirstM s.ws r.m i r) (hn : n ≠ 0) : ok = false ∧ s' = s := by
  rcases h with ⟨j, r', h1, h2, _⟩ | ⟨_, h2, _, h4⟩
  · exact absurd (h2 (h1.one hr).2) hn
  · exact ⟨h2, h4⟩
theorem MRes.right {s s' : TbP} {r : WtP} {C : List Value} {ok : Bool} {i : Nat} (h : MRes s r 0 C ok s') (hr : FirstM s.ws r.m i r) : ok = true ∧ C = encW r ∧ s' = { s with ws := s.ws.eraseIdx i } := by
  rcases h with ⟨j, r', h1, _, h3, h4, h5⟩ | ⟨h1, _⟩
  · obtain ⟨rfl, rfl⟩ := h1.one hr
    exact ⟨h3, h4, h5⟩
  · exact absurd rfl (h1 i hr)
theorem wrap_ne (my : Int) : IntKind.i64.wrap (my + 1) ≠ my := by
  intro e
  rw [IntKind.wrap_i64] at e
  omega
theorem ans_any (ki kp : Int) (kx : ByteArray) (kt : Bool) (mn : ByteArray) (my mc mj mu : Int) (n : Int) (w : World) (hk : 0 ≤ ki ∧ ki < 65536) (hn : 0 ≤ n ∧ n ≤ 4) :
    Calls Try.prog 46 #[.agg #[.int .i64 ki, .int .i64 kp, .string kx, .bool kt, .string mn, .int .i64 my, .int .i64 mc, .int .i64 mj, .int .i64 mu], .int .i64 n] w fun e w' =>
      ∃ (id : Int) (qr : Bool) (a : Option Addr) (nq cq : Nat) (Q : List QsP), e = .returned (.agg #[.int .i64 id, .int .i64 0, .int .i64 0, .bool qr, .bool false, .bool false, .bool false, .bool false, .slice a nq cq, .slice none 0 0, .slice none 0 0, .slice none 0 0]) ∧ RowQs w' a nq Q ∧ nq ≤ 2 ∧ (GoodM ⟨ki, kp, kx, kt⟩ id 0 qr Q ⟨⟨ki, kp, kx, kt⟩, ⟨mn, my, mc⟩, mj, mu⟩ ↔ n = 0) ∧ Below w.heap.size w w' := by
  have hc : (n = 0 ∨ n = 1 ∨ n = 3) ∨ n = 2 ∨ n = 4 := by omega
  rcases hc with hc | rfl | rfl
  · obtain ⟨id, qr, h1, h2⟩ : ∃ id qr, ((n = 0 ∧ id = ki ∧ qr = true) ∨ (n = 1 ∧ id = (ki + 1) % 65536 ∧ qr = true) ∨ (n = 3 ∧ id = ki ∧ qr = false)) ∧ ((qr = true ∧ id = ki) ↔ n = 0) := by
      rcases hc with rfl | rfl | rfl
      · exact ⟨ki, true, Or.inl ⟨rfl, rfl, rfl⟩, by simp⟩
      · refine ⟨_, true, Or.inr (Or.inl ⟨rfl, rfl, rfl⟩), ?_⟩
        simp
        omega
      · exact ⟨ki, false, Or.inr (Or.inr ⟨rfl, rfl, rfl⟩), by simp⟩
    refine (answer_any ki kp kx kt mn my mc mj mu n id qr w hk h1).mono ?_
    rintro e w' ⟨gQ, rfl, hq, hb⟩
    exact ⟨id, qr, _, 1, 1, [⟨mn, my, mc⟩], rfl, hq, by decide, by simp only [GoodM, and_true]; exact h2, hb⟩
  · refine (answer2_any ki kp kx kt mn my mc mj mu _ w rfl).mono ?_
    rintro e w' ⟨gQ, rfl, hq, hb⟩
    refine ⟨ki, true, _, 1, 1, _, rfl, hq, by decide, ?_, hb⟩
    constructor
    · rintro ⟨-, -, -, h⟩
      injection h with h _
      injection h with _ h _
      exact absurd h (wrap_ne my)
    · intro h; cases h
  · refine (answer4_any ki kp kx kt mn my mc mj mu w).mono ?_
    rintro e w' ⟨gQ, cN, rfl, hq, hb⟩
    refine ⟨ki, true, _, 2, cN, _, rfl, hq, by decide, ?_, hb⟩
    constructor
    · rintro ⟨-, -, -, h⟩
      injection h with _ h
      cases h
    · intro h; cases h
theorem matchR_any (bs : List Nat) (q : Nat) (s : TbP) (ki kp : Int) (kx : ByteArray) (kt : Bool) (mn : ByteArray) (my mc mj mu : Int) (n id : Int) (qr : Bool) (a : Option Addr) (nq cq : Nat) (Q : List QsP) (w : World) (h : TbS w bs q s) (hn : s.ws.length ≤ 5000) (hQ : RowQs w a nq Q) (hqn : nq ≤ 2)
    (hg : GoodM ⟨ki, kp, kx, kt⟩ id 0 qr Q ⟨⟨ki, kp, kx, kt⟩, ⟨mn, my, mc⟩, mj, mu⟩ ↔ n = 0) :
    Calls Try.prog 47 #[.pointer (some ⟨q, 0, none⟩), .agg #[.int .i64 ki, .int .i64 kp, .string kx, .bool kt], .agg #[.int .i64 id, .int .i64 0, .int .i64 0, .bool qr, .bool false, .bool false, .bool false, .bool false, .slice a nq cq, .slice none 0 0, .slice none 0 0, .slice none 0 0]] w fun e w' =>
      ∃ (C : List Value) (ok : Bool) (s' : TbP), e = .returned (.tuple #[.agg C.toArray, .bool ok]) ∧ C.length = 9 ∧ (∀ u ∈ C, u.oneCell' = true) ∧ MRes s ⟨⟨ki, kp, kx, kt⟩, ⟨mn, my, mc⟩, mj, mu⟩ n C ok s' ∧ TbS w' bs q s' ∧ Frm w w' bs := by
  refine (match_any bs q s ki kp kx kt id 0 0 qr false false false false a none none none nq cq 0 0 0 0 0 0 Q w h hn hQ (by omega)).mono ?_
  rintro e w' ⟨hc, hf⟩
  rcases hc with ⟨i, r, h1, h2, rfl, h4⟩ | ⟨h1, rfl, h4⟩
  · exact ⟨encW r, true, _, rfl, rfl, encW_one r, Or.inl ⟨i, r, h1, fun e => hg.1 (e ▸ h2), rfl, rfl, rfl⟩, h4, hf⟩
  · exact ⟨zWL, false, s, rfl, rfl, by simp [zWL, Value.oneCell'], Or.inr ⟨fun i hi e => h1 i _ hi (hg.2 e), rfl, rfl, rfl⟩, h4, hf⟩
end Go.Proofs.Ytocfphijheidbaa
