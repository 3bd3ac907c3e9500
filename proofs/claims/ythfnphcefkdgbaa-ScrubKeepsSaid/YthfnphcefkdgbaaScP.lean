/- Scrub, plain: what a message says to a question, as a function of its records. -/
import Derived.Test.YthfnphcefkdgbaaZnU
import Derived.Test.YthfnphcefkdgbaaMsL
namespace Go.Proofs.Ythfnphcefkdgbaa
open Go.RowKit

/-- Records sorted; the sets that they make. -/
noncomputable def srtR (l : List R5) : List R5 := l.mergeSort (fun a b => decide (rcmp a b ≤ 0))
theorem srtR_perm (l : List R5) : (srtR l).Perm l := List.mergeSort_perm l _
theorem srtR_sorted (l : List R5) : SortedR (srtR l) := by
  have h := List.pairwise_mergeSort (le := fun a b : R5 => decide (rcmp a b ≤ 0)) (fun a b c h1 h2 => by
    have t1 := pre_rcmp.trans a b c
    simp only [decide_eq_true_eq] at *
    omega) (fun a b => by
    have h1 := pre_rcmp.anti a b
    simp only [Bool.or_eq_true, decide_eq_true_eq]
    omega) l
  exact h.imp (fun {a b} hab => of_decide_eq_true hab)
noncomputable def grpF (l : List R5) : List SetP := grpK (srtR l) l.length
theorem grpF_canon (l : List R5) : Canon l (grpF l) := canon_group (srtR_perm l) (srtR_sorted l) rfl
theorem grpF_of {l : List R5} {S : List SetP} (h : Canon l S) : S = grpF l := canon_eq h (grpF_canon l) (fun _ _ => Iff.rfl) (fun _ _ => Iff.rfl)
theorem grpF_same {l l' : List R5} (h : ∀ r, r ∈ l ↔ r ∈ l') : grpF l = grpF l' := grpF_of ((grpF_canon l).of_mem h)
/-- May a server of the cut speak of the record? -/
noncomputable def inC (cut : ByteArray) (r : R5) : Bool := decide (r.k.c = 1) && (mayR5 r && undS r.k.n cut)
noncomputable def wiL (cut : ByteArray) (l : List R5) : List R5 := l.filter (inC cut)
noncomputable def wiF (cut : ByteArray) (l : List R5) : List SetP := grpF (wiL cut l)
theorem wiF_canon (cut : ByteArray) (l : List R5) : Canon (wiL cut l) (wiF cut l) := grpF_canon _
theorem wiF_same {cut : ByteArray} {l l' : List R5} (h : ∀ r, inC cut r = true → (r ∈ l ↔ r ∈ l')) : wiF cut l = wiF cut l' := by
  refine grpF_same fun r => ?_
  rw [wiL, wiL, List.mem_filter, List.mem_filter]
  exact ⟨fun ⟨h1, h2⟩ => ⟨(h r h2).1 h1, h2⟩, fun ⟨h1, h2⟩ => ⟨(h r h2).2 h1, h2⟩⟩
/-- What an answer says. -/
structure OutP where
  kind : Int
  ttl : Int
  sets : List (SetP × Int)
  next : ByteArray
def emB : ByteArray := ⟨#[]⟩
def badO : OutP := ⟨0, 0, [], emB⟩
def rankF (aa : Bool) : Int := if aa = true then 4 else 3
/-- An alias that stands in the answer's place. -/
noncomputable def aliO (S : List SetP) (qn : ByteArray) (qt : Int) (rank : Int) : Option OutP :=
  match findK S ⟨qn, 5, 1⟩ with
  | none => none
  | some s => if s.data.length = 1 ∧ qt ≠ 5 then some ⟨2, 0, [(s, rank)], tgS 5 (s.data.getD 0 emB)⟩ else none
noncomputable def ansO (S : List SetP) (qn : ByteArray) (qt qc : Int) (rank : Int) : Option OutP :=
  match findK S ⟨qn, qt, qc⟩ with
  | some s => some ⟨1, 0, [(s, rank)], emB⟩
  | none => aliO S qn qt rank
/-- Does an NS set lead towards the question? -/
noncomputable def leadB (cut qn : ByteArray) (qt : Int) (s : SetP) : Bool := open Classical in decide (s.k.t = 2) && (!decide (s.k.n = cut) && (undS qn s.k.n && !(decide (qt = 43) && decide (s.k.n = qn))))
noncomputable def belS (cut qn : ByteArray) (qt : Int) (b s : SetP) : SetP := if leadB cut qn qt s = true ∧ b.k.n.size < s.k.n.size then s else b
noncomputable def belF (cut qn : ByteArray) (qt : Int) (L : List SetP) : SetP := L.foldl (belS cut qn qt) sZ
noncomputable def gluB (b : SetP) (s : SetP) : Bool := decide (s.k.t ∈ [(1 : Int), 28]) && memS s.k.n b.data
noncomputable def gluF (b : SetP) (L : List SetP) : List SetP := L.filter (gluB b)
noncomputable def refO (cut qn : ByteArray) (qt : Int) (N X : List SetP) : Option OutP :=
  if (belF cut qn qt N).data = [] then none
  else some ⟨3, 0, (belF cut qn qt N, 2) :: (gluF (belF cut qn qt N) X).map (fun s => (s, 1)), emB⟩
/-- The least time of a SOA. -/
noncomputable def soaMin (d : ByteArray) : Int := if soaOk d = true then getN (soaT d) 16 4 else 0
noncomputable def soaB (qn : ByteArray) (s : SetP) : Bool := decide (s.k.t = 6) && (decide (s.data.length = 1) && undS qn s.k.n)
noncomputable def noTtl (qn : ByteArray) (N : List SetP) : Int :=
  match N.find? (soaB qn) with
  | none => 0
  | some s => min s.ttl (soaMin (s.data.getD 0 emB))
noncomputable def noO (kind : Int) (qn : ByteArray) (aa : Bool) (N : List SetP) : OutP := if aa = true then ⟨kind, noTtl qn N, [], emB⟩ else badO
/-- What a message says, told of the sets of its three sections. -/
noncomputable def sortS (cut qn : ByteArray) (qt qc rc : Int) (aa tc : Bool) (A N X : List SetP) : OutP :=
  if tc = true then ⟨6, 0, [], emB⟩
  else if ¬ (rc = 0 ∨ rc = 3) then badO
  else match ansO A qn qt qc (rankF aa) with
    | some o => o
    | none => if rc = 3 then noO 4 qn aa N else (refO cut qn qt N X).getD (noO 5 qn aa N)
noncomputable def sortF (cut qn : ByteArray) (qt qc : Int) (m : MsgP) : OutP := sortS cut qn qt qc m.r m.b2 m.b3 (wiF cut m.a) (wiF cut m.n) (wiF cut m.x)
end Go.Proofs.Ythfnphcefkdgbaa
