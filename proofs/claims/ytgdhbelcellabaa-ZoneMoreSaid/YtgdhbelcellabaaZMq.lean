/- ZoneMore, plain: what New answers to a record more. -/
import Derived.Test.YtgdhbelcellabaaZMp
namespace Go.Proofs.Ytgdhbelcellabaa
open Go.RowKit

theorem more_set {l : List R5} {r : R5} {B : List SetP} (hb : Canon (l ++ [r]) B) : ∃ s, s ∈ B ∧ s.k = r.k := by
  obtain ⟨s, hs, k1, -⟩ := (hb.mem r.k r.d).2 ⟨r, by simp, rfl, rfl⟩
  exact ⟨s, hs, k1⟩
theorem whole_out {apex : ByteArray} {l : List R5} {r : R5} {B : List SetP} (hb : Canon (l ++ [r]) B) (hu : undS r.k.n apex = false ∨ r.k.c ≠ 1) : wholeB apex B = false := by
  obtain ⟨s, hs, hk⟩ := more_set hb
  refine whole_no1 hs ?_
  rw [undB, hk]
  rcases hu with h | h
  · rw [h]; rfl
  · rw [show (r.k.c == 1) = false from beq_eq_false_iff_ne.2 h, Bool.and_false]
theorem soas_two {S : List SetP} {s t : SetP} (hs : s ∈ S) (ht : t ∈ S) (hne : s ≠ t) (h1 : s.k.t = 6) (h2 : t.k.t = 6) (d1 : s.data ≠ []) (d2 : t.data ≠ []) : 2 ≤ soasN S := by
  induction S with
  | nil => cases hs
  | cons x S ih =>
    have p1 : 0 < s.data.length := List.length_pos_iff.2 d1
    have p2 : 0 < t.data.length := List.length_pos_iff.2 d2
    rw [soasN]
    rcases List.mem_cons.1 hs with e1 | e1
    · rcases List.mem_cons.1 ht with e2 | e2
      · exact absurd (e1.trans e2.symm) hne
      · have := soas_ge e2 h2
        rw [← e1, if_pos h1]; omega
    · rcases List.mem_cons.1 ht with e2 | e2
      · have := soas_ge e1 h1
        rw [← e2, if_pos h2]; omega
      · have := ih e1 e2
        omega
theorem whole_soa2 {apex : ByteArray} {l : List R5} {r : R5} {A B : List SetP} (ha : Canon l A) (hb : Canon (l ++ [r]) B) (hw : wholeB apex A = true) (h6 : r.k.t = 6) (hne : r.k.n ≠ apex) : wholeB apex B = false := by
  obtain ⟨-, -, ⟨s6, f6⟩, -, -⟩ := whole_parts hw
  obtain ⟨s, hs, hk⟩ := more_set hb
  have h1 := find_key f6
  have h2 := (more_mem ha hb (s := s6) (by rw [h1]; intro e; exact hne (by rw [← e]))).1 (find_mem f6)
  have h3 := soas_two hs h2 (fun e => hne (by rw [← hk, e, h1])) (by rw [hk]; exact h6) (by rw [h1]) (hb.non s hs) (hb.non s6 h2)
  unfold wholeB
  rw [show (soasN B == 1) = false from beq_eq_false_iff_ne.2 (by omega)]
  simp
/-- What New answers where a record more comes to a zone's. -/
theorem newR_more {w w1 w2 : World} {z : Nat} {apex : ByteArray} {l : List R5} {r : R5} {A : List SetP} {e : Ending} (h : ZOk w z apex l A) (hl : l.length < 300) (hn : NewR apex (l ++ [r]) w1 e w2) :
    (mayR5 r = false → e = .returned (.tuple #[.pointer none, .int .i64 4])) ∧
    (mayR5 r = true → (undS r.k.n apex = false ∨ r.k.c ≠ 1 ∨ (r.k.t = 6 ∧ r.k.n ≠ apex)) → e = .returned (.tuple #[.pointer none, .int .i64 11])) ∧
    (mayR5 r = true → undS r.k.n apex = true → r.k.c = 1 → r.k.t ≠ 5 → r.k.t ≠ 6 → findK A ⟨r.k.n, 5, 1⟩ = none → ∃ z2 B, e = .returned (.tuple #[.pointer (some ⟨z2, 0, none⟩), .int .i64 0]) ∧ ZOk w2 z2 apex (l ++ [r]) B) := by
  obtain ⟨hn, -⟩ := hn
  have hlen : (l ++ [r]).length = l.length + 1 := by simp
  rcases hn with ⟨g1, _⟩ | ⟨g1, ⟨⟨r1, hr1, g2⟩, rfl⟩ | ⟨g2, ⟨g3, _⟩ | ⟨g3, B, hc, hs, hl1, g4⟩⟩⟩
  · rw [h.name] at g1; cases g1
  · have hr : mayR5 r = false := by
      rcases List.mem_append.1 hr1 with h1 | h1
      · rw [h.may r1 h1] at g2; cases g2
      · obtain rfl := List.mem_singleton.1 h1; exact g2
    exact ⟨fun _ => rfl, (fun h1 => by rw [hr] at h1; cases h1), (fun h1 => by rw [hr] at h1; cases h1)⟩
  · omega
  · have hr : mayR5 r = true := g2 r (by simp)
    refine ⟨fun h1 => by rw [hr] at h1; (exact absurd h1 (by simp)), fun _ hbad => ?_, fun _ u1 u2 u3 u4 u5 => ?_⟩
    · have hf : wholeB apex B = false := by
        rcases hbad with h1 | h1 | ⟨h1, h2⟩
        · exact whole_out hc (Or.inl h1)
        · exact whole_out hc (Or.inr h1)
        · exact whole_soa2 h.canon hc h.whole h1 h2
      rcases g4 with ⟨_, rfl⟩ | ⟨g5, _⟩
      · rfl
      · rw [hf] at g5; cases g5
    · have ht := whole_more h.canon hc h.whole u1 u2 u3 u4 u5
      rcases g4 with ⟨g5, _⟩ | ⟨g5, z2, rfl, hz, hza⟩
      · rw [ht] at g5; cases g5
      · exact ⟨z2, B, rfl, g1, g2, g3, hc, hs, hl1, g5, hza⟩
end Go.Proofs.Ytgdhbelcellabaa
