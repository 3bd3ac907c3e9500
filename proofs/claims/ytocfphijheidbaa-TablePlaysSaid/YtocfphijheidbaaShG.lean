/- A State made, a State copied: contracts of New, Copy. -/
import Derived.Test.YtocfphijheidbaaShF
namespace Go.Proofs.Ytocfphijheidbaa
open Go.RowKit

set_option maxRecDepth 100000 in
theorem new_lit : List.foldl (fun (cs : Array Value) (x : Value × Nat) => cs.setIfInBounds x.snd x.fst) Try.zeroCells122 (arL .u64 8 iniF).zipIdx = (shC iniF (rf (List.replicate 128 0)) 0).toArray := by kernel_rfl
set_option maxRecDepth 100000 in
set_option maxHeartbeats 4000000 in
theorem new_any (w : World) : Calls Try.prog 18 #[] w fun e w' => ∃ q, e = .returned (.pointer (some ⟨q, 0, none⟩)) ∧ w.heap.size ≤ q ∧ ShL w' q [] ∧ Below w.heap.size w w' := by
  go_enter Try.func18, Try.ntmps18
  go_wp2_with fail
  refine (first_any _).mono ?_; rintro e w1 ⟨rfl, hb⟩
  have HB := Lib.hid hb
  clear hb
  go_wp2_with fail
  rw [new_lit]
  have hs := shS_new w1 122 iniF (rf (List.replicate 128 0)) 0
  refine bodyPost_ret (v := .pointer (some ⟨w1.heap.size, 0, none⟩)) (by simp [results, Try.results18, go_sem]) rfl ⟨w1.heap.size, rfl, HB.out.size, ⟨List.replicate 128 0, List.length_replicate, hs, rfl⟩, HB.out.alloc HB.out.size _⟩
set_option maxRecDepth 100000 in
set_option maxHeartbeats 4000000 in
theorem copy_any (q : Nat) (l : List UInt8) (w : World) (hs : ShL w q l) : Calls Try.prog 21 #[.pointer (some ⟨q, 0, none⟩)] w fun e w' => ∃ p, e = .returned (.pointer (some ⟨p, 0, none⟩)) ∧ w.heap.size ≤ p ∧ ShL w' p l ∧ Below w.heap.size w w' := by
  obtain ⟨rl, hl, hss, ht⟩ := hs
  have HS := Lib.hid hss
  have HZ := Lib.hid zeroSha
  have hz := shS_new w 122 (fun _ => 0) (fun _ => 0) 0
  rw [← zeroSha] at hz
  have hbz := (Below.refl w.heap.size w).alloc (Nat.le_refl _) (.cells Try.zeroCells122 122)
  obtain ⟨C, hC⟩ : ∃ x, shC (hsh l (l.length / 128)) (rf rl) (l.length : Int) = x := ⟨_, rfl⟩
  have HR := Lib.hid (show w.rangeAt q 0 C by rw [← hC]; exact hss.range)
  have HL := Lib.hid (show C.length = 137 by rw [← hC]; exact shC_length _ _ _)
  have H1 := Lib.hid (show C.toArray.all (·.oneCell') = true by rw [← hC]; exact shC_one _ _ _)
  have HT := Lib.hid (show (w.alloc (.cells Try.zeroCells122 122)).there w.heap.size 0 C.toArray.size from fun j hj => by
    rw [List.size_toArray, HL.out] at hj
    rw [Nat.zero_add]
    obtain ⟨a1, a2, a3, a4⟩ := hz
    by_cases e1 : j < 8
    · have := a1 j e1; rw [Nat.zero_add] at this; rw [this.1, this.2]; exact ⟨rfl, rfl⟩
    · by_cases e2 : j < 136
      · have := a2 (j - 8) (by omega); rw [show 8 + (j - 8) = j by omega] at this; rw [this.1, this.2]; exact ⟨rfl, rfl⟩
      · rw [show j = 136 by omega, a3, a4]; exact ⟨rfl, rfl⟩)
  have HSZ := Lib.hid (show (Try.prog.info? 122).map (·.size) = some C.length by rw [HL.out]; kernel_rfl)
  have HC := Lib.hid hC
  have HB := Lib.hid hbz
  clear hss hz hbz hC
  go_enter Try.func21, Try.ntmps21
  go_wp2_with (first | (refine wpList_load_mid rfl 122 (.tmp 5) rfl q 0 rfl C _ HR.out Try.underlying122 rfl HSZ.out ?_) | (refine wpList_store_mid rfl 122 (.tmp 3) (.tmp 6) rfl _ _ C.toArray rfl rfl HT.out (by rw [List.size_toArray]; exact HSZ.out) H1.out ?_))
  have hf : ∀ j, j < 137 → ((w.alloc (.cells Try.zeroCells122 122)).setCells w.heap.size 0 C).frozen? ⟨w.heap.size, j, none⟩ = false := fun j hj => by
    rw [World.frozen?_setCells]
    have := (HT.out j (by rw [List.size_toArray, HL.out]; exact hj)).2
    rwa [Nat.zero_add] at this
  have hr := World.rangeAt_setCells_same (w.alloc (.cells Try.zeroCells122 122)) w.heap.size 0 C (by have := HT.out; rwa [List.size_toArray] at this)
  refine bodyPost_ret (v := .pointer (some ⟨w.heap.size, 0, none⟩)) (by simp [results, Try.results21, go_sem]) rfl ⟨w.heap.size, rfl, Nat.le_refl _, ⟨rl, hl, ShS.of (by rw [HC.out]; exact hr) hf, ht⟩, shb_setCells HB.out (Nat.le_refl _) _ _⟩
end Go.Proofs.Ytocfphijheidbaa
