/- edns.Put: the record of an OPT. -/
import Derived.Test.YtgppkpdjpcegbaaGtO
namespace Go.Proofs.Ytgppkpdjpcegbaa
open Go.RowKit

def inR (x m : Int) : Bool := decide (0 ≤ x) && decide (x ≤ m)
theorem inR_t {x m : Int} (h : inR x m = true) : 0 ≤ x ∧ x ≤ m := by simpa [inR] using h
set_option maxRecDepth 100000 in
theorem fits_any (x m : Int) (w : World) : Calls Try.prog 61 #[.int .i64 x, .int .i64 m] w fun e w' => e = .returned (.bool (inR x m)) ∧ w = w' := by
  by_cases h1 : 0 ≤ x
  · have d1 := dT (p := 0 ≤ x) h1
    go_enter Try.func61, Try.ntmps61
    go_wp2
    go_ret
    exact ⟨ret_bool (by rw [inR, d1]; simp), rfl⟩
  · have d1 := dF (p := 0 ≤ x) h1
    go_enter Try.func61, Try.ntmps61
    go_wp2
    go_ret
    exact ⟨ret_bool (by rw [inR, d1]; rfl), rfl⟩
def ttlO (o : OptP) : Int := if o.d then bits .or .i64 (bits .or .i64 (o.rc * 16777216) (o.ver * 65536)) 32768 else bits .or .i64 (o.rc * 16777216) (o.ver * 65536)
def putE (o : OptP) : Int := if inR o.size 65535 && (inR o.ver 255 && inR o.rc 255) then (if 1000 < o.data.size then 3 else 0) else 1
def putR (o : OptP) : R5 := if putE o = 0 then ⟨⟨⟨#[0]⟩, 41, o.size⟩, ttlO o, o.data⟩ else rr0
set_option maxRecDepth 100000 in
set_option maxHeartbeats 4000000 in
theorem putO_any (o : OptP) (w : World) (ht : o.data.size ≤ 9223372036854775807) :
    Calls Try.prog 40 #[optV o] w fun e w' => e = .returned (.tuple #[.agg #[.string (putR o).k.n, .int .i64 (putR o).k.t, .int .i64 (putR o).k.c, .int .i64 (putR o).ttl, .string (putR o).d], .int .i64 (putE o)]) ∧ Below w.heap.size w w' := by
  obtain ⟨s, v, r, d, t⟩ := o
  obtain ⟨R, hR⟩ : ∃ R, putR ⟨s, v, r, d, t⟩ = R := ⟨_, rfl⟩
  obtain ⟨E, hE⟩ : ∃ E, putE ⟨s, v, r, d, t⟩ = E := ⟨_, rfl⟩
  rw [hR, hE]
  rw [putR, hE] at hR
  rw [putE] at hE
  have HR := Lib.hid hR
  have HE := Lib.hid hE
  clear hR hE
  simp only [optV]
  replace ht : t.size ≤ 9223372036854775807 := ht
  cases h1 : inR s 65535 with
  | false =>
    obtain rfl : E = 1 := by rw [← HE.out]; simp [h1]
    obtain rfl : R = rr0 := by rw [← HR.out]; rfl
    · go_enter Try.func40, Try.ntmps40
      go_wp2_with fail
      refine (fits_any _ _ _).mono ?_; rintro e w1 ⟨rfl, rfl⟩
      rw [h1]
      go_wp2
      refine bodyPost_ret (v := .tuple #[.agg #[.string ⟨#[]⟩, .int .i64 0, .int .i64 0, .int .i64 0, .string ⟨#[]⟩], .int .i64 1]) (by simp [results, Try.results40, go_sem]) rfl ⟨rfl, ?_⟩
      repeat (first | exact Below.refl _ _ | refine Below.alloc ?_ (by simp) _ | refine Below.setCell ?_ (by simp) _)
  | true =>
    cases h2 : inR v 255 with
    | false =>
      obtain rfl : E = 1 := by rw [← HE.out]; simp [h2]
      obtain rfl : R = rr0 := by rw [← HR.out]; rfl
      go_enter Try.func40, Try.ntmps40
      go_wp2_with fail
      refine (fits_any _ _ _).mono ?_; rintro e w1 ⟨rfl, rfl⟩
      rw [h1]
      go_wp2_with fail
      refine (fits_any _ _ _).mono ?_; rintro e w1 ⟨rfl, rfl⟩
      rw [h2]
      go_wp2
      refine bodyPost_ret (v := .tuple #[.agg #[.string ⟨#[]⟩, .int .i64 0, .int .i64 0, .int .i64 0, .string ⟨#[]⟩], .int .i64 1]) (by simp [results, Try.results40, go_sem]) rfl ⟨rfl, ?_⟩
      repeat (first | exact Below.refl _ _ | refine Below.alloc ?_ (by simp) _ | refine Below.setCell ?_ (by simp) _)
    | true =>
     cases h3 : inR r 255 with
     | false =>
      obtain rfl : E = 1 := by rw [← HE.out]; simp [h3]
      obtain rfl : R = rr0 := by rw [← HR.out]; rfl
      go_enter Try.func40, Try.ntmps40
      go_wp2_with fail
      refine (fits_any _ _ _).mono ?_; rintro e w1 ⟨rfl, rfl⟩
      rw [h1]
      go_wp2_with fail
      refine (fits_any _ _ _).mono ?_; rintro e w1 ⟨rfl, rfl⟩
      rw [h2]
      go_wp2_with fail
      refine (fits_any _ _ _).mono ?_; rintro e w1 ⟨rfl, rfl⟩
      rw [h3]
      go_wp2
      refine bodyPost_ret (v := .tuple #[.agg #[.string ⟨#[]⟩, .int .i64 0, .int .i64 0, .int .i64 0, .string ⟨#[]⟩], .int .i64 1]) (by simp [results, Try.results40, go_sem]) rfl ⟨rfl, ?_⟩
      repeat (first | exact Below.refl _ _ | refine Below.alloc ?_ (by simp) _ | refine Below.setCell ?_ (by simp) _)
     | true =>
      by_cases hl : 1000 < t.size
      · obtain rfl : E = 3 := by rw [← HE.out]; simp [h1, h2, h3, hl]
        obtain rfl : R = rr0 := by rw [← HR.out]; rfl
        have d1 := dT (p := (1000 : Int) < (t.size : Int)) (by omega)
        go_enter Try.func40, Try.ntmps40
        go_wp2_with fail
        refine (fits_any _ _ _).mono ?_; rintro e w1 ⟨rfl, rfl⟩
        rw [h1]
        go_wp2_with fail
        refine (fits_any _ _ _).mono ?_; rintro e w1 ⟨rfl, rfl⟩
        rw [h2]
        go_wp2_with fail
        refine (fits_any _ _ _).mono ?_; rintro e w1 ⟨rfl, rfl⟩
        rw [h3]
        go_wp2
        refine bodyPost_ret (v := .tuple #[.agg #[.string ⟨#[]⟩, .int .i64 0, .int .i64 0, .int .i64 0, .string ⟨#[]⟩], .int .i64 3]) (by simp [results, Try.results40, go_sem]) rfl ⟨rfl, ?_⟩
        repeat (first | exact Below.refl _ _ | refine Below.alloc ?_ (by simp) _ | refine Below.setCell ?_ (by simp) _)
      · obtain rfl : E = 0 := by rw [← HE.out]; simp [h1, h2, h3, hl]
        have hr2 := HR.out
        rw [if_pos rfl] at hr2
        have HR2 := Lib.hid hr2
        clear HR hr2
        have d1 := dF (p := (1000 : Int) < (t.size : Int)) (by omega)
        obtain ⟨v1, v2⟩ := inR_t h2
        obtain ⟨r1, r2⟩ := inR_t h3
        cases d with
        | true =>
          obtain rfl := HR2.out
          go_enter Try.func40, Try.ntmps40
          go_wp2_with fail
          refine (fits_any _ _ _).mono ?_; rintro e w1 ⟨rfl, rfl⟩
          rw [h1]
          go_wp2_with fail
          refine (fits_any _ _ _).mono ?_; rintro e w1 ⟨rfl, rfl⟩
          rw [h2]
          go_wp2_with fail
          refine (fits_any _ _ _).mono ?_; rintro e w1 ⟨rfl, rfl⟩
          rw [h3]
          go_wp2
          refine bodyPost_ret (v := .tuple #[.agg #[.string ⟨#[0]⟩, .int .i64 41, .int .i64 s, .int .i64 (bits .or .i64 (bits .or .i64 (r * 16777216) (v * 65536)) 32768), .string t], .int .i64 0]) (by simp [results, Try.results40, go_sem]) rfl ⟨rfl, ?_⟩
          repeat (first | exact Below.refl _ _ | refine Below.alloc ?_ (by simp) _ | refine Below.setCell ?_ (by simp) _)
        | false =>
          obtain rfl := HR2.out
          go_enter Try.func40, Try.ntmps40
          go_wp2_with fail
          refine (fits_any _ _ _).mono ?_; rintro e w1 ⟨rfl, rfl⟩
          rw [h1]
          go_wp2_with fail
          refine (fits_any _ _ _).mono ?_; rintro e w1 ⟨rfl, rfl⟩
          rw [h2]
          go_wp2_with fail
          refine (fits_any _ _ _).mono ?_; rintro e w1 ⟨rfl, rfl⟩
          rw [h3]
          go_wp2
          refine bodyPost_ret (v := .tuple #[.agg #[.string ⟨#[0]⟩, .int .i64 41, .int .i64 s, .int .i64 (bits .or .i64 (r * 16777216) (v * 65536)), .string t], .int .i64 0]) (by simp [results, Try.results40, go_sem]) rfl ⟨rfl, ?_⟩
          repeat (first | exact Below.refl _ _ | refine Below.alloc ?_ (by simp) _ | refine Below.setCell ?_ (by simp) _)
end Go.Proofs.Ytgppkpdjpcegbaa
