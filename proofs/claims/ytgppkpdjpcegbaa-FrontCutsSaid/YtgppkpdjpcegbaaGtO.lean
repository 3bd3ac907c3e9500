/- The OPT of a message. -/
import Derived.Test.YtgppkpdjpcegbaaMgA
namespace Go.Proofs.Ytgppkpdjpcegbaa
open Go.RowKit

/-- What an OPT says. -/
structure OptP where
  size : Int
  ver : Int
  rc : Int
  d : Bool
  data : ByteArray
def opt0 : OptP := ⟨0, 0, 0, false, ⟨#[]⟩⟩
def optV (o : OptP) : Value := .agg #[.int .i64 o.size, .int .i64 o.ver, .int .i64 o.rc, .bool o.d, .string o.data]
def verT (t : Int) : Int := bits .and .i64 (t / 65536) 255
def rcT (t : Int) : Int := bits .and .i64 (t / 16777216) 255
def doT (t : Int) : Bool := bits .and .i64 t 32768 != 0
def optOf (r : R5) : OptP := ⟨r.k.c, verT r.ttl, rcT r.ttl, doT r.ttl, r.d⟩
def getF : List R5 → OptP × Bool × Int
  | [] => (opt0, false, 0)
  | [r] => if r.k.n.toList = [0] then (optOf r, true, 0) else (opt0, false, 4)
  | _ :: _ :: _ => (opt0, false, 7)
/-- The OPT of records. -/
def getO (l : List R5) : OptP × Bool × Int := getF (keepR optN l)

set_option maxRecDepth 100000 in
set_option maxHeartbeats 8000000 in
theorem get_any (mi mo mr : Int) (b1 b2 b3 b4 b5 : Bool) (qa na sa xa : Option Addr) (ql qc nl nc sl sc xl xc : Nat) (l : List R5) (w : World) (h : RowR w xa xl l) (hn : xa = none → xl = 0 ∧ xc = 0) (hlen : xl ≤ 100000) :
    Calls Try.prog 11 #[.agg #[.int .i64 mi, .int .i64 mo, .int .i64 mr, .bool b1, .bool b2, .bool b3, .bool b4, .bool b5, .slice qa ql qc, .slice na nl nc, .slice sa sl sc, .slice xa xl xc]] w fun e w' => e = .returned (.tuple #[optV (getO l).1, .bool (getO l).2.1, .int .i64 (getO l).2.2]) ∧ Below w.heap.size w w' := by
  have hb0 := ((Below.refl w.heap.size w).alloc (Nat.le_refl _) (.cells #[.int .i64 mi, .int .i64 mo, .int .i64 mr, .bool b1, .bool b2, .bool b3, .bool b4, .bool b5, .slice qa ql qc, .slice na nl nc, .slice sa sl sc, .slice xa xl xc] 37)).alloc (by simp) (.cells #[.int .i64 0, .int .i64 0, .int .i64 0, .bool false, .string ⟨#[]⟩] 42)
  have HB0 := Lib.hid hb0
  have HR := Lib.hid (h.below hb0)
  have HN := Lib.hid hn
  have hc := CN.new (w.alloc (.cells #[.int .i64 mi, .int .i64 mo, .int .i64 mr, .bool b1, .bool b2, .bool b3, .bool b4, .bool b5, .slice qa ql qc, .slice na nl nc, .slice sa sl sc, .slice xa xl xc] 37)) #[.int .i64 0, .int .i64 0, .int .i64 0, .bool false, .string ⟨#[]⟩] 42
  rw [World.size_alloc] at hc
  have HC := Lib.hid hc
  clear h hn hb0 hc
  go_enter Try.func11, Try.ntmps11
  go_wp2_with fail
  refine (cloneRR xa xl xc l _ HR.out HN.out hlen).mono ?_; rintro e w1 ⟨v, rfl, ho, hb⟩
  have HO := Lib.hid ho
  have HB := Lib.hid hb
  clear ho hb
  go_wp2_with fail
  refine (deleteRR _ _ notOpt_any _ _ _ _ _ HO.out hlen).mono ?_; rintro e w2 ⟨v2, rfl, ho2, hg2⟩
  have hb2 := HB.out.grown hg2 HB.out.size (fun k hk => (HO.out.lt k hk).1)
  have HC2 := Lib.hid (HC.out.below hb2)
  have HB2 := Lib.hid (HB0.out.trans (hb2.mono HB0.out.size))
  clear hg2 hb2 HC HB HO
  obtain ⟨a2, c2, rfl, hrow, hnil⟩ := rowR_own ho2
  clear ho2
  obtain ⟨F, hF⟩ : ∃ F, keepR optN l = F := ⟨_, rfl⟩
  rw [hF] at hrow ⊢
  have HFF := Lib.hid hF
  clear hF
  have hqlt := HC2.out.1
  obtain ⟨p0, p1, p2, p3, p4, f0, f1, f2, f3, f4⟩ := HC2.out.u5
  match F, HFF, hrow with
  | [], HFF, hrow =>
    simp only [List.length_nil]
    clear hrow hnil
    have KZ := Lib.hid (HC2.out.s5 (.int .i64 0) (.int .i64 0) (.int .i64 0) (.bool false) (.string ⟨#[]⟩))
    have HBZ := Lib.hid ((HB2.out).grown (grown_s5 (w2) (w.heap.size + 1) (.int .i64 0) (.int .i64 0) (.int .i64 0) (.bool false) (.string ⟨#[]⟩)) (HB2.out).size (fun k hk => by injection hk with hk; omega))
    go_wp2
    obtain ⟨wz, hwz⟩ : ∃ x, ((((((w2).setCell ⟨w.heap.size + 1, 0, none⟩ (.int .i64 0)).setCell ⟨w.heap.size + 1, 1, none⟩ (.int .i64 0)).setCell ⟨w.heap.size + 1, 2, none⟩ (.int .i64 0)).setCell ⟨w.heap.size + 1, 3, none⟩ (.bool false)).setCell ⟨w.heap.size + 1, 4, none⟩ (.string ⟨#[]⟩)) = x := ⟨_, rfl⟩
    rw [hwz] at KZ HBZ ⊢
    obtain ⟨z0, z1, z2, z3, z4, _⟩ := KZ.out.u5
    refine bodyPost_ret (v := .tuple #[.agg #[.int .i64 0, .int .i64 0, .int .i64 0, .bool false, .string ⟨#[]⟩], .bool false, .int .i64 0]) (by simp [results, Try.results11, go_sem, z0, z1, z2, z3, z4]) rfl ⟨by rw [getO, HFF.out]; rfl, HBZ.out⟩
  | [r], HFF, hrow =>
    simp only [List.length_singleton]
    obtain ⟨b, o, r', ha, hbl, hr, c0, c1, c2', c3, c4⟩ := hrow.at 0 (by simp)
    obtain rfl : r = r' := by simpa using hr
    subst ha
    obtain ⟨⟨rn, rt, rc⟩, ru, rd⟩ := r
    simp only [Nat.zero_mul, Nat.add_zero] at c0 c1 c2' c3 c4
    clear hr hrow hnil
    by_cases hroot : rn.toList = [0]
    · have e1 : (rn.toList == [(0 : UInt8)]) = true := by rw [hroot]; rfl
      have HRT := Lib.hid hroot
      clear hroot
      have KZ := Lib.hid (HC2.out.s5 (.int .i64 rc) (.int .i64 (bits .and .i64 (ru / 65536) 255)) (.int .i64 (bits .and .i64 (ru / 16777216) 255)) (.bool (bits .and .i64 ru 32768 != 0)) (.string rd))
      have HBZ := Lib.hid ((HB2.out).grown (grown_s5 (w2) (w.heap.size + 1) (.int .i64 rc) (.int .i64 (bits .and .i64 (ru / 65536) 255)) (.int .i64 (bits .and .i64 (ru / 16777216) 255)) (.bool (bits .and .i64 ru 32768 != 0)) (.string rd)) (HB2.out).size (fun k hk => by injection hk with hk; omega))
      have hbq := (Below.refl _ ((((((w2).setCell ⟨w.heap.size + 1, 0, none⟩ (.int .i64 rc)).setCell ⟨w.heap.size + 1, 1, none⟩ (.int .i64 (bits .and .i64 (ru / 65536) 255))).setCell ⟨w.heap.size + 1, 2, none⟩ (.int .i64 (bits .and .i64 (ru / 16777216) 255))).setCell ⟨w.heap.size + 1, 3, none⟩ (.bool (bits .and .i64 ru 32768 != 0))).setCell ⟨w.heap.size + 1, 4, none⟩ (.string rd))).alloc (Nat.le_refl _) (.cells #[.string rn, .int .i64 rt, .int .i64 rc, .int .i64 ru, .string rd] 77)
      replace KZ := Lib.hid (KZ.out.below hbq)
      replace HBZ := Lib.hid (HBZ.out.trans (hbq.mono HBZ.out.size))
      clear hbq
      go_wp2
      obtain ⟨wz, hwz⟩ : ∃ x, (((((((w2).setCell ⟨w.heap.size + 1, 0, none⟩ (.int .i64 rc)).setCell ⟨w.heap.size + 1, 1, none⟩ (.int .i64 (bits .and .i64 (ru / 65536) 255))).setCell ⟨w.heap.size + 1, 2, none⟩ (.int .i64 (bits .and .i64 (ru / 16777216) 255))).setCell ⟨w.heap.size + 1, 3, none⟩ (.bool (bits .and .i64 ru 32768 != 0))).setCell ⟨w.heap.size + 1, 4, none⟩ (.string rd)).alloc (.cells #[.string rn, .int .i64 rt, .int .i64 rc, .int .i64 ru, .string rd] 77)) = x := ⟨_, rfl⟩
      rw [hwz] at KZ HBZ ⊢
      obtain ⟨z0, z1, z2, z3, z4, _⟩ := KZ.out.u5
      refine bodyPost_ret (v := .tuple #[.agg #[.int .i64 rc, .int .i64 (bits .and .i64 (ru / 65536) 255), .int .i64 (bits .and .i64 (ru / 16777216) 255), .bool (bits .and .i64 ru 32768 != 0), .string rd], .bool true, .int .i64 0]) (by simp [results, Try.results11, go_sem, z0, z1, z2, z3, z4]) rfl ⟨by rw [getO, HFF.out]; simp only [getF, if_pos HRT.out]; rfl, HBZ.out⟩
    · have e1 : (rn.toList == [(0 : UInt8)]) = false := by simpa using hroot
      have e2 : (rn.toList != [(0 : UInt8)]) = true := by simpa using hroot
      have HRT := Lib.hid hroot
      have KZ := Lib.hid (HC2.out.s5 (.int .i64 0) (.int .i64 0) (.int .i64 0) (.bool false) (.string ⟨#[]⟩))
      have HBZ := Lib.hid ((HB2.out).grown (grown_s5 (w2) (w.heap.size + 1) (.int .i64 0) (.int .i64 0) (.int .i64 0) (.bool false) (.string ⟨#[]⟩)) (HB2.out).size (fun k hk => by injection hk with hk; omega))
      have hbq := (Below.refl _ ((((((w2).setCell ⟨w.heap.size + 1, 0, none⟩ (.int .i64 0)).setCell ⟨w.heap.size + 1, 1, none⟩ (.int .i64 0)).setCell ⟨w.heap.size + 1, 2, none⟩ (.int .i64 0)).setCell ⟨w.heap.size + 1, 3, none⟩ (.bool false)).setCell ⟨w.heap.size + 1, 4, none⟩ (.string ⟨#[]⟩))).alloc (Nat.le_refl _) (.cells #[.string rn, .int .i64 rt, .int .i64 rc, .int .i64 ru, .string rd] 77)
      replace KZ := Lib.hid (KZ.out.below hbq)
      replace HBZ := Lib.hid (HBZ.out.trans (hbq.mono HBZ.out.size))
      clear hbq
      go_wp2
      obtain ⟨wz, hwz⟩ : ∃ x, (((((((w2).setCell ⟨w.heap.size + 1, 0, none⟩ (.int .i64 0)).setCell ⟨w.heap.size + 1, 1, none⟩ (.int .i64 0)).setCell ⟨w.heap.size + 1, 2, none⟩ (.int .i64 0)).setCell ⟨w.heap.size + 1, 3, none⟩ (.bool false)).setCell ⟨w.heap.size + 1, 4, none⟩ (.string ⟨#[]⟩)).alloc (.cells #[.string rn, .int .i64 rt, .int .i64 rc, .int .i64 ru, .string rd] 77)) = x := ⟨_, rfl⟩
      rw [hwz] at KZ HBZ ⊢
      obtain ⟨z0, z1, z2, z3, z4, _⟩ := KZ.out.u5
      refine bodyPost_ret (v := .tuple #[.agg #[.int .i64 0, .int .i64 0, .int .i64 0, .bool false, .string ⟨#[]⟩], .bool false, .int .i64 4]) (by simp [results, Try.results11, go_sem, z0, z1, z2, z3, z4]) rfl ⟨by rw [getO, HFF.out]; simp only [getF, if_neg HRT.out]; rfl, HBZ.out⟩
  | r :: r2 :: F2, HFF, hrow =>
    have hl : (keepR optN l).length ≤ xl := by
      have h1 := List.length_filter_le (fun r => !optN r) l
      have h2 := HR.out.1
      rw [keepR]; omega
    rw [HFF.out, List.length_cons, List.length_cons] at hl
    simp only [List.length_cons]
    obtain ⟨m, hm⟩ : ∃ m, F2.length + 1 + 1 = m := ⟨_, rfl⟩
    rw [hm] at hl ⊢
    have d1 := eF (a := (m : Int)) (b := 0) (by omega)
    have d2 := dT (p := (1 : Int) < (m : Int)) (by omega)
    have d3 := dT (p := 1 < m) (by omega)
    clear hrow hnil
    have KZ := Lib.hid (HC2.out.s5 (.int .i64 0) (.int .i64 0) (.int .i64 0) (.bool false) (.string ⟨#[]⟩))
    have HBZ := Lib.hid ((HB2.out).grown (grown_s5 (w2) (w.heap.size + 1) (.int .i64 0) (.int .i64 0) (.int .i64 0) (.bool false) (.string ⟨#[]⟩)) (HB2.out).size (fun k hk => by injection hk with hk; omega))
    go_wp2
    obtain ⟨wz, hwz⟩ : ∃ x, ((((((w2).setCell ⟨w.heap.size + 1, 0, none⟩ (.int .i64 0)).setCell ⟨w.heap.size + 1, 1, none⟩ (.int .i64 0)).setCell ⟨w.heap.size + 1, 2, none⟩ (.int .i64 0)).setCell ⟨w.heap.size + 1, 3, none⟩ (.bool false)).setCell ⟨w.heap.size + 1, 4, none⟩ (.string ⟨#[]⟩)) = x := ⟨_, rfl⟩
    rw [hwz] at KZ HBZ ⊢
    obtain ⟨z0, z1, z2, z3, z4, _⟩ := KZ.out.u5
    refine bodyPost_ret (v := .tuple #[.agg #[.int .i64 0, .int .i64 0, .int .i64 0, .bool false, .string ⟨#[]⟩], .bool false, .int .i64 7]) (by simp [results, Try.results11, go_sem, z0, z1, z2, z3, z4]) rfl ⟨by rw [getO, HFF.out]; rfl, HBZ.out⟩
end Go.Proofs.Ytgppkpdjpcegbaa
