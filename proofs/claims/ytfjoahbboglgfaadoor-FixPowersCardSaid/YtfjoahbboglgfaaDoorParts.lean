/- The law FixParts returns true for any two numbers. -/
import Derived.Test.YtfjoahbboglgfaaDoorSums
namespace Go.Proofs.YtfjoahbboglgfaaDoor
open Go.ChangeShapes Go.WideShapes Go.ChangeAt Go.RowKit

theorem rem_val (a b r : Int) (w : World) (h1 : -9223372036854775808 ≤ b) (h2 : b ≤ 9223372036854775807) (hb : b ≠ 0) (hr : Hid (a.tmod b = r)) :
    Calls Tryd.prog 22 #[.int .i64 a, .int .i64 b] w fun e w' => e = .returned (.tuple #[.int .i64 r, .bool true]) ∧ w = w' := by
  have h := rem_yes a b w h1 h2 hb
  rw [hr.out] at h
  exact h
theorem mod_val (a b m : Int) (w : World) (h1 : -9223372036854775808 ≤ b) (h2 : b ≤ 9223372036854775807) (hb : b ≠ 0) (hm : Hid (modV a b = m)) :
    Calls Tryd.prog 23 #[.int .i64 a, .int .i64 b] w fun e w' => e = .returned (.tuple #[.int .i64 m, .bool true]) ∧ w = w' := by
  have h := mod_yes a b w h1 h2 hb
  rw [hm.out] at h
  exact h
theorem quo_val (a b q : Int) (w : World) (h1 : -9223372036854775808 ≤ a) (h2 : a ≤ 9223372036854775807) (hb : b ≠ 0) (hne : ¬ (a = -9223372036854775808 ∧ b = -1)) (hq : Hid (a.tdiv b = q)) :
    Calls Tryd.prog 21 #[.int .i64 a, .int .i64 b] w fun e w' => e = .returned (.tuple #[.int .i64 q, .bool true]) ∧ w = w' := by
  have h := quo_yes a b w h1 h2 hb hne
  rw [hq.out] at h
  exact h
theorem same_val (A B : Option Addr) (ca cb : Nat) (a b : List Nat) (x y k : Bool) (w : World) (ha : Row w A ca a) (hb : Row w B cb b) (hla : a.length ≤ 400) (hlb : b.length ≤ 400) (hda : Canon a) (hdb : Canon b) (hk : Hid (decide (sgn x (val a) = sgn y (val b)) = k)) :
    Calls Tryd.prog 24 #[.agg #[.bool x, .slice A a.length ca], .agg #[.bool y, .slice B b.length cb]] w fun e w' => e = .returned (.bool k) ∧ Below w.heap.size w w' := by
  have h := same_any A B ca cb a b x y w ha hb hla hlb hda hdb
  rw [hk.out] at h
  exact h
theorem sum_val (A B : Option Addr) (ca cb : Nat) (a b : List Nat) (x y z : Bool) (w : World) (ha : Row w A ca a) (hb : Row w B cb b) (hla : a.length ≤ 400) (hlb : b.length ≤ 400) (hda : Canon a) (hdb : Canon b) (hz : Hid (sumSign x y (val a) (val b) = z)) :
    Calls Tryd.prog 16 #[.agg #[.bool x, .slice A a.length ca], .agg #[.bool y, .slice B b.length cb]] w fun e w' =>
      (∃ C c ds, e = .returned (.agg #[.bool z, .slice C ds.length c]) ∧ Row w' C c ds ∧ Canon ds ∧ sgn z (val ds) = sgn x (val a) + sgn y (val b) ∧ val ds ≤ val a + val b) ∧ Below w.heap.size w w' := by
  have h := sum_any A B ca cb a b x y w ha hb hla hlb hda hdb
  rw [hz.out] at h
  exact h
theorem field_0 (x : Bool) (v : Value) (w : World) : (Instr.field 24 (.agg #[.bool x, v]) 0).run Tryd.prog w = .ok (.bool x) w := by kernel_rfl

set_option maxHeartbeats 800000 in
set_option maxRecDepth 100000 in
theorem parts_zero (a : Int) (w : World) (ht : Tabs w) : Calls Tryd.prog 5 #[.int .i64 a, .int .i64 0] w fun e w' => e = .returned (.bool true) ∧ Below w.heap.size w w' := by
  go_enter Tryd.func5, Tryd.ntmps5
  go_wp2_with fail
  refine (quo_zero a _).mono ?_
  rintro e w0 ⟨rfl, rfl⟩
  go_wp2_with fail
  refine (rem_zero a _).mono ?_
  rintro e w0 ⟨rfl, rfl⟩
  go_wp2_with fail
  refine (mod_zero a _).mono ?_
  rintro e w0 ⟨rfl, rfl⟩
  go_wp2_with fail
  refine (lives_any _ ht).mono ?_
  rintro e w1 ⟨rfl, hb1⟩
  have HB := Lib.hid hb1
  clear hb1
  go_wp2_with fail
  go_ret
  exact ⟨rfl, HB.out⟩

/-- How quotient, remainder and modulus hang together. -/
theorem parts_num (a b : Int) (hb : b ≠ 0) : (a.tmod b).natAbs < b.natAbs ∧ a.tdiv b * b + a.tmod b = a ∧ (a.tmod b ≠ 0 → (a.tmod b < 0 ↔ a < 0)) ∧
    ((modV a b = a.tmod b ∧ (a.tmod b ≠ 0 → (a.tmod b < 0 ↔ b < 0))) ∨ (a.tmod b ≠ 0 ∧ modV a b = a.tmod b + b ∧ (a.tmod b < 0 ↔ ¬ b < 0))) := by
  refine ⟨tmod_bd a b hb, by rw [Int.mul_comm]; exact Int.mul_tdiv_add_tmod a b, ?_, ?_⟩
  · intro h0
    constructor
    · intro h
      rcases Int.lt_or_le a 0 with h1 | h1
      · exact h1
      · have := Int.tmod_nonneg b h1; omega
    · intro h
      have h2 : (-a).tmod b = -(a.tmod b) := Int.neg_tmod ..
      have h3 := Int.tmod_nonneg b (show (0 : Int) ≤ -a by omega)
      omega
  · unfold modV
    by_cases h : a.tmod b ≠ 0 ∧ (a.tmod b < 0 ↔ ¬ b < 0)
    · rw [if_pos h]; exact .inr ⟨h.1, rfl, h.2⟩
    · rw [if_neg h]
      refine .inl ⟨rfl, fun h0 => ?_⟩
      by_cases h1 : a.tmod b < 0 <;> by_cases h2 : b < 0
      · simp [h1, h2]
      · exact absurd ⟨h0, by simp [h1, h2]⟩ h
      · exact absurd ⟨h0, by simp [h1, h2]⟩ h
      · simp [h1, h2]

theorem sum2_len {ds : List Nat} {m n : Nat} {q b r : Int} (h : Canon ds) (hv : val ds ≤ m + n) (hm : m = q.natAbs * b.natAbs) (hn : n = r.natAbs) (hq : q.natAbs ≤ 9223372036854775808) (hb : b.natAbs ≤ 9223372036854775808) (hr : r.natAbs ≤ 9223372036854775808) : ds.length ≤ 40 :=
  canon_len h 40 (by
    have h1 : q.natAbs * b.natAbs ≤ 9223372036854775808 * 9223372036854775808 := Nat.mul_le_mul hq hb
    have h3 : (10 : Nat) ^ 40 = 10000000000000000000000000000000000000000 := by decide
    omega)

set_option maxHeartbeats 6400000 in
set_option maxRecDepth 100000 in
theorem parts_z (a b q : Int) (w : World) (ht : Tabs w) (h1 : -9223372036854775808 ≤ a) (h2 : a ≤ 9223372036854775807) (h3 : -9223372036854775808 ≤ b) (h4 : b ≤ 9223372036854775807) (hb0 : b ≠ 0) (hb0b : (b == 0) = false) (hne : Hid (¬ (a = -9223372036854775808 ∧ b = -1))) (HQUO : Hid (a.tdiv b = q)) (HBD : Hid (Int.natAbs 0 < b.natAbs)) (HBACK : Hid (q * b + 0 = a)) (hq1 : -9223372036854775808 ≤ q) (hq2 : q ≤ 9223372036854775807) (HREM : Hid (a.tmod b = 0)) (HMOD : Hid (modV a b = 0)) :
    Calls Tryd.prog 5 #[.int .i64 a, .int .i64 b] w fun e w' => e = .returned (.bool true) ∧ Below w.heap.size w w' := by
  obtain ⟨xa, HXA⟩ : ∃ x, Hid (decide (a < 0) = x) := ⟨_, rfl⟩
  obtain ⟨xb, HXB⟩ : ∃ x, Hid (decide (b < 0) = x) := ⟨_, rfl⟩
  obtain ⟨xr, HXR⟩ : ∃ x, Hid (decide ((0 : Int) < 0) = x) := ⟨_, rfl⟩
  obtain ⟨xq, HXQ⟩ : ∃ x, Hid (decide (q < 0) = x) := ⟨_, rfl⟩
  obtain ⟨z, HZ⟩ : ∃ z, Hid ((!(xq == xb)) = z) := ⟨_, rfl⟩
  have hfl0 := field_0
  have hfl1 := field_1
  go_enter Tryd.func5, Tryd.ntmps5
  go_wp2_with fail
  refine (quo_val a b q _ h1 h2 hb0 hne.out HQUO).mono ?_
  rintro e w0 ⟨rfl, rfl⟩
  go_wp2_with fail
  refine (rem_val a b 0 _ h3 h4 hb0 HREM).mono ?_
  rintro e w0 ⟨rfl, rfl⟩
  go_wp2_with fail
  refine (mod_val a b 0 _ h3 h4 hb0 HMOD).mono ?_
  rintro e w0 ⟨rfl, rfl⟩
  go_wp2_with fail
  refine (of_val 0 xr _ (by omega) (by omega) HXR).mono ?_
  rintro e w1 ⟨⟨R, cr, dr, rfl, hrr, hcr, hvr, hlr⟩, hbl⟩
  have HB := Lib.hid hbl
  have HVR := Lib.hid hvr
  clear hbl hvr
  go_wp2_with fail
  refine (of_val b xb _ h3 h4 HXB).mono ?_
  rintro e w2 ⟨⟨B, cb, db, rfl, hrb, hcb, hvb, hlb⟩, hbl⟩
  have hrr2 := hrr.below hbl
  have HB := Lib.hid (HB.out.trans (hbl.mono HB.out.size))
  have HVB := Lib.hid hvb
  clear hbl hvb hrr
  have HLT : Hid (val dr < val db) := by unfold Hid; rw [HVR.out, HVB.out]; exact HBD.out
  have hle : dr.length ≤ db.length := by
    rcases Nat.lt_or_ge db.length dr.length with h | h
    · have h9 := len_lt hcb.1 hcr h
      have h8 := HLT.out
      omega
    · exact h
  have hlB : decide (db.length < dr.length) = false := decide_eq_false (by omega)
  have HK1 : Hid (decide (sgn false (val dr) = sgn false (val db)) = false) := by
    unfold Hid
    rw [decide_eq_false_iff_not, sgn_f, sgn_f]
    have h8 := HLT.out
    omega
  have HK2 : Hid (sumSign false true (val db) (val dr) = false) := by
    unfold Hid sumSign
    rw [if_neg (by decide), if_pos (by have h8 := HLT.out; omega)]
  go_wp2_with fail
  refine (same_val R B cr cb dr db false false false _ hrr2 hrb (by omega) (by omega) hcr hcb HK1).mono ?_
  rintro e w3 ⟨rfl, hbl⟩
  have hrr3 := hrr2.below hbl
  have hrb3 := hrb.below hbl
  have HB := Lib.hid (HB.out.trans (hbl.mono HB.out.size))
  clear hbl hrr2 hrb
  by_cases hll : dr.length = db.length
  · have hlE : (((dr.length : Nat) : Int) == ((db.length : Nat) : Int)) = true := by rw [beq_iff_eq, hll]
    have HLL := Lib.hid hll
    clear hll
    go_wp2_with fail
    refine (sum_val B R cb cr db dr false true false _ hrb3 hrr3 (by omega) (by omega) hcb hcr HK2).mono ?_
    rintro e w4 ⟨⟨S0, cs0, ds0, rfl, hrs0, hcs0, hss0, hvs0⟩, hbl⟩
    have HB := Lib.hid (HB.out.trans (hbl.mono HB.out.size))
    clear hbl hrs0 hcs0 hss0 hvs0 hrb3 hrr3
    go_wp2_with fail
    refine (of_val q xq _ hq1 hq2 HXQ).mono ?_
    rintro e w5 ⟨⟨Q, cq, dq, rfl, hrq, hcq, hvq, hlq⟩, hbl⟩
    have HB := Lib.hid (HB.out.trans (hbl.mono HB.out.size))
    have HVQ := Lib.hid hvq
    clear hbl hvq
    go_wp2_with fail
    refine (of_val b xb _ h3 h4 HXB).mono ?_
    rintro e w6 ⟨⟨B2, cb2, db2, rfl, hrb2, hcb2, hvb2, hlb2⟩, hbl⟩
    have hrq6 := hrq.below hbl
    have HB := Lib.hid (HB.out.trans (hbl.mono HB.out.size))
    have HVB2 := Lib.hid hvb2
    clear hbl hvb2 hrq
    go_wp2_with fail
    refine (prod_val Q B2 cq cb2 dq db2 xq xb z _ hrq6 hrb2 (by omega) (by omega) hcq hcb2 HZ).mono ?_
    rintro e w7 ⟨⟨P, cp, dp, rfl, hrp, hcp, hvp, hlp⟩, hbl⟩
    have HB := Lib.hid (HB.out.trans (hbl.mono HB.out.size))
    have HSP : Hid (sgn z (val dp) = q * b) := by
      unfold Hid
      rw [hvp, HVQ.out, HVB2.out, ← HZ.out, sgn_mul, sgn_of HXQ.out, sgn_of HXB.out]
    have HVP : Hid (val dp = q.natAbs * b.natAbs) := by unfold Hid; rw [hvp, HVQ.out, HVB2.out]
    clear hbl hvp hrq6 hrb2
    go_wp2_with fail
    refine (of_val 0 xr _ (by omega) (by omega) HXR).mono ?_
    rintro e w8 ⟨⟨R2, cr2, dr2, rfl, hrr2, hcr2, hvr2, hlr2⟩, hbl⟩
    have hrp8 := hrp.below hbl
    have HB := Lib.hid (HB.out.trans (hbl.mono HB.out.size))
    have HVR2 := Lib.hid hvr2
    clear hbl hvr2 hrp
    go_wp2_with fail
    refine (sum_any P R2 cp cr2 dp dr2 z xr _ hrp8 hrr2 (by omega) (by omega) hcp hcr2).mono ?_
    rintro e w9 ⟨⟨S, cs, ds, rfl, hrs, hcs, hss, hvs⟩, hbl⟩
    have HB := Lib.hid (HB.out.trans (hbl.mono HB.out.size))
    have HSS : Hid (sgn (sumSign z xr (val dp) (val dr2)) (val ds) = a) := by
      unfold Hid
      rw [hss, HSP.out, HVR2.out, sgn_of HXR.out, HBACK.out]
    have hls := sum2_len hcs hvs HVP.out HVR2.out (by omega) (by omega) (by omega)
    obtain ⟨sb, HSB⟩ : ∃ sb, Hid (sumSign z xr (val dp) (val dr2) = sb) := ⟨_, rfl⟩
    rw [HSB.out] at HSS
    rw [HSB.out]
    clear hbl hss hvs hrp8 hrr2
    go_wp2_with fail
    have HW := Lib.hid (HB.out.trans (((Below.refl w9.heap.size w9).alloc (Nat.le_refl _) (.cells #[.bool sb, .slice S ds.length cs] 24)).mono HB.out.size))
    have hsW := Lib.hid (hrs.below ((Below.refl w9.heap.size w9).alloc (Nat.le_refl _) (.cells #[.bool sb, .slice S ds.length cs] 24)))
    have E5 : Hid (NumBlk (w9.alloc (.cells #[.bool sb, .slice S ds.length cs] 24)) w9.heap.size sb S ds.length cs) := Lib.hid (heap_alloc_new w9 (.cells #[.bool sb, .slice S ds.length cs] 24))
    clear hrs
    generalize (w9.alloc (.cells #[.bool sb, .slice S ds.length cs] 24)) = W at *
    generalize w9.heap.size = p at *
    have m0 := E5.out.c0
    have m1 := E5.out.c1
    have HB := Lib.hid (Below.refl W.heap.size W)
    go_region_held3 (fun w' => w'.cell? ⟨p, 0, none⟩ = some (.bool sb) ∧ w'.cell? ⟨p, 1, none⟩ = some (.slice S ds.length cs))
      (go_keep)
      (first
        | (go_at_call 10; refine (of_val a xa _ h1 h2 HXA).mono ?_; rintro e wa ⟨⟨A, ca, da, rfl, hra, hca, hva, hla⟩, hbl⟩; have HB := Lib.hid (by first | exact HB.out.trans (hbl.mono HB.out.size) | exact HB.out.drew.trans (hbl.mono HB.out.size) | exact (below_drewN HB.out _).trans (hbl.mono HB.out.size)); have m0 := (E5.out.below HB.out).c0; have m1 := (E5.out.below HB.out).c1; clear hbl; have HVA := Lib.hid hva; clear hva)
        | (go_at_call 24; refine (same_val S A cs ca ds da sb xa true _ (by first | exact hsW.out.below HB.out | exact hsW.out.below HB.out.drew | exact hsW.out.below (below_drewN HB.out _)) (by exact hra) (by omega) (by omega) hcs hca (by unfold Hid; rw [HSS.out, HVA.out, sgn_of HXA.out]; simp)).mono ?_; rintro e wa ⟨rfl, hbl⟩; have HB := Lib.hid (by first | exact HB.out.trans (hbl.mono HB.out.size) | exact HB.out.drew.trans (hbl.mono HB.out.size) | exact (below_drewN HB.out _).trans (hbl.mono HB.out.size)); have m0 := (E5.out.below HB.out).c0; have m1 := (E5.out.below HB.out).c1; clear hbl)
        | (go_at_call 18; refine (lives_any _ (ht.below (by first | exact HW.out.trans (HB.out.mono HW.out.size) | exact (HW.out.trans (HB.out.mono HW.out.size)).drew))).mono ?_; rintro e wa ⟨rfl, hbl⟩; have HB := Lib.hid (by first | exact HB.out.trans (hbl.mono HB.out.size) | exact HB.out.drew.trans (hbl.mono HB.out.size) | exact (below_drewN HB.out _).trans (hbl.mono HB.out.size)); have m0 := (E5.out.below HB.out).c0; have m1 := (E5.out.below HB.out).c1; clear hbl))
    go_wp2_with fail
    go_ret
    exact ⟨rfl, by first | exact HW.out.trans (HB.out.mono HW.out.size) | exact (HW.out.trans (HB.out.mono HW.out.size)).drew⟩
  · have hlE : (((dr.length : Nat) : Int) == ((db.length : Nat) : Int)) = false := beq_eq_false_iff_ne.2 (by omega)
    clear hrb3 hrr3
    go_wp2_with fail
    refine (of_val q xq _ hq1 hq2 HXQ).mono ?_
    rintro e w5 ⟨⟨Q, cq, dq, rfl, hrq, hcq, hvq, hlq⟩, hbl⟩
    have HB := Lib.hid (HB.out.trans (hbl.mono HB.out.size))
    have HVQ := Lib.hid hvq
    clear hbl hvq
    go_wp2_with fail
    refine (of_val b xb _ h3 h4 HXB).mono ?_
    rintro e w6 ⟨⟨B2, cb2, db2, rfl, hrb2, hcb2, hvb2, hlb2⟩, hbl⟩
    have hrq6 := hrq.below hbl
    have HB := Lib.hid (HB.out.trans (hbl.mono HB.out.size))
    have HVB2 := Lib.hid hvb2
    clear hbl hvb2 hrq
    go_wp2_with fail
    refine (prod_val Q B2 cq cb2 dq db2 xq xb z _ hrq6 hrb2 (by omega) (by omega) hcq hcb2 HZ).mono ?_
    rintro e w7 ⟨⟨P, cp, dp, rfl, hrp, hcp, hvp, hlp⟩, hbl⟩
    have HB := Lib.hid (HB.out.trans (hbl.mono HB.out.size))
    have HSP : Hid (sgn z (val dp) = q * b) := by
      unfold Hid
      rw [hvp, HVQ.out, HVB2.out, ← HZ.out, sgn_mul, sgn_of HXQ.out, sgn_of HXB.out]
    have HVP : Hid (val dp = q.natAbs * b.natAbs) := by unfold Hid; rw [hvp, HVQ.out, HVB2.out]
    clear hbl hvp hrq6 hrb2
    go_wp2_with fail
    refine (of_val 0 xr _ (by omega) (by omega) HXR).mono ?_
    rintro e w8 ⟨⟨R2, cr2, dr2, rfl, hrr2, hcr2, hvr2, hlr2⟩, hbl⟩
    have hrp8 := hrp.below hbl
    have HB := Lib.hid (HB.out.trans (hbl.mono HB.out.size))
    have HVR2 := Lib.hid hvr2
    clear hbl hvr2 hrp
    go_wp2_with fail
    refine (sum_any P R2 cp cr2 dp dr2 z xr _ hrp8 hrr2 (by omega) (by omega) hcp hcr2).mono ?_
    rintro e w9 ⟨⟨S, cs, ds, rfl, hrs, hcs, hss, hvs⟩, hbl⟩
    have HB := Lib.hid (HB.out.trans (hbl.mono HB.out.size))
    have HSS : Hid (sgn (sumSign z xr (val dp) (val dr2)) (val ds) = a) := by
      unfold Hid
      rw [hss, HSP.out, HVR2.out, sgn_of HXR.out, HBACK.out]
    have hls := sum2_len hcs hvs HVP.out HVR2.out (by omega) (by omega) (by omega)
    obtain ⟨sb, HSB⟩ : ∃ sb, Hid (sumSign z xr (val dp) (val dr2) = sb) := ⟨_, rfl⟩
    rw [HSB.out] at HSS
    rw [HSB.out]
    clear hbl hss hvs hrp8 hrr2
    go_wp2_with fail
    have HW := Lib.hid (HB.out.trans (((Below.refl w9.heap.size w9).alloc (Nat.le_refl _) (.cells #[.bool sb, .slice S ds.length cs] 24)).mono HB.out.size))
    have hsW := Lib.hid (hrs.below ((Below.refl w9.heap.size w9).alloc (Nat.le_refl _) (.cells #[.bool sb, .slice S ds.length cs] 24)))
    have E5 : Hid (NumBlk (w9.alloc (.cells #[.bool sb, .slice S ds.length cs] 24)) w9.heap.size sb S ds.length cs) := Lib.hid (heap_alloc_new w9 (.cells #[.bool sb, .slice S ds.length cs] 24))
    clear hrs
    generalize (w9.alloc (.cells #[.bool sb, .slice S ds.length cs] 24)) = W at *
    generalize w9.heap.size = p at *
    have m0 := E5.out.c0
    have m1 := E5.out.c1
    have HB := Lib.hid (Below.refl W.heap.size W)
    go_region_held3 (fun w' => w'.cell? ⟨p, 0, none⟩ = some (.bool sb) ∧ w'.cell? ⟨p, 1, none⟩ = some (.slice S ds.length cs))
      (go_keep)
      (first
        | (go_at_call 10; refine (of_val a xa _ h1 h2 HXA).mono ?_; rintro e wa ⟨⟨A, ca, da, rfl, hra, hca, hva, hla⟩, hbl⟩; have HB := Lib.hid (by first | exact HB.out.trans (hbl.mono HB.out.size) | exact HB.out.drew.trans (hbl.mono HB.out.size) | exact (below_drewN HB.out _).trans (hbl.mono HB.out.size)); have m0 := (E5.out.below HB.out).c0; have m1 := (E5.out.below HB.out).c1; clear hbl; have HVA := Lib.hid hva; clear hva)
        | (go_at_call 24; refine (same_val S A cs ca ds da sb xa true _ (by first | exact hsW.out.below HB.out | exact hsW.out.below HB.out.drew | exact hsW.out.below (below_drewN HB.out _)) (by exact hra) (by omega) (by omega) hcs hca (by unfold Hid; rw [HSS.out, HVA.out, sgn_of HXA.out]; simp)).mono ?_; rintro e wa ⟨rfl, hbl⟩; have HB := Lib.hid (by first | exact HB.out.trans (hbl.mono HB.out.size) | exact HB.out.drew.trans (hbl.mono HB.out.size) | exact (below_drewN HB.out _).trans (hbl.mono HB.out.size)); have m0 := (E5.out.below HB.out).c0; have m1 := (E5.out.below HB.out).c1; clear hbl)
        | (go_at_call 18; refine (lives_any _ (ht.below (by first | exact HW.out.trans (HB.out.mono HW.out.size) | exact (HW.out.trans (HB.out.mono HW.out.size)).drew))).mono ?_; rintro e wa ⟨rfl, hbl⟩; have HB := Lib.hid (by first | exact HB.out.trans (hbl.mono HB.out.size) | exact HB.out.drew.trans (hbl.mono HB.out.size) | exact (below_drewN HB.out _).trans (hbl.mono HB.out.size)); have m0 := (E5.out.below HB.out).c0; have m1 := (E5.out.below HB.out).c1; clear hbl))
    go_wp2_with fail
    go_ret
    exact ⟨rfl, by first | exact HW.out.trans (HB.out.mono HW.out.size) | exact (HW.out.trans (HB.out.mono HW.out.size)).drew⟩

set_option maxHeartbeats 6400000 in
set_option maxRecDepth 100000 in
theorem parts_e (a b q r : Int) (w : World) (ht : Tabs w) (h1 : -9223372036854775808 ≤ a) (h2 : a ≤ 9223372036854775807) (h3 : -9223372036854775808 ≤ b) (h4 : b ≤ 9223372036854775807) (hb0 : b ≠ 0) (hb0b : (b == 0) = false) (hne : Hid (¬ (a = -9223372036854775808 ∧ b = -1))) (HQUO : Hid (a.tdiv b = q)) (HBD : Hid (Int.natAbs r < b.natAbs)) (HBACK : Hid (q * b + r = a)) (hq1 : -9223372036854775808 ≤ q) (hq2 : q ≤ 9223372036854775807) (hr1 : -9223372036854775808 ≤ r) (hr2 : r ≤ 9223372036854775807) (hr0 : (r != 0) = true) (s : Bool) (hs1 : decide (r < 0) = s) (hs2 : decide (a < 0) = s) (hs3 : decide (b < 0) = s) (HREM : Hid (a.tmod b = r)) (HMOD : Hid (modV a b = r)) :
    Calls Tryd.prog 5 #[.int .i64 a, .int .i64 b] w fun e w' => e = .returned (.bool true) ∧ Below w.heap.size w w' := by
  obtain ⟨xa, HXA⟩ : ∃ x, Hid (decide (a < 0) = x) := ⟨_, rfl⟩
  obtain ⟨xb, HXB⟩ : ∃ x, Hid (decide (b < 0) = x) := ⟨_, rfl⟩
  obtain ⟨xr, HXR⟩ : ∃ x, Hid (decide ((r : Int) < 0) = x) := ⟨_, rfl⟩
  obtain ⟨xq, HXQ⟩ : ∃ x, Hid (decide (q < 0) = x) := ⟨_, rfl⟩
  obtain ⟨z, HZ⟩ : ∃ z, Hid ((!(xq == xb)) = z) := ⟨_, rfl⟩
  have hfl0 := field_0
  have hfl1 := field_1
  go_enter Tryd.func5, Tryd.ntmps5
  go_wp2_with fail
  refine (quo_val a b q _ h1 h2 hb0 hne.out HQUO).mono ?_
  rintro e w0 ⟨rfl, rfl⟩
  go_wp2_with fail
  refine (rem_val a b r _ h3 h4 hb0 HREM).mono ?_
  rintro e w0 ⟨rfl, rfl⟩
  go_wp2_with fail
  refine (mod_val a b r _ h3 h4 hb0 HMOD).mono ?_
  rintro e w0 ⟨rfl, rfl⟩
  go_wp2_with fail
  refine (of_val r xr _ hr1 hr2 HXR).mono ?_
  rintro e w1 ⟨⟨R, cr, dr, rfl, hrr, hcr, hvr, hlr⟩, hbl⟩
  have HB := Lib.hid hbl
  have HVR := Lib.hid hvr
  clear hbl hvr
  go_wp2_with fail
  refine (of_val b xb _ h3 h4 HXB).mono ?_
  rintro e w2 ⟨⟨B, cb, db, rfl, hrb, hcb, hvb, hlb⟩, hbl⟩
  have hrr2 := hrr.below hbl
  have HB := Lib.hid (HB.out.trans (hbl.mono HB.out.size))
  have HVB := Lib.hid hvb
  clear hbl hvb hrr
  have HLT : Hid (val dr < val db) := by unfold Hid; rw [HVR.out, HVB.out]; exact HBD.out
  have hle : dr.length ≤ db.length := by
    rcases Nat.lt_or_ge db.length dr.length with h | h
    · have h9 := len_lt hcb.1 hcr h
      have h8 := HLT.out
      omega
    · exact h
  have hlB : decide (db.length < dr.length) = false := decide_eq_false (by omega)
  have HK1 : Hid (decide (sgn false (val dr) = sgn false (val db)) = false) := by
    unfold Hid
    rw [decide_eq_false_iff_not, sgn_f, sgn_f]
    have h8 := HLT.out
    omega
  have HK2 : Hid (sumSign false true (val db) (val dr) = false) := by
    unfold Hid sumSign
    rw [if_neg (by decide), if_pos (by have h8 := HLT.out; omega)]
  go_wp2_with fail
  refine (same_val R B cr cb dr db false false false _ hrr2 hrb (by omega) (by omega) hcr hcb HK1).mono ?_
  rintro e w3 ⟨rfl, hbl⟩
  have hrr3 := hrr2.below hbl
  have hrb3 := hrb.below hbl
  have HB := Lib.hid (HB.out.trans (hbl.mono HB.out.size))
  clear hbl hrr2 hrb
  by_cases hll : dr.length = db.length
  · have hlE : (((dr.length : Nat) : Int) == ((db.length : Nat) : Int)) = true := by rw [beq_iff_eq, hll]
    have HLL := Lib.hid hll
    clear hll
    go_wp2_with fail
    refine (sum_val B R cb cr db dr false true false _ hrb3 hrr3 (by omega) (by omega) hcb hcr HK2).mono ?_
    rintro e w4 ⟨⟨S0, cs0, ds0, rfl, hrs0, hcs0, hss0, hvs0⟩, hbl⟩
    have HB := Lib.hid (HB.out.trans (hbl.mono HB.out.size))
    clear hbl hrs0 hcs0 hss0 hvs0 hrb3 hrr3
    go_wp2_with fail
    refine (of_val q xq _ hq1 hq2 HXQ).mono ?_
    rintro e w5 ⟨⟨Q, cq, dq, rfl, hrq, hcq, hvq, hlq⟩, hbl⟩
    have HB := Lib.hid (HB.out.trans (hbl.mono HB.out.size))
    have HVQ := Lib.hid hvq
    clear hbl hvq
    go_wp2_with fail
    refine (of_val b xb _ h3 h4 HXB).mono ?_
    rintro e w6 ⟨⟨B2, cb2, db2, rfl, hrb2, hcb2, hvb2, hlb2⟩, hbl⟩
    have hrq6 := hrq.below hbl
    have HB := Lib.hid (HB.out.trans (hbl.mono HB.out.size))
    have HVB2 := Lib.hid hvb2
    clear hbl hvb2 hrq
    go_wp2_with fail
    refine (prod_val Q B2 cq cb2 dq db2 xq xb z _ hrq6 hrb2 (by omega) (by omega) hcq hcb2 HZ).mono ?_
    rintro e w7 ⟨⟨P, cp, dp, rfl, hrp, hcp, hvp, hlp⟩, hbl⟩
    have HB := Lib.hid (HB.out.trans (hbl.mono HB.out.size))
    have HSP : Hid (sgn z (val dp) = q * b) := by
      unfold Hid
      rw [hvp, HVQ.out, HVB2.out, ← HZ.out, sgn_mul, sgn_of HXQ.out, sgn_of HXB.out]
    have HVP : Hid (val dp = q.natAbs * b.natAbs) := by unfold Hid; rw [hvp, HVQ.out, HVB2.out]
    clear hbl hvp hrq6 hrb2
    go_wp2_with fail
    refine (of_val r xr _ hr1 hr2 HXR).mono ?_
    rintro e w8 ⟨⟨R2, cr2, dr2, rfl, hrr2, hcr2, hvr2, hlr2⟩, hbl⟩
    have hrp8 := hrp.below hbl
    have HB := Lib.hid (HB.out.trans (hbl.mono HB.out.size))
    have HVR2 := Lib.hid hvr2
    clear hbl hvr2 hrp
    go_wp2_with fail
    refine (sum_any P R2 cp cr2 dp dr2 z xr _ hrp8 hrr2 (by omega) (by omega) hcp hcr2).mono ?_
    rintro e w9 ⟨⟨S, cs, ds, rfl, hrs, hcs, hss, hvs⟩, hbl⟩
    have HB := Lib.hid (HB.out.trans (hbl.mono HB.out.size))
    have HSS : Hid (sgn (sumSign z xr (val dp) (val dr2)) (val ds) = a) := by
      unfold Hid
      rw [hss, HSP.out, HVR2.out, sgn_of HXR.out, HBACK.out]
    have hls := sum2_len hcs hvs HVP.out HVR2.out (by omega) (by omega) (by omega)
    obtain ⟨sb, HSB⟩ : ∃ sb, Hid (sumSign z xr (val dp) (val dr2) = sb) := ⟨_, rfl⟩
    rw [HSB.out] at HSS
    rw [HSB.out]
    clear hbl hss hvs hrp8 hrr2
    go_wp2_with fail
    have HW := Lib.hid (HB.out.trans (((Below.refl w9.heap.size w9).alloc (Nat.le_refl _) (.cells #[.bool sb, .slice S ds.length cs] 24)).mono HB.out.size))
    have hsW := Lib.hid (hrs.below ((Below.refl w9.heap.size w9).alloc (Nat.le_refl _) (.cells #[.bool sb, .slice S ds.length cs] 24)))
    have E5 : Hid (NumBlk (w9.alloc (.cells #[.bool sb, .slice S ds.length cs] 24)) w9.heap.size sb S ds.length cs) := Lib.hid (heap_alloc_new w9 (.cells #[.bool sb, .slice S ds.length cs] 24))
    clear hrs
    generalize (w9.alloc (.cells #[.bool sb, .slice S ds.length cs] 24)) = W at *
    generalize w9.heap.size = p at *
    have m0 := E5.out.c0
    have m1 := E5.out.c1
    have HB := Lib.hid (Below.refl W.heap.size W)
    go_region_held3 (fun w' => w'.cell? ⟨p, 0, none⟩ = some (.bool sb) ∧ w'.cell? ⟨p, 1, none⟩ = some (.slice S ds.length cs))
      (go_keep)
      (first
        | (go_at_call 10; refine (of_val a xa _ h1 h2 HXA).mono ?_; rintro e wa ⟨⟨A, ca, da, rfl, hra, hca, hva, hla⟩, hbl⟩; have HB := Lib.hid (by first | exact HB.out.trans (hbl.mono HB.out.size) | exact HB.out.drew.trans (hbl.mono HB.out.size) | exact (below_drewN HB.out _).trans (hbl.mono HB.out.size)); have m0 := (E5.out.below HB.out).c0; have m1 := (E5.out.below HB.out).c1; clear hbl; have HVA := Lib.hid hva; clear hva)
        | (go_at_call 24; refine (same_val S A cs ca ds da sb xa true _ (by first | exact hsW.out.below HB.out | exact hsW.out.below HB.out.drew | exact hsW.out.below (below_drewN HB.out _)) (by exact hra) (by omega) (by omega) hcs hca (by unfold Hid; rw [HSS.out, HVA.out, sgn_of HXA.out]; simp)).mono ?_; rintro e wa ⟨rfl, hbl⟩; have HB := Lib.hid (by first | exact HB.out.trans (hbl.mono HB.out.size) | exact HB.out.drew.trans (hbl.mono HB.out.size) | exact (below_drewN HB.out _).trans (hbl.mono HB.out.size)); have m0 := (E5.out.below HB.out).c0; have m1 := (E5.out.below HB.out).c1; clear hbl)
        | (go_at_call 18; refine (lives_any _ (ht.below (by first | exact HW.out.trans (HB.out.mono HW.out.size) | exact (HW.out.trans (HB.out.mono HW.out.size)).drew))).mono ?_; rintro e wa ⟨rfl, hbl⟩; have HB := Lib.hid (by first | exact HB.out.trans (hbl.mono HB.out.size) | exact HB.out.drew.trans (hbl.mono HB.out.size) | exact (below_drewN HB.out _).trans (hbl.mono HB.out.size)); have m0 := (E5.out.below HB.out).c0; have m1 := (E5.out.below HB.out).c1; clear hbl))
    go_wp2_with fail
    go_ret
    exact ⟨rfl, by first | exact HW.out.trans (HB.out.mono HW.out.size) | exact (HW.out.trans (HB.out.mono HW.out.size)).drew⟩
  · have hlE : (((dr.length : Nat) : Int) == ((db.length : Nat) : Int)) = false := beq_eq_false_iff_ne.2 (by omega)
    clear hrb3 hrr3
    go_wp2_with fail
    refine (of_val q xq _ hq1 hq2 HXQ).mono ?_
    rintro e w5 ⟨⟨Q, cq, dq, rfl, hrq, hcq, hvq, hlq⟩, hbl⟩
    have HB := Lib.hid (HB.out.trans (hbl.mono HB.out.size))
    have HVQ := Lib.hid hvq
    clear hbl hvq
    go_wp2_with fail
    refine (of_val b xb _ h3 h4 HXB).mono ?_
    rintro e w6 ⟨⟨B2, cb2, db2, rfl, hrb2, hcb2, hvb2, hlb2⟩, hbl⟩
    have hrq6 := hrq.below hbl
    have HB := Lib.hid (HB.out.trans (hbl.mono HB.out.size))
    have HVB2 := Lib.hid hvb2
    clear hbl hvb2 hrq
    go_wp2_with fail
    refine (prod_val Q B2 cq cb2 dq db2 xq xb z _ hrq6 hrb2 (by omega) (by omega) hcq hcb2 HZ).mono ?_
    rintro e w7 ⟨⟨P, cp, dp, rfl, hrp, hcp, hvp, hlp⟩, hbl⟩
    have HB := Lib.hid (HB.out.trans (hbl.mono HB.out.size))
    have HSP : Hid (sgn z (val dp) = q * b) := by
      unfold Hid
      rw [hvp, HVQ.out, HVB2.out, ← HZ.out, sgn_mul, sgn_of HXQ.out, sgn_of HXB.out]
    have HVP : Hid (val dp = q.natAbs * b.natAbs) := by unfold Hid; rw [hvp, HVQ.out, HVB2.out]
    clear hbl hvp hrq6 hrb2
    go_wp2_with fail
    refine (of_val r xr _ hr1 hr2 HXR).mono ?_
    rintro e w8 ⟨⟨R2, cr2, dr2, rfl, hrr2, hcr2, hvr2, hlr2⟩, hbl⟩
    have hrp8 := hrp.below hbl
    have HB := Lib.hid (HB.out.trans (hbl.mono HB.out.size))
    have HVR2 := Lib.hid hvr2
    clear hbl hvr2 hrp
    go_wp2_with fail
    refine (sum_any P R2 cp cr2 dp dr2 z xr _ hrp8 hrr2 (by omega) (by omega) hcp hcr2).mono ?_
    rintro e w9 ⟨⟨S, cs, ds, rfl, hrs, hcs, hss, hvs⟩, hbl⟩
    have HB := Lib.hid (HB.out.trans (hbl.mono HB.out.size))
    have HSS : Hid (sgn (sumSign z xr (val dp) (val dr2)) (val ds) = a) := by
      unfold Hid
      rw [hss, HSP.out, HVR2.out, sgn_of HXR.out, HBACK.out]
    have hls := sum2_len hcs hvs HVP.out HVR2.out (by omega) (by omega) (by omega)
    obtain ⟨sb, HSB⟩ : ∃ sb, Hid (sumSign z xr (val dp) (val dr2) = sb) := ⟨_, rfl⟩
    rw [HSB.out] at HSS
    rw [HSB.out]
    clear hbl hss hvs hrp8 hrr2
    go_wp2_with fail
    have HW := Lib.hid (HB.out.trans (((Below.refl w9.heap.size w9).alloc (Nat.le_refl _) (.cells #[.bool sb, .slice S ds.length cs] 24)).mono HB.out.size))
    have hsW := Lib.hid (hrs.below ((Below.refl w9.heap.size w9).alloc (Nat.le_refl _) (.cells #[.bool sb, .slice S ds.length cs] 24)))
    have E5 : Hid (NumBlk (w9.alloc (.cells #[.bool sb, .slice S ds.length cs] 24)) w9.heap.size sb S ds.length cs) := Lib.hid (heap_alloc_new w9 (.cells #[.bool sb, .slice S ds.length cs] 24))
    clear hrs
    generalize (w9.alloc (.cells #[.bool sb, .slice S ds.length cs] 24)) = W at *
    generalize w9.heap.size = p at *
    have m0 := E5.out.c0
    have m1 := E5.out.c1
    have HB := Lib.hid (Below.refl W.heap.size W)
    go_region_held3 (fun w' => w'.cell? ⟨p, 0, none⟩ = some (.bool sb) ∧ w'.cell? ⟨p, 1, none⟩ = some (.slice S ds.length cs))
      (go_keep)
      (first
        | (go_at_call 10; refine (of_val a xa _ h1 h2 HXA).mono ?_; rintro e wa ⟨⟨A, ca, da, rfl, hra, hca, hva, hla⟩, hbl⟩; have HB := Lib.hid (by first | exact HB.out.trans (hbl.mono HB.out.size) | exact HB.out.drew.trans (hbl.mono HB.out.size) | exact (below_drewN HB.out _).trans (hbl.mono HB.out.size)); have m0 := (E5.out.below HB.out).c0; have m1 := (E5.out.below HB.out).c1; clear hbl; have HVA := Lib.hid hva; clear hva)
        | (go_at_call 24; refine (same_val S A cs ca ds da sb xa true _ (by first | exact hsW.out.below HB.out | exact hsW.out.below HB.out.drew | exact hsW.out.below (below_drewN HB.out _)) (by exact hra) (by omega) (by omega) hcs hca (by unfold Hid; rw [HSS.out, HVA.out, sgn_of HXA.out]; simp)).mono ?_; rintro e wa ⟨rfl, hbl⟩; have HB := Lib.hid (by first | exact HB.out.trans (hbl.mono HB.out.size) | exact HB.out.drew.trans (hbl.mono HB.out.size) | exact (below_drewN HB.out _).trans (hbl.mono HB.out.size)); have m0 := (E5.out.below HB.out).c0; have m1 := (E5.out.below HB.out).c1; clear hbl)
        | (go_at_call 18; refine (lives_any _ (ht.below (by first | exact HW.out.trans (HB.out.mono HW.out.size) | exact (HW.out.trans (HB.out.mono HW.out.size)).drew))).mono ?_; rintro e wa ⟨rfl, hbl⟩; have HB := Lib.hid (by first | exact HB.out.trans (hbl.mono HB.out.size) | exact HB.out.drew.trans (hbl.mono HB.out.size) | exact (below_drewN HB.out _).trans (hbl.mono HB.out.size)); have m0 := (E5.out.below HB.out).c0; have m1 := (E5.out.below HB.out).c1; clear hbl))
    go_wp2_with fail
    go_ret
    exact ⟨rfl, by first | exact HW.out.trans (HB.out.mono HW.out.size) | exact (HW.out.trans (HB.out.mono HW.out.size)).drew⟩

set_option maxHeartbeats 6400000 in
set_option maxRecDepth 100000 in
theorem parts_d (a b q r m : Int) (w : World) (ht : Tabs w) (h1 : -9223372036854775808 ≤ a) (h2 : a ≤ 9223372036854775807) (h3 : -9223372036854775808 ≤ b) (h4 : b ≤ 9223372036854775807) (hb0 : b ≠ 0) (hb0b : (b == 0) = false) (hne : Hid (¬ (a = -9223372036854775808 ∧ b = -1))) (HQUO : Hid (a.tdiv b = q)) (HBD : Hid (Int.natAbs r < b.natAbs)) (HBACK : Hid (q * b + r = a)) (hq1 : -9223372036854775808 ≤ q) (hq2 : q ≤ 9223372036854775807) (hr1 : -9223372036854775808 ≤ r) (hr2 : r ≤ 9223372036854775807) (hr0 : (r != 0) = true) (s : Bool) (hs1 : decide (r < 0) = s) (hs2 : decide (a < 0) = s) (hm0 : (m != 0) = true) (hmr : (m != r) = true) (hmd : m - r = b) (t : Bool) (ht1 : decide (m < 0) = t) (ht2 : decide (b < 0) = t) (HREM : Hid (a.tmod b = r)) (HMOD : Hid (modV a b = m)) :
    Calls Tryd.prog 5 #[.int .i64 a, .int .i64 b] w fun e w' => e = .returned (.bool true) ∧ Below w.heap.size w w' := by
  obtain ⟨xa, HXA⟩ : ∃ x, Hid (decide (a < 0) = x) := ⟨_, rfl⟩
  obtain ⟨xb, HXB⟩ : ∃ x, Hid (decide (b < 0) = x) := ⟨_, rfl⟩
  obtain ⟨xr, HXR⟩ : ∃ x, Hid (decide ((r : Int) < 0) = x) := ⟨_, rfl⟩
  obtain ⟨xq, HXQ⟩ : ∃ x, Hid (decide (q < 0) = x) := ⟨_, rfl⟩
  obtain ⟨z, HZ⟩ : ∃ z, Hid ((!(xq == xb)) = z) := ⟨_, rfl⟩
  have hfl0 := field_0
  have hfl1 := field_1
  go_enter Tryd.func5, Tryd.ntmps5
  go_wp2_with fail
  refine (quo_val a b q _ h1 h2 hb0 hne.out HQUO).mono ?_
  rintro e w0 ⟨rfl, rfl⟩
  go_wp2_with fail
  refine (rem_val a b r _ h3 h4 hb0 HREM).mono ?_
  rintro e w0 ⟨rfl, rfl⟩
  go_wp2_with fail
  refine (mod_val a b m _ h3 h4 hb0 HMOD).mono ?_
  rintro e w0 ⟨rfl, rfl⟩
  go_wp2_with fail
  refine (of_val r xr _ hr1 hr2 HXR).mono ?_
  rintro e w1 ⟨⟨R, cr, dr, rfl, hrr, hcr, hvr, hlr⟩, hbl⟩
  have HB := Lib.hid hbl
  have HVR := Lib.hid hvr
  clear hbl hvr
  go_wp2_with fail
  refine (of_val b xb _ h3 h4 HXB).mono ?_
  rintro e w2 ⟨⟨B, cb, db, rfl, hrb, hcb, hvb, hlb⟩, hbl⟩
  have hrr2 := hrr.below hbl
  have HB := Lib.hid (HB.out.trans (hbl.mono HB.out.size))
  have HVB := Lib.hid hvb
  clear hbl hvb hrr
  have HLT : Hid (val dr < val db) := by unfold Hid; rw [HVR.out, HVB.out]; exact HBD.out
  have hle : dr.length ≤ db.length := by
    rcases Nat.lt_or_ge db.length dr.length with h | h
    · have h9 := len_lt hcb.1 hcr h
      have h8 := HLT.out
      omega
    · exact h
  have hlB : decide (db.length < dr.length) = false := decide_eq_false (by omega)
  have HK1 : Hid (decide (sgn false (val dr) = sgn false (val db)) = false) := by
    unfold Hid
    rw [decide_eq_false_iff_not, sgn_f, sgn_f]
    have h8 := HLT.out
    omega
  have HK2 : Hid (sumSign false true (val db) (val dr) = false) := by
    unfold Hid sumSign
    rw [if_neg (by decide), if_pos (by have h8 := HLT.out; omega)]
  go_wp2_with fail
  refine (same_val R B cr cb dr db false false false _ hrr2 hrb (by omega) (by omega) hcr hcb HK1).mono ?_
  rintro e w3 ⟨rfl, hbl⟩
  have hrr3 := hrr2.below hbl
  have hrb3 := hrb.below hbl
  have HB := Lib.hid (HB.out.trans (hbl.mono HB.out.size))
  clear hbl hrr2 hrb
  by_cases hll : dr.length = db.length
  · have hlE : (((dr.length : Nat) : Int) == ((db.length : Nat) : Int)) = true := by rw [beq_iff_eq, hll]
    have HLL := Lib.hid hll
    clear hll
    go_wp2_with fail
    refine (sum_val B R cb cr db dr false true false _ hrb3 hrr3 (by omega) (by omega) hcb hcr HK2).mono ?_
    rintro e w4 ⟨⟨S0, cs0, ds0, rfl, hrs0, hcs0, hss0, hvs0⟩, hbl⟩
    have HB := Lib.hid (HB.out.trans (hbl.mono HB.out.size))
    clear hbl hrs0 hcs0 hss0 hvs0 hrb3 hrr3
    go_wp2_with fail
    refine (of_val q xq _ hq1 hq2 HXQ).mono ?_
    rintro e w5 ⟨⟨Q, cq, dq, rfl, hrq, hcq, hvq, hlq⟩, hbl⟩
    have HB := Lib.hid (HB.out.trans (hbl.mono HB.out.size))
    have HVQ := Lib.hid hvq
    clear hbl hvq
    go_wp2_with fail
    refine (of_val b xb _ h3 h4 HXB).mono ?_
    rintro e w6 ⟨⟨B2, cb2, db2, rfl, hrb2, hcb2, hvb2, hlb2⟩, hbl⟩
    have hrq6 := hrq.below hbl
    have HB := Lib.hid (HB.out.trans (hbl.mono HB.out.size))
    have HVB2 := Lib.hid hvb2
    clear hbl hvb2 hrq
    go_wp2_with fail
    refine (prod_val Q B2 cq cb2 dq db2 xq xb z _ hrq6 hrb2 (by omega) (by omega) hcq hcb2 HZ).mono ?_
    rintro e w7 ⟨⟨P, cp, dp, rfl, hrp, hcp, hvp, hlp⟩, hbl⟩
    have HB := Lib.hid (HB.out.trans (hbl.mono HB.out.size))
    have HSP : Hid (sgn z (val dp) = q * b) := by
      unfold Hid
      rw [hvp, HVQ.out, HVB2.out, ← HZ.out, sgn_mul, sgn_of HXQ.out, sgn_of HXB.out]
    have HVP : Hid (val dp = q.natAbs * b.natAbs) := by unfold Hid; rw [hvp, HVQ.out, HVB2.out]
    clear hbl hvp hrq6 hrb2
    go_wp2_with fail
    refine (of_val r xr _ hr1 hr2 HXR).mono ?_
    rintro e w8 ⟨⟨R2, cr2, dr2, rfl, hrr2, hcr2, hvr2, hlr2⟩, hbl⟩
    have hrp8 := hrp.below hbl
    have HB := Lib.hid (HB.out.trans (hbl.mono HB.out.size))
    have HVR2 := Lib.hid hvr2
    clear hbl hvr2 hrp
    go_wp2_with fail
    refine (sum_any P R2 cp cr2 dp dr2 z xr _ hrp8 hrr2 (by omega) (by omega) hcp hcr2).mono ?_
    rintro e w9 ⟨⟨S, cs, ds, rfl, hrs, hcs, hss, hvs⟩, hbl⟩
    have HB := Lib.hid (HB.out.trans (hbl.mono HB.out.size))
    have HSS : Hid (sgn (sumSign z xr (val dp) (val dr2)) (val ds) = a) := by
      unfold Hid
      rw [hss, HSP.out, HVR2.out, sgn_of HXR.out, HBACK.out]
    have hls := sum2_len hcs hvs HVP.out HVR2.out (by omega) (by omega) (by omega)
    obtain ⟨sb, HSB⟩ : ∃ sb, Hid (sumSign z xr (val dp) (val dr2) = sb) := ⟨_, rfl⟩
    rw [HSB.out] at HSS
    rw [HSB.out]
    clear hbl hss hvs hrp8 hrr2
    go_wp2_with fail
    have HW := Lib.hid (HB.out.trans (((Below.refl w9.heap.size w9).alloc (Nat.le_refl _) (.cells #[.bool sb, .slice S ds.length cs] 24)).mono HB.out.size))
    have hsW := Lib.hid (hrs.below ((Below.refl w9.heap.size w9).alloc (Nat.le_refl _) (.cells #[.bool sb, .slice S ds.length cs] 24)))
    have E5 : Hid (NumBlk (w9.alloc (.cells #[.bool sb, .slice S ds.length cs] 24)) w9.heap.size sb S ds.length cs) := Lib.hid (heap_alloc_new w9 (.cells #[.bool sb, .slice S ds.length cs] 24))
    clear hrs
    generalize (w9.alloc (.cells #[.bool sb, .slice S ds.length cs] 24)) = W at *
    generalize w9.heap.size = p at *
    have m0 := E5.out.c0
    have m1 := E5.out.c1
    have HB := Lib.hid (Below.refl W.heap.size W)
    go_region_held3 (fun w' => w'.cell? ⟨p, 0, none⟩ = some (.bool sb) ∧ w'.cell? ⟨p, 1, none⟩ = some (.slice S ds.length cs))
      (go_keep)
      (first
        | (go_at_call 10; refine (of_val a xa _ h1 h2 HXA).mono ?_; rintro e wa ⟨⟨A, ca, da, rfl, hra, hca, hva, hla⟩, hbl⟩; have HB := Lib.hid (by first | exact HB.out.trans (hbl.mono HB.out.size) | exact HB.out.drew.trans (hbl.mono HB.out.size) | exact (below_drewN HB.out _).trans (hbl.mono HB.out.size)); have m0 := (E5.out.below HB.out).c0; have m1 := (E5.out.below HB.out).c1; clear hbl; have HVA := Lib.hid hva; clear hva)
        | (go_at_call 24; refine (same_val S A cs ca ds da sb xa true _ (by first | exact hsW.out.below HB.out | exact hsW.out.below HB.out.drew | exact hsW.out.below (below_drewN HB.out _)) (by exact hra) (by omega) (by omega) hcs hca (by unfold Hid; rw [HSS.out, HVA.out, sgn_of HXA.out]; simp)).mono ?_; rintro e wa ⟨rfl, hbl⟩; have HB := Lib.hid (by first | exact HB.out.trans (hbl.mono HB.out.size) | exact HB.out.drew.trans (hbl.mono HB.out.size) | exact (below_drewN HB.out _).trans (hbl.mono HB.out.size)); have m0 := (E5.out.below HB.out).c0; have m1 := (E5.out.below HB.out).c1; clear hbl)
        | (go_at_call 18; refine (lives_any _ (ht.below (by first | exact HW.out.trans (HB.out.mono HW.out.size) | exact (HW.out.trans (HB.out.mono HW.out.size)).drew))).mono ?_; rintro e wa ⟨rfl, hbl⟩; have HB := Lib.hid (by first | exact HB.out.trans (hbl.mono HB.out.size) | exact HB.out.drew.trans (hbl.mono HB.out.size) | exact (below_drewN HB.out _).trans (hbl.mono HB.out.size)); have m0 := (E5.out.below HB.out).c0; have m1 := (E5.out.below HB.out).c1; clear hbl))
    go_wp2_with fail
    go_ret
    exact ⟨rfl, by first | exact HW.out.trans (HB.out.mono HW.out.size) | exact (HW.out.trans (HB.out.mono HW.out.size)).drew⟩
  · have hlE : (((dr.length : Nat) : Int) == ((db.length : Nat) : Int)) = false := beq_eq_false_iff_ne.2 (by omega)
    clear hrb3 hrr3
    go_wp2_with fail
    refine (of_val q xq _ hq1 hq2 HXQ).mono ?_
    rintro e w5 ⟨⟨Q, cq, dq, rfl, hrq, hcq, hvq, hlq⟩, hbl⟩
    have HB := Lib.hid (HB.out.trans (hbl.mono HB.out.size))
    have HVQ := Lib.hid hvq
    clear hbl hvq
    go_wp2_with fail
    refine (of_val b xb _ h3 h4 HXB).mono ?_
    rintro e w6 ⟨⟨B2, cb2, db2, rfl, hrb2, hcb2, hvb2, hlb2⟩, hbl⟩
    have hrq6 := hrq.below hbl
    have HB := Lib.hid (HB.out.trans (hbl.mono HB.out.size))
    have HVB2 := Lib.hid hvb2
    clear hbl hvb2 hrq
    go_wp2_with fail
    refine (prod_val Q B2 cq cb2 dq db2 xq xb z _ hrq6 hrb2 (by omega) (by omega) hcq hcb2 HZ).mono ?_
    rintro e w7 ⟨⟨P, cp, dp, rfl, hrp, hcp, hvp, hlp⟩, hbl⟩
    have HB := Lib.hid (HB.out.trans (hbl.mono HB.out.size))
    have HSP : Hid (sgn z (val dp) = q * b) := by
      unfold Hid
      rw [hvp, HVQ.out, HVB2.out, ← HZ.out, sgn_mul, sgn_of HXQ.out, sgn_of HXB.out]
    have HVP : Hid (val dp = q.natAbs * b.natAbs) := by unfold Hid; rw [hvp, HVQ.out, HVB2.out]
    clear hbl hvp hrq6 hrb2
    go_wp2_with fail
    refine (of_val r xr _ hr1 hr2 HXR).mono ?_
    rintro e w8 ⟨⟨R2, cr2, dr2, rfl, hrr2, hcr2, hvr2, hlr2⟩, hbl⟩
    have hrp8 := hrp.below hbl
    have HB := Lib.hid (HB.out.trans (hbl.mono HB.out.size))
    have HVR2 := Lib.hid hvr2
    clear hbl hvr2 hrp
    go_wp2_with fail
    refine (sum_any P R2 cp cr2 dp dr2 z xr _ hrp8 hrr2 (by omega) (by omega) hcp hcr2).mono ?_
    rintro e w9 ⟨⟨S, cs, ds, rfl, hrs, hcs, hss, hvs⟩, hbl⟩
    have HB := Lib.hid (HB.out.trans (hbl.mono HB.out.size))
    have HSS : Hid (sgn (sumSign z xr (val dp) (val dr2)) (val ds) = a) := by
      unfold Hid
      rw [hss, HSP.out, HVR2.out, sgn_of HXR.out, HBACK.out]
    have hls := sum2_len hcs hvs HVP.out HVR2.out (by omega) (by omega) (by omega)
    obtain ⟨sb, HSB⟩ : ∃ sb, Hid (sumSign z xr (val dp) (val dr2) = sb) := ⟨_, rfl⟩
    rw [HSB.out] at HSS
    rw [HSB.out]
    clear hbl hss hvs hrp8 hrr2
    go_wp2_with fail
    have HW := Lib.hid (HB.out.trans (((Below.refl w9.heap.size w9).alloc (Nat.le_refl _) (.cells #[.bool sb, .slice S ds.length cs] 24)).mono HB.out.size))
    have hsW := Lib.hid (hrs.below ((Below.refl w9.heap.size w9).alloc (Nat.le_refl _) (.cells #[.bool sb, .slice S ds.length cs] 24)))
    have E5 : Hid (NumBlk (w9.alloc (.cells #[.bool sb, .slice S ds.length cs] 24)) w9.heap.size sb S ds.length cs) := Lib.hid (heap_alloc_new w9 (.cells #[.bool sb, .slice S ds.length cs] 24))
    clear hrs
    generalize (w9.alloc (.cells #[.bool sb, .slice S ds.length cs] 24)) = W at *
    generalize w9.heap.size = p at *
    have m0 := E5.out.c0
    have m1 := E5.out.c1
    have HB := Lib.hid (Below.refl W.heap.size W)
    go_region_held3 (fun w' => w'.cell? ⟨p, 0, none⟩ = some (.bool sb) ∧ w'.cell? ⟨p, 1, none⟩ = some (.slice S ds.length cs))
      (go_keep)
      (first
        | (go_at_call 10; refine (of_val a xa _ h1 h2 HXA).mono ?_; rintro e wa ⟨⟨A, ca, da, rfl, hra, hca, hva, hla⟩, hbl⟩; have HB := Lib.hid (by first | exact HB.out.trans (hbl.mono HB.out.size) | exact HB.out.drew.trans (hbl.mono HB.out.size) | exact (below_drewN HB.out _).trans (hbl.mono HB.out.size)); have m0 := (E5.out.below HB.out).c0; have m1 := (E5.out.below HB.out).c1; clear hbl; have HVA := Lib.hid hva; clear hva)
        | (go_at_call 24; refine (same_val S A cs ca ds da sb xa true _ (by first | exact hsW.out.below HB.out | exact hsW.out.below HB.out.drew | exact hsW.out.below (below_drewN HB.out _)) (by exact hra) (by omega) (by omega) hcs hca (by unfold Hid; rw [HSS.out, HVA.out, sgn_of HXA.out]; simp)).mono ?_; rintro e wa ⟨rfl, hbl⟩; have HB := Lib.hid (by first | exact HB.out.trans (hbl.mono HB.out.size) | exact HB.out.drew.trans (hbl.mono HB.out.size) | exact (below_drewN HB.out _).trans (hbl.mono HB.out.size)); have m0 := (E5.out.below HB.out).c0; have m1 := (E5.out.below HB.out).c1; clear hbl)
        | (go_at_call 18; refine (lives_any _ (ht.below (by first | exact HW.out.trans (HB.out.mono HW.out.size) | exact (HW.out.trans (HB.out.mono HW.out.size)).drew))).mono ?_; rintro e wa ⟨rfl, hbl⟩; have HB := Lib.hid (by first | exact HB.out.trans (hbl.mono HB.out.size) | exact HB.out.drew.trans (hbl.mono HB.out.size) | exact (below_drewN HB.out _).trans (hbl.mono HB.out.size)); have m0 := (E5.out.below HB.out).c0; have m1 := (E5.out.below HB.out).c1; clear hbl))
    go_wp2_with fail
    go_ret
    exact ⟨rfl, by first | exact HW.out.trans (HB.out.mono HW.out.size) | exact (HW.out.trans (HB.out.mono HW.out.size)).drew⟩

set_option maxHeartbeats 6400000 in
set_option maxRecDepth 100000 in
theorem parts_out (w : World) (ht : Tabs w) :
    Calls Tryd.prog 5 #[.int .i64 (-9223372036854775808), .int .i64 (-1)] w fun e w' => e = .returned (.bool true) ∧ Below w.heap.size w w' := by
  have h3 : (-9223372036854775808 : Int) ≤ -1 := by omega
  have h4 : (-1 : Int) ≤ 9223372036854775807 := by omega
  have hb0 : (-1 : Int) ≠ 0 := by omega
  have HBD : Hid (Int.natAbs 0 < Int.natAbs (-1)) := Lib.hid (by decide)
  have HREM : Hid (Int.tmod (-9223372036854775808) (-1) = 0) := Lib.hid (by decide)
  have HMOD : Hid (modV (-9223372036854775808) (-1) = 0) := Lib.hid (by decide)
  obtain ⟨xb, HXB⟩ : ∃ x, Hid (decide ((-1 : Int) < 0) = x) := ⟨_, rfl⟩
  obtain ⟨xr, HXR⟩ : ∃ x, Hid (decide ((0 : Int) < 0) = x) := ⟨_, rfl⟩
  have hfl0 := field_0
  have hfl1 := field_1
  go_enter Tryd.func5, Tryd.ntmps5
  go_wp2_with fail
  refine (quo_out _).mono ?_
  rintro e w0 ⟨rfl, rfl⟩
  go_wp2_with fail
  refine (rem_val (-9223372036854775808) (-1) 0 _ h3 h4 hb0 HREM).mono ?_
  rintro e w0 ⟨rfl, rfl⟩
  go_wp2_with fail
  refine (mod_val (-9223372036854775808) (-1) 0 _ h3 h4 hb0 HMOD).mono ?_
  rintro e w0 ⟨rfl, rfl⟩
  go_wp2_with fail
  refine (of_val 0 xr _ (by omega) (by omega) HXR).mono ?_
  rintro e w1 ⟨⟨R, cr, dr, rfl, hrr, hcr, hvr, hlr⟩, hbl⟩
  have HB := Lib.hid hbl
  have HVR := Lib.hid hvr
  clear hbl hvr
  go_wp2_with fail
  refine (of_val (-1) xb _ h3 h4 HXB).mono ?_
  rintro e w2 ⟨⟨B, cb, db, rfl, hrb, hcb, hvb, hlb⟩, hbl⟩
  have hrr2 := hrr.below hbl
  have HB := Lib.hid (HB.out.trans (hbl.mono HB.out.size))
  have HVB := Lib.hid hvb
  clear hbl hvb hrr
  have HLT : Hid (val dr < val db) := by unfold Hid; rw [HVR.out, HVB.out]; exact HBD.out
  have hle : dr.length ≤ db.length := by
    rcases Nat.lt_or_ge db.length dr.length with h | h
    · have h9 := len_lt hcb.1 hcr h
      have h8 := HLT.out
      omega
    · exact h
  have hlB : decide (db.length < dr.length) = false := decide_eq_false (by omega)
  have HK1 : Hid (decide (sgn false (val dr) = sgn false (val db)) = false) := by
    unfold Hid
    rw [decide_eq_false_iff_not, sgn_f, sgn_f]
    have h8 := HLT.out
    omega
  have HK2 : Hid (sumSign false true (val db) (val dr) = false) := by
    unfold Hid sumSign
    rw [if_neg (by decide), if_pos (by have h8 := HLT.out; omega)]
  go_wp2_with fail
  refine (same_val R B cr cb dr db false false false _ hrr2 hrb (by omega) (by omega) hcr hcb HK1).mono ?_
  rintro e w3 ⟨rfl, hbl⟩
  have hrr3 := hrr2.below hbl
  have hrb3 := hrb.below hbl
  have HB := Lib.hid (HB.out.trans (hbl.mono HB.out.size))
  clear hbl hrr2 hrb
  by_cases hll : dr.length = db.length
  · have hlE : (((dr.length : Nat) : Int) == ((db.length : Nat) : Int)) = true := by rw [beq_iff_eq, hll]
    have HLL := Lib.hid hll
    clear hll
    go_wp2_with fail
    refine (sum_val B R cb cr db dr false true false _ hrb3 hrr3 (by omega) (by omega) hcb hcr HK2).mono ?_
    rintro e w4 ⟨⟨S0, cs0, ds0, rfl, hrs0, hcs0, hss0, hvs0⟩, hbl⟩
    have HB := Lib.hid (HB.out.trans (hbl.mono HB.out.size))
    clear hbl hrs0 hcs0 hss0 hvs0 hrb3 hrr3
    go_wp2_with fail
    refine (lives_any _ (ht.below HB.out)).mono ?_
    rintro e w5 ⟨rfl, hbl⟩
    have HB := Lib.hid (HB.out.trans (hbl.mono HB.out.size))
    clear hbl
    go_wp2_with fail
    go_ret
    exact ⟨rfl, HB.out⟩
  · have hlE : (((dr.length : Nat) : Int) == ((db.length : Nat) : Int)) = false := beq_eq_false_iff_ne.2 (by omega)
    clear hrb3 hrr3
    go_wp2_with fail
    refine (lives_any _ (ht.below HB.out)).mono ?_
    rintro e w5 ⟨rfl, hbl⟩
    have HB := Lib.hid (HB.out.trans (hbl.mono HB.out.size))
    clear hbl
    go_wp2_with fail
    go_ret
    exact ⟨rfl, HB.out⟩

theorem parts_walk (a b : Int) (w : World) (ht : Tabs w) (h1 : -9223372036854775808 ≤ a) (h2 : a ≤ 9223372036854775807) (h3 : -9223372036854775808 ≤ b) (h4 : b ≤ 9223372036854775807) :
    Calls Tryd.prog 5 #[.int .i64 a, .int .i64 b] w fun e w' => e = .returned (.bool true) ∧ Below w.heap.size w w' := by
  by_cases hb : b = 0
  · subst hb
    exact parts_zero a w ht
  · by_cases hne : a = -9223372036854775808 ∧ b = -1
    · obtain ⟨rfl, rfl⟩ := hne
      exact parts_out w ht
    · obtain ⟨hbd, hback, hsa, hm⟩ := parts_num a b hb
      have hq := tdiv_bd a b hb h1 h2 hne
      have hbb : (b == 0) = false := beq_eq_false_iff_ne.2 hb
      by_cases hr : a.tmod b = 0
      · have hmz : modV a b = 0 := by
          rcases hm with ⟨hm, _⟩ | ⟨hm, _⟩
          · rw [hm, hr]
          · exact absurd hr hm
        rw [hr] at hbd hback
        exact parts_z a b _ w ht h1 h2 h3 h4 hb hbb hne rfl hbd hback hq.1 hq.2 hr hmz
      · have hrb : (a.tmod b != 0) = true := bne_iff_ne.2 hr
        have hs2 : decide (a < 0) = decide (a.tmod b < 0) := by
          rw [Bool.eq_iff_iff, decide_eq_true_iff, decide_eq_true_iff]
          exact (hsa hr).symm
        rcases hm with ⟨hm, hs3⟩ | ⟨_, hm, hs3⟩
        · have hs4 : decide (b < 0) = decide (a.tmod b < 0) := by
            rw [Bool.eq_iff_iff, decide_eq_true_iff, decide_eq_true_iff]
            exact (hs3 hr).symm
          exact parts_e a b _ (a.tmod b) w ht h1 h2 h3 h4 hb hbb hne rfl hbd hback hq.1 hq.2 (by omega) (by omega) hrb _ rfl hs2 hs4 rfl hm
        · have ht3 : decide (b < 0) = decide (modV a b < 0) := by
            rw [Bool.eq_iff_iff, decide_eq_true_iff, decide_eq_true_iff, hm]
            omega
          exact parts_d a b _ (a.tmod b) (modV a b) w ht h1 h2 h3 h4 hb hbb hne rfl hbd hback hq.1 hq.2 (by omega) (by omega) hrb _ rfl hs2 (bne_iff_ne.2 (by omega)) (bne_iff_ne.2 (by omega)) (by omega) _ rfl ht3 rfl rfl

set_option maxRecDepth 100000 in
theorem parts_lifted (os : Os) (started : os.Started) (H : Type) (enc : TypeId × Value → H) :
    ReturnsInHanded {} Tryd.checked os 5 .any (fun w args => (Rows.fixPartsSpec.pre enc Tryd.prog Tryd.f5 [] false w args ∧ laidMetH Tryd.prog laid3 w) ∧ sizedMet enc Tryd.prog Tryd.f5 (OpenSpec.ofChange Rows.fixPartsSpec) false w args)
      (Rows.fixPartsSpec.post enc Tryd.prog Tryd.f5 false true false false) := by
  refine returnsInHanded_of_change_and (C := Tryd.checked) (X := fun w _ => laidMetH Tryd.prog laid3 w) (fun _ _ _ hh h => h.of_heap hh) own started (by kernel_rfl) Tryd.func5
    (ChangeSpec.witness_shaped (enc := enc) (C := Tryd.checked) (os := os) (X := fun w _ => laidMetH Tryd.prog laid3 w) false (World.doorLaid Tryd.prog 400 os) #[.int .i64 0, .int .i64 0] 8 rfl (World.shaped_of_RefB (by kernel_rfl) (by kernel_rfl)) (by kernel_rfl) (by kernel_rfl) (by kernel_rfl) (door_met os _)) ?_
  intro W base args ds gs before hval0 hW _ _ hL _
  have hval : ∀ (j : Nat) t v, Tryd.f5.params[j]? = some t → args[j]? = some v → Value.okWide Tryd.prog W .any base t v := hval0
  have hW' := hW
  obtain ⟨p, q, hA0, hV, rfl, hfz, hnd⟩ := hW
  have hA : DataW.TrodAll enc Tryd.prog W 0 (fun _ => true) true Tryd.f5.params.toList args.toList ds p := hA0
  rw [Tryd.params5] at hA hval
  obtain ⟨v0, vs0, d0, ds0, p0, q0, hargs, rfl, rfl, h0, r0⟩ := trodAll_cons hA
  obtain ⟨v1, vs1, d1, ds1, p1, q1, rfl, rfl, rfl, h1, r1⟩ := trodAll_cons r0
  obtain ⟨rfl, rfl, rfl⟩ := trodAll_nil r1
  obtain rfl : args = #[v0, v1] := by cases args; simp_all
  obtain ⟨rfl, rfl⟩ := trodVars_none hV
  obtain ⟨a0, rfl, rfl, rfl, w0⟩ := open_int Tryd.underlying3 (hval 0 3 v0 rfl rfl) h0
  obtain ⟨a1, rfl, rfl, rfl, w1⟩ := open_int Tryd.underlying3 (hval 1 3 v1 rfl rfl) h1
  clear hA0 hval0
  simp only [List.append_nil] at hW'
  refine (parts_walk a0 a1 W (of_laid hL) (i64_of w0).1 (i64_of w0).2 (i64_of w1).1 (i64_of w1).2).mono fun e W' ⟨he, hg⟩ => ?_
  subst he
  exact ⟨_, rfl, law_post (pa := []) (pv := []) hW' (fun _ _ _ => (trodAll_cons_mk (shut_bool Tryd.underlying4 _) trodAll_mk0)) (fun sp => (trodAll_cons_mk (shut_int Tryd.underlying3 w0) (trodAll_cons_mk (shut_int Tryd.underlying3 w1) trodAll_mk0))) (fun _ => rfl) rfl hg⟩

theorem parts_holds : Rows.FixPartsSaid :=
  OpenClaim.holds_of_wide 5 Tryd.f5 rfl rfl rfl rfl rfl rfl rfl ⟨rfl, rfl, rfl, rfl, rfl⟩ rfl rfl rfl rfl rfl (by kernel_rfl) Tryd.func5 (by kernel_rfl)
    (of_decide_eq_true (by kernel_rfl)) (by unfold Func.isWrapper; first | (rw [if_pos (by decide +kernel)]; kernel_rfl) | (rw [if_neg (by decide +kernel)]; exact ⟨rfl, rfl⟩))
    (fun os started H enc _ => parts_lifted os started H enc)

end Go.Proofs.YtfjoahbboglgfaaDoor
