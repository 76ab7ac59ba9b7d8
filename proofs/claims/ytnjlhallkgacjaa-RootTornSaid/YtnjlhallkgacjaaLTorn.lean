/- The law RootTorn returns true for any two roots and any place: all cases. -/
import Derived.Test.YtnjlhallkgacjaaLTorn2
namespace Go.Proofs.Ytnjlhallkgacjaa
open Go.ChangeShapes Go.WideShapes Go.ChangeAt Go.RowKit
section
variable (w : World)
set_option maxRecDepth 20000 in
set_option maxHeartbeats 2000000 in
theorem torn_bad0 (ep pg dr wd : Int) (now : Rt) (t : Int) (hb : may ⟨ep, pg, dr, wd⟩ = false) (g : ¬ ep = 0) : Calls Try.prog 5 #[(⟨ep, pg, dr, wd⟩ : Rt).val, now.val, .int .i64 t] w fun e w' => e = .returned (.bool true) ∧ Below w.heap.size w w' := by
  obtain ⟨Z, HZS⟩ : ∃ Z, Hid (strB zs128 = Z) := ⟨_, Lib.hid rfl⟩
  have HMW : Hid (∀ w, Calls Try.prog 11 #[.agg #[.int .i64 ep, .int .i64 pg, .int .i64 dr, .int .i64 wd]] w fun e w' => e = .returned (.agg #[.int .i64 ep, .int .i64 pg, .int .i64 dr, .int .i64 wd]) ∧ Below w.heap.size w w') := Lib.hid (fun w => mine_any ⟨ep, pg, dr, wd⟩ w)
  have HEW : Hid (∀ w, Calls Try.prog 10 #[.agg #[.int .i64 ep, .int .i64 pg, .int .i64 dr, .int .i64 wd]] w fun e w' => e = .returned (.tuple #[.string ⟨#[]⟩, .int .i64 1]) ∧ Below w.heap.size w w') := Lib.hid (fun w => encode_no ⟨ep, pg, dr, wd⟩ w hb)
  clear hb
  obtain ⟨i0, hi, hz0, hz1, hz2⟩ := info_parts Try.info5
  have HI := Lib.hid hi
  have HZ0 := Lib.hid hz0
  have HZ1 := Lib.hid hz1
  have HZ2 := Lib.hid hz2
  clear hi hz0 hz1 hz2
  unfold Rt.val at *
  go_enter Try.func5, Try.ntmps5
  go_wp2_with (refine wpList_make_full _ rfl _ _ 45 rfl 0 5 i0 (.int .u8 0) 1 Try.underlying45 HI.out HZ0.out HZ1.out .i64 .i64 128 128 128 rfl rfl rfl rfl (by rw [HZ2.out]; omega) (by unfold maxLen; omega) (Nat.zero_le _) ?_)
  intro w2 hown hgrow
  have HT2 : Hid (TB w w2 ⟨ep, pg, dr, wd⟩ now) := Lib.hid ((TB.new w ⟨ep, pg, dr, wd⟩ now).more ((Below.refl _ _).grown hgrow (Nat.le_refl _) (fun k e => by cases e)))
  have hcv := zeros_conv hown
  clear hown hgrow HI HZ0 HZ1 HZ2
  rw [HZS.out] at hcv
  have k30 : w2.cell? ⟨w.heap.size, 0, none⟩ = some (.int .i64 ep) := HT2.out.b3.c0
  have k31 : w2.cell? ⟨w.heap.size, 1, none⟩ = some (.int .i64 pg) := HT2.out.b3.c1
  have k32 : w2.cell? ⟨w.heap.size, 2, none⟩ = some (.int .i64 dr) := HT2.out.b3.c2
  have k33 : w2.cell? ⟨w.heap.size, 3, none⟩ = some (.int .i64 wd) := HT2.out.b3.c3
  go_wp2_with fail
  refine (HMW.out _).mono ?_
  rintro e w3 ⟨rfl, hb3⟩
  have HT3 := Lib.hid (HT2.out.more hb3)
  clear hb3 HT2
  go_wp2_with fail
  refine (HEW.out _).mono ?_
  rintro e w4 ⟨rfl, hb4⟩
  have HT4 := Lib.hid (HT3.out.more hb4)
  clear hb4 HT3
  go_wp2_with (go_at_call 8; refine (lives_any _).mono ?_; rintro e w9 ⟨rfl, hb9⟩)
  go_ret
  exact ⟨rfl, Below.more HT4.out.below hb9 HT4.out.below.size⟩
set_option maxRecDepth 20000 in
set_option maxHeartbeats 2000000 in
theorem torn_bad1 (pg dr wd : Int) (now : Rt) (t : Int) (hb : may ⟨0, pg, dr, wd⟩ = false) (g : ¬ pg = 0) : Calls Try.prog 5 #[(⟨0, pg, dr, wd⟩ : Rt).val, now.val, .int .i64 t] w fun e w' => e = .returned (.bool true) ∧ Below w.heap.size w w' := by
  obtain ⟨Z, HZS⟩ : ∃ Z, Hid (strB zs128 = Z) := ⟨_, Lib.hid rfl⟩
  have HMW : Hid (∀ w, Calls Try.prog 11 #[.agg #[.int .i64 0, .int .i64 pg, .int .i64 dr, .int .i64 wd]] w fun e w' => e = .returned (.agg #[.int .i64 0, .int .i64 pg, .int .i64 dr, .int .i64 wd]) ∧ Below w.heap.size w w') := Lib.hid (fun w => mine_any ⟨0, pg, dr, wd⟩ w)
  have HEW : Hid (∀ w, Calls Try.prog 10 #[.agg #[.int .i64 0, .int .i64 pg, .int .i64 dr, .int .i64 wd]] w fun e w' => e = .returned (.tuple #[.string ⟨#[]⟩, .int .i64 1]) ∧ Below w.heap.size w w') := Lib.hid (fun w => encode_no ⟨0, pg, dr, wd⟩ w hb)
  clear hb
  obtain ⟨i0, hi, hz0, hz1, hz2⟩ := info_parts Try.info5
  have HI := Lib.hid hi
  have HZ0 := Lib.hid hz0
  have HZ1 := Lib.hid hz1
  have HZ2 := Lib.hid hz2
  clear hi hz0 hz1 hz2
  unfold Rt.val at *
  go_enter Try.func5, Try.ntmps5
  go_wp2_with (refine wpList_make_full _ rfl _ _ 45 rfl 0 5 i0 (.int .u8 0) 1 Try.underlying45 HI.out HZ0.out HZ1.out .i64 .i64 128 128 128 rfl rfl rfl rfl (by rw [HZ2.out]; omega) (by unfold maxLen; omega) (Nat.zero_le _) ?_)
  intro w2 hown hgrow
  have HT2 : Hid (TB w w2 ⟨0, pg, dr, wd⟩ now) := Lib.hid ((TB.new w ⟨0, pg, dr, wd⟩ now).more ((Below.refl _ _).grown hgrow (Nat.le_refl _) (fun k e => by cases e)))
  have hcv := zeros_conv hown
  clear hown hgrow HI HZ0 HZ1 HZ2
  rw [HZS.out] at hcv
  have k30 : w2.cell? ⟨w.heap.size, 0, none⟩ = some (.int .i64 0) := HT2.out.b3.c0
  have k31 : w2.cell? ⟨w.heap.size, 1, none⟩ = some (.int .i64 pg) := HT2.out.b3.c1
  have k32 : w2.cell? ⟨w.heap.size, 2, none⟩ = some (.int .i64 dr) := HT2.out.b3.c2
  have k33 : w2.cell? ⟨w.heap.size, 3, none⟩ = some (.int .i64 wd) := HT2.out.b3.c3
  go_wp2_with fail
  refine (HMW.out _).mono ?_
  rintro e w3 ⟨rfl, hb3⟩
  have HT3 := Lib.hid (HT2.out.more hb3)
  clear hb3 HT2
  go_wp2_with fail
  refine (HEW.out _).mono ?_
  rintro e w4 ⟨rfl, hb4⟩
  have HT4 := Lib.hid (HT3.out.more hb4)
  clear hb4 HT3
  go_wp2_with (go_at_call 8; refine (lives_any _).mono ?_; rintro e w9 ⟨rfl, hb9⟩)
  go_ret
  exact ⟨rfl, Below.more HT4.out.below hb9 HT4.out.below.size⟩
set_option maxRecDepth 20000 in
set_option maxHeartbeats 2000000 in
theorem torn_bad2 (dr wd : Int) (now : Rt) (t : Int) (hb : may ⟨0, 0, dr, wd⟩ = false) (g : ¬ dr = 0) : Calls Try.prog 5 #[(⟨0, 0, dr, wd⟩ : Rt).val, now.val, .int .i64 t] w fun e w' => e = .returned (.bool true) ∧ Below w.heap.size w w' := by
  obtain ⟨Z, HZS⟩ : ∃ Z, Hid (strB zs128 = Z) := ⟨_, Lib.hid rfl⟩
  have HMW : Hid (∀ w, Calls Try.prog 11 #[.agg #[.int .i64 0, .int .i64 0, .int .i64 dr, .int .i64 wd]] w fun e w' => e = .returned (.agg #[.int .i64 0, .int .i64 0, .int .i64 dr, .int .i64 wd]) ∧ Below w.heap.size w w') := Lib.hid (fun w => mine_any ⟨0, 0, dr, wd⟩ w)
  have HEW : Hid (∀ w, Calls Try.prog 10 #[.agg #[.int .i64 0, .int .i64 0, .int .i64 dr, .int .i64 wd]] w fun e w' => e = .returned (.tuple #[.string ⟨#[]⟩, .int .i64 1]) ∧ Below w.heap.size w w') := Lib.hid (fun w => encode_no ⟨0, 0, dr, wd⟩ w hb)
  clear hb
  obtain ⟨i0, hi, hz0, hz1, hz2⟩ := info_parts Try.info5
  have HI := Lib.hid hi
  have HZ0 := Lib.hid hz0
  have HZ1 := Lib.hid hz1
  have HZ2 := Lib.hid hz2
  clear hi hz0 hz1 hz2
  unfold Rt.val at *
  go_enter Try.func5, Try.ntmps5
  go_wp2_with (refine wpList_make_full _ rfl _ _ 45 rfl 0 5 i0 (.int .u8 0) 1 Try.underlying45 HI.out HZ0.out HZ1.out .i64 .i64 128 128 128 rfl rfl rfl rfl (by rw [HZ2.out]; omega) (by unfold maxLen; omega) (Nat.zero_le _) ?_)
  intro w2 hown hgrow
  have HT2 : Hid (TB w w2 ⟨0, 0, dr, wd⟩ now) := Lib.hid ((TB.new w ⟨0, 0, dr, wd⟩ now).more ((Below.refl _ _).grown hgrow (Nat.le_refl _) (fun k e => by cases e)))
  have hcv := zeros_conv hown
  clear hown hgrow HI HZ0 HZ1 HZ2
  rw [HZS.out] at hcv
  have k30 : w2.cell? ⟨w.heap.size, 0, none⟩ = some (.int .i64 0) := HT2.out.b3.c0
  have k31 : w2.cell? ⟨w.heap.size, 1, none⟩ = some (.int .i64 0) := HT2.out.b3.c1
  have k32 : w2.cell? ⟨w.heap.size, 2, none⟩ = some (.int .i64 dr) := HT2.out.b3.c2
  have k33 : w2.cell? ⟨w.heap.size, 3, none⟩ = some (.int .i64 wd) := HT2.out.b3.c3
  go_wp2_with fail
  refine (HMW.out _).mono ?_
  rintro e w3 ⟨rfl, hb3⟩
  have HT3 := Lib.hid (HT2.out.more hb3)
  clear hb3 HT2
  go_wp2_with fail
  refine (HEW.out _).mono ?_
  rintro e w4 ⟨rfl, hb4⟩
  have HT4 := Lib.hid (HT3.out.more hb4)
  clear hb4 HT3
  go_wp2_with (go_at_call 8; refine (lives_any _).mono ?_; rintro e w9 ⟨rfl, hb9⟩)
  go_ret
  exact ⟨rfl, Below.more HT4.out.below hb9 HT4.out.below.size⟩
set_option maxRecDepth 20000 in
set_option maxHeartbeats 2000000 in
theorem torn_bad3 (wd : Int) (now : Rt) (t : Int) (hb : may ⟨0, 0, 0, wd⟩ = false) (g : ¬ wd = 0) : Calls Try.prog 5 #[(⟨0, 0, 0, wd⟩ : Rt).val, now.val, .int .i64 t] w fun e w' => e = .returned (.bool true) ∧ Below w.heap.size w w' := by
  obtain ⟨Z, HZS⟩ : ∃ Z, Hid (strB zs128 = Z) := ⟨_, Lib.hid rfl⟩
  have HMW : Hid (∀ w, Calls Try.prog 11 #[.agg #[.int .i64 0, .int .i64 0, .int .i64 0, .int .i64 wd]] w fun e w' => e = .returned (.agg #[.int .i64 0, .int .i64 0, .int .i64 0, .int .i64 wd]) ∧ Below w.heap.size w w') := Lib.hid (fun w => mine_any ⟨0, 0, 0, wd⟩ w)
  have HEW : Hid (∀ w, Calls Try.prog 10 #[.agg #[.int .i64 0, .int .i64 0, .int .i64 0, .int .i64 wd]] w fun e w' => e = .returned (.tuple #[.string ⟨#[]⟩, .int .i64 1]) ∧ Below w.heap.size w w') := Lib.hid (fun w => encode_no ⟨0, 0, 0, wd⟩ w hb)
  clear hb
  obtain ⟨i0, hi, hz0, hz1, hz2⟩ := info_parts Try.info5
  have HI := Lib.hid hi
  have HZ0 := Lib.hid hz0
  have HZ1 := Lib.hid hz1
  have HZ2 := Lib.hid hz2
  clear hi hz0 hz1 hz2
  unfold Rt.val at *
  go_enter Try.func5, Try.ntmps5
  go_wp2_with (refine wpList_make_full _ rfl _ _ 45 rfl 0 5 i0 (.int .u8 0) 1 Try.underlying45 HI.out HZ0.out HZ1.out .i64 .i64 128 128 128 rfl rfl rfl rfl (by rw [HZ2.out]; omega) (by unfold maxLen; omega) (Nat.zero_le _) ?_)
  intro w2 hown hgrow
  have HT2 : Hid (TB w w2 ⟨0, 0, 0, wd⟩ now) := Lib.hid ((TB.new w ⟨0, 0, 0, wd⟩ now).more ((Below.refl _ _).grown hgrow (Nat.le_refl _) (fun k e => by cases e)))
  have hcv := zeros_conv hown
  clear hown hgrow HI HZ0 HZ1 HZ2
  rw [HZS.out] at hcv
  have k30 : w2.cell? ⟨w.heap.size, 0, none⟩ = some (.int .i64 0) := HT2.out.b3.c0
  have k31 : w2.cell? ⟨w.heap.size, 1, none⟩ = some (.int .i64 0) := HT2.out.b3.c1
  have k32 : w2.cell? ⟨w.heap.size, 2, none⟩ = some (.int .i64 0) := HT2.out.b3.c2
  have k33 : w2.cell? ⟨w.heap.size, 3, none⟩ = some (.int .i64 wd) := HT2.out.b3.c3
  go_wp2_with fail
  refine (HMW.out _).mono ?_
  rintro e w3 ⟨rfl, hb3⟩
  have HT3 := Lib.hid (HT2.out.more hb3)
  clear hb3 HT2
  go_wp2_with fail
  refine (HEW.out _).mono ?_
  rintro e w4 ⟨rfl, hb4⟩
  have HT4 := Lib.hid (HT3.out.more hb4)
  clear hb4 HT3
  go_wp2_with (go_at_call 8; refine (lives_any _).mono ?_; rintro e w9 ⟨rfl, hb9⟩)
  go_ret
  exact ⟨rfl, Below.more HT4.out.below hb9 HT4.out.below.size⟩
/-- The law's walk. -/
theorem torn_walk (was now : Rt) (t : Int) (w : World) (_h1 : Ints was) (_h2 : Ints now) (_h3 : -9223372036854775808 ≤ t) (_h4 : t ≤ 9223372036854775807) :
    Calls Try.prog 5 #[was.val, now.val, .int .i64 t] w fun e w' => e = .returned (.bool true) ∧ Below w.heap.size w w' := by
  by_cases hw : may was = true
  · by_cases hm : may now = true
    · exact torn_mays_yes w was now t (may_yes hw) (may_yes hm)
    · exact torn_mays_no w was now t (may_yes hw) (by simpa using hm)
  · have hw0 : may was = false := by simpa using hw
    by_cases g0 : was.ep = 0
    · by_cases g1 : was.pg = 0
      · by_cases g2 : was.dr = 0
        · by_cases g3 : was.wd = 0
          · obtain rfl : was = Rt.none_ := rt_ext g0 g1 g2 g3
            by_cases hm : may now = true
            · exact torn_none_yes w now t (may_yes hm)
            · exact torn_none_no w now t (by simpa using hm)
          · (cases was; simp only at g0 g1 g2; subst g0 g1 g2; exact torn_bad3 w _ now t hw0 g3)
        · (cases was; simp only at g0 g1; subst g0 g1; exact torn_bad2 w _ _ now t hw0 g2)
      · (cases was; simp only at g0; subst g0; exact torn_bad1 w _ _ _ now t hw0 g1)
    · exact torn_bad0 w _ _ _ _ now t hw0 g0
end
set_option maxRecDepth 100000 in
theorem torn_lifted (os : Os) (started : os.Started) (H : Type) (enc : TypeId × Value → H) :
    ReturnsInHanded {} Try.checked os 5 .any (fun w args => Rows.rootTornSpec.pre enc Try.prog Try.f5 [] false w args ∧ sizedMet enc Try.prog Try.f5 (OpenSpec.ofChange Rows.rootTornSpec) false w args)
      (Rows.rootTornSpec.post enc Try.prog Try.f5 false true false false) := by
  refine returnsInHanded_of_change_sized (C := Try.checked) own started (by kernel_rfl) Try.func5
    (ChangeSpec.witness6 (enc := enc) (C := Try.checked) false ⟨#[], #[.agg #[.int .i64 0, .int .i64 0, .int .i64 0, .int .i64 0], .agg #[.int .i64 0, .int .i64 0, .int .i64 0, .int .i64 0], .int .i64 0], []⟩ 8 (by kernel_rfl) (by kernel_rfl) (by kernel_rfl) (by kernel_rfl)) ?_
  intro W base args ds gs before hval0 hW _ hsz0 _
  have hval : ∀ (j : Nat) t v, Try.f5.params[j]? = some t → args[j]? = some v → Value.okWide Try.prog W .any base t v := hval0
  have hlt := fun x hx => hW.lt (p := x) hx
  have hW' := hW
  obtain ⟨p, q, hA0, hV, rfl, hfz, hnd⟩ := hW
  have hA : DataW.TrodAll enc Try.prog W 0 (fun _ => true) true Try.f5.params.toList args.toList ds p := hA0
  have hsz : (DataW.weightsEach Try.prog (Try.f5.params.toList ++ Rows.rootTornSpec.plain.varTypes Try.prog) (ds ++ gs)).all (· ≤ reachBytes) = true := hsz0
  rw [Try.params5] at hA hval hsz
  obtain ⟨v0, vs0, d0, ds0, p0, q0, hargs, rfl, rfl, h0, r0⟩ := trodAll_cons hA
  obtain ⟨v1, vs1, d1, ds1, p1, q1, rfl, rfl, rfl, h1, r1⟩ := trodAll_cons r0
  obtain ⟨v2, vs2, d2, ds2, p2, q2, rfl, rfl, rfl, h2, r2⟩ := trodAll_cons r1
  obtain ⟨rfl, rfl, rfl⟩ := trodAll_nil r2
  obtain rfl : args = #[v0, v1, v2] := by cases args; simp_all
  obtain ⟨rfl, rfl⟩ := trodVars_none hV
  obtain ⟨a0, rfl, hi0⟩ := open_root (hval 0 23 v0 rfl rfl) h0
  obtain ⟨a1, rfl, hi1⟩ := open_root (hval 1 23 v1 rfl rfl) h1
  obtain ⟨a2, rfl, rfl, rfl, w2⟩ := open_int Try.underlying3 (hval 2 3 v2 rfl rfl) h2
  clear hA0 hval0
  simp only [List.append_nil] at hW'
  refine (torn_walk a0 a1 a2 W hi0 hi1 (i64_of w2).1 (i64_of w2).2).mono fun e W' ⟨he, hg⟩ => ?_
  subst he
  exact ⟨_, rfl, law_post hW' (fun _ _ _ => (trodAll_cons_mk (shut_bool Try.underlying4 _) trodAll_mk0)) (trodAll_cons_mk (Below.trod laidOut (by kernel_rfl) (by decide +kernel) h0 hg (fun x hx => hlt x (by simp [hx]))) (trodAll_cons_mk (Below.trod laidOut (by kernel_rfl) (by decide +kernel) h1 hg (fun x hx => hlt x (by simp [hx]))) (trodAll_cons_mk (shut_int Try.underlying3 w2) trodAll_mk0))) rfl (by simp) hg⟩

theorem torn_holds : Rows.RootTornSaid :=
  OpenClaim.holds_of_wide 5 Try.f5 rfl rfl rfl rfl rfl rfl rfl ⟨rfl, rfl, rfl, rfl, rfl⟩ rfl rfl rfl rfl rfl (by kernel_rfl) Try.func5 (by kernel_rfl)
    (of_decide_eq_true (by kernel_rfl)) (by unfold Func.isWrapper; first | (rw [if_pos (by decide +kernel)]; kernel_rfl) | (rw [if_neg (by decide +kernel)]; exact ⟨rfl, rfl⟩))
    (fun os started H enc _ => torn_lifted os started H enc)
#print axioms torn_holds

end Go.Proofs.Ytnjlhallkgacjaa
