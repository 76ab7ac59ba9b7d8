/- The law RootNewest returns true for any two blocks. -/
import Derived.Test.YtnjlhallkgacjaaLawR
import Derived.Test.YtnjlhallkgacjaaRNew
import Derived.Test.YtnjlhallkgacjaaIn
namespace Go.Proofs.Ytnjlhallkgacjaa
open Go.ChangeShapes Go.WideShapes Go.ChangeAt Go.RowKit

theorem nw_len {a b : List Nat} (h : a.length ≠ 128 ∨ b.length ≠ 128) : nwE a b = 1 ∧ nwA a b = Rt.none_ ∧ nwB a b = Rt.none_ :=
  nw_bad (h.imp (plE_one a 0).2 (plE_one b 4).2)
section
variable (A B : ByteArray) (w : World)
set_option maxHeartbeats 1600000 in
theorem newest_law_bad (HN : Hid (∀ w, Calls Try.prog 19 #[.string A, .string B] w fun e w' => e = .returned (.tuple #[Rt.none_.val, Rt.none_.val, .int .i64 1]) ∧ Below w.heap.size w w')) (hl : A.size ≠ 128 ∨ B.size ≠ 128) :
    Calls Try.prog 4 #[.string A, .string B] w fun e w' => e = .returned (.bool true) ∧ Below w.heap.size w w' := by
  unfold Rt.val Rt.none_ at HN
  go_enter Try.func4, Try.ntmps4
  go_wp2_with fail
  refine (HN.out _).mono ?_
  rintro e w3 ⟨rfl, hb⟩
  have HB3 := Lib.hid hb
  clear hb HN
  by_cases h1 : A.size = 128
  · have h2 := hl.resolve_left (fun h => h h1)
    have k1 : ((A.size : Int) != 128) = false := by rw [h1]; rfl
    clear h1
    have k2 : ((B.size : Int) != 128) = true := by simp; omega
    clear hl h2
    go_wp2_with (go_at_call 8; refine (lives_any _).mono ?_; rintro e w7 ⟨rfl, hb7⟩)
    go_ret
    exact ⟨rfl, ((HB3.out.alloc HB3.out.size _).alloc (Nat.le_trans HB3.out.size (by simp)) _).trans (Below.mono hb7 (Nat.le_trans HB3.out.size (by simp; omega)))⟩
  · have k1 : ((A.size : Int) != 128) = true := by simp; omega
    clear hl h1
    go_wp2_with (go_at_call 8; refine (lives_any _).mono ?_; rintro e w7 ⟨rfl, hb7⟩)
    go_ret
    exact ⟨rfl, ((HB3.out.alloc HB3.out.size _).alloc (Nat.le_trans HB3.out.size (by simp)) _).trans (Below.mono hb7 (Nat.le_trans HB3.out.size (by simp; omega)))⟩
set_option maxHeartbeats 3200000 in
theorem newest_law_good (x y : Rt) (e : Int) (HN : Hid (∀ w, Calls Try.prog 19 #[.string A, .string B] w fun e' w' => e' = .returned (.tuple #[x.val, y.val, .int .i64 e]) ∧ Below w.heap.size w w'))
    (HR : Hid (∀ w, Calls Try.prog 20 #[.string A, .string B] w fun e' w' => e' = .returned (.tuple #[x.val, y.val, .int .i64 e]) ∧ Below w.heap.size w w')) (h1 : A.size = 128) (h2 : B.size = 128) :
    Calls Try.prog 4 #[.string A, .string B] w fun e w' => e = .returned (.bool true) ∧ Below w.heap.size w w' := by
  have HTX := Lib.hid (fun w => theirs_any x w)
  have HTY := Lib.hid (fun w => theirs_any y w)
  unfold Rt.val at HN HR HTX HTY
  go_enter Try.func4, Try.ntmps4
  go_wp2_with fail
  refine (HN.out _).mono ?_
  rintro e' w3 ⟨rfl, hb⟩
  have HB3 := Lib.hid hb
  clear hb HN
  go_wp2_with fail
  refine (HR.out _).mono ?_
  rintro e' w5 ⟨rfl, hb5⟩
  go_upto_region 5 with fail
  have HX : Hid (RtAt ((w5.alloc (.cells #[.int .i64 x.ep, .int .i64 x.pg, .int .i64 x.dr, .int .i64 x.wd] 23)).alloc (.cells #[.int .i64 y.ep, .int .i64 y.pg, .int .i64 y.dr, .int .i64 y.wd] 23)) w3.heap.size 29 x ∧
      RtAt ((w5.alloc (.cells #[.int .i64 x.ep, .int .i64 x.pg, .int .i64 x.dr, .int .i64 x.wd] 23)).alloc (.cells #[.int .i64 y.ep, .int .i64 y.pg, .int .i64 y.dr, .int .i64 y.wd] 23)) (w3.heap.size + 1) 29 y ∧
      RtAt ((w5.alloc (.cells #[.int .i64 x.ep, .int .i64 x.pg, .int .i64 x.dr, .int .i64 x.wd] 23)).alloc (.cells #[.int .i64 y.ep, .int .i64 y.pg, .int .i64 y.dr, .int .i64 y.wd] 23)) w5.heap.size 23 x ∧
      RtAt ((w5.alloc (.cells #[.int .i64 x.ep, .int .i64 x.pg, .int .i64 x.dr, .int .i64 x.wd] 23)).alloc (.cells #[.int .i64 y.ep, .int .i64 y.pg, .int .i64 y.dr, .int .i64 y.wd] 23)) (w5.heap.size + 1) 23 y ∧
      Below w.heap.size w ((w5.alloc (.cells #[.int .i64 x.ep, .int .i64 x.pg, .int .i64 x.dr, .int .i64 x.wd] 23)).alloc (.cells #[.int .i64 y.ep, .int .i64 y.pg, .int .i64 y.dr, .int .i64 y.wd] 23))) := Lib.hid (by
    have a1 : ∀ (u : World) (o : Obj), Below u.heap.size u (u.alloc o) := fun u o => (Below.refl _ _).alloc (Nat.le_refl _) _
    have t1 : RtAt ((w3.alloc (.cells #[.int .i64 x.ep, .int .i64 x.pg, .int .i64 x.dr, .int .i64 x.wd] 29)).alloc (.cells #[.int .i64 y.ep, .int .i64 y.pg, .int .i64 y.dr, .int .i64 y.wd] 29)) w3.heap.size 29 x := heap_alloc2_old w3 _ _
    have t2 : RtAt ((w3.alloc (.cells #[.int .i64 x.ep, .int .i64 x.pg, .int .i64 x.dr, .int .i64 x.wd] 29)).alloc (.cells #[.int .i64 y.ep, .int .i64 y.pg, .int .i64 y.dr, .int .i64 y.wd] 29)) (w3.heap.size + 1) 29 y := heap_alloc2_new w3 _ _
    have b4 : Below w.heap.size w ((w3.alloc (.cells #[.int .i64 x.ep, .int .i64 x.pg, .int .i64 x.dr, .int .i64 x.wd] 29)).alloc (.cells #[.int .i64 y.ep, .int .i64 y.pg, .int .i64 y.dr, .int .i64 y.wd] 29)) := (HB3.out.alloc HB3.out.size _).alloc (Nat.le_trans HB3.out.size (by simp)) _
    have b5 := b4.trans (Below.mono hb5 b4.size)
    exact ⟨((t1.below hb5).below (a1 _ _)).below (a1 _ _), ((t2.below hb5).below (a1 _ _)).below (a1 _ _), heap_alloc2_old w5 _ _, heap_alloc2_new w5 _ _, (b5.alloc b5.size _).alloc (Nat.le_trans b5.size (by simp)) _⟩)
  clear hb5 HR HB3 h1 h2
  generalize ((w5.alloc (.cells #[.int .i64 x.ep, .int .i64 x.pg, .int .i64 x.dr, .int .i64 x.wd] 23)).alloc (.cells #[.int .i64 y.ep, .int .i64 y.pg, .int .i64 y.dr, .int .i64 y.wd] 23)) = w6 at *
  generalize w3.heap.size = q3 at *
  generalize w5.heap.size = q5 at *
  obtain ⟨X1, X2, X3, X4, HB⟩ := HX.out
  have lX10 : ∀ s : In w6, s.1.cell? ⟨q3, 0, none⟩ = some (.int .i64 x.ep) := fun s => (X1.below s.2).c0
  have lX11 : ∀ s : In w6, s.1.cell? ⟨q3, 1, none⟩ = some (.int .i64 x.pg) := fun s => (X1.below s.2).c1
  have lX12 : ∀ s : In w6, s.1.cell? ⟨q3, 2, none⟩ = some (.int .i64 x.dr) := fun s => (X1.below s.2).c2
  have lX13 : ∀ s : In w6, s.1.cell? ⟨q3, 3, none⟩ = some (.int .i64 x.wd) := fun s => (X1.below s.2).c3
  have lX20 : ∀ s : In w6, s.1.cell? ⟨(q3 + 1), 0, none⟩ = some (.int .i64 y.ep) := fun s => (X2.below s.2).c0
  have lX21 : ∀ s : In w6, s.1.cell? ⟨(q3 + 1), 1, none⟩ = some (.int .i64 y.pg) := fun s => (X2.below s.2).c1
  have lX22 : ∀ s : In w6, s.1.cell? ⟨(q3 + 1), 2, none⟩ = some (.int .i64 y.dr) := fun s => (X2.below s.2).c2
  have lX23 : ∀ s : In w6, s.1.cell? ⟨(q3 + 1), 3, none⟩ = some (.int .i64 y.wd) := fun s => (X2.below s.2).c3
  have lX30 : ∀ s : In w6, s.1.cell? ⟨q5, 0, none⟩ = some (.int .i64 x.ep) := fun s => (X3.below s.2).c0
  have lX31 : ∀ s : In w6, s.1.cell? ⟨q5, 1, none⟩ = some (.int .i64 x.pg) := fun s => (X3.below s.2).c1
  have lX32 : ∀ s : In w6, s.1.cell? ⟨q5, 2, none⟩ = some (.int .i64 x.dr) := fun s => (X3.below s.2).c2
  have lX33 : ∀ s : In w6, s.1.cell? ⟨q5, 3, none⟩ = some (.int .i64 x.wd) := fun s => (X3.below s.2).c3
  have lX40 : ∀ s : In w6, s.1.cell? ⟨(q5 + 1), 0, none⟩ = some (.int .i64 y.ep) := fun s => (X4.below s.2).c0
  have lX41 : ∀ s : In w6, s.1.cell? ⟨(q5 + 1), 1, none⟩ = some (.int .i64 y.pg) := fun s => (X4.below s.2).c1
  have lX42 : ∀ s : In w6, s.1.cell? ⟨(q5 + 1), 2, none⟩ = some (.int .i64 y.dr) := fun s => (X4.below s.2).c2
  have lX43 : ∀ s : In w6, s.1.cell? ⟨(q5 + 1), 3, none⟩ = some (.int .i64 y.wd) := fun s => (X4.below s.2).c3
  have HBH := Lib.hid HB
  clear X1 X2 X3 X4 HB HX
  have hne := In.some w6
  refine region_in w6 (by kernel_rfl) (by kernel_rfl) (Below.refl _ _) ?_
  repeat (go_big_quiet_step (fail))
  go_big_quiet_step ((go_at_call 17; exact Calls.quiet_in (HTX.out _)))
  repeat (go_big_quiet_step (fail))
  go_big_quiet_step ((go_at_call 17; exact Calls.quiet_in (HTY.out _)))
  repeat (go_big_quiet_step (fail))
  go_big_quiet_step ((go_at_call 8; exact Calls.quiet_in (lives_any _)))
  repeat (go_big_quiet_step (fail))
  refine wpQuiet_nil ?_
  intro w8 hw'
  have hb8 : Below w6.heap.size w6 w8 := by
    obtain ⟨⟨wz, hbz⟩, hw''⟩ := hw'
    subst hw''
    exact hbz
  clear hw'
  go_wp2_with fail
  go_ret
  exact ⟨rfl, HBH.out.trans (Below.mono hb8 HBH.out.size)⟩
/-- The law's walk. -/
theorem newest_walk (A B : ByteArray) (w : World) : Calls Try.prog 4 #[.string A, .string B] w fun e w' => e = .returned (.bool true) ∧ Below w.heap.size w w' := by
  obtain ⟨a, hA⟩ := IsS.all A
  obtain ⟨b, hB⟩ := IsS.all B
  by_cases h : A.size = 128 ∧ B.size = 128
  · exact newest_law_good A B w _ _ _ (Lib.hid (fun w => newest_any A B w a b hA hB)) (Lib.hid (fun w => rnewest_any A B w a b hA hB (by rw [← hA.size]; exact h.1) (by rw [← hB.size]; exact h.2))) h.1 h.2
  · have h2 : A.size ≠ 128 ∨ B.size ≠ 128 := by
      by_cases ha : A.size = 128
      · exact .inr (fun hb => h ⟨ha, hb⟩)
      · exact .inl ha
    have hn := nw_len (a := a) (b := b) (by rw [← hA.size, ← hB.size]; exact h2)
    refine newest_law_bad A B w (Lib.hid (fun w => ?_)) h2
    have := newest_any A B w a b hA hB
    rw [hn.1, hn.2.1, hn.2.2] at this
    exact this
end
set_option maxRecDepth 100000 in
theorem newest_lifted (os : Os) (started : os.Started) (H : Type) (enc : TypeId × Value → H) :
    ReturnsInHanded {} Try.checked os 4 .any (fun w args => Rows.rootNewestSpec.pre enc Try.prog Try.f4 [] false w args ∧ sizedMet enc Try.prog Try.f4 (OpenSpec.ofChange Rows.rootNewestSpec) false w args)
      (Rows.rootNewestSpec.post enc Try.prog Try.f4 false true false false) := by
  refine returnsInHanded_of_change_sized (C := Try.checked) own started (by kernel_rfl) Try.func4
    (ChangeSpec.witness6 (enc := enc) (C := Try.checked) false ⟨#[], #[.string ⟨#[]⟩, .string ⟨#[]⟩], []⟩ 8 (by kernel_rfl) (by kernel_rfl) (by kernel_rfl) (by kernel_rfl)) ?_
  intro W base args ds gs before hval0 hW _ hsz0 _
  have hval : ∀ (j : Nat) t v, Try.f4.params[j]? = some t → args[j]? = some v → Value.okWide Try.prog W .any base t v := hval0
  have hlt := fun x hx => hW.lt (p := x) hx
  have hW' := hW
  obtain ⟨p, q, hA0, hV, rfl, hfz, hnd⟩ := hW
  have hA : DataW.TrodAll enc Try.prog W 0 (fun _ => true) true Try.f4.params.toList args.toList ds p := hA0
  have hsz : (DataW.weightsEach Try.prog (Try.f4.params.toList ++ Rows.rootNewestSpec.plain.varTypes Try.prog) (ds ++ gs)).all (· ≤ reachBytes) = true := hsz0
  rw [Try.params4] at hA hval hsz
  obtain ⟨v0, vs0, d0, ds0, p0, q0, hargs, rfl, rfl, h0, r0⟩ := trodAll_cons hA
  obtain ⟨v1, vs1, d1, ds1, p1, q1, rfl, rfl, rfl, h1, r1⟩ := trodAll_cons r0
  obtain ⟨rfl, rfl, rfl⟩ := trodAll_nil r1
  obtain rfl : args = #[v0, v1] := by cases args; simp_all
  obtain ⟨rfl, rfl⟩ := trodVars_none hV
  obtain ⟨a0, rfl⟩ := open_str (hval 0 9 v0 rfl rfl)
  obtain ⟨a1, rfl⟩ := open_str (hval 1 9 v1 rfl rfl)
  clear hA0 hval0
  simp only [List.append_nil] at hW'
  refine (newest_walk a0 a1 W).mono fun e W' ⟨he, hg⟩ => ?_
  subst he
  exact ⟨_, rfl, law_post hW' (fun _ _ _ => (trodAll_cons_mk (shut_bool Try.underlying4 _) trodAll_mk0)) (trodAll_cons_mk (Below.trod laidOut (by kernel_rfl) (by decide +kernel) h0 hg (fun x hx => hlt x (by simp [hx]))) (trodAll_cons_mk (Below.trod laidOut (by kernel_rfl) (by decide +kernel) h1 hg (fun x hx => hlt x (by simp [hx]))) trodAll_mk0)) rfl (by simp) hg⟩

theorem newest_holds : Rows.RootNewestSaid :=
  OpenClaim.holds_of_wide 4 Try.f4 rfl rfl rfl rfl rfl rfl rfl ⟨rfl, rfl, rfl, rfl, rfl⟩ rfl rfl rfl rfl rfl (by kernel_rfl) Try.func4 (by kernel_rfl)
    (of_decide_eq_true (by kernel_rfl)) (by unfold Func.isWrapper; first | (rw [if_pos (by decide +kernel)]; kernel_rfl) | (rw [if_neg (by decide +kernel)]; exact ⟨rfl, rfl⟩))
    (fun os started H enc _ => newest_lifted os started H enc)
#print axioms newest_holds

end Go.Proofs.Ytnjlhallkgacjaa
