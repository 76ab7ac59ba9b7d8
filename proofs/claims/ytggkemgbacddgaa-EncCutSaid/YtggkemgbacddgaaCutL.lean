/- The law EncCut returns true for any things and any cut; each argument reads behind the call as it read. -/
import Derived.Test.YtggkemgbacddgaaOpsOpen
import Derived.Test.YtggkemgbacddgaaCut
namespace Go.Proofs.Ytggkemgbacddgaa
open Go.ChangeShapes Go.WideShapes Go.ChangeAt Go.RowKit

set_option maxRecDepth 100000 in
set_option maxHeartbeats 400000 in
theorem cut_long (q : Option Addr) (n c : Nat) (x : Int) (w : World) (hn : 40 < n) (hl : n ≤ 9223372036854775807) :
    Calls Try.prog 5 #[.slice q n c, .int .i64 x] w fun e w' => e = .returned (.bool true) ∧ Below w.heap.size w w' := by
  have hd : decide ((40 : Int) < (n : Int)) = true := decide_eq_true (by omega)
  go_enter Try.func5, Try.ntmps5
  go_wp2_with fail
  refine (lives_any _).mono ?_
  rintro e w1 ⟨rfl, hb⟩
  have HB := Lib.hid hb
  clear hb
  go_wp2_with fail
  go_ret
  exact ⟨rfl, HB.out⟩

/-- 'all' of things that came in. -/
theorem all_came (q : Option Addr) (n c : Nat) (f : Nat → Opv) (w : World) (hn : n ≤ 40) (hO : 0 < n → ∃ b o, q = some ⟨b, o, none⟩ ∧ OpsAt w b o n f) : Calls Try.prog 13 #[.slice q n c] w (AllPost w n f) := by
  rcases Nat.eq_zero_or_pos n with h | h
  · subst h; exact all_none q c f w
  · obtain ⟨b, o, rfl, hP⟩ := hO h
    exact all_core b o n c f w hn hP

section
variable {H : Type} {enc : TypeId × Value → H}
theorem open_things {W : World} {base : Nat} {v : Value} {d : DataW H} {p : List MemPlace} (hval : Value.okWide Try.prog W .any base 29 v) (h : DataW.Trod enc Try.prog W 0 (fun _ => true) true 29 v d p) :
    ∃ (q : Option Addr) (n c : Nat) (f : Nat → Opv), v = .slice q n c ∧ (0 < n → ∃ b o, q = some ⟨b, o, none⟩ ∧ OpsAt W b o n f) ∧ n ≤ 9223372036854775807 ∧ n ≤ c := by
  obtain ⟨q, n, c, f, rfl, hO, hl⟩ := open_ops hval h
  refine ⟨q, n, c, f, rfl, hO, hl, ?_⟩
  obtain ⟨fuel, hf⟩ := h
  rcases Go.Deep.open_slice Try.underlying29 hf with ⟨hcs, _⟩ | ⟨a, len', cap', _, _, _, _, hcs, _, hle, _⟩
  · simp [Value.cells] at hcs
    omega
  · simp [Value.cells] at hcs
    omega
end

theorem cut_walk (q : Option Addr) (n c : Nat) (f : Nat → Opv) (x : Int) (w : World) (hO : 0 < n → ∃ b o, q = some ⟨b, o, none⟩ ∧ OpsAt w b o n f) (hl : n ≤ 9223372036854775807 ∧ n ≤ c) (h0 : -9223372036854775808 ≤ x) (h1 : x ≤ 9223372036854775807) :
    Calls Try.prog 5 #[.slice q n c, .int .i64 x] w fun e w' => e = .returned (.bool true) ∧ Below w.heap.size w w' := by
  by_cases hn : 40 < n
  · exact cut_long q n c x w hn hl.1
  · exact cut_short q n c f x w (by omega) h0 h1 hl.2 (Lib.hid (all_came q n c f w (by omega) hO)) (Lib.hid hO)

set_option maxRecDepth 100000 in
theorem cut_lifted (os : Os) (started : os.Started) (H : Type) (enc : TypeId × Value → H) :
    ReturnsInHanded {} Try.checked os 5 .any (fun w args => Rows.encCutSpec.pre enc Try.prog Try.f5 [] false w args ∧ sizedMet enc Try.prog Try.f5 (OpenSpec.ofChange Rows.encCutSpec) false w args)
      (Rows.encCutSpec.post enc Try.prog Try.f5 false true false false) := by
  refine returnsInHanded_of_change_sized (C := Try.checked) own started (by kernel_rfl) Try.func5
    (ChangeSpec.witness6 (enc := enc) (C := Try.checked) false ⟨#[], #[.slice none 0 0, .int .i64 0], []⟩ 8 (by kernel_rfl) (by kernel_rfl) (by kernel_rfl) (by kernel_rfl)) ?_
  intro W base args ds gs before hval0 hW _ hsz0 _
  have hval : ∀ (j : Nat) t v, Try.f5.params[j]? = some t → args[j]? = some v → Value.okWide Try.prog W .any base t v := hval0
  have hlt := fun x hx => hW.lt (p := x) hx
  have hW' := hW
  obtain ⟨p, q, hA0, hV, rfl, hfz, hnd⟩ := hW
  have hA : DataW.TrodAll enc Try.prog W 0 (fun _ => true) true Try.f5.params.toList args.toList ds p := hA0
  have hsz : (DataW.weightsEach Try.prog (Try.f5.params.toList ++ Rows.encCutSpec.plain.varTypes Try.prog) (ds ++ gs)).all (· ≤ reachBytes) = true := hsz0
  rw [Try.params5] at hA hval hsz
  obtain ⟨v0, vs0, d0, ds0, p0, q0, hargs, rfl, rfl, h0, r0⟩ := trodAll_cons hA
  obtain ⟨v1, vs1, d1, ds1, p1, q1, rfl, rfl, rfl, h1, r1⟩ := trodAll_cons r0
  obtain ⟨rfl, rfl, rfl⟩ := trodAll_nil r1
  obtain rfl : args = #[v0, v1] := by cases args; simp_all
  obtain ⟨rfl, rfl⟩ := trodVars_none hV
  obtain ⟨a0, n0, c0, b0, rfl, hb0, hn0⟩ := open_things (hval 0 29 v0 rfl rfl) h0
  obtain ⟨a1, rfl, rfl, rfl, w1⟩ := open_int Try.underlying3 (hval 1 3 v1 rfl rfl) h1
  clear hA0 hval0
  simp only [List.append_nil] at hW'
  refine (cut_walk a0 n0 c0 b0 a1 W hb0 hn0 (i64_of w1).1 (i64_of w1).2).mono fun e W' ⟨he, hg⟩ => ?_
  subst he
  exact ⟨_, rfl, law_post hW' (fun _ _ _ => (trodAll_cons_mk (shut_bool Try.underlying4 _) trodAll_mk0)) (trodAll_cons_mk (Below.trod laidOut (by kernel_rfl) (by decide +kernel) h0 hg (fun x hx => hlt x (by simp [hx]))) (trodAll_cons_mk (shut_int Try.underlying3 w1) trodAll_mk0)) rfl (by simp) hg⟩

theorem cut_holds : Rows.EncCutSaid :=
  OpenClaim.holds_of_wide 5 Try.f5 rfl rfl rfl rfl rfl rfl rfl ⟨rfl, rfl, rfl, rfl, rfl⟩ rfl rfl rfl rfl rfl (by kernel_rfl) Try.func5 (by kernel_rfl)
    (of_decide_eq_true (by kernel_rfl)) (by unfold Func.isWrapper; first | (rw [if_pos (by decide +kernel)]; kernel_rfl) | (rw [if_neg (by decide +kernel)]; exact ⟨rfl, rfl⟩))
    (fun os started H enc _ => cut_lifted os started H enc)
#print axioms cut_holds

end Go.Proofs.Ytggkemgbacddgaa
