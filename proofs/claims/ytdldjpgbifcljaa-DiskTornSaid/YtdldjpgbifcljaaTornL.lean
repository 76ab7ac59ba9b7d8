/- The law DiskTorn returns true for any steps; each argument reads behind the call as it read. -/
import Derived.Test.YtdldjpgbifcljaaOpsOpen
import Derived.Test.YtdldjpgbifcljaaTornA
import Derived.Test.YtdldjpgbifcljaaTorn
namespace Go.Proofs.Ytdldjpgbifcljaa
open Go.ChangeShapes Go.WideShapes Go.ChangeAt Go.RowKit

theorem torn_walk (a0 : Option Addr) (n0 c0 : Nat) (f0 : Nat → Opv) (o : Opv) (W : World) (hn0 : n0 ≤ 9223372036854775807) (hO0 : Ops W a0 n0 f0) (_hB : OpB o) (hK : Kp W o.p o.nk o.keep) :
    Calls Try.prog 5 #[.slice a0 n0 c0, o.val] W fun e w' => e = .returned (.bool true) ∧ Below W.heap.size W w' := by
  by_cases h : Light n0 f0 ∧ o.nk ≤ 100
  · by_cases hx : 0 ≤ o.torn ∧ o.torn < (runM (newM 4) f0 n0).row.length ∧ (runM (newM 4) f0 n0).down = false
    · exact torn_short a0 n0 c0 f0 o W hO0 h.1 h.2 hK (Lib.hid hx)
    · exact torn_light a0 n0 c0 f0 o W hO0 h.1 h.2 hK (Lib.hid hx)
  · exact torn_heavy a0 n0 c0 f0 o W hn0 hO0 h
set_option maxRecDepth 100000 in
theorem torn_lifted (os : Os) (started : os.Started) (H : Type) (enc : TypeId × Value → H) :
    ReturnsInHanded {} Try.checked os 5 .any (fun w args => Rows.diskTornSpec.pre enc Try.prog Try.f5 [] false w args ∧ sizedMet enc Try.prog Try.f5 (OpenSpec.ofChange Rows.diskTornSpec) false w args)
      (Rows.diskTornSpec.post enc Try.prog Try.f5 false true false false) := by
  refine returnsInHanded_of_change_sized (C := Try.checked) own started (by kernel_rfl) Try.func5
    (ChangeSpec.witness6 (enc := enc) (C := Try.checked) false ⟨#[], #[.slice none 0 0, .agg #[.int .i64 0, .int .i64 0, .int .i64 0, .int .i64 0, .int .i64 0, .int .u8 0, .slice none 0 0]], []⟩ 8 (by kernel_rfl) (by kernel_rfl) (by kernel_rfl) (by kernel_rfl)) ?_
  intro W base args ds gs before hval0 hW _ hsz0 _
  have hval : ∀ (j : Nat) t v, Try.f5.params[j]? = some t → args[j]? = some v → Value.okWide Try.prog W .any base t v := hval0
  have hlt := fun x hx => hW.lt (p := x) hx
  have hW' := hW
  obtain ⟨p, q, hA0, hV, rfl, hfz, hnd⟩ := hW
  have hA : DataW.TrodAll enc Try.prog W 0 (fun _ => true) true Try.f5.params.toList args.toList ds p := hA0
  have hsz : (DataW.weightsEach Try.prog (Try.f5.params.toList ++ Rows.diskTornSpec.plain.varTypes Try.prog) (ds ++ gs)).all (· ≤ reachBytes) = true := hsz0
  rw [Try.params5] at hA hval hsz
  obtain ⟨v0, vs0, d0, ds0, p0, q0, hargs, rfl, rfl, h0, r0⟩ := trodAll_cons hA
  obtain ⟨v1, vs1, d1, ds1, p1, q1, rfl, rfl, rfl, h1, r1⟩ := trodAll_cons r0
  obtain ⟨rfl, rfl, rfl⟩ := trodAll_nil r1
  obtain rfl : args = #[v0, v1] := by cases args; simp_all
  obtain ⟨rfl, rfl⟩ := trodVars_none hV
  obtain ⟨a0, n0, c0, b0, rfl, hb0, hn0⟩ := open_ops (hval 0 22 v0 rfl rfl) h0
  obtain ⟨b1, rfl, hb1, hk1⟩ := open_op (hval 1 39 v1 rfl rfl) h1
  clear hA0 hval0
  simp only [List.append_nil] at hW'
  refine (torn_walk a0 n0 c0 b0 b1 W hn0 hb0 hb1 hk1).mono fun e W' ⟨he, hg⟩ => ?_
  subst he
  exact ⟨_, rfl, law_post hW' (fun _ _ _ => (trodAll_cons_mk (shut_bool Try.underlying4 _) trodAll_mk0)) (trodAll_cons_mk (Below.trod laidOut (by kernel_rfl) (by decide +kernel) h0 hg (fun x hx => hlt x (by simp [hx]))) (trodAll_cons_mk (Below.trod laidOut (by kernel_rfl) (by decide +kernel) h1 hg (fun x hx => hlt x (by simp [hx]))) trodAll_mk0)) rfl (by simp) hg⟩

theorem torn_holds : Rows.DiskTornSaid :=
  OpenClaim.holds_of_wide 5 Try.f5 rfl rfl rfl rfl rfl rfl rfl ⟨rfl, rfl, rfl, rfl, rfl⟩ rfl rfl rfl rfl rfl (by kernel_rfl) Try.func5 (by kernel_rfl)
    (of_decide_eq_true (by kernel_rfl)) (by unfold Func.isWrapper; first | (rw [if_pos (by decide +kernel)]; kernel_rfl) | (rw [if_neg (by decide +kernel)]; exact ⟨rfl, rfl⟩))
    (fun os started H enc _ => torn_lifted os started H enc)
#print axioms torn_holds

end Go.Proofs.Ytdldjpgbifcljaa
