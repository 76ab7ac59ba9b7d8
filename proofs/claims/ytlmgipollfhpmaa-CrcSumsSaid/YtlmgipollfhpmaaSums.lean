/- The law CrcSums returns true for any bytes and any sum. -/
import Derived.Test.YtlmgipollfhpmaaLaw
import Derived.Test.YtlmgipollfhpmaaRMore
namespace Go.Proofs.Ytlmgipollfhpmaa
open Go.ChangeShapes Go.WideShapes Go.ChangeAt Go.RowKit

set_option maxHeartbeats 400000 in
theorem sums_long (p : Option Addr) (n c : Nat) (s : Int) (w : World) (hn : 400 < n) (hm : n ≤ 140737488351232) :
    Calls Try.prog 3 #[.slice p n c, .int .u32 s] w fun e w' => e = .returned (.bool true) ∧ Below w.heap.size w w' := by
  have hd : decide ((400 : Int) < (n : Int)) = true := decide_eq_true (by omega)
  go_enter Try.func3, Try.ntmps3
  go_wp2_with fail
  refine (lives_any _).mono ?_
  rintro e w1 ⟨rfl, hb⟩
  have HB := Lib.hid hb
  clear hb
  go_wp2_with fail
  go_ret
  exact ⟨rfl, HB.out⟩

set_option maxHeartbeats 800000 in
theorem sums_short (p : Option Addr) (n c s : Nat) (bs : List Nat) (w : World) (hn : n ≤ 400) (hs : s < 4294967296) (hB : Bys w p n bs) :
    Calls Try.prog 3 #[.slice p n c, .int .u32 s] w fun e w' => e = .returned (.bool true) ∧ Below w.heap.size w w' := by
  have hd : decide ((400 : Int) < (n : Int)) = false := decide_eq_false (by omega)
  have HB := Lib.hid hB
  clear hB
  obtain ⟨S0, HS0⟩ : ∃ S, Hid (more 0 bs = S) := ⟨_, rfl⟩
  obtain ⟨S1, HS1⟩ : ∃ S, Hid (more s bs = S) := ⟨_, rfl⟩
  go_enter Try.func3, Try.ntmps3
  go_wp2_with fail
  refine (sum_any p n c bs _ (by omega) HB.out).mono ?_
  rintro e w1 ⟨rfl, rfl⟩
  rw [HS0.out]
  go_wp2_with fail
  refine (rmore_any 0 p n c bs _ (by omega) (by omega) HB.out).mono ?_
  rintro e w1 ⟨rfl, hb⟩
  rw [HS0.out]
  have HW := Lib.hid hb
  clear hb
  go_wp2_with fail
  refine (more_any s p n c bs _ hs (by omega) (HB.out.below HW.out)).mono ?_
  rintro e w2 ⟨rfl, rfl⟩
  rw [HS1.out]
  go_wp2_with fail
  refine (rmore_any s p n c bs _ hs (by omega) (HB.out.below HW.out)).mono ?_
  rintro e w2 ⟨rfl, hb⟩
  rw [HS1.out]
  have HW2 := Lib.hid (HW.out.trans (hb.mono HW.out.size))
  clear hb
  go_wp2_with fail
  refine (lives_any _).mono ?_
  rintro e w3 ⟨rfl, hb⟩
  have HZ := Lib.hid (HW2.out.trans (hb.mono HW2.out.size))
  clear hb
  go_wp2_with fail
  go_ret
  exact ⟨rfl, HZ.out⟩

theorem sums_walk (p : Option Addr) (n c : Nat) (bs : List Nat) (s : Int) (w : World) (hB : Bys w p n bs) (hn : n ≤ c) (hc : c ≤ 140737488351232) (h3 : 0 ≤ s) (h4 : s < 4294967296) :
    Calls Try.prog 3 #[.slice p n c, .int .u32 s] w fun e w' => e = .returned (.bool true) ∧ Below w.heap.size w w' := by
  by_cases h : 400 < n
  · exact sums_long p n c s w h (by omega)
  · obtain ⟨s, rfl⟩ : ∃ k : Nat, s = k := ⟨s.toNat, by omega⟩
    exact sums_short p n c s bs w (by omega) (by omega) hB

set_option maxRecDepth 100000 in
theorem sums_lifted (os : Os) (started : os.Started) (H : Type) (enc : TypeId × Value → H) :
    ReturnsInHanded {} Try.checked os 3 .any (fun w args => Rows.crcSumsSpec.pre enc Try.prog Try.f3 [] false w args ∧ sizedMet enc Try.prog Try.f3 (OpenSpec.ofChange Rows.crcSumsSpec) false w args)
      (Rows.crcSumsSpec.post enc Try.prog Try.f3 false true false false) := by
  refine returnsInHanded_of_change_sized (C := Try.checked) own started (by kernel_rfl) Try.func3
    (ChangeSpec.witness6 (enc := enc) (C := Try.checked) false ⟨#[], #[.slice none 0 0, .int .u32 0], []⟩ 8 (by kernel_rfl) (by kernel_rfl) (by kernel_rfl) (by kernel_rfl)) ?_
  intro W base args ds gs before hval0 hW _ hsz0 _
  have hval : ∀ (j : Nat) t v, Try.f3.params[j]? = some t → args[j]? = some v → Value.okWide Try.prog W .any base t v := hval0
  have hlt := fun x hx => hW.lt (p := x) hx
  have hW' := hW
  obtain ⟨p, q, hA0, hV, rfl, hfz, hnd⟩ := hW
  have hA : DataW.TrodAll enc Try.prog W 0 (fun _ => true) true Try.f3.params.toList args.toList ds p := hA0
  have hsz : (DataW.weightsEach Try.prog (Try.f3.params.toList ++ Rows.crcSumsSpec.plain.varTypes Try.prog) (ds ++ gs)).all (· ≤ reachBytes) = true := hsz0
  rw [Try.params3] at hA hval hsz
  obtain ⟨v0, vs0, d0, ds0, p0, q0, hargs, rfl, rfl, h0, r0⟩ := trodAll_cons hA
  obtain ⟨v1, vs1, d1, ds1, p1, q1, rfl, rfl, rfl, h1, r1⟩ := trodAll_cons r0
  obtain ⟨rfl, rfl, rfl⟩ := trodAll_nil r1
  obtain rfl : args = #[v0, v1] := by cases args; simp_all
  obtain ⟨rfl, rfl⟩ := trodVars_none hV
  obtain ⟨a0, n0, c0, b0, rfl, hb0, hn0, hc0⟩ := open_bys (hval 0 22 v0 rfl rfl) h0 (fun el sp e => sized_slice hsz (j := 0) rfl (by rw [← e]; rfl) Try.underlying22)
  obtain ⟨a1, rfl, rfl, rfl, w1⟩ := open_int Try.underlying23 (hval 1 23 v1 rfl rfl) h1
  clear hA0 hval0
  simp only [List.append_nil] at hW'
  refine (sums_walk a0 n0 c0 b0 a1 W hb0 hn0 hc0 (u32_of w1).1 (u32_of w1).2).mono fun e W' ⟨he, hg⟩ => ?_
  subst he
  exact ⟨_, rfl, law_post hW' (fun _ _ _ => (trodAll_cons_mk (shut_bool Try.underlying4 _) trodAll_mk0)) (trodAll_cons_mk (Below.trod laidOut (by kernel_rfl) (by decide +kernel) h0 hg (fun x hx => hlt x (by simp [hx]))) (trodAll_cons_mk (shut_int Try.underlying23 w1) trodAll_mk0)) rfl (by simp) hg⟩

theorem sums_holds : Rows.CrcSumsSaid :=
  OpenClaim.holds_of_wide 3 Try.f3 rfl rfl rfl rfl rfl rfl rfl ⟨rfl, rfl, rfl, rfl, rfl⟩ rfl rfl rfl rfl rfl (by kernel_rfl) Try.func3 (by kernel_rfl)
    (of_decide_eq_true (by kernel_rfl)) (by unfold Func.isWrapper; first | (rw [if_pos (by decide +kernel)]; kernel_rfl) | (rw [if_neg (by decide +kernel)]; exact ⟨rfl, rfl⟩))
    (fun os started H enc _ => sums_lifted os started H enc)
#print axioms sums_holds

end Go.Proofs.Ytlmgipollfhpmaa
