/- What the rows of all these laws share; the chapter's examples. -/
import Derived.Test.YtnjlhallkgacjaaRows
import Derived.Test.YtnjlhallkgacjaaNewest
import Derived.Deep.Slices
import Derived.ProofKit
import Derived.OpenShut
import Derived.ChangeSame
import Derived.SizedLaws
import Derived.Carry
import Derived.Lib.SmallJoins
namespace Go.Proofs.Ytnjlhallkgacjaa
open Go.ChangeShapes Go.WideShapes Go.ChangeAt Go.RowKit

theorem own : ownKnob Try.prog.godebug = none := by kernel_rfl
theorem laidOut : laidOutB Try.prog = true := by kernel_rfl
theorem cells23 : Try.prog.cellsOf 23 = 4 := by kernel_rfl

section
variable {H : Type} {enc : TypeId × Value → H}

/-- A call that leaves all that was there as it was meets the row's post. -/
theorem law_post {P : Program} {f : Func} {s : ChangeSpec} {apart fresh handsOn : Bool} {W W' : World} {args : Array Value} {v : Value} {ds gs : List (DataW H)} {before pa pv : List MemPlace}
    (hW : DataW.Whole enc P f.params.toList s.vars apart W args.toList ds gs before)
    (hres : ∀ (b : Nat) (sp : Nat → Bool) (hd : Bool), DataW.TrodAll enc P W' b sp hd f.resultTypes.toList (v.resultList f.resultTypes.size) (s.fn H (ds ++ gs)).results [])
    (hargs : DataW.TrodAll enc P W' 0 (fun b => decide (b < W.heap.size)) true f.params.toList args.toList (s.fn H (ds ++ gs)).args pa)
    (hvars : DataW.TrodVars enc P W' (fun b => decide (b < W.heap.size)) s.vars (s.fn H (ds ++ gs)).vars pv)
    (hps : before = pa ++ pv) (hb : Below W.heap.size W W') : s.post enc P f apart fresh handsOn false W args v W' :=
  ⟨ds, gs, before, [], pa, pv, hW, hres _ _ _, hargs, hvars, World.keptBut_mono (fun p hp => ⟨hp, .inr (List.mem_append.1 (hps ▸ hp))⟩) (hb.frame (· ∈ before)), fun h => by cases h⟩
end
theorem i64_of {n : Int} (h : (Lit.int .i64 n).wf = true) : -9223372036854775808 ≤ n ∧ n ≤ 9223372036854775807 := by
  simp only [Lit.wf, Bool.and_eq_true, decide_eq_true_eq] at h
  exact h
theorem u32_of {n : Int} (h : (Lit.int .u32 n).wf = true) : 0 ≤ n ∧ n < 4294967296 := by
  simp only [Lit.wf, Bool.and_eq_true, decide_eq_true_eq] at h
  have h1 := h.1
  have h2 := h.2
  simp [IntKind.max, IntKind.min, IntKind.bits, IntKind.signed] at h1 h2
  omega
/-- A root of four ints. -/
structure Ints (r : Rt) : Prop where
  e0 : -9223372036854775808 ≤ r.ep
  e1 : r.ep ≤ 9223372036854775807
  p0 : -9223372036854775808 ≤ r.pg
  p1 : r.pg ≤ 9223372036854775807
section
variable {H : Type} {enc : TypeId × Value → H}
theorem open_root {W : World} {base : Nat} {v : Value} {d : DataW H} {p : List MemPlace} (hval : Value.okWide Try.prog W .any base 23 v) (h : DataW.Trod enc Try.prog W 0 (fun _ => true) true 23 v d p) :
    ∃ r : Rt, v = r.val ∧ Ints r := by
  obtain ⟨v0, v1, v2, v3, y0, y1, y2, y3, n, rfl, _, _, h0, h1, h2, h3⟩ := Go.Joins.open_agg4 Try.underlying23 (by kernel_rfl) cells23 hval h
  obtain ⟨z0, e0, _, w0⟩ := DataW.trod_int Try.underlying3 h0
  obtain ⟨z1, e1, _, w1⟩ := DataW.trod_int Try.underlying3 h1
  obtain ⟨z2, e2, _, w2⟩ := DataW.trod_int Try.underlying3 h2
  obtain ⟨z3, e3, _, w3⟩ := DataW.trod_int Try.underlying3 h3
  have e0' : v0 = .int .i64 z0 := by simpa using e0
  have e1' : v1 = .int .i64 z1 := by simpa using e1
  have e2' : v2 = .int .i64 z2 := by simpa using e2
  have e3' : v3 = .int .i64 z3 := by simpa using e3
  subst e0' e1' e2' e3'
  exact ⟨⟨z0, z1, z2, z3⟩, rfl, (i64_of w0).1, (i64_of w0).2, (i64_of w1).1, (i64_of w1).2⟩
end
theorem open_str {W : World} {base : Nat} {v : Value} (hval : Value.okWide Try.prog W .any base 9 v) : ∃ S : ByteArray, v = .string S := by
  obtain ⟨S, rfl⟩ := okWide_string Try.underlying9 hval
  exact ⟨S, rfl⟩
theorem newest_zeros (w : World) (Z : ByteArray) (hZ : IsS Z zs128) : Calls Try.prog 19 #[.string Z, .string Z] w fun e w' => e = .returned (.tuple #[Rt.none_.val, Rt.none_.val, .int .i64 5]) ∧ Below w.heap.size w w' := by
  have h := newest_any Z Z w zs128 zs128 hZ hZ
  have hE : decE zs128 = 5 := by unfold decE; rw [if_neg (by unfold zs128; rw [List.length_replicate]; simp), if_pos rfl]
  have hp : ∀ k, plE zs128 k = 5 := fun k => by unfold plE; rw [if_neg (fun h => by rw [hE] at h; exact absurd h.1 (by decide)), hE]
  have hn := nw_none (a := zs128) (b := zs128) (by rw [hp]; decide) (by rw [hp]; decide) (by rw [hp]; decide) (by rw [hp]; decide)
  rw [hp, hp] at hn
  have hw : withE 5 5 = 5 := by decide
  rw [hn.1, hn.2.1, hn.2.2, hw] at h
  exact h
set_option maxHeartbeats 800000 in
theorem lives_any (w : World) : Calls Try.prog 8 #[] w fun e w' => e = .returned (.bool true) ∧ Below w.heap.size w w' := by
  obtain ⟨i0, hi, hz0, hz1, hz2⟩ := info_parts Try.info5
  have HI := Lib.hid hi
  have HZ0 := Lib.hid hz0
  have HZ1 := Lib.hid hz1
  have HZ2 := Lib.hid hz2
  clear hi hz0 hz1 hz2
  have hp1 : place 1 = 4 := by decide
  have hp2 : place 2 = 0 := by decide
  obtain ⟨Z, HZS⟩ : ∃ Z, Hid (strB zs128 = Z) := ⟨_, Lib.hid rfl⟩
  have HNZ := Lib.hid (fun w => newest_zeros w Z (by rw [← HZS.out]; exact IsS.mk_ zs128 zs_dig))
  unfold Rt.val Rt.none_ at HNZ
  go_enter Try.func8, Try.ntmps8
  go_wp2_with (refine wpList_make_full _ rfl _ _ 45 rfl 0 5 i0 (.int .u8 0) 1 Try.underlying45 HI.out HZ0.out HZ1.out .i64 .i64 128 128 128 rfl rfl rfl rfl (by rw [HZ2.out]; omega) (by unfold maxLen; omega) (Nat.zero_le _) ?_)
  intro w2 hown hgrow
  have HB2 : Hid (Below w.heap.size w w2) := Lib.hid ((Below.refl _ _).grown hgrow (Nat.le_refl _) (fun k e => by cases e))
  have hcv := zeros_conv hown
  clear hown hgrow HI HZ0 HZ1 HZ2
  rw [HZS.out] at hcv
  go_wp2_with fail
  refine (HNZ.out _).mono ?_
  rintro e w3 ⟨rfl, hb⟩
  have HB3 := Lib.hid (HB2.out.trans (Below.mono hb HB2.out.size))
  clear hb hcv HB2 HNZ
  go_wp2_with (go_at_call 15; refine (place_any _ _).mono ?_; rintro e w7 ⟨rfl, rfl⟩)
  go_ret
  exact ⟨rfl, (HB3.out.alloc HB3.out.size _).alloc (Nat.le_trans HB3.out.size (by simp)) _⟩
end Go.Proofs.Ytnjlhallkgacjaa
