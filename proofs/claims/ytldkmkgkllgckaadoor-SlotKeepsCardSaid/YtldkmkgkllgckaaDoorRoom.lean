/- How long a record may be that can be added. -/
import Derived.Test.YtldkmkgkllgckaaDoorGet
set_option linter.unusedSimpArgs false
namespace Go.Proofs.YtldkmkgkllgckaaDoor
open Go.RowKit

section
variable {w : World} {g : Nat} {v : Value} {l : List Sl}
theorem room_nil (w : World) : Calls Tryd.prog 18 #[.pointer none] w fun e w' => e = .returned (.int .i64 (-1)) ∧ Below w.heap.size w w' := by
  go_enter Tryd.func18, Tryd.ntmps18
  go_wp2_with fail
  go_ret
  exact ⟨rfl, Below.refl _ _⟩
theorem left_le (l : List Sl) : left l ≤ 511 := by unfold left need; omega
set_option maxHeartbeats 1600000 in
theorem room_any (h : Pg0 w g v l) : Calls Tryd.prog 18 #[.pointer (some ⟨g, 0, none⟩)] w fun e w' => e = .returned (.int .i64 (room l)) ∧ Below w.heap.size w w' := by
  have HN := Lib.hid (next_any h)
  have HL : Hid (∀ w1, Below w.heap.size w w1 → Calls Tryd.prog 24 #[.pointer (some ⟨g, 0, none⟩)] w1 fun e w' => e = .returned (.int .i64 (left l)) ∧ Below w1.heap.size w1 w') := Lib.hid (fun w1 hb => left_any (h.below hb))
  obtain ⟨q, c, rfl⟩ := h.form
  have c0 := h.c0
  have hl := h.ok.len
  have hg := h.lt
  have hlt := h.ok.left
  have hle := left_le l
  have hi := bareI_le l
  clear h
  obtain ⟨N, HNN⟩ : ∃ N, Hid (l.length = N) := ⟨_, Lib.hid rfl⟩
  obtain ⟨x, HX⟩ : ∃ x, Hid (left l = x) := ⟨_, Lib.hid rfl⟩
  obtain ⟨i, HI⟩ : ∃ i, Hid (bareI l = i) := ⟨_, Lib.hid rfl⟩
  have HR : Hid (room l = if i = 64 ∨ x - (if i = N then 2 else 0) < 0 then -1 else min (x - if i = N then 2 else 0) 480) := Lib.hid (by unfold room room0; rw [HX.out, HI.out, HNN.out])
  rw [HNN.out] at c0 hl hi
  rw [HX.out] at HL hlt hle
  rw [HI.out] at HN hi
  rw [HR.out]
  clear HR HNN HX HI
  by_cases hiN : i = N
  · subst hiN
    rw [if_pos rfl]
    have e1 : ((i : Int) == (i : Int)) = true := by simp
    by_cases h64 : i = 64
    · rw [if_pos (.inl h64)]
      have e2 : ((i : Int) == 64) = true := by simp; omega
      go_enter Tryd.func18, Tryd.ntmps18
      go_wp2_with (go_at_call 26; refine HN.out.mono ?_; rintro e w1 ⟨rfl, hb⟩)
      have HB := Lib.hid hb
      clear hb
      have c1 := (HB.out.cell (p := ⟨g, 0, none⟩) hg).trans c0
      go_wp2_with (go_at_call 24; refine (HL.out _ HB.out).mono ?_; rintro e w2 ⟨rfl, hb⟩; have HB2 := Lib.hid (HB.out.trans (hb.mono HB.out.size)); clear hb c1; have c2 := (HB2.out.cell (p := ⟨g, 0, none⟩) hg).trans c0)
      go_ret
      exact ⟨rfl, HB2.out⟩
    · have e2 : ((i : Int) == 64) = false := by simp; omega
      by_cases hx : x - 2 < 0
      · rw [if_pos (.inr hx)]
        go_enter Tryd.func18, Tryd.ntmps18
        go_wp2_with (go_at_call 26; refine HN.out.mono ?_; rintro e w1 ⟨rfl, hb⟩)
        have HB := Lib.hid hb
        clear hb
        have c1 := (HB.out.cell (p := ⟨g, 0, none⟩) hg).trans c0
        go_wp2_with (go_at_call 24; refine (HL.out _ HB.out).mono ?_; rintro e w2 ⟨rfl, hb⟩; have HB2 := Lib.hid (HB.out.trans (hb.mono HB.out.size)); clear hb c1; have c2 := (HB2.out.cell (p := ⟨g, 0, none⟩) hg).trans c0)
        go_ret
        exact ⟨rfl, HB2.out⟩
      · rw [if_neg (by omega)]
        go_enter Tryd.func18, Tryd.ntmps18
        go_wp2_with (go_at_call 26; refine HN.out.mono ?_; rintro e w1 ⟨rfl, hb⟩)
        have HB := Lib.hid hb
        clear hb
        have c1 := (HB.out.cell (p := ⟨g, 0, none⟩) hg).trans c0
        go_wp2_with (go_at_call 24; refine (HL.out _ HB.out).mono ?_; rintro e w2 ⟨rfl, hb⟩; have HB2 := Lib.hid (HB.out.trans (hb.mono HB.out.size)); clear hb c1; have c2 := (HB2.out.cell (p := ⟨g, 0, none⟩) hg).trans c0)
        all_goals
          go_ret
          refine ⟨?_, HB2.out⟩
          exact congrArg (fun z : Int => Ending.returned (Value.int IntKind.i64 z)) (by omega)
  · rw [if_neg hiN]
    have e1 : ((i : Int) == (N : Int)) = false := by simp; omega
    have e2 : ((i : Int) == 64) = false := by simp; omega
    have e3 : ¬ x < 0 := by omega
    rw [if_neg (by omega)]
    have hxx : x - 0 = x := Int.sub_zero x
    rw [hxx]
    clear hxx
    go_enter Tryd.func18, Tryd.ntmps18
    go_wp2_with (go_at_call 26; refine HN.out.mono ?_; rintro e w1 ⟨rfl, hb⟩)
    have HB := Lib.hid hb
    clear hb
    have c1 := (HB.out.cell (p := ⟨g, 0, none⟩) hg).trans c0
    go_wp2_with (go_at_call 24; refine (HL.out _ HB.out).mono ?_; rintro e w2 ⟨rfl, hb⟩; have HB2 := Lib.hid (HB.out.trans (hb.mono HB.out.size)); clear hb c1; have c2 := (HB2.out.cell (p := ⟨g, 0, none⟩) hg).trans c0)
    all_goals
      go_ret
      refine ⟨?_, HB2.out⟩
      exact congrArg (fun z : Int => Ending.returned (Value.int IntKind.i64 z)) (by omega)
end
end Go.Proofs.YtldkmkgkllgckaaDoor
