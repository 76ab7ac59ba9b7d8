/- What the small calls on roots return. -/
import Derived.Test.YtnjlhallkgacjaaMdl
import Derived.Test.YtnjlhallkgacjaaStr
import Derived.Deep.QuietTactic
import Derived.BigQuiet
import Derived.Laws.Rows
namespace Go.Proofs.Ytnjlhallkgacjaa
open Go.RowKit

/-- A root as a value. -/
def Rt.val (r : Rt) : Value := .agg #[.int .i64 r.ep, .int .i64 r.pg, .int .i64 r.dr, .int .i64 r.wd]
set_option maxHeartbeats 400000 in
theorem mayE_any (e : Int) (w : World) : Calls Try.prog 30 #[.int .i64 e] w fun x w' => x = .returned (.bool (mayE e)) ∧ w = w' := by
  by_cases h1 : 1 ≤ e
  · have HE : Hid (mayE e = decide (e ≤ 4611686018427387904)) := Lib.hid (by unfold mayE; simp [h1])
    rw [HE.out]
    go_enter Try.func30, Try.ntmps30
    go_wp2_with fail
    go_ret
    exact ⟨rfl, rfl⟩
  · have HE : Hid (mayE e = false) := Lib.hid (by unfold mayE; simp [h1])
    have hd : decide ((1 : Int) ≤ e) = false := decide_eq_false h1
    rw [HE.out]
    clear h1
    go_enter Try.func30, Try.ntmps30
    go_wp2_with fail
    go_ret
    exact ⟨rfl, rfl⟩
set_option maxHeartbeats 400000 in
theorem place_any (e : Int) (w : World) : Calls Try.prog 15 #[.int .i64 e] w fun x w' => x = .returned (.int .i64 (place e)) ∧ w = w' := by
  have HM := Lib.hid (mayE_any e w)
  by_cases h : mayE e = true
  · rw [h] at HM
    have he : 1 ≤ e ∧ e ≤ 4611686018427387904 := by unfold mayE at h; simpa using h
    by_cases h2 : e % 2 = 1
    · have HE : Hid (place e = 4) := Lib.hid (by unfold place; rw [if_pos h, if_pos h2])
      have hd : (e % 2 == 1) = true := by rw [beq_iff_eq]; exact h2
      rw [HE.out]
      clear h h2 HE
      go_enter Try.func15, Try.ntmps15
      go_wp2_with (go_at_call 30; refine HM.out.mono ?_; rintro e w' ⟨rfl, rfl⟩)
      go_ret
      exact ⟨rfl, rfl⟩
    · have HE : Hid (place e = 0) := Lib.hid (by unfold place; rw [if_pos h, if_neg h2])
      have hd : (e % 2 == 1) = false := by rw [beq_eq_false_iff_ne]; exact h2
      rw [HE.out]
      clear h h2 HE
      go_enter Try.func15, Try.ntmps15
      go_wp2_with (go_at_call 30; refine HM.out.mono ?_; rintro e w' ⟨rfl, rfl⟩)
      go_ret
      exact ⟨rfl, rfl⟩
  · have h0 : mayE e = false := by simpa using h
    have HE : Hid (place e = -1) := Lib.hid (by unfold place; rw [if_neg h])
    rw [h0] at HM
    rw [HE.out]
    clear h h0 HE
    go_enter Try.func15, Try.ntmps15
    go_wp2_with (go_at_call 30; refine HM.out.mono ?_; rintro e w' ⟨rfl, rfl⟩)
    go_ret
    exact ⟨rfl, rfl⟩
set_option maxHeartbeats 400000 in
theorem rplace_any (e : Int) (w : World) : Calls Try.prog 16 #[.int .i64 e] w fun x w' => x = .returned (.int .i64 (place e)) ∧ w = w' := by
  by_cases h1 : e < 1
  · have HE : Hid (place e = -1) := Lib.hid (by unfold place mayE; rw [if_neg]; simp; omega)
    rw [HE.out]
    clear HE
    go_enter Try.func16, Try.ntmps16
    go_wp2_with fail
    go_ret
    exact ⟨rfl, rfl⟩
  · have hd : decide (e < 1) = false := decide_eq_false h1
    by_cases h2 : 4611686018427387904 < e
    · have HE : Hid (place e = -1) := Lib.hid (by unfold place mayE; rw [if_neg]; simp; omega)
      rw [HE.out]
      clear HE
      go_enter Try.func16, Try.ntmps16
      go_wp2_with fail
      go_ret
      exact ⟨rfl, rfl⟩
    · have hd2 : decide (4611686018427387904 < e) = false := decide_eq_false h2
      have HE : Hid (place e = 4 * (e % 2)) := Lib.hid (by
        unfold place mayE
        rw [if_pos (by simp; omega)]
        split <;> omega)
      rw [HE.out]
      clear HE
      go_enter Try.func16, Try.ntmps16
      go_wp2_with fail
      go_ret
      exact ⟨rfl, rfl⟩

/-- A root that lies in a box, of the program's type (29) or the document's (23). -/
def RtAt (w : World) (b t : Nat) (r : Rt) : Prop := w.heap[b]? = some (.cells #[.int .i64 r.ep, .int .i64 r.pg, .int .i64 r.dr, .int .i64 r.wd] t (0, 0))
section
variable {w : World} {b t : Nat} {r : Rt}
theorem RtAt.c0 (h : RtAt w b t r) : w.cell? ⟨b, 0, none⟩ = some (.int .i64 r.ep) := by rw [cell_of_row w b 0 _ _ _ h]; rfl
theorem RtAt.c1 (h : RtAt w b t r) : w.cell? ⟨b, 1, none⟩ = some (.int .i64 r.pg) := by rw [cell_of_row w b 1 _ _ _ h]; rfl
theorem RtAt.c2 (h : RtAt w b t r) : w.cell? ⟨b, 2, none⟩ = some (.int .i64 r.dr) := by rw [cell_of_row w b 2 _ _ _ h]; rfl
theorem RtAt.c3 (h : RtAt w b t r) : w.cell? ⟨b, 3, none⟩ = some (.int .i64 r.wd) := by rw [cell_of_row w b 3 _ _ _ h]; rfl
theorem RtAt.fz (h : RtAt w b t r) (i : Nat) : w.frozen? ⟨b, i, none⟩ = false := frozen_of_row w b i _ _ h
theorem RtAt.lt (h : RtAt w b t r) : b < w.heap.size := by
  rcases Nat.lt_or_ge b w.heap.size with h1 | h1
  · exact h1
  · unfold RtAt at h; rw [Array.getElem?_eq_none h1] at h; cases h
theorem RtAt.below {w' : World} (h : RtAt w b t r) (hb : Below w.heap.size w w') : RtAt w' b t r := (hb.block b h.lt).trans h
theorem RtAt.new (w : World) (r : Rt) (t : Nat) : RtAt (w.alloc (.cells #[.int .i64 r.ep, .int .i64 r.pg, .int .i64 r.dr, .int .i64 r.wd] t)) w.heap.size t r := heap_alloc_new w _
end
set_option maxHeartbeats 400000 in
theorem mine_any (r : Rt) (w : World) : Calls Try.prog 11 #[r.val] w fun e w' => e = .returned r.val ∧ Below w.heap.size w w' := by
  obtain ⟨ep, pg, dr, wd⟩ := r
  unfold Rt.val
  go_enter Try.func11, Try.ntmps11
  go_wp2_with fail
  exact bodyPost_ret (v := .agg #[.int .i64 ep, .int .i64 pg, .int .i64 dr, .int .i64 wd]) (by simp [results, Try.results11, go_sem]) rfl ⟨rfl, ((Below.refl _ _).alloc (Nat.le_refl _) _).alloc (by simp) _⟩
set_option maxHeartbeats 400000 in
theorem theirs_any (r : Rt) (w : World) : Calls Try.prog 17 #[r.val] w fun e w' => e = .returned r.val ∧ Below w.heap.size w w' := by
  obtain ⟨ep, pg, dr, wd⟩ := r
  unfold Rt.val
  go_enter Try.func17, Try.ntmps17
  go_wp2_with fail
  exact bodyPost_ret (v := .agg #[.int .i64 ep, .int .i64 pg, .int .i64 dr, .int .i64 wd]) (by simp [results, Try.results17, go_sem]) rfl ⟨rfl, ((Below.refl _ _).alloc (Nat.le_refl _) _).alloc (by simp) _⟩
set_option maxHeartbeats 400000 in
theorem may_any (r : Rt) (w : World) : Calls Try.prog 14 #[r.val] w fun x w' => x = .returned (.bool (may r)) ∧ Below w.heap.size w w' := by
  obtain ⟨ep, pg, dr, wd⟩ := r
  unfold Rt.val
  have HM := Lib.hid (fun w => mayE_any ep w)
  by_cases h0 : mayE ep = true
  case neg =>
    have HE : Hid (may ⟨ep, pg, dr, wd⟩ = false) := Lib.hid (by
      cases hb : may ⟨ep, pg, dr, wd⟩ with
      | false => rfl
      | true =>
        have hm := may_yes hb
        have q0 := hm.e0
        have q1 := hm.e1
        have q2 := hm.p0
        have q3 := hm.p1
        have q4 := hm.d0
        have q5 := hm.d1
        have q6 := hm.w0
        have q7 := hm.w1
        simp only at q0 q1 q2 q3 q4 q5 q6 q7
        exact absurd (by unfold mayE; simp [q0, q1]) h0)
    rw [HE.out]
    have hb : mayE ep = false := by simpa using h0
    rw [hb] at HM
    clear h0 hb
    clear HE
    go_enter Try.func14, Try.ntmps14
    go_wp2_with (go_at_call 30; refine (HM.out _).mono ?_; rintro e w' ⟨rfl, rfl⟩)
    go_ret
    exact ⟨rfl, (Below.refl _ _).alloc (Nat.le_refl _) _⟩
  rw [h0] at HM
  by_cases h1 : 4 ≤ pg
  case neg =>
    have HE : Hid (may ⟨ep, pg, dr, wd⟩ = false) := Lib.hid (by
      cases hb : may ⟨ep, pg, dr, wd⟩ with
      | false => rfl
      | true =>
        have hm := may_yes hb
        have q0 := hm.e0
        have q1 := hm.e1
        have q2 := hm.p0
        have q3 := hm.p1
        have q4 := hm.d0
        have q5 := hm.d1
        have q6 := hm.w0
        have q7 := hm.w1
        simp only at q0 q1 q2 q3 q4 q5 q6 q7
        omega)
    rw [HE.out]
    have hd : decide (4 ≤ pg) = false := decide_eq_false h1
    clear HE
    go_enter Try.func14, Try.ntmps14
    go_wp2_with (go_at_call 30; refine (HM.out _).mono ?_; rintro e w' ⟨rfl, rfl⟩)
    go_ret
    exact ⟨rfl, (Below.refl _ _).alloc (Nat.le_refl _) _⟩
  by_cases h2 : pg ≤ 512
  case neg =>
    have HE : Hid (may ⟨ep, pg, dr, wd⟩ = false) := Lib.hid (by
      cases hb : may ⟨ep, pg, dr, wd⟩ with
      | false => rfl
      | true =>
        have hm := may_yes hb
        have q0 := hm.e0
        have q1 := hm.e1
        have q2 := hm.p0
        have q3 := hm.p1
        have q4 := hm.d0
        have q5 := hm.d1
        have q6 := hm.w0
        have q7 := hm.w1
        simp only at q0 q1 q2 q3 q4 q5 q6 q7
        omega)
    rw [HE.out]
    have hd : decide (pg ≤ 512) = false := decide_eq_false h2
    clear HE
    go_enter Try.func14, Try.ntmps14
    go_wp2_with (go_at_call 30; refine (HM.out _).mono ?_; rintro e w' ⟨rfl, rfl⟩)
    go_ret
    exact ⟨rfl, (Below.refl _ _).alloc (Nat.le_refl _) _⟩
  by_cases h3 : 2 ≤ dr
  case neg =>
    have HE : Hid (may ⟨ep, pg, dr, wd⟩ = false) := Lib.hid (by
      cases hb : may ⟨ep, pg, dr, wd⟩ with
      | false => rfl
      | true =>
        have hm := may_yes hb
        have q0 := hm.e0
        have q1 := hm.e1
        have q2 := hm.p0
        have q3 := hm.p1
        have q4 := hm.d0
        have q5 := hm.d1
        have q6 := hm.w0
        have q7 := hm.w1
        simp only at q0 q1 q2 q3 q4 q5 q6 q7
        omega)
    rw [HE.out]
    have hd : decide (2 ≤ dr) = false := decide_eq_false h3
    clear HE
    go_enter Try.func14, Try.ntmps14
    go_wp2_with (go_at_call 30; refine (HM.out _).mono ?_; rintro e w' ⟨rfl, rfl⟩)
    go_ret
    exact ⟨rfl, (Below.refl _ _).alloc (Nat.le_refl _) _⟩
  by_cases h4 : dr < pg
  case neg =>
    have HE : Hid (may ⟨ep, pg, dr, wd⟩ = false) := Lib.hid (by
      cases hb : may ⟨ep, pg, dr, wd⟩ with
      | false => rfl
      | true =>
        have hm := may_yes hb
        have q0 := hm.e0
        have q1 := hm.e1
        have q2 := hm.p0
        have q3 := hm.p1
        have q4 := hm.d0
        have q5 := hm.d1
        have q6 := hm.w0
        have q7 := hm.w1
        simp only at q0 q1 q2 q3 q4 q5 q6 q7
        omega)
    rw [HE.out]
    have hd : decide (dr < pg) = false := decide_eq_false h4
    clear HE
    go_enter Try.func14, Try.ntmps14
    go_wp2_with (go_at_call 30; refine (HM.out _).mono ?_; rintro e w' ⟨rfl, rfl⟩)
    go_ret
    exact ⟨rfl, (Below.refl _ _).alloc (Nat.le_refl _) _⟩
  by_cases h5 : 0 ≤ wd
  case neg =>
    have HE : Hid (may ⟨ep, pg, dr, wd⟩ = false) := Lib.hid (by
      cases hb : may ⟨ep, pg, dr, wd⟩ with
      | false => rfl
      | true =>
        have hm := may_yes hb
        have q0 := hm.e0
        have q1 := hm.e1
        have q2 := hm.p0
        have q3 := hm.p1
        have q4 := hm.d0
        have q5 := hm.d1
        have q6 := hm.w0
        have q7 := hm.w1
        simp only at q0 q1 q2 q3 q4 q5 q6 q7
        omega)
    rw [HE.out]
    have hd : decide (0 ≤ wd) = false := decide_eq_false h5
    clear HE
    go_enter Try.func14, Try.ntmps14
    go_wp2_with (go_at_call 30; refine (HM.out _).mono ?_; rintro e w' ⟨rfl, rfl⟩)
    go_ret
    exact ⟨rfl, (Below.refl _ _).alloc (Nat.le_refl _) _⟩
  by_cases h6 : wd ≤ 2147483647
  case neg =>
    have HE : Hid (may ⟨ep, pg, dr, wd⟩ = false) := Lib.hid (by
      cases hb : may ⟨ep, pg, dr, wd⟩ with
      | false => rfl
      | true =>
        have hm := may_yes hb
        have q0 := hm.e0
        have q1 := hm.e1
        have q2 := hm.p0
        have q3 := hm.p1
        have q4 := hm.d0
        have q5 := hm.d1
        have q6 := hm.w0
        have q7 := hm.w1
        simp only at q0 q1 q2 q3 q4 q5 q6 q7
        omega)
    rw [HE.out]
    have hd : decide (wd ≤ 2147483647) = false := decide_eq_false h6
    clear HE
    go_enter Try.func14, Try.ntmps14
    go_wp2_with (go_at_call 30; refine (HM.out _).mono ?_; rintro e w' ⟨rfl, rfl⟩)
    go_ret
    exact ⟨rfl, (Below.refl _ _).alloc (Nat.le_refl _) _⟩
  have HE : Hid (may ⟨ep, pg, dr, wd⟩ = true) := Lib.hid (by
    unfold may
    simp only [Bool.and_eq_true, decide_eq_true_eq]
    exact ⟨⟨⟨⟨⟨⟨h0, h1⟩, h2⟩, h3⟩, h4⟩, h5⟩, h6⟩)
  rw [HE.out]
  clear HE
  go_enter Try.func14, Try.ntmps14
  go_wp2_with (go_at_call 30; refine (HM.out _).mono ?_; rintro e w' ⟨rfl, rfl⟩)
  go_ret
  exact ⟨rfl, (Below.refl _ _).alloc (Nat.le_refl _) _⟩
set_option maxHeartbeats 400000 in
theorem rmay_any (r : Rt) (w : World) : Calls Try.prog 9 #[r.val] w fun x w' => x = .returned (.bool (may r)) ∧ Below w.heap.size w w' := by
  obtain ⟨ep, pg, dr, wd⟩ := r
  unfold Rt.val
  have HM := Lib.hid (fun w => mayE_any ep w)
  by_cases h0 : 1 ≤ ep
  case neg =>
    have HE : Hid (may ⟨ep, pg, dr, wd⟩ = false) := Lib.hid (by
      cases hb : may ⟨ep, pg, dr, wd⟩ with
      | false => rfl
      | true =>
        have hm := may_yes hb
        have q0 := hm.e0
        have q1 := hm.e1
        have q2 := hm.p0
        have q3 := hm.p1
        have q4 := hm.d0
        have q5 := hm.d1
        have q6 := hm.w0
        have q7 := hm.w1
        simp only at q0 q1 q2 q3 q4 q5 q6 q7
        omega)
    rw [HE.out]
    have hd : decide (1 ≤ ep) = false := decide_eq_false h0
    clear HE
    go_enter Try.func9, Try.ntmps9
    go_wp2_with fail
    go_ret
    exact ⟨rfl, (Below.refl _ _).alloc (Nat.le_refl _) _⟩
  by_cases h1 : ep ≤ 4611686018427387904
  case neg =>
    have HE : Hid (may ⟨ep, pg, dr, wd⟩ = false) := Lib.hid (by
      cases hb : may ⟨ep, pg, dr, wd⟩ with
      | false => rfl
      | true =>
        have hm := may_yes hb
        have q0 := hm.e0
        have q1 := hm.e1
        have q2 := hm.p0
        have q3 := hm.p1
        have q4 := hm.d0
        have q5 := hm.d1
        have q6 := hm.w0
        have q7 := hm.w1
        simp only at q0 q1 q2 q3 q4 q5 q6 q7
        omega)
    rw [HE.out]
    have hd : decide (ep ≤ 4611686018427387904) = false := decide_eq_false h1
    clear HE
    go_enter Try.func9, Try.ntmps9
    go_wp2_with fail
    go_ret
    exact ⟨rfl, (Below.refl _ _).alloc (Nat.le_refl _) _⟩
  by_cases h2 : 4 ≤ pg
  case neg =>
    have HE : Hid (may ⟨ep, pg, dr, wd⟩ = false) := Lib.hid (by
      cases hb : may ⟨ep, pg, dr, wd⟩ with
      | false => rfl
      | true =>
        have hm := may_yes hb
        have q0 := hm.e0
        have q1 := hm.e1
        have q2 := hm.p0
        have q3 := hm.p1
        have q4 := hm.d0
        have q5 := hm.d1
        have q6 := hm.w0
        have q7 := hm.w1
        simp only at q0 q1 q2 q3 q4 q5 q6 q7
        omega)
    rw [HE.out]
    have hd : decide (4 ≤ pg) = false := decide_eq_false h2
    clear HE
    go_enter Try.func9, Try.ntmps9
    go_wp2_with fail
    go_ret
    exact ⟨rfl, (Below.refl _ _).alloc (Nat.le_refl _) _⟩
  by_cases h3 : pg ≤ 512
  case neg =>
    have HE : Hid (may ⟨ep, pg, dr, wd⟩ = false) := Lib.hid (by
      cases hb : may ⟨ep, pg, dr, wd⟩ with
      | false => rfl
      | true =>
        have hm := may_yes hb
        have q0 := hm.e0
        have q1 := hm.e1
        have q2 := hm.p0
        have q3 := hm.p1
        have q4 := hm.d0
        have q5 := hm.d1
        have q6 := hm.w0
        have q7 := hm.w1
        simp only at q0 q1 q2 q3 q4 q5 q6 q7
        omega)
    rw [HE.out]
    have hd : decide (pg ≤ 512) = false := decide_eq_false h3
    clear HE
    go_enter Try.func9, Try.ntmps9
    go_wp2_with fail
    go_ret
    exact ⟨rfl, (Below.refl _ _).alloc (Nat.le_refl _) _⟩
  by_cases h4 : 2 ≤ dr
  case neg =>
    have HE : Hid (may ⟨ep, pg, dr, wd⟩ = false) := Lib.hid (by
      cases hb : may ⟨ep, pg, dr, wd⟩ with
      | false => rfl
      | true =>
        have hm := may_yes hb
        have q0 := hm.e0
        have q1 := hm.e1
        have q2 := hm.p0
        have q3 := hm.p1
        have q4 := hm.d0
        have q5 := hm.d1
        have q6 := hm.w0
        have q7 := hm.w1
        simp only at q0 q1 q2 q3 q4 q5 q6 q7
        omega)
    rw [HE.out]
    have hd : decide (2 ≤ dr) = false := decide_eq_false h4
    clear HE
    go_enter Try.func9, Try.ntmps9
    go_wp2_with fail
    go_ret
    exact ⟨rfl, (Below.refl _ _).alloc (Nat.le_refl _) _⟩
  by_cases h5 : dr < pg
  case neg =>
    have HE : Hid (may ⟨ep, pg, dr, wd⟩ = false) := Lib.hid (by
      cases hb : may ⟨ep, pg, dr, wd⟩ with
      | false => rfl
      | true =>
        have hm := may_yes hb
        have q0 := hm.e0
        have q1 := hm.e1
        have q2 := hm.p0
        have q3 := hm.p1
        have q4 := hm.d0
        have q5 := hm.d1
        have q6 := hm.w0
        have q7 := hm.w1
        simp only at q0 q1 q2 q3 q4 q5 q6 q7
        omega)
    rw [HE.out]
    have hd : decide (dr < pg) = false := decide_eq_false h5
    clear HE
    go_enter Try.func9, Try.ntmps9
    go_wp2_with fail
    go_ret
    exact ⟨rfl, (Below.refl _ _).alloc (Nat.le_refl _) _⟩
  by_cases h6 : 0 ≤ wd
  case neg =>
    have HE : Hid (may ⟨ep, pg, dr, wd⟩ = false) := Lib.hid (by
      cases hb : may ⟨ep, pg, dr, wd⟩ with
      | false => rfl
      | true =>
        have hm := may_yes hb
        have q0 := hm.e0
        have q1 := hm.e1
        have q2 := hm.p0
        have q3 := hm.p1
        have q4 := hm.d0
        have q5 := hm.d1
        have q6 := hm.w0
        have q7 := hm.w1
        simp only at q0 q1 q2 q3 q4 q5 q6 q7
        omega)
    rw [HE.out]
    have hd : decide (0 ≤ wd) = false := decide_eq_false h6
    clear HE
    go_enter Try.func9, Try.ntmps9
    go_wp2_with fail
    go_ret
    exact ⟨rfl, (Below.refl _ _).alloc (Nat.le_refl _) _⟩
  by_cases h7 : wd < 2147483648
  case neg =>
    have HE : Hid (may ⟨ep, pg, dr, wd⟩ = false) := Lib.hid (by
      cases hb : may ⟨ep, pg, dr, wd⟩ with
      | false => rfl
      | true =>
        have hm := may_yes hb
        have q0 := hm.e0
        have q1 := hm.e1
        have q2 := hm.p0
        have q3 := hm.p1
        have q4 := hm.d0
        have q5 := hm.d1
        have q6 := hm.w0
        have q7 := hm.w1
        simp only at q0 q1 q2 q3 q4 q5 q6 q7
        omega)
    rw [HE.out]
    have hd : decide (wd < 2147483648) = false := decide_eq_false h7
    clear HE
    go_enter Try.func9, Try.ntmps9
    go_wp2_with fail
    go_ret
    exact ⟨rfl, (Below.refl _ _).alloc (Nat.le_refl _) _⟩
  have HE : Hid (may ⟨ep, pg, dr, wd⟩ = true) := Lib.hid (by
    unfold may
    unfold mayE
    simp only [Bool.and_eq_true, decide_eq_true_eq]
    exact ⟨⟨⟨⟨⟨⟨⟨h0, h1⟩, h2⟩, h3⟩, h4⟩, h5⟩, h6⟩, by omega⟩)
  rw [HE.out]
  clear HE
  go_enter Try.func9, Try.ntmps9
  go_wp2_with fail
  go_ret
  exact ⟨rfl, (Below.refl _ _).alloc (Nat.le_refl _) _⟩
end Go.Proofs.Ytnjlhallkgacjaa
