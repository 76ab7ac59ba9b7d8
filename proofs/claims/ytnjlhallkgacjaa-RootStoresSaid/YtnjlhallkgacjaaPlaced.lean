/- Blocks at their places, and what a disk without a root is. -/
import Derived.Test.YtnjlhallkgacjaaDec
import Derived.Deep.CutBlock
import Derived.Deep.DeepCutAuto
namespace Go.Proofs.Ytnjlhallkgacjaa
open Go.RowKit

set_option maxHeartbeats 400000 in
theorem wo_55 (w : World) : Calls Try.prog 34 #[.int .i64 5, .int .i64 5] w fun x w' => x = .returned (.int .i64 5) ∧ w = w' := by
  go_enter Try.func34, Try.ntmps34
  go_wp2_with fail
  go_ret
  exact ⟨rfl, rfl⟩
set_option maxHeartbeats 400000 in
theorem wo_54 (w : World) : Calls Try.prog 34 #[.int .i64 5, .int .i64 4] w fun x w' => x = .returned (.int .i64 5) ∧ w = w' := by
  go_enter Try.func34, Try.ntmps34
  go_wp2_with fail
  go_ret
  exact ⟨rfl, rfl⟩
set_option maxHeartbeats 400000 in
theorem wo_5o (f : Int) (w : World) (kf5 : (f == 5) = false) (kf4 : (f == 4) = false) : Calls Try.prog 34 #[.int .i64 5, .int .i64 f] w fun x w' => x = .returned (.int .i64 13) ∧ w = w' := by
  go_enter Try.func34, Try.ntmps34
  go_wp2_with fail
  go_ret
  exact ⟨rfl, rfl⟩
set_option maxHeartbeats 400000 in
theorem wo_45 (w : World) : Calls Try.prog 34 #[.int .i64 4, .int .i64 5] w fun x w' => x = .returned (.int .i64 5) ∧ w = w' := by
  go_enter Try.func34, Try.ntmps34
  go_wp2_with fail
  go_ret
  exact ⟨rfl, rfl⟩
set_option maxHeartbeats 400000 in
theorem wo_44 (w : World) : Calls Try.prog 34 #[.int .i64 4, .int .i64 4] w fun x w' => x = .returned (.int .i64 13) ∧ w = w' := by
  go_enter Try.func34, Try.ntmps34
  go_wp2_with fail
  go_ret
  exact ⟨rfl, rfl⟩
set_option maxHeartbeats 400000 in
theorem wo_4o (f : Int) (w : World) (kf5 : (f == 5) = false) (_kf4 : (f == 4) = false) : Calls Try.prog 34 #[.int .i64 4, .int .i64 f] w fun x w' => x = .returned (.int .i64 13) ∧ w = w' := by
  go_enter Try.func34, Try.ntmps34
  go_wp2_with fail
  go_ret
  exact ⟨rfl, rfl⟩
set_option maxHeartbeats 400000 in
theorem wo_o5 (e : Int) (w : World) (ke5 : (e == 5) = false) (ke4 : (e == 4) = false) : Calls Try.prog 34 #[.int .i64 e, .int .i64 5] w fun x w' => x = .returned (.int .i64 13) ∧ w = w' := by
  go_enter Try.func34, Try.ntmps34
  go_wp2_with fail
  go_ret
  exact ⟨rfl, rfl⟩
set_option maxHeartbeats 400000 in
theorem wo_o4 (e : Int) (w : World) (ke5 : (e == 5) = false) (ke4 : (e == 4) = false) : Calls Try.prog 34 #[.int .i64 e, .int .i64 4] w fun x w' => x = .returned (.int .i64 13) ∧ w = w' := by
  go_enter Try.func34, Try.ntmps34
  go_wp2_with fail
  go_ret
  exact ⟨rfl, rfl⟩
set_option maxHeartbeats 400000 in
theorem wo_oo (e : Int) (f : Int) (w : World) (ke5 : (e == 5) = false) (ke4 : (e == 4) = false) (_kf5 : (f == 5) = false) (_kf4 : (f == 4) = false) : Calls Try.prog 34 #[.int .i64 e, .int .i64 f] w fun x w' => x = .returned (.int .i64 13) ∧ w = w' := by
  go_enter Try.func34, Try.ntmps34
  go_wp2_with fail
  go_ret
  exact ⟨rfl, rfl⟩
theorem without_any (e f : Int) (w : World) : Calls Try.prog 34 #[.int .i64 e, .int .i64 f] w fun x w' => x = .returned (.int .i64 (withE e f)) ∧ w = w' := by
  by_cases he5 : e = 5
  · by_cases hf5 : f = 5
    · have HE : Hid (withE e f = 5) := Lib.hid (by unfold withE; simp [he5, hf5])
      rw [HE.out]
      clear HE
      subst he5
      subst hf5
      exact wo_55 w
    · by_cases hf4 : f = 4
      · have HE : Hid (withE e f = 5) := Lib.hid (by unfold withE; simp [he5, hf4])
        rw [HE.out]
        clear HE
        subst he5
        subst hf4
        exact wo_54 w
      · have HE : Hid (withE e f = 13) := Lib.hid (by unfold withE; simp [he5, hf5, hf4])
        rw [HE.out]
        clear HE
        subst he5
        have kf5 : (f == 5) = false := by rw [beq_eq_false_iff_ne]; exact hf5
        have kf4 : (f == 4) = false := by rw [beq_eq_false_iff_ne]; exact hf4
        exact wo_5o f w kf5 kf4
  · by_cases he4 : e = 4
    · by_cases hf5 : f = 5
      · have HE : Hid (withE e f = 5) := Lib.hid (by unfold withE; simp [he4, hf5])
        rw [HE.out]
        clear HE
        subst he4
        subst hf5
        exact wo_45 w
      · by_cases hf4 : f = 4
        · have HE : Hid (withE e f = 13) := Lib.hid (by unfold withE; simp [he4, hf4])
          rw [HE.out]
          clear HE
          subst he4
          subst hf4
          exact wo_44 w
        · have HE : Hid (withE e f = 13) := Lib.hid (by unfold withE; simp [he4, hf5, hf4])
          rw [HE.out]
          clear HE
          subst he4
          have kf5 : (f == 5) = false := by rw [beq_eq_false_iff_ne]; exact hf5
          have kf4 : (f == 4) = false := by rw [beq_eq_false_iff_ne]; exact hf4
          exact wo_4o f w kf5 kf4
    · by_cases hf5 : f = 5
      · have HE : Hid (withE e f = 13) := Lib.hid (by unfold withE; simp [he5, he4, hf5])
        rw [HE.out]
        clear HE
        have ke5 : (e == 5) = false := by rw [beq_eq_false_iff_ne]; exact he5
        have ke4 : (e == 4) = false := by rw [beq_eq_false_iff_ne]; exact he4
        subst hf5
        exact wo_o5 e w ke5 ke4
      · by_cases hf4 : f = 4
        · have HE : Hid (withE e f = 13) := Lib.hid (by unfold withE; simp [he5, he4, hf4])
          rw [HE.out]
          clear HE
          have ke5 : (e == 5) = false := by rw [beq_eq_false_iff_ne]; exact he5
          have ke4 : (e == 4) = false := by rw [beq_eq_false_iff_ne]; exact he4
          subst hf4
          exact wo_o4 e w ke5 ke4
        · have HE : Hid (withE e f = 13) := Lib.hid (by unfold withE; simp [he5, he4, hf5, hf4])
          rw [HE.out]
          clear HE
          have ke5 : (e == 5) = false := by rw [beq_eq_false_iff_ne]; exact he5
          have ke4 : (e == 4) = false := by rw [beq_eq_false_iff_ne]; exact he4
          have kf5 : (f == 5) = false := by rw [beq_eq_false_iff_ne]; exact hf5
          have kf4 : (f == 4) = false := by rw [beq_eq_false_iff_ne]; exact hf4
          exact wo_oo e f w ke5 ke4 kf5 kf4
set_option maxHeartbeats 800000 in
theorem placed_any (S : ByteArray) (s : List Nat) (k : Int) (w : World) (hS : IsS S s) :
    Calls Try.prog 33 #[.string S, .int .i64 k] w fun e w' => e = .returned (.tuple #[(plR s k).val, .int .i64 (plE s k)]) ∧ Below w.heap.size w w' := by
  have HD := Lib.hid (fun w => decode_any S s w hS)
  have HPR : Hid (plR s k = if decE s = 0 ∧ place (decR s).ep ≠ k then Rt.none_ else decR s) := Lib.hid rfl
  have HPE : Hid (plE s k = if decE s = 0 ∧ place (decR s).ep ≠ k then 13 else decE s) := Lib.hid rfl
  rw [HPR.out, HPE.out]
  clear hS HPR HPE
  generalize decR s = r at *
  generalize decE s = E at *
  have HPL := Lib.hid (fun w => place_any r.ep w)
  obtain ⟨XR, hXR⟩ : ∃ XR, (if E = 0 ∧ place r.ep ≠ k then Rt.none_ else r) = XR := ⟨_, rfl⟩
  obtain ⟨XE, hXE⟩ : ∃ XE : Int, (if E = 0 ∧ place r.ep ≠ k then 13 else E) = XE := ⟨_, rfl⟩
  rw [hXR, hXE]
  generalize hP : place r.ep = P at *
  clear hP
  unfold Rt.val at *
  have HXR := Lib.hid hXR
  have HXE := Lib.hid hXE
  clear hXR hXE
  go_enter Try.func33, Try.ntmps33
  go_wp2_with fail
  have HBX : Hid (RtAt (w.alloc (.cells #[.int .i64 0, .int .i64 0, .int .i64 0, .int .i64 0] 29)) w.heap.size 29 Rt.none_) := Lib.hid (RtAt.new w Rt.none_ 29)
  have HB2 : Hid (Below w.heap.size w (w.alloc (.cells #[.int .i64 0, .int .i64 0, .int .i64 0, .int .i64 0] 29))) := Lib.hid ((Below.refl _ _).alloc (Nat.le_refl _) _)
  refine (HD.out _).mono ?_
  rintro e w3 ⟨rfl, hb⟩
  have HBX3 := Lib.hid (HBX.out.below hb)
  have HB3 := Lib.hid (HB2.out.trans (Below.mono hb (by simp)))
  clear hb HBX HB2 HD
  have hb4 : Below w3.heap.size w3 (w3.alloc (.cells #[.int .i64 r.ep, .int .i64 r.pg, .int .i64 r.dr, .int .i64 r.wd] 29)) := (Below.refl _ _).alloc (Nat.le_refl _) _
  have HR4 := Lib.hid (RtAt.new w3 r 29)
  have HBX4 := Lib.hid (HBX3.out.below hb4)
  have HB4 := Lib.hid (HB3.out.trans (Below.mono hb4 HB3.out.size))
  have hne : w.heap.size ≠ w3.heap.size := by have := HBX3.out.lt; omega
  clear hb4 HBX3 HB3
  go_upto_region 2 with fail
  generalize w3.alloc (.cells #[.int .i64 r.ep, .int .i64 r.pg, .int .i64 r.dr, .int .i64 r.wd] 29) = w4 at *
  generalize w3.heap.size = q at *
  have b0 := HBX4.out.c0
  have b1 := HBX4.out.c1
  have b2 := HBX4.out.c2
  have b3 := HBX4.out.c3
  have bf := HBX4.out.fz
  have r0 := HR4.out.c0
  have r1 := HR4.out.c1
  have r2 := HR4.out.c2
  have r3 := HR4.out.c3
  by_cases hE : E = 0
  · subst hE
    by_cases hP : P = k
    · have hd : (P != k) = false := by simp [hP]
      have hxe : XE = 0 := by rw [← HXE.out, if_neg (fun h => h.2 hP)]
      have hxr : XR = r := by rw [← HXR.out, if_neg (fun h => h.2 hP)]
      subst hxe hxr
      clear hP HXE HXR
      go_wp2_with (go_at_call 15; refine (HPL.out _).mono ?_; rintro e w7 ⟨rfl, rfl⟩)
      exact bodyPost_ret (v := .tuple #[.agg #[.int .i64 XR.ep, .int .i64 XR.pg, .int .i64 XR.dr, .int .i64 XR.wd], .int .i64 0]) (by simp [results, Try.results33, go_sem, b0, b1, b2, b3]) rfl ⟨rfl, (((HB4.out.setCell (Nat.le_refl _) _).setCell (Nat.le_refl _) _).setCell (Nat.le_refl _) _).setCell (Nat.le_refl _) _⟩
    · have hd : (P != k) = true := by simp [hP]
      have hxe : XE = 13 := by rw [← HXE.out, if_pos ⟨rfl, hP⟩]
      have hxr : XR = Rt.none_ := by rw [← HXR.out, if_pos ⟨rfl, hP⟩]
      subst hxe hxr
      clear hP HXE HXR
      go_wp2_with (go_at_call 15; refine (HPL.out _).mono ?_; rintro e w7 ⟨rfl, rfl⟩)
      exact bodyPost_ret (v := .tuple #[.agg #[.int .i64 0, .int .i64 0, .int .i64 0, .int .i64 0], .int .i64 13]) (by simp [results, Try.results33, go_sem, b0, b1, b2, b3]) rfl ⟨rfl, (((HB4.out.setCell (Nat.le_refl _) _).setCell (Nat.le_refl _) _).setCell (Nat.le_refl _) _).setCell (Nat.le_refl _) _⟩
  · have hd : (E == 0) = false := by simp [hE]
    have hxe : XE = E := by rw [← HXE.out, if_neg (fun h => hE h.1)]
    have hxr : XR = r := by rw [← HXR.out, if_neg (fun h => hE h.1)]
    subst hxe hxr
    clear hE HXE HXR
    go_wp2_with fail
    exact bodyPost_ret (v := .tuple #[.agg #[.int .i64 XR.ep, .int .i64 XR.pg, .int .i64 XR.dr, .int .i64 XR.wd], .int .i64 XE]) (by simp [results, Try.results33, go_sem, b0, b1, b2, b3]) rfl ⟨rfl, (((HB4.out.setCell (Nat.le_refl _) _).setCell (Nat.le_refl _) _).setCell (Nat.le_refl _) _).setCell (Nat.le_refl _) _⟩
end Go.Proofs.Ytnjlhallkgacjaa
