/- What Load returns. -/
import Derived.Test.YtnjlhallkgacjaaLBlk
import Derived.Test.YtnjlhallkgacjaaNew
namespace Go.Proofs.Ytnjlhallkgacjaa
open Go.RowKit

theorem Dk.sectors {w : World} {g : Nat} {F : List Nat} {m : Dsk} (h : Dk w g F m) (n : Nat) (hn : m.out.length = n) : Calls Try.prog 35 #[.pointer (some ⟨g, 0, none⟩)] w fun e w' => e = .returned (.int .i64 (n : Int)) ∧ w = w' := by
  obtain ⟨bO, cO, bL, cL, vW, os, ls, ws, h, rfl⟩ := h
  exact sectors_any h n (Lib.hid hn)
theorem Dk.read {w : World} {g : Nat} {F : List Nat} {m : Dsk} (h : Dk w g F m) (i : Int) : Calls Try.prog 36 #[.pointer (some ⟨g, 0, none⟩), .int .i64 i] w fun e w' => e = .returned (.tuple #[.string (strB (readS m i)), .int .i64 (readE m i)]) ∧ w = w' := by
  obtain ⟨bO, cO, bL, cL, vW, os, ls, ws, h, rfl⟩ := h
  exact read_any h i
theorem readS_dig {m : Dsk} (h : Ok m) (i : Int) : ∀ x ∈ readS m i, x < 256 := by
  unfold readS
  split
  · intro x hx; cases hx
  · split
    · intro x hx; cases hx
    · rename_i h1 h2
      have h3 : m.has i = true := by simpa using h2
      unfold Dsk.has at h3
      simp only [Bool.and_eq_true, decide_eq_true_eq] at h3
      exact (h.last _ (sec_mem (by rw [last_len]; omega))).2
def ldE (m : Dsk) : Int := if m.out.length < 16 then 1 else if m.down then 9 else nwE (readS m 0) (readS m 4)
def ldA (m : Dsk) : Rt := if m.out.length < 16 then Rt.none_ else if m.down then Rt.none_ else nwA (readS m 0) (readS m 4)
def ldB (m : Dsk) : Rt := if m.out.length < 16 then Rt.none_ else if m.down then Rt.none_ else nwB (readS m 0) (readS m 4)
theorem results_zero (w : World) (t : Nat) : RtAt ((w.alloc (.cells #[.int .i64 0, .int .i64 0, .int .i64 0, .int .i64 0] t)).alloc (.cells #[.int .i64 0, .int .i64 0, .int .i64 0, .int .i64 0] t)) w.heap.size t Rt.none_ ∧
    RtAt ((w.alloc (.cells #[.int .i64 0, .int .i64 0, .int .i64 0, .int .i64 0] t)).alloc (.cells #[.int .i64 0, .int .i64 0, .int .i64 0, .int .i64 0] t)) (w.heap.size + 1) t Rt.none_ ∧
    Below w.heap.size w ((w.alloc (.cells #[.int .i64 0, .int .i64 0, .int .i64 0, .int .i64 0] t)).alloc (.cells #[.int .i64 0, .int .i64 0, .int .i64 0, .int .i64 0] t)) :=
  ⟨heap_alloc2_old w _ _, heap_alloc2_new w _ _, ((Below.refl _ _).alloc (Nat.le_refl _) _).alloc (by simp) _⟩
set_option maxHeartbeats 800000 in
theorem load_nil (w : World) : Calls Try.prog 21 #[.pointer none] w fun e w' => e = .returned (.tuple #[Rt.none_.val, Rt.none_.val, .int .i64 1]) ∧ Below w.heap.size w w' := by
  unfold Rt.val Rt.none_
  go_enter Try.func21, Try.ntmps21
  go_wp2_with (go_at_call 35; refine (sectors_nil _).mono ?_; rintro e w' ⟨rfl, rfl⟩)
  exact bodyPost_ret (v := .tuple #[.agg #[.int .i64 0, .int .i64 0, .int .i64 0, .int .i64 0], .agg #[.int .i64 0, .int .i64 0, .int .i64 0, .int .i64 0], .int .i64 1]) (by simp [results, Try.results21, go_sem]) rfl ⟨rfl, (results_zero w 29).2.2⟩
set_option maxHeartbeats 1600000 in
theorem load_any {w : World} {g : Nat} {F : List Nat} {m : Dsk} (h : Dk w g F m) :
    Calls Try.prog 21 #[.pointer (some ⟨g, 0, none⟩)] w fun e w' => e = .returned (.tuple #[(ldA m).val, (ldB m).val, .int .i64 (ldE m)]) ∧ Below w.heap.size w w' := by
  have HZ := Lib.hid (results_zero w 29)
  have HD := Lib.hid (h.below (w' := ((w.alloc (.cells #[.int .i64 0, .int .i64 0, .int .i64 0, .int .i64 0] 29)).alloc (.cells #[.int .i64 0, .int .i64 0, .int .i64 0, .int .i64 0] 29))) HZ.out.2.2)
  have HOK := Lib.hid h.ok
  clear h
  by_cases hs : m.out.length < 16
  · have hE : ldE m = 1 := by unfold ldE; rw [if_pos hs]
    have hA : ldA m = Rt.none_ := by unfold ldA; rw [if_pos hs]
    have hB : ldB m = Rt.none_ := by unfold ldB; rw [if_pos hs]
    rw [hE, hA, hB]
    obtain ⟨n, hn⟩ : ∃ n, m.out.length = n := ⟨_, rfl⟩
    have HSE := Lib.hid (HD.out.sectors n hn)
    rw [hn] at hs
    have hs2 : (n : Int) < 16 := by omega
    clear hE hA hB hs
    unfold Rt.val Rt.none_
    go_enter Try.func21, Try.ntmps21
    go_wp2_with (go_at_call 35; refine HSE.out.mono ?_; rintro e w' ⟨rfl, rfl⟩)
    exact bodyPost_ret (v := .tuple #[.agg #[.int .i64 0, .int .i64 0, .int .i64 0, .int .i64 0], .agg #[.int .i64 0, .int .i64 0, .int .i64 0, .int .i64 0], .int .i64 1]) (by simp [results, Try.results21, go_sem]) rfl ⟨rfl, HZ.out.2.2⟩
  · obtain ⟨n, hn⟩ : ∃ n, m.out.length = n := ⟨_, rfl⟩
    have HSE := Lib.hid (HD.out.sectors n hn)
    have HR0 := Lib.hid (HD.out.read 0)
    have HR4 := Lib.hid (HD.out.read 4)
    have hs2 : decide ((n : Int) < 16) = false := decide_eq_false (by omega)
    by_cases hd : m.down = true
    · have hE : ldE m = 9 := by unfold ldE; rw [if_neg hs, if_pos hd]
      have hA : ldA m = Rt.none_ := by unfold ldA; rw [if_neg hs, if_pos hd]
      have hB : ldB m = Rt.none_ := by unfold ldB; rw [if_neg hs, if_pos hd]
      rw [hE, hA, hB]
      rw [show readE m 0 = 9 by unfold readE; rw [if_pos hd]] at HR0
      clear hE hA hB hs HR4 hd hn
      unfold Rt.val Rt.none_
      go_enter Try.func21, Try.ntmps21
      go_wp2_with (first | (go_at_call 35; refine HSE.out.mono ?_; rintro e w' ⟨rfl, rfl⟩) | (go_at_call 36; refine HR0.out.mono ?_; rintro e w' ⟨rfl, rfl⟩))
      exact bodyPost_ret (v := .tuple #[.agg #[.int .i64 0, .int .i64 0, .int .i64 0, .int .i64 0], .agg #[.int .i64 0, .int .i64 0, .int .i64 0, .int .i64 0], .int .i64 9]) (by simp [results, Try.results21, go_sem]) rfl ⟨rfl, HZ.out.2.2⟩
    · have hE : ldE m = nwE (readS m 0) (readS m 4) := by unfold ldE; rw [if_neg hs, if_neg hd]
      have hA : ldA m = nwA (readS m 0) (readS m 4) := by unfold ldA; rw [if_neg hs, if_neg hd]
      have hB : ldB m = nwB (readS m 0) (readS m 4) := by unfold ldB; rw [if_neg hs, if_neg hd]
      rw [hE, hA, hB]
      have h0 : m.has 0 = true := has_true (by omega) (by omega)
      have h4 : m.has 4 = true := has_true (by omega) (by omega)
      rw [show readE m 0 = 0 by unfold readE; rw [if_neg hd, if_neg (by simp [h0])]] at HR0
      rw [show readE m 4 = 0 by unfold readE; rw [if_neg hd, if_neg (by simp [h4])]] at HR4
      have HNW := Lib.hid (fun w => newest_any (strB (readS m 0)) (strB (readS m 4)) w _ _ (IsS.mk_ _ (readS_dig HOK.out 0)) (IsS.mk_ _ (readS_dig HOK.out 4)))
      generalize nwE (readS m 0) (readS m 4) = E at *
      generalize nwA (readS m 0) (readS m 4) = x at *
      generalize nwB (readS m 0) (readS m 4) = y at *
      obtain ⟨A, hA2⟩ : ∃ A, strB (readS m 0) = A := ⟨_, rfl⟩
      obtain ⟨B, hB2⟩ : ∃ B, strB (readS m 4) = B := ⟨_, rfl⟩
      rw [hA2] at HR0 HNW
      rw [hB2] at HR4 HNW
      clear hE hA hB hs hd hn hA2 hB2 h0 h4 HOK
      unfold Rt.val at *
      go_enter Try.func21, Try.ntmps21
      go_upto_region 3 with (go_at_call 35; refine HSE.out.mono ?_; rintro e w' ⟨rfl, rfl⟩)
      have HZ1 := Lib.hid HZ.out.1
      have HZ2 := Lib.hid HZ.out.2.1
      have HZ3 := Lib.hid HZ.out.2.2
      clear HZ HD HSE
      generalize ((w.alloc (.cells #[.int .i64 0, .int .i64 0, .int .i64 0, .int .i64 0] 29)).alloc (.cells #[.int .i64 0, .int .i64 0, .int .i64 0, .int .i64 0] 29)) = w1 at *
      go_wp2_with fail
      refine HR0.out.mono ?_
      rintro e w' ⟨rfl, rfl⟩
      go_wp2_with fail
      refine HR4.out.mono ?_
      rintro e w' ⟨rfl, rfl⟩
      go_wp2_with fail
      refine (HNW.out _).mono ?_
      rintro e w2 ⟨rfl, hb⟩
      have HX := Lib.hid (HZ1.out.below hb)
      have HY := Lib.hid (HZ2.out.below hb)
      have HB2 := Lib.hid (Below.more HZ3.out hb HZ3.out.size)
      clear hb HZ1 HZ2 HZ3 HR0 HR4 HNW
      have k40 := HX.out.c0
      have k41 := HX.out.c1
      have k42 := HX.out.c2
      have k43 := HX.out.c3
      have k50 := HY.out.c0
      have k51 := HY.out.c1
      have k52 := HY.out.c2
      have k53 := HY.out.c3
      have f4 := HX.out.fz
      have f5 := HY.out.fz
      have HF : Hid (Below w.heap.size w (set4 (set4 w2 w.heap.size x) (w.heap.size + 1) y)) := Lib.hid (below_set4 (below_set4 HB2.out (Nat.le_refl _) _) (Nat.le_succ _) _)
      unfold set4 at HF
      clear HX HY HB2
      go_wp2_with fail
      exact bodyPost_ret (v := .tuple #[.agg #[.int .i64 x.ep, .int .i64 x.pg, .int .i64 x.dr, .int .i64 x.wd], .agg #[.int .i64 y.ep, .int .i64 y.pg, .int .i64 y.dr, .int .i64 y.wd], .int .i64 E]) (by simp [results, Try.results21, go_sem, k40, k41, k42, k43, k50, k51, k52, k53]) rfl ⟨rfl, HF.out⟩
end Go.Proofs.Ytnjlhallkgacjaa
