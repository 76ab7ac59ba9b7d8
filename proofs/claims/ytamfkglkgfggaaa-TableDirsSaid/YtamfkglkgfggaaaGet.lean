/- A new table; what a table tells of a page; a page told, and dropped. -/
import Derived.Test.YtamfkglkgfggaaaTbl
set_option linter.unusedSimpArgs false
namespace Go.Proofs.Ytamfkglkgfggaaa
open Go.RowKit

theorem info84 : (Try.prog.info? 84).map (fun i => (i.zero, i.size)) = some (some (.agg (rowA (fun _ => 0) 512)), 512) := by kernel_rfl
theorem info81 : (Try.prog.info? 81).map (fun i => (i.zero, i.size)) = some (some (.agg (rowA (fun _ => 0) 128)), 128) := by kernel_rfl
theorem info25 : (Try.prog.info? 25).map (fun i => (i.zero, i.size)) = some (some (.agg (rowA (fun _ => 0) 512)), 512) := by kernel_rfl
theorem ok0 : Ok fun _ => 0 := fun _ => rfl
theorem new_any (w : World) : Calls Try.prog 17 #[] w fun e w' => e = .returned (.pointer (some ⟨w.heap.size, 0, none⟩)) ∧ Tab w' w.heap.size (fun _ => 0) ∧ Below w.heap.size w w' := by
  obtain ⟨hz, hi⟩ := zero_of_info (P := Try.prog) info84
  have HN : Hid (Tab (w.alloc (.cells (rowA (fun _ => 0) 512) 84)) w.heap.size fun _ => 0) := Lib.hid ⟨heap_alloc_new w _, ok0⟩
  have HB : Hid (Below w.heap.size w (w.alloc (.cells (rowA (fun _ => 0) 512) 84))) := Lib.hid ((Below.refl _ _).alloc (Nat.le_refl _) _)
  generalize rowA (fun _ => 0) 512 = Z at *
  clear hi
  go_enter Try.func17, Try.ntmps17
  go_wp2_with fail
  go_ret
  exact ⟨rfl, HN.out, HB.out⟩
theorem reach_tab (g : Nat) (x : Int) (w : World) : Calls Try.prog 56 #[.pointer (some ⟨g, 0, none⟩), .int .i64 x] w fun e w' => e = .returned (.bool (decide (0 ≤ x) && decide (x < 512))) ∧ w = w' := by
  by_cases h : 0 ≤ x
  · have hd : decide (0 ≤ x) = true := decide_eq_true h
    go_enter Try.func56, Try.ntmps56
    go_wp2_with fail
    go_ret
    exact ⟨by simp [hd], rfl⟩
  · have hd : decide (0 ≤ x) = false := decide_eq_false h
    go_enter Try.func56, Try.ntmps56
    go_wp2_with fail
    go_ret
    exact ⟨by simp [hd], rfl⟩
theorem leaf_tab (g : Nat) (x : Int) (w : World) : Calls Try.prog 34 #[.pointer (some ⟨g, 0, none⟩), .int .i64 x] w fun e w' => e = .returned (.bool (decide (0 ≤ x) && decide (x < 4))) ∧ w = w' := by
  by_cases h : 0 ≤ x
  · have hd : decide (0 ≤ x) = true := decide_eq_true h
    go_enter Try.func34, Try.ntmps34
    go_wp2_with fail
    go_ret
    exact ⟨by simp [hd], rfl⟩
  · have hd : decide (0 ≤ x) = false := decide_eq_false h
    go_enter Try.func34, Try.ntmps34
    go_wp2_with fail
    go_ret
    exact ⟨by simp [hd], rfl⟩
theorem isPage_any (x : Int) (w : World) : Calls Try.prog 57 #[.int .i64 x] w fun e w' => e = .returned (.bool (pgI x)) ∧ w = w' := by
  unfold pgI
  by_cases h : 2 ≤ x
  · have hd : decide (2 ≤ x) = true := decide_eq_true h
    go_enter Try.func57, Try.ntmps57
    go_wp2_with fail
    go_ret
    exact ⟨by simp [hd], rfl⟩
  · have hd : decide (2 ≤ x) = false := decide_eq_false h
    go_enter Try.func57, Try.ntmps57
    go_wp2_with fail
    go_ret
    exact ⟨by simp [hd], rfl⟩
theorem rpage_any (x : Int) (w : World) : Calls Try.prog 38 #[.int .i64 x] w fun e w' => e = .returned (.bool (pgI x)) ∧ w = w' := by
  unfold pgI
  have e : decide (2 ≤ x) = decide (x > 1) := decide_eq_decide.2 (by omega)
  rw [e]
  by_cases h : x > 1
  · have hd : decide (x > 1) = true := decide_eq_true h
    have hd2 : decide (1 < x) = true := decide_eq_true h
    clear e
    go_enter Try.func38, Try.ntmps38
    go_wp2_with fail
    go_ret
    exact ⟨by simp [hd, hd2], rfl⟩
  · have hd : decide (x > 1) = false := decide_eq_false h
    have hd2 : decide (1 < x) = false := decide_eq_false h
    clear e
    go_enter Try.func38, Try.ntmps38
    go_wp2_with fail
    go_ret
    exact ⟨by simp [hd, hd2], rfl⟩
/-- 0, or a page. -/
def mayI (x : Int) : Bool := (x == 0) || pgI x
theorem may_any7 (x : Int) (w : World) : Calls Try.prog 47 #[.int .i64 x] w fun e w' => e = .returned (.bool (mayI x)) ∧ w = w' := by
  unfold mayI
  by_cases h : x = 0
  · subst h
    go_enter Try.func47, Try.ntmps47
    go_wp2_with fail
    go_ret
    exact ⟨rfl, rfl⟩
  · have hd : (x == 0) = false := beq_eq_false_iff_ne.2 h
    go_enter Try.func47, Try.ntmps47
    go_wp2_with (go_at_call 57; refine (isPage_any x _).mono ?_; rintro e w7 ⟨rfl, rfl⟩)
    go_ret
    exact ⟨by rw [hd, Bool.false_or]; rfl, rfl⟩
theorem tdiv_nat (i : Nat) : Int.tdiv (i : Int) 128 = ((i / 128 : Nat) : Int) := by rw [Int.tdiv_eq_ediv_of_nonneg (by omega)]; omega
theorem tmod_nat (i : Nat) : Int.tmod (i : Int) 128 = ((i % 128 : Nat) : Int) := by rw [Int.tmod_eq_emod_of_nonneg (by omega)]; omega
theorem told_int (f : Nat → Nat) (i : Nat) : told f i = !(((f i : Nat) : Int) == 0) := by
  unfold told
  rcases f i with _ | n
  · rfl
  · rfl
set_option maxHeartbeats 800000 in
theorem get_in {w : World} {g : Nat} {f : Nat → Nat} (h : Tab w g f) (i : Nat) (hi : i < 512) : Calls Try.prog 30 #[.pointer (some ⟨g, 0, none⟩), .int .i64 (i : Int)] w fun e w' => e = .returned (.tuple #[.int .i64 ((f i : Nat) : Int), .bool (told f i)]) ∧ w = w' := by
  have hd1 : decide ((0 : Int) ≤ (i : Int)) = true := decide_eq_true (by omega)
  have hd2 : decide ((i : Int) < 512) = true := decide_eq_true (by omega)
  have hc := h.row.cell i hi
  have hT := tdiv_nat i
  have hM := tmod_nat i
  have hq : i / 128 < 4 := by omega
  have hr : i % 128 < 128 := Nat.mod_lt _ (by omega)
  have he : i = i / 128 * 128 + i % 128 := by omega
  rw [he] at hc
  have HE := Lib.hid he
  have HF : Hid (f (i / 128 * 128 + i % 128) = f i) := Lib.hid (by rw [← he])
  have HI := Lib.hid hi
  clear he h hi
  generalize i / 128 = q at *
  generalize i % 128 = r at *
  rw [HF.out] at hc
  have HT : Hid (told f i = !(((f i : Nat) : Int) == 0)) := Lib.hid (told_int f i)
  rw [HT.out]
  generalize f i = v at *
  have HR : Hid (∀ w, Calls Try.prog 56 #[.pointer (some ⟨g, 0, none⟩), .int .i64 (i : Int)] w fun e w' => e = .returned (.bool true) ∧ w = w') := Lib.hid fun w => by
    have := reach_tab g (i : Int) w
    rwa [hd1, hd2] at this
  clear hd1 hd2
  go_enter Try.func30, Try.ntmps30
  go_wp2_with (go_at_call 56; refine (HR.out _).mono ?_; rintro e w7 ⟨rfl, rfl⟩)
  go_ret2
  exact ⟨rfl, rfl⟩
theorem get_out (g : Nat) (x : Int) (w : World) (h : ¬ (0 ≤ x ∧ x < 512)) : Calls Try.prog 30 #[.pointer (some ⟨g, 0, none⟩), .int .i64 x] w fun e w' => e = .returned (.tuple #[.int .i64 0, .bool false]) ∧ w = w' := by
  have HR : Hid (∀ w, Calls Try.prog 56 #[.pointer (some ⟨g, 0, none⟩), .int .i64 x] w fun e w' => e = .returned (.bool false) ∧ w = w') := Lib.hid fun w => by
    have := reach_tab g x w
    have e : (decide (0 ≤ x) && decide (x < 512)) = false := by rw [← Bool.decide_and]; exact decide_eq_false h
    rwa [e] at this
  clear h
  go_enter Try.func30, Try.ntmps30
  go_wp2_with (go_at_call 56; refine (HR.out _).mono ?_; rintro e w7 ⟨rfl, rfl⟩)
  go_ret2
  exact ⟨rfl, rfl⟩
theorem get_any {w : World} {g : Nat} {f : Nat → Nat} (h : Tab w g f) (x : Int) : Calls Try.prog 30 #[.pointer (some ⟨g, 0, none⟩), .int .i64 x] w fun e w' => e = .returned (.tuple #[.int .i64 ((getI f x : Nat) : Int), .bool (!(getI f x == 0))]) ∧ w = w' := by
  by_cases hx : 0 ≤ x ∧ x < 512
  · obtain ⟨i, rfl⟩ := Int.eq_ofNat_of_zero_le hx.1
    rw [getI_nat f (by omega)]
    exact get_in h i (by omega)
  · rw [getI_out f hx]
    exact get_out g x w hx
set_option maxHeartbeats 800000 in
theorem set_in {w : World} {g : Nat} {f : Nat → Nat} (h : Tab w g f) (i v : Nat) (hi : i < 512) (hv : pgI (v : Int) = true) : Calls Try.prog 33 #[.pointer (some ⟨g, 0, none⟩), .int .i64 (i : Int), .int .i64 (v : Int)] w fun e w' => e = .returned (.int .i64 0) ∧ Tab w' g (updN f i v) ∧ Only g w w' := by
  have hc := h.row.cell i hi
  have hf := h.row.free i
  have HR : Hid (∀ w, Calls Try.prog 56 #[.pointer (some ⟨g, 0, none⟩), .int .i64 (i : Int)] w fun e w' => e = .returned (.bool true) ∧ w = w') := Lib.hid fun w => by
    have := reach_tab g (i : Int) w
    rwa [decide_eq_true (show (0 : Int) ≤ (i : Int) by omega), decide_eq_true (show (i : Int) < 512 by omega)] at this
  have HV : Hid (∀ w, Calls Try.prog 57 #[.int .i64 (v : Int)] w fun e w' => e = .returned (.bool true) ∧ w = w') := Lib.hid fun w => by
    have := isPage_any (v : Int) w
    rwa [hv] at this
  have HS : Hid (Tab (w.setCell ⟨g, i, none⟩ (.int .i64 (v : Int))) g (updN f i v)) := Lib.hid ⟨h.row.put i v, h.ok.upd i (pgI_nat hv)⟩
  have HO : Hid (Only g w (w.setCell ⟨g, i, none⟩ (.int .i64 (v : Int)))) := Lib.hid (Only.setCell g i _ w)
  have hT := tdiv_nat i
  have hM := tmod_nat i
  have hq : i / 128 < 4 := by omega
  have hr : i % 128 < 128 := Nat.mod_lt _ (by omega)
  have HE : Hid (i / 128 * 128 + i % 128 = i) := Lib.hid (by omega)
  rw [← HE.out] at hc hf HS HO
  have HI := Lib.hid hi
  clear h hi hv
  generalize i / 128 = q at *
  generalize i % 128 = r at *
  generalize f (q * 128 + r) = u at *
  generalize hK : updN f (q * 128 + r) v = K at *
  go_enter Try.func33, Try.ntmps33
  go_wp2_with (first | (go_at_call 56; refine (HR.out _).mono ?_; rintro e w7 ⟨rfl, rfl⟩) | (go_at_call 57; refine (HV.out _).mono ?_; rintro e w7 ⟨rfl, rfl⟩))
  go_ret
  refine ⟨rfl, ?_, HO.out⟩
  rw [← HE.out, hK]; exact HS.out
theorem set_out (g : Nat) (x y : Int) (w : World) (h : ¬ ((0 ≤ x ∧ x < 512) ∧ pgI y = true)) : Calls Try.prog 33 #[.pointer (some ⟨g, 0, none⟩), .int .i64 x, .int .i64 y] w fun e w' => e = .returned (.int .i64 7) ∧ w = w' := by
  have HV := Lib.hid (isPage_any y)
  by_cases hx : 0 ≤ x ∧ x < 512
  · have hy : pgI y = false := by simpa using fun e => h ⟨hx, e⟩
    rw [hy] at HV
    have HR : Hid (∀ w, Calls Try.prog 56 #[.pointer (some ⟨g, 0, none⟩), .int .i64 x] w fun e w' => e = .returned (.bool true) ∧ w = w') := Lib.hid fun w => by
      have := reach_tab g x w
      rwa [decide_eq_true hx.1, decide_eq_true hx.2] at this
    clear h hx hy
    go_enter Try.func33, Try.ntmps33
    go_wp2_with (first | (go_at_call 56; refine (HR.out _).mono ?_; rintro e w7 ⟨rfl, rfl⟩) | (go_at_call 57; refine (HV.out _).mono ?_; rintro e w7 ⟨rfl, rfl⟩))
    go_ret
    exact ⟨rfl, rfl⟩
  · have HR : Hid (∀ w, Calls Try.prog 56 #[.pointer (some ⟨g, 0, none⟩), .int .i64 x] w fun e w' => e = .returned (.bool false) ∧ w = w') := Lib.hid fun w => by
      have := reach_tab g x w
      have e : (decide (0 ≤ x) && decide (x < 512)) = false := by rw [← Bool.decide_and]; exact decide_eq_false hx
      rwa [e] at this
    clear h hx
    go_enter Try.func33, Try.ntmps33
    go_wp2_with (first | (go_at_call 56; refine (HR.out _).mono ?_; rintro e w7 ⟨rfl, rfl⟩) | (go_at_call 57; refine (HV.out _).mono ?_; rintro e w7 ⟨rfl, rfl⟩))
    go_ret
    exact ⟨rfl, rfl⟩
set_option maxHeartbeats 800000 in
theorem drop_in {w : World} {g : Nat} {f : Nat → Nat} (h : Tab w g f) (i : Nat) (hi : i < 512) (hv : f i ≠ 0) : Calls Try.prog 53 #[.pointer (some ⟨g, 0, none⟩), .int .i64 (i : Int)] w fun e w' => e = .returned (.bool true) ∧ Tab w' g (updN f i 0) ∧ Only g w w' := by
  have hc := h.row.cell i hi
  have hf := h.row.free i
  have HG : Hid (∀ w', w' = w → Calls Try.prog 30 #[.pointer (some ⟨g, 0, none⟩), .int .i64 (i : Int)] w' fun e w'' => e = .returned (.tuple #[.int .i64 ((f i : Nat) : Int), .bool true]) ∧ w' = w'') := Lib.hid fun w' e => by
    subst e
    have := get_in h i hi
    have e : told f i = true := by unfold told; simpa using hv
    rwa [e] at this
  have HS : Hid (Tab (w.setCell ⟨g, i, none⟩ (.int .i64 0)) g (updN f i 0)) := Lib.hid ⟨h.row.put i 0, h.ok.upd i rfl⟩
  have HO : Hid (Only g w (w.setCell ⟨g, i, none⟩ (.int .i64 0))) := Lib.hid (Only.setCell g i _ w)
  have hT := tdiv_nat i
  have hM := tmod_nat i
  have hq : i / 128 < 4 := by omega
  have hr : i % 128 < 128 := Nat.mod_lt _ (by omega)
  have HE : Hid (i / 128 * 128 + i % 128 = i) := Lib.hid (by omega)
  have hfi : f (i / 128 * 128 + i % 128) = f i := by rw [HE.out]
  rw [← HE.out] at hc hf HS HO
  rw [hfi] at hc
  have HI := Lib.hid hi
  clear h hi hv hfi
  generalize i / 128 = q at *
  generalize i % 128 = r at *
  generalize f i = u at *
  generalize hK : updN f (q * 128 + r) 0 = K at *
  go_enter Try.func53, Try.ntmps53
  go_wp2_with (go_at_call 30; refine (HG.out _ rfl).mono ?_; rintro e w7 ⟨rfl, rfl⟩)
  go_ret
  refine ⟨rfl, ?_, HO.out⟩
  rw [← HE.out, hK]; exact HS.out
/-- What a drop leaves. -/
def dropT (f : Nat → Nat) (x : Int) : Nat → Nat := if 0 ≤ x ∧ x < 512 then updN f x.toNat 0 else f
theorem updN_id (f : Nat → Nat) (i v : Nat) (h : f i = v) : updN f i v = f := by
  funext j; unfold updN; split
  · subst_vars; rfl
  · rfl
theorem drop_tab {w : World} {g : Nat} {f : Nat → Nat} (h : Tab w g f) (x : Int) : Calls Try.prog 53 #[.pointer (some ⟨g, 0, none⟩), .int .i64 x] w fun e w' => e = .returned (.bool (!(getI f x == 0))) ∧ Tab w' g (dropT f x) ∧ Only g w w' := by
  by_cases hv : getI f x = 0
  · have HG : Hid (∀ w', w' = w → Calls Try.prog 30 #[.pointer (some ⟨g, 0, none⟩), .int .i64 x] w' fun e w'' => e = .returned (.tuple #[.int .i64 0, .bool false]) ∧ w' = w'') := Lib.hid fun w' e => by
      subst e
      have := get_any h x
      rwa [hv] at this
    have e : dropT f x = f := by
      unfold dropT
      split
      · rename_i hx
        unfold getI at hv
        rw [if_pos hx] at hv
        exact updN_id f _ 0 hv
      · rfl
    rw [hv, e]
    have H := Lib.hid h
    clear h hv e
    go_enter Try.func53, Try.ntmps53
    go_wp2_with (go_at_call 30; refine (HG.out _ rfl).mono ?_; rintro e w7 ⟨rfl, rfl⟩)
    go_ret
    exact ⟨rfl, H.out, Only.refl _ _⟩
  · by_cases hx : 0 ≤ x ∧ x < 512
    · obtain ⟨i, rfl⟩ := Int.eq_ofNat_of_zero_le hx.1
      have e : (!(getI f (i : Int) == 0)) = true := by simpa using hv
      rw [e]
      rw [getI_nat f (by omega)] at hv
      unfold dropT
      rw [if_pos hx, Int.toNat_natCast]
      exact drop_in h i (by omega) hv
    · exact absurd (getI_out f hx) hv
end Go.Proofs.Ytamfkglkgfggaaa
