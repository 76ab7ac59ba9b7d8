/- Whatever is put (a number that isn't below 0) and dropped (less one, turned, of one below): every answer, and the set, are the document's; at whatever size and numbers. -/
import Derived.Test.YtipiblaoogneaaaLaw
namespace Go.Proofs.Ytipiblaoogneaaa
open Go.ChangeShapes Go.WideShapes Go.ChangeAt Go.RowKit

/-- A row of the law's own that is all false. -/
theorem bvs_false (n : Nat) : bvs (fun _ => false) n = List.replicate n (.bool false) := by
  unfold bvs
  apply List.ext_getElem?
  intro i
  rw [List.getElem?_map, List.getElem?_replicate]
  by_cases h : i < n
  · rw [List.getElem?_range h, if_pos h]; rfl
  · rw [List.getElem?_eq_none (by simpa using h), if_neg h]; rfl
theorem falses_of (n : Nat) : (madeCells #[Value.bool false] n).toList = bvs (fun _ => false) n := by
  rw [toList_madeCells_one, bvs_false]
/-- The state amid the law's steps. -/
structure PR (w wr : World) (g b n : Nat) (p : Option Addr) (f : Nat → Bool) : Prop where
  hg : w.heap.size ≤ g
  hb : w.heap.size ≤ b
  sat : Sat wr g b n f
  row : Bls wr p n f
  far : ∀ b2 o, p = some ⟨b2, o, none⟩ → b2 ≠ b
  below : Below w.heap.size w wr
theorem PR.step {w wr w1 w2 : World} {g b n : Nat} {p p' : Option Addr} {f f' : Nat → Bool} (h : PR w wr g b n p f) (hb1 : Below wr.heap.size wr w1) (hr : Bls w1 p' n f')
    (hfr : ∀ b2 o, p' = some ⟨b2, o, none⟩ → p = p' ∨ wr.heap.size ≤ b2) (hs : Sat w2 g b n f') (ho : Only b w1 w2) : PR w w2 g b n p' f' := by
  have hfar : ∀ b2 o, p' = some ⟨b2, o, none⟩ → b2 ≠ b := fun b2 o e => by
    rcases hfr b2 o e with h1 | h1
    · exact h.far b2 o (h1.trans e)
    · have := h.sat.blt; omega
  exact ⟨h.hg, h.hb, hs, hr.only ho hfar, hfar, ho.below (Below.more h.below hb1 h.below.size) (Nat.le_trans h.below.size hb1.size) h.hb⟩
theorem PR.start {w w1 w2 : World} {g b n c : Nat} (hg : w.heap.size ≤ g) (hb1 : w.heap.size ≤ b) (hS : Sat w1 g b n (fun _ => false)) (hb : Below w.heap.size w w1)
    (hown : w2.ownsRow 0 4 1 (.slice (some ⟨w1.heap.size, 0, none⟩) n c) n (bvs (fun _ => false) n)) (hg2 : Below w1.heap.size w1 w2) : PR w w2 g b n (some ⟨w1.heap.size, 0, none⟩) (fun _ => false) :=
  ⟨hg, hb1, hS.below hg2, Bls.of_own hown, fun b2 o e => by cases e; have := hS.blt; omega, Below.more hb hg2 hb.size⟩
set_option maxHeartbeats 1600000 in
theorem plays_bad (x : Int) (p : Option Addr) (m c : Nat) (w : World) (h : ¬ (0 ≤ x ∧ x ≤ 2048)) :
    Calls Try.prog 3 #[.int .i64 x, .slice p m c] w fun e w' => e = .returned (.bool true) ∧ Below w.heap.size w w' := by
  have HN := Lib.hid (new_no x w h)
  by_cases h0 : x < 0
  · have hd : decide (x < 0) = true := decide_eq_true h0
    clear h h0
    go_enter Try.func3, Try.ntmps3
    go_wp2_with (first
      | (go_at_call 7; refine HN.out.mono ?_; rintro e w1 ⟨rfl, rfl⟩)
      | (go_at_call 8; refine (lives_any _).mono ?_; rintro e w1 ⟨rfl, hb⟩))
    go_ret
    exact ⟨rfl, hb⟩
  · have hd : decide (x < 0) = false := decide_eq_false h0
    have hd2 : decide (2048 < x) = true := decide_eq_true (by omega)
    clear h h0
    go_enter Try.func3, Try.ntmps3
    go_wp2_with (first
      | (go_at_call 7; refine HN.out.mono ?_; rintro e w1 ⟨rfl, rfl⟩)
      | (go_at_call 8; refine (lives_any _).mono ?_; rintro e w1 ⟨rfl, hb⟩))
    go_ret
    exact ⟨rfl, hb⟩
set_option maxHeartbeats 1600000 in
theorem plays_big (n : Nat) (p : Option Addr) (m c : Nat) (w : World) (hn : n ≤ 2048) (h : 200 < n ∨ 60 < m) :
    Calls Try.prog 3 #[.int .i64 (n : Int), .slice p m c] w fun e w' => e = .returned (.bool true) ∧ Below w.heap.size w w' := by
  have HN := Lib.hid (new_yes n w hn)
  have hd : decide ((n : Int) < 0) = false := decide_eq_false (by omega)
  have hd2 : decide ((2048 : Int) < (n : Int)) = false := decide_eq_false (by omega)
  have hnn : ((n : Int) == (n : Int)) = true := by simp
  by_cases h2 : n ≤ 200
  · have hd3 : decide ((n : Int) ≤ 200) = true := decide_eq_true (by omega)
    have hd4 : decide ((60 : Int) < (m : Int)) = true := decide_eq_true (by omega)
    clear h h2 hn
    go_enter Try.func3, Try.ntmps3
    go_wp2_with (first
      | (go_at_call 7; refine HN.out.mono ?_; rintro e w1 ⟨⟨g, b, rfl, hg, hb1, hS⟩, hb⟩)
      | (go_at_call 9; refine (few_any _ _).mono ?_; rintro e w2 ⟨rfl, rfl⟩; rw [hd3])
      | (go_at_call 10; refine (size_any hS).mono ?_; rintro e w3 ⟨rfl, rfl⟩)
      | (go_at_call 8; refine (lives_any _).mono ?_; rintro e w4 ⟨rfl, hb4⟩))
    go_ret
    exact ⟨rfl, Below.more hb hb4 hb.size⟩
  · have hd3 : decide ((n : Int) ≤ 200) = false := decide_eq_false (by omega)
    clear h h2 hn
    go_enter Try.func3, Try.ntmps3
    go_wp2_with (first
      | (go_at_call 7; refine HN.out.mono ?_; rintro e w1 ⟨⟨g, b, rfl, hg, hb1, hS⟩, hb⟩)
      | (go_at_call 9; refine (few_any _ _).mono ?_; rintro e w2 ⟨rfl, rfl⟩; rw [hd3])
      | (go_at_call 10; refine (size_any hS).mono ?_; rintro e w3 ⟨rfl, rfl⟩)
      | (go_at_call 8; refine (lives_any _).mono ?_; rintro e w4 ⟨rfl, hb4⟩))
    go_ret
    exact ⟨rfl, Below.more hb hb4 hb.size⟩
set_option maxRecDepth 20000 in
set_option maxHeartbeats 3200000 in
theorem plays_in (n : Nat) (p : Option Addr) (m c : Nat) (z : Nat → Int) (w : World) (hn : n ≤ 200) (hm : m ≤ 60) (hZ : Zs w p m z) :
    Calls Try.prog 3 #[.int .i64 (n : Int), .slice p m c] w fun e w' => e = .returned (.bool true) ∧ Below w.heap.size w w' := by
  obtain ⟨i0, hi, hz0, hz1, hz2⟩ := info_parts Try.info4
  have HI := Lib.hid hi
  have HZ0 := Lib.hid hz0
  have HZ1 := Lib.hid hz1
  have HZ2 := Lib.hid hz2
  have HN := Lib.hid (new_yes n w (by omega))
  have hd : decide ((n : Int) < 0) = false := decide_eq_false (by omega)
  have hd2 : decide ((2048 : Int) < (n : Int)) = false := decide_eq_false (by omega)
  have hd3 : decide ((n : Int) ≤ 200) = true := decide_eq_true (by omega)
  have hd4 : decide ((60 : Int) < (m : Int)) = false := decide_eq_false (by omega)
  have HZ := Lib.hid hZ
  have HNN := Lib.hid hn
  have HMM := Lib.hid hm
  clear hi hz0 hz1 hz2 hn hm hZ
  go_enter Try.func3, Try.ntmps3
  go_wp2_with (first
    | (go_at_call 7; refine HN.out.mono ?_; rintro e w1 ⟨⟨g, b, rfl, hg, hb1, hS⟩, hb⟩)
    | (go_at_call 9; refine (few_any _ _).mono ?_; rintro e w2 ⟨rfl, rfl⟩; rw [hd3])
    | (refine wpList_make_full _ rfl _ _ 31 rfl 0 4 i0 (.bool false) 1 Try.underlying31 HI.out HZ0.out HZ1.out .i64 .i64 (n : Int) (n : Int) n rfl rfl rfl rfl (by have := HNN.out; rw [HZ2.out]; omega) (by have := HNN.out; unfold maxLen; omega) (Nat.zero_le _) ?_))
  intro w2 hown hgrow
  rw [falses_of] at hown
  have HP0 := Lib.hid (PR.start hg hb1 hS hb hown ((Below.refl _ _).grown hgrow (Nat.le_refl _) (fun k e => by cases e)))
  clear hown hgrow hS hb hg hb1 HI HZ0 HZ1 HZ2
  generalize w1.heap.size = q0 at *
  go_wp2_with fail
  go_loopw [8, 7, 9] (fun iv lv _ wr => ∃ (i : Nat) (p2 : Option Addr) (c2 : Nat) (f2 : Nat → Bool), i ≤ m ∧ iv = .int .i64 (i : Int) ∧ lv = .slice p2 n c2 ∧ Hid (PR w wr g b n p2 f2)) (fun iv _ _ _ => m - (intOf iv).toNat)
  case atStart => exact ⟨0, _, _, _, by omega, by go_num, rfl, HP0⟩
  case round =>
    obtain ⟨i, p2, c2, f2, hi, rfl, rfl, HP⟩ := hrel
    clear HP0
    by_cases hlt : i < m
    · obtain ⟨bz, oz, rfl, hzl, hzc⟩ := HZ.out (by omega)
      obtain ⟨hz1, hz2, hz3⟩ := hzc i hlt
      have hcr := (HP.out.below.cell (p := ⟨bz, oz + i, none⟩) hzl).trans hz1
      have HC0 : Hid (∀ w', Below w.heap.size w w' → w'.cell? ⟨bz, oz + i, none⟩ = some (.int .i64 (z i))) := Lib.hid fun w' hb => (hb.cell (p := ⟨bz, oz + i, none⟩) hzl).trans hz1
      clear hzc hz1
      generalize z i = x at *
      have hdm : decide ((i : Int) < (m : Int)) = true := decide_eq_true (by omega)
      have hiz : (i : Int) ≤ 60 := by have := HMM.out; omega
      by_cases h0 : 0 ≤ x
      · have hd0 : decide (0 ≤ x) = true := decide_eq_true h0
        have HW := Lib.hid (with_any p2 n c2 f2 x true wr HP.out.row (by have := HNN.out; omega))
        rw [wthB_true, wth_true] at HW
        have hne : (newI n f2 x != newI n f2 x) = false := by simp
        go_wp2_with (first
          | (go_at_call 11; refine HW.out.mono ?_; rintro e w3 ⟨⟨p3, c3, rfl, hB3, hfr⟩, hb3⟩; have hcr3 := HC0.out w3 (Below.more HP.out.below hb3 HP.out.below.size))
          | (go_at_call 12; refine (put_any (HP.out.sat.below hb3) x).mono ?_; rintro e w4 ⟨rfl, hS4, ho4⟩; have HPN := Lib.hid (HP.out.step hb3 hB3 hfr hS4 ho4)))
        go_roundw
        case rel => exact ⟨i + 1, _, _, _, by omega, by go_num, rfl, HPN⟩
        case measure => simp [intOf]; omega
      · have hd0 : decide (0 ≤ x) = false := decide_eq_false h0
        have HW := Lib.hid (with_any p2 n c2 f2 (-(x + 1)) false wr HP.out.row (by have := HNN.out; omega))
        rw [wthB_false HP.out.sat.sub, wth_false HP.out.sat.sub] at HW
        have hne : (hasI f2 (-(x + 1)) != hasI f2 (-(x + 1))) = false := by simp
        go_wp2_with (first
          | (go_at_call 11; refine HW.out.mono ?_; rintro e w3 ⟨⟨p3, c3, rfl, hB3, hfr⟩, hb3⟩; have hcr3 := HC0.out w3 (Below.more HP.out.below hb3 HP.out.below.size))
          | (go_at_call 13; refine (drop_any (HP.out.sat.below hb3) (-(x + 1))).mono ?_; rintro e w4 ⟨rfl, hS4, ho4⟩; have HPN := Lib.hid (HP.out.step hb3 hB3 hfr hS4 ho4)))
        go_roundw
        case rel => exact ⟨i + 1, _, _, _, by omega, by go_num, rfl, HPN⟩
        case measure => simp [intOf]; omega
    · have hdm : decide ((i : Int) < (m : Int)) = false := decide_eq_false (by omega)
      have hdmn : decide (i < m) = false := decide_eq_false hlt
      go_wp2_with (first
        | (go_at_call 14; refine (alike_any HP.out.sat p2 c2 HP.out.row).mono ?_; rintro e w3 ⟨rfl, hb3⟩)
        | (go_at_call 8; refine (lives_any _).mono ?_; rintro e w4 ⟨rfl, hb4⟩))
      go_ret
      exact ⟨rfl, Below.more (Below.more HP.out.below hb3 HP.out.below.size) hb4 (Nat.le_trans HP.out.below.size hb3.size)⟩
/-- The law's walk. -/
theorem plays_walk (x : Int) (p : Option Addr) (m c : Nat) (z : Nat → Int) (w : World) (_h1 : -9223372036854775808 ≤ x) (_h2 : x ≤ 9223372036854775807) (_hm : m ≤ 9223372036854775807) (hZ : Zs w p m z) :
    Calls Try.prog 3 #[.int .i64 x, .slice p m c] w fun e w' => e = .returned (.bool true) ∧ Below w.heap.size w w' := by
  by_cases hin : 0 ≤ x ∧ x ≤ 2048
  · obtain ⟨n, rfl⟩ := Int.eq_ofNat_of_zero_le hin.1
    by_cases h : 200 < n ∨ 60 < m
    · exact plays_big n p m c w (by omega) h
    · exact plays_in n p m c z w (by omega) (by omega) hZ
  · exact plays_bad x p m c w hin
set_option maxRecDepth 100000 in
theorem plays_lifted (os : Os) (started : os.Started) (H : Type) (enc : TypeId × Value → H) :
    ReturnsInHanded {} Try.checked os 3 .any (fun w args => Rows.bitsPlaysSpec.pre enc Try.prog Try.f3 [] false w args ∧ sizedMet enc Try.prog Try.f3 (OpenSpec.ofChange Rows.bitsPlaysSpec) false w args)
      (Rows.bitsPlaysSpec.post enc Try.prog Try.f3 false true false false) := by
  refine returnsInHanded_of_change_sized (C := Try.checked) own started (by kernel_rfl) Try.func3
    (ChangeSpec.witness6 (enc := enc) (C := Try.checked) false ⟨#[], #[.int .i64 0, .slice none 0 0], []⟩ 8 (by kernel_rfl) (by kernel_rfl) (by kernel_rfl) (by kernel_rfl)) ?_
  intro W base args ds gs before hval0 hW _ hsz0 _
  have hval : ∀ (j : Nat) t v, Try.f3.params[j]? = some t → args[j]? = some v → Value.okWide Try.prog W .any base t v := hval0
  have hlt := fun x hx => hW.lt (p := x) hx
  have hW' := hW
  obtain ⟨p, q, hA0, hV, rfl, hfz, hnd⟩ := hW
  have hA : DataW.TrodAll enc Try.prog W 0 (fun _ => true) true Try.f3.params.toList args.toList ds p := hA0
  have hsz : (DataW.weightsEach Try.prog (Try.f3.params.toList ++ Rows.bitsPlaysSpec.plain.varTypes Try.prog) (ds ++ gs)).all (· ≤ reachBytes) = true := hsz0
  rw [Try.params3] at hA hval hsz
  obtain ⟨v0, vs0, d0, ds0, p0, q0, hargs, rfl, rfl, h0, r0⟩ := trodAll_cons hA
  obtain ⟨v1, vs1, d1, ds1, p1, q1, rfl, rfl, rfl, h1, r1⟩ := trodAll_cons r0
  obtain ⟨rfl, rfl, rfl⟩ := trodAll_nil r1
  obtain rfl : args = #[v0, v1] := by cases args; simp_all
  obtain ⟨rfl, rfl⟩ := trodVars_none hV
  obtain ⟨a0, rfl, rfl, rfl, w0⟩ := open_int Try.underlying3 (hval 0 3 v0 rfl rfl) h0
  obtain ⟨a1, n1, c1, b1, rfl, hb1, hn1⟩ := open_zs (hval 1 22 v1 rfl rfl) h1
  clear hA0 hval0
  simp only [List.append_nil] at hW'
  refine (plays_walk a0 a1 n1 c1 b1 W (i64_of w0).1 (i64_of w0).2 hn1 hb1).mono fun e W' ⟨he, hg⟩ => ?_
  subst he
  exact ⟨_, rfl, law_post hW' (fun _ _ _ => (trodAll_cons_mk (shut_bool Try.underlying4 _) trodAll_mk0)) (trodAll_cons_mk (shut_int Try.underlying3 w0) (trodAll_cons_mk (Below.trod laidOut (by kernel_rfl) (by decide +kernel) h1 hg (fun x hx => hlt x (by simp [hx]))) trodAll_mk0)) rfl (by simp) hg⟩

theorem plays_holds : Rows.BitsPlaysSaid :=
  OpenClaim.holds_of_wide 3 Try.f3 rfl rfl rfl rfl rfl rfl rfl ⟨rfl, rfl, rfl, rfl, rfl⟩ rfl rfl rfl rfl rfl (by kernel_rfl) Try.func3 (by kernel_rfl)
    (of_decide_eq_true (by kernel_rfl)) (by unfold Func.isWrapper; first | (rw [if_pos (by decide +kernel)]; kernel_rfl) | (rw [if_neg (by decide +kernel)]; exact ⟨rfl, rfl⟩))
    (fun os started H enc _ => plays_lifted os started H enc)
#print axioms plays_holds

end Go.Proofs.Ytipiblaoogneaaa
