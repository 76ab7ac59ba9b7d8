/- What one of two sets has, and what one has and the other one hasn't, are the document's, and sets by themselves; at whatever sizes and numbers. -/
import Derived.Test.YtipiblaoogneaaaLBoth0
namespace Go.Proofs.Ytipiblaoogneaaa
open Go.ChangeShapes Go.WideShapes Go.ChangeAt Go.RowKit

/-- What the law has behind its two sets: all of it stays. -/
structure Two2 (w W : World) (g1 b1 n : Nat) (p1 : Option Addr) (f1 : Nat → Bool) (g2 b2 m : Nat) (p2 : Option Addr) (f2 : Nat → Bool) : Prop where
  s1 : Sat W g1 b1 n f1
  r1 : Bls W p1 n f1
  s2 : Sat W g2 b2 m f2
  r2 : Bls W p2 m f2
  below : Below w.heap.size w W
theorem Two2.le {w W W' : World} {g1 b1 n : Nat} {p1 : Option Addr} {f1 : Nat → Bool} {g2 b2 m : Nat} {p2 : Option Addr} {f2 : Nat → Bool} (h : Two2 w W g1 b1 n p1 f1 g2 b2 m p2 f2) (hb : Below W.heap.size W W') : Two2 w W' g1 b1 n p1 f1 g2 b2 m p2 f2 :=
  ⟨h.s1.below hb, h.r1.below hb, h.s2.below hb, h.r2.below hb, Below.more h.below hb h.below.size⟩
/-- The two sets that are told, which the law changes. -/
structure Chg2 (W wr : World) (n g3 b3 : Nat) (f3 : Nat → Bool) (g4 b4 : Nat) (f4 : Nat → Bool) : Prop where
  s3 : Sat wr g3 b3 n f3
  s4 : Sat wr g4 b4 n f4
  below : Below W.heap.size W wr
set_option maxRecDepth 20000 in
set_option maxHeartbeats 6400000 in
theorem both_in (n m : Nat) (p q : Option Addr) (k1 c k2 d : Nat) (z1 z2 : Nat → Int) (w : World) (hn : n ≤ 200) (hm : m ≤ 200) (hk1 : k1 ≤ 9223372036854775807) (hk2 : k2 ≤ 9223372036854775807) (hZ1 : Zs w p k1 z1) (hZ2 : Zs w q k2 z2) :
    Calls Try.prog 6 #[.agg #[.int .i64 (n : Int), .int .i64 (m : Int)], .slice p k1 c, .slice q k2 d] w fun e w' => e = .returned (.bool true) ∧ Below w.heap.size w w' := by
  have hx : (w.alloc (.cells #[.int .i64 (n : Int), .int .i64 (m : Int)] 52)).cell? ⟨w.heap.size, 0, none⟩ = some (.int .i64 (n : Int)) := World.cell?_alloc_new w _ _ 0
  have hy : (w.alloc (.cells #[.int .i64 (n : Int), .int .i64 (m : Int)] 52)).cell? ⟨w.heap.size, 1, none⟩ = some (.int .i64 (m : Int)) := World.cell?_alloc_new w _ _ 1
  have hba := (Below.refl w.heap.size w).alloc (Nat.le_refl _) (.cells #[.int .i64 (n : Int), .int .i64 (m : Int)] 52)
  have d1 : decide ((n : Int) < 0) = false := decide_eq_false (by omega)
  have d2 : decide ((m : Int) < 0) = false := decide_eq_false (by omega)
  have d3 : decide ((n : Int) ≤ 200) = true := decide_eq_true (by omega)
  have d4 : decide ((m : Int) ≤ 200) = true := decide_eq_true (by omega)
  have zs_below : ∀ {w' : World} {p : Option Addr} {k : Nat} {z : Nat → Int}, Zs w p k z → Below w.heap.size w w' → Zs w' p k z := fun hZ hb hk => by
    obtain ⟨b, o, e, hlt, hc⟩ := hZ hk
    exact ⟨b, o, e, Nat.lt_of_lt_of_le hlt hb.size, fun r hr => ⟨(hb.cell (p := ⟨b, o + r, none⟩) hlt).trans (hc r hr).1, (hc r hr).2⟩⟩
  have HM1 : Hid (∀ w', Below w.heap.size w w' → Calls Try.prog 18 #[.int .i64 (n : Int), .slice p k1 c] w' fun e w2 => ∃ g b p' c' f, e = .returned (.tuple #[.pointer (some ⟨g, 0, none⟩), .slice p' n c']) ∧ PR w' w2 g b n p' f) := Lib.hid fun w' hb => made_any n p k1 c z1 w' hn hk1 (zs_below hZ1 hb)
  have HM2 : Hid (∀ w', Below w.heap.size w w' → Calls Try.prog 18 #[.int .i64 (m : Int), .slice q k2 d] w' fun e w2 => ∃ g b p' c' f, e = .returned (.tuple #[.pointer (some ⟨g, 0, none⟩), .slice p' m c']) ∧ PR w' w2 g b m p' f) := Lib.hid fun w' hb => made_any m q k2 d z2 w' hm hk2 (zs_below hZ2 hb)
  have HN := Lib.hid hn
  have HMM := Lib.hid hm
  have HBA := Lib.hid hba
  clear zs_below hZ1 hZ2 hk1 hk2 hn hm hba
  go_enter Try.func6, Try.ntmps6
  go_upto_region 1 with fail
  go_quiet (fail)
  have HBQ := Lib.hid (below_drewN HBA.out nq)
  go_wp2_with (first
    | (go_at_call 9; go_fit (few_any (n : Int) _); rintro e w2 ⟨rfl, rfl⟩; rw [d3])
    | (go_at_call 9; go_fit (few_any (m : Int) _); rintro e w2 ⟨rfl, rfl⟩; rw [d4]))
  refine (HM1.out _ HBQ.out).mono ?_
  rintro e w1 ⟨g1, b1, p1, c1, f1, rfl, hP1⟩
  have hb1 := Below.trans HBQ.out (Below.mono hP1.below HBQ.out.size)
  go_wp2_with fail
  refine (HM2.out _ hb1).mono ?_
  rintro e w2 ⟨g2, b2, p2, c2, f2, rfl, hP2⟩
  have H2 : Hid (Two2 w w2 g1 b1 n p1 f1 g2 b2 m p2 f2) := Lib.hid ⟨hP1.sat.below (hP2.below), hP1.row.below (hP2.below), hP2.sat, hP2.row, Below.more hb1 hP2.below hb1.size⟩
  clear hP1 hP2 hb1 HM1 HM2 HBQ HBA hx hy
  have HF1 := Lib.hid H2.out.s1.sub
  have HF2 := Lib.hid H2.out.s2.sub
  have HOR := Lib.hid (orc_any H2.out.s1 (.pointer (some ⟨g2, 0, none⟩)) _ (Lib.hid (bytes_later H2.out.s2)))
  have HLE : Hid (∀ w', Below w2.heap.size w2 w' → Calls Try.prog 23 #[.pointer (some ⟨g1, 0, none⟩), .pointer (some ⟨g2, 0, none⟩)] w' fun e w3 => (∃ g' b', e = .returned (.pointer (some ⟨g', 0, none⟩)) ∧ w'.heap.size ≤ g' ∧ w'.heap.size ≤ b' ∧ Sat w3 g' b' n (both false f1 (cut n (trs (rowF f2 (need m)))))) ∧ Below w'.heap.size w' w3) := Lib.hid fun w' hb => lessc_any (H2.out.s1.below hb) (.pointer (some ⟨g2, 0, none⟩)) _ (Lib.hid (bytes_later (H2.out.s2.below hb)))
  rw [cut_trs_row HF2.out] at HOR HLE
  go_upto_region 7 with (first
    | (go_at_call 22; refine HOR.out.mono ?_; rintro e w3 ⟨⟨g3, b3, rfl, hg3, hb3, hS3⟩, hw3⟩)
    | (go_at_call 23; refine (HLE.out _ hw3).mono ?_; rintro e w4 ⟨⟨g4, b4, rfl, hg4, hb4, hS4⟩, hw4⟩))
  have HC : Hid (Chg2 w2 w4 n g3 b3 (both true f1 (cut n f2)) g4 b4 (both false f1 (cut n f2))) := Lib.hid ⟨hS3.below hw4, hS4, Below.more hw3 hw4 hw3.size⟩
  have HFA : Hid (w2.heap.size ≤ b3 ∧ w2.heap.size ≤ b4 ∧ g4 ≠ b3 ∧ b4 ≠ b3 ∧ g3 ≠ b4 ∧ b3 ≠ b4) := Lib.hid (by
    have h3 := hS3.glt
    have h3b := hS3.blt
    have := hw3.size
    refine ⟨hb3, by omega, by omega, by omega, by omega, by omega⟩)
  clear hS3 hS4 hw3 hw4 hg3 hb3 hg4 hb4 HOR HLE
  have HRB : Hid (∀ (t : Bool) w', Below w2.heap.size w2 w' → Calls Try.prog 24 #[.slice p1 n c1, .slice p2 m c2, .bool t] w' fun e w5 => (∃ p' c', e = .returned (.slice p' n c') ∧ Bls w5 p' n (both t f1 (cut n f2))) ∧ Below w'.heap.size w' w5) := Lib.hid fun t w' hb => by
    refine (rboth_any p1 p2 n c1 m c2 f1 f2 t w' (by have := HN.out; omega) (by have := HMM.out; omega) (H2.out.r1.below hb) (H2.out.r2.below hb) HF2.out).mono ?_
    rintro e w5 ⟨⟨p', c', rfl, hB⟩, hb5⟩
    exact ⟨⟨p', c', rfl, hB.congr fun i hi => both_cut t f1 f2 i hi⟩, hb5⟩
  have HSM : Hid (∀ w', Below w2.heap.size w2 w' → Calls Try.prog 25 #[.pointer (some ⟨g1, 0, none⟩), .pointer (some ⟨g2, 0, none⟩)] w' fun e w5 => e = .returned (.bool (decide (n = m ∧ rowF f1 (need n) = rowF f2 (need m)))) ∧ Below w'.heap.size w' w5) := Lib.hid fun w' hb => same_any (H2.out.s1.below hb) (H2.out.s2.below hb)
  have HY1 : Hid (∀ w', Below w2.heap.size w2 w' → Calls Try.prog 26 #[.slice p1 n c1] w' fun e w5 => e = .returned (.string (strB (rowF f1 (need n)))) ∧ Below w'.heap.size w' w5) := Lib.hid fun w' hb => rbytes_any p1 n c1 f1 w' (by have := HN.out; omega) HF1.out (H2.out.r1.below hb)
  have HY2 : Hid (∀ w', Below w2.heap.size w2 w' → Calls Try.prog 26 #[.slice p2 m c2] w' fun e w5 => e = .returned (.string (strB (rowF f2 (need m)))) ∧ Below w'.heap.size w' w5) := Lib.hid fun w' hb => rbytes_any p2 m c2 f2 w' (by have := HMM.out; omega) HF2.out (H2.out.r2.below hb)
  go_cut [85] (fun v wx => v = .bool false ∧ Hid (Chg2 w2 wx n g3 b3 (both true f1 (cut n f2)) g4 b4 (both false f1 (cut n f2))))
  case first =>
    by_cases hnm : n = m
    · have he : ((n : Int) == (m : Int)) = true := by rw [hnm]; simp
      have hd : decide (n = m ∧ rowF f1 (need n) = rowF f2 (need m)) = decide (rowF f1 (need n) = rowF f2 (need m)) := by
        by_cases hr : rowF f1 (need n) = rowF f2 (need m)
        · rw [decide_eq_true hr, decide_eq_true ⟨hnm, hr⟩]
        · rw [decide_eq_false hr, decide_eq_false (fun h => hr h.2)]
      have hstr := strB_beq (rowF_dig f1 (need n)) (rowF_dig f2 (need m))
      rw [hd] at HSM
      generalize decide (rowF f1 (need n) = rowF f2 (need m)) = v at *
      generalize strB (rowF f1 (need n)) = S1 at *
      generalize strB (rowF f2 (need m)) = S2 at *
      have hvv : (v != v) = false := by simp
      clear hnm hd
      go_wp2_with (first
        | (go_at_call 24; go_fit (HRB.out true _ HC.out.below); rintro e w5 ⟨⟨p5, c5, rfl, hB5⟩, hb5⟩; have hw5 := Below.more HC.out.below hb5 HC.out.below.size)
        | (go_at_call 14; go_fit (alike_any (HC.out.s3.below hb5) p5 c5 hB5); rintro e w6 ⟨rfl, hb6⟩; have hw6 := Below.more hw5 hb6 hw5.size; have hb56 := Below.more hb5 hb6 hb5.size)
        | (go_at_call 24; go_fit (HRB.out false _ hw6); rintro e w7 ⟨⟨p7, c7, rfl, hB7⟩, hb7⟩; have hw7 := Below.more hw6 hb7 hw6.size; have hb57 := Below.more hb56 hb7 hb56.size)
        | (go_at_call 14; go_fit (alike_any (HC.out.s4.below hb57) p7 c7 hB7); rintro e w8 ⟨rfl, hb8⟩; have hw8 := Below.more hw7 hb8 hw7.size; have hb58 := Below.more hb57 hb8 hb57.size)
        | (go_at_call 25; refine (HSM.out _ hw8).mono ?_; rintro e w9 ⟨rfl, hb9⟩; have hw9 := Below.more hw8 hb9 hw8.size; have hb59 := Below.more hb58 hb9 hb58.size)
        | (go_at_call 26; go_fit (HY1.out _ hw9); rintro e wa ⟨rfl, hba⟩; have hwa := Below.more hw9 hba hw9.size; have hb5a := Below.more hb59 hba hb59.size)
        | (go_at_call 26; go_fit (HY2.out _ hwa); rintro e wb ⟨rfl, hbb⟩; have hwb := Below.more hwa hbb hwa.size; have hb5b := Below.more hb5a hbb hb5a.size))
      go_meet
      exact ⟨rfl, Lib.hid ⟨HC.out.s3.below hb5b, HC.out.s4.below hb5b, hwb⟩⟩
    · have he : ((n : Int) == (m : Int)) = false := by simp; omega
      rw [decide_eq_false (fun h => hnm h.1)] at HSM
      clear hnm
      go_wp2_with (first
        | (go_at_call 24; go_fit (HRB.out true _ HC.out.below); rintro e w5 ⟨⟨p5, c5, rfl, hB5⟩, hb5⟩; have hw5 := Below.more HC.out.below hb5 HC.out.below.size)
        | (go_at_call 14; go_fit (alike_any (HC.out.s3.below hb5) p5 c5 hB5); rintro e w6 ⟨rfl, hb6⟩; have hw6 := Below.more hw5 hb6 hw5.size; have hb56 := Below.more hb5 hb6 hb5.size)
        | (go_at_call 24; go_fit (HRB.out false _ hw6); rintro e w7 ⟨⟨p7, c7, rfl, hB7⟩, hb7⟩; have hw7 := Below.more hw6 hb7 hw6.size; have hb57 := Below.more hb56 hb7 hb56.size)
        | (go_at_call 14; go_fit (alike_any (HC.out.s4.below hb57) p7 c7 hB7); rintro e w8 ⟨rfl, hb8⟩; have hw8 := Below.more hw7 hb8 hw7.size; have hb58 := Below.more hb57 hb8 hb57.size)
        | (go_at_call 25; refine (HSM.out _ hw8).mono ?_; rintro e w9 ⟨rfl, hb9⟩; have hw9 := Below.more hw8 hb9 hw8.size; have hb59 := Below.more hb58 hb9 hb58.size)
        | (go_at_call 26; go_fit (HY1.out _ hw9); rintro e wa ⟨rfl, hba⟩; have hwa := Below.more hw9 hba hw9.size; have hb5a := Below.more hb59 hba hb59.size)
        | (go_at_call 26; go_fit (HY2.out _ hwa); rintro e wb ⟨rfl, hbb⟩; have hwb := Below.more hwa hbb hwa.size; have hb5b := Below.more hb5a hbb hb5a.size))
      go_meet
      exact ⟨rfl, Lib.hid ⟨HC.out.s3.below hb59, HC.out.s4.below hb59, hw9⟩⟩
  case rest =>
    obtain ⟨rfl, HC2⟩ := hcut
    clear HRB HSM HY1 HY2
    have hnz : (n : Int) ≤ 200 := by have := HN.out; omega
    clear HC
    go_wp2_with fail
    go_loopw [15] (fun iv wr => ∃ (i : Nat) (f3 f4 : Nat → Bool), i ≤ n ∧ iv = .int .i64 (i : Int) ∧ Hid (Chg2 w2 wr n g3 b3 f3 g4 b4 f4)) (fun iv _ => n - (intOf iv).toNat)
    case atStart => exact ⟨0, _, _, by omega, by go_num, HC2⟩
    case round =>
      obtain ⟨i, f3, f4, hi, rfl, HC⟩ := hrel
      clear HC2
      by_cases hlt : i < n
      · have hdl : decide ((i : Int) < (n : Int)) = true := decide_eq_true (by omega)
        have hiz : (i : Int) ≤ 200 := by omega
        go_wp2_with (first
          | (go_at_call 13; refine (drop_any HC.out.s3 (i : Int)).mono ?_; rintro e w5 ⟨rfl, hS5, ho5⟩; have hX := HC.out.s4.only ho5 HFA.out.2.2.1 HFA.out.2.2.2.1; have hw5 := ho5.below HC.out.below HC.out.below.size HFA.out.1)
          | (go_at_call 12; refine (put_any hX (i : Int)).mono ?_; rintro e w6 ⟨rfl, hS6, ho6⟩; have hX2 := hS5.only ho6 HFA.out.2.2.2.2.1 HFA.out.2.2.2.2.2; have hw6 := ho6.below hw5 hw5.size HFA.out.2.1))
        go_roundw
        case rel => exact ⟨i + 1, _, _, by omega, by go_num, Lib.hid ⟨hX2, hS6, hw6⟩⟩
        case measure => simp [intOf]; omega
      · have hdl : decide ((i : Int) < (n : Int)) = false := decide_eq_false (by omega)
        have hdln : decide (i < n) = false := decide_eq_false hlt
        have H5 := Lib.hid (H2.out.le HC.out.below)
        have HNO : Hid (∀ w', Below w2.heap.size w2 w' → Calls Try.prog 22 #[.pointer (some ⟨g1, 0, none⟩), .pointer none] w' fun e w3 => (∃ g' b', e = .returned (.pointer (some ⟨g', 0, none⟩)) ∧ w'.heap.size ≤ g' ∧ w'.heap.size ≤ b' ∧ Sat w3 g' b' n f1) ∧ Below w'.heap.size w' w3) := Lib.hid fun w' hb => by
          have h := orc_any (H2.out.s1.below hb) (.pointer none) [] (Lib.hid (bytes_none w'))
          rwa [both_none] at h
        have HNL : Hid (∀ w', Below w2.heap.size w2 w' → Calls Try.prog 23 #[.pointer (some ⟨g1, 0, none⟩), .pointer none] w' fun e w3 => (∃ g' b', e = .returned (.pointer (some ⟨g', 0, none⟩)) ∧ w'.heap.size ≤ g' ∧ w'.heap.size ≤ b' ∧ Sat w3 g' b' n f1) ∧ Below w'.heap.size w' w3) := Lib.hid fun w' hb => by
          have h := lessc_any (H2.out.s1.below hb) (.pointer none) [] (Lib.hid (bytes_none w'))
          rwa [both_none] at h
        have HSS : Hid (∀ (w' : World) (g b : Nat), Below w2.heap.size w2 w' → Sat w' g b n f1 → Calls Try.prog 25 #[.pointer (some ⟨g, 0, none⟩), .pointer (some ⟨g1, 0, none⟩)] w' fun e w3 => e = .returned (.bool true) ∧ Below w'.heap.size w' w3) := Lib.hid fun w' g b hb hS => by
          have h := same_any hS (H2.out.s1.below hb)
          rwa [decide_eq_true ⟨rfl, rfl⟩] at h
        have HA1 : Hid (∀ w', Below w2.heap.size w2 w' → Calls Try.prog 14 #[.pointer (some ⟨g1, 0, none⟩), .slice p1 n c1] w' fun e w3 => e = .returned (.bool true) ∧ Below w'.heap.size w' w3) := Lib.hid fun w' hb => alike_any (H2.out.s1.below hb) p1 c1 (H2.out.r1.below hb)
        have HA2 : Hid (∀ w', Below w2.heap.size w2 w' → Calls Try.prog 14 #[.pointer (some ⟨g2, 0, none⟩), .slice p2 m c2] w' fun e w3 => e = .returned (.bool true) ∧ Below w'.heap.size w' w3) := Lib.hid fun w' hb => alike_any (H2.out.s2.below hb) p2 c2 (H2.out.r2.below hb)
        have h0 := HC.out.below
        have HBW := Lib.hid H2.out.below
        clear hlt
        go_wp2_with (first
          | (go_at_call 14; go_fit (HA1.out _ h0); rintro e w5 ⟨rfl, hb5⟩; have hw5 := Below.more h0 hb5 h0.size)
          | (go_at_call 14; go_fit (HA2.out _ hw5); rintro e w6 ⟨rfl, hb6⟩; have hw6 := Below.more hw5 hb6 hw5.size)
          | (go_at_call 22; refine (HNO.out _ hw6).mono ?_; rintro e w7 ⟨⟨g7, b7, rfl, _, _, hS7⟩, hb7⟩; have hw7 := Below.more hw6 hb7 hw6.size)
          | (go_at_call 25; go_fit (HSS.out _ g7 b7 hw7 hS7); rintro e w8 ⟨rfl, hb8⟩; have hw8 := Below.more hw7 hb8 hw7.size)
          | (go_at_call 23; refine (HNL.out _ hw8).mono ?_; rintro e w9 ⟨⟨g9, b9, rfl, _, _, hS9⟩, hb9⟩; have hw9 := Below.more hw8 hb9 hw8.size)
          | (go_at_call 25; go_fit (HSS.out _ g9 b9 hw9 hS9); rintro e wa ⟨rfl, hba⟩; have hwa := Below.more hw9 hba hw9.size)
          | (go_at_call 8; refine (lives_any _).mono ?_; rintro e wb ⟨rfl, hbb⟩; have hwb := Below.more hwa hbb hwa.size))
        go_ret
        exact ⟨rfl, Below.more HBW.out hwb HBW.out.size⟩
theorem cells52 : Try.prog.cellsOf 52 = 2 := by kernel_rfl
section
variable {H : Type} {enc : TypeId × Value → H}
/-- Two ints that came in. -/
theorem open_two {W : World} {v : Value} {d : DataW H} {p : List MemPlace} (h : DataW.Trod enc Try.prog W 0 (fun _ => true) true 52 v d p) :
    ∃ x y : Int, v = .agg #[.int .i64 x, .int .i64 y] := by
  obtain ⟨fuel, hf⟩ := h
  obtain ⟨xs, m, _, hx, hl, hlen, hd⟩ := DataW.trod_array Try.underlying52 hf
  rw [cells52] at hl
  obtain ⟨c0, c1, hc⟩ : ∃ c0 c1, v.cells.toList = [c0, c1] := by
    match hv : v.cells.toList, hl with
    | [c0, c1], _ => exact ⟨c0, c1, rfl⟩
  obtain ⟨y0, y1, rfl⟩ : ∃ y0 y1, xs = [y0, y1] := by
    match xs, hlen with
    | [y0, y1], _ => exact ⟨y0, y1, rfl⟩
  have h0 := hd 0 (by omega)
  have h1 := hd 1 (by omega)
  rw [cells3, hc] at h0 h1
  simp at h0 h1
  obtain ⟨z0, e0, _, w0⟩ := DataW.trod_int Try.underlying3 h0
  obtain ⟨z1, e1, _, w1⟩ := DataW.trod_int Try.underlying3 h1
  have e0' : c0 = .int .i64 z0 := by simpa using e0
  have e1' : c1 = .int .i64 z1 := by simpa using e1
  subst e0' e1'
  refine ⟨z0, z1, ?_⟩
  cases v with
  | agg cs =>
    simp [Value.cells] at hc
    congr 1
    apply Array.ext'
    simpa using hc
  | _ => simp [Value.cells] at hc
end
/-- The law's walk. -/
theorem both_walk (x y : Int) (p : Option Addr) (k1 c : Nat) (z1 : Nat → Int) (q : Option Addr) (k2 d : Nat) (z2 : Nat → Int) (w : World) (hk1 : k1 ≤ 9223372036854775807) (hZ1 : Zs w p k1 z1) (hk2 : k2 ≤ 9223372036854775807) (hZ2 : Zs w q k2 z2) :
    Calls Try.prog 6 #[.agg #[.int .i64 x, .int .i64 y], .slice p k1 c, .slice q k2 d] w fun e w' => e = .returned (.bool true) ∧ Below w.heap.size w w' := by
  by_cases h : (0 ≤ x ∧ x ≤ 200) ∧ (0 ≤ y ∧ y ≤ 200)
  · obtain ⟨n, rfl⟩ := Int.eq_ofNat_of_zero_le h.1.1
    obtain ⟨m, rfl⟩ := Int.eq_ofNat_of_zero_le h.2.1
    exact both_in n m p q k1 c k2 d z1 z2 w (by omega) (by omega) hk1 hk2 hZ1 hZ2
  · exact both_out x y p q k1 c k2 d w h
set_option maxRecDepth 100000 in
theorem both_lifted (os : Os) (started : os.Started) (H : Type) (enc : TypeId × Value → H) :
    ReturnsInHanded {} Try.checked os 6 .any (fun w args => Rows.bitsBothSpec.pre enc Try.prog Try.f6 [] false w args ∧ sizedMet enc Try.prog Try.f6 (OpenSpec.ofChange Rows.bitsBothSpec) false w args)
      (Rows.bitsBothSpec.post enc Try.prog Try.f6 false true false false) := by
  refine returnsInHanded_of_change_sized (C := Try.checked) own started (by kernel_rfl) Try.func6
    (ChangeSpec.witness6 (enc := enc) (C := Try.checked) false ⟨#[], #[.agg #[.int .i64 0, .int .i64 0], .slice none 0 0, .slice none 0 0], []⟩ 8 (by kernel_rfl) (by kernel_rfl) (by kernel_rfl) (by kernel_rfl)) ?_
  intro W base args ds gs before hval0 hW _ hsz0 _
  have hval : ∀ (j : Nat) t v, Try.f6.params[j]? = some t → args[j]? = some v → Value.okWide Try.prog W .any base t v := hval0
  have hlt := fun x hx => hW.lt (p := x) hx
  have hW' := hW
  obtain ⟨p, q, hA0, hV, rfl, hfz, hnd⟩ := hW
  have hA : DataW.TrodAll enc Try.prog W 0 (fun _ => true) true Try.f6.params.toList args.toList ds p := hA0
  have hsz : (DataW.weightsEach Try.prog (Try.f6.params.toList ++ Rows.bitsBothSpec.plain.varTypes Try.prog) (ds ++ gs)).all (· ≤ reachBytes) = true := hsz0
  rw [Try.params6] at hA hval hsz
  obtain ⟨v0, vs0, d0, ds0, p0, q0, hargs, rfl, rfl, h0, r0⟩ := trodAll_cons hA
  obtain ⟨v1, vs1, d1, ds1, p1, q1, rfl, rfl, rfl, h1, r1⟩ := trodAll_cons r0
  obtain ⟨v2, vs2, d2, ds2, p2, q2, rfl, rfl, rfl, h2, r2⟩ := trodAll_cons r1
  obtain ⟨rfl, rfl, rfl⟩ := trodAll_nil r2
  obtain rfl : args = #[v0, v1, v2] := by cases args; simp_all
  obtain ⟨rfl, rfl⟩ := trodVars_none hV
  obtain ⟨x0, y0, rfl⟩ := open_two h0
  obtain ⟨a1, n1, c1, b1, rfl, hb1, hn1⟩ := open_zs (hval 1 22 v1 rfl rfl) h1
  obtain ⟨a2, n2, c2, b2, rfl, hb2, hn2⟩ := open_zs (hval 2 22 v2 rfl rfl) h2
  clear hA0 hval0
  simp only [List.append_nil] at hW'
  refine (both_walk x0 y0 a1 n1 c1 b1 a2 n2 c2 b2 W hn1 hb1 hn2 hb2).mono fun e W' ⟨he, hg⟩ => ?_
  subst he
  exact ⟨_, rfl, law_post hW' (fun _ _ _ => (trodAll_cons_mk (shut_bool Try.underlying4 _) trodAll_mk0)) (trodAll_cons_mk (Below.trod laidOut (by kernel_rfl) (by decide +kernel) h0 hg (fun x hx => hlt x (by simp [hx]))) (trodAll_cons_mk (Below.trod laidOut (by kernel_rfl) (by decide +kernel) h1 hg (fun x hx => hlt x (by simp [hx]))) (trodAll_cons_mk (Below.trod laidOut (by kernel_rfl) (by decide +kernel) h2 hg (fun x hx => hlt x (by simp [hx]))) trodAll_mk0))) rfl (by simp) hg⟩

theorem both_holds : Rows.BitsBothSaid :=
  OpenClaim.holds_of_wide 6 Try.f6 rfl rfl rfl rfl rfl rfl rfl ⟨rfl, rfl, rfl, rfl, rfl⟩ rfl rfl rfl rfl rfl (by kernel_rfl) Try.func6 (by kernel_rfl)
    (of_decide_eq_true (by kernel_rfl)) (by unfold Func.isWrapper; first | (rw [if_pos (by decide +kernel)]; kernel_rfl) | (rw [if_neg (by decide +kernel)]; exact ⟨rfl, rfl⟩))
    (fun os started H enc _ => both_lifted os started H enc)
#print axioms both_holds

end Go.Proofs.Ytipiblaoogneaaa
