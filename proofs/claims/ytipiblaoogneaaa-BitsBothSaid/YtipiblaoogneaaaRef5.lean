/- The document's row of two rows. -/
import Derived.Test.YtipiblaoogneaaaRef4
import Derived.Test.YtipiblaoogneaaaWith
namespace Go.Proofs.Ytipiblaoogneaaa
open Go.RowKit

theorem Bls.congr {w : World} {p : Option Addr} {n : Nat} {f g : Nat → Bool} (h : Bls w p n f) (he : ∀ i, i < n → f i = g i) : Bls w p n g :=
  ⟨fun hn => by
    obtain ⟨b, o, e, hc⟩ := h.inn hn
    exact ⟨b, o, e, fun i hi => by rw [hc i hi, he i hi]⟩⟩
theorem both_at (t : Bool) (f k : Nat → Bool) (i : Nat) : both t f k i = (if t then f i || k i else f i && !k i) := rfl
set_option maxRecDepth 20000 in
set_option maxHeartbeats 3200000 in
theorem rboth_any (p q : Option Addr) (n c m d : Nat) (f k : Nat → Bool) (t : Bool) (w : World) (hn : n ≤ 4096) (hm : m ≤ 4096) (hB : Bls w p n f) (hK : Bls w q m k) (hs : Sub m k) :
    Calls Try.prog 24 #[.slice p n c, .slice q m d, .bool t] w fun e w' => (∃ p' c', e = .returned (.slice p' n c') ∧ Bls w' p' n (both t f k)) ∧ Below w.heap.size w w' := by
  obtain ⟨i0, hi0, hz0, hz1, hz2⟩ := info_parts Try.info4
  have HB := Lib.hid hB
  have HK := Lib.hid hK
  have HSub := Lib.hid hs
  have HN := Lib.hid hn
  have HM := Lib.hid hm
  have HNIL : Hid (w.ownsRow w.heap.size 4 1 (.slice none 0 0) 0 (bvs (both t f k) 0)) := Lib.hid (World.ownsRow_nil _ _ _ _)
  clear hB hK hs hn hm
  go_enter Try.func24, Try.ntmps24
  go_wp2_with fail
  go_loopw [8, 7, 9] (fun iv lv _ wr => ∃ i : Nat, i ≤ n ∧ iv = .int .i64 (i : Int) ∧ wr.ownsRow w.heap.size 4 1 lv i (bvs (both t f k) i) ∧ Below w.heap.size w wr) (fun iv _ _ _ => n - (intOf iv).toNat)
  case atStart => exact ⟨0, by omega, by go_num, HNIL.out, Below.refl _ _⟩
  case round =>
    obtain ⟨i, hi, rfl, hown, hbw⟩ := hrel
    have HOW := Lib.hid hown
    have HBW := Lib.hid hbw
    clear hown hbw
    have hiz : (i : Int) ≤ 4096 := by have := HN.out; omega
    by_cases hlt : i < n
    · have hdl : decide ((i : Int) < (n : Int)) = true := decide_eq_true (by omega)
      obtain ⟨b, o, rfl, hc⟩ := (HB.out.below HBW.out).at (by omega)
      have hcell := hc i hlt
      have HBV : Hid (bvs (both t f k) (i + 1) = bvs (both t f k) i ++ [.bool (both t f k i)]) := Lib.hid (bvs_succ _ _)
      have HAT := Lib.hid (both_at t f k i)
      clear hc
      go_upto_region 5 with fail
      go_cut [9] (fun v wx => v = .bool (k i) ∧ wx = wr)
      case first =>
        by_cases hm2 : i < m
        · have hdm : decide ((i : Int) < (m : Int)) = true := decide_eq_true (by omega)
          have hdmn : decide (i < m) = true := decide_eq_true hm2
          obtain ⟨b2, o2, rfl, hc2⟩ := (HK.out.below HBW.out).at (by omega)
          have hcell2 := hc2 i hm2
          clear hc2
          generalize k i = kv at *
          go_wp2_with fail
          go_meet
          exact ⟨rfl, rfl⟩
        · have hdm : decide ((i : Int) < (m : Int)) = false := decide_eq_false (by omega)
          have hdmn : decide (i < m) = false := decide_eq_false hm2
          have hk0 := HSub.out i (by omega)
          go_wp2_with fail
          go_meet
          exact ⟨by rw [hk0], rfl⟩
      case rest =>
      obtain ⟨rfl, hwc⟩ := hcut
      replace hwc := hwc.symm
      subst hwc
      generalize f i = fv at *
      generalize k i = kv at *
      generalize both t f k i = bv at *
      have HT := HAT.out
      cases t <;> cases fv <;> cases kv
      all_goals
        simp only [if_true, Bool.false_eq_true, if_false, Bool.true_or, Bool.or_true, Bool.false_or, Bool.or_false, Bool.not_true, Bool.not_false, Bool.and_true, Bool.true_and, Bool.and_false, Bool.false_and] at HT
        subst HT
        go_wp2_with (at_builtin; first
          | refine wpList_append_own _ rfl _ _ 31 rfl w.heap.size 4 i0 (.bool false) 1 1 Try.underlying31 hi0 hz0 hz1 hz2 rfl (by decide) _ i _ rfl (World.ownsRow.alloc HOW.out _) ⟨wr.heap.size, 0, none⟩ 1 1 [.bool true] rfl rfl (one_cells wr _ _) ?c2 ?c3 ?c4 ?c5 ?_
          | refine wpList_append_own _ rfl _ _ 31 rfl w.heap.size 4 i0 (.bool false) 1 1 Try.underlying31 hi0 hz0 hz1 hz2 rfl (by decide) _ i _ rfl (World.ownsRow.alloc HOW.out _) ⟨wr.heap.size, 0, none⟩ 1 1 [.bool false] rfl rfl (one_cells wr _ _) ?c2 ?c3 ?c4 ?c5 ?_)
        case c2 => first | rfl | (intro u hu; simp at hu; subst hu; rfl)
        case c3 => unfold maxLen; have := HN.out; omega
        case c4 => have := HN.out; omega
        case c5 => have := HBW.out.size; simp; omega
        intro v' w1 hown hgrow hnil
        have HB1 := Lib.hid ((HBW.out.alloc HBW.out.size _).grown hgrow (by have := HBW.out.size; simp; omega) (by intro k2 hk2; exact (World.ownsRow.lt HOW.out k2 hk2).1))
        have hown2 := hown
        rw [← HBV.out] at hown2
        clear hown hgrow hnil
        go_wp2_with fail
        go_roundw
        case rel => exact ⟨i + 1, by omega, by go_num, hown2, HB1.out⟩
        case measure => simp [intOf]; omega
    · have hdl : decide ((i : Int) < (n : Int)) = false := decide_eq_false (by omega)
      have hdln : decide (i < n) = false := decide_eq_false hlt
      obtain rfl : i = n := by omega
      have hown := HOW.out
      obtain ⟨pp, cc, rfl⟩ := own_vslice hown
      have HBL := Lib.hid (Bls.of_any hown)
      clear hown hlt
      go_wp2_with fail
      go_ret
      exact ⟨⟨pp, cc, rfl, HBL.out.1⟩, HBW.out⟩
end Go.Proofs.Ytipiblaoogneaaa
