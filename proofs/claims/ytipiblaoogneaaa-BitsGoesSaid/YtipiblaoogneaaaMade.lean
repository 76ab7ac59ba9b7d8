/- A set that has some numbers, and the row of truths. -/
import Derived.Test.YtipiblaoogneaaaLPlays
namespace Go.Proofs.Ytipiblaoogneaaa
open Go.ChangeShapes Go.WideShapes Go.ChangeAt Go.RowKit

set_option maxRecDepth 20000 in
set_option maxHeartbeats 3200000 in
theorem made_any (n : Nat) (p : Option Addr) (m c : Nat) (z : Nat → Int) (w : World) (hn : n ≤ 200) (hm : m ≤ 9223372036854775807) (hZ : Zs w p m z) :
    Calls Try.prog 18 #[.int .i64 (n : Int), .slice p m c] w fun e w' => ∃ g b p' c' f, e = .returned (.tuple #[.pointer (some ⟨g, 0, none⟩), .slice p' n c']) ∧ PR w w' g b n p' f := by
  obtain ⟨i0, hi, hz0, hz1, hz2⟩ := info_parts Try.info4
  have HI := Lib.hid hi
  have HZ0 := Lib.hid hz0
  have HZ1 := Lib.hid hz1
  have HZ2 := Lib.hid hz2
  have HN := Lib.hid (new_yes n w (by omega))
  have HZ := Lib.hid hZ
  have HNN := Lib.hid hn
  clear hi hz0 hz1 hz2 hn hZ
  go_enter Try.func18, Try.ntmps18
  go_wp2_with (first
    | (go_at_call 7; refine HN.out.mono ?_; rintro e w1 ⟨⟨g, b, rfl, hg, hb1, hS⟩, hb⟩)
    | (refine wpList_make_full _ rfl _ _ 31 rfl 0 4 i0 (.bool false) 1 Try.underlying31 HI.out HZ0.out HZ1.out .i64 .i64 (n : Int) (n : Int) n rfl rfl rfl rfl (by have := HNN.out; rw [HZ2.out]; omega) (by have := HNN.out; unfold maxLen; omega) (Nat.zero_le _) ?_))
  intro w2 hown hgrow
  rw [falses_of] at hown
  have HP0 := Lib.hid (PR.start hg hb1 hS hb hown ((Below.refl _ _).grown hgrow (Nat.le_refl _) (fun k e => by cases e)))
  clear hown hgrow hS hb hg hb1 HI HZ0 HZ1 HZ2
  generalize w1.heap.size = q0 at *
  go_wp2_with fail
  go_loopw [9, 8] (fun iv lv wr => ∃ (i : Nat) (p2 : Option Addr) (c2 : Nat) (f2 : Nat → Bool), i ≤ 100 ∧ iv = .int .i64 (i : Int) ∧ lv = .slice p2 n c2 ∧ Hid (PR w wr g b n p2 f2)) (fun iv _ _ => 100 - (intOf iv).toNat)
  case atStart => exact ⟨0, _, _, _, by omega, by go_num, rfl, HP0⟩
  case round =>
    obtain ⟨i, p2, c2, f2, hi, rfl, rfl, HP⟩ := hrel
    clear HP0
    have HIZ := Lib.hid hi
    have hiz : (i : Int) ≤ 100 := by omega
    by_cases hlt : i < m ∧ i < 100
    · obtain ⟨bz, oz, rfl, hzl, hzc⟩ := HZ.out (by omega)
      obtain ⟨hz1, hz2, hz3⟩ := hzc i hlt.1
      have hcr := (HP.out.below.cell (p := ⟨bz, oz + i, none⟩) hzl).trans hz1
      have HC0 : Hid (∀ w', Below w.heap.size w w' → w'.cell? ⟨bz, oz + i, none⟩ = some (.int .i64 (z i))) := Lib.hid fun w' hb => (hb.cell (p := ⟨bz, oz + i, none⟩) hzl).trans hz1
      clear hzc hz1
      have hdm : decide ((i : Int) < (m : Int)) = true := decide_eq_true (by omega)
      have hdmn : decide (i < m) = true := decide_eq_true hlt.1
      have hd2 : decide ((i : Int) < 100) = true := decide_eq_true (by omega)
      have hdz : (i : Int) < (m : Int) := by omega
      have HLT := Lib.hid hlt
      generalize z i = x at *
      have HW := Lib.hid (fun w' hb4 => with_any p2 n c2 f2 x true w' hb4 (by have := HNN.out; omega))
      rw [wthB_true, wth_true] at HW
      clear hlt hi
      go_wp2_with (first
        | (go_at_call 12; refine (put_any HP.out.sat x).mono ?_; rintro e w4 ⟨rfl, hS4, ho4⟩; have hw4 := ho4.below HP.out.below HP.out.below.size HP.out.hb; have hcr3 := HC0.out w4 hw4)
        | (go_at_call 11; refine (HW.out _ (HP.out.row.only ho4 HP.out.far)).mono ?_; rintro e w3 ⟨⟨p3, c3, rfl, hB3, hfr⟩, hb3⟩))
      have HPN : Hid (PR w w3 g b n p3 (putI n f2 x)) := Lib.hid
        ⟨HP.out.hg, HP.out.hb, hS4.below hb3, hB3, fun b2 o e => by
          rcases hfr b2 o e with h1 | h1
          · exact HP.out.far b2 o (h1.trans e)
          · have := HP.out.sat.blt; have := ho4.size; omega, Below.more hw4 hb3 hw4.size⟩
      go_roundw
      case rel => exact ⟨i + 1, _, _, _, by have := HLT.out; omega, by go_num, rfl, HPN⟩
      case measure => have := HLT.out; simp [intOf]; omega
    · by_cases h1 : i < m
      · have hdm : decide ((i : Int) < (m : Int)) = true := decide_eq_true (by omega)
        have hdmn : decide (i < m) = true := decide_eq_true h1
        have hd2 : decide ((i : Int) < 100) = false := decide_eq_false (by omega)
        clear hlt hi
        go_wp2_with fail
        go_ret2
        exact ⟨g, b, p2, c2, f2, rfl, HP.out⟩
      · have hdm : decide ((i : Int) < (m : Int)) = false := decide_eq_false (by omega)
        have hdmn : decide (i < m) = false := decide_eq_false h1
        clear hlt hi
        go_wp2_with fail
        go_ret2
        exact ⟨g, b, p2, c2, f2, rfl, HP.out⟩
end Go.Proofs.Ytipiblaoogneaaa
