/- What a word is, asked of one function after the other: numbers, symbols, bytes of hex digits. -/
import Derived.Test.YtjpbbooeihdnfaaDoorLBox
import Derived.BigQuiet
import Derived.Deep.QuietTactic
set_option maxRecDepth 20000
set_option linter.unusedSimpArgs false
namespace Go.Proofs.YtjpbbooeihdnfaaDoor
open Go.RowKit

theorem ret_cb {b b' : Int} {s s' : ByteArray} (h1 : b = b') (h2 : tl s = tl s') : Ending.returned (.tuple #[.int .i64 b, .string s]) = .returned (.tuple #[.int .i64 b', .string s']) := by
  have : s = s' := by
    apply ByteArray.ext; apply Array.ext'; exact h2
  rw [h1, this]
set_option maxHeartbeats 1600000 in
theorem cutBase_any (S : ByteArray) (w : World) (hS : S.size ≤ 5000) : Calls Tryd.prog 71 #[.string S] w fun e w' => e = .returned (.tuple #[.int .i64 ((cutB (tl S)).1 : Int), .string ⟨(cutB (tl S)).2.toArray⟩]) ∧ ∃ n, w' = w.drewN n := by
  have HL := Lib.hid (tl_len S)
  by_cases h2 : S.size < 2
  · have hc : cutB (tl S) = (10, tl S) := by unfold cutB; rw [if_pos (.inl (by rw [HL.out]; exact h2))]
    rw [hc]
    have hd : decide ((S.size : Int) < 2) = true := decide_eq_true (by omega)
    clear hc
    go_enter Tryd.func71, Tryd.ntmps71
    go_wp2_with fail
    go_ret2
    exact ⟨rfl, 0, rfl⟩
  · have hd : decide ((S.size : Int) < 2) = false := decide_eq_false (by omega)
    have hd2 : decide (S.size < 2) = false := decide_eq_false (by omega)
    have hi0 : ∀ w, (Instr.index 9 (.string S) (.int .i64 0)).run Tryd.prog w = .ok (.int .u8 (((tl S).getD 0 0).toNat : Int)) w := fun w => idx_any S 0 (by omega) w
    have hi1 : ∀ w, (Instr.index 9 (.string S) (.int .i64 1)).run Tryd.prog w = .ok (.int .u8 (((tl S).getD 1 0).toNat : Int)) w := fun w => idx_any S 1 (by omega) w
    have hlen : ¬ (tl S).length < 2 := by rw [HL.out]; exact h2
    have hx : tl (S.extract 2 S.size) = (tl S).drop 2 := tl_from S 2
    by_cases h0 : (tl S).getD 0 0 = 35
    · have e0 : ((((tl S).getD 0 0).toNat : Int) != 35) = false := by rw [h0]; rfl
      have hcb : cutB (tl S) = if (tl S).getD 1 0 = 98 then (2, (tl S).drop 2) else if (tl S).getD 1 0 = 111 then (8, (tl S).drop 2) else if (tl S).getD 1 0 = 100 then (10, (tl S).drop 2) else if (tl S).getD 1 0 = 120 then (16, (tl S).drop 2) else (10, tl S) := by
        conv => lhs; unfold cutB
        rw [if_neg (fun h => h.elim hlen (fun h => h h0))]
      generalize (tl S).getD 1 0 = c at *
      generalize (tl S).getD 0 0 = c0 at *
      have h2I : (2 : Int) ≤ (S.size : Int) := by omega
      clear hlen h0
      have HX := Lib.hid hx
      clear hx
      by_cases c1 : c = 98
      · have e1 : ((c.toNat : Int) == 98) = true := by rw [c1]; rfl
        rw [if_pos c1] at hcb
        rw [hcb]
        clear c1 hcb
        go_enter Tryd.func71, Tryd.ntmps71
        go_wp2_with fail
        go_quiet (fail)
        go_wp2_with fail
        go_ret2
        exact ⟨ret_cb rfl HX.out, _, rfl⟩
      · have e1 : ((c.toNat : Int) == 98) = false := u8_ne (k := 98) rfl c1
        rw [if_neg c1] at hcb
        by_cases c2 : c = 111
        · have e2 : ((c.toNat : Int) == 111) = true := by rw [c2]; rfl
          rw [if_pos c2] at hcb
          rw [hcb]
          clear c1 c2 hcb
          go_enter Tryd.func71, Tryd.ntmps71
          go_wp2_with fail
          go_quiet (fail)
          go_wp2_with fail
          go_ret2
          exact ⟨ret_cb rfl HX.out, _, rfl⟩
        · have e2 : ((c.toNat : Int) == 111) = false := u8_ne (k := 111) rfl c2
          rw [if_neg c2] at hcb
          by_cases c3 : c = 100
          · have e3 : ((c.toNat : Int) == 100) = true := by rw [c3]; rfl
            rw [if_pos c3] at hcb
            rw [hcb]
            clear c1 c2 c3 hcb
            go_enter Tryd.func71, Tryd.ntmps71
            go_wp2_with fail
            go_quiet (fail)
            go_wp2_with fail
            go_ret2
            exact ⟨ret_cb rfl HX.out, _, rfl⟩
          · have e3 : ((c.toNat : Int) == 100) = false := u8_ne (k := 100) rfl c3
            rw [if_neg c3] at hcb
            by_cases c4 : c = 120
            · have e4 : ((c.toNat : Int) == 120) = true := by rw [c4]; rfl
              rw [if_pos c4] at hcb
              rw [hcb]
              clear c1 c2 c3 c4 hcb
              go_enter Tryd.func71, Tryd.ntmps71
              go_wp2_with fail
              go_quiet (fail)
              go_wp2_with fail
              go_ret2
              exact ⟨ret_cb rfl HX.out, _, rfl⟩
            · have e4 : ((c.toNat : Int) == 120) = false := u8_ne (k := 120) rfl c4
              rw [if_neg c4] at hcb
              rw [hcb]
              clear c1 c2 c3 c4 hcb
              go_enter Tryd.func71, Tryd.ntmps71
              go_wp2_with fail
              go_ret2
              exact ⟨rfl, 0, rfl⟩
    · have hc : cutB (tl S) = (10, tl S) := by unfold cutB; rw [if_pos (.inr h0)]
      rw [hc]
      have e0 : ((((tl S).getD 0 0).toNat : Int) != 35) = true := by
        have h := u8_ne (k := 35) (n := 35) rfl h0
        rw [bne, h]; rfl
      generalize (tl S).getD 0 0 = c0 at *
      generalize (tl S).getD 1 0 = c1 at *
      clear hc h0 hx
      go_enter Tryd.func71, Tryd.ntmps71
      go_wp2_with fail
      go_ret2
      exact ⟨rfl, 0, rfl⟩
theorem cutB_len (L : List UInt8) : (cutB L).2.length ≤ L.length ∧ 2 ≤ (cutB L).1 ∧ (cutB L).1 ≤ 16 := by
  unfold cutB
  split
  · exact ⟨Nat.le_refl _, by simp, by simp⟩
  · split
    · exact ⟨by simp, by simp, by simp⟩
    · split
      · exact ⟨by simp, by simp, by simp⟩
      · split
        · exact ⟨by simp, by simp, by simp⟩
        · split
          · exact ⟨by simp, by simp, by simp⟩
          · exact ⟨Nat.le_refl _, by simp, by simp⟩
/-- What number tells: ErrNone, where the word is no number. -/
def numV (L : List UInt8) : Value := if parseE (cutB L).1 (cutB L).2 = 4 then askV ⟨0, 0, []⟩ 5 else askV ⟨10, parseV (cutB L).1 (cutB L).2, []⟩ (parseE (cutB L).1 (cutB L).2)
set_option maxHeartbeats 1600000 in
theorem number_any (S : ByteArray) (w : World) (hS : S.size ≤ 5000) : Calls Tryd.prog 58 #[.string S] w fun e w' => e = .returned (numV (tl S)) ∧ Below w.heap.size w w' := by
  obtain ⟨hz, -⟩ := zero_of_info (P := Tryd.prog) zeroTok
  obtain ⟨hl, hb1, hb2⟩ := cutB_len (tl S)
  have hcb := fun w => cutBase_any S w hS
  have hll := tl_len S
  unfold numV
  obtain ⟨b, hbb⟩ : ∃ b, (cutB (tl S)).1 = b := ⟨_, rfl⟩
  obtain ⟨L, hLL⟩ : ∃ L, (cutB (tl S)).2 = L := ⟨_, rfl⟩
  rw [hbb, hLL] at hcb
  rw [hbb] at hb1 hb2 ⊢
  rw [hLL] at hl ⊢
  have hpa := fun w => parse_any b L w hb1 hb2 (by omega)
  have HCB := Lib.hid hcb
  have HPA := Lib.hid hpa
  have b0 := build0
  have b1 := buildKN 10
  have HX0 : Hid (Bx4 (w.alloc (.cells #[.int .i64 0, .int .i64 0, .string ⟨#[]⟩, .int .i64 0] 30)) w.heap.size #[.int .i64 0, .int .i64 0, .string ⟨#[]⟩, .int .i64 0]) := Lib.hid (Bx4.new _ _)
  have HB0 := Lib.hid (alloc_below w (.cells #[.int .i64 0, .int .i64 0, .string ⟨#[]⟩, .int .i64 0] 30))
  generalize parseV b L = V at *
  generalize parseE b L = E at *
  clear hcb hpa hl hll hbb hLL hS
  by_cases hE : E = 4
  · subst hE
    rw [if_pos rfl]
    go_enter Tryd.func58, Tryd.ntmps58
    go_wp2_with (first
      | (go_at_call 71; refine (HCB.out _).mono ?_; rintro e w1 ⟨rfl, n, rfl⟩)
      | (go_at_call 37; refine (HPA.out _).mono ?_; rintro e w2 ⟨rfl, hb⟩; have HB := Lib.hid (HB0.out.trans ((below_drewN (Below.refl _ _) n).trans hb |>.mono HB0.out.size)); have hbx := (HX0.out.below (below_drewN (Below.refl _ _) n)).below hb; obtain ⟨⟨q0, q1, q2, q3⟩, f0, f1, f2, f3⟩ := hbx.cells; have HBX := Lib.hid hbx; clear hbx hb))
    exact bodyPost_ret (results_row_tmp rfl _ _ w.heap.size 30 _ (0, 0) _ rfl (HBX.out.set _ _ _ _).row Tryd.underlying30 rfl sizeTok) rfl ⟨rfl, box_below HB.out (Nat.le_refl _) _ _ _ _⟩
  · rw [if_neg hE]
    have hE2 : (E == 4) = false := beq_false_of_ne hE
    clear hE
    go_enter Tryd.func58, Tryd.ntmps58
    go_wp2_with (first
      | (go_at_call 71; refine (HCB.out _).mono ?_; rintro e w1 ⟨rfl, n, rfl⟩)
      | (go_at_call 37; refine (HPA.out _).mono ?_; rintro e w2 ⟨rfl, hb⟩; have HB := Lib.hid (HB0.out.trans ((below_drewN (Below.refl _ _) n).trans hb |>.mono HB0.out.size)); have hbx := (HX0.out.below (below_drewN (Below.refl _ _) n)).below hb; obtain ⟨⟨q0, q1, q2, q3⟩, f0, f1, f2, f3⟩ := hbx.cells; have HBX := Lib.hid hbx; clear hbx hb))
    exact bodyPost_ret (results_row_tmp rfl _ _ w.heap.size 30 _ (0, 0) _ rfl (HBX.out.set _ _ _ _).row Tryd.underlying30 rfl sizeTok) rfl ⟨rfl, box_below HB.out (Nat.le_refl _) _ _ _ _⟩
end Go.Proofs.YtjpbbooeihdnfaaDoor
