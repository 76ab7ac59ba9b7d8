/- A failure of power; a start. -/
import Derived.Test.YtnjlhallkgacjaaBarrier
namespace Go.Proofs.Ytnjlhallkgacjaa
open Go.RowKit

/-- A slice of bools that reads as f says. -/
def Kp (w : World) (p : Option Addr) (n : Nat) (f : Nat → Bool) : Prop := 0 < n → ∃ b o, p = some ⟨b, o, none⟩ ∧ ∀ r, r < n → w.cell? ⟨b, o + r, none⟩ = some (.bool (f r))
def Off (F : List Nat) (p : Option Addr) : Prop := ∀ b o, p = some ⟨b, o, none⟩ → b ∉ F
def keepB (n : Nat) (f : Nat → Bool) (k : Nat) : Bool := decide (k < n) && f k
theorem Kp.chg {w w' : World} {F F' : List Nat} {p : Option Addr} {n : Nat} {f : Nat → Bool} (h : Kp w p n f) (ho : 0 < n → Off F p) (hc : Chg F F' w w') : Kp w' p n f := fun hn => by
  obtain ⟨b, o, e, hb⟩ := h hn
  refine ⟨b, o, e, fun r hr => ?_⟩
  rw [← hb r hr]
  exact World.cell?_of_block (hc.block b (World.block_lt_of_cell? w _ (hb r hr)) (ho hn b o e))
section
variable {w : World} {g bO cO bL cL : Nat} {vW : Value} {os ls : List Value} {ws : List Vw} {m : Dsk}
theorem setBoth (h : Dk0 w g bO cO bL cL vW os ls ws m) (b : Bool) : Stays g bO cO bL cL vW os ls ws { m with fuse := -1, down := b } w ((w.setCell ⟨g, 3, none⟩ (.int .i64 (-1))).setCell ⟨g, 4, none⟩ (.bool b)) :=
  ⟨(h.setFuse (-1) (by omega) (by omega)).setDown b, (Dk0.chgG _ _ _).trans (Dk0.chgG _ _ _)⟩
set_option maxHeartbeats 1600000 in
theorem fail_any (h : Dk0 w g bO cO bL cL vW os ls ws m) (hl : m.row.length ≤ 4611686018427387904) (p : Option Addr) (nk ck : Nat) (f : Nat → Bool) (hK : Kp w p nk f) (hO : 0 < nk → Off (foot g bO bL vW) p) (hnk : nk ≤ 9223372036854775807)
    (torn at_ : Int) :
    Calls Try.prog 24 #[.pointer (some ⟨g, 0, none⟩), .slice p nk ck, .int .i64 torn, .int .i64 at_] w fun e w' => e = .returned (.tuple #[]) ∧ Went (foot g bO bL vW) g (failM m (keepB nk f) torn at_) w w' := by
  have HFin : Hid (failM m (keepB nk f) torn at_ = { forgot (mkf m (bits (keepB nk f) torn (cut128 at_)) m.row.length) with fuse := -1, down := true }) := Lib.hid rfl
  rw [HFin.out]
  have HS : Hid (Stays g bO cO bL cL vW os ls ws (mkf m (bits (keepB nk f) torn (cut128 at_)) 0) w w) := Lib.hid (Stays.refl h)
  have HK := Lib.hid hK
  have HO := Lib.hid hO
  have hC := cut128_le at_
  have HC : Hid (((cut128 at_ : Nat) : Int) = min (max at_ 0) 128) := Lib.hid (by unfold cut128; omega)
  clear HFin hK hO
  obtain ⟨n, hnn⟩ : ∃ n, Hid (m.row.length = n) := ⟨_, Lib.hid rfl⟩
  rw [hnn.out] at hl ⊢
  obtain ⟨q, cq, hvW⟩ := h.wslice n hnn
  have hc2 := h.c2
  rw [hvW] at hc2
  have HV := Lib.hid hvW
  obtain ⟨ca, hca⟩ : ∃ ca, cut128 at_ = ca := ⟨_, rfl⟩
  rw [hca] at HS HC hC ⊢
  have HT : Hid (∀ k : Nat, (k : Int) = torn → bits (keepB nk f) torn ca k = some ca) := Lib.hid (fun k hk => by unfold bits; rw [if_pos hk])
  have HT2 : Hid (∀ k : Nat, (k : Int) ≠ torn → k < nk → f k = true → bits (keepB nk f) torn ca k = some 128) := Lib.hid (fun k hk h1 h2 => by unfold bits keepB; rw [if_neg hk, if_pos (by simp [h1, h2])])
  have HT3 : Hid (∀ k : Nat, (k : Int) ≠ torn → (k < nk → f k = false) → bits (keepB nk f) torn ca k = none) := Lib.hid (fun k hk h1 => by
    unfold bits keepB
    rw [if_neg hk, if_neg (by
      intro e
      simp only [Bool.and_eq_true, decide_eq_true_eq] at e
      rw [h1 e.1] at e
      cases e.2)])
  generalize bits (keepB nk f) torn ca = bf at *
  clear hvW h hca
  go_enter Try.func24, Try.ntmps24
  go_wp2_with fail
  clear hc2
  go_loopw [16] (fun iv wr => ∃ k : Nat, k ≤ n ∧ iv = .int .i64 (k : Int) ∧ Hid (∃ os', Stays g bO cO bL cL vW os' ls ws (mkf m bf k) w wr)) (fun iv _ => n - (intOf iv).toNat)
  case atStart => exact ⟨0, by omega, by go_num, Lib.hid ⟨_, HS.out⟩⟩
  case round =>
    obtain ⟨k, hk, rfl, hr⟩ := hrel
    clear HS
    by_cases hlt : k < n
    · have HKR : Hid (k < m.row.length) := Lib.hid (by rw [hnn.out]; exact hlt)
      have HL : Hid (m.row.length ≤ 4611686018427387904) := Lib.hid (by rw [hnn.out]; exact hl)
      by_cases ht : (k : Int) = torn
      · have hb := Lib.hid (HT.out k ht)
        have hd : ((k : Int) == torn) = true := by simpa using ht
        clear ht
        go_wp2_with fail
        all_goals
          obtain ⟨os', hs⟩ := hr.out
          have HS := Lib.hid hs
          clear hs hr
          refine (bring_step HS.out.1 HKR.out hb.out hC HL.out _ (Lib.hid (by have := HC.out; omega))).mono ?_
          rintro e w3 ⟨rfl, os2, hs2⟩
          have HS2 := Lib.hid (HS.out.trans hs2)
          clear hs2 HS
          go_wp2_with fail
          go_roundw
          case rel => exact ⟨k + 1, by omega, by go_num, Lib.hid ⟨_, HS2.out⟩⟩
          case measure => simp [intOf]; omega
      · have hd : ((k : Int) == torn) = false := by simpa using ht
        by_cases hkn : k < nk
        · obtain ⟨os', hs⟩ := hr.out
          obtain ⟨b, o, rfl, hcell0⟩ := HK.out.chg HO.out hs.2 (by omega)
          have hcell := hcell0 k hkn
          clear hcell0
          have hkn2 : (k : Int) < (nk : Int) := by omega
          cases hfk : f k with
          | true =>
            have hb := Lib.hid (HT2.out k ht hkn hfk)
            rw [hfk] at hcell
            clear ht hfk
            have HS := Lib.hid hs
            clear hs hr
            go_wp2_with fail
            refine (bring_step HS.out.1 HKR.out hb.out (Nat.le_refl _) HL.out 128 (Lib.hid rfl)).mono ?_
            rintro e w3 ⟨rfl, os2, hs2⟩
            have HS2 := Lib.hid (HS.out.trans hs2)
            clear hs2 HS
            go_wp2_with fail
            go_roundw
            case rel => exact ⟨k + 1, by omega, by go_num, Lib.hid ⟨_, HS2.out⟩⟩
            case measure => simp [intOf]; omega
          | false =>
            have hb := HT3.out k ht (fun _ => hfk)
            rw [hfk] at hcell
            clear ht hfk
            rw [← bring_skip hb] at hs
            have HS := Lib.hid hs
            clear hs hr hb
            go_wp2_with fail
            go_roundw
            case rel => exact ⟨k + 1, by omega, by go_num, Lib.hid ⟨_, HS.out⟩⟩
            case measure => simp [intOf]; omega
        · have hb := HT3.out k ht (fun h => absurd h hkn)
          obtain ⟨os', hs⟩ := hr.out
          have hkn2 : decide (k < nk) = false := decide_eq_false hkn
          rw [← bring_skip hb] at hs
          have HS := Lib.hid hs
          clear hs hr hb ht
          go_wp2_with fail
          go_roundw
          case rel => exact ⟨k + 1, by omega, by go_num, Lib.hid ⟨_, HS.out⟩⟩
          case measure => simp [intOf]; omega
    · obtain rfl : k = n := by omega
      go_wp2_with fail
      obtain ⟨os', hs⟩ := hr.out
      have HS := Lib.hid hs
      clear hs hr
      refine (forget_any HS.out.1).mono ?_
      rintro e w3 ⟨rfl, hD, hCh⟩
      have hc3 := hD.c3
      have hc4 := hD.c4
      have f3 := hD.fz 3
      have f4 := hD.fz 4
      have HW : Hid (Went (foot g bO bL vW) g { forgot (mkf m bf k) with fuse := -1, down := true } w ((w3.setCell ⟨g, 3, none⟩ (.int .i64 (-1))).setCell ⟨g, 4, none⟩ (.bool true))) := Lib.hid ⟨_, (setBoth hD true).1.went, HS.out.2.trans (hCh.trans (setBoth hD true).2)⟩
      clear hD hCh HS
      go_wp2_with fail
      go_end0
      exact ⟨rfl, HW.out⟩
end
end Go.Proofs.Ytnjlhallkgacjaa
