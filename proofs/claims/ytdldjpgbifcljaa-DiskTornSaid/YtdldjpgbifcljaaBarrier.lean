/- A barrier; a failure; a start. -/
import Derived.Test.YtdldjpgbifcljaaForget
namespace Go.Proofs.Ytdldjpgbifcljaa
open Go.RowKit

/-- A disk of which the first k writes were brought out, as far as f says. -/
def mkf (m : Dsk) (f : Nat → Option Nat) (k : Nat) : Dsk := { m with out := failN m.row m.out f k }
section
variable {w : World} {g bO cO bL cL : Nat} {vW : Value} {os ls : List Value} {ws : List Vw} {m : Dsk}
theorem bring_step {f : Nat → Option Nat} {k a : Nat} (h : Dk0 w g bO cO bL cL vW os ls ws (mkf m f k)) (hk : k < m.row.length) (hf : f k = some a) (ha : a ≤ 128) (hl : m.row.length ≤ 4611686018427387904) (A : Int) (HA : Hid ((a : Int) = A)) :
    Calls Try.prog 38 #[.pointer (some ⟨g, 0, none⟩), .int .i64 (k : Int), .int .i64 A] w fun e w' => e = .returned (.tuple #[]) ∧ ∃ os', Stays g bO cO bL cL vW os' ls ws (mkf m f (k + 1)) w w' := by
  rw [← HA.out]
  refine (bringOut_any h k a hk ha hl).mono ?_
  rintro e w' ⟨rfl, v, hs⟩
  have e : mkf m f (k + 1) = brung (mkf m f k) k (some a) := by
    show ({ m with out := bring (failN m.row m.out f k) (wr m.row k) (f k) } : Dsk) = _
    rw [hf]; rfl
  rw [← e] at hs
  exact ⟨rfl, _, hs⟩
theorem bring_skip {f : Nat → Option Nat} {k : Nat} (hf : f k = none) : mkf m f (k + 1) = mkf m f k := by
  show ({ m with out := bring (failN m.row m.out f k) (wr m.row k) (f k) } : Dsk) = _
  rw [hf]; rfl
theorem Stays.trans {w w1 w2 : World} {os1 os2 : List Value} {m1 m2 : Dsk} (h : Stays g bO cO bL cL vW os1 ls ws m1 w w1) (k : Stays g bO cO bL cL vW os2 ls ws m2 w1 w2) : Stays g bO cO bL cL vW os2 ls ws m2 w w2 := ⟨k.1, h.2.trans k.2⟩
theorem Dk0.wslice (h : Dk0 w g bO cO bL cL vW os ls ws m) (n : Nat) (hn : Hid (m.row.length = n)) : ∃ (q : Option Addr) (c : Nat), vW = .slice q n c := by
  rw [← hn.out]
  rcases h.rw_.2 with ⟨e, h0⟩ | ⟨g', cap, cur, e, _⟩
  · exact ⟨none, 0, by rw [e, h0]⟩
  · exact ⟨_, _, e⟩
def all128 (_ : Nat) : Option Nat := some 128

set_option maxHeartbeats 800000 in
theorem barrier_up (h : Dk0 w g bO cO bL cL vW os ls ws m) (hd : m.down = false) (hz : m.fuse ≠ 0) (hn : m.done ≤ 4611686018427387904) (hl : m.row.length ≤ 4611686018427387904) :
    Calls Try.prog 17 #[.pointer (some ⟨g, 0, none⟩)] w fun e w' => e = .returned (.int .i64 0) ∧ Went (foot g bO bL vW) g (barM m) w w' := by
  have HR := Lib.hid (ready_up h hd)
  have HBu := burn_any h hn
  rw [show burnE m = 0 from if_neg hz, show burnM m = burns m from if_neg hz] at HBu
  have HBU := Lib.hid HBu
  clear HBu
  have HFin : Hid (forgot (mkf (burns m) all128 m.row.length) = barM m) := Lib.hid (by
    unfold barM
    rw [if_neg (by simp [hd]), if_neg hz]
    show ({ burns m with out := failN m.row m.out all128 m.row.length, row := [] } : Dsk) = _
    rw [failN_all (f := all128) h.ok.out h.ok.row (fun _ _ => rfl) _ (Nat.le_refl _)]; rfl)
  have H0 : Hid (Stays g bO cO bL cL vW os ls ws m w w) := Lib.hid (Stays.refl h)
  clear h hd hz
  obtain ⟨n, hnn⟩ : ∃ n, Hid (m.row.length = n) := ⟨_, Lib.hid rfl⟩
  rw [hnn.out] at hl HFin
  go_enter Try.func17, Try.ntmps17
  go_wp2_with fail
  refine HR.out.mono ?_
  rintro e w1 ⟨rfl, rfl⟩
  go_wp2_with fail
  refine HBU.out.mono ?_
  rintro e w1 ⟨rfl, hs⟩
  have HS := Lib.hid hs
  clear hs HBU HR H0
  obtain ⟨q, cq, hvW⟩ := HS.out.1.wslice n hnn
  have hc2 := HS.out.1.c2
  rw [hvW] at hc2
  have HV := Lib.hid hvW
  clear hvW
  go_wp2_with fail
  clear hc2
  have HS0 : Hid (Stays g bO cO bL cL vW os ls ws (mkf (burns m) all128 0) w w1) := HS
  go_loopw [21] (fun iv wr => ∃ k : Nat, k ≤ n ∧ iv = .int .i64 (k : Int) ∧ Hid (∃ os', Stays g bO cO bL cL vW os' ls ws (mkf (burns m) all128 k) w wr)) (fun iv _ => n - (intOf iv).toNat)
  case atStart => exact ⟨0, by omega, by go_num, Lib.hid ⟨_, HS0.out⟩⟩
  case round =>
    obtain ⟨k, hk, rfl, hr⟩ := hrel
    clear HS HS0
    by_cases hlt : k < n
    · go_wp2_with fail
      obtain ⟨os', hs⟩ := hr.out
      have HS := Lib.hid hs
      clear hs hr
      refine (bring_step HS.out.1 (f := all128) (k := k) (a := 128) (show k < m.row.length by rw [hnn.out]; exact hlt) rfl (by omega) (show m.row.length ≤ _ by rw [hnn.out]; exact hl) 128 (Lib.hid rfl)).mono ?_
      rintro e w3 ⟨rfl, os2, hs2⟩
      have HS2 := Lib.hid (HS.out.trans hs2)
      clear hs2 HS
      go_wp2_with fail
      go_roundw
      case rel => exact ⟨k + 1, by omega, by go_num, Lib.hid ⟨_, HS2.out⟩⟩
      case measure => simp [intOf]; omega
    · obtain rfl : k = n := by omega
      go_wp2_with fail
      obtain ⟨os', hs⟩ := hr.out
      have HS := Lib.hid hs
      clear hs hr
      refine (forget_any HS.out.1).mono ?_
      rintro e w3 ⟨rfl, hD, hC⟩
      rw [HFin.out] at hD
      have HW : Hid (Went (foot g bO bL vW) g (barM m) w w3) := Lib.hid ⟨_, hD.went, HS.out.2.trans hC⟩
      clear hD hC HS
      go_wp2_with fail
      go_ret
      exact ⟨rfl, HW.out⟩

set_option maxHeartbeats 400000 in
theorem barrier_down (h : Dk0 w g bO cO bL cL vW os ls ws m) (hd : m.down = true) :
    Calls Try.prog 17 #[.pointer (some ⟨g, 0, none⟩)] w fun e w' => e = .returned (.int .i64 9) ∧ w = w' := by
  have HR := Lib.hid (ready_down h hd)
  clear h hd
  go_enter Try.func17, Try.ntmps17
  go_wp2_with (go_at_call 36; refine HR.out.mono ?_; rintro e w' ⟨rfl, rfl⟩)
  go_ret
  exact ⟨rfl, rfl⟩
set_option maxHeartbeats 400000 in
theorem barrier_nil (w : World) : Calls Try.prog 17 #[.pointer none] w fun e w' => e = .returned (.int .i64 1) ∧ w = w' := by
  go_enter Try.func17, Try.ntmps17
  go_wp2_with (go_at_call 36; refine (ready_nil _).mono ?_; rintro e w' ⟨rfl, rfl⟩)
  go_ret
  exact ⟨rfl, rfl⟩
set_option maxHeartbeats 400000 in
theorem barrier_burnt (h : Dk0 w g bO cO bL cL vW os ls ws m) (hd : m.down = false) (hz : m.fuse = 0) (hn : m.done ≤ 4611686018427387904) :
    Calls Try.prog 17 #[.pointer (some ⟨g, 0, none⟩)] w fun e w' => e = .returned (.int .i64 9) ∧ Went (foot g bO bL vW) g (burnt m) w w' := by
  have HR := Lib.hid (ready_up h hd)
  have HBu := burn_any h hn
  rw [show burnE m = 9 from if_pos hz, show burnM m = burnt m from if_pos hz] at HBu
  have HBU := Lib.hid HBu
  clear HBu h hd hz
  go_enter Try.func17, Try.ntmps17
  go_wp2_with fail
  refine HR.out.mono ?_
  rintro e w1 ⟨rfl, rfl⟩
  go_wp2_with fail
  refine HBU.out.mono ?_
  rintro e w1 ⟨rfl, hs⟩
  have HS := Lib.hid hs
  clear hs
  go_wp2_with fail
  go_ret
  exact ⟨rfl, _, HS.out.1.went, HS.out.2⟩
end
theorem barrier_any {w : World} {g : Nat} {F : List Nat} {m : Dsk} (h : Dk w g F m) (hn : m.done ≤ 4611686018427387904) (hl : m.row.length ≤ 4611686018427387904) :
    Calls Try.prog 17 #[.pointer (some ⟨g, 0, none⟩)] w fun e w' => e = .returned (.int .i64 (barE m)) ∧ Went F g (barM m) w w' := by
  obtain ⟨bO, cO, bL, cL, vW, os, ls, ws, h, rfl⟩ := h
  by_cases hd : m.down = true
  · have hE : barE m = 9 := by unfold barE; rw [if_pos hd]
    have hM : barM m = m := by unfold barM; rw [if_pos hd]
    rw [hE, hM]
    refine (barrier_down h hd).mono ?_
    rintro e w' ⟨rfl, rfl⟩
    exact ⟨rfl, Went.refl h.went⟩
  · have hd0 : m.down = false := by simpa using hd
    by_cases hz : m.fuse = 0
    · have hE : barE m = 9 := by unfold barE; rw [if_neg hd, if_pos hz]
      have hM : barM m = burnt m := by unfold barM; rw [if_neg hd, if_pos hz]
      rw [hE, hM]
      exact barrier_burnt h hd0 hz hn
    · have hE : barE m = 0 := by unfold barE; rw [if_neg hd, if_neg hz]
      rw [hE]
      exact barrier_up h hd0 hz hn hl
end Go.Proofs.Ytdldjpgbifcljaa
