/- The law of what is parsed: the walk. -/
import Derived.Test.YtldkmkgkllgckaaDoorParse2
import Derived.Test.YtldkmkgkllgckaaDoorRParse
import Derived.Test.YtldkmkgkllgckaaDoorMade
set_option linter.unusedSimpArgs false
namespace Go.Proofs.YtldkmkgkllgckaaDoor
open Go.RowKit

theorem bytes_back {S : ByteArray} {w : World} {g : Nat} {v : Value} {l : List Sl} (h : Pg0 w g v l) (hS : S.size = 512) (hp : parseM S = some l) (w' : World) (hb : Below w.heap.size w w') :
    Calls Tryd.prog 9 #[.pointer (some ⟨g, 0, none⟩)] w' fun e w'' => e = .returned (.string S) ∧ Below w'.heap.size w' w'' := by
  have h5 := bytes_any (h.below hb)
  rw [(parse_ok hS hp).2] at h5
  exact h5
theorem parses_mid {S : ByteArray} {W w1 w2 : World} {g : Nat} {q v : Value} {l : List Sl} (hE : parseE S = 0) (hp : parseM S = some l) (hP : Pg0 w1 g v l) (hB : Below W.heap.size W w1) (hr : RRes w1 w2 S q) : Pg0 w2 g v l ∧ Rf w2 q l ∧ Below W.heap.size W w2 := by
  obtain ⟨l', hpm', hrf⟩ := hr.ok hE
  rw [hp] at hpm'
  cases hpm'
  exact ⟨hP.below hr.below, hrf, hB.trans (hr.below.mono hB.size)⟩
set_option maxRecDepth 20000 in
set_option maxHeartbeats 1600000 in
theorem parses_walk (S : ByteArray) (W : World) (hS : S.size ≤ 9223372036854775807) :
    Calls Tryd.prog 3 #[.string S] W fun e W' => e = .returned (.bool true) ∧ Below W.heap.size W W' := by
  have HLV := Lib.hid lives_any
  by_cases h2 : 2000 < S.size
  · have hd : decide ((2000 : Int) < (S.size : Int)) = true := by simp; omega
    go_enter Tryd.func3, Tryd.ntmps3
    go_wp2_with (go_at_call 5; refine (HLV.out _).mono ?_; rintro e w8 ⟨rfl, hb⟩)
    go_ret
    exact ⟨rfl, hb⟩
  · have hd : decide ((2000 : Int) < (S.size : Int)) = false := by simp; omega
    have HP := Lib.hid (parse_any S · hS)
    have HR := Lib.hid (rparse_any S · hS)
    by_cases hE : parseE S = 0
    · have HSZ : Hid (S.size = 512) := Lib.hid (by
        unfold parseE at hE
        split at hE
        · cases hE
        · split at hE
          · cases hE
          · omega)
      rw [hE] at HP HR
      have HE := Lib.hid hE
      clear hE
      go_enter Tryd.func3, Tryd.ntmps3
      go_wp2_with (first
        | (go_at_call 6; refine (HP.out _).mono ?_; rintro e w1 ⟨p, rfl, hp⟩; obtain ⟨l, g, F, rfl, hpm, hpg, hF⟩ := hp.ok HE.out; obtain ⟨v, hpg, rfl⟩ := hpg; have HPM := Lib.hid hpm; have HPG := Lib.hid hpg; have HB1 := Lib.hid hp.below; clear hp hpm hpg hF)
        | (go_at_call 7; refine (HR.out _).mono ?_; rintro e w2 ⟨q, rfl, hr⟩; have hM := parses_mid HE.out HPM.out HPG.out HB1.out hr; have HM := Lib.hid hM; have HAL := Lib.hid (alike_any hM.1 hM.2.1); have HBY := Lib.hid (bytes_back hM.1 HSZ.out HPM.out); have hbeq : (S.toList == S.toList) = true := beq_self_eq_true _; clear hr hM)
        | (go_at_call 8; refine HAL.out.mono ?_; rintro e w3 ⟨rfl, hb3⟩; have HB3 := Lib.hid hb3; clear hb3)
        | (go_at_call 9; refine (HBY.out _ HB3.out).mono ?_; rintro e w4 ⟨rfl, hb4⟩; have HB4 := Lib.hid hb4; clear hb4)
        | (go_at_call 5; refine (HLV.out _).mono ?_; rintro e w8 ⟨rfl, hb⟩))
      go_ret
      have b3 := HM.out.2.2.trans (HB3.out.mono HM.out.2.2.size)
      have b4 := b3.trans (HB4.out.mono b3.size)
      exact ⟨rfl, b4.trans (hb.mono b4.size)⟩
    · have HE := Lib.hid hE
      obtain ⟨E, HEE⟩ : ∃ E, Hid (parseE S = E) := ⟨_, Lib.hid rfl⟩
      rw [HEE.out] at HP HR hE
      have hbne : (E != 0) = true := by simp; exact hE
      have hbne0 : (E == 0) = false := by simp; exact hE
      clear hE
      go_enter Tryd.func3, Tryd.ntmps3
      go_wp2_with (first
        | (go_at_call 6; refine (HP.out _).mono ?_; rintro e w1 ⟨p, rfl, hp⟩; obtain rfl := hp.no HE.out; have HB1 := Lib.hid hp.below; clear hp)
        | (go_at_call 7; refine (HR.out _).mono ?_; rintro e w2 ⟨q, rfl, hr⟩; have HB2 := Lib.hid (HB1.out.trans (hr.below.mono HB1.out.size)); clear hr)
        | (go_at_call 5; refine (HLV.out _).mono ?_; rintro e w8 ⟨rfl, hb⟩))
      go_ret
      exact ⟨rfl, HB2.out.trans (hb.mono HB2.out.size)⟩
end Go.Proofs.YtldkmkgkllgckaaDoor
