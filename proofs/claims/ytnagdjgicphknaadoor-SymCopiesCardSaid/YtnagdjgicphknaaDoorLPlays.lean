/- The law of names that are asked, found and made: the walk. -/
import Derived.Test.YtnagdjgicphknaaDoorSame
set_option linter.unusedSimpArgs false
set_option maxRecDepth 20000
namespace Go.Proofs.YtnagdjgicphknaaDoor
open Go.RowKit

/-- Amid the loop. -/
structure Md (w wr : World) (g : Nat) (x : Value) (L : List ByteArray) : Prop where
  pr : ∃ F, Pair wr g F x L ∧ ∀ k ∈ Pair.foot F x, w.heap.size ≤ k
  below : Below w.heap.size w wr
theorem Md.start {w w1 : World} {g : Nat} {F : List Nat} (h : Tb w1 g F []) (hF : ∀ k ∈ F, w.heap.size ≤ k) (hb : Below w.heap.size w w1) : Md w w1 g (.slice none 0 0) [] :=
  ⟨⟨F, ⟨h, Rf.nil_ _, fun k hk => by cases hk⟩, fun k hk => by unfold Pair.foot at hk; simp [Value.ownBlock] at hk; exact hF k hk⟩, hb⟩
theorem Md.form {w wr : World} {g : Nat} {x : Value} {L : List ByteArray} (h : Md w wr g x L) : ∃ q c, x = .slice q L.length c := by
  obtain ⟨F, hP, _⟩ := h.pr; exact hP.rf.form
theorem Md.stepR {w wr : World} {g : Nat} {x : Value} {L : List ByteArray} (h : Md w wr g x L) (hr : Room wr L) (o : Opv) (ho : o.name.size ≤ 200) :
    Calls Tryd.prog 10 #[.pointer (some ⟨g, 0, none⟩), x, o.val] wr fun e w' => ∃ y, e = .returned (.tuple #[y, .bool true]) ∧ Md w w' g y (opM L o) := by
  obtain ⟨F, hP, hF⟩ := h.pr
  refine (step_any hP hr o ho).mono ?_
  rintro e w' ⟨y, F', rfl, hP2, hc⟩
  exact ⟨y, rfl, ⟨F', hP2, hc.high h.below.size hF⟩, hc.below h.below h.below.size hF⟩
theorem Md.step {w wr : World} {g : Nat} {x : Value} {L : List ByteArray} (h : Md w wr g x L) (hl : L.length ≤ 98) (o : Opv) (ho : o.name.size ≤ 200) :
    Calls Tryd.prog 10 #[.pointer (some ⟨g, 0, none⟩), x, o.val] wr fun e w' => ∃ y, e = .returned (.tuple #[y, .bool true]) ∧ Md w w' g y (opM L o) := h.stepR (.few hl) o ho
theorem Md.later {w wr w' : World} {g : Nat} {x : Value} {L : List ByteArray} (h : Md w wr g x L) (hb : Below wr.heap.size wr w') : Md w w' g x L := by
  obtain ⟨F, hP, hF⟩ := h.pr
  exact ⟨⟨F, hP.below hb, hF⟩, h.below.trans (hb.mono h.below.size)⟩
set_option maxHeartbeats 1600000 in
theorem plays_walk (a : Option Addr) (n c : Nat) (f : Nat → Opv) (W : World) (hn : n ≤ 9223372036854775807) (hO : Ops W a n f) :
    Calls Tryd.prog 3 #[.slice a n c] W fun e W' => e = .returned (.bool true) ∧ Below W.heap.size W W' := by
  have HY := Lib.hid (fun hL => light_yes c hO (f := f) (n := n) hL)
  have HN := Lib.hid (fun hL => light_no c hO (f := f) (n := n) hL)
  have HLV := Lib.hid lives_any
  have HNew := Lib.hid (new_any W)
  have HM1 := Lib.hid may_any
  have HM2 := Lib.hid rmay_any
  have HO := Lib.hid hO
  clear hO
  by_cases hL : Lite f n
  · have HL := Lib.hid hL
    have hn60 := hL.le
    go_enter Tryd.func3, Tryd.ntmps3
    go_wp2_with (first
      | (go_at_call 7; refine (HY.out hL).mono ?_; rintro e w1 ⟨rfl, rfl⟩)
      | (go_at_call 9; refine HNew.out.mono ?_; rintro e w1 ⟨g, F, rfl, hT, hF, hb1⟩))
    have H0 : Hid (Md W w1 g (.slice none 0 0) (runM [] f 0)) := Lib.hid (Md.start hT hF hb1)
    clear hT hF hb1
    go_loopw [4, 5, 6] (fun xv iv _ wr => ∃ i : Nat, i ≤ n ∧ iv = .int .i64 (i : Int) ∧ Hid (Md W wr g xv (runM [] f i))) (fun _ iv _ _ => n - (intOf iv).toNat)
    case atStart => exact ⟨0, by omega, by go_num, H0⟩
    case round =>
      obtain ⟨i, hi, rfl, HI⟩ := hrel
      have hlen : (runM [] f i).length ≤ 98 := by have := runM_len [] f i; simp at this; omega
      by_cases hlt : i < n
      · have hiN : (i : Int) < (n : Int) := by omega
        obtain ⟨b, o, rfl, hc⟩ := (HO.out.below HI.out.below) (by omega)
        obtain ⟨x0, x1⟩ := hc i hlt
        have HS : Hid (Calls Tryd.prog 10 #[.pointer (some ⟨g, 0, none⟩), u4, .agg #[.int .i64 (f i).kind, .string (f i).name]] wr fun e w' => ∃ y, e = .returned (.tuple #[y, .bool true]) ∧ Md W w' g y (opM (runM [] f i) (f i))) := Lib.hid (HI.out.step hlen (f i) (HL.out.sz i hlt))
        go_upto_region 10 with (go_at_call 10; refine HS.out.mono ?_; rintro e w2 ⟨y, rfl, hI2⟩)
        have HI2 := Lib.hid (show Md W w2 g y (runM [] f (i + 1)) from hI2)
        obtain ⟨b', o', eb, hc'⟩ := (HO.out.below hI2.below) (by omega)
        cases eb
        have y1 := (hc' i hlt).c1
        clear hI2 hc' x0 x1 hc
        obtain ⟨S, HSS⟩ : ∃ S, Hid ((f i).name = S) := ⟨_, Lib.hid rfl⟩
        rw [HSS.out] at y1
        have HA := Lib.hid (HM1.out S)
        have HB := Lib.hid (HM2.out S)
        have hbb : (okB S != okB S) = false := by simp
        generalize okB S = bb at *
        go_quiet (first
          | (go_at_call 11; exact Calls.quiet_of_same ((HA.out _).mono fun _ _ h => ⟨h.1, h.2.symm⟩))
          | (go_at_call 12; exact Calls.quiet_of_same ((HB.out _).mono fun _ _ h => ⟨h.1, h.2.symm⟩)))
        go_wp2_with fail
        go_roundw
        case rel => exact ⟨i + 1, by omega, by go_num, Lib.hid (HI2.out.later (below_drewN (Below.refl _ _) _))⟩
        case measure => simp [intOf]; omega
      · obtain rfl : i = n := by omega
        obtain ⟨F, hP, _⟩ := HI.out.pr
        have HSm := Lib.hid (same_any hP (by omega))
        have HBB := Lib.hid HI.out.below
        clear hP
        go_wp2_with (first
          | (go_at_call 13; refine HSm.out.mono ?_; rintro e w2 ⟨rfl, hb2⟩)
          | (go_at_call 8; refine (HLV.out _).mono ?_; rintro e w3 ⟨rfl, hb3⟩))
        go_ret
        exact ⟨rfl, HBB.out.trans ((hb2.trans (hb3.mono hb2.size)).mono HBB.out.size)⟩
  · go_enter Tryd.func3, Tryd.ntmps3
    go_wp2_with (first
      | (go_at_call 7; refine (HN.out hL).mono ?_; rintro e w1 ⟨rfl, rfl⟩)
      | (go_at_call 8; refine (HLV.out _).mono ?_; rintro e w1 ⟨rfl, hb1⟩))
    go_ret
    exact ⟨rfl, hb1⟩
end Go.Proofs.YtnagdjgicphknaaDoor
