/- All of rounds of (Int × Int): a function to range over, which looks at the rounds anew each time. -/
import Derived.Test.YtekmboolfjicbaaRnV
import Derived.Test.YtekmboolfjicbaaRng
import Derived.RangeFuncNested
import Derived.RangeFuncBound
import Derived.RangeFuncCalls
import Derived.RangeFuncLeaves
import Derived.RangeFuncBox
import Derived.Shelf.Abstract
import Derived.Shelf.RegionOpen
import Derived.WalkKit
import Derived.OwnWalkIn
import Derived.TacticsInMore
import Derived.LoopNIn
import Derived.LoopIn
set_option maxRecDepth 20000
set_option linter.unusedSimpArgs false
namespace Go.Proofs.Ytekmboolfjicbaa
open Go.RowKit Go.Shelf
attribute [local go_sem] Oper.semAt_some

/-- Some rounds lie in block g. -/
def AtV (g : Nat) (T : List (Int × Int)) (W : World) : Prop := Thg 36 2 (fun x : Int × Int => [Value.int .i64 x.1, Value.int .i64 x.2]) W g T
/-- What the iterator leans on: its box, and the rounds. -/
def GoodV (Bs g : Nat) (_i : Nat) (W : World) : Prop := W.cell? ⟨Bs, 0, none⟩ = some (.pointer (some ⟨g, 0, none⟩)) ∧ ∃ T, AtV g T W ∧ T.length ≤ 100000
def ItemV (g : Nat) (i : Nat) (x : Nat × (Int × Int)) (W : World) : Prop := x.1 = i ∧ ∃ T, AtV g T W ∧ T[i]? = some x.2
def EndV (g : Nat) (i : Nat) (W : World) : Prop := ∃ T, AtV g T W ∧ T.length ≤ i
set_option maxRecDepth 100000 in
set_option maxHeartbeats 2000000 in
theorem allV_seq (n : Nat) (hn : 1 ≤ n) (Bs g : Nat) : SeqJ Fence.wide n Try.prog 62 #[.pointer (some ⟨Bs, 0, none⟩)] (fun x : Nat × (Int × Int) => #[.int .i64 (x.1 : Int), .agg #[.int .i64 x.2.1, .int .i64 x.2.2]]) (GoodV Bs g) (ItemV g) (EndV g) := by
  intro l J W hJ hG hY h0
  have HY := Lib.hid hY
  have HJ := Lib.hid hJ
  have HG := Lib.hid hG
  have H0 := Lib.hid h0
  clear hY hJ hG h0
  refine callsIn_of_wp Try.func62 rfl trivial ?_ rfl
  simp only [Try.ntmps62, List.size_toArray, List.length_cons, List.length_nil, Nat.reduceAdd, Nat.reduceSub, Array.replicate_succ, Array.replicate_zero, List.push_toArray, List.append_toArray, List.nil_append, List.cons_append]
  gi_wp2
  gi_loopw [3] (fun i wr => ∃ s : Nat, s ≤ 100000 ∧ i = .int .i64 (s : Int) ∧ Hid (J s wr)) (fun i _ => 100000 - (RowKit.intOf i).toNat)
  case atStart => exact ⟨0, by omega, rfl, H0⟩
  case round =>
    obtain ⟨s, hs, rfl, HS⟩ := hrel
    clear H0
    obtain ⟨hc, T, hat, hTl⟩ := HG.out s wr HS.out
    have HL := Lib.hid (rnV_len hat)
    have HAT := Lib.hid hat
    obtain ⟨ty, rest, vt, mv, hd0, hr⟩ := hat
    have c0 : wr.cell? ⟨g, 0, none⟩ = some vt := by rw [cell_of_row wr _ 0 _ _ _ hd0]; rfl
    obtain ⟨q, cp, e⟩ := own_form hr
    subst e
    by_cases hlt : s < T.length
    · have hd : decide ((s : Int) < (T.length : Int)) = true := decide_eq_true (by omega)
      have hd2 : decide (s < T.length) = true := decide_eq_true hlt
      have hls : (s : Int) < (T.length : Int) := by omega
      obtain ⟨x, hx⟩ : ∃ x, T[s]? = some x := ⟨T[s], List.getElem?_eq_getElem hlt⟩
      have HI : Hid (ItemV g s (s, x) wr) := Lib.hid ⟨rfl, T, HAT.out, hx⟩
      obtain ⟨b, d, e⟩ := own_some hr (by omega)
      cases e
      obtain ⟨f0, f1⟩ := flat2_get (fun x : Int × Int => Value.int .i64 x.1) (fun x : Int × Int => Value.int .i64 x.2) T s x hx
      have y0 : wr.cell? ⟨b, s * 2, none⟩ = some (.int .i64 x.1) := by
        have := hr.cellAt (s * 2) (by omega)
        rw [this]; exact f0
      have y1 : wr.cell? ⟨b, s * 2 + 1, none⟩ = some (.int .i64 x.2) := by
        have := hr.cellAt (s * 2 + 1) (by omega)
        rw [this]; exact f1
      have hy0 := HY.out s (s, x) wr HS.out HI.out
      obtain ⟨fn, tmps, assign, body, hy, hR⟩ := hy0
      have HR := Lib.hid hR
      have hz : (s : Int) ≤ 99999 := by omega
      have HLT : Hid (s + 1 ≤ 100000) := Lib.hid (by omega)
      clear hR hr hd0 hx hTl hlt HI HAT
      generalize hTN : T.length = N at *
      gi_wp2_with (refine ⟨trivial, ?_⟩; gi_at_call 63; refine (callsIn_wide.2 HL.out).mono ?_; rintro e w' ⟨rfl, rfl⟩)
      refine HR.out.mono ?_
      rintro e W3 ⟨rfl, hJ3⟩
      gi_wp2
      go_roundw
      case rel => exact ⟨s + 1, HLT.out, by go_num, Lib.hid hJ3⟩
      case measure => simp [RowKit.intOf]; omega
    · have hd : decide ((s : Int) < (T.length : Int)) = false := decide_eq_false (by omega)
      have hd2 : decide (s < T.length) = false := decide_eq_false hlt
      have HE : Hid (EndV g s wr) := Lib.hid ⟨T, HAT.out, by omega⟩
      clear hr hd0 hTl hlt HAT
      generalize hTN : T.length = N at *
      gi_wp2_with (refine ⟨trivial, ?_⟩; gi_at_call 63; refine (callsIn_wide.2 HL.out).mono ?_; rintro e w' ⟨rfl, rfl⟩)
      go_end0
      exact ⟨⟨_, rfl⟩, s, HS.out, HE.out⟩
theorem allV_any (q : Option Addr) (w : World) : Calls Try.prog 48 #[.pointer q] w fun e w' => e = .returned (.func (.func 62) #[] #[.pointer (some ⟨w.heap.size, 0, none⟩)]) ∧ w' = w.alloc (.cells #[.pointer q] 124) := by
  have hmf : ∀ (fn : Fn) (first cap : Array Value) (w : World), (Instr.makeFunc fn first cap).run Try.prog w = .ok (.func fn first cap) w := fun _ _ _ _ => rfl
  go_enter Try.func48, Try.ntmps48
  go_wp2_with fail
  go_ret
  exact ⟨rfl, rfl⟩
end Go.Proofs.Ytekmboolfjicbaa
