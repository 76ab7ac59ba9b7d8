/- Texts BIter to Enc of this seat, laid into one. -/
import Derived.RangeFuncNested
import Derived.RangeFuncBound
import Derived.RangeFuncCalls
import Derived.RangeFuncLeaves
import Derived.RangeFuncBox
import Derived.Shelf.Abstract
import Derived.Shelf.RegionOpen
import Derived.WalkKit
import Derived.OwnWalkIn
import Derived.TacticsInMore
import Derived.LoopNIn
import Derived.LoopIn
import Derived.Test.YtmbecjlioogbhaaGreatDoorProg
import Derived.WalkSpells
import Derived.WalkLawsBesides
import Derived.Laws.BitsAllLaws
import Derived.Lib.Hide
import Derived.Outline
import Derived.Laws.OwnMore
import Derived.Laws.CopyOwn
import Derived.OwnWalk
import Derived.Laws.CopyRow
import Derived.Deep.RegionHeld3
import Derived.Deep.AppendLies
import Derived.StillTailTactics
import Derived.Deep.RegionWith
import Derived.Test.YtmbecjlioogbhaaGreatDoorM00
import Derived.Test.YtmbecjlioogbhaaGreatDoorM02
import Derived.Test.YtmbecjlioogbhaaGreatDoorM03
import Derived.Test.YtmbecjlioogbhaaGreatDoorM05
set_option linter.unusedVariables false
set_option linter.unusedSimpArgs false
set_option linter.constructorNameAsVariable false
section
/-! The functions to range over: what they tell a body, number by number, run by run. -/
set_option maxRecDepth 20000
namespace Go.Proofs.YtmbecjlioogbhaaGreatDoor.Bi
open Go.RowKit Go.Shelf
attribute [local go_sem] Oper.semAt_some

/-- Three blocks lie as they lay. -/
def Three (x y z : Nat) (A B : World) : Prop := B.heap[x]? = A.heap[x]? ∧ B.heap[y]? = A.heap[y]? ∧ B.heap[z]? = A.heap[z]?
theorem Three.refl (x y z : Nat) (A : World) : Three x y z A A := ⟨rfl, rfl, rfl⟩
theorem Three.trans {x y z : Nat} {A B C : World} (h : Three x y z A B) (k : Three x y z B C) : Three x y z A C := ⟨k.1.trans h.1, k.2.1.trans h.2.1, k.2.2.trans h.2.2⟩
theorem Three.of_below {n₀ x y z : Nat} {A B : World} (h : Below n₀ A B) (hx : x < n₀) (hy : y < n₀) (hz : z < n₀) : Three x y z A B := ⟨h.block x hx, h.block y hy, h.block z hz⟩
theorem Three.fst {x y z o : Nat} {A B : World} (h : Three x y z A B) : B.cell? ⟨x, o, none⟩ = A.cell? ⟨x, o, none⟩ := World.cell?_of_block (w := A) h.1
theorem Three.sat {x g b n : Nat} {f : Nat → Bool} {A B : World} (h : Three x g b A B) (hS : Sat A g b n f) : Sat B g b n f := hS.same h.2.1 h.2.2
theorem Three.put {w : World} {x y z : Nat} (hx : x < w.heap.size) (hy : y < w.heap.size) (hz : z < w.heap.size) (W : World) (l : Nat) (o o' : Obj) (hl : w.heap.size ≤ l) (h : W.heap[l]? = some o) (h1 : o.isCells = false) (h2 : o.isWalk = false) : Three x y z W (W.putObj l o') :=
  Three.of_below (belowK_b (w := w) (Nat.le_refl _) W l o o' hl h h1 h2) hx hy hz
theorem Three.setCell {x y z g i : Nat} (hx : x ≠ g) (hy : y ≠ g) (hz : z ≠ g) (v : Value) (w : World) : Three x y z w (w.setCell ⟨g, i, none⟩ v) := ⟨Below.heap_setCell w _ v x hx, Below.heap_setCell w _ v y hy, Below.heap_setCell w _ v z hz⟩
theorem Three.drew (x y z : Nat) (w : World) : Three x y z w w.drew := ⟨rfl, rfl, rfl⟩

end Go.Proofs.YtmbecjlioogbhaaGreatDoor.Bi
end
section
/-! How many numbers a set has. -/
set_option maxRecDepth 20000
namespace Go.Proofs.YtmbecjlioogbhaaGreatDoor.Bi
open Go.RowKit Go.Shelf
attribute [local go_sem] Oper.semAt_some

/-- What All, and Runs, tell of a set: a function that goes over a set by itself. -/
structure Told (W w' : World) (Bs g b n : Nat) (f : Nat → Bool) : Prop where
  l1 : W.heap.size ≤ Bs
  l2 : W.heap.size ≤ g
  l3 : W.heap.size ≤ b
  h1 : Bs < w'.heap.size
  cell : w'.cell? ⟨Bs, 0, none⟩ = some (.pointer (some ⟨g, 0, none⟩))
  sat : Sat w' g b n f
/-- A box that holds a number. -/
structure Bx (w : World) (g : Nat) (v : Int) : Prop where
  cell : w.cell? ⟨g, 0, none⟩ = some (.int .i64 v)
  fz : w.frozen? ⟨g, 0, none⟩ = false
theorem Bx.own {g : Nat} (v : List Run → Int) : Own (fun (pre : List Run) W => Bx W g (v pre)) := fun _ _ _ _ hs hg hr =>
  ⟨cell_kept hs.cell hg hr, (frozen_kept hs.cell hg hr).trans hs.fz⟩
end Go.Proofs.YtmbecjlioogbhaaGreatDoor.Bi
end
section
/-! What the code's own sums return, and what they leave. -/
set_option maxRecDepth 20000
namespace Go.Proofs.YtmbecjlioogbhaaGreatDoor
open Go.RowKit

def Eaten (k R V : Nat) : Prop := R < 4294967296 ∧ stps (8 - k) R = V
theorem eaten_put {k R V R2 : Nat} (h : Eaten k R V) (hk : k < 8) (h2 : stp R = R2) : Eaten (k + 1) R2 V := by
  obtain ⟨hl, he⟩ := h
  subst h2
  refine ⟨stp_lt hl, ?_⟩
  rw [← he, show 8 - k = (8 - (k + 1)) + 1 by omega]; rfl

set_option maxHeartbeats 400000 in
theorem take_any (r c : Nat) (w : World) (hr : r < 4294967296) (hc : c < 256) :
    Calls Tryz.prog 260 #[.int .u32 r, .int .u8 c] w fun e w' => e = .returned (.int .u32 (eat r c : Nat)) ∧ w = w' := by
  have hx := u32_xor_nat r c hr (by omega)
  have hw : IntKind.u32.wrap (c : Int) = c := by rw [IntKind.wrap_u32]; omega
  obtain ⟨V, HV⟩ : ∃ V, Hid (eat r c = V) := ⟨_, rfl⟩
  rw [HV.out]
  have H0 : Hid (Eaten 0 (r ^^^ c) V) := Lib.hid ⟨xor_lt hr (by omega), HV.out⟩
  go_enter Tryz.func260, Tryz.ntmps260
  go_wp2
  clear hx hw
  generalize r ^^^ c = R0 at *
  go_loop [0, 10] (fun rv iv => ∃ k R : Nat, k ≤ 8 ∧ iv = .int .i64 (k : Int) ∧ rv = .int .u32 (R : Int) ∧ Eaten k R V) (fun _ i => 8 - (RowKit.intOf i).toNat)
  case atStart => exact ⟨0, R0, by omega, rfl, rfl, H0.out⟩
  case round =>
    obtain ⟨k, R, hk, rfl, rfl, hR⟩ := hrel
    have hl := hR.1
    have HR := Lib.hid hR
    clear hR H0
    by_cases hlt : k < 8
    · have hand : bits .and .u32 (R : Int) 1 = ((R % 2 : Nat) : Int) := by
        have h := u32_and_nat R 1 hl (by omega)
        rw [Nat.and_one_is_mod] at h; exact h
      by_cases ho : R % 2 = 1
      · have hb : (bits .and .u32 (R : Int) 1 == 1) = true := by rw [hand, ho]; rfl
        have hxp : bits .xor .u32 ((R : Int) / 2) 3988292384 = ((R / 2 ^^^ 3988292384 : Nat) : Int) := u32_xor_nat (R / 2) 3988292384 (by omega) (by omega)
        have HS : Hid (stp R = R / 2 ^^^ 3988292384) := Lib.hid (if_pos ho)
        clear ho hand
        go_wp2
        go_round
        case rel => exact ⟨k + 1, R / 2 ^^^ 3988292384, by omega, by go_num, rfl, eaten_put HR.out hlt HS.out⟩
        case measure => simp [RowKit.intOf]; omega
      · have hb : (bits .and .u32 (R : Int) 1 == 1) = false := by rw [hand, show R % 2 = 0 by omega]; rfl
        have HS : Hid (stp R = R / 2) := Lib.hid (if_neg ho)
        clear ho hand
        go_wp2
        go_round
        case rel => exact ⟨k + 1, R / 2, by omega, by go_num, by go_num, eaten_put HR.out hlt HS.out⟩
        case measure => simp [RowKit.intOf]; omega
    · obtain rfl : k = 8 := by omega
      obtain rfl : R = V := HR.out.2
      clear HV HR
      go_wp2
      go_ret
      exact ⟨rfl, rfl⟩

theorem eats_snoc (R : Nat) (bs : List Nat) (k : Nat) (h : k < bs.length) : eats R (bs.take (k + 1)) = eat (eats R (bs.take k)) (bs.getD k 0) := by
  rw [take_succ_getD bs k h, eats_append]; rfl
theorem max_u32 : IntKind.u32.max = ((full : Nat) : Int) := by decide
theorem ret_u32 {a b : Nat} (h : a = b) : Ending.returned (.int .u32 (a : Int)) = .returned (.int .u32 (b : Int)) := by rw [h]

set_option maxHeartbeats 400000 in
theorem more_zero (s : Nat) (p : Option Addr) (c : Nat) (w : World) (hs : s < 4294967296) :
    Calls Tryz.prog 253 #[.int .u32 s, .slice p 0 c] w fun e w' => e = .returned (.int .u32 (s : Nat)) ∧ w = w' := by
  have hx : bits .xor .u32 IntKind.u32.max (s : Int) = ((full ^^^ s : Nat) : Int) := by rw [max_u32]; exact u32_xor_nat full s (by decide) hs
  have hR : full ^^^ s < 4294967296 := xor_lt (by decide) hs
  have hy : bits .xor .u32 IntKind.u32.max ((full ^^^ s : Nat) : Int) = (s : Int) := by rw [max_u32, u32_xor_nat full _ (by decide) hR, ← Nat.xor_assoc, Nat.xor_self, Nat.zero_xor]
  generalize full ^^^ s = R0 at *
  go_enter Tryz.func253, Tryz.ntmps253
  go_wp2_with fail
  clear hx
  go_loop [5, 12] (fun rv iv => iv = .int .i64 0 ∧ rv = .int .u32 (R0 : Int)) (fun _ _ => 0)
  case atStart => exact ⟨by go_num, rfl⟩
  case round =>
    obtain ⟨rfl, rfl⟩ := hrel
    go_wp2_with fail
    go_ret
    exact ⟨rfl, rfl⟩

set_option maxHeartbeats 400000 in
theorem more_pos (s : Nat) (b o n c : Nat) (bs : List Nat) (w : World) (hs : s < 4294967296) (hm : n ≤ 9223372036854775807) (hB : Bys w (some ⟨b, o, none⟩) n bs) (hc : ∀ i, i < n → w.cell? ⟨b, o + i, none⟩ = some (.int .u8 ((bs.getD i 0 : Nat) : Int))) :
    Calls Tryz.prog 253 #[.int .u32 s, .slice (some ⟨b, o, none⟩) n c] w fun e w' => e = .returned (.int .u32 (more s bs : Nat)) ∧ w = w' := by
  have hx : bits .xor .u32 IntKind.u32.max (s : Int) = ((full ^^^ s : Nat) : Int) := by rw [max_u32]; exact u32_xor_nat full s (by decide) hs
  have hR : full ^^^ s < 4294967296 := xor_lt (by decide) hs
  obtain ⟨V, HV⟩ : ∃ V, Hid (more s bs = V) := ⟨_, rfl⟩
  rw [HV.out]
  unfold more at HV
  generalize full ^^^ s = R0 at *
  have HB := Lib.hid hB
  have HC := Lib.hid hc
  clear hB hc
  go_enter Tryz.func253, Tryz.ntmps253
  go_wp2_with fail
  clear hx
  go_loop [5, 12] (fun rv iv => ∃ k R : Nat, k ≤ n ∧ iv = .int .i64 (k : Int) ∧ rv = .int .u32 (R : Int) ∧ R < 4294967296 ∧ eats R0 (bs.take k) = R) (fun _ i => n - (RowKit.intOf i).toNat)
  case atStart => exact ⟨0, R0, by omega, by go_num, rfl, hR, rfl⟩
  case round =>
    obtain ⟨k, R, hk, rfl, rfl, hR1, hR2⟩ := hrel
    have HR := Lib.hid hR2
    clear hR2
    by_cases hlt : k < n
    · have hcell := HC.out k hlt
      have hx := HB.out.getD k
      have HS := Lib.hid (eats_snoc R0 bs k (by rw [HB.out.len]; exact hlt))
      generalize bs.getD k 0 = x at *
      go_wp2_with (go_at_call 260; refine (take_any R x _ hR1 hx).mono ?_; rintro e w' ⟨rfl, rfl⟩)
      go_round
      case rel => exact ⟨k + 1, eat R x, by omega, by go_num, rfl, eat_lt hR1 hx, by rw [HS.out, HR.out]⟩
      case measure => simp [RowKit.intOf]; omega
    · have HE : Hid (full ^^^ R = V) := by
        rw [← HV.out, ← HR.out, List.take_of_length_le (by rw [HB.out.len]; omega)]; exact Lib.hid rfl
      have hy : bits .xor .u32 IntKind.u32.max (R : Int) = ((full ^^^ R : Nat) : Int) := by rw [max_u32]; exact u32_xor_nat full R (by decide) hR1
      generalize full ^^^ R = X at *
      go_wp2_with fail
      go_ret
      exact ⟨ret_u32 HE.out, rfl⟩

theorem more_any (s : Nat) (p : Option Addr) (n c : Nat) (bs : List Nat) (w : World) (hs : s < 4294967296) (hm : n ≤ 9223372036854775807) (hB : Bys w p n bs) :
    Calls Tryz.prog 253 #[.int .u32 s, .slice p n c] w fun e w' => e = .returned (.int .u32 (more s bs : Nat)) ∧ w = w' := by
  rcases Nat.eq_zero_or_pos n with h | h
  · subst h
    rw [hB.nil_, more_nil]
    exact more_zero s p c w hs
  · obtain ⟨b, o, rfl, hc⟩ := hB.at h
    exact more_pos s b o n c bs w hs hm hB hc

set_option maxHeartbeats 400000 in
theorem sum_any (p : Option Addr) (n c : Nat) (bs : List Nat) (w : World) (hm : n ≤ 9223372036854775807) (hB : Bys w p n bs) :
    Calls Tryz.prog 238 #[.slice p n c] w fun e w' => e = .returned (.int .u32 (more 0 bs : Nat)) ∧ w = w' := by
  have HB := Lib.hid hB
  clear hB
  go_enter Tryz.func238, Tryz.ntmps238
  go_wp2_with (go_at_call 253; refine (more_any 0 p n c bs _ (by omega) hm HB.out).mono ?_; rintro e w' ⟨rfl, rfl⟩)
  go_ret
  exact ⟨rfl, rfl⟩
end Go.Proofs.YtmbecjlioogbhaaGreatDoor
end
section
/-! What the bytes of a sum are, in memory of the call's own. -/
set_option maxRecDepth 20000
namespace Go.Proofs.YtmbecjlioogbhaaGreatDoor
open Go.RowKit

def TailSt (B g s k : Nat) (w wr : World) : Prop := wr.ownsRow B 5 1 (.slice (some ⟨g, 0, none⟩) 4 4) 4 (u8s ((tailOf s).take k ++ List.replicate (4 - k) 0)) ∧ Below B w wr
theorem tail_put {B g s k : Nat} {w wr : World} (h : TailSt B g s k w wr) (hg : B ≤ g) (x : Nat) (hx : (((tailOf s).take k ++ List.replicate (4 - k) 0).set k x) = (tailOf s).take (k + 1) ++ List.replicate (4 - (k + 1)) 0) :
    TailSt B g s (k + 1) w (wr.setCell ⟨g, k, none⟩ (.int .u8 (x : Int))) := by
  refine ⟨?_, h.2.setCell hg _⟩
  have h2 := h.1.stored k (.int .u8 (x : Int))
  rw [← hx]
  have e : u8s (((tailOf s).take k ++ List.replicate (4 - k) 0).set k x) = (u8s ((tailOf s).take k ++ List.replicate (4 - k) 0)).set k (.int .u8 (x : Int)) := by
    unfold u8s; rw [List.map_set]
  rw [e]; exact h2.1

set_option maxHeartbeats 400000 in
theorem tail_any (s : Nat) (w : World) (hs : s < 4294967296) :
    Calls Tryz.prog 237 #[.int .u32 s] w fun e w' => (∃ g, e = .returned (.slice (some ⟨g, 0, none⟩) 4 4) ∧ Bys w' (some ⟨g, 0, none⟩) 4 (tailOf s)) ∧ Below w.heap.size w w' := by
  have hmk : ∀ w : World, (Instr.makeSlice 71 (.int .i64 4) (.int .i64 4)).run Tryz.prog w = .ok (.slice (some ⟨w.heap.size, 0, none⟩) 4 4) (w.alloc (.cells #[.int .u8 0, .int .u8 0, .int .u8 0, .int .u8 0] 5)) := fun w => by
    obtain ⟨i0, hi, hz0, hz1, hz2⟩ := info_parts Tryz.info5
    have h := run_make (P := Tryz.prog) w 71 5 i0 _ Tryz.underlying71 hi hz0 .i64 .i64 4 4 (by omega) (by omega) (by rw [hz2]; decide) (by omega)
    rw [hz1, show madeCells (Value.int IntKind.u8 0).cells (Int.toNat 4 * 1) = #[.int .u8 0, .int .u8 0, .int .u8 0, .int .u8 0] by kernel_rfl] at h
    exact h
  have H0 : Hid (TailSt w.heap.size w.heap.size s 0 w (w.alloc (.cells #[.int .u8 0, .int .u8 0, .int .u8 0, .int .u8 0] 5))) :=
    Lib.hid ⟨World.ownsRow_lit w _ 4 (Nat.le_refl _) (by decide) rfl, (Below.refl _ _).alloc (Nat.le_refl _) _⟩
  have HG := Lib.hid (Nat.le_refl w.heap.size)
  go_enter Tryz.func237, Tryz.ntmps237
  go_wp2_with fail
  clear hmk
  generalize (w.alloc (.cells #[.int .u8 0, .int .u8 0, .int .u8 0, .int .u8 0] 5)) = W at *
  go_loopw [4, 6] (fun _ iv wr => ∃ k : Nat, k ≤ 4 ∧ iv = .int .i64 (k : Int) ∧ TailSt w.heap.size w.heap.size s k w wr) (fun _ i _ => 4 - (RowKit.intOf i).toNat)
  case atStart => exact ⟨0, by omega, by go_num, H0.out⟩
  case round =>
    obtain ⟨k, hk, rfl, hT⟩ := hrel
    by_cases hlt : k < 4
    · rcases (show k = 0 ∨ k = 1 ∨ k = 2 ∨ k = 3 by omega) with rfl | rfl | rfl | rfl
      · have hc := (hT.1.cellAt 0 (by omega)).trans (u8s_get _ 0 (by simp [tailOf]))
        have hf := hT.1.frozenAt 0
        have HT := Lib.hid hT
        clear hT
        go_wp2_with fail
        go_roundw
        case rel => exact ⟨1, by omega, by go_num, tail_put HT.out (Nat.le_refl _) (s % 256) rfl⟩
        case measure => simp [RowKit.intOf]
      · have hc := (hT.1.cellAt 1 (by omega)).trans (u8s_get _ 1 (by simp [tailOf]))
        have hf := hT.1.frozenAt 1
        have HT := Lib.hid hT
        clear hT
        go_wp2_with fail
        go_roundw
        case rel => exact ⟨2, by omega, by go_num, tail_put HT.out (Nat.le_refl _) (s / 256 % 256) rfl⟩
        case measure => simp [RowKit.intOf]
      · have hc := (hT.1.cellAt 2 (by omega)).trans (u8s_get _ 2 (by simp [tailOf]))
        have hf := hT.1.frozenAt 2
        have HT := Lib.hid hT
        clear hT
        go_wp2_with fail
        go_roundw
        case rel => exact ⟨3, by omega, by go_num, tail_put HT.out (Nat.le_refl _) (s / 65536 % 256) rfl⟩
        case measure => simp [RowKit.intOf]
      · have hc := (hT.1.cellAt 3 (by omega)).trans (u8s_get _ 3 (by simp [tailOf]))
        have hf := hT.1.frozenAt 3
        have HT := Lib.hid hT
        clear hT
        go_wp2_with fail
        go_roundw
        case rel => exact ⟨4, by omega, by go_num, tail_put HT.out (Nat.le_refl _) (s / 16777216) (by simp [tailOf]; omega)⟩
        case measure => simp [RowKit.intOf]
    · obtain rfl : k = 4 := by omega
      have hT2 := hT
      clear hT
      have HE : Hid (Bys wr (some ⟨w.heap.size, 0, none⟩) 4 (tailOf s)) := Lib.hid (Bys.of_row hT2.1 (by intro x hx; simp [tailOf] at hx; omega))
      have HB := Lib.hid hT2.2
      clear hT2
      go_wp2_with fail
      go_ret
      exact ⟨⟨_, rfl, HE.out⟩, HB.out⟩
end Go.Proofs.YtmbecjlioogbhaaGreatDoor
end
section
/-! What sealed bytes are, in memory of the call's own. -/
set_option maxRecDepth 20000
namespace Go.Proofs.YtmbecjlioogbhaaGreatDoor
open Go.RowKit

set_option maxHeartbeats 400000 in
theorem seal_any (p : Option Addr) (n c : Nat) (bs : List Nat) (w : World) (hm : n ≤ 140737488351232) (hB : Bys w p n bs) :
    Calls Tryz.prog 211 #[.slice p n c] w fun e w' => e = .returned (.slice (some ⟨w.heap.size, 0, none⟩) (n + 4) (n + 4)) ∧ w'.ownsRow w.heap.size 5 1 (.slice (some ⟨w.heap.size, 0, none⟩) (n + 4) (n + 4)) (n + 4) (u8s (bs ++ tailOf (more 0 bs))) ∧ Below w.heap.size w w' := by
  obtain ⟨i0, hi, hz0, hz1, hz2⟩ := info_parts Tryz.info5
  obtain ⟨C0, HC⟩ : ∃ C0, Hid (madeCells (Value.int IntKind.u8 0).cells (n + 4) = C0) := ⟨_, rfl⟩
  have HCs : Hid (C0.size = n + 4) := by rw [← HC.out]; exact Lib.hid (size_madeCells _ _)
  have hmk : ∀ w : World, (Instr.makeSlice 71 (.int .i64 (n : Int)) (.int .i64 ((n : Int) + 4))).run Tryz.prog w = .ok (.slice (some ⟨w.heap.size, 0, none⟩) n (n + 4)) (w.alloc (.cells C0 5)) := fun w => by
    have h := run_make (P := Tryz.prog) w 71 5 i0 _ Tryz.underlying71 hi hz0 .i64 .i64 n (n + 4) (by omega) (by omega) (by rw [hz2]; omega) (by omega)
    rw [hz1, show ((n : Int) + 4).toNat = n + 4 by omega, Int.toNat_natCast, Nat.mul_one, HC.out] at h
    exact h
  have HB := Lib.hid hB
  have HI := Lib.hid hi
  have HZ := Lib.hid hz1
  clear hB hi hz0 hz1 hz2
  have HL : Hid ((u8s bs).length = n) := by rw [u8s_len]; exact Lib.hid HB.out.len
  have hl0 : (Tryz.prog.info? 5).map (·.size) = some 1 := by kernel_rfl
  have HP := Lib.hid hl0
  clear hl0
  have K1 : Hid ((w.alloc (.cells C0 5)).heap[w.heap.size]? = some (.cells C0.toList.toArray 5 (0, 0))) := Lib.hid (by show (w.heap.push _)[w.heap.size]? = _; simp)
  have K2 : Hid ((u8s bs).length = n.min n) := Lib.hid (by rw [HL.out]; exact (Nat.min_self n).symm)
  have K5 : Hid (Below w.heap.size w (w.alloc (.cells C0 5))) := Lib.hid ((Below.refl _ _).alloc (Nat.le_refl _) _)
  have K3 : Hid (0 < (u8s bs).length → some (⟨w.heap.size, 0, none⟩ : Addr) = some ⟨w.heap.size, 0, none⟩ ∧ ∃ ad, p = some ad ∧ ∀ j v, (u8s bs)[j]? = some v → (w.alloc (.cells C0 5)).cell? (ad.add j) = some v) :=
    Lib.hid fun h => ⟨rfl, (HB.out.below K5.out).cells (by rw [HL.out] at h; exact h)⟩
  have K4 : Hid (0 + (u8s bs).length ≤ C0.toList.length) := Lib.hid (by rw [HL.out, Array.length_toList, HCs.out]; omega)
  go_enter Tryz.func211, Tryz.ntmps211
  go_wp2_with (with_reducible refine wpList_copy_splice (w := w.alloc (.cells C0 5)) rfl (.tmp 10) (.tmp 11) 71 71 rfl 5 Tryz.underlying71 HP.out (some ⟨w.heap.size, 0, none⟩) p n (n + 4) n c rfl rfl w.heap.size 0 C0.toList 5 K1.out (u8s bs) K2.out K3.out K4.out (u8s_one bs) w.heap.size w K5.out (Nat.le_refl _) ?_)
  clear hmk
  intro w2 hheap hb2
  have HB2 := Lib.hid hb2
  have HO : Hid (w2.ownsRow w.heap.size 5 1 (.slice (some ⟨w.heap.size, 0, none⟩) n (n + 4)) n (u8s bs)) := Lib.hid ⟨by rw [HL.out, Nat.mul_one], .inr ⟨w.heap.size, n + 4, _, rfl, Nat.le_refl _, hheap.out, by omega, by unfold maxLen; omega, by
      rw [List.size_toArray, length_splice _ _ _ K4.out, Array.length_toList, HCs.out, Nat.mul_one], by
      show List.take (n * 1) (splice C0.toList 0 (u8s bs)) = u8s bs
      rw [Nat.mul_one]
      unfold splice
      rw [List.take_zero, List.nil_append, List.take_append_of_le_length (by rw [HL.out]; exact Nat.le_refl _), List.take_of_length_le (by rw [HL.out]; exact Nat.le_refl _)]⟩⟩
  clear hheap hb2 K1 K2 K3 K4 K5
  go_wp2_with fail
  refine (sum_any p n c bs _ (by omega) (HB.out.below HB2.out)).mono ?_
  rintro e w3 ⟨rfl, rfl⟩
  have hs := more_lt (s := 0) (by decide) HB.out.dig
  generalize hS : more 0 bs = S at *
  have HS := Lib.hid hS
  clear hS
  go_wp2_with fail
  refine (tail_any S _ hs).mono ?_
  rintro e w3 ⟨⟨g, rfl, hT⟩, hb3⟩
  have HO3 := Lib.hid (own_below HO.out hb3)
  have HB3 := Lib.hid (HB2.out.trans (hb3.mono HB2.out.size))
  have K7 : Hid (∀ j u, (u8s (tailOf S))[j]? = some u → w3.cell? ((⟨g, 0, none⟩ : Addr).add j) = some u) := Lib.hid (by
    obtain ⟨ad, e, h⟩ := hT.cells (by omega)
    cases e
    exact h)
  have KL : Hid ((u8s (tailOf S)).length = 4 * 1) := Lib.hid (by rw [u8s_len]; rfl)
  clear hT hb3
  go_wp2_with (with_reducible refine wpList_append_fits w3 rfl (.tmp 13) (.tmp 16) 71 rfl w.heap.size 5 i0 1 Tryz.underlying71 HI.out HZ.out w.heap.size n (n + 4) (u8s bs) rfl HO3.out ⟨g, 0, none⟩ 4 4 (u8s (tailOf S)) rfl KL.out K7.out (u8s_one _) (Nat.le_refl _) ?_)
  intro w4 hown hgrow
  have HO4 := Lib.hid hown
  have HB4 := Lib.hid (HB3.out.grown hgrow HB3.out.size (fun k e => by cases e; exact Nat.le_refl _))
  clear hown hgrow
  go_wp2_with fail
  go_ret
  exact ⟨rfl, by rw [u8s_append, HS.out]; exact HO4.out, HB4.out⟩
end Go.Proofs.YtmbecjlioogbhaaGreatDoor
end
section
/-! A call that changes one block alone. -/
namespace Go.Proofs.YtmbecjlioogbhaaGreatDoor
open Go.RowKit

theorem RtAt.only {w w' : World} {b t g : Nat} {r : Rt} (h : RtAt w b t r) (ho : Only g w w') (hg : b ≠ g) : RtAt w' b t r := (ho.block b h.lt hg).trans h
end Go.Proofs.YtmbecjlioogbhaaGreatDoor
end
section
/-! A number that is laid into bytes. -/
set_option maxRecDepth 20000
namespace Go.Proofs.YtmbecjlioogbhaaGreatDoor
open Go.RowKit

def putN (us : List Nat) (o k n : Nat) : Nat → List Nat
  | 0 => us
  | j + 1 => (putN us o k n j).set (o + (k - 1 - j)) (n / 256 ^ j % 256)
theorem putN_len (us : List Nat) (o k n j : Nat) : (putN us o k n j).length = us.length := by
  induction j with
  | zero => rfl
  | succ j ih => show ((putN us o k n j).set _ _).length = _; rw [List.length_set, ih]
theorem getD_set (l : List Nat) (i v j : Nat) (h : i < l.length) : (l.set i v).getD j 0 = if i = j then v else l.getD j 0 := by
  rw [List.getD_eq_getElem?_getD, List.getD_eq_getElem?_getD, List.getElem?_set]
  split
  · rename_i e
    subst e
    rfl
  · rfl
theorem putN_get (us : List Nat) (o k n j i : Nat) (h : o + k ≤ us.length) (hj : j ≤ k) :
    (putN us o k n j).getD i 0 = if o + k - j ≤ i ∧ i < o + k then n / 256 ^ (o + k - 1 - i) % 256 else us.getD i 0 := by
  induction j with
  | zero => rw [if_neg (by omega)]; rfl
  | succ j ih =>
    show ((putN us o k n j).set (o + (k - 1 - j)) (n / 256 ^ j % 256)).getD i 0 = _
    rw [getD_set _ _ _ _ (by rw [putN_len]; omega), ih (by omega)]
    by_cases h1 : o + (k - 1 - j) = i
    · rw [if_pos h1, if_pos (by omega), show o + k - 1 - i = j by omega]
    · rw [if_neg h1]
      by_cases h2 : o + k - j ≤ i ∧ i < o + k
      · rw [if_pos h2, if_pos (by omega)]
      · rw [if_neg h2, if_neg (by omega)]
theorem list_ext_getD {a b : List Nat} (hl : a.length = b.length) (h : ∀ i, i < a.length → a.getD i 0 = b.getD i 0) : a = b := by
  apply List.ext_getElem hl
  intro i h1 h2
  have := h i h1
  rw [List.getD_eq_getElem?_getD, List.getD_eq_getElem?_getD, List.getElem?_eq_getElem h1, List.getElem?_eq_getElem h2] at this
  exact this
/-- Bytes laid over others. -/
def lay (us : List Nat) (o : Nat) (bs : List Nat) : List Nat := us.take o ++ (bs ++ us.drop (o + bs.length))
theorem lay_len (us : List Nat) (o : Nat) (bs : List Nat) (h : o + bs.length ≤ us.length) : (lay us o bs).length = us.length := by
  unfold lay; rw [List.length_append, List.length_append, List.length_take, List.length_drop]; omega
theorem getD_app (a b : List Nat) (i : Nat) : (a ++ b).getD i 0 = if i < a.length then a.getD i 0 else b.getD (i - a.length) 0 := by
  rw [List.getD_eq_getElem?_getD, List.getD_eq_getElem?_getD, List.getD_eq_getElem?_getD]
  split
  · rename_i h; rw [List.getElem?_append_left h]
  · rename_i h; rw [List.getElem?_append_right (by omega)]
theorem lay_get (us : List Nat) (o : Nat) (bs : List Nat) (h : o + bs.length ≤ us.length) (i : Nat) :
    (lay us o bs).getD i 0 = if o ≤ i ∧ i < o + bs.length then bs.getD (i - o) 0 else us.getD i 0 := by
  unfold lay
  have hl : (us.take o).length = o := by rw [List.length_take]; omega
  rw [getD_app, hl]
  by_cases h1 : i < o
  · rw [if_pos h1, if_neg (by omega), getD_take _ _ _ h1]
  · rw [if_neg h1, getD_app]
    by_cases h2 : i - o < bs.length
    · rw [if_pos h2, if_pos (by omega)]
    · rw [if_neg h2, if_neg (by omega), getD_drop]
      congr 1; omega
theorem putN_all (us : List Nat) (o k n : Nat) (h : o + k ≤ us.length) : putN us o k n k = lay us o (be k n) := by
  have hl : o + (be k n).length ≤ us.length := by rw [be_len]; exact h
  refine list_ext_getD (by rw [putN_len, lay_len _ _ _ hl]) fun i _ => ?_
  rw [putN_get _ _ _ _ _ _ h (Nat.le_refl _), lay_get _ _ _ hl, be_len]
  by_cases h1 : o ≤ i ∧ i < o + k
  · rw [if_pos (by omega), if_pos h1, be_get _ _ _ (by omega)]
    congr 3; omega
  · rw [if_neg (by omega), if_neg h1]
structure PutRel (w wr : World) (g N : Nat) (us : List Nat) (o k n j : Nat) : Prop where
  row : Row5 wr g N (putN us o k n j)
  only : Only g w wr
theorem PutRel.next {w wr : World} {g N : Nat} {us : List Nat} {o k n j : Nat} (h : PutRel w wr g N us o k n j) :
    PutRel w (wr.setCell ⟨g, o + (k - 1 - j), none⟩ (.int .u8 ((n / 256 ^ j % 256 : Nat) : Int))) g N us o k n (j + 1) :=
  ⟨h.row.put _ _, h.only.trans (Only.setCell _ _ _ _)⟩
set_option maxHeartbeats 1600000 in
theorem put_4 (g N o c n : Nat) (us : List Nat) (w : World) (hR : Row5 w g N us) (hk : o + 4 ≤ N) (_hn : n ≤ 4611686018427387904) :
    Calls Tryz.prog 209 #[.slice (some ⟨g, o, none⟩) 4 c, .int .i64 (n : Int)] w fun e w' => e = .returned (.tuple #[]) ∧ Row5 w' g N (lay us o (be 4 n)) ∧ Only g w w' := by
  have HP := Lib.hid (putN_all us o 4 n (by rw [hR.len]; exact hk))
  have H0 : Hid (PutRel w w g N us o 4 n 0) := Lib.hid ⟨hR, Only.refl _ _⟩
  clear hR
  go_enter Tryz.func209, Tryz.ntmps209
  go_wp2_with fail
  go_loopw [7] (fun iv wr => ∃ j : Nat, j ≤ 4 ∧ iv = .int .i64 (j : Int) ∧ Hid (PutRel w wr g N us o 4 n j)) (fun iv _ => 4 - (RowKit.intOf iv).toNat)
  case atStart => exact ⟨0, by omega, by go_num, H0⟩
  case round =>
    obtain ⟨j, hj, rfl, HR⟩ := hrel
    by_cases hlt : j < 4
    · have hf := HR.out.row.fz (o + (4 - 1 - j))
      have hc := HR.out.row.cell (o + (4 - 1 - j)) (by omega)
      have HN := Lib.hid HR.out.next
      clear HR H0
      generalize (putN us o 4 n j).getD (o + (4 - 1 - j)) 0 = old at *
      rcases (show j = 0 ∨ j = 1 ∨ j = 2 ∨ j = 3 by omega) with rfl | rfl | rfl | rfl
      all_goals
        simp only [Nat.reduceSub, Nat.add_zero] at hc hf
        go_wp2_with fail
        go_roundw
        case rel =>
          refine ⟨_, hlt, by go_num, ?_⟩
          first
            | exact HN
            | (rw [Nat.pow_zero, Nat.div_one] at HN; exact HN)
            | (rw [Nat.mod_eq_of_lt (show n / 256 ^ 7 < 256 by omega)] at HN; exact HN)
        case measure => simp [RowKit.intOf]
    · obtain rfl : j = 4 := by omega
      have HE := Lib.hid HR.out.row
      rw [HP.out] at HE
      have HO := Lib.hid HR.out.only
      clear HR H0 HP
      go_wp2_with fail
      go_end0
      exact ⟨rfl, HE.out, HO.out⟩
set_option maxHeartbeats 1600000 in
theorem put_8 (g N o c n : Nat) (us : List Nat) (w : World) (hR : Row5 w g N us) (hk : o + 8 ≤ N) (hn : n ≤ 4611686018427387904) :
    Calls Tryz.prog 209 #[.slice (some ⟨g, o, none⟩) 8 c, .int .i64 (n : Int)] w fun e w' => e = .returned (.tuple #[]) ∧ Row5 w' g N (lay us o (be 8 n)) ∧ Only g w w' := by
  have HP := Lib.hid (putN_all us o 8 n (by rw [hR.len]; exact hk))
  have H0 : Hid (PutRel w w g N us o 8 n 0) := Lib.hid ⟨hR, Only.refl _ _⟩
  clear hR
  go_enter Tryz.func209, Tryz.ntmps209
  go_wp2_with fail
  go_loopw [7] (fun iv wr => ∃ j : Nat, j ≤ 8 ∧ iv = .int .i64 (j : Int) ∧ Hid (PutRel w wr g N us o 8 n j)) (fun iv _ => 8 - (RowKit.intOf iv).toNat)
  case atStart => exact ⟨0, by omega, by go_num, H0⟩
  case round =>
    obtain ⟨j, hj, rfl, HR⟩ := hrel
    by_cases hlt : j < 8
    · have hf := HR.out.row.fz (o + (8 - 1 - j))
      have hc := HR.out.row.cell (o + (8 - 1 - j)) (by omega)
      have HN := Lib.hid HR.out.next
      clear HR H0
      generalize (putN us o 8 n j).getD (o + (8 - 1 - j)) 0 = old at *
      rcases (show j = 0 ∨ j = 1 ∨ j = 2 ∨ j = 3 ∨ j = 4 ∨ j = 5 ∨ j = 6 ∨ j = 7 by omega) with rfl | rfl | rfl | rfl | rfl | rfl | rfl | rfl
      all_goals
        simp only [Nat.reduceSub, Nat.add_zero] at hc hf
        go_wp2_with fail
        go_roundw
        case rel =>
          refine ⟨_, hlt, by go_num, ?_⟩
          first
            | exact HN
            | (rw [Nat.pow_zero, Nat.div_one] at HN; exact HN)
            | (rw [Nat.mod_eq_of_lt (show n / 256 ^ 7 < 256 by omega)] at HN; exact HN)
        case measure => simp [RowKit.intOf]
    · obtain rfl : j = 8 := by omega
      have HE := Lib.hid HR.out.row
      rw [HP.out] at HE
      have HO := Lib.hid HR.out.only
      clear HR H0 HP
      go_wp2_with fail
      go_end0
      exact ⟨rfl, HE.out, HO.out⟩
end Go.Proofs.YtmbecjlioogbhaaGreatDoor
end
section
/-! What Encode's steps lay into memory. -/
set_option maxRecDepth 20000
namespace Go.Proofs.YtmbecjlioogbhaaGreatDoor
open Go.RowKit

theorem lt_of_block {w : World} {b : Nat} {o : Obj} (h : w.heap[b]? = some o) : b < w.heap.size := by
  rcases Nat.lt_or_ge b w.heap.size with h1 | h1
  · exact h1
  · rw [Array.getElem?_eq_none h1] at h; cases h
theorem Row5.cur {w : World} {g N : Nat} {us : List Nat} (h : Row5 w g N us) : w.heap[g]? = some (.cells (u8s us).toArray 5 (0, 0)) ∧ N ≤ maxLen := by
  have hl := h.len
  rcases h.2 with ⟨h0, _⟩ | ⟨g', cap, cur, h0, _, hh, h1, h2, h3, h4⟩
  · cases h0
  · cases h0
    rw [Nat.mul_one] at h3 h4
    refine ⟨?_, h2⟩
    rw [hh, ← h4, List.take_of_length_le (by rw [Array.length_toList]; omega), Array.toArray_toList]
theorem Row5.of_cur {w : World} {g N : Nat} {us : List Nat} (h : w.heap[g]? = some (.cells (u8s us).toArray 5 (0, 0))) (hl : us.length = N) (hN : N ≤ maxLen) : Row5 w g N us :=
  ⟨by rw [u8s_len]; omega, .inr ⟨g, N, _, rfl, Nat.zero_le _, h, Nat.le_refl _, hN, by rw [List.size_toArray, u8s_len]; omega, by
    show List.take (N * 1) (u8s us) = u8s us
    rw [List.take_of_length_le (by rw [u8s_len]; omega)]⟩⟩
theorem Only.setRow {w : World} (g : Nat) (cs : Array Value) : Only g w (w.setRow g cs) :=
  ⟨rfl, rfl, rfl, by simp, fun k _ hk => setRow_other w g k cs hk⟩
/-- The name is copied over a row's bytes. -/
theorem copy_name {w : World} {g o l c N : Nat} {us : List Nat} (h : Row5 w g N us) (hk : o + 4 ≤ N) (hl : 4 ≤ l) (ty : TypeId) :
    ∃ w', (Builtin.copy_ #[71, 9] ty #[.slice (some ⟨g, o, none⟩) l c, .string ⟨#[72, 73, 66, 82]⟩]).run Tryz.prog w = .ok (.int .i64 4) w' ∧ Row5 w' g N (lay us o nameB) ∧ Only g w w' := by
  obtain ⟨hc, hN⟩ := h.cur
  have hle := h.len
  have hst := run_storeCells_at Tryz.prog g o 5 (u8s nameB) 0 _ w hc (by rw [List.size_toArray, u8s_len, u8s_len]; show o + 0 + 4 ≤ _; omega) (u8s_one _)
  obtain ⟨i0, hi, hz0, hz1, hz2⟩ := info_parts Tryz.info5
  refine ⟨_, ?_, ?_, Only.setRow g ((u8s (lay us o nameB)).toArray)⟩
  · have hmin : Nat.min 4 l = 4 := Nat.min_eq_left hl
    have e : ((List.take (o + 0) (u8s us).toArray.toList ++ u8s nameB ++ List.drop (o + 0 + (u8s nameB).length) (u8s us).toArray.toList).toArray) = (u8s (lay us o nameB)).toArray := by
      unfold lay
      rw [u8s_append, u8s_append, u8s_len, Nat.add_zero]
      unfold u8s
      simp [List.map_take, List.map_drop]
    rw [e] at hst
    have hsz : (⟨#[72, 73, 66, 82]⟩ : ByteArray).size = 4 := rfl
    have hrun : ((Builtin.copy_ #[71, 9] ty #[.slice (some ⟨g, o, none⟩) l c, .string ⟨#[72, 73, 66, 82]⟩]).run Tryz.prog w) = .ok (goInt (⟨#[72, 73, 66, 82]⟩ : ByteArray).size) (w.setRow g (u8s (lay us o nameB)).toArray) := by
      simp [Builtin.copy_, run_underlying Tryz.underlying71, Builtin.lenOf, Builtin.firstCells, sizeOf, typeInfo, hi, hsz, hmin]
      rw [show [Value.int IntKind.u8 72, Value.int IntKind.u8 73, Value.int IntKind.u8 66, Value.int IntKind.u8 82] = u8s nameB from rfl, hst]
      simp [Result.andThen]
    exact hrun
  · exact Row5.of_cur (setRow_heap w g _ _ _ _ hc) (by rw [lay_len _ _ _ (by show o + 4 ≤ _; omega)]; exact hle) hN
theorem lay_next (A bs : List Nat) (m o : Nat) (hA : A.length = o) (_hb : bs.length ≤ m) : lay (A ++ List.replicate m 0) o bs = (A ++ bs) ++ List.replicate (m - bs.length) 0 := by
  unfold lay
  rw [take_app A _ hA, drop_app A _ hA, List.drop_replicate, List.append_assoc]
def rows0 (en : Nat) : List Nat := lay (lay (List.replicate 116 0) 0 (be 8 en)) 8 nameB
def rows (en pn dn wn : Nat) : Nat → List Nat
  | 0 => rows0 en
  | 1 => lay (rows0 en) 12 (be 4 pn)
  | 2 => lay (lay (rows0 en) 12 (be 4 pn)) 16 (be 4 dn)
  | _ => lay (lay (lay (rows0 en) 12 (be 4 pn)) 16 (be 4 dn)) 20 (be 4 wn)
theorem rows_all (en pn dn wn : Nat) : rows en pn dn wn 3 = body ⟨(en : Int), (pn : Int), (dn : Int), (wn : Int)⟩ := by
  show lay (lay (lay (lay (lay (List.replicate 116 0) 0 (be 8 en)) 8 nameB) 12 (be 4 pn)) 16 (be 4 dn)) 20 (be 4 wn) = _
  have h0 := lay_next [] (be 8 en) 116 0 rfl (by rw [be_len]; omega)
  rw [List.nil_append, List.nil_append, be_len] at h0
  rw [h0, lay_next _ nameB _ 8 (by rw [be_len]) (by show 4 ≤ _; omega), lay_next _ (be 4 pn) _ 12 (by rw [List.length_append, be_len]; rfl) (by rw [be_len]; show 4 ≤ 116 - 8 - 4; omega),
    lay_next _ (be 4 dn) _ 16 (by rw [List.length_append, List.length_append, be_len, be_len]; rfl) (by rw [be_len, be_len]; show 4 ≤ 116 - 8 - 4 - 4; omega),
    lay_next _ (be 4 wn) _ 20 (by rw [List.length_append, List.length_append, List.length_append, be_len, be_len, be_len]; rfl) (by rw [be_len, be_len, be_len]; show 4 ≤ 116 - 8 - 4 - 4 - 4; omega)]
  unfold body
  rw [be_len, be_len, be_len]
  show _ ++ List.replicate (116 - 8 - 4 - 4 - 4 - 4) 0 = _
  simp only [List.append_assoc, Int.toNat_natCast]
structure EncRel (w wr : World) (g a b : Nat) (R : Rt) (V : Array Value) (us : List Nat) : Prop where
  row : Row5 wr g 116 us
  rt : RtAt wr b 93 R
  arr : wr.heap[a]? = some (.cells V 262 (0, 0))
  below : Below w.heap.size w wr
theorem EncRel.only {w wr w' : World} {g a b : Nat} {R : Rt} {V : Array Value} {us us2 : List Nat} (h : EncRel w wr g a b R V us) (hr : Row5 w' g 116 us2) (ho : Only g wr w') (hb : b ≠ g) (ha : a ≠ g) (hg : w.heap.size ≤ g) : EncRel w w' g a b R V us2 :=
  ⟨hr, h.rt.only ho hb, (ho.block a (lt_of_block h.arr) ha).trans h.arr, ho.below h.below h.below.size hg⟩
theorem EncRel.drew {w wr : World} {g a b : Nat} {R : Rt} {V : Array Value} {us : List Nat} (h : EncRel w wr g a b R V us) : EncRel w wr.drew g a b R V us := ⟨h.row.below (Below.refl _ _).drew, h.rt.below (Below.refl _ _).drew, h.arr, h.below.drew⟩
set_option maxHeartbeats 400000 in
theorem fieldPlace_any (i : Nat) (w : World) (hi : i < 3) : Calls Tryz.prog 210 #[.int .i64 (i : Int)] w fun e w' => e = .returned (.int .i64 ((12 + 4 * i : Nat) : Int)) ∧ w = w' := by
  have HE : Hid (((12 + 4 * i : Nat) : Int) = 12 + (i : Int) * 4) := Lib.hid (by omega)
  rw [HE.out]
  go_enter Tryz.func210, Tryz.ntmps210
  go_wp2_with fail
  go_ret
  exact ⟨rfl, rfl⟩
end Go.Proofs.YtmbecjlioogbhaaGreatDoor
end
section
/-! What the fields of a sector tell: the code's told. -/
set_option maxRecDepth 20000
namespace Go.Proofs.YtmbecjlioogbhaaGreatDoor
open Go.RowKit

/-- What the code's told tells. -/
def toldI (s : List Nat) : Rt := ⟨toI (val (s.take 8)), (val ((s.drop 12).take 4) : Int), (val ((s.drop 16).take 4) : Int), (val ((s.drop 20).take 4) : Int)⟩
def fld (s : List Nat) (o : Nat) : Nat := val ((s.drop o).take 4)
theorem fld_lt (s : List Nat) (o : Nat) (h : ∀ x ∈ s, x < 256) : fld s o < 4294967296 :=
  Nat.lt_of_lt_of_le (val_lt _ (fun x hx => h x (List.mem_of_mem_drop (List.mem_of_mem_take hx)))) (by
    have : ((s.drop o).take 4).length ≤ 4 := by rw [List.length_take]; omega
    exact Nat.le_trans (Nat.pow_le_pow_right (by omega) this) (by decide))
theorem IsS.sub {S : ByteArray} {s : List Nat} (h : IsS S s) (o k : Nat) (hl : s.length = 128) (hk : o + k ≤ 128) : IsS ((S.extract o 128).extract 0 k) ((s.drop o).take k) ∧ ((s.drop o).take k).length = k := by
  have h1 := (h.ext o 128).ext 0 k
  rw [List.drop_zero, Nat.sub_zero, List.take_take, Nat.min_eq_left (by omega)] at h1
  exact ⟨h1, by rw [List.length_take, List.length_drop]; omega⟩
def arr3 (v1 v2 v3 : Nat) : Nat → Array Value
  | 0 => #[.int .i64 0, .int .i64 0, .int .i64 0]
  | 1 => #[.int .i64 (v1 : Int), .int .i64 0, .int .i64 0]
  | 2 => #[.int .i64 (v1 : Int), .int .i64 (v2 : Int), .int .i64 0]
  | _ => #[.int .i64 (v1 : Int), .int .i64 (v2 : Int), .int .i64 (v3 : Int)]
structure TRel (w wr : World) (V : Array Value) : Prop where
  box : RtAt wr w.heap.size 93 Rt.none_
  arr : wr.heap[w.heap.size + 1]? = some (.cells V 262 (0, 0))
  below : Below w.heap.size w wr
theorem TRel.put {w wr : World} {V : Array Value} (h : TRel w wr V) (i : Nat) (v : Value) : TRel w (wr.setCell ⟨w.heap.size + 1, i, none⟩ v) (V.set! i v) :=
  ⟨(heap_setCell_other wr ⟨w.heap.size + 1, i, none⟩ w.heap.size v (by simp)).trans h.box, heap_setCell_same wr (w.heap.size + 1) i _ _ _ h.arr, h.below.setCell (Nat.le_succ _) _⟩
set_option maxHeartbeats 1600000 in
theorem told_any (S : ByteArray) (s : List Nat) (w : World) (hS : IsS S s) (hl : s.length = 128) :
    Calls Tryz.prog 234 #[.string S] w fun e w' => e = .returned (toldI s).val ∧ Below w.heap.size w w' := by
  have hsz : S.size = 128 := by rw [hS.size, hl]
  have h12 := hS.sub 12 4 hl (by omega)
  have h16 := hS.sub 16 4 hl (by omega)
  have h20 := hS.sub 20 4 hl (by omega)
  have h8 := hS.ext 0 8
  rw [List.drop_zero, Nat.sub_zero] at h8
  have z12 := h12.1.size
  have z16 := h16.1.size
  have z20 := h20.1.size
  have T12 := Lib.hid (fun w => take_any5 _ _ w h12.1 (by rw [h12.2]; omega))
  have T16 := Lib.hid (fun w => take_any5 _ _ w h16.1 (by rw [h16.2]; omega))
  have T20 := Lib.hid (fun w => take_any5 _ _ w h20.1 (by rw [h20.2]; omega))
  have T8 := Lib.hid (fun w => take_any5 _ _ w h8 (by rw [List.length_take]; omega))
  have f12 := fld_lt s 12 hS.dig
  have f16 := fld_lt s 16 hS.dig
  have f20 := fld_lt s 20 hS.dig
  rw [toI_small (show val ((s.drop 12).take 4) < 9223372036854775808 from Nat.lt_trans f12 (by decide))] at T12
  rw [toI_small (show val ((s.drop 16).take 4) < 9223372036854775808 from Nat.lt_trans f16 (by decide))] at T16
  rw [toI_small (show val ((s.drop 20).take 4) < 9223372036854775808 from Nat.lt_trans f20 (by decide))] at T20
  unfold Rt.val toldI
  simp only
  clear hS h12 h16 h20 h8 z12 z16 z20 f12 f16 f20
  generalize val ((s.drop 12).take 4) = v1 at *
  generalize val ((s.drop 16).take 4) = v2 at *
  generalize val ((s.drop 20).take 4) = v3 at *
  generalize toI (val (s.take 8)) = v0 at *
  have e12 : (S.extract 12 128).size = 116 := by rw [ByteArray.size_extract]; omega
  have e16 : (S.extract 16 128).size = 112 := by rw [ByteArray.size_extract]; omega
  have e20 : (S.extract 20 128).size = 108 := by rw [ByteArray.size_extract]; omega
  go_enter Tryz.func234, Tryz.ntmps234
  go_wp2_with fail
  have H0 : Hid (TRel w ((w.alloc (.cells #[.int .i64 0, .int .i64 0, .int .i64 0, .int .i64 0] 93)).alloc (.cells #[.int .i64 0, .int .i64 0, .int .i64 0] 262)) (arr3 v1 v2 v3 0)) :=
    Lib.hid ⟨heap_alloc2_old w _ _, heap_alloc2_new w _ _, ((Below.refl _ _).alloc (Nat.le_refl _) _).alloc (by simp) _⟩
  generalize ((w.alloc (.cells #[.int .i64 0, .int .i64 0, .int .i64 0, .int .i64 0] 93)).alloc (.cells #[.int .i64 0, .int .i64 0, .int .i64 0] 262)) = w2 at *
  go_loopw [5] (fun iv wr => ∃ j : Nat, j ≤ 3 ∧ iv = .int .i64 (j : Int) ∧ Hid (TRel w wr (arr3 v1 v2 v3 j))) (fun iv _ => 3 - (RowKit.intOf iv).toNat)
  case atStart => exact ⟨0, by omega, by go_num, H0⟩
  case round =>
    obtain ⟨j, hj, rfl, HR⟩ := hrel
    clear H0
    by_cases hlt : j < 3
    · rcases (show j = 0 ∨ j = 1 ∨ j = 2 by omega) with rfl | rfl | rfl
      · have k0 : wr.cell? ⟨w.heap.size + 1, 0, none⟩ = some (.int .i64 0) := by rw [cell_of_row wr (w.heap.size + 1) 0 _ _ _ HR.out.arr]; rfl
        have kf := frozen_of_row wr (w.heap.size + 1) 0 _ _ HR.out.arr
        have HN : Hid (TRel w (wr.setCell ⟨w.heap.size + 1, 0, none⟩ (.int .i64 (v1 : Int))) (arr3 v1 v2 v3 1)) := Lib.hid (HR.out.put 0 _)
        clear HR
        go_wp2_with (first
          | (go_at_call 210; refine (fieldPlace_any 0 _ (by omega)).mono ?_; rintro e w7 ⟨rfl, rfl⟩)
          | (go_at_call 252; refine (T12.out _).mono ?_; rintro e w7 ⟨rfl, rfl⟩))
        go_roundw
        case rel => exact ⟨1, by omega, by go_num, HN⟩
        case measure => simp [RowKit.intOf]
      · have k0 : wr.cell? ⟨w.heap.size + 1, 1, none⟩ = some (.int .i64 0) := by rw [cell_of_row wr (w.heap.size + 1) 1 _ _ _ HR.out.arr]; rfl
        have kf := frozen_of_row wr (w.heap.size + 1) 1 _ _ HR.out.arr
        have HN : Hid (TRel w (wr.setCell ⟨w.heap.size + 1, 1, none⟩ (.int .i64 (v2 : Int))) (arr3 v1 v2 v3 2)) := Lib.hid (HR.out.put 1 _)
        clear HR
        go_wp2_with (first
          | (go_at_call 210; refine (fieldPlace_any 1 _ (by omega)).mono ?_; rintro e w7 ⟨rfl, rfl⟩)
          | (go_at_call 252; refine (T16.out _).mono ?_; rintro e w7 ⟨rfl, rfl⟩))
        go_roundw
        case rel => exact ⟨2, by omega, by go_num, HN⟩
        case measure => simp [RowKit.intOf]
      · have k0 : wr.cell? ⟨w.heap.size + 1, 2, none⟩ = some (.int .i64 0) := by rw [cell_of_row wr (w.heap.size + 1) 2 _ _ _ HR.out.arr]; rfl
        have kf := frozen_of_row wr (w.heap.size + 1) 2 _ _ HR.out.arr
        have HN : Hid (TRel w (wr.setCell ⟨w.heap.size + 1, 2, none⟩ (.int .i64 (v3 : Int))) (arr3 v1 v2 v3 3)) := Lib.hid (HR.out.put 2 _)
        clear HR
        go_wp2_with (first
          | (go_at_call 210; refine (fieldPlace_any 2 _ (by omega)).mono ?_; rintro e w7 ⟨rfl, rfl⟩)
          | (go_at_call 252; refine (T20.out _).mono ?_; rintro e w7 ⟨rfl, rfl⟩))
        go_roundw
        case rel => exact ⟨3, by omega, by go_num, HN⟩
        case measure => simp [RowKit.intOf]
    · obtain rfl : j = 3 := by omega
      have k0 : wr.cell? ⟨w.heap.size + 1, 0, none⟩ = some (.int .i64 (v1 : Int)) := by rw [cell_of_row wr (w.heap.size + 1) 0 _ _ _ HR.out.arr]; rfl
      have k1 : wr.cell? ⟨w.heap.size + 1, 1, none⟩ = some (.int .i64 (v2 : Int)) := by rw [cell_of_row wr (w.heap.size + 1) 1 _ _ _ HR.out.arr]; rfl
      have k2 : wr.cell? ⟨w.heap.size + 1, 2, none⟩ = some (.int .i64 (v3 : Int)) := by rw [cell_of_row wr (w.heap.size + 1) 2 _ _ _ HR.out.arr]; rfl
      have b0 := HR.out.box.c0
      have b1 := HR.out.box.c1
      have b2 := HR.out.box.c2
      have b3 := HR.out.box.c3
      have bf := HR.out.box.fz
      go_wp2_with fail
      go_region_held3 (fun w' => w'.cell? ⟨w.heap.size + 1, 0, none⟩ = some (.int .i64 (v1 : Int)) ∧ w'.cell? ⟨w.heap.size + 1, 1, none⟩ = some (.int .i64 (v2 : Int)) ∧ w'.cell? ⟨w.heap.size + 1, 2, none⟩ = some (.int .i64 (v3 : Int)))
        (go_keep) ((go_at_call 252; refine (T8.out _).mono ?_; rintro e w7 ⟨rfl, rfl⟩))
      all_goals
        have HB : Hid (Below w.heap.size w wr) := Lib.hid HR.out.below
        clear HR
        go_wp2_with fail
        exact bodyPost_ret (v := .agg #[.int .i64 v0, .int .i64 (v1 : Int), .int .i64 (v2 : Int), .int .i64 (v3 : Int)]) (by simp [results, Tryz.results234, go_sem, b0, b1, b2, b3]) rfl ⟨rfl, ((((HB.out.setCell (Nat.le_refl _) _).setCell (Nat.le_refl _) _).setCell (Nat.le_refl _) _).setCell (Nat.le_refl _) _).drew⟩
end Go.Proofs.YtmbecjlioogbhaaGreatDoor
end
section
/-! What Encode returns. -/
set_option maxRecDepth 20000
namespace Go.Proofs.YtmbecjlioogbhaaGreatDoor
open Go.RowKit

theorem made_u8s (n : Nat) : (madeCells #[Value.int .u8 0] n).toList = u8s (List.replicate n 0) := by
  rw [toList_madeCells_one]
  unfold u8s
  rw [List.map_replicate]; rfl
set_option maxHeartbeats 400000 in
theorem encode_no (r : Rt) (w : World) (h : may r = false) :
    Calls Tryz.prog 186 #[r.val] w fun e w' => e = .returned (.tuple #[.string ⟨#[]⟩, .int .i64 1]) ∧ Below w.heap.size w w' := by
  have HM := Lib.hid (fun w => may_any r w)
  rw [h] at HM
  clear h
  obtain ⟨ep, pg, dr, wd⟩ := r
  unfold Rt.val at *
  go_enter Tryz.func186, Tryz.ntmps186
  go_wp2_with fail
  refine (HM.out _).mono ?_
  rintro e w1 ⟨rfl, hb⟩
  have HB := Lib.hid ((Below.refl _ _).alloc (Nat.le_refl _) (.cells #[.int .i64 ep, .int .i64 pg, .int .i64 dr, .int .i64 wd] 93) |>.trans (Below.mono hb (by simp)))
  clear hb
  go_wp2_with fail
  go_ret2
  exact ⟨rfl, HB.out⟩

set_option maxHeartbeats 1600000 in
theorem encode_yes (r : Rt) (w : World) (h : Mays r) :
    Calls Tryz.prog 186 #[r.val] w fun e w' => e = .returned (.tuple #[.string (strB (block r)), .int .i64 0]) ∧ Below w.heap.size w w' := by
  have HM := Lib.hid (fun w => may_any r w)
  rw [h.may] at HM
  have HY := Lib.hid h
  have q0 := h.e0
  have q1 := h.e1
  clear h
  obtain ⟨en, hen⟩ := Int.eq_ofNat_of_zero_le (show 0 ≤ r.ep by omega)
  obtain ⟨pn, hpn⟩ := Int.eq_ofNat_of_zero_le (show 0 ≤ r.pg by have := HY.out.p0; omega)
  obtain ⟨dn, hdn⟩ := Int.eq_ofNat_of_zero_le (show 0 ≤ r.dr by have := HY.out.d0; omega)
  obtain ⟨wn, hwn⟩ := Int.eq_ofNat_of_zero_le (show 0 ≤ r.wd by have := HY.out.w0; omega)
  obtain ⟨ep, pg, dr, wd⟩ := r
  simp only at hen hpn hdn hwn q0 q1
  subst hen hpn hdn hwn
  unfold Rt.val at *
  obtain ⟨i0, hi, hz0, hz1, hz2⟩ := info_parts Tryz.info5
  have HI := Lib.hid hi
  have HZ0 := Lib.hid hz0
  have HZ1 := Lib.hid hz1
  have HZ2 := Lib.hid hz2
  clear hi hz0 hz1 hz2
  have HR0 := Lib.hid (RtAt.new w ⟨(en : Int), (pn : Int), (dn : Int), (wn : Int)⟩ 93)
  have HB0 : Hid (Below w.heap.size w (w.alloc (.cells #[.int .i64 (en : Int), .int .i64 (pn : Int), .int .i64 (dn : Int), .int .i64 (wn : Int)] 93))) := Lib.hid ((Below.refl _ _).alloc (Nat.le_refl _) _)
  go_enter Tryz.func186, Tryz.ntmps186
  go_wp2_with fail
  have hsz : w.heap.size + 1 = (w.alloc (.cells #[.int .i64 (en : Int), .int .i64 (pn : Int), .int .i64 (dn : Int), .int .i64 (wn : Int)] 93)).heap.size := by simp
  refine (HM.out _).mono ?_
  rintro e w1 ⟨rfl, hb⟩
  have HR1 := Lib.hid (HR0.out.below hb)
  have HB1 := Lib.hid (HB0.out.trans (Below.mono hb (by simp)))
  have hg : w.heap.size < w1.heap.size := by have := hb.size; simp at this; omega
  clear hb HR0 HB0 hsz HM
  go_wp2_with (refine wpList_make_full _ rfl _ _ 71 rfl 0 5 i0 (.int .u8 0) 1 Tryz.underlying71 HI.out HZ0.out HZ1.out .i64 .i64 116 116 116 rfl rfl rfl rfl (by rw [HZ2.out]; omega) (by unfold maxLen; omega) (Nat.zero_le _) ?_)
  intro w2 hown hgrow
  have HRow : Hid (Row5 w2 w1.heap.size 116 (List.replicate 116 0)) := Lib.hid (by rw [made_u8s] at hown; exact hown)
  have hb2 : Below w1.heap.size w1 w2 := (Below.refl _ _).grown hgrow (Nat.le_refl _) (fun k e => by cases e)
  have HR2 := Lib.hid (HR1.out.below hb2)
  have HB2 := Lib.hid (HB1.out.trans (Below.mono hb2 HB1.out.size))
  clear hown hgrow hb2 HR1 HB1
  generalize w1.heap.size = g at *
  have c0 := HR2.out.c0
  go_wp2_with fail
  go_region_with (go_at_call 209; refine (put_8 g 116 0 116 en (List.replicate 116 0) _ (by exact HRow.out.below (Below.refl _ _).drew) (by omega) (by omega)).mono ?_; rintro e w3 ⟨rfl, hR3, hO3⟩)
  have HR3 := Lib.hid (HR2.out.only (Only.of_below (Below.refl _ _).drew |>.trans hO3) (by omega))
  have HB3 : Hid (Below w.heap.size w w3) := Lib.hid (hO3.below HB2.out.drew (HB2.out.drew.size) (by omega))
  clear HR2 HB2 HRow c0 hO3
  obtain ⟨w4, hcp, hR4, hO4⟩ := copy_name (l := 108) (c := 108) hR3 (o := 8) (by omega) (by omega) 3
  have HRow4 := Lib.hid hR4
  have HR4 := Lib.hid (HR3.out.only hO4 (by omega))
  have HB4 : Hid (Below w.heap.size w w4) := Lib.hid (hO4.below HB3.out HB3.out.size (by omega))
  clear hR3 hR4 HR3 HB3 hO4
  have p1 := HR4.out.c1
  have p2 := HR4.out.c2
  have p3 := HR4.out.c3
  go_wp2_with fail
  have H0 : Hid (EncRel w (w4.alloc (.cells #[.int .i64 (pn : Int), .int .i64 (dn : Int), .int .i64 (wn : Int)] 262)) g w4.heap.size w.heap.size ⟨(en : Int), (pn : Int), (dn : Int), (wn : Int)⟩ #[.int .i64 (pn : Int), .int .i64 (dn : Int), .int .i64 (wn : Int)] (rows en pn dn wn 0)) :=
    Lib.hid ⟨HRow4.out.below ((Below.refl _ _).alloc (Nat.le_refl _) _), HR4.out.below ((Below.refl _ _).alloc (Nat.le_refl _) _), heap_alloc_new w4 _, HB4.out.alloc HB4.out.size _⟩
  have hga : g < w4.heap.size := HRow4.out.lt
  clear hcp p1 p2 p3 HRow4 HR4 HB4
  generalize w4.alloc (.cells #[.int .i64 (pn : Int), .int .i64 (dn : Int), .int .i64 (wn : Int)] 262) = w5 at *
  generalize w4.heap.size = a at *
  go_loopw [26] (fun iv wr => ∃ j : Nat, j ≤ 3 ∧ iv = .int .i64 (j : Int) ∧ Hid (EncRel w wr g a w.heap.size ⟨(en : Int), (pn : Int), (dn : Int), (wn : Int)⟩ #[.int .i64 (pn : Int), .int .i64 (dn : Int), .int .i64 (wn : Int)] (rows en pn dn wn j))) (fun iv _ => 3 - (RowKit.intOf iv).toNat)
  case atStart => exact ⟨0, by omega, by go_num, H0⟩
  case round =>
    obtain ⟨j, hj, rfl, HR⟩ := hrel
    clear H0
    by_cases hlt : j < 3
    · have k0 : wr.cell? ⟨a, 0, none⟩ = some (.int .i64 (pn : Int)) := by rw [cell_of_row wr a 0 _ _ _ HR.out.arr]; rfl
      have k1 : wr.cell? ⟨a, 1, none⟩ = some (.int .i64 (dn : Int)) := by rw [cell_of_row wr a 1 _ _ _ HR.out.arr]; rfl
      have k2 : wr.cell? ⟨a, 2, none⟩ = some (.int .i64 (wn : Int)) := by rw [cell_of_row wr a 2 _ _ _ HR.out.arr]; rfl
      have bp := HY.out.p1
      have bd := HY.out.d1
      have bw := HY.out.w1
      simp only at bp bd bw
      have HD := Lib.hid HR.out.drew
      rcases (show j = 0 ∨ j = 1 ∨ j = 2 by omega) with rfl | rfl | rfl
      · clear k1 k2
        go_wp2_with fail
        go_region_with (first
          | (go_at_call 210; refine (fieldPlace_any 0 _ (by omega)).mono ?_; rintro e w7 ⟨rfl, rfl⟩)
          | (go_at_call 209; refine (put_4 g 116 12 104 pn _ _ (by exact HD.out.row) (by omega) (by omega)).mono ?_; rintro e w7 ⟨rfl, hR7, hO7⟩))
        all_goals
          have HN := Lib.hid (HD.out.only hR7 hO7 (by omega) (by omega) (by omega))
          clear hR7 hO7 HR HD
          go_wp2_with fail
          go_roundw
          case rel => exact ⟨1, by omega, by go_num, HN⟩
          case measure => simp [RowKit.intOf]
      · clear k0 k2
        go_wp2_with fail
        go_region_with (first
          | (go_at_call 210; refine (fieldPlace_any 1 _ (by omega)).mono ?_; rintro e w7 ⟨rfl, rfl⟩)
          | (go_at_call 209; refine (put_4 g 116 16 100 dn _ _ (by exact HD.out.row) (by omega) (by omega)).mono ?_; rintro e w7 ⟨rfl, hR7, hO7⟩))
        all_goals
          have HN := Lib.hid (HD.out.only hR7 hO7 (by omega) (by omega) (by omega))
          clear hR7 hO7 HR HD
          go_wp2_with fail
          go_roundw
          case rel => exact ⟨2, by omega, by go_num, HN⟩
          case measure => simp [RowKit.intOf]
      · clear k0 k1
        go_wp2_with fail
        go_region_with (first
          | (go_at_call 210; refine (fieldPlace_any 2 _ (by omega)).mono ?_; rintro e w7 ⟨rfl, rfl⟩)
          | (go_at_call 209; refine (put_4 g 116 20 96 wn _ _ (by exact HD.out.row) (by omega) (by omega)).mono ?_; rintro e w7 ⟨rfl, hR7, hO7⟩))
        all_goals
          have HN := Lib.hid (HD.out.only hR7 hO7 (by omega) (by omega) (by omega))
          clear hR7 hO7 HR HD
          go_wp2_with fail
          go_roundw
          case rel => exact ⟨3, by omega, by go_num, HN⟩
          case measure => simp [RowKit.intOf]
    · obtain rfl : j = 3 := by omega
      have HO := Lib.hid HR.out.row
      rw [rows_all] at HO
      have HB := Lib.hid HR.out.below
      have HRL := Lib.hid ((HO.out.below (Below.refl _ _).drew).bys (body_dig _))
      clear HR hj hlt
      go_wp2_with fail
      refine wp_region_any (by kernel_rfl) ?_
      refine wpAny_take (i := 0) (v := .slice (some ⟨g, 0, none⟩) 116 116) rfl (by kernel_rfl) (by kernel_rfl) (by kernel_rfl) (fun _ _ _ h => h) (Or.inl ⟨by kernel_rfl, fun w => by first | (go_simp; done) | (go_simp; rfl) | rfl⟩) ?_
      refine wpAny_take (i := 2) (v := .slice (some ⟨g, 0, none⟩) 116 116) rfl (by kernel_rfl) (by kernel_rfl) (by kernel_rfl) (fun _ _ _ h => h) (Or.inl ⟨by kernel_rfl, fun w => by first | (go_simp; done) | (go_simp; rfl) | rfl⟩) ?_
      refine wpAny_take (i := 3) (v := .slice (some ⟨g, 0, none⟩) 8 116) rfl (by kernel_rfl) (by kernel_rfl) (by kernel_rfl) (fun _ _ _ h => h) (Or.inl ⟨by kernel_rfl, fun w => by first | (go_simp; done) | (go_simp; rfl) | rfl⟩) ?_
      refine wpAny_ready (rs := [1]) (by kernel_rfl) (by simp) ?_
      refine AllReady.cons rfl (fun K hK => ?_) AllReady.nil
      go_simp
      go_wp2_with (go_at_call 211; refine (seal_any (some ⟨g, 0, none⟩) 116 116 (body ⟨(en : Int), (pn : Int), (dn : Int), (wn : Int)⟩) _ (by omega) HRL.out).mono ?_; rintro e w7 ⟨rfl, hO7, hb7⟩)
      have HB7 : Hid (Below w.heap.size w w7) := Lib.hid (HB.out.drew.trans (Below.mono hb7 HB.out.drew.size))
      have HE : Hid (Bys w7 (some ⟨g, 0, none⟩) 8 (be 8 en)) := Lib.hid (by
        have h1 := (HRL.out.below hb7).take (k := 8) (by omega)
        rw [show (body ⟨(en : Int), (pn : Int), (dn : Int), (wn : Int)⟩).take 8 = be 8 en from take_app _ _ (be_len _ _)] at h1
        exact h1)
      have HNEW : Hid (∀ j u, (u8s (be 8 en))[j]? = some u → w7.cell? ((⟨g, 0, none⟩ : Addr).add j) = some u) := Lib.hid (by
        obtain ⟨ad, e, h1⟩ := HE.out.cells (by omega)
        cases e
        exact h1)
      have HO7 := Lib.hid hO7
      have hwr : w.heap.size ≤ wr.heap.size := HB.out.size
      clear hO7 hb7 HO HRL HB
      refine wpAny_ready (rs := [4]) (by kernel_rfl) (by simp) ?_
      refine AllReady.cons rfl (fun K hK => ?_) AllReady.nil
      refine step_append_lies _ rfl (.tmp 40) (.tmp 42) 71 rfl _ 5 i0 (.int .u8 0) 1 1 Tryz.underlying71 HI.out HZ0.out HZ1.out HZ2.out rfl (by decide) _ (116 + 4) _ (by kernel_rfl) HO7.out ⟨g, 0, none⟩ 8 116 (u8s (be 8 en)) (by kernel_rfl) (by rw [u8s_len, be_len]) HNEW.out (u8s_one _) (by omega) (by unfold maxLen; omega) (by omega) (Nat.le_of_lt (HO7.out.lt _ rfl).2) _ rfl ?_
      intro gN cap w8 hown hgrow hat _
      have HB8 : Hid (Below w.heap.size w w8) := Lib.hid (HB7.out.grown hgrow HB7.out.size (fun k e => (by cases e; exact hwr)))
      have HY8 : Hid (Bys w8 (some ⟨gN, 0, none⟩) 128 (block ⟨(en : Int), (pn : Int), (dn : Int), (wn : Int)⟩)) := Lib.hid (Bys.own (bs := sealedB _ ++ be 8 en) (by rw [u8s_append]; exact hown) (block_dig _))
      have hcv := HY8.out.conv cap
      clear hown hgrow hat HB7 HO7 HNEW HE
      refine hK _ _ ?_
      clear hK K
      refine wpAny_ready (rs := [5]) (by kernel_rfl) (by simp) ?_
      refine AllReady.cons rfl (fun K hK => ?_) AllReady.nil
      go_simp
      refine hK _ _ ?_
      clear hK K
      refine wpAny_done (by kernel_rfl) ?_ _
      go_wp2_with fail
      go_ret2
      exact ⟨rfl, HB8.out⟩
end Go.Proofs.YtmbecjlioogbhaaGreatDoor
end
