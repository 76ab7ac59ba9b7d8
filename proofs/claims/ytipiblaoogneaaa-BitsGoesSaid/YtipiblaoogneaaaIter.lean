/- The functions to range over: what they tell a body, number by number, run by run. -/
import Derived.RangeFuncNested
import Derived.RangeFuncBound
import Derived.RangeFuncCalls
import Derived.RangeFuncLeaves
import Derived.RangeFuncBox
import Derived.Shelf.Abstract
import Derived.Shelf.RegionOpen
import Derived.WalkKit
import Derived.OwnWalkIn
import Derived.TacticsInMore
import Derived.LoopNIn
import Derived.LoopIn
import Derived.Test.YtipiblaoogneaaaOf
import Derived.Test.YtipiblaoogneaaaRuns0
namespace Go.Proofs.Ytipiblaoogneaaa
open Go.RowKit Go.Shelf
attribute [local go_sem] Oper.semAt_some

/-- Three blocks lie as they lay. -/
def Three (x y z : Nat) (A B : World) : Prop := B.heap[x]? = A.heap[x]? ∧ B.heap[y]? = A.heap[y]? ∧ B.heap[z]? = A.heap[z]?
theorem Three.refl (x y z : Nat) (A : World) : Three x y z A A := ⟨rfl, rfl, rfl⟩
theorem Three.trans {x y z : Nat} {A B C : World} (h : Three x y z A B) (k : Three x y z B C) : Three x y z A C := ⟨k.1.trans h.1, k.2.1.trans h.2.1, k.2.2.trans h.2.2⟩
theorem Three.of_below {n₀ x y z : Nat} {A B : World} (h : Below n₀ A B) (hx : x < n₀) (hy : y < n₀) (hz : z < n₀) : Three x y z A B := ⟨h.block x hx, h.block y hy, h.block z hz⟩
theorem Three.fst {x y z o : Nat} {A B : World} (h : Three x y z A B) : B.cell? ⟨x, o, none⟩ = A.cell? ⟨x, o, none⟩ := World.cell?_of_block (w := A) h.1
theorem Three.sat {x g b n : Nat} {f : Nat → Bool} {A B : World} (h : Three x g b A B) (hS : Sat A g b n f) : Sat B g b n f := hS.same h.2.1 h.2.2
theorem Three.put {w : World} {x y z : Nat} (hx : x < w.heap.size) (hy : y < w.heap.size) (hz : z < w.heap.size) (W : World) (l : Nat) (o o' : Obj) (hl : w.heap.size ≤ l) (h : W.heap[l]? = some o) (h1 : o.isCells = false) (h2 : o.isWalk = false) : Three x y z W (W.putObj l o') :=
  Three.of_below (belowK_b (w := w) (Nat.le_refl _) W l o o' hl h h1 h2) hx hy hz
theorem Three.setCell {x y z g i : Nat} (hx : x ≠ g) (hy : y ≠ g) (hz : z ≠ g) (v : Value) (w : World) : Three x y z w (w.setCell ⟨g, i, none⟩ v) := ⟨Below.heap_setCell w _ v x hx, Below.heap_setCell w _ v y hy, Below.heap_setCell w _ v z hz⟩
theorem Three.drew (x y z : Nat) (w : World) : Three x y z w w.drew := ⟨rfl, rfl, rfl⟩

theorem num_none : num none = -1 := rfl
theorem num_some (j : Nat) : num (some j) = (j : Int) := rfl
set_option maxRecDepth 100000 in
set_option maxHeartbeats 2000000 in
theorem all1_in (n : Nat) (hn : 1 ≤ n) (l Bs g b N M : Nat) (hM : N < M) (f : Nat → Bool) (J Jx : List Nat → World → Prop)
    (hY : ∀ (pre : List Nat) (x : Nat) W, J pre W → pre.length < M → YieldAt Fence.wide (n - 1) Try.prog l #[.int .i64 (x : Int)] W fun e W' =>
      (e = .returned (.bool true) ∧ J (pre ++ [x]) W' ∧ Three Bs g b W W') ∨ (e = .returned (.bool false) ∧ Jx (pre ++ [x]) W'))
    (W : World) (hBs : W.cell? ⟨Bs, 0, none⟩ = some (.pointer (some ⟨g, 0, none⟩))) (hS : Sat W g b N f) (h0 : J [] W) :
    CallsIn Fence.wide n Try.prog 40 #[.func (.yield l) #[] #[], .pointer (some ⟨Bs, 0, none⟩)] W fun e W' => (∃ v, e = .returned v) ∧
      ((∃ ys, ys = mems f N ∧ J ys W') ∨ (∃ pre, (∃ j, j ≤ N ∧ pre = mems f j) ∧ Jx pre W')) := by
  have hN := hS.le
  have HS := Lib.hid hS
  have HSub := Lib.hid hS.sub
  have HM0 := Lib.hid hM
  have HN := Lib.hid hN
  clear hS hM hN
  refine callsIn_of_wp Try.func40 rfl trivial ?_ rfl
  simp only [Try.ntmps40, List.size_toArray, List.length_cons, List.length_nil, Nat.reduceAdd, Nat.reduceSub, Array.replicate_succ, Array.replicate_zero, List.push_toArray, List.append_toArray, List.nil_append, List.cons_append]
  gi_wp2_with (refine ⟨trivial, ?_⟩; gi_at_call 33; refine (callsIn_wide.2 (next_any HS.out 0 (by omega))).mono ?_; rintro e w' ⟨rfl, rfl⟩)
  gi_loopw [3] (fun i wr => ∃ s : Nat, s ≤ N ∧ i = .int .i64 (num (nxt f N s)) ∧ J (mems f s) wr ∧ Three Bs g b W wr)
    (fun i _ => (2049 - (if intOf i < 0 then 2049 else intOf i)).toNat)
  case atStart => exact ⟨0, Nat.zero_le _, rfl, by simpa [mems] using h0, Three.refl _ _ _ _⟩
  case round =>
    obtain ⟨s, hs, rfl, hJs, hnx⟩ := hrel
    rcases nxt_spec f N s with ⟨j, e0, e1, e2, e3, e4⟩ | ⟨e0, e4⟩
    · rw [e0, num_some]
      have hne : ((j : Int) != -1) = true := by simp
      have HB : Hid (wr.cell? ⟨Bs, 0, none⟩ = some (.pointer (some ⟨g, 0, none⟩))) := Lib.hid (hnx.fst.trans hBs)
      have HM : Hid (mems f j = mems f s) := Lib.hid (mems_skip e1 e4)
      rw [← HM.out] at hJs
      have hy0 := hY _ j wr hJs (by have := mems_len f j; have := HM0.out; omega)
      have HH : Hid (mems f j ++ [j] = mems f (j + 1)) := Lib.hid (mems_hit e3).symm
      rw [HH.out] at hy0
      have HNX := Lib.hid hnx
      obtain ⟨fn, tmps, assign, body, hy, hR⟩ := hy0
      clear hnx e0 e1 e3 e4
      gi_wp2
      refine hR.mono ?_
      rintro e W3 (⟨rfl, hJ3, hk3⟩ | ⟨rfl, hJx3⟩)
      · have hb3 : W3.cell? ⟨Bs, 0, none⟩ = some (.pointer (some ⟨g, 0, none⟩)) := hk3.fst.trans HB.out
        have HK3 := Lib.hid (HNX.out.trans hk3)
        have HS3 := Lib.hid (HK3.out.sat HS.out)
        have HNext := Lib.hid (next_any HS3.out ((j + 1 : Nat) : Int) (by have := HN.out; omega))
        rw [Int.toNat_natCast, Int.natCast_add] at HNext
        have hjz : (j : Int) ≤ 2048 := by have := HN.out; omega
        clear hk3
        gi_wp2_with (refine ⟨trivial, ?_⟩; gi_at_call 33; refine (callsIn_wide.2 HNext.out).mono ?_; rintro e w' ⟨rfl, rfl⟩)
        go_roundw
        case rel => exact ⟨j + 1, by omega, by go_num, hJ3, HK3.out⟩
        case measure =>
          have := HN.out
          rcases nxt_spec f N (j + 1) with ⟨j2, e0, e1, e2, e3, e4⟩ | ⟨e0, e4⟩
          · rw [e0, num_some]; simp only [intOf]; (repeat' split) <;> omega
          · rw [e0, num_none]; simp only [intOf]; (repeat' split) <;> omega
      · gi_wp2
        refine bodyPost_ret (results_none rfl _ _ _) rfl ?_
        exact ⟨⟨_, rfl⟩, .inr ⟨_, ⟨j + 1, by omega, rfl⟩, hJx3⟩⟩
    · rw [e0, num_none]
      have HM : Hid (mems f N = mems f s) := Lib.hid (mems_skip hs e4)
      gi_wp2
      go_end0
      exact ⟨⟨_, rfl⟩, .inl ⟨_, rfl, by rw [HM.out]; exact hJs⟩⟩

set_option maxRecDepth 100000 in
set_option maxHeartbeats 2000000 in
theorem runs1_in (n : Nat) (hn : 1 ≤ n) (l Bs g b N M : Nat) (hM : N < M) (f : Nat → Bool) (J Jx : List Run → World → Prop)
    (hY : ∀ (pre : List Run) (x : Run) W, J pre W → pre.length < M → YieldAt Fence.wide (n - 1) Try.prog l #[.int .i64 (x.1.val : Int), .int .i64 (x.2.val : Int)] W fun e W' =>
      (e = .returned (.bool true) ∧ J (pre ++ [x]) W' ∧ Three Bs g b W W') ∨ (e = .returned (.bool false) ∧ Jx (pre ++ [x]) W'))
    (W : World) (hBs : W.cell? ⟨Bs, 0, none⟩ = some (.pointer (some ⟨g, 0, none⟩))) (hS : Sat W g b N f) (h0 : J [] W) :
    CallsIn Fence.wide n Try.prog 41 #[.func (.yield l) #[] #[], .pointer (some ⟨Bs, 0, none⟩)] W fun e W' => (∃ v, e = .returned v) ∧
      ((∃ ys, ys = runs f N ∧ J ys W') ∨ (∃ pre, True ∧ Jx pre W')) := by
  have hN := hS.le
  have HS := Lib.hid hS
  have HSub := Lib.hid hS.sub
  have HM0 := Lib.hid hM
  have HN := Lib.hid hN
  clear hS hM hN
  refine callsIn_of_wp Try.func41 rfl trivial ?_ rfl
  simp only [Try.ntmps41, List.size_toArray, List.length_cons, List.length_nil, Nat.reduceAdd, Nat.reduceSub, Array.replicate_succ, Array.replicate_zero, List.push_toArray, List.append_toArray, List.nil_append, List.cons_append]
  gi_wp2_with (refine ⟨trivial, ?_⟩; gi_at_call 33; refine (callsIn_wide.2 (next_any HS.out 0 (by omega))).mono ?_; rintro e w' ⟨rfl, rfl⟩)
  gi_loopw [3, 4] (fun i _ wr => ∃ (s k : Nat) (pre : List Run), s ≤ N ∧ N < s + k ∧ pre.length ≤ s ∧ i = .int .i64 (num (nxt f N s)) ∧ Hid (pre ++ runsF f N k s = runs f N) ∧ J pre wr ∧ Three Bs g b W wr)
    (fun i _ _ => (2049 - (if intOf i < 0 then 2049 else intOf i)).toNat)
  case atStart => exact ⟨0, N + 1, [], Nat.zero_le _, by omega, Nat.le_refl _, rfl, Lib.hid rfl, h0, Three.refl _ _ _ _⟩
  case round =>
    obtain ⟨s, k, pre, hs, hk, hl, rfl, HR, hJs, hnx⟩ := hrel
    rcases nxt_spec f N s with ⟨j, e0, e1, e2, e3, e4⟩ | ⟨e0, e4⟩
    · obtain ⟨k, rfl⟩ : ∃ q, k = q + 1 := ⟨k - 1, by omega⟩
      obtain ⟨x1, x2, x3, x4⟩ := endF_spec HSub.out e2 e3
      have hR2 := HR.out
      rw [runsF_some e0, ← List.singleton_append, ← List.append_assoc] at hR2
      have HR2 := Lib.hid hR2
      rw [e0, num_some]
      have hne : ((j : Int) != -1) = true := by simp
      have HB : Hid (wr.cell? ⟨Bs, 0, none⟩ = some (.pointer (some ⟨g, 0, none⟩))) := Lib.hid (hnx.fst.trans hBs)
      have hy0 := hY pre (sp j, sp (endF f N j - j)) wr hJs (by have := HM0.out; omega)
      have HNX := Lib.hid hnx
      have HS2 := Lib.hid (HNX.out.sat HS.out)
      have HEnd := Lib.hid (end_any HS2.out j (by have := HN.out; omega))
      have HL : Hid ((pre ++ [(sp j, sp (endF f N j - j))]).length ≤ endF f N j) := Lib.hid (by rw [List.length_append]; simp; omega)
      have HSZ : Hid (s ≤ j ∧ j < endF f N j ∧ endF f N j ≤ N ∧ N < endF f N j + k) := Lib.hid ⟨e1, x1, x2, by omega⟩
      dsimp only at hy0
      rw [sp_val (by have := HN.out; omega), sp_val (by have := HN.out; omega), Int.natCast_sub (by omega)] at hy0
      clear hnx e0 e1 e3 e4 x1 x2 x3 x4 hR2 hs hk hl HR
      generalize endF f N j = q at *
      generalize pre ++ [(sp j, sp (q - j))] = pre2 at *
      have hz1 : (j : Int) ≤ 2048 := by have := HN.out; omega
      have hz2 : (q : Int) ≤ 2048 := by have := HN.out; have := HSZ.out; omega
      obtain ⟨fn, tmps, assign, body, hy, hR⟩ := hy0
      have hb0 := HB.out
      gi_wp2_with (refine ⟨trivial, ?_⟩; gi_at_call 42; refine (callsIn_wide.2 HEnd.out).mono ?_; rintro e w' ⟨rfl, rfl⟩)
      refine hR.mono ?_
      rintro e W3 (⟨rfl, hJ3, hk3⟩ | ⟨rfl, hJx3⟩)
      · have hb3 : W3.cell? ⟨Bs, 0, none⟩ = some (.pointer (some ⟨g, 0, none⟩)) := hk3.fst.trans HB.out
        have HK3 := Lib.hid (HNX.out.trans hk3)
        have HS3 := Lib.hid (HK3.out.sat HS.out)
        have HNext := Lib.hid (next_any HS3.out (q : Int) (by omega))
        rw [Int.toNat_natCast] at HNext
        clear hk3 hb0
        gi_wp2_with (refine ⟨trivial, ?_⟩; gi_at_call 33; refine (callsIn_wide.2 HNext.out).mono ?_; rintro e w' ⟨rfl, rfl⟩)
        go_roundw
        case rel => exact ⟨q, k, pre2, HSZ.out.2.2.1, HSZ.out.2.2.2, HL.out, by go_num, HR2, hJ3, HK3.out⟩
        case measure =>
          have := HN.out
          have := HSZ.out
          rcases nxt_spec f N q with ⟨j2, e0, e1, e2, e3, e4⟩ | ⟨e0, e4⟩
          · rw [e0, num_some]; simp only [intOf]; (repeat' split) <;> omega
          · rw [e0, num_none]; simp only [intOf]; (repeat' split) <;> omega
      · gi_wp2
        refine bodyPost_ret (results_none rfl _ _ _) rfl ?_
        exact ⟨⟨_, rfl⟩, .inr ⟨_, trivial, hJx3⟩⟩
    · have HF : Hid (pre = runs f N) := Lib.hid (by have := HR.out; rwa [runsF_none e0, List.append_nil] at this)
      rw [e0, num_none]
      gi_wp2
      go_end0
      exact ⟨⟨_, rfl⟩, .inl ⟨_, rfl, by rw [← HF.out]; exact hJs⟩⟩
end Go.Proofs.Ytipiblaoogneaaa
