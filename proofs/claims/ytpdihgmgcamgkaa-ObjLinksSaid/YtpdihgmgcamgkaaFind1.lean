/- The library's loop over a slice from behind: what it tells a body, place by place. -/
import Derived.Test.YtpdihgmgcamgkaaFind0
set_option maxRecDepth 20000
namespace Go.Proofs.Ytpdihgmgcamgkaa
open Go.RowKit Go.Shelf
attribute [local go_sem] Oper.semAt_some

/-- What has come when k rounds are over. -/
def upto {α : Type} (f : Nat → α) (k : Nat) : List α := (List.range k).map f
theorem upto_succ {α : Type} (f : Nat → α) (k : Nat) : upto f (k + 1) = upto f k ++ [f k] := by simp [upto, List.range_succ]
theorem upto_length {α : Type} (f : Nat → α) (k : Nat) : (upto f k).length = k := by simp [upto]

/-- A byte that goes on, by what it is above 128. -/
abbrev Low := Fin 128
/-- Two blocks lie as they lay. -/
def Two (x y : Nat) (A B : World) : Prop := B.heap[x]? = A.heap[x]? ∧ B.heap[y]? = A.heap[y]?
theorem Two.refl (x y : Nat) (A : World) : Two x y A A := ⟨rfl, rfl⟩
theorem Two.trans {x y : Nat} {A B C : World} (h : Two x y A B) (k : Two x y B C) : Two x y A C := ⟨k.1.trans h.1, k.2.trans h.2⟩
theorem Two.of_below {n₀ x y : Nat} {A B : World} (h : Below n₀ A B) (hx : x < n₀) (hy : y < n₀) : Two x y A B := ⟨h.block x hx, h.block y hy⟩
theorem Two.fst {x y o : Nat} {A B : World} (h : Two x y A B) : B.cell? ⟨x, o, none⟩ = A.cell? ⟨x, o, none⟩ := World.cell?_of_block (w := A) h.1
theorem Two.snd {x y o : Nat} {A B : World} (h : Two x y A B) : B.cell? ⟨y, o, none⟩ = A.cell? ⟨y, o, none⟩ := World.cell?_of_block (w := A) h.2
theorem Two.put {w : World} {x y : Nat} (hx : x < w.heap.size) (hy : y < w.heap.size) (W : World) (l : Nat) (o o' : Obj) (hl : w.heap.size ≤ l) (h : W.heap[l]? = some o) (h1 : o.isCells = false) (h2 : o.isWalk = false) : Two x y W (W.putObj l o') :=
  Two.of_below (belowK_b (w := w) (Nat.le_refl _) W l o o' hl h h1 h2) hx hy
theorem Two.setCell {x y g i : Nat} (hx : x ≠ g) (hy : y ≠ g) (v : Value) (w : World) : Two x y w (w.setCell ⟨g, i, none⟩ v) := ⟨Below.heap_setCell w _ v x hx, Below.heap_setCell w _ v y hy⟩
theorem Two.drew (x y : Nat) (w : World) : Two x y w w.drew := ⟨rfl, rfl⟩

set_option maxRecDepth 100000 in
set_option maxHeartbeats 2000000 in
theorem back1_in (F : Fence) (n : Nat) (h37 : F.fn 70) (hro : F.round = none) (hn : 1 ≤ n) (l Bs b off len cap : Nat) (f : Nat → Low) (hreach : len ≤ 140737488351232) (J Jx : List (Nat × Low) → World → Prop)
    (hY : ∀ pre x W, J pre W → pre.length < len → YieldAt F (n - 1) Try.prog l #[.int .i64 (x.1 : Int), .int .u8 ((x.2.val + 128 : Nat) : Int)] W fun e W' =>
      (e = .returned (.bool true) ∧ J (pre ++ [x]) W' ∧ Two Bs b W W') ∨ (e = .returned (.bool false) ∧ Jx (pre ++ [x]) W'))
    (W : World) (hBs : W.cell? ⟨Bs, 0, none⟩ = some (.slice (some ⟨b, off, none⟩) len cap)) (hc : ∀ j, j < len → W.cell? ⟨b, off + j, none⟩ = some (.int .u8 (((f j).val + 128 : Nat) : Int))) (h0 : J [] W) :
    CallsIn F n Try.prog 70 #[.func (.yield l) #[] #[], .pointer (some ⟨Bs, 0, none⟩)] W fun e W' => (∃ v, e = .returned v) ∧
      ((∃ ys, ys = upto (fun j => (len - 1 - j, f (len - 1 - j))) len ∧ J ys W') ∨ (∃ pre, (∃ k, k ≤ len ∧ pre = upto (fun j => (len - 1 - j, f (len - 1 - j))) k) ∧ Jx pre W')) := by
  refine callsIn_of_wp Try.func70 rfl h37 ?_ hro
  simp only [Try.ntmps70, List.size_toArray, List.length_cons, List.length_nil, Nat.reduceAdd, Nat.reduceSub, Array.replicate_succ, Array.replicate_zero, List.push_toArray, List.append_toArray, List.nil_append, List.cons_append]
  gi_wp2
  gi_loopw [3] (fun i wr => ∃ (k : Nat) (z : Int), k ≤ len ∧ z = (len : Int) - 1 - (k : Int) ∧ i = .int .i64 z ∧ J (upto (fun j => (len - 1 - j, f (len - 1 - j))) k) wr ∧ Two Bs b W wr)
    (fun i _ => (intOf i + 1).toNat)
  case atStart => exact ⟨0, _, Nat.zero_le _, rfl, by simp, h0, Two.refl _ _ _⟩
  case round =>
    obtain ⟨k, z, hk, hz, rfl, hJs, hnx⟩ := hrel
    by_cases hlt : k < len
    · obtain ⟨j, hj⟩ : ∃ j, Hid (len = k + 1 + j) := ⟨len - 1 - k, Lib.hid (by omega)⟩
      have hjl : j < len := by have := hj.out; omega
      obtain rfl : z = (j : Int) := by have := hj.out; omega
      have HZ := Lib.hid hz
      clear hz
      have hjj : Hid (len - 1 - k = j) := Lib.hid (by have := hj.out; omega)
      have hcx : wr.cell? ⟨b, off + j, none⟩ = some (.int .u8 (((f j).val + 128 : Nat) : Int)) := hnx.snd.trans (hc _ hjl)
      have hbx : wr.cell? ⟨Bs, 0, none⟩ = some (.slice (some ⟨b, off, none⟩) len cap) := hnx.fst.trans hBs
      have HS := Lib.hid (upto_succ (fun j => (len - 1 - j, f (len - 1 - j))) k)
      have HN := Lib.hid hnx
      clear hnx
      have hy0 := hY _ (j, f j) wr hJs (by rw [upto_length]; exact hlt)
      have HP : Hid (upto (fun j => (len - 1 - j, f (len - 1 - j))) k ++ [(j, f j)] = upto (fun j => (len - 1 - j, f (len - 1 - j))) (k + 1)) := Lib.hid (by rw [HS.out]; simp only [hjj.out])
      rw [HP.out] at hy0
      dsimp only at hy0
      have hw := (f j).isLt
      generalize (f j).val + 128 = y at *
      obtain ⟨fn, tmps, assign, body, hy, hR⟩ := hy0
      gi_wp2
      refine hR.mono ?_
      rintro e W3 (⟨rfl, hJ3, hk3⟩ | ⟨rfl, hJx3⟩)
      · gi_wp2
        go_roundw
        case rel => exact ⟨k + 1, (j : Int) - 1, by omega, by have := HZ.out; omega, by go_num, hJ3, HN.out.trans hk3⟩
        case measure => simp [intOf]
      · gi_wp2
        refine bodyPost_ret (results_none rfl _ _ _) rfl ?_
        exact ⟨⟨_, rfl⟩, .inr ⟨_, ⟨k + 1, by omega, rfl⟩, hJx3⟩⟩
    · have hz1 : z = -1 := by omega
      obtain rfl := hz1
      have hkl : Hid (k = len) := Lib.hid (by omega)
      clear hz
      gi_wp2
      go_end0
      exact ⟨⟨_, rfl⟩, .inl ⟨_, rfl, by have := hJs; rw [hkl.out] at this; exact this⟩⟩

set_option maxRecDepth 100000 in
set_option maxHeartbeats 1000000 in
/-- .. of no byte: no round. -/
theorem back0_in (F : Fence) (n : Nat) (h37 : F.fn 70) (hro : F.round = none) (l Bs cap : Nat) (p : Option Addr) (J : List (Nat × Low) → World → Prop) (W : World) (hBs : W.cell? ⟨Bs, 0, none⟩ = some (.slice p 0 cap)) (h0 : J [] W) :
    CallsIn F n Try.prog 70 #[.func (.yield l) #[] #[], .pointer (some ⟨Bs, 0, none⟩)] W fun e W' => (∃ v, e = .returned v) ∧ J [] W' := by
  refine callsIn_of_wp Try.func70 rfl h37 ?_ hro
  simp only [Try.ntmps70, List.size_toArray, List.length_cons, List.length_nil, Nat.reduceAdd, Nat.reduceSub, Array.replicate_succ, Array.replicate_zero, List.push_toArray, List.append_toArray, List.nil_append, List.cons_append]
  gi_wp2
  gi_loopw [3] (fun i wr => i = .int .i64 (-1) ∧ J [] wr) (fun _ _ => 0)
  case atStart => exact ⟨by simp, h0⟩
  case round =>
    obtain ⟨rfl, hJs⟩ := hrel
    gi_wp2
    go_end0
    exact ⟨⟨_, rfl⟩, hJs⟩

set_option maxHeartbeats 1000000 in
/-- The slice is boxed; the function value captures the box. -/
theorem back_in (F : Fence) (n : Nat) (h35 : F.fn 67) (hro : F.round = none) (a : Option Addr) (len cap : Nat) (w : World) :
    CallsIn F n Try.prog 67 #[.slice a len cap] w fun e w' => e = .returned (.func (.func 70) #[] #[.pointer (some ⟨w.heap.size, 0, none⟩)]) ∧ w' = w.alloc (.cells #[.slice a len cap] 42) := by
  refine callsIn_of_wp Try.func67 rfl h35 ?_ hro
  simp only [Try.ntmps67, List.size_toArray, List.length_cons, List.length_nil, Nat.reduceAdd, Nat.reduceSub, Array.replicate_succ, Array.replicate_zero, List.push_toArray, List.append_toArray, List.nil_append, List.cons_append]
  gi_wp2
  go_ret
  exact ⟨rfl, rfl⟩

/-- The loop from behind: all places, or some. -/
theorem back_stops (F : Fence) (n : Nat) (h37 : F.fn 70) (hro : F.round = none) (hn : 1 ≤ n) (Bs b off len cap : Nat) (f : Nat → Low) (hreach : len ≤ 140737488351232) (w : World) (hBs : Bs < w.heap.size) (hb : b < w.heap.size)
    (hcs : w.cell? ⟨Bs, 0, none⟩ = some (.slice (some ⟨b, off, none⟩) len cap)) (hc : ∀ j, j < len → w.cell? ⟨b, off + j, none⟩ = some (.int .u8 (((f j).val + 128 : Nat) : Int))) :
    SeqStopsK F n Try.prog 70 #[.pointer (some ⟨Bs, 0, none⟩)] (fun x : Nat × Low => #[Value.int .i64 (x.1 : Int), Value.int .u8 ((x.2.val + 128 : Nat) : Int)]) (Two Bs b) (fun ys => ys = upto (fun j => (len - 1 - j, f (len - 1 - j))) len)
      (fun pre => ∃ k, k ≤ len ∧ pre = upto (fun j => (len - 1 - j, f (len - 1 - j))) k) len w := fun l J Jx W hW _ _ hY h0 => by
  have h1 := (hW.cell (p := ⟨Bs, 0, none⟩) hBs).trans hcs
  have h2 : ∀ j, j < len → W.cell? ⟨b, off + j, none⟩ = some (.int .u8 (((f j).val + 128 : Nat) : Int)) := fun j hj => (hW.cell (p := ⟨b, off + j, none⟩) hb).trans (hc j hj)
  exact back1_in F n h37 hro hn l Bs b off len cap f hreach J Jx hY W h1 h2 h0
end Go.Proofs.Ytpdihgmgcamgkaa
