/- A region that draws its order, in a round of a range over a function: what serves outside serves inside. -/
import Derived.Test.YtekmboolfjicbaaRng
import Derived.OrdersHeld
import Derived.OrdersIn
import Derived.Test.YtekmboolfjicbaaLIdx
import Derived.RangeFuncNested
import Derived.RangeFuncBound
import Derived.RangeFuncCalls
import Derived.RangeFuncLeaves
import Derived.RangeFuncBox
import Derived.Shelf.Abstract
import Derived.Shelf.RegionOpen
import Derived.WalkKit
import Derived.OwnWalkIn
import Derived.TacticsInMore
import Derived.LoopNIn
import Derived.LoopIn
section
/-! A region that draws its order, in a round of a range over a function: what serves outside serves inside. -/
set_option maxRecDepth 20000
set_option linter.unusedSimpArgs false
set_option linter.unusedVariables false
namespace Go.Proofs.Ytekmboolfjicbaa
open Go.RowKit

/-- No operation of a region is a defer. -/
def noDefer (ops : Array Oper) : Bool := ops.all fun o => match o.op with | .defer _ => false | _ => true
theorem noDefer_at {ops : Array Oper} (h : noDefer ops = true) {i : Nat} {o : Oper} (hi : ops[i]? = some o) : ∀ c, o.op ≠ .defer c := by
  intro c e
  unfold noDefer at h
  rw [Array.all_eq_true] at h
  obtain ⟨hlt, hi⟩ := Array.getElem?_eq_some_iff.1 hi
  have := h i hlt
  rw [hi, e] at this
  cases this
theorem op_round {P : Program} {o : Oper} {a : Act} {w : World} {K : Act → World → Prop} {Q : Exit → Act → World → Prop} (l n : Nat) (hd : ∀ c, o.op ≠ .defer c) (h : o.wp P a w K Q) : o.wpIn (Fence.wide.inRound l) n P a w K Q := by
  refine ⟨fun _ _ => trivial, ?_⟩
  rw [Oper.semAt_eq _ _ _ hd]
  unfold Oper.wp at h
  generalize (execOp a.eval o).run P w = r at *
  cases r with
  | ok x w' =>
    cases x with
    | value v => exact h
    | skip => exact h
    | defer d => exact h
    | enter f args => exact ⟨fun h => by simp [Fence.wide] at h, CallsIn.inRound l (callsIn_wide.2 h)⟩
    | row row args =>
      refine ⟨fun h => by simp [Fence.wide] at h, fun c cs hr => ?_⟩
      obtain ⟨v, w'', r, s⟩ := h c cs
      exact ⟨v, w'', r, stepsIn_wide.2 s⟩
    | round l f tmps assign body => exact h.elim
    | _ => exact h.elim
  | halt x w' =>
    cases x with
    | panic v => exact h
    | _ => exact h.elim
theorem any_round {P : Program} {md : Region.Mode} {ops : Array Oper} {Q : Exit → Act → World → Prop} (l n : Nat) (hd : noDefer ops = true) (hlo : ¬ LetsOut Q) : ∀ (fuel : Nat) (listed : Array Bool) (a : Act) (w : World), wpAny P md ops Q fuel listed a w → wpAnyIn (Fence.wide.inRound l) n P md ops Q fuel listed a w
  | 0, _, _, _, h => h
  | fuel + 1, listed, a, w, h => ⟨h.1, fun i hi => by
      have h1 := h.2 i hi
      unfold wpOp at h1
      unfold wpOpIn
      cases ho : ops[i]? with
      | none =>
        rw [ho] at h1
        exact any_round l n hd hlo fuel _ a w h1
      | some o =>
        rw [ho] at h1
        dsimp only at h1 ⊢
        split
        · rename_i hw
          rw [if_pos hw] at h1
          exact op_round l n (noDefer_at hd ho) (Oper.wp_mono (fun a' w' h' => any_round l n hd hlo fuel _ a' w' h') (h1.resolve_right fun h => hlo h.2))
        · rename_i hw
          rw [if_neg hw] at h1
          exact ⟨fun _ _ => trivial, any_round l n hd hlo fuel _ _ w h1⟩⟩
/-- A region in a round, held by S. -/
theorem region_round {P : Program} {id l n : Nat} {ops : Array Oper} {Q : Exit → Act → World → Prop} {a : Act} {w : World} (S : World → Prop) (hm : P.follows .mixedOrders = true) (hd : noDefer ops = true)
    (h : ∀ K : Act → World → Prop, (∀ a' w', Q .normal a' w' → K a' w') → wpAnyH P .any ops (fun e a' w' => e = .normal ∧ K a' w') S ops.size (Array.replicate ops.size false) a w.drew) : (Code.region id ops true).wpIn (Fence.wide.inRound l) n P Q a w := by
  have h1 := wpIn_region_any (F := Fence.wide.inRound l) (n := n) (id := id) hm (any_round l n hd (fun ⟨_, _, h⟩ => by cases h.1) _ _ _ _ (wpAny_of_held _ _ _ _ (h (fun a w => Q .normal a w) fun _ _ h => h)))
  exact wpIn_mono h1 fun e a w ⟨he, hk⟩ => by rw [he]; exact hk
/-- The same outside of rounds. -/
theorem region_plain {P : Program} {id : Nat} {ops : Array Oper} {Q : Exit → Act → World → Prop} {a : Act} {w : World} (S : World → Prop) (hm : P.follows .mixedOrders = true)
    (h : ∀ K : Act → World → Prop, (∀ a' w', Q .normal a' w' → K a' w') → wpAnyH P .any ops (fun e a' w' => e = .normal ∧ K a' w') S ops.size (Array.replicate ops.size false) a w.drew) : (Code.region id ops true).wp P Q a w := by
  refine Code.wp_mono ?_ (wp_region_held (S := S) hm (h (fun a w => Q .normal a w) fun _ _ h => h))
  rintro e a' w' ⟨rfl, hk⟩
  exact hk
section
variable {P : Program} {ops : Array Oper} {K : Act → World → Prop} {S : World → Prop} {i : Nat} {oi : Oper} {v : Value} {fuel : Nat} {listed : Array Bool} {a : Act} {w : World}
/-- One that tells the same in each world of S is taken first. -/
theorem held_take (hi : ops[i]? = some oi) (hg : oi.guard = none) (hs : Region.noSelect ops = true) (hf : Region.free .any ops listed i = true) (hr : (Region.ready .any ops listed).contains i = true)
    (hy : ∀ u, S u → (execOp a.eval oi).run P u = .ok (.value v) u) (hS : S w)
    (h : wpAnyH P .any ops (fun e a' w' => e = .normal ∧ K a' w') S fuel (listed.setIfInBounds i true) (a.put oi.dst v) w) : wpAnyH P .any ops (fun e a' w' => e = .normal ∧ K a' w') S (fuel + 1) listed a w :=
  wpAnyH_take hi hs hf hr (fun _ _ _ h => by cases h.1) (.inl ⟨by unfold Region.wanted; rw [hg], hy⟩) hS h
/-- One that alone may come up. -/
theorem held_one (hi : ops[i]? = some oi) (hg : oi.guard = none) (hr : Region.ready .any ops listed = [i])
    (h : ∀ K' : Act → World → Prop, (∀ a' w', (S w' ∧ wpAnyH P .any ops (fun e a' w' => e = .normal ∧ K a' w') S fuel (listed.setIfInBounds i true) a' w') → K' a' w') → oi.wp P a w K' (fun e a' w' => e = .normal ∧ K a' w')) : wpAnyH P .any ops (fun e a' w' => e = .normal ∧ K a' w') S (fuel + 1) listed a w :=
  wpAnyH_all hr (by simp) fun j hj => by
    obtain rfl : j = i := by simpa using hj
    unfold wpOp
    rw [hi]
    dsimp only
    rw [if_pos (by unfold Region.wanted; rw [hg])]
    exact .inl (h _ fun _ _ h => h)
theorem held_done (hr : Region.ready .any ops listed = []) (h : K a w) : wpAnyH P .any ops (fun e a' w' => e = .normal ∧ K a' w') S fuel listed a w := wpAnyH_done hr ⟨rfl, h⟩ _
end
end Go.Proofs.Ytekmboolfjicbaa
end
section
/-! All of nil rounds tells nothing. -/
set_option maxRecDepth 20000
set_option linter.unusedSimpArgs false
namespace Go.Proofs.Ytekmboolfjicbaa
open Go.RowKit Go.Shelf
attribute [local go_sem] Oper.semAt_some

def GoodN (Bs : Nat) (_i : Nat) (W : World) : Prop := W.cell? ⟨Bs, 0, none⟩ = some (.pointer none)
set_option maxRecDepth 100000 in
set_option maxHeartbeats 2000000 in
theorem allN_seq (n : Nat) (hn : 1 ≤ n) (Bs : Nat) : SeqJ Fence.wide n Try.prog 28 #[.pointer (some ⟨Bs, 0, none⟩)] (fun x : Nat × Int => #[.int .i64 (x.1 : Int), .int .i64 x.2]) (GoodN Bs) (fun _ _ _ => False) (fun _ _ => True) := by
  intro l J W hJ hG hY h0
  have HG := Lib.hid hG
  have H0 := Lib.hid h0
  have hc : W.cell? ⟨Bs, 0, none⟩ = some (.pointer none) := hG 0 W h0
  clear hY hJ hG h0
  have HL := Lib.hid (nilI_len W)
  refine callsIn_of_wp Try.func28 rfl trivial ?_ rfl
  simp only [Try.ntmps28, List.size_toArray, List.length_cons, List.length_nil, Nat.reduceAdd, Nat.reduceSub, Array.replicate_succ, Array.replicate_zero, List.push_toArray, List.append_toArray, List.nil_append, List.cons_append]
  gi_wp2
  gi_loopw [3] (fun i wr => i = .int .i64 0 ∧ wr = W) (fun _ _ => 0)
  case atStart => exact ⟨rfl, rfl⟩
  case round =>
    obtain ⟨rfl, rfl⟩ := hrel
    gi_wp2_with (refine ⟨trivial, ?_⟩; gi_at_call 16; refine (callsIn_wide.2 HL.out).mono ?_; rintro e w' ⟨rfl, rfl⟩)
    go_end0
    exact ⟨⟨_, rfl⟩, 0, H0.out, trivial⟩
end Go.Proofs.Ytekmboolfjicbaa
end
section
/-! SweepRounds: what lies beside the rounds and the row of what is wanted. -/
set_option maxRecDepth 20000
set_option linter.unusedSimpArgs false
set_option linter.unusedVariables false
namespace Go.Proofs.Ytekmboolfjicbaa
open Go.RowKit

theorem lt_of_some {w : World} {b : Nat} {o : Obj} (h : w.heap[b]? = some o) : b < w.heap.size := (Array.getElem?_eq_some_iff.1 h).1
theorem heap_alloc_new' (w : World) (o : Obj) : (w.alloc o).heap[w.heap.size]? = some o := World.alloc_heap_new w o
/-- The law's blocks: the box of more, the answer, the box of the rounds, the rounds, the box of what is wanted, its row; X: what else lies. -/
structure RJ (w W : World) (vb vw vt mv : Value) (T U : List Int) (X : List (Nat × Obj)) : Prop where
  below : Below w.heap.size w W
  b3 : W.heap[w.heap.size]? = some (.cells #[vb] 38 (0, 0))
  b4 : W.heap[w.heap.size + 1]? = some (.cells #[.bool false] 4 (0, 0))
  b5 : W.heap[w.heap.size + 2]? = some (.cells #[.pointer (some ⟨w.heap.size + 3, 0, none⟩)] 39 (0, 0))
  b7 : W.heap[w.heap.size + 4]? = some (.cells #[vw] 38 (0, 0))
  rn : RnI W (w.heap.size + 3) 42 [] vt mv T
  ow : W.ownsRow (w.heap.size + 5) 3 1 vw U.length (encI U)
  far : ∀ k, vw.ownBlock = some k → ¬ footR (w.heap.size + 3) vt mv k
  hi : ∀ k, footR (w.heap.size + 3) vt mv k → k = w.heap.size + 3 ∨ w.heap.size + 5 ≤ k
  kp : ∀ b o, (b, o) ∈ X → W.heap[b]? = some o ∧ ¬ footR (w.heap.size + 3) vt mv b ∧ vw.ownBlock ≠ some b ∧ w.heap.size + 5 ≤ b
section
variable {w W W2 : World} {vb vw vt mv : Value} {T U : List Int} {X : List (Nat × Obj)}
theorem RJ.size (h : RJ w W vb vw vt mv T U X) : w.heap.size + 5 ≤ W.heap.size := lt_of_block h.b7
theorem RJ.keep (h : RJ w W vb vw vt mv T U X) (hb : Below w.heap.size w W2) (h3 : W2.heap[w.heap.size]? = W.heap[w.heap.size]?) (h4 : W2.heap[w.heap.size + 1]? = W.heap[w.heap.size + 1]?) (h5 : W2.heap[w.heap.size + 2]? = W.heap[w.heap.size + 2]?) (h7 : W2.heap[w.heap.size + 4]? = W.heap[w.heap.size + 4]?)
    (hf : ∀ k, footR (w.heap.size + 3) vt mv k → W2.heap[k]? = W.heap[k]?) (ho : ∀ k, vw.ownBlock = some k → W2.heap[k]? = W.heap[k]?) (hx : ∀ b o, (b, o) ∈ X → W2.heap[b]? = W.heap[b]?) : RJ w W2 vb vw vt mv T U X :=
  ⟨hb, h3.trans h.b3, h4.trans h.b4, h5.trans h.b5, h7.trans h.b7, h.rn.keep hf, own_other h.ow ho, h.far, h.hi, fun b o hm => ⟨(hx b o hm).trans (h.kp b o hm).1, (h.kp b o hm).2⟩⟩
theorem RJ.up (h : RJ w W vb vw vt mv T U X) (hb : Below W.heap.size W W2) : RJ w W2 vb vw vt mv T U X := by
  have hz := h.size
  have hbw : Below w.heap.size w W2 := h.below.trans (hb.mono h.below.size)
  exact h.keep hbw (hb.block _ (by omega)) (hb.block _ (by omega)) (hb.block _ (by omega)) (hb.block _ (by omega)) (fun k hk => hb.block k (h.rn.lt k hk)) (fun k hk => hb.block k (own_lt h.ow hk)) (fun b o hm => hb.block b (lt_of_some (h.kp b o hm).1))
/-- Worlds in which only what is no cells changes. -/
theorem RJ.free (h : RJ w W vb vw vt mv T U X) {B : Nat} (hB : w.heap.size ≤ B) (hm : ∀ mb, mv = .map (some mb) → mb < B) (hX : ∀ b o, (b, o) ∈ X → o.isCells = true) {row : Option Nat} (hg : W.grownBy W2 row) (hr : ∀ r, row = some r → B ≤ r ∧ ∃ o : Obj, W.heap[r]? = some o ∧ o.isCells = false) : RJ w W2 vb vw vt mv T U X := by
  have hc : ∀ k o, W.heap[k]? = some o → Obj.isCells o = true → W2.heap[k]? = W.heap[k]? := fun k o hk ho => hg.block k (lt_of_some hk) (fun e => by
    obtain ⟨_, o2, ho2, hcell⟩ := hr k e.symm
    rw [hk] at ho2; cases ho2; rw [ho] at hcell; cases hcell)
  refine h.keep ?_ (hc _ _ h.b3 rfl) (hc _ _ h.b4 rfl) (hc _ _ h.b5 rfl) (hc _ _ h.b7 rfl) (fun k hk => ?_) (fun k hk => ?_) (fun b o hm => hc b o (h.kp b o hm).1 (hX b o hm))
  · exact h.below.trans ⟨hg.os, hg.tape, hg.output, hg.size, fun k hk => hg.block k (Nat.lt_of_lt_of_le hk h.below.size) (fun e => by have := (hr k e.symm).1; omega)⟩
  · rcases hk with rfl | e | e
    · exact hc _ _ h.rn.hd rfl
    · obtain ⟨cur, hcur⟩ := own_head h.rn.row e
      exact hc _ _ hcur rfl
    · have h1 := hm k e
      exact hg.block k (h.rn.lt k (.inr (.inr e))) (fun e2 => by have := (hr k e2.symm).1; omega)
  · obtain ⟨cur, hcur⟩ := own_head h.ow hk
    exact hc _ _ hcur rfl
/-- One thing is come to. -/
theorem RJ.see (h : RJ w W vb vw vt mv T U X) {x : Int} (hs : SeeI W W2 (w.heap.size + 3) 42 [] vt mv T x) : ∃ vt' mv', RJ w W2 vb vw vt' mv' (addK T x) U X ∧ (mv = .map none ∨ mv' = mv) ∧ ∀ B, (∀ mb, mv = .map (some mb) → mb < B) → KeepsFrom B W W2 := by
  obtain ⟨vt', mv', hr, hc, hmv⟩ := hs
  have hz := h.size
  have hn : ∀ k, w.heap.size + 3 ≠ k → k < w.heap.size + 5 → ¬ footR (w.heap.size + 3) vt mv k := fun k h1 h2 hf => (h.hi k hf).elim (fun e => h1 e.symm) (fun e => by omega)
  refine ⟨vt', mv', ⟨?_, (hc.block _ (by omega) (hn _ (by omega) (by omega))).trans h.b3, (hc.block _ (by omega) (hn _ (by omega) (by omega))).trans h.b4, (hc.block _ (by omega) (hn _ (by omega) (by omega))).trans h.b5, (hc.block _ (by omega) (hn _ (by omega) (by omega))).trans h.b7, hr,
    own_other h.ow fun k hk => hc.block k (own_lt h.ow hk) (h.far k hk), fun k hk => hc.out (own_lt h.ow hk) (h.far k hk), fun k hk => (hc.fresh k hk).elim (h.hi k) (fun e => .inr (by omega)), fun b o hm => ?_⟩, hmv, fun B hB => ⟨hc.size, fun k o hk ho hcell => ?_⟩⟩
  · exact hc.below h.below h.below.size fun k hk => by have := h.hi k hk; omega
  · obtain ⟨k1, k2, k3, k4⟩ := h.kp b o hm
    exact ⟨(hc.block b (lt_of_some k1) k2).trans k1, hc.out (lt_of_some k1) k2, k3, k4⟩
  · refine (hc.block k (lt_of_some ho) ?_).trans ho
    rintro (rfl | e | e)
    · rw [h.rn.hd] at ho; cases ho; cases hcell
    · obtain ⟨cur, hcur⟩ := own_head h.rn.row e
      rw [hcur] at ho; cases ho; cases hcell
    · have := hB k e; omega
/-- One number more is wanted. -/
theorem RJ.push (h : RJ w W vb vw vt mv T U X) {x : Int} {w3 w4 : World} {gN cap : Nat} {vw' : Value} (hv : vw' = .slice (some ⟨gN, 0, none⟩) (U.length + 1) cap) (hb : Below W.heap.size W w3) (hown : w4.ownsRow (w.heap.size + 5) 3 1 vw' (U.length + 1) (encI U ++ [.int .i64 x])) (hgrow : w3.grownBy w4 vw.ownBlock) (hat : vw.ownBlock = some gN ∨ gN = w3.heap.size) :
    w4.cell? ⟨w.heap.size + 4, 0, none⟩ = some vw ∧ w4.frozen? ⟨w.heap.size + 4, 0, none⟩ = false ∧ RJ w (w4.setCell ⟨w.heap.size + 4, 0, none⟩ vw') vb vw' vt mv T (U ++ [x]) X ∧ ∀ B, KeepsFrom B W (w4.setCell ⟨w.heap.size + 4, 0, none⟩ vw') := by
  have hz := h.size
  have h3 := h.up hb
  have hz3 := h3.size
  have hlow : ∀ k, k < w.heap.size + 5 → w4.heap[k]? = w3.heap[k]? := fun k hk => hgrow.block k (by omega) (fun e => by have := own_ge h.ow e.symm; omega)
  have hv0 : vw'.ownBlock = some gN := by rw [hv]; rfl
  have h7 := (hlow _ (by omega)).trans h3.b7
  have ho : ∀ k, k ≠ w.heap.size + 4 → (w4.setCell ⟨w.heap.size + 4, 0, none⟩ vw').heap[k]? = w4.heap[k]? := fun k hk => heap_setCell_other _ _ _ _ hk
  have hgN : ∀ k, k < w3.heap.size → vw.ownBlock ≠ some k → gN ≠ k := fun k hk hn e => hat.elim (fun e2 => hn (by rw [e2, e])) (fun e2 => by omega)
  have hgf : ∀ k, footR (w.heap.size + 3) vt mv k → vw.ownBlock ≠ some k := fun k hk e => h.far k e hk
  refine ⟨?_, frozen_of_row _ _ 0 _ _ h7, ⟨?_, ?_, ?_, ?_, heap_setCell_same w4 _ 0 _ _ vw' h7, ?_, ?_, ?_, h.hi, ?_⟩, fun B => ⟨?_, fun k o hk hko hcell => ?_⟩⟩
  · rw [cell_of_row _ _ 0 _ _ _ h7]; rfl
  · refine h3.below.trans ⟨hgrow.os, hgrow.tape, hgrow.output, by simpa using hgrow.size, fun k hk => (ho k (by omega)).trans (hlow k (by omega))⟩
  · exact ((ho _ (by omega)).trans (hlow _ (by omega))).trans h3.b3
  · exact ((ho _ (by omega)).trans (hlow _ (by omega))).trans h3.b4
  · exact ((ho _ (by omega)).trans (hlow _ (by omega))).trans h3.b5
  · refine h3.rn.keep fun k hk => (ho k fun e => ?_).trans (hgrow.block k (h3.rn.lt k hk) (fun e => hgf k hk e.symm))
    have := h.hi k hk
    omega
  · rw [show (U ++ [x]).length = U.length + 1 by simp, show encI (U ++ [x]) = encI U ++ [.int .i64 x] by simp [encI]]
    exact own_other hown fun k hk => ho k (by have := own_ge hown hk; omega)
  · intro k hk hf
    rw [hv0] at hk
    cases hk
    exact hgN _ (h3.rn.lt _ hf) (hgf _ hf) rfl
  · intro b o hm
    obtain ⟨k1, k2, k3, k4⟩ := h3.kp b o hm
    refine ⟨((ho b (by omega)).trans (hgrow.block b (lt_of_some k1) (fun e => k3 e.symm))).trans k1, k2, fun e => ?_, k4⟩
    rw [hv0] at e
    cases e
    exact hgN _ (lt_of_some k1) k3 rfl
  · have := hb.size; have := hgrow.size; simp; omega
  · have hk3 := (hb.block k (lt_of_some hko)).trans hko
    have hk4 : w4.heap[k]? = some o := (hgrow.block k (lt_of_some hk3) (fun e => by
      obtain ⟨cur, hcur⟩ := own_head h3.ow e.symm
      rw [hk3] at hcur; cases hcur; cases hcell)).trans hk3
    refine (ho k fun e => ?_).trans hk4
    rw [e, h7] at hk4; cases hk4; cases hcell
/-- The count's box goes on. -/
theorem RJ.count {b : Nat} {i : Int} (h : RJ w W vb vw vt mv T U ((b, .cells #[.int .i64 i] 3 (0, 0)) :: X)) (hX : ∀ o, (b, o) ∉ X) (j : Int) :
    W.cell? ⟨b, 0, none⟩ = some (.int .i64 i) ∧ W.frozen? ⟨b, 0, none⟩ = false ∧ RJ w (W.setCell ⟨b, 0, none⟩ (.int .i64 j)) vb vw vt mv T U ((b, .cells #[.int .i64 j] 3 (0, 0)) :: X) ∧ ∀ B, KeepsFrom B W (W.setCell ⟨b, 0, none⟩ (.int .i64 j)) := by
  obtain ⟨k1, k2, k3, k4⟩ := h.kp b _ (List.mem_cons_self ..)
  have ho : ∀ k, k ≠ b → (W.setCell ⟨b, 0, none⟩ (.int .i64 j)).heap[k]? = W.heap[k]? := fun k hk => heap_setCell_other _ _ _ _ hk
  have hs := heap_setCell_same W b 0 _ _ (.int .i64 j) k1
  refine ⟨by rw [cell_of_row _ _ 0 _ _ _ k1]; rfl, frozen_of_row _ _ 0 _ _ k1, ⟨?_, (ho _ (by omega)).trans h.b3, (ho _ (by omega)).trans h.b4, (ho _ (by omega)).trans h.b5, (ho _ (by omega)).trans h.b7, h.rn.keep fun k hk => ho k fun e => k2 (e ▸ hk), own_other h.ow fun k hk => ho k fun e => k3 (e ▸ hk), h.far, h.hi, ?_⟩, fun B => ⟨by simp, fun k o hk hko hcell => ?_⟩⟩
  · exact h.below.trans ⟨rfl, rfl, rfl, by simp, fun k hk => ho k (by omega)⟩
  · intro b2 o hm
    rcases List.mem_cons.1 hm with e | hm
    · cases e
      exact ⟨hs, k2, k3, k4⟩
    · obtain ⟨m1, m2, m3, m4⟩ := h.kp b2 o (by simp [hm])
      exact ⟨(ho b2 fun e => hX o (e ▸ hm)).trans m1, m2, m3, m4⟩
  · refine (ho k fun e => ?_).trans hko
    rw [e, k1] at hko; cases hko; cases hcell
/-- One block more lies beside it. -/
theorem RJ.more (h : RJ w W vb vw vt mv T U X) (o : Obj) : RJ w (W.alloc o) vb vw vt mv T U ((W.heap.size, o) :: X) := by
  have h2 := h.up (alloc_below W o)
  have hz := h.size
  refine ⟨h2.below, h2.b3, h2.b4, h2.b5, h2.b7, h2.rn, h2.ow, h2.far, h2.hi, fun b o2 hm => ?_⟩
  rcases List.mem_cons.1 hm with e | hm
  · cases e
    exact ⟨heap_alloc_new' W o, fun hf => Nat.lt_irrefl _ (h.rn.lt _ hf), fun e => Nat.lt_irrefl _ (own_lt h.ow e), by omega⟩
  · exact h2.kp b o2 hm
end
end Go.Proofs.Ytekmboolfjicbaa
end
section
/-! SweepRounds: amid the range. -/
set_option maxRecDepth 20000
set_option linter.unusedSimpArgs false
set_option linter.unusedVariables false
namespace Go.Proofs.Ytekmboolfjicbaa
open Go.RowKit

theorem rnI_same {w : World} {g : Nat} {ty : TypeId} {rest : List Value} {vt mv : Value} {T T2 : List Int} (h : RnI w g ty rest vt mv T) (h2 : AtI g T2 w) {i : Nat} {x : Int} (hx : T2[i]? = some x) : T[i]? = some x := by
  have hl := h.thg_len h2
  have hi : i < T.length := by
    rcases Nat.lt_or_ge i T2.length with h1 | h1
    · omega
    · rw [List.getElem?_eq_none h1] at hx; cases hx
  obtain ⟨ty2, rest2, vt2, mv2, hd, hr⟩ := h2
  rw [h.hd] at hd
  have e : vt = vt2 := by
    have h3 := Option.some.inj hd
    injection h3 with h4
    have h5 := congrArg Array.toList h4
    simp at h5
    exact h5.1
  subst e
  obtain ⟨y, hy⟩ : ∃ y, T[i]? = some y := ⟨T[i], List.getElem?_eq_getElem hi⟩
  obtain ⟨b, d, e⟩ := own_some h.row (by omega)
  subst e
  have r1 := h.row.cells (g := b) rfl i _ (flat1_get (fun x : Int => Value.int .i64 x) T i y hy)
  have r2 := hr.cells (g := b) rfl i _ (flat1_get (fun x : Int => Value.int .i64 x) T2 i x hx)
  rw [r1] at r2
  have : y = x := by injection r2 with h; injection h
  rw [hy, this]
section
variable {w W W2 : World} {vb vw vt mv : Value} {T U : List Int} {X Y : List (Nat × Obj)}
theorem RJ.sub (h : RJ w W vb vw vt mv T U X) (hs : ∀ p ∈ Y, p ∈ X) : RJ w W vb vw vt mv T U Y := ⟨h.below, h.b3, h.b4, h.b5, h.b7, h.rn, h.ow, h.far, h.hi, fun b o hm => h.kp b o (hs _ hm)⟩
end
/-- What lies besides: the count and the iterator's box. -/
def xs (bN bA : Nat) (S i : Nat) : List (Nat × Obj) := [(bN, .cells #[.int .i64 (i : Int)] 3 (0, 0)), (bA, .cells #[.pointer (some ⟨S + 3, 0, none⟩)] 39 (0, 0))]
/-- Amid the range. -/
def JR (w : World) (vb mv : Value) (a : List Int) (nb bN bA : Nat) (i : Nat) (W : World) : Prop := ∃ vw vt T, RJ w W vb vw vt mv T T (xs bN bA w.heap.size i) ∧ i ≤ T.length ∧ T.length ≤ 200 + i ∧ T.length ≤ 200 + nb ∧ ∀ x ∈ a, x ∈ T
section
variable {w W W2 : World} {vb mv : Value} {a : List Int} {nb bN bA i : Nat}
theorem JR.good (h : JR w vb mv a nb bN bA i W) (hnb : nb ≤ 200) : GoodI bA (w.heap.size + 3) i W := by
  obtain ⟨vw, vt, T, hJ, _, _, h3, _⟩ := h
  have hk := (hJ.kp bA (.cells #[.pointer (some ⟨w.heap.size + 3, 0, none⟩)] 39 (0, 0)) (by simp [xs])).1
  exact ⟨by rw [cell_of_row _ _ 0 _ _ _ hk]; rfl, T, hJ.rn.thg, by omega⟩
theorem JR.own {B : Nat} (hB : w.heap.size ≤ B) (hm : ∀ mb, mv = .map (some mb) → mb < B) : OwnFrom B (fun (i : Nat) W => JR w vb mv a nb bN bA i W) := by
  rintro i W W' row ⟨vw, vt, T, hJ, h1, h2, h3, h4⟩ hg hr
  exact ⟨vw, vt, T, hJ.free hB hm (fun b o hx => by simp [xs] at hx; rcases hx with ⟨_, rfl⟩ | ⟨_, rfl⟩ <;> rfl) hg hr, h1, h2, h3, h4⟩
theorem EndI.own {B g : Nat} (i : Nat) : OwnFrom B (fun (_ : Unit) W => EndI g i W) := by
  rintro u W W' row ⟨T, h1, h2⟩ hg hr
  exact ⟨T, Thg.own 3 1 _ g B T W W' row h1 hg hr, h2⟩
end
theorem ItemI.own {B g : Nat} (i : Nat) (x : Nat × Int) : OwnFrom B (fun (_ : Unit) W => ItemI g i x W) := by
  rintro u W W' row ⟨h0, T, h1, h2⟩ hg hr
  exact ⟨h0, T, Thg.own 3 1 _ g B T W W' row h1 hg hr, h2⟩
theorem keeps_below {B : Nat} {W W' : World} (h : Below W.heap.size W W') : KeepsFrom B W W' := ⟨h.size, fun k o _ ho _ => (h.block k (lt_of_some ho)).trans ho⟩
/-- See, amid the range. -/
theorem rj_see {w W : World} {vb vw vt mv : Value} {T : List Int} {X : List (Nat × Obj)} (h : RJ w W vb vw vt mv T T X) (hT : 0 < T.length) (hl : T.length ≤ 400) {B : Nat} (hm : ∀ mb, mv = .map (some mb) → mb < B) (y : Int) (hy : I64 y) (u : World) (hb : Below W.heap.size W u) :
    Calls Try.prog 11 #[.pointer (some ⟨w.heap.size + 3, 0, none⟩), .int .i64 y] u fun e w' => e = .returned (.bool (!hasK T y)) ∧ ∃ vt', RJ w w' vb vw vt' mv (addK T y) T X ∧ KeepsFrom B W w' := by
  have h1 := h.up hb
  refine (rnI_see h1.rn (by decide) (by omega) y hy).mono ?_
  rintro e w' ⟨rfl, hs⟩
  obtain ⟨vt', mv', h2, h3, h4⟩ := h1.see hs
  have e : mv' = mv := by
    rcases h3 with e | e
    · rcases h.rn.map with ⟨e2, _⟩ | ⟨mb, e2, _⟩
      · rw [e2] at hT; exact absurd hT (by decide)
      · rw [e] at e2; cases e2
    · exact e
  subst e
  exact ⟨rfl, vt', h2, (keeps_below hb).trans (h4 B hm)⟩
theorem jr_next {w W : World} {vb vw vt mv : Value} {a T : List Int} {nb bN j : Nat} (h : RJ w W vb vw vt mv T T (xs bN (bN + 1) w.heap.size j)) (h1 : j + 1 ≤ T.length) (h2 : T.length ≤ 200 + (j + 1)) (h3 : T.length ≤ 200 + nb) (h4 : ∀ x ∈ a, x ∈ T) :
    W.cell? ⟨bN, 0, none⟩ = some (.int .i64 (j : Int)) ∧ W.frozen? ⟨bN, 0, none⟩ = false ∧ JR w vb mv a nb bN (bN + 1) (j + 1) (W.setCell ⟨bN, 0, none⟩ (.int .i64 ((j : Int) + 1))) ∧ ∀ B, KeepsFrom B W (W.setCell ⟨bN, 0, none⟩ (.int .i64 ((j : Int) + 1))) := by
  obtain ⟨k1, k2, k3, k4⟩ := RJ.count (X := [(bN + 1, .cells #[.pointer (some ⟨w.heap.size + 3, 0, none⟩)] 39 (0, 0))]) h (by intro o hm; simp at hm) ((j : Int) + 1)
  exact ⟨k1, k2, ⟨vw, vt, T, k3, h1, h2, h3, h4⟩, k4⟩
/-- Rounds of words at a fresh block. -/
def WordsJ (w u : World) (T : List (List UInt8)) : Prop := Below w.heap.size w u ∧ ∃ vt mv, RnS u w.heap.size 53 [] vt mv T ∧ ∀ k, footR w.heap.size vt mv k → w.heap.size ≤ k
theorem words_new (w : World) : Calls Try.prog 14 #[.pointer (some ⟨w.heap.size, 0, none⟩), .string ⟨#[97]⟩] (w.alloc (.cells #[.slice none 0 0, .map none] 53)) fun e w' => e = .returned (.bool true) ∧ WordsJ w w' [[97]] := by
  have h0 : RnS (w.alloc (.cells #[.slice none 0 0, .map none] 53)) w.heap.size 53 [] (.slice none 0 0) (.map none) [] := ⟨heap_alloc_new w _, World.ownsRow_nil _ _ _ _, .inl ⟨rfl, rfl⟩, List.nodup_nil, fun x hx => by cases hx⟩
  refine (rnS_see h0 (by decide) (by decide) [97] (by decide)).mono ?_
  rintro e w' ⟨rfl, vt, mv, hr, hc⟩
  have hF : ∀ k, footR w.heap.size (.slice none 0 0) (.map none) k → w.heap.size ≤ k := by
    rintro k (rfl | e | e)
    · exact Nat.le_refl _
    · cases e
    · cases e
  exact ⟨rfl, hc.below (alloc_below w _) (by simp) hF, vt, mv, hr, hc.high (by simp) hF⟩
theorem WordsJ.again {w u : World} (h : WordsJ w u [[97]]) : Calls Try.prog 14 #[.pointer (some ⟨w.heap.size, 0, none⟩), .string ⟨#[97]⟩] u fun e w' => e = .returned (.bool false) ∧ WordsJ w w' [[97]] := by
  obtain ⟨hb, vt, mv, hr, hF⟩ := h
  refine (rnS_see hr (by decide) (by decide) [97] (by decide)).mono ?_
  rintro e w' ⟨rfl, vt', mv', hr', hc⟩
  exact ⟨rfl, hc.below hb hb.size hF, vt', mv', hr', hc.high hb.size hF⟩
theorem WordsJ.place {w u : World} (h : WordsJ w u [[97]]) : Calls Try.prog 15 #[.pointer (some ⟨w.heap.size, 0, none⟩), .string ⟨#[98]⟩] u fun e w' => e = .returned (.tuple #[.int .i64 0, .bool false]) ∧ w' = u := by
  obtain ⟨hb, vt, mv, hr, hF⟩ := h
  exact rnS_place hr [98] (by decide)
theorem below_own (V : World) : OwnFrom V.heap.size (fun (j : Nat) W => j = 0 ∧ Below V.heap.size V W) := by
  rintro j W W' row ⟨h0, h⟩ hg hr
  exact ⟨h0, h.trans ⟨hg.os, hg.tape, hg.output, hg.size, fun k hk => hg.block k (Nat.lt_of_lt_of_le hk h.size) (fun e => by have := (hr k e.symm).1; omega)⟩⟩
theorem gen_act {F : Fence} {n : Nat} {P : Program} {c : Code} {Q : Exit → Act → World → Prop} {a : Act} {w : World} (h : ∀ A : Act, A = a → c.wpIn F n P Q A w) : c.wpIn F n P Q a w := h a rfl
/-- A frame with what a round is told. -/
def setF (A : Act) (x : Nat × Int) : Act := { tmps := (((A.tmps.setIfInBounds 72 (.int .i64 (x.1 : Int))).setIfInBounds 73 (.int .i64 x.2)).setIfInBounds 12 (.int .i64 (x.1 : Int))).setIfInBounds 13 (.int .i64 x.2), defers := [] }
end Go.Proofs.Ytekmboolfjicbaa
end
