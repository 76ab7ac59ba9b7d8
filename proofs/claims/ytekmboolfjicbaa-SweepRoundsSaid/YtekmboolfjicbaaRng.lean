/- A range over a function that looks at the world anew ahead of each round: what the loop's end is told comes from that world. -/
import Derived.Test.YtekmboolfjicbaaBytes
import Derived.RangeFuncNested
import Derived.RangeFuncBound
import Derived.RangeFuncCalls
import Derived.RangeFuncLeaves
import Derived.RangeFuncBox
namespace Go.Proofs.Ytekmboolfjicbaa
open Go.RowKit

section
variable {F : Fence} {n : Nat} {P : Program}
/-- An iterator by a count of its rounds: J is the caller's; Good: what the iterator leans on; Item: what it tells next; End: where it ends. -/
def SeqJ {α : Type} (F : Fence) (n : Nat) (P : Program) (gf : Nat) (lb : Array Value) (encs : α → Array Value) (Good : Nat → World → Prop) (Item : Nat → α → World → Prop) (End : Nat → World → Prop) : Prop :=
  ∀ (l : Nat) (J : Nat → World → Prop) (W : World), AbidesFrom W.heap.size J → (∀ i W1, J i W1 → Good i W1) →
    (∀ i x W1, J i W1 → Item i x W1 → YieldAt F (n - 1) P l (encs x) W1 fun e W' => e = .returned (.bool true) ∧ J (i + 1) W') →
    J 0 W → CallsIn F n P gf (#[.func (.yield l) #[] #[]] ++ lb) W fun e W' => (∃ v, e = .returned v) ∧ ∃ i, J i W' ∧ End i W'
theorem wpIn_rangeJ {α : Type} {g : Operand} {ps : Array Tmp} {assign body : Code} {Q : Exit → Act → World → Prop} {a : Act} {w : World}
    (hro : F.round = none) (h1 : 1 ≤ n) {gf : Nat} {lb : Array Value} (hg : a.eval g = .func (.func gf) #[] lb) (hFg : F.fn gf) (eg : ∀ args w, (callFunc gf args).run P w = .ok (.enter gf args) w)
    {encs : α → Array Value} {Good : Nat → World → Prop} {Item : Nat → α → World → Prop} {End : Nat → World → Prop} (hseq : SeqJ F (n - 1) P gf lb encs Good Item End) (hps : ∀ x, (encs x).size = ps.size)
    (I : Nat → World → Prop) (hI : OwnFrom w.heap.size I) (hG : ∀ i W, I i W → Good i W) (hE : ∀ i, OwnFrom w.heap.size (fun (_ : Unit) W => End i W)) (h0 : I 0 w)
    (Ax : Nat → α → Act → World → Prop) (hAx : ∀ i x a', OwnFrom w.heap.size (fun (_ : Unit) W => Ax i x a' W))
    (hassign : ∀ (l i : Nat) (x : α) (W : World) (K : Act → World → Prop), I i W → Item i x W → (∀ a' W', KeepsFrom w.heap.size W W' → Ax i x a' W' → K a' W') →
      assign.wpIn (F.inRound l) (n - 1 - 1) P (Exit.then K (fun _ _ _ => False)) { tmps := (ps.zip (encs x)).foldl (fun t (p, v) => t.setIfInBounds p v) a.tmps, defers := [] } W)
    (hbody : ∀ (l i : Nat) (x : α) (a' : Act) (W : World), w.heap.size ≤ l → Ax i x a' W → body.wpIn (F.inRound l) (n - 1 - 1) P (fun e _ W' => e = .normal ∧ KeepsFrom w.heap.size W W' ∧ I (i + 1) W') a' W)
    (hdone : ∀ (D i : Nat) (W : World), w.heap.size ≤ D → I i W → End i W → W.heap[D]? = some (.deferred (some [])) → Q .normal { a with defers := { target := .collected D, args := #[] } :: a.defers } W) :
    (Code.rangeFunc g ps assign body).wpIn F n P Q a w := by
  refine wpIn_rangeFunc fun fn hfn => ?_
  rw [hro]
  obtain ⟨rec, hrec⟩ : ∃ rec : LoopState → Loop, rec = fun st => { state := st, pending := none, fn, tmps := a.tmps, params := ps, assign, body, defers := w.heap.size } := ⟨_, rfl⟩
  have hps2 : ∀ st x, (encs x).size = (rec st).params.size := fun st x => by rw [hrec]; exact hps x
  have hst : ∀ st, (rec st).state = st := fun st => by rw [hrec]
  have hpe : ∀ st, (rec st).pending = none := fun st => by rw [hrec]
  have hup : ∀ s t, { rec s with state := t } = rec t := fun s t => by rw [hrec]
  have hup2 : ∀ s t, { rec s with state := t, pending := none } = rec t := fun s t => by rw [hrec]
  let W1 := (w.alloc (.deferred (some []))).alloc (.loop (rec .ready))
  have hL1 : W1.heap[w.heap.size + 1]? = some (.loop (rec .ready)) := by
    have := World.alloc_heap_new (w.alloc (.deferred (some []))) (.loop (rec .ready)); rwa [World.size_alloc] at this
  have hK1 : W1.heap[w.heap.size]? = some (.deferred (some [])) := (Below.heap_alloc _ _ _ (by simp)).trans (World.alloc_heap_new w _)
  have hz1 : W1.heap.size = w.heap.size + 2 := by show ((w.alloc _).alloc _).heap.size = _; simp
  refine ⟨w.heap.size + 1, [{ target := .collected w.heap.size, args := #[] }], W1, { target := .fn (.func gf) lb, args := #[.func (.yield (w.heap.size + 1)) #[] #[]] }, W1, gf,
    #[.func (.yield (w.heap.size + 1)) #[] #[]] ++ lb, W1, ?_, ?_, ?_, ?_, fun _ => h1, ?_⟩
  · show _ = Result.ok _ ((w.alloc (.deferred (some []))).alloc (.loop (rec .ready)))
    rw [hrec]; exact run_enterLoop_outer _ _ _ _ _
  · simp only [resolve, hg]
    simp [go_sem]
  · intro f' hf'; simp [Target.leads] at hf'; subst hf'; exact hFg
  · simp [invoke, go_sem, eg]
  · refine (hseq (w.heap.size + 1) (fun i W => I i W ∧ W.heap[w.heap.size + 1]? = some (.loop (rec .ready)) ∧ W.heap[w.heap.size]? = some (.deferred (some []))) W1 ?_ (fun i W h => hG i W h.1) ?_ ⟨hI.alloc _ (hI.alloc _ h0), hL1, hK1⟩).mono ?_
    · intro i A B row hs hg' hr
      have hr2 : ∀ r, row = some r → w.heap.size ≤ r ∧ ∃ o : Obj, A.heap[r]? = some o ∧ o.isCells = false := fun r e => by
        obtain ⟨hB, o, ho, hw⟩ := hr r e
        exact ⟨by omega, o, ho, Obj.not_cells_of_walk hw⟩
      have hr3 : ∀ r, row = some r → w.heap.size + 2 ≤ r := fun r e => by have := (hr r e).1; omega
      have hk : ∀ k, k < w.heap.size + 2 → k < A.heap.size → B.heap[k]? = A.heap[k]? := fun k hk hA => hg'.block k hA (fun e => by have := hr3 k e.symm; omega)
      exact ⟨hI i A B row hs.1 hg' hr2, (hk _ (by omega) (Array.getElem?_eq_some_iff.1 hs.2.1).1).trans hs.2.1, (hk _ (by omega) (Array.getElem?_eq_some_iff.1 hs.2.2).1).trans hs.2.2⟩
    · rintro i x W ⟨hi, hl, hk⟩ hit
      refine ⟨_, _, _, _, run_yield (P := P) (args := encs x) hl (hps2 _ x), ?_⟩
      have hrt : (rec .ready).fn = fn ∧ (rec .ready).tmps = a.tmps ∧ (rec .ready).params = ps ∧ (rec .ready).assign = assign ∧ (rec .ready).body = body := by rw [hrec]; exact ⟨rfl, rfl, rfl, rfl, rfl⟩
      obtain ⟨t1, t2, t3, t4, t5⟩ := hrt
      rw [t1, t2, t3, t4, t5]
      refine roundIn_of_wpIn hfn (hassign _ i x W _ hi hit ?_)
      intro a' Wa hkfa hax
      replace hl := hkfa.same _ _ (by omega) hl rfl
      replace hk := hkfa.same _ _ (Nat.le_refl _) hk rfl
      have hlt : w.heap.size + 1 < Wa.heap.size := (Array.getElem?_eq_some_iff.1 hl).1
      refine ⟨_, run_beginRound hl (hst _), ?_⟩
      rw [hup]
      have hl2 : (Wa.putObj (w.heap.size + 1) (.loop (rec .busy))).heap[w.heap.size + 1]? = some (.loop (rec .busy)) := World.putObj_heap_same hlt
      have hk2 : (Wa.putObj (w.heap.size + 1) (.loop (rec .busy))).heap[w.heap.size]? = some (.deferred (some [])) := (World.putObj_heap_other (by omega)).trans hk
      refine wpIn_mono (hbody _ i x a' _ (by omega) ((hAx i x a').putObj (s := ()) _ hax (by omega) hl rfl)) ?_
      rintro e a3 W3 ⟨rfl, hk3, hi3⟩
      have hl3 := hk3.same _ _ (by omega) hl2 rfl
      have hr := run_endRound (P := P) none hl3
      rw [show (if (none : Option Code).isNone = true then LoopState.ready else LoopState.done) = LoopState.ready from rfl, hup2] at hr
      exact ⟨_, _, hr, rfl, hI.putObj _ hi3 (by omega) hl3 rfl, World.putObj_heap_same (Array.getElem?_eq_some_iff.1 hl3).1, (World.putObj_heap_other (by omega)).trans (hk3.same _ _ (Nat.le_refl _) hk2 rfl)⟩
    · rintro e W2 ⟨⟨v, rfl⟩, i, ⟨hi, hl, hk⟩, hend⟩
      have hr := run_endLoop (P := P) hl (by rw [hst]; simp)
      rw [hpe] at hr
      exact ⟨none, _, hr, hdone _ i _ (Nat.le_refl _) (hI.putObj _ hi (by omega) hl rfl) ((hE i).putObj (s := ()) _ hend (by omega) hl rfl) ((World.putObj_heap_other (by omega)).trans hk)⟩
end
end Go.Proofs.Ytekmboolfjicbaa
