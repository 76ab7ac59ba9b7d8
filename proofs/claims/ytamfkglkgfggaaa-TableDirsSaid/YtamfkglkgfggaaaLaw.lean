/- What the rows of all these laws share. -/
import Derived.Test.YtamfkglkgfggaaaRows
import Derived.Test.YtamfkglkgfggaaaLBack0
import Derived.Deep.Slices
import Derived.ProofKit
import Derived.OpenShut
import Derived.ChangeSame
import Derived.SizedLaws
import Derived.Carry
import Derived.Lib.SmallJoins
namespace Go.Proofs.Ytamfkglkgfggaaa
open Go.ChangeShapes Go.WideShapes Go.ChangeAt Go.RowKit

theorem own : ownKnob Try.prog.godebug = none := by kernel_rfl
theorem laidOut : laidOutB Try.prog = true := by kernel_rfl
theorem cells3 : Try.prog.cellsOf 3 = 1 := by kernel_rfl
theorem bytes3 : Try.prog.bytesOf 3 = 8 := by kernel_rfl
theorem cells5 : Try.prog.cellsOf 5 = 1 := by kernel_rfl
theorem bytes5 : Try.prog.bytesOf 5 = 1 := by kernel_rfl
theorem i64_of {n : Int} (h : (Lit.int .i64 n).wf = true) : -9223372036854775808 ≤ n ∧ n ≤ 9223372036854775807 := by
  simp only [Lit.wf, Bool.and_eq_true, decide_eq_true_eq] at h
  exact h
structure Fit (p : Option Addr) (n c : Nat) : Prop where
  cap : n ≤ c
  nil_ : p = none → c = 0
/-- Ints that came in. -/
def Zs (w : World) (p : Option Addr) (n : Nat) (z : Nat → Int) : Prop := 0 < n → ∃ b o, p = some ⟨b, o, none⟩ ∧ b < w.heap.size ∧ ∀ r, r < n → w.cell? ⟨b, o + r, none⟩ = some (.int .i64 (z r)) ∧ -9223372036854775808 ≤ z r ∧ z r ≤ 9223372036854775807


section
variable {H : Type} {enc : TypeId × Value → H}

/-- A call that leaves all that was there as it was meets the row's post. -/
theorem law_post {P : Program} {f : Func} {s : ChangeSpec} {apart fresh handsOn : Bool} {W W' : World} {args : Array Value} {v : Value} {ds gs : List (DataW H)} {before pa pv : List MemPlace}
    (hW : DataW.Whole enc P f.params.toList s.vars apart W args.toList ds gs before)
    (hres : ∀ (b : Nat) (sp : Nat → Bool) (hd : Bool), DataW.TrodAll enc P W' b sp hd f.resultTypes.toList (v.resultList f.resultTypes.size) (s.fn H (ds ++ gs)).results [])
    (hargs : DataW.TrodAll enc P W' 0 (fun b => decide (b < W.heap.size)) true f.params.toList args.toList (s.fn H (ds ++ gs)).args pa)
    (hvars : DataW.TrodVars enc P W' (fun b => decide (b < W.heap.size)) s.vars (s.fn H (ds ++ gs)).vars pv)
    (hps : before = pa ++ pv) (hb : Below W.heap.size W W') : s.post enc P f apart fresh handsOn false W args v W' :=
  ⟨ds, gs, before, [], pa, pv, hW, hres _ _ _, hargs, hvars, World.keptBut_mono (fun p hp => ⟨hp, .inr (List.mem_append.1 (hps ▸ hp))⟩) (hb.frame (· ∈ before)), fun h => by cases h⟩

/-- A slice of ints that came in. -/
theorem open_zs {W : World} {base : Nat} {v : Value} {d : DataW H} {p : List MemPlace} (hval : Value.okWide Try.prog W .any base 45 v) (h : DataW.Trod enc Try.prog W 0 (fun _ => true) true 45 v d p) :
    ∃ (a : Option Addr) (n c : Nat) (z : Nat → Int), v = .slice a n c ∧ Zs W a n z ∧ n ≤ 9223372036854775807 := by
  obtain ⟨a1, len, cap, rfl⟩ := okWide_slice Try.underlying45 hval
  obtain ⟨fuel, hf⟩ := h
  rcases open_ints Try.underlying45 Try.underlying3 cells3 hf with ⟨hcs, _⟩ | ⟨a, len', cap', zs, hcs, _, hl, hm, hz, hx, hcell, hwz⟩
  · simp [Value.cells] at hcs
    obtain ⟨rfl, rfl, rfl⟩ := hcs
    exact ⟨none, 0, 0, fun _ => 0, rfl, fun h => absurd h (Nat.lt_irrefl 0), by omega⟩
  · simp [Value.cells] at hcs
    obtain ⟨rfl, rfl, rfl⟩ := hcs
    simp only [if_true] at hz
    refine ⟨_, _, _, fun r => zs.getD r 0, rfl, ?_, by unfold maxLen at hm; omega⟩
    intro hn
    obtain ⟨b, o, sp⟩ := a
    obtain rfl : sp = none := by simpa [Addr.add] using World.cell?_spot (hcell 0 (by omega))
    refine ⟨b, o, rfl, World.block_lt_of_cell? W _ (hcell 0 (by omega)), fun r hr => ?_⟩
    have h1 := hcell r (by omega)
    rw [Go.WideShapes.add_plain] at h1
    have h2 : (Lit.int .i64 (zs.getD r 0)).wf = true := by
      rw [List.getD_eq_getElem?_getD, List.getElem?_eq_getElem (by omega)]
      exact hwz _ (List.getElem_mem _)
    simp only [Lit.wf, Bool.and_eq_true, decide_eq_true_eq] at h2
    exact ⟨h1, h2.1, h2.2⟩
set_option maxRecDepth 100000 in
theorem open_bys {W : World} {base : Nat} {v : Value} {d : DataW H} {p : List MemPlace} (hval : Value.okWide Try.prog W .any base 35 v) (h : DataW.Trod enc Try.prog W 0 (fun _ => true) true 35 v d p)
    (hsz : ∀ elems spare, d = .slice elems spare → (elems.length + spare.length) * Try.prog.bytesOf 5 ≤ reachBytes) :
    ∃ (a : Option Addr) (n c : Nat) (bs : List Nat), v = .slice a n c ∧ Bys W a n bs ∧ Fit a n c ∧ c ≤ 140737488351232 := by
  obtain ⟨a1, len, cap, rfl⟩ := okWide_slice Try.underlying35 hval
  obtain ⟨fuel, hf⟩ := h
  rcases open_ints Try.underlying35 Try.underlying5 cells5 hf with ⟨hcs, _⟩ | ⟨a, len', cap', zs, hcs, _, hl, hm, hz, hx, hcell, hwz⟩
  · simp [Value.cells] at hcs
    obtain ⟨rfl, rfl, rfl⟩ := hcs
    exact ⟨none, 0, 0, [], rfl, Bys.zero W none, ⟨by omega, fun _ => rfl⟩, by omega⟩
  · simp [Value.cells] at hcs
    obtain ⟨rfl, rfl, rfl⟩ := hcs
    simp only [Prod.mk.injEq] at hx
    obtain ⟨rfl, rfl⟩ := hx
    simp only [if_true] at hz
    have hs := hsz _ _ rfl
    rw [bytes5] at hs
    simp only [lits, List.length_map, List.length_take, List.length_drop, reachBytes] at hs
    refine ⟨_, _, _, (zs.take len).map Int.toNat, rfl, ⟨by rw [List.length_map, List.length_take]; omega, fun x hx => ?_, ?_⟩, ⟨hl, fun h => by cases h⟩, by omega⟩
    · obtain ⟨z, hz1, rfl⟩ := List.mem_map.1 hx
      have hw := hwz z (List.mem_of_mem_take hz1)
      simp only [Lit.wf, Bool.and_eq_true, decide_eq_true_eq] at hw
      have := hw.2
      simp [IntKind.max, IntKind.bits, IntKind.signed] at this
      omega
    · intro hn
      obtain ⟨b, o, sp⟩ := a
      have hc : ∀ i, i < len → W.cell? ((⟨b, o, sp⟩ : Addr).add i) = some (.int .u8 ((((zs.take len).map Int.toNat).getD i 0 : Nat) : Int)) := fun i hi => by
        rw [hcell i (by omega)]
        have hb := range_u8 hwz i
        congr 2
        rw [List.getD_eq_getElem?_getD, List.getD_eq_getElem?_getD, List.getElem?_map, List.getElem?_take_of_lt hi]
        cases hzi : zs[i]? with
        | none => rfl
        | some z =>
          rw [hzi] at hb
          simp only [Option.getD_some, Option.map_some] at hb ⊢
          omega
      obtain rfl : sp = none := by simpa [Addr.add] using World.cell?_spot (hc 0 hn)
      exact ⟨b, o, rfl, fun i hi => by rw [← Go.WideShapes.add_plain]; exact hc i hi⟩
end


instance : Inhabited Op3 := ⟨⟨0, 0, 0⟩⟩
theorem cells74 : Try.prog.cellsOf 74 = 3 := by kernel_rfl
section
variable {H : Type} {enc : TypeId × Value → H}
set_option maxRecDepth 100000 in
/-- Ops that came in. -/
theorem open_ops {W : World} {base : Nat} {v : Value} {d : DataW H} {p : List MemPlace} (hval : Value.okWide Try.prog W .any base 22 v) (h : DataW.Trod enc Try.prog W 0 (fun _ => true) true 22 v d p) :
    ∃ (q : Option Addr) (n c : Nat) (f : Nat → Op3), v = .slice q n c ∧ OpsIn W q n f ∧ n ≤ 9223372036854775807 := by
  obtain ⟨a1, len, cap, rfl⟩ := okWide_slice Try.underlying22 hval
  obtain ⟨fuel, hf⟩ := h
  rcases Go.Deep.open_slice Try.underlying22 hf with ⟨hcs, _⟩ | ⟨a, len', cap', m, n, D, Pl, hcs, _, hl, hm, hmm, _, hr⟩
  · simp [Value.cells] at hcs
    obtain ⟨rfl, rfl, rfl⟩ := hcs
    exact ⟨none, 0, 0, fun _ => ⟨0, 0, 0⟩, rfl, fun h => absurd h (Nat.lt_irrefl 0), by omega⟩
  · simp [Value.cells] at hcs
    obtain ⟨rfl, rfl, rfl⟩ := hcs
    simp only [if_true] at hmm
    rw [cells74] at hr
    have hone : ∀ i, i < len → ∃ x : Op3, W.cell? (a.add (i * 3)) = some (.int .i64 x.k) ∧ W.cell? ((a.add (i * 3)).add 1) = some (.int .i64 x.l) ∧ W.cell? ((a.add (i * 3)).add 2) = some (.int .i64 x.q) ∧ x.l ≤ 9223372036854775807 := fun i hi => by
      obtain ⟨cs', hc, ht⟩ := hr i (by omega)
      obtain ⟨_, hlen, hat⟩ := World.cells?_some hc
      obtain ⟨ys, n', _, _, _, hyl, hg⟩ := DataW.trod_struct Try.underlying74 ht
      match cs', hlen with
      | [k0, k1, k2], _ =>
        match ys, hyl with
        | [y0, y1, y2], _ =>
          have g0 : DataW.trod enc Try.prog W 0 (fun _ => true) true n' 3 [k0] = some y0 := by
            have h := hg 0 ⟨"Kind", 3, 0, false, "", "", 0⟩ rfl
            dsimp only at h
            rw [cells3] at h
            exact h
          have g1 : DataW.trod enc Try.prog W 0 (fun _ => true) true n' 3 [k1] = some y1 := by
            have h := hg 1 ⟨"L", 3, 1, false, "", "", 8⟩ rfl
            dsimp only at h
            rw [cells3] at h
            exact h
          have g2 : DataW.trod enc Try.prog W 0 (fun _ => true) true n' 3 [k2] = some y2 := by
            have h := hg 2 ⟨"P", 3, 2, false, "", "", 16⟩ rfl
            dsimp only at h
            rw [cells3] at h
            exact h
          obtain ⟨z0, e0, _, w0⟩ := DataW.trod_int Try.underlying3 g0
          obtain ⟨z1, e1, _, w1⟩ := DataW.trod_int Try.underlying3 g1
          obtain ⟨z2, e2, _, w2⟩ := DataW.trod_int Try.underlying3 g2
          have e0' : k0 = .int .i64 z0 := by simpa using e0
          have e1' : k1 = .int .i64 z1 := by simpa using e1
          have e2' : k2 = .int .i64 z2 := by simpa using e2
          subst e0' e1' e2'
          have r1 := i64_of w1
          exact ⟨⟨z0, z1, z2⟩, by have := hat 0 (by omega); simpa [Addr.add] using this, hat 1 (by omega), hat 2 (by omega), r1.2⟩
    obtain ⟨f, hf'⟩ := Go.Deep.choose_lt hone
    refine ⟨_, _, _, f, rfl, fun hn => ?_, by unfold maxLen at hm; omega⟩
    obtain ⟨b, o, sp⟩ := a
    obtain rfl : sp = none := by simpa [Addr.add] using World.cell?_spot (hf' 0 (by omega)).1
    refine ⟨b, o, rfl, World.block_lt_of_cell? W _ (by have := (hf' 0 (by omega)).1; rwa [Go.WideShapes.add_plain] at this), fun r hr => ⟨fun j u hj => ?_, (hf' r hr).2.2.2⟩⟩
    obtain ⟨h0, h1, h2, _⟩ := hf' r hr
    rw [Go.WideShapes.add_plain] at h0 h1 h2
    rw [Go.WideShapes.add_plain] at h1 h2
    match j, hj with
    | 0, hj => simp at hj; subst hj; exact h0
    | 1, hj => simp at hj; subst hj; exact h1
    | 2, hj => simp at hj; subst hj; exact h2
end
end Go.Proofs.Ytamfkglkgfggaaa
