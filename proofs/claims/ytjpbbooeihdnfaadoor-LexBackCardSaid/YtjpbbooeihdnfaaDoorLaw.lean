/- What the rows of both laws share: how a call that returns true meets its row; the tables of strings and names that a row lays; the wrap that keeps the shape and the laid tables. -/
import Derived.Test.YtjpbbooeihdnfaaDoorRows
import Derived.Test.YtjpbbooeihdnfaaDoorLEnv
import Derived.ProofKit
import Derived.OpenShut
import Derived.ChangeSame
import Derived.SizedLaws
import Derived.Carry
import Derived.Shelf.Vars
set_option maxRecDepth 20000
set_option linter.unusedSimpArgs false
set_option linter.unusedVariables false
namespace Go.Proofs.YtjpbbooeihdnfaaDoor
open Go.ChangeShapes Go.WideShapes Go.ChangeAt Go.RowKit

theorem own : ownKnob Tryd.prog.godebug = none := by kernel_rfl
theorem laidOut : laidOutB Tryd.prog = true := by kernel_rfl
theorem i64_of {n : Int} (h : (Lit.int .i64 n).wf = true) : -9223372036854775808 ≤ n ∧ n ≤ 9223372036854775807 := by
  simp only [Lit.wf, Bool.and_eq_true, decide_eq_true_eq] at h
  exact h

section
variable {H : Type} {enc : TypeId × Value → H}

/-- A call that leaves all that was there as it was meets the row's post. -/
theorem law_post {P : Program} {f : Func} {s : ChangeSpec} {apart fresh handsOn : Bool} {W W' : World} {args : Array Value} {v : Value} {ds gs : List (DataW H)} {before pa pv : List MemPlace}
    (hW : DataW.Whole enc P f.params.toList s.vars apart W args.toList ds gs before)
    (hres : ∀ (b : Nat) (sp : Nat → Bool) (hd : Bool), DataW.TrodAll enc P W' b sp hd f.resultTypes.toList (v.resultList f.resultTypes.size) (s.fn H (ds ++ gs)).results [])
    (hargs : DataW.TrodAll enc P W' 0 (fun b => decide (b < W.heap.size)) true f.params.toList args.toList (s.fn H (ds ++ gs)).args pa)
    (hvars : DataW.TrodVars enc P W' (fun b => decide (b < W.heap.size)) s.vars (s.fn H (ds ++ gs)).vars pv)
    (hps : before = pa ++ pv) (hb : Below W.heap.size W W') : s.post enc P f apart fresh handsOn false W args v W' :=
  ⟨ds, gs, before, [], pa, pv, hW, hres _ _ _, hargs, hvars, World.keptBut_mono (fun p hp => ⟨hp, .inr (List.mem_append.1 (hps ▸ hp))⟩) (hb.frame (· ∈ before)), fun h => by cases h⟩

variable {P : Program} {w : World} {base : Nat} {sp : Nat → Bool} {held : Bool} {fuel : Nat} {t e : TypeId} {cs : List Value} {p : List MemPlace}
theorem fst_at {α β : Type} {xs : List (α × β)} {l : List α} (h : xs.map (·.1) = l) {i : Nat} {d : α} (hi : l[i]? = some d) : ∃ q, xs[i]? = some (d, q) := by
  rw [← h, List.getElem?_map] at hi
  obtain ⟨⟨a, q⟩, h1, h2⟩ := Option.map_eq_some_iff.1 hi
  simp only at h2
  subst h2
  exact ⟨q, h1⟩
/-- An array of strings that reads as the list: its cells. -/
theorem cell_str {n i : Nat} {zs : List (DataW H)} {z : List UInt8} (ht : P.underlying t = some (.array n e)) (he : P.underlying e = some .string) (hce : P.cellsOf e = 1)
    (h : DataW.trod enc P w base sp held fuel t cs = some (.agg zs, p)) (hz : zs[i]? = some (.lit (.string z))) (hi : i < n) : cs[i]? = some (.string ⟨z.toArray⟩) := by
  obtain ⟨xs, m, _, hx, _, _, hall⟩ := DataW.trod_array ht h
  have hxs : xs.map (·.1) = zs := by injection hx with h1 _; injection h1 with h1; exact h1.symm
  obtain ⟨q, hq⟩ := fst_at hxs hz
  have ha := hall i hi
  rw [hq, hce, Nat.mul_one] at ha
  obtain ⟨s, h1, h2, _⟩ := DataW.trod_string he ha
  have h3 : z = s.data.toList := by injection h2 with h2 _; injection h2 with h2; injection h2
  subst h3
  have h4 : cs[i]? = some (.string s) := by
    have := congrArg (·[0]?) h1
    simpa [List.getElem?_take, List.getElem?_drop] using this
  exact h4
/-- An array of a string and a number each that reads as the list: its cells. -/
theorem cell_nms {n i : Nat} {fs : Array Field} {f0 f1 : Field} {zs : List (DataW H)} {z : List UInt8} {k : Int} (ht : P.underlying t = some (.array n e)) (he : P.underlying e = some (.struct fs)) (hce : P.cellsOf e = 2)
    (hf0 : fs[0]? = some f0) (hf1 : fs[1]? = some f1) (ho0 : f0.offset = 0) (ho1 : f1.offset = 1) (ht0 : P.underlying f0.type = some .string) (ht1 : P.underlying f1.type = some (.int .i64)) (hc0 : P.cellsOf f0.type = 1) (hc1 : P.cellsOf f1.type = 1)
    (h : DataW.trod enc P w base sp held fuel t cs = some (.agg zs, p)) (hz : zs[i]? = some (.agg [.lit (.string z), .lit (.int .i64 k)])) (hi : i < n) : cs[i * 2]? = some (.string ⟨z.toArray⟩) ∧ cs[i * 2 + 1]? = some (.int .i64 k) := by
  obtain ⟨xs, m, _, hx, _, _, hall⟩ := DataW.trod_array ht h
  have hxs : xs.map (·.1) = zs := by injection hx with h1 _; injection h1 with h1; exact h1.symm
  obtain ⟨q, hq⟩ := fst_at hxs hz
  have ha := hall i hi
  rw [hq, hce] at ha
  obtain ⟨ys, m', _, hy, _, _, hfs⟩ := DataW.trod_struct he ha
  have hys : ys.map (·.1) = [.lit (.string z), .lit (.int .i64 k)] := by injection hy with h1 _; injection h1 with h1; exact h1.symm
  obtain ⟨q0, hq0⟩ := fst_at hys (i := 0) rfl
  obtain ⟨q1, hq1⟩ := fst_at hys (i := 1) rfl
  have g0 := hfs 0 f0 hf0
  have g1 := hfs 1 f1 hf1
  rw [hq0, ho0, hc0] at g0
  rw [hq1, ho1, hc1] at g1
  obtain ⟨s, h1, h2, _⟩ := DataW.trod_string ht0 g0
  obtain ⟨j, h5, h6, _⟩ := DataW.trod_int ht1 g1
  have h3 : z = s.data.toList := by injection h2 with h2 _; injection h2 with h2; injection h2
  have h7 : k = j := by injection h6 with h2 _; injection h2 with h2; injection h2
  subst h3
  subst h7
  have h4 := congrArg (·[0]?) h1
  have h8 := congrArg (·[0]?) h5
  exact ⟨by simpa [List.getElem?_take, List.getElem?_drop] using h4, by simpa [List.getElem?_take, List.getElem?_drop] using h8⟩
/-- The wrap that hands on both the laid tables and the world's shape. -/
theorem returns_shaped_and {a : Assume} {C : Checked} {os : Os} {f : FuncId} {fn : Func} {s : ChangeSpec} {conds : List PathCond} {apart fresh handsOn again : Bool} {X : World → Array Value → Prop}
    (hX : ∀ (w w' : World) (args : Array Value), w.heap = w'.heap → X w args → X w' args)
    (hown : ownKnob C.prog.godebug = none) (started : os.Started) (noInit : C.prog.inits.idxOf? f = none) (hfn : C.prog.funcs[f]? = some fn)
    (witness : ∃ (w : World) (tape : Tape) (i : Input), w.os = os ∧ (w.forCall tape i).Shaped C.prog ∧ i.vars = [] ∧ Input.okWide C.prog (w.forCall tape i) .any w.heap.size f i ∧
      ((s.pre enc C.prog fn conds apart (w.forCall tape i).memory i.args ∧ X (w.forCall tape i).memory i.args) ∧ sizedMet enc C.prog fn (OpenSpec.ofChange s) apart (w.forCall tape i).memory i.args) ∧ a.holds C.prog (lone (Frame.enter C.prog f i.args .normal) [] (w.forCall tape i)))
    (contract : ∀ (W : World) (base : Nat) (args : Array Value) (ds gs : List (DataW H)) (before : List MemPlace),
      (∀ (j : Nat) t v, fn.params[j]? = some t → args[j]? = some v → Value.okWide C.prog W .any base t v) →
      DataW.Whole enc C.prog fn.params.toList s.vars apart W args.toList ds gs before → X W args → W.ShapedOpen C.prog →
      Calls C.prog f args W fun e W' => ∃ v, e = .returned v ∧ s.post enc C.prog fn apart fresh handsOn again W args v W') :
    ReturnsInHanded a C os f .any (fun w args => (s.pre enc C.prog fn conds apart w args ∧ X w args) ∧ sizedMet enc C.prog fn (OpenSpec.ofChange s) apart w args) (s.post enc C.prog fn apart fresh handsOn again) := by
  refine returnsInHanded_of_calls hown started noInit witness ?_
  intro w tape i _ hsh _ hok hpre hholds
  obtain ⟨_, _, _, fn', hfn', _, _, _, _, hval⟩ := hok
  have e : fn' = fn := Option.some.inj (hfn'.symm.trans hfn)
  subst e
  obtain ⟨⟨⟨ds, gs, before, hw, hc⟩, hx⟩, hz⟩ := hpre
  have hw' := DataW.Whole.of_heap (w' := w.forCall tape i) (by rfl) hw
  refine (contract (w.forCall tape i) w.heap.size i.args ds gs before hval hw' (hX _ _ _ (by rfl) hx) hsh).mono fun e W' ⟨v, he, hp⟩ => ?_
  subst he
  exact ChangeSpec.post_blind hp
end
end Go.Proofs.YtjpbbooeihdnfaaDoor
