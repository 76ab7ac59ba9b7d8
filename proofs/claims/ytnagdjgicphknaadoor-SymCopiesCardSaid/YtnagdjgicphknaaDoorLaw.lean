/- What the rows of all these laws share: steps that came in, and how a call that returns true meets its row. -/
import Derived.Test.YtnagdjgicphknaaDoorRows
import Derived.Test.YtnagdjgicphknaaDoorLPlays
import Derived.Deep.Grids
import Derived.Deep.Slices
import Derived.ProofKit
import Derived.OpenShut
import Derived.ChangeSame
import Derived.SizedLaws
import Derived.Carry
namespace Go.Proofs.YtnagdjgicphknaaDoor
open Go.ChangeShapes Go.WideShapes Go.ChangeAt Go.RowKit

theorem own : ownKnob Tryd.prog.godebug = none := by kernel_rfl
theorem laidOut : laidOutB Tryd.prog = true := by kernel_rfl
theorem cells3 : Tryd.prog.cellsOf 3 = 1 := by kernel_rfl
theorem bytes3 : Tryd.prog.bytesOf 3 = 8 := by kernel_rfl

section
variable {H : Type} {enc : TypeId × Value → H}

/-- A call that leaves all that was there as it was meets the row's post. -/
theorem law_post {P : Program} {f : Func} {s : ChangeSpec} {apart fresh handsOn : Bool} {W W' : World} {args : Array Value} {v : Value} {ds gs : List (DataW H)} {before pa pv : List MemPlace}
    (hW : DataW.Whole enc P f.params.toList s.vars apart W args.toList ds gs before)
    (hres : ∀ (b : Nat) (sp : Nat → Bool) (hd : Bool), DataW.TrodAll enc P W' b sp hd f.resultTypes.toList (v.resultList f.resultTypes.size) (s.fn H (ds ++ gs)).results [])
    (hargs : DataW.TrodAll enc P W' 0 (fun b => decide (b < W.heap.size)) true f.params.toList args.toList (s.fn H (ds ++ gs)).args pa)
    (hvars : DataW.TrodVars enc P W' (fun b => decide (b < W.heap.size)) s.vars (s.fn H (ds ++ gs)).vars pv)
    (hps : before = pa ++ pv) (hb : Below W.heap.size W W') : s.post enc P f apart fresh handsOn false W args v W' :=
  ⟨ds, gs, before, [], pa, pv, hW, hres _ _ _, hargs, hvars, World.keptBut_mono (fun p hp => ⟨hp, .inr (List.mem_append.1 (hps ▸ hp))⟩) (hb.frame (· ∈ before)), fun h => by cases h⟩

end

theorem i64_of {n : Int} (h : (Lit.int .i64 n).wf = true) : -9223372036854775808 ≤ n ∧ n ≤ 9223372036854775807 := by
  simp only [Lit.wf, Bool.and_eq_true, decide_eq_true_eq] at h
  exact h
theorem cells31 : Tryd.prog.cellsOf 31 = 2 := by kernel_rfl
theorem cells9 : Tryd.prog.cellsOf 9 = 1 := by kernel_rfl
section
variable {H : Type} {enc : TypeId × Value → H}
/-- The cells of a step. -/
theorem op_cells {W : World} {n' : Nat} {ys : List (DataW H × List MemPlace)} {k0 k1 : Value} (hyl : ys.length = 2)
    (hg : ∀ (i : Nat) (f : Field), #[({ name := "Kind", type := 3, offset := 0, embedded := false, tag := "", pkgPath := "", byteOffset := 0 } : Field), { name := "Name", type := 9, offset := 1, embedded := false, tag := "", pkgPath := "", byteOffset := 8 }][i]? = some f →
      DataW.trod enc Tryd.prog W 0 (fun _ => true) true n' f.type (([k0, k1].drop f.offset).take (Tryd.prog.cellsOf f.type)) = ys[i]?) :
    ∃ o : Opv, k0 = .int .i64 o.kind ∧ k1 = .string o.name := by
  match ys, hyl with
  | [y0, y1], _ =>
    have g0 : DataW.trod enc Tryd.prog W 0 (fun _ => true) true n' 3 [k0] = some y0 := by
      have h := hg 0 ⟨"Kind", 3, 0, false, "", "", 0⟩ rfl
      dsimp only at h
      rw [cells3] at h
      exact h
    have g1 : DataW.trod enc Tryd.prog W 0 (fun _ => true) true n' 9 [k1] = some y1 := by
      have h := hg 1 ⟨"Name", 9, 1, false, "", "", 8⟩ rfl
      dsimp only at h
      rw [cells9] at h
      exact h
    obtain ⟨z0, e0, _, w0⟩ := DataW.trod_int Tryd.underlying3 g0
    obtain ⟨z1, e1, _, w1⟩ := DataW.trod_string Tryd.underlying9 g1
    have e0' : k0 = .int .i64 z0 := by simpa using e0
    have e1' : k1 = .string z1 := by simpa using e1
    exact ⟨⟨z0, z1⟩, e0', e1'⟩

instance : Inhabited Opv := ⟨⟨0, ⟨#[]⟩⟩⟩
/-- A slice of steps. -/
theorem open_ops {W : World} {base : Nat} {v : Value} {d : DataW H} {p : List MemPlace} (hval : Value.okWide Tryd.prog W .any base 22 v) (h : DataW.Trod enc Tryd.prog W 0 (fun _ => true) true 22 v d p) :
    ∃ (q : Option Addr) (n c : Nat) (f : Nat → Opv), v = .slice q n c ∧ Ops W q n f ∧ n ≤ 9223372036854775807 := by
  obtain ⟨a1, len, cap, rfl⟩ := okWide_slice Tryd.underlying22 hval
  obtain ⟨fuel, hf⟩ := h
  rcases Go.Deep.open_slice Tryd.underlying22 hf with ⟨hcs, _⟩ | ⟨a, len', cap', m, n, D, Pl, hcs, _, hl, hm, hmm, _, hr⟩
  · simp [Value.cells] at hcs
    obtain ⟨rfl, rfl, rfl⟩ := hcs
    exact ⟨none, 0, 0, default, rfl, fun h => absurd h (Nat.lt_irrefl 0), by omega⟩
  · simp [Value.cells] at hcs
    obtain ⟨rfl, rfl, rfl⟩ := hcs
    simp only [if_true] at hmm
    rw [cells31] at hr
    have hone : ∀ i, i < len → ∃ x : Opv, (∀ (b o : Nat) sp, a = ⟨b, o, sp⟩ → (i = 0 → sp = none) ∧ OpAt W b (o + i * 2) x) := fun i hi => by
      obtain ⟨cs', hc, ht⟩ := hr i (by omega)
      obtain ⟨_, hlen, hat⟩ := World.cells?_some hc
      obtain ⟨ys, n', _, _, _, hyl, hg⟩ := DataW.trod_struct Tryd.underlying31 ht
      match cs', hlen with
      | [k0, k1], _ =>
        obtain ⟨x, rfl, rfl⟩ := op_cells (W := W) (n' := n') (ys := ys) hyl (by exact hg)
        refine ⟨x, fun b o sp e => ?_⟩
        subst e
        have h0 := hat 0 (by omega)
        have hsp : i = 0 → sp = none := fun e => by
          subst e
          simpa [Addr.add] using World.cell?_spot h0
        refine ⟨hsp, ?_⟩
        have ha : (⟨b, o, sp⟩ : Addr).add (i * 2) = ⟨b, o + i * 2, none⟩ := by
          rcases Nat.eq_zero_or_pos i with e | e
          · subst e; rw [hsp rfl]; rfl
          · simp [Addr.add]; omega
        rw [ha] at hat
        have hs : ∀ j (hj : j < 2), W.cell? ⟨b, o + i * 2 + j, none⟩ = [Value.int .i64 x.kind, .string x.name][j]? := fun j hj => by
          have := hat j hj
          rw [Go.WideShapes.add_plain] at this
          exact this
        exact ⟨hs 0 (by omega), hs 1 (by omega)⟩
    obtain ⟨f, hf'⟩ := Go.Deep.choose_lt hone
    refine ⟨_, _, _, f, rfl, fun hn => ?_, by unfold maxLen at hm; omega⟩
    obtain ⟨b, o, sp⟩ := a
    have hsp : sp = none := (hf' 0 hn b o sp rfl).1 rfl
    exact ⟨b, o, by rw [hsp], fun i hi => (hf' i hi b o sp rfl).2⟩

theorem cells43 : Tryd.prog.cellsOf 43 = 2 := by kernel_rfl
/-- Two names by value. -/
theorem open_two {W : World} {base : Nat} {v : Value} {d : DataW H} {p : List MemPlace} (hval : Value.okWide Tryd.prog W .any base 43 v) (h : DataW.Trod enc Tryd.prog W 0 (fun _ => true) true 43 v d p) :
    ∃ s t : ByteArray, v = .agg #[.string s, .string t] ∧ s.size ≤ maxLen ∧ t.size ≤ maxLen := by
  obtain ⟨fuel, hf⟩ := h
  obtain ⟨xs, m, _, hx, hl, hlen, hd⟩ := DataW.trod_array Tryd.underlying43 hf
  rw [cells43] at hl
  obtain ⟨c0, c1, hc⟩ : ∃ c0 c1, v.cells.toList = [c0, c1] := by
    match hv : v.cells.toList, hl with
    | [c0, c1], _ => exact ⟨c0, c1, rfl⟩
  obtain ⟨y0, y1, rfl⟩ : ∃ y0 y1, xs = [y0, y1] := by
    match xs, hlen with
    | [y0, y1], _ => exact ⟨y0, y1, rfl⟩
  have h0 := hd 0 (by omega)
  have h1 := hd 1 (by omega)
  rw [cells9, hc] at h0 h1
  simp at h0 h1
  obtain ⟨z0, e0, _, w0⟩ := DataW.trod_string Tryd.underlying9 h0
  obtain ⟨z1, e1, _, w1⟩ := DataW.trod_string Tryd.underlying9 h1
  have e0' : c0 = .string z0 := by simpa using e0
  have e1' : c1 = .string z1 := by simpa using e1
  subst e0' e1'
  refine ⟨z0, z1, ?_, w0, w1⟩
  cases v with
  | agg cs =>
    have : cs.toList = [Value.string z0, .string z1] := hc
    rw [← Array.toArray_toList (xs := cs), this]
  | _ => simp [Value.cells] at hc
end
end Go.Proofs.YtnagdjgicphknaaDoor
