/- What the rows of all these laws share: steps that came in, and how a call that returns true meets its row. -/
import Derived.Test.YtldkmkgkllgckaaDoorRows
import Derived.Test.YtldkmkgkllgckaaDoorMade
import Derived.Deep.Grids
import Derived.Deep.Slices
import Derived.ProofKit
import Derived.OpenShut
import Derived.ChangeSame
import Derived.SizedLaws
import Derived.Carry
namespace Go.Proofs.YtldkmkgkllgckaaDoor
open Go.ChangeShapes Go.WideShapes Go.ChangeAt Go.RowKit

theorem own : ownKnob Tryd.prog.godebug = none := by kernel_rfl
theorem laidOut : laidOutB Tryd.prog = true := by kernel_rfl
theorem cells3 : Tryd.prog.cellsOf 3 = 1 := by kernel_rfl
theorem bytes3 : Tryd.prog.bytesOf 3 = 8 := by kernel_rfl

section
variable {H : Type} {enc : TypeId × Value → H}

/-- A call that leaves all that was there as it was meets the row's post. -/
theorem law_post {P : Program} {f : Func} {s : ChangeSpec} {apart fresh handsOn : Bool} {W W' : World} {args : Array Value} {v : Value} {ds gs : List (DataW H)} {before pa pv : List MemPlace}
    (hW : DataW.Whole enc P f.params.toList s.vars apart W args.toList ds gs before)
    (hres : ∀ (b : Nat) (sp : Nat → Bool) (hd : Bool), DataW.TrodAll enc P W' b sp hd f.resultTypes.toList (v.resultList f.resultTypes.size) (s.fn H (ds ++ gs)).results [])
    (hargs : DataW.TrodAll enc P W' 0 (fun b => decide (b < W.heap.size)) true f.params.toList args.toList (s.fn H (ds ++ gs)).args pa)
    (hvars : DataW.TrodVars enc P W' (fun b => decide (b < W.heap.size)) s.vars (s.fn H (ds ++ gs)).vars pv)
    (hps : before = pa ++ pv) (hb : Below W.heap.size W W') : s.post enc P f apart fresh handsOn false W args v W' :=
  ⟨ds, gs, before, [], pa, pv, hW, hres _ _ _, hargs, hvars, World.keptBut_mono (fun p hp => ⟨hp, .inr (List.mem_append.1 (hps ▸ hp))⟩) (hb.frame (· ∈ before)), fun h => by cases h⟩

end

theorem i64_of {n : Int} (h : (Lit.int .i64 n).wf = true) : -9223372036854775808 ≤ n ∧ n ≤ 9223372036854775807 := by
  simp only [Lit.wf, Bool.and_eq_true, decide_eq_true_eq] at h
  exact h
theorem u8_of {n : Int} (h : (Lit.int .u8 n).wf = true) : 0 ≤ n ∧ n < 256 := by
  simp only [Lit.wf, Bool.and_eq_true, decide_eq_true_eq] at h
  have h1 := h.1
  have h2 := h.2
  simp [IntKind.max, IntKind.min, IntKind.bits, IntKind.signed] at h1 h2
  omega
theorem cells35 : Tryd.prog.cellsOf 35 = 4 := by kernel_rfl
theorem cells5 : Tryd.prog.cellsOf 5 = 1 := by kernel_rfl
section
variable {H : Type} {enc : TypeId × Value → H}
/-- The cells of a step. -/
theorem op_cells {W : World} {n' : Nat} {ys : List (DataW H × List MemPlace)} {k0 k1 k2 k3 : Value} (hyl : ys.length = 4)
    (hg : ∀ (i : Nat) (f : Field), #[({ name := "Kind", type := 3, offset := 0, embedded := false, tag := "", pkgPath := "", byteOffset := 0 } : Field), { name := "I", type := 3, offset := 1, embedded := false, tag := "", pkgPath := "", byteOffset := 8 }, { name := "Long", type := 3, offset := 2, embedded := false, tag := "", pkgPath := "", byteOffset := 16 }, { name := "Fill", type := 5, offset := 3, embedded := false, tag := "", pkgPath := "", byteOffset := 24 }][i]? = some f →
      DataW.trod enc Tryd.prog W 0 (fun _ => true) true n' f.type (([k0, k1, k2, k3].drop f.offset).take (Tryd.prog.cellsOf f.type)) = ys[i]?) :
    ∃ o : Opv, k0 = .int .i64 o.kind ∧ k1 = .int .i64 o.i ∧ k2 = .int .i64 o.long ∧ k3 = .int .u8 (o.fill : Int) ∧ OpB o := by
  match ys, hyl with
  | [y0, y1, y2, y3], _ =>
    have g0 : DataW.trod enc Tryd.prog W 0 (fun _ => true) true n' 3 [k0] = some y0 := by
      have h := hg 0 ⟨"Kind", 3, 0, false, "", "", 0⟩ rfl
      dsimp only at h
      rw [cells3] at h
      exact h
    have g1 : DataW.trod enc Tryd.prog W 0 (fun _ => true) true n' 3 [k1] = some y1 := by
      have h := hg 1 ⟨"I", 3, 1, false, "", "", 8⟩ rfl
      dsimp only at h
      rw [cells3] at h
      exact h
    have g2 : DataW.trod enc Tryd.prog W 0 (fun _ => true) true n' 3 [k2] = some y2 := by
      have h := hg 2 ⟨"Long", 3, 2, false, "", "", 16⟩ rfl
      dsimp only at h
      rw [cells3] at h
      exact h
    have g3 : DataW.trod enc Tryd.prog W 0 (fun _ => true) true n' 5 [k3] = some y3 := by
      have h := hg 3 ⟨"Fill", 5, 3, false, "", "", 24⟩ rfl
      dsimp only at h
      rw [cells5] at h
      exact h
    obtain ⟨z0, e0, _, w0⟩ := DataW.trod_int Tryd.underlying3 g0
    obtain ⟨z1, e1, _, w1⟩ := DataW.trod_int Tryd.underlying3 g1
    obtain ⟨z2, e2, _, w2⟩ := DataW.trod_int Tryd.underlying3 g2
    obtain ⟨z3, e3, _, w3⟩ := DataW.trod_int Tryd.underlying5 g3
    have e0' : k0 = .int .i64 z0 := by simpa using e0
    have e1' : k1 = .int .i64 z1 := by simpa using e1
    have e2' : k2 = .int .i64 z2 := by simpa using e2
    have e3' : k3 = .int .u8 z3 := by simpa using e3
    have r3 := u8_of w3
    exact ⟨⟨z0, z1, z2, z3.toNat⟩, e0', e1', e2', by rw [e3']; congr 1; show z3 = ((z3.toNat : Nat) : Int); omega, ⟨i64_of w0, i64_of w1, i64_of w2, by show z3.toNat < 256; omega⟩⟩

/-- A step by value. -/
theorem open_op {W : World} {base : Nat} {v : Value} {d : DataW H} {p : List MemPlace} (hval : Value.okWide Tryd.prog W .any base 35 v) (h : DataW.Trod enc Tryd.prog W 0 (fun _ => true) true 35 v d p) :
    ∃ b : Opv, v = b.val ∧ OpB b := by
  obtain ⟨cs, rfl, hsz⟩ := okWide_struct Tryd.underlying35 hval
  obtain ⟨l⟩ := cs
  match l, hsz.trans cells35 with
  | [k0, k1, k2, k3], _ =>
    obtain ⟨fuel, hf⟩ := h
    obtain ⟨ys, n', _, _, _, hyl, hg⟩ := DataW.trod_struct Tryd.underlying35 hf
    obtain ⟨o, rfl, rfl, rfl, rfl, hB⟩ := op_cells (W := W) (n' := n') (ys := ys) hyl (by exact hg)
    exact ⟨o, rfl, hB⟩

instance : Inhabited Opv := ⟨⟨0, 0, 0, 0⟩⟩
/-- A slice of steps. -/
theorem open_ops {W : World} {base : Nat} {v : Value} {d : DataW H} {p : List MemPlace} (hval : Value.okWide Tryd.prog W .any base 33 v) (h : DataW.Trod enc Tryd.prog W 0 (fun _ => true) true 33 v d p) :
    ∃ (q : Option Addr) (n c : Nat) (f : Nat → Opv), v = .slice q n c ∧ Ops W q n f ∧ n ≤ 9223372036854775807 := by
  obtain ⟨a1, len, cap, rfl⟩ := okWide_slice Tryd.underlying33 hval
  obtain ⟨fuel, hf⟩ := h
  rcases Go.Deep.open_slice Tryd.underlying33 hf with ⟨hcs, _⟩ | ⟨a, len', cap', m, n, D, Pl, hcs, _, hl, hm, hmm, _, hr⟩
  · simp [Value.cells] at hcs
    obtain ⟨rfl, rfl, rfl⟩ := hcs
    exact ⟨none, 0, 0, default, rfl, fun h => absurd h (Nat.lt_irrefl 0), by omega⟩
  · simp [Value.cells] at hcs
    obtain ⟨rfl, rfl, rfl⟩ := hcs
    simp only [if_true] at hmm
    rw [cells35] at hr
    have hone : ∀ i, i < len → ∃ x : Opv, (∀ (b o : Nat) sp, a = ⟨b, o, sp⟩ → (i = 0 → sp = none) ∧ OpAt W b (o + i * 4) x) := fun i hi => by
      obtain ⟨cs', hc, ht⟩ := hr i (by omega)
      obtain ⟨_, hlen, hat⟩ := World.cells?_some hc
      obtain ⟨ys, n', _, _, _, hyl, hg⟩ := DataW.trod_struct Tryd.underlying35 ht
      match cs', hlen with
      | [k0, k1, k2, k3], _ =>
        obtain ⟨x, rfl, rfl, rfl, rfl, hB⟩ := op_cells (W := W) (n' := n') (ys := ys) hyl (by exact hg)
        refine ⟨x, fun b o sp e => ?_⟩
        subst e
        have h0 := hat 0 (by omega)
        have hsp : i = 0 → sp = none := fun e => by
          subst e
          simpa [Addr.add] using World.cell?_spot h0
        refine ⟨hsp, ?_⟩
        have ha : (⟨b, o, sp⟩ : Addr).add (i * 4) = ⟨b, o + i * 4, none⟩ := by
          rcases Nat.eq_zero_or_pos i with e | e
          · subst e; rw [hsp rfl]; rfl
          · simp [Addr.add]; omega
        rw [ha] at hat
        have hs : ∀ j (hj : j < 4), W.cell? ⟨b, o + i * 4 + j, none⟩ = [Value.int .i64 x.kind, .int .i64 x.i, .int .i64 x.long, .int .u8 (x.fill : Int)][j]? := fun j hj => by
          have := hat j hj
          rw [Go.WideShapes.add_plain] at this
          exact this
        exact ⟨hs 0 (by omega), hs 1 (by omega), hs 2 (by omega), hs 3 (by omega), hB⟩
    obtain ⟨f, hf'⟩ := Go.Deep.choose_lt hone
    refine ⟨_, _, _, f, rfl, fun hn => ?_, by unfold maxLen at hm; omega⟩
    obtain ⟨b, o, sp⟩ := a
    have hsp : sp = none := (hf' 0 hn b o sp rfl).1 rfl
    exact ⟨b, o, by rw [hsp], fun i hi => (hf' i hi b o sp rfl).2⟩
end
end Go.Proofs.YtldkmkgkllgckaaDoor
