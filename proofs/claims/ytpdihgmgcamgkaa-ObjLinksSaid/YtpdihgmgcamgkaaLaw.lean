/- What the rows of these laws share: records that came in, and how a call that returns true meets its row. -/
import Derived.Test.YtpdihgmgcamgkaaRows
import Derived.Test.YtpdihgmgcamgkaaPMem
import Derived.Deep.Grids
import Derived.Deep.Slices
import Derived.ProofKit
import Derived.OpenShut
import Derived.ChangeSame
import Derived.SizedLaws
import Derived.Carry
set_option maxRecDepth 20000
set_option linter.unusedSimpArgs false
set_option linter.constructorNameAsVariable false
namespace Go.Proofs.Ytpdihgmgcamgkaa
open Go.ChangeShapes Go.WideShapes Go.ChangeAt Go.RowKit

theorem own : ownKnob Try.prog.godebug = none := by kernel_rfl
theorem laidOut : laidOutB Try.prog = true := by kernel_rfl
theorem cells3 : Try.prog.cellsOf 3 = 1 := by kernel_rfl
theorem cells9 : Try.prog.cellsOf 9 = 1 := by kernel_rfl
theorem cells24 : Try.prog.cellsOf 24 = 3 := by kernel_rfl
theorem cells50 : Try.prog.cellsOf 50 = 3 := by kernel_rfl
theorem cells22 : Try.prog.cellsOf 22 = 1 := by kernel_rfl
section
variable {H : Type} {enc : TypeId × Value → H}

/-- A call that leaves all that was there as it was meets the row's post. -/
theorem law_post {P : Program} {f : Func} {s : ChangeSpec} {apart fresh handsOn : Bool} {W W' : World} {args : Array Value} {v : Value} {ds gs : List (DataW H)} {before pa pv : List MemPlace}
    (hW : DataW.Whole enc P f.params.toList s.vars apart W args.toList ds gs before)
    (hres : ∀ (b : Nat) (sp : Nat → Bool) (hd : Bool), DataW.TrodAll enc P W' b sp hd f.resultTypes.toList (v.resultList f.resultTypes.size) (s.fn H (ds ++ gs)).results [])
    (hargs : DataW.TrodAll enc P W' 0 (fun b => decide (b < W.heap.size)) true f.params.toList args.toList (s.fn H (ds ++ gs)).args pa)
    (hvars : DataW.TrodVars enc P W' (fun b => decide (b < W.heap.size)) s.vars (s.fn H (ds ++ gs)).vars pv)
    (hps : before = pa ++ pv) (hb : Below W.heap.size W W') : s.post enc P f apart fresh handsOn false W args v W' :=
  ⟨ds, gs, before, [], pa, pv, hW, hres _ _ _, hargs, hvars, World.keptBut_mono (fun p hp => ⟨hp, .inr (List.mem_append.1 (hps ▸ hp))⟩) (hb.frame (· ∈ before)), fun h => by cases h⟩

theorem i64_of {n : Int} (h : (Lit.int .i64 n).wf = true) : -9223372036854775808 ≤ n ∧ n ≤ 9223372036854775807 := by
  simp only [Lit.wf, Bool.and_eq_true, decide_eq_true_eq] at h
  exact h
theorem u8_of {n : Int} (h : (Lit.int .u8 n).wf = true) : 0 ≤ n ∧ n < 256 := by
  simp only [Lit.wf, Bool.and_eq_true, decide_eq_true_eq] at h
  have h1 := h.1
  have h2 := h.2
  simp [IntKind.max, IntKind.min, IntKind.bits, IntKind.signed] at h1 h2
  omega
/-- The cells of a part. -/
theorem part_cells {W : World} {n' : Nat} {ys : List (DataW H × List MemPlace)} {k0 k1 k2 : Value} (hyl : ys.length = 3)
    (hg : ∀ (i : Nat) (f : Field), #[({ name := "K", type := 3, offset := 0, embedded := false, tag := "", pkgPath := "", byteOffset := 0 } : Field), { name := "N", type := 3, offset := 1, embedded := false, tag := "", pkgPath := "", byteOffset := 8 }, { name := "S", type := 9, offset := 2, embedded := false, tag := "", pkgPath := "", byteOffset := 16 }][i]? = some f →
      DataW.trod enc Try.prog W 0 (fun _ => true) true n' f.type (([k0, k1, k2].drop f.offset).take (Try.prog.cellsOf f.type)) = ys[i]?) :
    ∃ p : Pt, k0 = .int .i64 p.k ∧ k1 = .int .i64 p.n ∧ k2 = .string p.s ∧ PtB p := by
  match ys, hyl with
  | [y0, y1, y2], _ =>
    have g0 : DataW.trod enc Try.prog W 0 (fun _ => true) true n' 3 [k0] = some y0 := by
      have h := hg 0 ⟨"K", 3, 0, false, "", "", 0⟩ rfl
      dsimp only at h
      rw [cells3] at h
      exact h
    have g1 : DataW.trod enc Try.prog W 0 (fun _ => true) true n' 3 [k1] = some y1 := by
      have h := hg 1 ⟨"N", 3, 1, false, "", "", 8⟩ rfl
      dsimp only at h
      rw [cells3] at h
      exact h
    have g2 : DataW.trod enc Try.prog W 0 (fun _ => true) true n' 9 [k2] = some y2 := by
      have h := hg 2 ⟨"S", 9, 2, false, "", "", 16⟩ rfl
      dsimp only at h
      rw [cells9] at h
      exact h
    obtain ⟨z0, e0, _, w0⟩ := DataW.trod_int Try.underlying3 g0
    obtain ⟨z1, e1, _, w1⟩ := DataW.trod_int Try.underlying3 g1
    obtain ⟨z2, e2, _, w2⟩ := DataW.trod_string Try.underlying9 g2
    have e0' : k0 = .int .i64 z0 := by simpa using e0
    have e1' : k1 = .int .i64 z1 := by simpa using e1
    have e2' : k2 = .string z2 := by simpa using e2
    exact ⟨⟨z0, z1, z2⟩, e0', e1', e2', ⟨i64_of w0, i64_of w1, by unfold maxLen at w2; simp only; omega⟩⟩
/-- A slice of parts. -/
theorem field_parts {W : World} {n' : Nat} {v : Value} {y : DataW H × List MemPlace} (h : DataW.trod enc Try.prog W 0 (fun _ => true) true n' 22 [v] = some y) :
    ∃ (q : Option Addr) (c : Nat) (l : List Pt), v = .slice q l.length c ∧ Pts W q l.length l ∧ l.length ≤ 9223372036854775807 ∧ ∀ p ∈ l, PtB p := by
  rcases Go.Deep.open_slice Try.underlying22 h with ⟨hcs, _⟩ | ⟨a, len, cap, m, n, D, Pl, hcs, _, hl, hm, hmm, _, hr⟩
  · simp at hcs
    subst hcs
    exact ⟨none, 0, [], rfl, Pts.nil_ _ _, by simp, by simp⟩
  · simp at hcs
    subst hcs
    simp only [if_true] at hmm
    rw [cells50] at hr
    have hone : ∀ i, i < len → ∃ x : Pt, PtB x ∧ (∀ (b o : Nat) sp, a = ⟨b, o, sp⟩ → (i = 0 → sp = none) ∧ PtAt W b (o + i * 3) x) := fun i hi => by
      obtain ⟨cs', hc, ht⟩ := hr i (by omega)
      obtain ⟨_, hlen, hat⟩ := World.cells?_some hc
      obtain ⟨ys, n', _, _, _, hyl, hg⟩ := DataW.trod_struct Try.underlying50 ht
      match cs', hlen with
      | [k0, k1, k2], _ =>
        obtain ⟨x, rfl, rfl, rfl, hB⟩ := part_cells (W := W) (n' := n') (ys := ys) hyl (by exact hg)
        refine ⟨x, hB, fun b o sp e => ?_⟩
        subst e
        have h0 := hat 0 (by omega)
        have hsp : i = 0 → sp = none := fun e => by
          subst e
          simpa [Addr.add] using World.cell?_spot h0
        refine ⟨hsp, ?_⟩
        have ha : (⟨b, o, sp⟩ : Addr).add (i * 3) = ⟨b, o + i * 3, none⟩ := by
          rcases Nat.eq_zero_or_pos i with e | e
          · subst e; rw [hsp rfl]; rfl
          · simp [Addr.add]; omega
        rw [ha] at hat
        have hs : ∀ j (hj : j < 3), W.cell? ⟨b, o + i * 3 + j, none⟩ = [Value.int .i64 x.k, .int .i64 x.n, .string x.s][j]? := fun j hj => by
          have := hat j hj
          rw [Go.WideShapes.add_plain] at this
          exact this
        exact ⟨hs 0 (by omega), hs 1 (by omega), hs 2 (by omega)⟩
    obtain ⟨f, hf'⟩ := Go.Deep.choose_lt hone
    have hlen : ((List.range len).map f).length = len := by simp
    refine ⟨some a, cap, (List.range len).map f, by rw [hlen], ⟨rfl, fun hn => ?_⟩, by rw [hlen]; unfold maxLen at hm; omega, fun p hp => ?_⟩
    · rw [hlen] at hn ⊢
      obtain ⟨b, o, sp⟩ := a
      have hsp : sp = none := ((hf' 0 hn).2 b o sp rfl).1 rfl
      refine ⟨b, o, by rw [hsp], fun i hi => ?_⟩
      have := ((hf' i hi).2 b o sp rfl).2
      rw [List.getD_eq_getElem?_getD, List.getElem?_map, List.getElem?_range hi]
      exact this
    · obtain ⟨i, hi, rfl⟩ := List.mem_map.1 hp
      exact (hf' i (List.mem_range.1 hi)).1
/-- A record by value. -/
theorem open_rec {W : World} {base : Nat} {v : Value} {d : DataW H} {p : List MemPlace} (hval : Value.okWide Try.prog W .any base 24 v) (h : DataW.Trod enc Try.prog W 0 (fun _ => true) true 24 v d p) :
    ∃ (r : Rc) (q : Option Addr) (c : Nat), v = .agg #[.int .i64 r.kind, .slice q r.parts.length c, .string r.bytes] ∧ Pts W q r.parts.length r.parts ∧ r.parts.length ≤ 9223372036854775807 ∧ r.bytes.size ≤ 9223372036854775807 ∧ (∀ p ∈ r.parts, PtB p) ∧ I64 r.kind := by
  obtain ⟨cs, rfl, hsz⟩ := okWide_struct Try.underlying24 hval
  obtain ⟨l⟩ := cs
  match l, hsz.trans cells24 with
  | [k0, k1, k2], _ =>
    obtain ⟨fuel, hf⟩ := h
    obtain ⟨ys, n', _, _, _, hyl, hg⟩ := DataW.trod_struct Try.underlying24 hf
    match ys, hyl with
    | [y0, y1, y2], _ =>
      have g0 : DataW.trod enc Try.prog W 0 (fun _ => true) true n' 3 [k0] = some y0 := by
        have h := hg 0 ⟨"Kind", 3, 0, false, "", "", 0⟩ rfl
        dsimp only at h
        rw [cells3] at h
        exact h
      have g1 : DataW.trod enc Try.prog W 0 (fun _ => true) true n' 22 [k1] = some y1 := by
        have h := hg 1 ⟨"Parts", 22, 1, false, "", "", 8⟩ rfl
        dsimp only at h
        rw [cells22] at h
        exact h
      have g2 : DataW.trod enc Try.prog W 0 (fun _ => true) true n' 9 [k2] = some y2 := by
        have h := hg 2 ⟨"Bytes", 9, 2, false, "", "", 32⟩ rfl
        dsimp only at h
        rw [cells9] at h
        exact h
      obtain ⟨z0, e0, _, w0⟩ := DataW.trod_int Try.underlying3 g0
      obtain ⟨q, c, l, rfl, hP, hl, hB⟩ := field_parts g1
      obtain ⟨z2, e2, _, w2⟩ := DataW.trod_string Try.underlying9 g2
      have e0' : k0 = .int .i64 z0 := by simpa using e0
      have e2' : k2 = .string z2 := by simpa using e2
      subst e0' e2'
      exact ⟨⟨z0, l, z2⟩, q, c, rfl, hP, hl, by unfold maxLen at w2; simp only; omega, hB, i64_of w0⟩
end
end Go.Proofs.Ytpdihgmgcamgkaa
