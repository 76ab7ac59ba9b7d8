/- What the rows of these laws share: steps and objects that came in, and how a call that returns true meets its row. -/
import Derived.Test.YtekmboolfjicbaaRows
import Derived.Test.YtekmboolfjicbaaLMore
import Derived.Deep.Grids
import Derived.Deep.Slices
import Derived.ProofKit
import Derived.OpenShut
import Derived.ChangeSame
import Derived.SizedLaws
import Derived.Carry
set_option maxRecDepth 20000
set_option linter.unusedSimpArgs false
set_option linter.constructorNameAsVariable false
namespace Go.Proofs.Ytekmboolfjicbaa
open Go.ChangeShapes Go.WideShapes Go.ChangeAt Go.RowKit

theorem own : ownKnob Try.prog.godebug = none := by kernel_rfl
theorem cells3 : Try.prog.cellsOf 3 = 1 := by kernel_rfl
theorem cells5 : Try.prog.cellsOf 5 = 1 := by kernel_rfl
theorem cells34 : Try.prog.cellsOf 34 = 1 := by kernel_rfl
theorem cells58 : Try.prog.cellsOf 58 = 1 := by kernel_rfl
theorem cells36 : Try.prog.cellsOf 36 = 2 := by kernel_rfl
theorem cells61 : Try.prog.cellsOf 61 = 3 := by kernel_rfl
theorem cells23 : Try.prog.cellsOf 23 = 1 := by kernel_rfl
theorem cells59 : Try.prog.cellsOf 59 = 1 := by kernel_rfl
theorem cells63 : Try.prog.cellsOf 63 = 9 := by kernel_rfl
section
variable {H : Type} {enc : TypeId × Value → H}

/-- A call that leaves all that was there as it was meets the row's post. -/
theorem law_post {P : Program} {f : Func} {s : ChangeSpec} {apart fresh handsOn : Bool} {W W' : World} {args : Array Value} {v : Value} {ds gs : List (DataW H)} {before pa pv : List MemPlace}
    (hW : DataW.Whole enc P f.params.toList s.vars apart W args.toList ds gs before)
    (hres : ∀ (b : Nat) (sp : Nat → Bool) (hd : Bool), DataW.TrodAll enc P W' b sp hd f.resultTypes.toList (v.resultList f.resultTypes.size) (s.fn H (ds ++ gs)).results [])
    (hargs : DataW.TrodAll enc P W' 0 (fun b => decide (b < W.heap.size)) true f.params.toList args.toList (s.fn H (ds ++ gs)).args pa)
    (hvars : DataW.TrodVars enc P W' (fun b => decide (b < W.heap.size)) s.vars (s.fn H (ds ++ gs)).vars pv)
    (hps : before = pa ++ pv) (hb : Below W.heap.size W W') : s.post enc P f apart fresh handsOn false W args v W' :=
  ⟨ds, gs, before, [], pa, pv, hW, hres _ _ _, hargs, hvars, World.keptBut_mono (fun p hp => ⟨hp, .inr (List.mem_append.1 (hps ▸ hp))⟩) (hb.frame (· ∈ before)), fun h => by cases h⟩

theorem i64_of {n : Int} (h : (Lit.int .i64 n).wf = true) : I64 n := by
  simp only [Lit.wf, Bool.and_eq_true, decide_eq_true_eq] at h
  exact h
theorem u8_of {n : Int} (h : (Lit.int .u8 n).wf = true) : 0 ≤ n ∧ n < 256 := by
  simp only [Lit.wf, Bool.and_eq_true, decide_eq_true_eq] at h
  have h1 := h.1
  have h2 := h.2
  simp [IntKind.max, IntKind.min, IntKind.bits, IntKind.signed] at h1 h2
  omega
/-- The cells of a value. -/
theorem val_cells {W : World} {n' : Nat} {y : DataW H × List MemPlace} {k0 k1 : Value} (h : DataW.trod enc Try.prog W 0 (fun _ => true) true n' 36 [k0, k1] = some y) :
    ∃ v : Int × Int, k0 = .int .i64 v.1 ∧ k1 = .int .i64 v.2 ∧ I64 v.1 ∧ I64 v.2 := by
  obtain ⟨ys, n1, _, _, _, hyl, hg⟩ := DataW.trod_struct Try.underlying36 h
  match ys, hyl with
  | [y0, y1], _ =>
    have g0 : DataW.trod enc Try.prog W 0 (fun _ => true) true n1 34 [k0] = some y0 := by
      have h := hg 0 ⟨"K", 34, 0, false, "", "", 0⟩ rfl
      dsimp only at h
      rw [cells34] at h
      exact h
    have g1 : DataW.trod enc Try.prog W 0 (fun _ => true) true n1 3 [k1] = some y1 := by
      have h := hg 1 ⟨"N", 3, 1, false, "", "", 8⟩ rfl
      dsimp only at h
      rw [cells3] at h
      exact h
    obtain ⟨z0, e0, _, w0⟩ := DataW.trod_int Try.underlying34 g0
    obtain ⟨z1, e1, _, w1⟩ := DataW.trod_int Try.underlying3 g1
    have e0' : k0 = .int .i64 z0 := by simpa using e0
    have e1' : k1 = .int .i64 z1 := by simpa using e1
    exact ⟨(z0, z1), e0', e1', i64_of w0, i64_of w1⟩
/-- A slice of values. -/
theorem field_vals {W : World} {n' : Nat} {v : Value} {y : DataW H × List MemPlace} (h : DataW.trod enc Try.prog W 0 (fun _ => true) true n' 23 [v] = some y) :
    ∃ (q : Option Addr) (c : Nat) (l : List (Int × Int)), v = .slice q l.length c ∧ Vls W q l.length l ∧ l.length ≤ 9223372036854775807 ∧ FitV l ∧ (q = none → c = 0) := by
  rcases Go.Deep.open_slice Try.underlying23 h with ⟨hcs, _⟩ | ⟨a, len, cap, m, n, D, Pl, hcs, _, hl, hm, hmm, _, hr⟩
  · simp at hcs
    subst hcs
    exact ⟨none, 0, [], rfl, ⟨rfl, fun hn => absurd hn (Nat.lt_irrefl 0)⟩, by simp, fun x hx => (by cases hx), fun _ => rfl⟩
  · simp at hcs
    subst hcs
    simp only [if_true] at hmm
    rw [cells36] at hr
    have hone : ∀ i, i < len → ∃ x : Int × Int, (I64 x.1 ∧ I64 x.2) ∧ (∀ (b o : Nat) sp, a = ⟨b, o, sp⟩ → (i = 0 → sp = none) ∧ (W.cell? ⟨b, o + i * 2, none⟩ = some (.int .i64 x.1) ∧ W.cell? ⟨b, o + i * 2 + 1, none⟩ = some (.int .i64 x.2))) := fun i hi => by
      obtain ⟨cs', hc, ht⟩ := hr i (by omega)
      obtain ⟨_, hlen, hat⟩ := World.cells?_some hc
      match cs', hlen with
      | [k0, k1], _ =>
        obtain ⟨x, rfl, rfl, hB⟩ := val_cells ht
        refine ⟨x, hB, fun b o sp e => ?_⟩
        subst e
        have h0 := hat 0 (by omega)
        have hsp : i = 0 → sp = none := fun e => by
          subst e
          simpa [Addr.add] using World.cell?_spot h0
        refine ⟨hsp, ?_⟩
        have ha : (⟨b, o, sp⟩ : Addr).add (i * 2) = ⟨b, o + i * 2, none⟩ := by
          rcases Nat.eq_zero_or_pos i with e | e
          · subst e; rw [hsp rfl]; rfl
          · simp [Addr.add]; omega
        rw [ha] at hat
        have hs : ∀ j (hj : j < 2), W.cell? ⟨b, o + i * 2 + j, none⟩ = [Value.int .i64 x.1, .int .i64 x.2][j]? := fun j hj => by
          have := hat j hj
          rw [Go.WideShapes.add_plain] at this
          exact this
        exact ⟨hs 0 (by omega), hs 1 (by omega)⟩
    obtain ⟨f, hf'⟩ := Go.Deep.choose_lt hone
    have hlen : ((List.range len).map f).length = len := by simp
    refine ⟨some a, cap, (List.range len).map f, by rw [hlen], ⟨rfl, fun hn => ?_⟩, by rw [hlen]; unfold maxLen at hm; omega, fun p hp => ?_, fun h => by cases h⟩
    · rw [hlen] at hn ⊢
      obtain ⟨b, o, sp⟩ := a
      have hsp : sp = none := ((hf' 0 hn).2 b o sp rfl).1 rfl
      refine ⟨b, o, by rw [hsp], fun i hi => ?_⟩
      have := ((hf' i hi).2 b o sp rfl).2
      rw [List.getD_eq_getElem?_getD, List.getElem?_map, List.getElem?_range hi]
      exact this
    · obtain ⟨i, hi, rfl⟩ := List.mem_map.1 hp
      exact (hf' i (List.mem_range.1 hi)).1
theorem bys_of {W : World} {a : Addr} {len : Nat} {zs : List Int} (hz : len ≤ zs.length) (hcell : ∀ i, i < zs.length → W.cell? (a.add i) = some (.int .u8 (zs.getD i 0))) (hwz : ∀ n ∈ zs, (Lit.int .u8 n).wf = true) :
    Bys W (some a) len ((zs.take len).map Int.toNat) := by
  refine ⟨by rw [List.length_map, List.length_take]; omega, fun x hx => ?_, fun hn => ?_⟩
  · obtain ⟨z, hz1, rfl⟩ := List.mem_map.1 hx
    exact (by have := u8_of (hwz z (List.mem_of_mem_take hz1)); omega)
  · obtain ⟨b, o, sp⟩ := a
    have hc : ∀ i, i < len → W.cell? ((⟨b, o, sp⟩ : Addr).add i) = some (.int .u8 ((((zs.take len).map Int.toNat).getD i 0 : Nat) : Int)) := fun i hi => by
      rw [hcell i (by omega)]
      congr 2
      rw [List.getD_eq_getElem?_getD, List.getD_eq_getElem?_getD, List.getElem?_map, List.getElem?_take_of_lt hi]
      cases hzi : zs[i]? with
      | none => rfl
      | some z =>
        have hb := u8_of (hwz z (List.mem_of_getElem? hzi))
        simp only [Option.getD_some, Option.map_some]
        omega
    obtain rfl : sp = none := by simpa [Addr.add] using World.cell?_spot (hc 0 hn)
    exact ⟨b, o, rfl, fun i hi => by rw [← Go.WideShapes.add_plain]; exact hc i hi⟩
/-- The bytes of an object. -/
theorem field_bys {W : World} {base : Nat} {sp : Nat → Bool} {held : Bool} {fuel : Nat} {v : Value} {y : DataW H × List MemPlace} (h : DataW.trod enc Try.prog W base sp held fuel 59 [v] = some y) :
    ∃ (p : Option Addr) (m c : Nat) (ds : List Nat), v = .slice p m c ∧ Bys W p m ds ∧ (p = none → c = 0) ∧ m ≤ 9223372036854775807 := by
  rcases open_ints Try.underlying59 Try.underlying5 cells5 h with ⟨hcs, _⟩ | ⟨a, len, cap, zs, hcs, _, hl, hm, hz, _, hcell, hwz⟩
  · simp at hcs
    exact ⟨none, 0, 0, [], hcs, Bys.zero _ _, fun _ => rfl, by omega⟩
  · simp at hcs
    exact ⟨some a, len, cap, _, hcs, bys_of (by rw [hz]; split <;> omega) hcell hwz, fun h => (by cases h), by unfold maxLen at hm; omega⟩
/-- The cells of an object. -/
theorem obj_cells {W : World} {n' : Nat} {y : DataW H × List MemPlace} {k0 k1 k2 : Value} (h : DataW.trod enc Try.prog W 0 (fun _ => true) true n' 61 [k0, k1, k2] = some y) :
    ∃ (o : Ob) (q : Option Addr) (n c : Nat) (p : Option Addr) (d e : Nat), k0 = .int .i64 o.k ∧ k1 = .slice q n c ∧ k2 = .slice p d e ∧ ObV W q n p d o ∧ (q = none → c = 0) ∧ (p = none → e = 0) := by
  obtain ⟨ys, n1, _, _, _, hyl, hg⟩ := DataW.trod_struct Try.underlying61 h
  match ys, hyl with
  | [y0, y1, y2], _ =>
    have g0 : DataW.trod enc Try.prog W 0 (fun _ => true) true n1 58 [k0] = some y0 := by
      have h := hg 0 ⟨"Kind", 58, 0, false, "", "", 0⟩ rfl
      dsimp only at h
      rw [cells58] at h
      exact h
    have g1 : DataW.trod enc Try.prog W 0 (fun _ => true) true n1 23 [k1] = some y1 := by
      have h := hg 1 ⟨"Vals", 23, 1, false, "", "", 8⟩ rfl
      dsimp only at h
      rw [cells23] at h
      exact h
    have g2 : DataW.trod enc Try.prog W 0 (fun _ => true) true n1 59 [k2] = some y2 := by
      have h := hg 2 ⟨"Bytes", 59, 2, false, "", "", 32⟩ rfl
      dsimp only at h
      rw [cells59] at h
      exact h
    obtain ⟨z0, e0, _, w0⟩ := DataW.trod_int Try.underlying58 g0
    obtain ⟨q, c, l, rfl, hV, hn, hF, hq⟩ := field_vals g1
    obtain ⟨p, m, e, ds, rfl, hB, hp, hm⟩ := field_bys g2
    have e0' : k0 = .int .i64 z0 := by simpa using e0
    exact ⟨⟨z0, l, ds⟩, q, _, c, p, m, e, e0', rfl, rfl, ⟨hV, hB, hF, hn, hm⟩, hq, hp⟩
/-- An object by value. -/
theorem open_obj {W : World} {base : Nat} {v : Value} {d : DataW H} {p : List MemPlace} (hval : Value.okWide Try.prog W .any base 61 v) (h : DataW.Trod enc Try.prog W 0 (fun _ => true) true 61 v d p) :
    ∃ (o : Ob) (q : Option Addr) (n c : Nat) (r : Option Addr) (d e : Nat), v = .agg #[.int .i64 o.k, .slice q n c, .slice r d e] ∧ ObV W q n r d o := by
  obtain ⟨cs, rfl, hsz⟩ := okWide_struct Try.underlying61 hval
  obtain ⟨l⟩ := cs
  match l, hsz.trans cells61 with
  | [k0, k1, k2], _ =>
    obtain ⟨fuel, hf⟩ := h
    obtain ⟨o, q, n, c, p, d, e, rfl, rfl, rfl, hO, _, _⟩ := obj_cells hf
    exact ⟨o, q, n, c, p, d, e, rfl, hO⟩
instance : Inhabited Opv := ⟨⟨0, 0, (0, 0), (0, 0), none, 0, 0, none, 0, 0, ⟨0, [], []⟩⟩⟩
/-- Steps. -/
theorem open_ops {W : World} {base : Nat} {v : Value} {d : DataW H} {p : List MemPlace} (hval : Value.okWide Try.prog W .any base 22 v) (h : DataW.Trod enc Try.prog W 0 (fun _ => true) true 22 v d p) :
    ∃ (q : Option Addr) (n c : Nat) (f : Nat → Opv), v = .slice q n c ∧ OpsIn W q n f ∧ n ≤ 9223372036854775807 := by
  obtain ⟨a1, len, cap, rfl⟩ := okWide_slice Try.underlying22 hval
  obtain ⟨fuel, hf⟩ := h
  rcases Go.Deep.open_slice Try.underlying22 hf with ⟨hcs, _⟩ | ⟨a, len', cap', m, n, D, Pl, hcs, _, hl, hm, hmm, _, hr⟩
  · simp [Value.cells] at hcs
    obtain ⟨rfl, rfl, rfl⟩ := hcs
    exact ⟨none, 0, 0, default, rfl, fun h => absurd h (Nat.lt_irrefl 0), by omega⟩
  · simp [Value.cells] at hcs
    obtain ⟨rfl, rfl, rfl⟩ := hcs
    simp only [if_true] at hmm
    rw [cells63] at hr
    have hone : ∀ i, i < len → ∃ x : Opv, ∀ (b o : Nat) sp, a = ⟨b, o, sp⟩ → (i = 0 → sp = none) ∧ OpAt W b (o + i * 9) x := fun i hi => by
      obtain ⟨cs', hc, ht⟩ := hr i (by omega)
      obtain ⟨_, hlen, hat⟩ := World.cells?_some hc
      obtain ⟨ys, n', _, _, _, hyl, hg⟩ := DataW.trod_struct Try.underlying63 ht
      match cs', hlen with
      | [k0, k1, k2, k3, k4, k5, k6, k7, k8], _ =>
        match ys, hyl with
        | [y0, y1, y2, y3, y4], _ =>
          have g0 : DataW.trod enc Try.prog W 0 (fun _ => true) true n' 3 [k0] = some y0 := by
            have h := hg 0 ⟨"Kind", 3, 0, false, "", "", 0⟩ rfl
            dsimp only at h
            rw [cells3] at h
            exact h
          have g1 : DataW.trod enc Try.prog W 0 (fun _ => true) true n' 3 [k1] = some y1 := by
            have h := hg 1 ⟨"I", 3, 1, false, "", "", 8⟩ rfl
            dsimp only at h
            rw [cells3] at h
            exact h
          have g2 : DataW.trod enc Try.prog W 0 (fun _ => true) true n' 36 [k2, k3] = some y2 := by
            have h := hg 2 ⟨"V", 36, 2, false, "", "", 16⟩ rfl
            dsimp only at h
            rw [cells36] at h
            exact h
          have g3 : DataW.trod enc Try.prog W 0 (fun _ => true) true n' 36 [k4, k5] = some y3 := by
            have h := hg 3 ⟨"X", 36, 4, false, "", "", 32⟩ rfl
            dsimp only at h
            rw [cells36] at h
            exact h
          have g5 : DataW.trod enc Try.prog W 0 (fun _ => true) true n' 61 [k6, k7, k8] = some y4 := by
            have h := hg 4 ⟨"O", 61, 6, false, "", "", 48⟩ rfl
            dsimp only at h
            rw [cells61] at h
            exact h
          obtain ⟨z0, e0, _, w0⟩ := DataW.trod_int Try.underlying3 g0
          obtain ⟨z1, e1, _, w1⟩ := DataW.trod_int Try.underlying3 g1
          obtain ⟨v, rfl, rfl, hv0, hv⟩ := val_cells g2
          obtain ⟨x, rfl, rfl, hx0, hx⟩ := val_cells g3
          obtain ⟨ob, q, nn, c, p2, d2, e2, rfl, rfl, rfl, hO, hq, hp⟩ := obj_cells g5
          have e0' : k0 = .int .i64 z0 := by simpa using e0
          have e1' : k1 = .int .i64 z1 := by simpa using e1
          subst e0' e1'
          refine ⟨⟨z0, z1, v, x, q, nn, c, p2, d2, e2, ob⟩, fun b o sp e => ?_⟩
          subst e
          have h0 := hat 0 (by omega)
          have hsp : i = 0 → sp = none := fun e => by
            subst e
            simpa [Addr.add] using World.cell?_spot h0
          refine ⟨hsp, ?_⟩
          have ha : (⟨b, o, sp⟩ : Addr).add (i * 9) = ⟨b, o + i * 9, none⟩ := by
            rcases Nat.eq_zero_or_pos i with e | e
            · subst e; rw [hsp rfl]; rfl
            · simp [Addr.add]; omega
          rw [ha] at hat
          have hs : ∀ j (hj : j < 9), W.cell? ⟨b, o + i * 9 + j, none⟩ = [Value.int .i64 z0, .int .i64 z1, .int .i64 v.1, .int .i64 v.2, .int .i64 x.1, .int .i64 x.2, .int .i64 ob.k, .slice q nn c, .slice p2 d2 e2][j]? := fun j hj => by
            have := hat j hj
            rw [Go.WideShapes.add_plain] at this
            exact this
          exact ⟨hs 0 (by omega), hs 1 (by omega), hs 2 (by omega), hs 3 (by omega), hs 4 (by omega), hs 5 (by omega), hs 6 (by omega), hs 7 (by omega), hs 8 (by omega), hO, hq, hp, ⟨hv0, hv⟩, ⟨hx0, hx⟩⟩
    obtain ⟨f, hf'⟩ := Go.Deep.choose_lt hone
    refine ⟨_, _, _, f, rfl, fun hn => ?_, by unfold maxLen at hm; omega⟩
    obtain ⟨b, o, sp⟩ := a
    obtain rfl : sp = none := (hf' 0 hn b o sp rfl).1 rfl
    exact ⟨b, o, rfl, fun i hi => (hf' i hi b o none rfl).2⟩
/-- Values. -/
theorem open_vals {W : World} {base : Nat} {v : Value} {d : DataW H} {p : List MemPlace} (h : DataW.Trod enc Try.prog W 0 (fun _ => true) true 23 v d p) (hval : Value.okWide Try.prog W .any base 23 v) :
    ∃ (q : Option Addr) (c : Nat) (l : List (Int × Int)), v = .slice q l.length c ∧ Vls W q l.length l ∧ l.length ≤ 9223372036854775807 ∧ FitV l ∧ (q = none → c = 0) := by
  obtain ⟨a1, len, cap, rfl⟩ := okWide_slice Try.underlying23 hval
  obtain ⟨fuel, hf⟩ := h
  exact field_vals hf
end
end Go.Proofs.Ytekmboolfjicbaa
