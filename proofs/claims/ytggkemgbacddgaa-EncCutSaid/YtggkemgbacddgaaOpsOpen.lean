/- A slice of things that came in. -/
import Derived.Test.YtggkemgbacddgaaLaw
import Derived.Test.YtggkemgbacddgaaAll
import Derived.Deep.Slices
namespace Go.Proofs.Ytggkemgbacddgaa
open Go.ChangeShapes Go.WideShapes Go.ChangeAt Go.RowKit

theorem cells36 : Try.prog.cellsOf 36 = 3 := by kernel_rfl
theorem cells3 : Try.prog.cellsOf 3 = 1 := by kernel_rfl
theorem cells22 : Try.prog.cellsOf 22 = 1 := by kernel_rfl

theorem bys_of {W : World} {a : Addr} {len : Nat} {zs : List Int} (hz : len ≤ zs.length) (hcell : ∀ i, i < zs.length → W.cell? (a.add i) = some (.int .u8 (zs.getD i 0))) (hwz : ∀ n ∈ zs, (Lit.int .u8 n).wf = true) :
    Bys W (some a) len ((zs.take len).map Int.toNat) := by
  refine ⟨by rw [List.length_map, List.length_take]; omega, fun x hx => ?_, fun hn => ?_⟩
  · obtain ⟨z, hz1, rfl⟩ := List.mem_map.1 hx
    exact (by have := u8_of (hwz z (List.mem_of_mem_take hz1)); omega)
  · obtain ⟨b, o, sp⟩ := a
    have hc : ∀ i, i < len → W.cell? ((⟨b, o, sp⟩ : Addr).add i) = some (.int .u8 ((((zs.take len).map Int.toNat).getD i 0 : Nat) : Int)) := fun i hi => by
      rw [hcell i (by omega)]
      have hb := range_u8 hwz i
      congr 2
      rw [List.getD_eq_getElem?_getD, List.getD_eq_getElem?_getD, List.getElem?_map, List.getElem?_take_of_lt hi]
      cases hzi : zs[i]? with
      | none => rfl
      | some z =>
        rw [hzi] at hb
        simp only [Option.getD_some, Option.map_some] at hb ⊢
        omega
    obtain rfl : sp = none := by simpa [Addr.add] using World.cell?_spot (hc 0 hn)
    exact ⟨b, o, rfl, fun i hi => by rw [← Go.WideShapes.add_plain]; exact hc i hi⟩

section
variable {H : Type} {enc : TypeId × Value → H}
/-- The bytes of a thing. -/
theorem field_bys {W : World} {base : Nat} {sp : Nat → Bool} {held : Bool} {fuel : Nat} {v : Value} {y : DataW H × List MemPlace} (h : DataW.trod enc Try.prog W base sp held fuel 22 [v] = some y) :
    ∃ (p : Option Addr) (m c : Nat) (ds : List Nat), v = .slice p m c ∧ Bys W p m ds ∧ Fit p m c := by
  rcases open_ints Try.underlying22 Try.underlying5 cells5 h with ⟨hcs, _⟩ | ⟨a, len, cap, zs, hcs, _, hl, _, hz, _, hcell, hwz⟩
  · simp at hcs
    exact ⟨none, 0, 0, [], hcs, Bys.zero _ _, ⟨Nat.le_refl _, fun _ => rfl⟩⟩
  · simp at hcs
    exact ⟨some a, len, cap, _, hcs, bys_of (by rw [hz]; split <;> omega) hcell hwz, ⟨hl, fun h => by cases h⟩⟩

instance : Inhabited Opv := ⟨⟨0, 0, none, 0, 0, []⟩⟩
theorem open_ops {W : World} {base : Nat} {v : Value} {d : DataW H} {p : List MemPlace} (hval : Value.okWide Try.prog W .any base 29 v) (h : DataW.Trod enc Try.prog W 0 (fun _ => true) true 29 v d p) :
    ∃ (q : Option Addr) (n c : Nat) (f : Nat → Opv), v = .slice q n c ∧ (0 < n → ∃ b o, q = some ⟨b, o, none⟩ ∧ OpsAt W b o n f) ∧ n ≤ 9223372036854775807 := by
  obtain ⟨a1, len, cap, rfl⟩ := okWide_slice Try.underlying29 hval
  obtain ⟨fuel, hf⟩ := h
  rcases Go.Deep.open_slice Try.underlying29 hf with ⟨hcs, _⟩ | ⟨a, len', cap', m, n, D, Pl, hcs, _, hl, hm, hmm, _, hr⟩
  · simp [Value.cells] at hcs
    obtain ⟨rfl, rfl, rfl⟩ := hcs
    exact ⟨none, 0, 0, default, rfl, fun h => absurd h (Nat.lt_irrefl 0), by omega⟩
  · simp [Value.cells] at hcs
    obtain ⟨rfl, rfl, rfl⟩ := hcs
    simp only [if_true] at hmm
    rw [cells36] at hr
    have hone : ∀ i, i < len → ∃ x : Opv, W.cell? (a.add (i * 3)) = some (.int .i64 x.kind) ∧ W.cell? ((a.add (i * 3)).add 1) = some (.int .i64 x.num) ∧ W.cell? ((a.add (i * 3)).add 2) = some (.slice x.p x.m x.c) ∧
        -9223372036854775808 ≤ x.num ∧ x.num ≤ 9223372036854775807 ∧ Bys W x.p x.m x.ds ∧ Fit x.p x.m x.c := fun i hi => by
      obtain ⟨cs', hc, ht⟩ := hr i (by omega)
      obtain ⟨_, hlen, hat⟩ := World.cells?_some hc
      obtain ⟨ys, n', _, _, _, hyl, hg⟩ := DataW.trod_struct Try.underlying36 ht
      match cs', hlen with
      | [k0, k1, k2], _ =>
        match ys, hyl with
        | [y0, y1, y2], _ =>
          have g0 : DataW.trod enc Try.prog W 0 (fun _ => true) true n' 3 [k0] = some y0 := by
            have h := hg 0 ⟨"Kind", 3, 0, false, "", "", 0⟩ rfl
            dsimp only at h
            rw [cells3] at h
            exact h
          have g1 : DataW.trod enc Try.prog W 0 (fun _ => true) true n' 3 [k1] = some y1 := by
            have h := hg 1 ⟨"N", 3, 1, false, "", "", 8⟩ rfl
            dsimp only at h
            rw [cells3] at h
            exact h
          have g2 : DataW.trod enc Try.prog W 0 (fun _ => true) true n' 22 [k2] = some y2 := by
            have h := hg 2 ⟨"Data", 22, 2, false, "", "", 16⟩ rfl
            dsimp only at h
            rw [cells22] at h
            exact h
          obtain ⟨z0, e0, _, w0⟩ := DataW.trod_int Try.underlying3 g0
          obtain ⟨z1, e1, _, w1⟩ := DataW.trod_int Try.underlying3 g1
          obtain ⟨p2, m2, c2, ds, e2, hB, hF⟩ := field_bys g2
          have e0' : k0 = .int .i64 z0 := by simpa using e0
          have e1' : k1 = .int .i64 z1 := by simpa using e1
          subst e0' e1' e2
          have r1 := i64_of w1
          exact ⟨⟨z0, z1, p2, m2, c2, ds⟩, by have := hat 0 (by omega); simpa [Addr.add] using this, hat 1 (by omega), hat 2 (by omega), r1.1, r1.2, hB, hF⟩
    obtain ⟨f, hf'⟩ := Go.Deep.choose_lt hone
    refine ⟨_, _, _, f, rfl, fun hn => ?_, by unfold maxLen at hm; omega⟩
    obtain ⟨b, o, sp⟩ := a
    obtain rfl : sp = none := by
      have h0 := (hf' 0 hn).1
      simpa [Addr.add] using World.cell?_spot h0
    refine ⟨b, o, rfl, fun i hi => ?_⟩
    obtain ⟨h0, h1, h2, h3, h4, h5, h6⟩ := hf' i hi
    rw [Go.WideShapes.add_plain] at h0 h1 h2
    rw [Go.WideShapes.add_plain] at h1 h2
    exact ⟨h0, h1, h2, h3, h4, h5, h6⟩
end
end Go.Proofs.Ytggkemgbacddgaa
