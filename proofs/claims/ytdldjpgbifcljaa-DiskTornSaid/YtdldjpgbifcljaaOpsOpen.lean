/- Steps that came in: one by value, and a slice of them. -/
import Derived.Test.YtdldjpgbifcljaaLaw
import Derived.Test.YtdldjpgbifcljaaPlayed
import Derived.Deep.Slices
import Derived.Deep.Grids
namespace Go.Proofs.Ytdldjpgbifcljaa
open Go.ChangeShapes Go.WideShapes Go.ChangeAt Go.RowKit

theorem cells39 : Try.prog.cellsOf 39 = 7 := by kernel_rfl
theorem cells37 : Try.prog.cellsOf 37 = 1 := by kernel_rfl
theorem cells5 : Try.prog.cellsOf 5 = 1 := by kernel_rfl
theorem cells4 : Try.prog.cellsOf 4 = 1 := by kernel_rfl

section
variable {H : Type} {enc : TypeId × Value → H}
/-- A list of bools. -/
theorem field_kp {W : World} {base : Nat} {held : Bool} {fuel : Nat} {v : Value} {y : DataW H × List MemPlace} (h : DataW.trod enc Try.prog W base (fun _ => true) held fuel 37 [v] = some y) :
    ∃ (p : Option Addr) (n c : Nat) (f : Nat → Bool), v = .slice p n c ∧ Kp W p n f ∧ n ≤ 9223372036854775807 := by
  rcases Go.Deep.open_bools Try.underlying37 Try.underlying4 cells4 h with ⟨hcs, _⟩ | ⟨a, len, cap, B, hcs, _, hl, hm, _, hcell⟩
  · simp at hcs
    exact ⟨none, 0, 0, fun _ => false, hcs, fun h => absurd h (Nat.lt_irrefl 0), by omega⟩
  · simp at hcs
    refine ⟨some a, len, cap, B, hcs, fun hn => ?_, by unfold maxLen at hm; omega⟩
    obtain ⟨b, o, sp⟩ := a
    obtain rfl : sp = none := by simpa [Addr.add] using World.cell?_spot (hcell 0 (by omega))
    exact ⟨b, o, rfl, fun r hr => by have := hcell r (by omega); rw [Go.WideShapes.add_plain] at this; exact this⟩
/-- The cells of a step. -/
theorem op_cells {W : World} {n' : Nat} {ys : List (DataW H × List MemPlace)} {k0 k1 k2 k3 k4 k5 k6 : Value} (hyl : ys.length = 7)
    (hg : ∀ (i : Nat) (f : Field), #[({ name := "Kind", type := 3, offset := 0, embedded := false, tag := "", pkgPath := "", byteOffset := 0 } : Field), { name := "At", type := 3, offset := 1, embedded := false, tag := "", pkgPath := "", byteOffset := 8 }, { name := "N", type := 3, offset := 2, embedded := false, tag := "", pkgPath := "", byteOffset := 16 }, { name := "Torn", type := 3, offset := 3, embedded := false, tag := "", pkgPath := "", byteOffset := 24 }, { name := "Long", type := 3, offset := 4, embedded := false, tag := "", pkgPath := "", byteOffset := 32 }, { name := "Fill", type := 5, offset := 5, embedded := false, tag := "", pkgPath := "", byteOffset := 40 }, { name := "Keep", type := 37, offset := 6, embedded := false, tag := "", pkgPath := "", byteOffset := 48 }][i]? = some f →
      DataW.trod enc Try.prog W 0 (fun _ => true) true n' f.type (([k0, k1, k2, k3, k4, k5, k6].drop f.offset).take (Try.prog.cellsOf f.type)) = ys[i]?) :
    ∃ o : Opv, k0 = .int .i64 o.kind ∧ k1 = .int .i64 o.at_ ∧ k2 = .int .i64 o.n ∧ k3 = .int .i64 o.torn ∧ k4 = .int .i64 o.long ∧ k5 = .int .u8 (o.fill : Int) ∧ k6 = .slice o.p o.nk o.ck ∧ OpB o ∧ Kp W o.p o.nk o.keep := by
  match ys, hyl with
  | [y0, y1, y2, y3, y4, y5, y6], _ =>
    have g0 : DataW.trod enc Try.prog W 0 (fun _ => true) true n' 3 [k0] = some y0 := by
      have h := hg 0 ⟨"Kind", 3, 0, false, "", "", 0⟩ rfl
      dsimp only at h
      rw [cells3] at h
      exact h
    have g1 : DataW.trod enc Try.prog W 0 (fun _ => true) true n' 3 [k1] = some y1 := by
      have h := hg 1 ⟨"At", 3, 1, false, "", "", 8⟩ rfl
      dsimp only at h
      rw [cells3] at h
      exact h
    have g2 : DataW.trod enc Try.prog W 0 (fun _ => true) true n' 3 [k2] = some y2 := by
      have h := hg 2 ⟨"N", 3, 2, false, "", "", 16⟩ rfl
      dsimp only at h
      rw [cells3] at h
      exact h
    have g3 : DataW.trod enc Try.prog W 0 (fun _ => true) true n' 3 [k3] = some y3 := by
      have h := hg 3 ⟨"Torn", 3, 3, false, "", "", 24⟩ rfl
      dsimp only at h
      rw [cells3] at h
      exact h
    have g4 : DataW.trod enc Try.prog W 0 (fun _ => true) true n' 3 [k4] = some y4 := by
      have h := hg 4 ⟨"Long", 3, 4, false, "", "", 32⟩ rfl
      dsimp only at h
      rw [cells3] at h
      exact h
    have g5 : DataW.trod enc Try.prog W 0 (fun _ => true) true n' 5 [k5] = some y5 := by
      have h := hg 5 ⟨"Fill", 5, 5, false, "", "", 40⟩ rfl
      dsimp only at h
      rw [cells5] at h
      exact h
    have g6 : DataW.trod enc Try.prog W 0 (fun _ => true) true n' 37 [k6] = some y6 := by
      have h := hg 6 ⟨"Keep", 37, 6, false, "", "", 48⟩ rfl
      dsimp only at h
      rw [cells37] at h
      exact h
    obtain ⟨z0, e0, _, w0⟩ := DataW.trod_int Try.underlying3 g0
    obtain ⟨z1, e1, _, w1⟩ := DataW.trod_int Try.underlying3 g1
    obtain ⟨z2, e2, _, w2⟩ := DataW.trod_int Try.underlying3 g2
    obtain ⟨z3, e3, _, w3⟩ := DataW.trod_int Try.underlying3 g3
    obtain ⟨z4, e4, _, w4⟩ := DataW.trod_int Try.underlying3 g4
    obtain ⟨z5, e5, _, w5⟩ := DataW.trod_int Try.underlying5 g5
    obtain ⟨p, n, c, f, e6, hK, hn⟩ := field_kp g6
    have e0' : k0 = .int .i64 z0 := by simpa using e0
    have e1' : k1 = .int .i64 z1 := by simpa using e1
    have e2' : k2 = .int .i64 z2 := by simpa using e2
    have e3' : k3 = .int .i64 z3 := by simpa using e3
    have e4' : k4 = .int .i64 z4 := by simpa using e4
    have e5' : k5 = .int .u8 z5 := by simpa using e5
    have r5 := u8_of w5
    exact ⟨⟨z0, z1, z2, z3, z4, z5.toNat, p, n, c, f⟩, e0', e1', e2', e3', e4', by rw [e5']; congr 1; show z5 = ((z5.toNat : Nat) : Int); omega, e6, ⟨i64_of w0, i64_of w1, i64_of w2, i64_of w3, i64_of w4, by show z5.toNat < 256; omega, hn⟩, hK⟩

/-- A step by value. -/
theorem open_op {W : World} {base : Nat} {v : Value} {d : DataW H} {p : List MemPlace} (hval : Value.okWide Try.prog W .any base 39 v) (h : DataW.Trod enc Try.prog W 0 (fun _ => true) true 39 v d p) :
    ∃ b : Opv, v = b.val ∧ OpB b ∧ Kp W b.p b.nk b.keep := by
  obtain ⟨cs, rfl, hsz⟩ := okWide_struct Try.underlying39 hval
  obtain ⟨l⟩ := cs
  match l, hsz.trans cells39 with
  | [k0, k1, k2, k3, k4, k5, k6], _ =>
    obtain ⟨fuel, hf⟩ := h
    obtain ⟨ys, n', _, _, _, hyl, hg⟩ := DataW.trod_struct Try.underlying39 hf
    obtain ⟨o, rfl, rfl, rfl, rfl, rfl, rfl, rfl, hB, hK⟩ := op_cells (W := W) (n' := n') (ys := ys) hyl (by exact hg)
    exact ⟨o, rfl, hB, hK⟩

instance : Inhabited Opv := ⟨⟨0, 0, 0, 0, 0, 0, none, 0, 0, fun _ => false⟩⟩
/-- A slice of steps. -/
theorem open_ops {W : World} {base : Nat} {v : Value} {d : DataW H} {p : List MemPlace} (hval : Value.okWide Try.prog W .any base 22 v) (h : DataW.Trod enc Try.prog W 0 (fun _ => true) true 22 v d p) :
    ∃ (q : Option Addr) (n c : Nat) (f : Nat → Opv), v = .slice q n c ∧ Ops W q n f ∧ n ≤ 9223372036854775807 := by
  obtain ⟨a1, len, cap, rfl⟩ := okWide_slice Try.underlying22 hval
  obtain ⟨fuel, hf⟩ := h
  rcases Go.Deep.open_slice Try.underlying22 hf with ⟨hcs, _⟩ | ⟨a, len', cap', m, n, D, Pl, hcs, _, hl, hm, hmm, _, hr⟩
  · simp [Value.cells] at hcs
    obtain ⟨rfl, rfl, rfl⟩ := hcs
    exact ⟨none, 0, 0, default, rfl, fun h => absurd h (Nat.lt_irrefl 0), by omega⟩
  · simp [Value.cells] at hcs
    obtain ⟨rfl, rfl, rfl⟩ := hcs
    simp only [if_true] at hmm
    rw [cells39] at hr
    have hone : ∀ i, i < len → ∃ x : Opv, (∀ (b o : Nat) sp, a = ⟨b, o, sp⟩ → (i = 0 → sp = none) ∧ OpAt W b (o + i * 7) x) := fun i hi => by
      obtain ⟨cs', hc, ht⟩ := hr i (by omega)
      obtain ⟨_, hlen, hat⟩ := World.cells?_some hc
      obtain ⟨ys, n', _, _, _, hyl, hg⟩ := DataW.trod_struct Try.underlying39 ht
      match cs', hlen with
      | [k0, k1, k2, k3, k4, k5, k6], _ =>
        obtain ⟨x, rfl, rfl, rfl, rfl, rfl, rfl, rfl, hB, hK⟩ := op_cells (W := W) (n' := n') (ys := ys) hyl (by exact hg)
        refine ⟨x, fun b o sp e => ?_⟩
        subst e
        have h0 := hat 0 (by omega)
        have hsp : i = 0 → sp = none := fun e => by
          subst e
          simpa [Addr.add] using World.cell?_spot h0
        refine ⟨hsp, ?_⟩
        have ha : (⟨b, o, sp⟩ : Addr).add (i * 7) = ⟨b, o + i * 7, none⟩ := by
          rcases Nat.eq_zero_or_pos i with e | e
          · subst e; rw [hsp rfl]; rfl
          · simp [Addr.add]; omega
        rw [ha] at hat
        have hs : ∀ j (hj : j < 7), W.cell? ⟨b, o + i * 7 + j, none⟩ = [Value.int .i64 x.kind, .int .i64 x.at_, .int .i64 x.n, .int .i64 x.torn, .int .i64 x.long, .int .u8 (x.fill : Int), .slice x.p x.nk x.ck][j]? := fun j hj => by
          have := hat j hj
          rw [Go.WideShapes.add_plain] at this
          exact this
        exact ⟨hs 0 (by omega), hs 1 (by omega), hs 2 (by omega), hs 3 (by omega), hs 4 (by omega), hs 5 (by omega), hs 6 (by omega), hB, hK⟩
    obtain ⟨f, hf'⟩ := Go.Deep.choose_lt hone
    refine ⟨_, _, _, f, rfl, fun hn => ?_, by unfold maxLen at hm; omega⟩
    obtain ⟨b, o, sp⟩ := a
    have hsp : sp = none := (hf' 0 hn b o sp rfl).1 rfl
    exact ⟨b, o, by rw [hsp], fun i hi => (hf' i hi b o sp rfl).2⟩
end
end Go.Proofs.Ytdldjpgbifcljaa
