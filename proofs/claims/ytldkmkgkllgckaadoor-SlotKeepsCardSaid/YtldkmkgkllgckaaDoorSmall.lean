/- The small calls of a page. -/
import Derived.Test.YtldkmkgkllgckaaDoorMem
import Derived.BigQuiet
import Derived.Deep.QuietTactic
set_option linter.unusedSimpArgs false
namespace Go.Proofs.YtldkmkgkllgckaaDoor
open Go.RowKit

section
variable {w : World} {g : Nat} {v : Value} {l : List Sl}
set_option maxHeartbeats 400000 in
theorem len_any (h : Pg0 w g v l) : Calls Tryd.prog 16 #[.pointer (some ⟨g, 0, none⟩)] w fun e w' => e = .returned (.int .i64 (l.length : Int)) ∧ w = w' := by
  obtain ⟨q, c, rfl⟩ := h.form
  have c0 := h.c0
  have hl := h.ok.len
  go_enter Tryd.func16, Tryd.ntmps16
  go_wp2_with fail
  go_ret
  exact ⟨rfl, rfl⟩
theorem len_nil (w : World) : Calls Tryd.prog 16 #[.pointer none] w fun e w' => e = .returned (.int .i64 0) ∧ w = w' := by
  go_enter Tryd.func16, Tryd.ntmps16
  go_wp2_with fail
  go_ret
  exact ⟨rfl, rfl⟩
theorem behind_any (n : Nat) (w : World) (hn : n ≤ 1000) : Calls Tryd.prog 20 #[.int .i64 (n : Int)] w fun e w' => e = .returned (.int .i64 (1 + (n : Int) * 2)) ∧ w = w' := by
  go_enter Tryd.func20, Tryd.ntmps20
  go_wp2_with fail
  go_ret
  exact ⟨rfl, rfl⟩
theorem new_any (w : World) : Calls Tryd.prog 17 #[] w fun e w' => ∃ g F, e = .returned (.pointer (some ⟨g, 0, none⟩)) ∧ Pg w' g F [] ∧ (∀ k ∈ F, w.heap.size ≤ k) ∧ w.heap.size ≤ g ∧ Below w.heap.size w w' := by
  go_enter Tryd.func17, Tryd.ntmps17
  go_wp2_with fail
  go_ret
  refine ⟨w.heap.size, _, rfl, ⟨.slice none 0 0, ⟨heap_alloc_new w _, World.ownsRow_nil _ _ _ _, Okp.nil_⟩, rfl⟩, ?_, Nat.le_refl _, (Below.refl _ _).alloc (Nat.le_refl _) _⟩
  intro k hk
  simp [foot, Value.ownBlock] at hk
  omega
set_option maxHeartbeats 800000 in
theorem size_any (o : Sl) (w : World) (ho : sz o ≤ 512) : Calls Tryd.prog 23 #[.agg #[.bool o.isSome, .string (recOf o)]] w fun e w' => e = .returned (.int .i64 (if o.isSome = true then (sz o : Int) + 1 else 0)) ∧ Below w.heap.size w w' := by
  cases o with
  | none =>
    go_enter Tryd.func23, Tryd.ntmps23
    go_wp2_with fail
    go_ret
    exact ⟨rfl, (Below.refl _ _).alloc (Nat.le_refl _) _⟩
  | some r =>
    have hr : r.size ≤ 512 := ho
    rw [sz_some]
    simp only [recOf, Option.getD_some, Option.isSome_some, if_true]
    go_enter Tryd.func23, Tryd.ntmps23
    go_wp2_with fail
    go_ret
    exact ⟨rfl, (Below.refl _ _).alloc (Nat.le_refl _) _⟩
set_option maxHeartbeats 1600000 in
theorem next_any (h : Pg0 w g v l) : Calls Tryd.prog 26 #[.pointer (some ⟨g, 0, none⟩)] w fun e w' => e = .returned (.int .i64 (bareI l : Int)) ∧ Below w.heap.size w w' := by
  have HP := Lib.hid h
  obtain ⟨q, c, rfl⟩ := h.form
  have c0 := h.c0
  have hl := h.ok.len
  have hg := h.lt
  clear h
  obtain ⟨N, HN⟩ : ∃ N, Hid (l.length = N) := ⟨_, Lib.hid rfl⟩
  rw [HN.out] at c0 hl
  go_enter Tryd.func26, Tryd.ntmps26
  go_wp2_with fail
  go_loopw [10] (fun iv wr => ∃ i : Nat, i ≤ N ∧ iv = .int .i64 (i : Int) ∧ (∀ j, j < i → (slot l j).isSome = true) ∧ Below w.heap.size w wr) (fun iv _ => N - (intOf iv).toNat)
  case atStart => exact ⟨0, by omega, by go_num, fun j hj => absurd hj (Nat.not_lt_zero j), Below.refl _ _⟩
  case round =>
    obtain ⟨i, hi, rfl, hj, hb⟩ := hrel
    have c1 := (hb.cell (p := ⟨g, 0, none⟩) hg).trans c0
    by_cases hlt : i < N
    · obtain ⟨b, c', e, hc, a1, a2⟩ := HP.out.at (k := i) (by rw [HN.out]; exact hlt)
      rw [HN.out] at e hc
      cases e
      have x1 := (hb.cell (p := ⟨b, i * 2, none⟩) (World.block_lt_of_cell? w _ a1)).trans a1
      have x2 := (hb.cell (p := ⟨b, i * 2 + 1, none⟩) (World.block_lt_of_cell? w _ a2)).trans a2
      have HJ := Lib.hid hj
      have HB := Lib.hid hb
      clear hj hb a1 a2
      cases hs : (slot l i).isSome with
      | true =>
        rw [hs] at x1
        have HS := Lib.hid hs
        clear hs
        go_wp2_with fail
        go_roundw
        case rel => exact ⟨i + 1, by omega, by go_num, fun j hj => (Nat.lt_succ_iff_lt_or_eq.1 hj).elim (HJ.out j) (fun e => by rw [e]; exact HS.out), HB.out.alloc HB.out.size _⟩
        case measure => simp [intOf]; omega
      | false =>
        rw [hs] at x1
        have HS := Lib.hid hs
        clear hs
        go_wp2_with fail
        go_ret
        have := bareI_eq (l := l) (i := i) (by rw [HN.out]; omega) HJ.out (fun _ => by have := HS.out; simpa using this)
        rw [this]
        exact ⟨rfl, HB.out.alloc HB.out.size _⟩
    · obtain rfl : i = N := by omega
      have HJ := Lib.hid hj
      have HB := Lib.hid hb
      clear hj hb
      go_wp2_with fail
      go_ret
      have := bareI_eq (l := l) (i := i) (by rw [HN.out]; omega) HJ.out (fun h => by have := HN.out; omega)
      rw [this]
      exact ⟨rfl, HB.out⟩
end
end Go.Proofs.YtldkmkgkllgckaaDoor
