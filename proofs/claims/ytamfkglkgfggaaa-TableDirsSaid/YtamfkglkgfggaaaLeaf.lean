/- A leaf's bytes; whether a leaf tells nothing; whether bytes are a page, and zeros. -/
import Derived.Test.YtamfkglkgfggaaaEqA
set_option linter.unusedSimpArgs false
namespace Go.Proofs.Ytamfkglkgfggaaa
open Go.RowKit

/-- A leaf's numbers. -/
def leafF (f : Nat → Nat) (i : Nat) : Nat → Nat := fun k => f (128 * i + k)
theorem leaf_no (x : Int) (g : Nat) (h : ¬ (0 ≤ x ∧ x < 4)) (w : World) : Calls Try.prog 34 #[.pointer (some ⟨g, 0, none⟩), .int .i64 x] w fun e w' => e = .returned (.bool false) ∧ w = w' := by
  have := leaf_tab g x w
  have e : (decide (0 ≤ x) && decide (x < 4)) = false := by rw [← Bool.decide_and]; exact decide_eq_false h
  rwa [e] at this
theorem leaf_yes (i g : Nat) (h : i < 4) (w : World) : Calls Try.prog 34 #[.pointer (some ⟨g, 0, none⟩), .int .i64 (i : Int)] w fun e w' => e = .returned (.bool true) ∧ w = w' := by
  have := leaf_tab g (i : Int) w
  rwa [decide_eq_true (show (0 : Int) ≤ (i : Int) by omega), decide_eq_true (show (i : Int) < 4 by omega)] at this
set_option maxRecDepth 100000 in
theorem leaf_in {w : World} {g : Nat} {f : Nat → Nat} (h : Tab w g f) (i : Nat) (hi : i < 4) :
    Calls Try.prog 12 #[.pointer (some ⟨g, 0, none⟩), .int .i64 (i : Int)] w fun e w' => (∃ p c', e = .returned (.slice p 512 c') ∧ Bys w' p 512 (fours (leafF f i) 128) ∧ 512 ≤ c' ∧ c' ≤ 9223372036854775807) ∧ Below w.heap.size w w' := by
  have HY := Lib.hid (fun w' => leaf_yes i g hi w')
  have HL := Lib.hid (lay_any g (i * 128) 128 128 (leafF f i) w (by omega) (fun j => h.ok.lt _) (fun j hj => by unfold leafF; rw [Nat.mul_comm i 128]; exact h.row.cell _ (by omega)))
  have HI := Lib.hid hi
  clear h
  go_enter Try.func12, Try.ntmps12
  go_wp2_with (first | (go_at_call 34; refine (HY.out _).mono ?_; rintro e w7 ⟨rfl, rfl⟩) | (go_at_call 35; refine HL.out.mono ?_; rintro e w7 ⟨⟨p, c', rfl, hB, hcp⟩, hb⟩))
  go_ret
  exact ⟨⟨_, _, rfl, hB, hcp⟩, hb⟩
theorem leaf_out {g : Nat} (x : Int) (hx : ¬ (0 ≤ x ∧ x < 4)) (w : World) :
    Calls Try.prog 12 #[.pointer (some ⟨g, 0, none⟩), .int .i64 x] w fun e w' => e = .returned (.slice none 0 0) ∧ w = w' := by
  have HY := Lib.hid (leaf_no x g hx)
  clear hx
  go_enter Try.func12, Try.ntmps12
  go_wp2_with (go_at_call 34; refine (HY.out _).mono ?_; rintro e w7 ⟨rfl, rfl⟩)
  go_ret
  exact ⟨rfl, rfl⟩
theorem bare_out {g : Nat} (x : Int) (hx : ¬ (0 ≤ x ∧ x < 4)) (w : World) :
    Calls Try.prog 13 #[.pointer (some ⟨g, 0, none⟩), .int .i64 x] w fun e w' => e = .returned (.bool true) ∧ w = w' := by
  have HY := Lib.hid (leaf_no x g hx)
  clear hx
  go_enter Try.func13, Try.ntmps13
  go_wp2_with (go_at_call 34; refine (HY.out _).mono ?_; rintro e w7 ⟨rfl, rfl⟩)
  go_ret
  exact ⟨rfl, rfl⟩
/-- Does a leaf tell nothing? -/
def bareB (f : Nat → Nat) (i : Nat) : Bool := sameN (leafF f i) (fun _ => 0) 128
set_option maxRecDepth 100000 in
theorem bare_in {w : World} {g : Nat} {f : Nat → Nat} (h : Tab w g f) (i : Nat) (hi : i < 4) :
    Calls Try.prog 13 #[.pointer (some ⟨g, 0, none⟩), .int .i64 (i : Int)] w fun e w' => e = .returned (.bool (bareB f i)) ∧ w = w' := by
  have HY := Lib.hid (fun w' => leaf_yes i g hi w')
  have HI := Lib.hid hi
  have HR := Lib.hid (h.row.range (i * 128) 128 (by omega))
  have HE : Hid (∀ w, (binOp .eql 81 (.agg (ints f (i * 128) 128).toArray) (.agg (ints (fun _ => 0) 0 128).toArray)).run Try.prog w = .ok (.bool (bareB f i)) w) := Lib.hid fun w => by
    rw [eq_row 81 128 Try.underlying81]
    unfold bareB leafF
    rw [Nat.mul_comm 128 i]
  obtain ⟨hz, -⟩ := zero_of_info (P := Try.prog) info81
  have HS : Hid ((Try.prog.info? 81).map (·.size) = some (ints f (i * 128) 128).length) := Lib.hid (by rw [size81, ints_len])
  have hg := guard81
  clear h
  have hzz : ∀ w, (zeroValue 81).run Try.prog w = .ok (.agg (ints (fun _ => 0) 0 128).toArray) w := hz
  clear hz
  generalize (ints (fun _ => 0) 0 128).toArray = Z at *
  generalize ints f (i * 128) 128 = X at *
  have hee := HE.out
  have hi' : (i : Int) < 4 := by omega
  go_enter Try.func13, Try.ntmps13
  go_wp2_with (first
    | (go_at_call 34; refine (HY.out _).mono ?_; rintro e w7 ⟨rfl, rfl⟩)
    | (refine wpList_load_mid rfl 81 (.tmp 15) rfl g (i * 128) rfl X _ HR.out Try.underlying81 rfl HS.out ?_))
  go_ret
  exact ⟨rfl, rfl⟩
end Go.Proofs.Ytamfkglkgfggaaa
