/- What the bytes of a directory tell. -/
import Derived.Test.YtamfkglkgfggaaaLDirs0
set_option linter.unusedSimpArgs false
namespace Go.Proofs.Ytamfkglkgfggaaa
open Go.ChangeShapes Go.WideShapes Go.ChangeAt Go.RowKit
theorem dir_val (x y z u : Int) (f : Nat → Bool) (k : Nat) (hk : k < 4) : valB (dirB x y z u f) k = lvF x y z u k := by
  unfold dirB
  rw [List.append_assoc, valB_app _ _ _ (by rw [fours_len]; omega), valB_fours _ _ _ hk]
theorem dir_drop (x y z u : Int) (f : Nat → Bool) : (dirB x y z u f).drop 80 = List.replicate 432 0 := by
  unfold dirB
  exact List.drop_left' (by rw [List.length_append, fours_len, rowF_len])
theorem dir_set (x y z u : Int) (f : Nat → Bool) : dsB (dirB x y z u f) = rowF f 64 := by
  unfold dsB dirB
  rw [List.append_assoc, List.drop_left' (by rw [fours_len]), List.take_left' (by rw [rowF_len])]
theorem mayI_pgN {x : Int} (h : mayI x = true) : pgN x.toNat = true := by
  unfold mayI pgI at h
  unfold pgN
  simp only [Bool.or_eq_true, beq_iff_eq, Bool.and_eq_true, decide_eq_true_eq] at h ⊢
  omega
theorem dir_ok {x y z u : Int} (h : okL x y z u = true) (f : Nat → Bool) : dirE 512 (dirB x y z u f) = 0 := by
  unfold dirE
  rw [if_neg (by decide)]
  have h1 : okV (valB (dirB x y z u f)) 4 = true := decide_eq_true fun j hj => by
    rw [dir_val _ _ _ _ _ _ hj]
    unfold okL at h
    simp only [Bool.and_eq_true] at h
    rcases (show j = 0 ∨ j = 1 ∨ j = 2 ∨ j = 3 by omega) with rfl | rfl | rfl | rfl
    · exact mayI_pgN h.1.1.1
    · exact mayI_pgN h.1.1.2
    · exact mayI_pgN h.1.2
    · exact mayI_pgN h.2
  have h2 : allZ ((dirB x y z u f).drop 80) 432 = true := decide_eq_true fun j hj => by
    rw [dir_drop, List.getD_eq_getElem?_getD, List.getElem?_replicate, if_pos hj]; rfl
  rw [h1, h2]; rfl
theorem dir_trs {f : Nat → Bool} (hs : Sub 512 f) : trs (rowF f 64) = f := by
  funext i
  by_cases hi : i < 512
  · exact trs_rowF (by omega)
  · rw [trs_far (by rw [rowF_len]; omega), hs i (by omega)]
theorem four_eq {x y z u : Int} (h : okL x y z u = true) (w : World) :
    (Op.equalIn 10000 48 (.agg #[.int .i64 x, .int .i64 y, .int .i64 z, .int .i64 u]) (.agg #[.int .i64 x, .int .i64 y, .int .i64 z, .int .i64 u])).run Try.prog w = .ok true w := by
  obtain ⟨⟨h0, _⟩, ⟨h1, _⟩, ⟨h2, _⟩, ⟨h3, _⟩⟩ := okL_nat h
  obtain ⟨a, rfl⟩ := Int.eq_ofNat_of_zero_le h0
  obtain ⟨b, rfl⟩ := Int.eq_ofNat_of_zero_le h1
  obtain ⟨c, rfl⟩ := Int.eq_ofNat_of_zero_le h2
  obtain ⟨d, rfl⟩ := Int.eq_ofNat_of_zero_le h3
  have h5 := eqIn_row 48 4 Try.underlying48 (lvF a b c d) (lvF a b c d) 0 0 w
  have h6 : sameN (fun i => lvF a b c d (0 + i)) (fun i => lvF a b c d (0 + i)) 4 = true := decide_eq_true fun _ _ => rfl
  rw [h6] at h5
  exact h5
/-- What Decode makes of what Encode told. -/
theorem dec_back {x y z u : Int} (h : okL x y z u = true) {f : Nat → Bool} (hs : Sub 512 f) (p : Option Addr) (c : Nat) (w : World) (hB : Bys w p 512 (dirB x y z u f)) (hc : 512 ≤ c) (hc2 : c ≤ 9223372036854775807) :
    Calls Try.prog 24 #[.slice p 512 c] w fun e w' => (∃ g b, e = .returned (.tuple #[.agg #[.int .i64 x, .int .i64 y, .int .i64 z, .int .i64 u, .pointer (some ⟨g, 0, none⟩)], .int .i64 0]) ∧ Sat w' g b 512 f) ∧ Below w.heap.size w w' := by
  refine (dec_any p 512 c _ w hB hc hc2).mono ?_
  rintro e w' ⟨hd, hb⟩
  refine ⟨?_, hb⟩
  obtain ⟨-, g, b, rfl, hS⟩ := hd.resolve_right (fun q => q.1 (dir_ok h f))
  rw [dir_set, dir_trs hs] at hS
  refine ⟨g, b, ?_, hS⟩
  obtain ⟨⟨h0, _⟩, ⟨h1, _⟩, ⟨h2, _⟩, ⟨h3, _⟩⟩ := okL_nat h
  rw [dir_val _ _ _ _ _ 0 (by omega), dir_val _ _ _ _ _ 1 (by omega), dir_val _ _ _ _ _ 2 (by omega), dir_val _ _ _ _ _ 3 (by omega)]
  show Ending.returned (.tuple #[.agg #[.int .i64 ((x.toNat : Nat) : Int), .int .i64 ((y.toNat : Nat) : Int), .int .i64 ((z.toNat : Nat) : Int), .int .i64 ((u.toNat : Nat) : Int), _], _]) = _
  rw [Int.toNat_of_nonneg h0, Int.toNat_of_nonneg h1, Int.toNat_of_nonneg h2, Int.toNat_of_nonneg h3]
end Go.Proofs.Ytamfkglkgfggaaa
