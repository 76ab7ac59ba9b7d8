/- What the walk of the law on tables and their leaves' bytes stands on. -/
import Derived.Test.YtamfkglkgfggaaaSame
set_option linter.unusedSimpArgs false
namespace Go.Proofs.Ytamfkglkgfggaaa
open Go.RowKit

theorem fs_made {w w' : World} {g : Nat} {f : Nat → Nat} (h : Tab w g f) (hb : Below w.heap.size w w') : Tab w' g f := h.below hb
/-- Two leaves' bytes are the same just if the leaves don't differ. -/
theorem fours_dif (f k : Nat → Nat) (i : Nat) : decide (fours (leafF f i) 128 = fours (leafF k i) 128) = !difB f k i := by
  unfold difB sameN
  rw [Bool.not_not]
  exact decide_eq_decide.2 ⟨fun h j hj => fours_inj h j hj, fun h => fours_congr h⟩
theorem dif_none {f k : Nat → Nat} (h : ∀ l, l < 512 → f l = k l) (i : Nat) (hi : i < 4) : difB f k i = false := by
  unfold difB sameN leafF
  rw [decide_eq_true fun j hj => h _ (by omega)]; rfl
theorem mems_none {f : Nat → Bool} {n : Nat} (h : ∀ i, i < n → f i = false) : mems f n = [] := by
  induction n with
  | zero => rfl
  | succ n ih => rw [mems_miss (h n (Nat.lt_succ_self n))]; exact ih fun i hi => h i (by omega)
theorem chg_none {w : World} {g o : Nat} {f k : Nat → Nat} (h : Tab w g f) (ho : Tab w o k) (he : ∀ l, l < 512 → f l = k l) :
    Calls Try.prog 18 #[.pointer (some ⟨g, 0, none⟩), .pointer (some ⟨o, 0, none⟩)] w fun e w' => (∃ p c, e = .returned (.slice p 0 c)) ∧ Below w.heap.size w w' := by
  refine (chg_all h (some ⟨o, 0, none⟩) (.inl ⟨o, rfl, ho⟩)).mono ?_
  rintro e w' ⟨⟨v, rfl, hv⟩, hb⟩
  rw [mems_none (dif_none he)] at hv
  obtain ⟨p, c, rfl⟩ := vslice hv
  exact ⟨⟨p, c, rfl⟩, hb⟩
theorem okV_fours {f : Nat → Nat} (h : Ok f) (i : Nat) : okV (valB (fours (leafF f i) 128)) 128 = true :=
  decide_eq_true fun j hj => by rw [valB_fours _ _ _ hj]; exact h _
theorem loadE_leaf {f : Nat → Nat} (h : Ok f) (i j : Nat) (hj : j < 4) : loadE (j : Int) (fours (leafF f i) 128) = 0 := by
  unfold loadE
  rw [if_neg (not_not_intro ⟨by omega, by omega⟩), fours_len, if_neg (by decide), okV_fours h i, if_pos rfl]
/-- A leaf's bytes loaded. -/
theorem load_leaf {w : World} {g : Nat} {h f : Nat → Nat} (hT : Tab w g h) (hf : Ok f) (i : Nat) (hi : i < 4) (p : Option Addr) (c : Nat) (hB : Bys w p 512 (fours (leafF f i) 128)) (hc : 512 ≤ c) (hc2 : c ≤ 9223372036854775807) :
    Calls Try.prog 16 #[.pointer (some ⟨g, 0, none⟩), .int .i64 (i : Int), .slice p 512 c] w fun e w' => e = .returned (.int .i64 0) ∧
      (∃ h2, Tab w' g h2 ∧ ∀ l, l < 512 → h2 l = if 128 * i ≤ l ∧ l < 128 * i + 128 then f l else h l) ∧ Only g w w' := by
  refine (load_any hT (i : Int) p 512 c _ hB hc hc2).mono ?_
  rintro e w' ⟨rfl, hT2, ho⟩
  rw [loadE_leaf hf i i hi]
  refine ⟨rfl, ⟨_, hT2, fun l hl => ?_⟩, ho⟩
  unfold loadF
  rw [loadE_leaf hf i i hi, if_pos rfl, Int.toNat_natCast]
  by_cases hin : 128 * i ≤ l ∧ l < 128 * i + 128
  · rw [if_pos hin]
    obtain ⟨j, rfl⟩ : ∃ j, l = 128 * i + j := ⟨l - 128 * i, by omega⟩
    rw [over_in _ _ _ _ _ _ (by omega), Nat.zero_add, valB_fours _ _ _ (by omega)]; rfl
  · rw [if_neg hin, over_out _ _ _ _ _ _ (by omega)]
theorem told_congr {f k : Nat → Nat} (h : ∀ l, l < 512 → f l = k l) : ∀ n, n ≤ 512 → cnt (told f) n = cnt (told k) n := by
  intro n hn
  induction n with
  | zero => rfl
  | succ n ih =>
    show cnt (told f) n + (told f n).toNat = cnt (told k) n + (told k n).toNat
    rw [ih (by omega)]
    unfold told
    rw [h n (by omega)]
end Go.Proofs.Ytamfkglkgfggaaa
