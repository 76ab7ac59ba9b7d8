/- A block that is written over another one's and torn anywhere: what it is. -/
import Derived.Test.YtnjlhallkgacjaaMdl
namespace Go.Proofs.Ytnjlhallkgacjaa

def oldB (was : Rt) : List Nat := if was.ep = 0 then zs128 else block was
def tornB (new old : List Nat) (t : Nat) : List Nat := new.take t ++ old.drop t
theorem tornB_len {new old : List Nat} (hn : new.length = 128) (ho : old.length = 128) {t : Nat} (h : t ≤ 128) : (tornB new old t).length = 128 := by
  unfold tornB; rw [List.length_append, List.length_take, List.length_drop]; omega
theorem tornB_first {new old : List Nat} (hn : new.length = 128) {t : Nat} (h : 8 ≤ t) : (tornB new old t).take 8 = new.take 8 := by
  unfold tornB
  rw [List.take_append_of_le_length (by rw [List.length_take]; omega), List.take_take, Nat.min_eq_left h]
theorem tornB_last {new old : List Nat} (hn : new.length = 128) {t : Nat} (h : t ≤ 120) : (tornB new old t).drop 120 = old.drop 120 := by
  unfold tornB
  have hl : (new.take t).length = t := by rw [List.length_take]; omega
  rw [show 120 = t + (120 - t) by omega, drop_app _ _ hl, List.drop_drop]
/-- Torn anywhere, and of one epoch: the old one or the new one. -/
theorem torn_same {new old : List Nat} (hn : new.length = 128) (en : new.take 8 = new.drop 120) (eo : old.take 8 = old.drop 120) (hne : new.take 8 ≠ old.take 8) {t : Nat} (ht : t ≤ 128)
    (h : (tornB new old t).take 8 = (tornB new old t).drop 120) : (tornB new old t = old ∧ t ≤ 8) ∨ (tornB new old t = new ∧ 120 ≤ t) := by
  by_cases h1 : t ≤ 8
  · left
    refine ⟨?_, h1⟩
    rw [tornB_last hn (by omega), ← eo] at h
    have hl : (new.take t).length = t := by rw [List.length_take]; omega
    have h2 : new.take t = old.take t := by
      have := congrArg (List.take t) h
      unfold tornB at this
      rw [List.take_take, List.take_take, Nat.min_eq_left h1, take_app _ _ hl] at this
      exact this
    unfold tornB
    rw [h2, List.take_append_drop]
  · by_cases h2 : 120 ≤ t
    · right
      refine ⟨?_, h2⟩
      rw [tornB_first hn (by omega), en] at h
      have hl : (new.take t).length = t := by rw [List.length_take]; omega
      have h3 : new.drop t = old.drop t := by
        have h4 := congrArg (List.drop (t - 120)) h
        rw [List.drop_drop, List.drop_drop, show 120 + (t - 120) = t by omega] at h4
        unfold tornB at h4
        rw [drop_app0 _ _ hl] at h4
        exact h4
      unfold tornB
      rw [← h3, List.take_append_drop]
    · rw [tornB_first hn (by omega), tornB_last hn (by omega), ← eo] at h
      exact absurd h hne
theorem oldB_len (was : Rt) : (oldB was).length = 128 := by
  unfold oldB
  split
  · unfold zs128; rw [List.length_replicate]
  · exact block_len was
theorem oldB_dig (was : Rt) : ∀ x ∈ oldB was, x < 256 := by
  unfold oldB
  split
  · exact dig_zeros 128
  · exact block_dig was
theorem zs_ends : zs128.take 8 = zs128.drop 120 := by unfold zs128; rw [List.take_replicate, List.drop_replicate]; rfl
theorem oldB_ends (was : Rt) : (oldB was).take 8 = (oldB was).drop 120 := by
  unfold oldB
  split
  · exact zs_ends
  · rw [block_first, block_last]
theorem oldB_none : oldB Rt.none_ = zs128 := by unfold oldB; rw [if_pos (show Rt.none_.ep = 0 from rfl)]
theorem oldB_first {was : Rt} (hw : was = Rt.none_ ∨ Mays was) : (oldB was).take 8 = be 8 was.ep.toNat := by
  rcases hw with rfl | hw
  · rw [oldB_none]
    show zs128.take 8 = be 8 0
    rw [be_zero]
    unfold zs128
    rw [List.take_replicate]; rfl
  · have := hw.e0
    unfold oldB
    rw [if_neg (by omega), block_first]
theorem decE_zs : decE zs128 = 5 := by unfold decE; rw [if_neg (by unfold zs128; rw [List.length_replicate]; simp), if_pos rfl]
theorem rt_ext {a b : Rt} (h1 : a.ep = b.ep) (h2 : a.pg = b.pg) (h3 : a.dr = b.dr) (h4 : a.wd = b.wd) : a = b := by
  cases a; cases b; simp only at h1 h2 h3 h4; rw [h1, h2, h3, h4]
/-- What a torn block is told as. -/
theorem torn_cases {was now : Rt} (hw : was = Rt.none_ ∨ Mays was) (hm : Mays now) (he : was.ep ≠ now.ep) {t : Nat} (ht : t ≤ 128) :
    (decE (tornB (block now) (oldB was) t) = 4 ∧ 0 < t ∧ t < 128) ∨
    (decE (tornB (block now) (oldB was) t) = 5 ∧ was = Rt.none_) ∨
    (decE (tornB (block now) (oldB was) t) = 0 ∧ decR (tornB (block now) (oldB was) t) = was ∧ t < 128) ∨
    (decE (tornB (block now) (oldB was) t) = 0 ∧ decR (tornB (block now) (oldB was) t) = now ∧ 0 < t) := by
  have hn := block_len now
  have ho := oldB_len was
  have en : (block now).take 8 = (block now).drop 120 := by rw [block_first, block_last]
  have eo := oldB_ends was
  have b0 : 0 ≤ was.ep ∧ was.ep ≤ 4611686018427387904 := by
    rcases hw with rfl | h
    · exact ⟨Int.le_refl 0, by decide⟩
    · exact ⟨by have := h.e0; omega, h.e1⟩
  have b1 := hm.e0
  have b2 := hm.e1
  have hne : (block now).take 8 ≠ (oldB was).take 8 := by
    rw [block_first, oldB_first hw]
    intro h
    have := be_inj (k := 8) (by omega) (by omega) h
    omega
  by_cases h8 : (tornB (block now) (oldB was) t).take 8 = (tornB (block now) (oldB was) t).drop 120
  · rcases torn_same hn en eo hne ht h8 with ⟨h, hl⟩ | ⟨h, hl⟩
    · rw [h]
      rcases hw with rfl | hw
      · right; left
        refine ⟨?_, rfl⟩
        rw [oldB_none]; exact decE_zs
      · right; right; left
        have := hw.e0
        have e : oldB was = block was := by unfold oldB; rw [if_neg (by omega)]
        rw [e]
        exact ⟨decE_block hw, decR_block hw, by omega⟩
    · rw [h]
      right; right; right
      exact ⟨decE_block hm, decR_block hm, by omega⟩
  · left
    have hl := tornB_len hn ho ht
    have hz : tornB (block now) (oldB was) t ≠ zs128 := fun e => h8 (by rw [e]; exact zs_ends)
    refine ⟨by unfold decE; rw [if_neg (by simp [hl]), if_neg hz, if_pos h8], ?_, ?_⟩
    · rcases Nat.eq_zero_or_pos t with h0 | h0
      · subst h0
        exfalso
        apply h8
        show (oldB was).take 8 = (oldB was).drop 120
        exact eo
      · exact h0
    · rcases Nat.lt_or_ge t 128 with h0 | h0
      · exact h0
      · exfalso
        apply h8
        have e : tornB (block now) (oldB was) t = block now := by
          unfold tornB
          rw [List.take_of_length_le (by omega), List.drop_eq_nil_of_le (by omega), List.append_nil]
        rw [e]; exact en
end Go.Proofs.Ytnjlhallkgacjaa
