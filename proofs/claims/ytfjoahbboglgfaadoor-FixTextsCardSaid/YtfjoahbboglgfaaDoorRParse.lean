/- The document's number of a text, or why it is none, is the one that package fix returns. -/
import Derived.Test.YtfjoahbboglgfaaDoorRText
namespace Go.Proofs.YtfjoahbboglgfaaDoor
open Go.RowKit

theorem dg_or (c : Nat) : dgN c < 16 ∨ dgN c = 99 := by
  unfold dgN
  split
  · left; omega
  · split
    · left; omega
    · split
      · left; omega
      · right; rfl

set_option maxHeartbeats 800000 in
theorem digit_any (c : Nat) (w : World) (hc : c < 256) :
    Calls Tryd.prog 42 #[.int .u8 (c : Int)] w fun e w' => e = .returned (.int .i64 (if dgN c = 99 then -1 else (dgN c : Int))) ∧ w = w' := by
  by_cases h1 : 48 ≤ c ∧ c ≤ 57
  · have hd : dgN c = c - 48 := if_pos h1
    rw [hd, if_neg (by omega)]
    have e1 : ((c - 48 : Nat) : Int) = (c : Int) - 48 := by omega
    rw [e1]
    have b1 : decide ((48 : Int) ≤ (c : Int)) = true := decide_eq_true (by omega)
    have b2 : decide ((c : Int) ≤ 57) = true := decide_eq_true (by omega)
    clear e1 hd
    go_enter Tryd.func42, Tryd.ntmps42
    go_wp2_with fail
    go_ret
    exact ⟨rfl, rfl⟩
  · by_cases h2 : 97 ≤ c ∧ c ≤ 102
    · have hd : dgN c = c - 87 := by unfold dgN; rw [if_neg h1, if_pos h2]
      rw [hd, if_neg (by omega)]
      have e1 : ((c - 87 : Nat) : Int) = (c : Int) - 87 := by omega
      rw [e1]
      have b0 : decide ((48 : Int) ≤ (c : Int)) = true := decide_eq_true (by omega)
      have b1 : decide ((c : Int) ≤ 57) = false := decide_eq_false (by omega)
      have b2 : decide ((97 : Int) ≤ (c : Int)) = true := decide_eq_true (by omega)
      have b3 : decide ((c : Int) ≤ 102) = true := decide_eq_true (by omega)
      clear e1 hd
      go_enter Tryd.func42, Tryd.ntmps42
      go_wp2_with fail
      go_ret
      exact ⟨rfl, rfl⟩
    · by_cases h3 : 65 ≤ c ∧ c ≤ 70
      · have hd : dgN c = c - 55 := by unfold dgN; rw [if_neg h1, if_neg h2, if_pos h3]
        rw [hd, if_neg (by omega)]
        have e1 : ((c - 55 : Nat) : Int) = (c : Int) - 55 := by omega
        rw [e1]
        have b0 : decide ((48 : Int) ≤ (c : Int)) = true := decide_eq_true (by omega)
        have b1 : decide ((c : Int) ≤ 57) = false := decide_eq_false (by omega)
        have b2 : decide ((97 : Int) ≤ (c : Int)) = false := decide_eq_false (by omega)
        have b3 : decide ((65 : Int) ≤ (c : Int)) = true := decide_eq_true (by omega)
        have b4 : decide ((c : Int) ≤ 70) = true := decide_eq_true (by omega)
        clear e1 hd
        go_enter Tryd.func42, Tryd.ntmps42
        go_wp2_with fail
        go_ret
        exact ⟨rfl, rfl⟩
      · have hd : dgN c = 99 := by unfold dgN; rw [if_neg h1, if_neg h2, if_neg h3]
        rw [if_pos hd]
        obtain ⟨x1, b1⟩ : ∃ x, decide ((48 : Int) ≤ (c : Int)) = x := ⟨_, rfl⟩
        obtain ⟨x2, b2⟩ : ∃ x, decide ((97 : Int) ≤ (c : Int)) = x := ⟨_, rfl⟩
        obtain ⟨x3, b3⟩ : ∃ x, decide ((65 : Int) ≤ (c : Int)) = x := ⟨_, rfl⟩
        have HX1 : Hid (x1 = true → decide ((c : Int) ≤ 57) = false) := fun h => by rw [← b1, decide_eq_true_iff] at h; exact decide_eq_false (by omega)
        have HX2 : Hid (x2 = true → decide ((c : Int) ≤ 102) = false) := fun h => by rw [← b2, decide_eq_true_iff] at h; exact decide_eq_false (by omega)
        have HX3 : Hid (x3 = true → decide ((c : Int) ≤ 70) = false) := fun h => by rw [← b3, decide_eq_true_iff] at h; exact decide_eq_false (by omega)
        clear hd h1 h2 h3
        cases x1 <;> cases x2 <;> cases x3
        all_goals
          try have g1 := HX1.out rfl
          try have g2 := HX2.out rfl
          try have g3 := HX3.out rfl
          go_enter Tryd.func42, Tryd.ntmps42
          go_wp2_with fail
          all_goals go_ret
          all_goals exact ⟨rfl, rfl⟩

/-- What the second loop's head of the document's Parse knows. -/
structure RPRel (w wr : World) (x : Bool) (b : Nat) (D : List UInt8) (k : Nat) (A : Option Addr) (c : Nat) (ds : List Nat) : Prop where
  blk : NumBlk wr w.heap.size x A ds.length c
  row : Row wr A c ds
  canon : Canon ds
  sum : val ds = valT b (D.take k)
  below : Below w.heap.size w wr

theorem fold_mono (b : Nat) (hb : 1 ≤ b) : ∀ (l : List UInt8) (v : Nat), v ≤ l.foldl (fun v c => v * b + dgC c) v
  | [], v => Nat.le_refl _
  | c :: l, v => by
    have h1 := fold_mono b hb l (v * b + dgC c)
    have h2 : v * 1 ≤ v * b := Nat.mul_le_mul_left _ hb
    rw [List.foldl_cons]
    omega
theorem valT_mono (b : Nat) (hb : 1 ≤ b) (D : List UInt8) (k : Nat) : valT b (D.take k) ≤ valT b D := by
  have h := fold_mono b hb (D.drop k) (valT b (D.take k))
  unfold valT at h ⊢
  rw [← List.foldl_append, List.take_append_drop] at h
  exact h
theorem parse_bad {b : Nat} {L : List UInt8} (h : cutR L = [] ∨ okT b (cutR L) = false) : parseV b L = 0 ∧ parseE b L = 4 := ⟨if_pos h, if_pos h⟩
theorem parse_far {b : Nat} {L : List UInt8} (h : ¬ (cutR L = [] ∨ okT b (cutR L) = false)) (hf : ¬ Is64 (cutG L * (valT b (cutR L) : Int))) : parseV b L = 0 ∧ parseE b L = 7 := by
  refine ⟨(if_neg h).trans (fitV_no hf), (if_neg h).trans ?_⟩
  rw [fitB_no hf]; rfl
theorem parse_fit {b : Nat} {L : List UInt8} (h : ¬ (cutR L = [] ∨ okT b (cutR L) = false)) (hf : Is64 (cutG L * (valT b (cutR L) : Int))) : parseV b L = cutG L * (valT b (cutR L) : Int) ∧ parseE b L = 0 := by
  refine ⟨(if_neg h).trans (fitV_yes hf), (if_neg h).trans ?_⟩
  rw [fitB_yes hf]; rfl
theorem row_far {ds : List Nat} {V W : Nat} {g : Int} (h : Canon ds) (hl : 40 < ds.length) (hv : val ds = V) (hVW : V ≤ W) (hg : g = 1 ∨ g = -1) : ¬ Is64 (g * (W : Int)) := by
  have h1 := canon_low h (by intro e; rw [e] at hl; simp at hl)
  have h2 : (10 : Nat) ^ 40 ≤ 10 ^ (ds.length - 1) := Nat.pow_le_pow_right (by omega) (by omega)
  have h3 : (10 : Nat) ^ 40 = 10000000000000000000000000000000000000000 := by decide
  unfold Is64
  rcases hg with rfl | rfl
  · rw [Int.one_mul]; omega
  · rw [Int.neg_one_mul]; omega
theorem digit_yes (c d : Nat) (w : World) (hc : c < 256) (hd : Hid (dgN c = d)) (h : d < 16) :
    Calls Tryd.prog 42 #[.int .u8 (c : Int)] w fun e w' => e = .returned (.int .i64 (d : Int)) ∧ w = w' := by
  have h1 := digit_any c w hc
  rw [hd.out, if_neg (by omega)] at h1
  exact h1
theorem digit_no (c : Nat) (w : World) (hc : c < 256) (hd : Hid (dgN c = 99)) :
    Calls Tryd.prog 42 #[.int .u8 (c : Int)] w fun e w' => e = .returned (.int .i64 (-1)) ∧ w = w' := by
  have h1 := digit_any c w hc
  rw [hd.out, if_pos rfl] at h1
  exact h1
theorem RPRel.put {w wr wv : World} {x : Bool} {b : Nat} {D : List UInt8} {k k' : Nat} {A Q : Option Addr} {c cq : Nat} {ds qd : List Nat} (h : RPRel w wr x b D k A c ds) (hb : Below wr.heap.size wr wv) (hr : Row wv Q cq qd) (hc : Canon qd) (hs : val qd = valT b (D.take k')) :
    RPRel w (wv.setCell ⟨w.heap.size, 1, none⟩ (.slice Q qd.length cq)) x b D k' Q cq qd := by
  have h1 := h.blk.below hb
  refine ⟨?_, hr.set_far (hr.ne_bool h1.c0) _, hc, hs, (h.below.trans (hb.mono h.below.size)).setCell (Nat.le_refl _) _⟩
  have h2 := blk_set h1 1 (.slice Q qd.length cq)
  unfold NumBlk
  simpa using h2

theorem rp_sum {qd pd od ds : List Nat} {V W : Nat} {b d : Nat} (h1 : val qd = val pd + val od) (h2 : val pd = (b : Int).natAbs * val ds) (h3 : val od = (d : Int).natAbs) (h4 : val ds = V) (h5 : W = V * b + d) : val qd = W := by
  rw [h1, h2, h3, h4, h5, Int.natAbs_natCast, Int.natAbs_natCast, Nat.mul_comm]
theorem rp_len {qd pd od ds : List Nat} {b d : Nat} (hd : Dig ds) (hl : ds.length ≤ 40) (hc : Canon qd) (h1 : val qd = val pd + val od) (h2 : val pd = (b : Int).natAbs * val ds) (h3 : val od = (d : Int).natAbs) (hb : b ≤ 16) (hdb : d < b) : qd.length ≤ 42 := by
  refine canon_len hc 42 ?_
  have h4 := val_lt hd
  have h5 : (10 : Nat) ^ ds.length ≤ 10 ^ 40 := Nat.pow_le_pow_right (by omega) hl
  have h6 : (10 : Nat) ^ 40 = 10000000000000000000000000000000000000000 := by decide
  have h7 : (10 : Nat) ^ 42 = 1000000000000000000000000000000000000000000 := by decide
  have h8 : b * val ds ≤ 16 * val ds := Nat.mul_le_mul_right _ hb
  rw [h1, h2, h3, Int.natAbs_natCast, Int.natAbs_natCast]
  omega

end Go.Proofs.YtfjoahbboglgfaaDoor
