/- Whether an answer is the number of a row with a sign; whether two such numbers are the same. -/
import Derived.Test.YtfjoahbboglgfaaDoorInt
namespace Go.Proofs.YtfjoahbboglgfaaDoor
open Go.RowKit

theorem int_val (A : Option Addr) (c : Nat) (ds : List Nat) (x : Bool) (z : Int) (w : World) (h : Row w A c ds) (hl : ds.length ≤ 400) (hd : Canon ds) (hz : Hid (sgn x (val ds) = z)) :
    Calls Tryd.prog 32 #[.agg #[.bool x, .slice A ds.length c]] w fun e w' => e = .returned (.tuple #[.int .i64 (fitV z), .bool (fitB z)]) ∧ Below w.heap.size w w' := by
  have h1 := int_any A c ds x w h hl hd
  rw [hz.out] at h1
  exact h1

set_option maxHeartbeats 400000 in
theorem is_any (A : Option Addr) (c : Nat) (ds : List Nat) (x : Bool) (z : Int) (w : World) (h : Row w A c ds) (hl : ds.length ≤ 400) (hd : Canon ds) (hz : sgn x (val ds) = z) :
    Calls Tryd.prog 15 #[.int .i64 (fitV z), .bool (fitB z), .agg #[.bool x, .slice A ds.length c]] w fun e w' => e = .returned (.bool true) ∧ Below w.heap.size w w' := by
  have h1 := (Below.refl w.heap.size w).alloc (Nat.le_refl _) (.cells #[.bool x, .slice A ds.length c] 24)
  have hr1 := h.below h1
  have H1 := Lib.hid h1
  have HZ := Lib.hid hz
  clear h1 hz
  go_enter Tryd.func15, Tryd.ntmps15
  go_wp2_with fail
  refine (int_val A c ds x z _ hr1 hl hd HZ).mono ?_
  rintro e w1 ⟨rfl, hb⟩
  have HB := Lib.hid (H1.out.trans (hb.mono H1.out.size))
  clear hb
  go_wp2_with fail
  go_ret
  exact ⟨rfl, HB.out⟩

theorem sgn_same {x y : Bool} {m n : Nat} (h : sgn x m = sgn y n) : m = n ∧ (m = 0 ∨ x = y) := by
  unfold sgn at h
  cases x <;> cases y <;> simp at h <;> first | omega | (simp; omega)

set_option maxHeartbeats 400000 in
set_option maxRecDepth 100000 in
theorem same_any (A B : Option Addr) (ca cb : Nat) (a b : List Nat) (x y : Bool) (w : World) (ha : Row w A ca a) (hb : Row w B cb b) (hla : a.length ≤ 400) (hlb : b.length ≤ 400) (hda : Canon a) (hdb : Canon b) :
    Calls Tryd.prog 24 #[.agg #[.bool x, .slice A a.length ca], .agg #[.bool y, .slice B b.length cb]] w fun e w' =>
      e = .returned (.bool (decide (sgn x (val a) = sgn y (val b)))) ∧ Below w.heap.size w w' := by
  have h2 := below2 w (.cells #[.bool x, .slice A a.length ca] 24) (.cells #[.bool y, .slice B b.length cb] 24)
  have e0 := blk_alloc (heap_alloc_new w (.cells #[.bool x, .slice A a.length ca] 24)) (.cells #[.bool y, .slice B b.length cb] 24)
  have e1 : ((w.alloc (.cells #[.bool x, .slice A a.length ca] 24)).alloc (.cells #[.bool y, .slice B b.length cb] 24)).heap[w.heap.size + 1]? = some (.cells #[.bool y, .slice B b.length cb] 24) := by
    simpa using heap_alloc_new (w.alloc (.cells #[.bool x, .slice A a.length ca] 24)) (.cells #[.bool y, .slice B b.length cb] 24)
  have H2 := Lib.hid h2
  have E0 := Lib.hid e0
  have E1 := Lib.hid e1
  clear h2 e0 e1
  go_enter Tryd.func24, Tryd.ntmps24
  go_wp2_with fail
  generalize ((w.alloc (.cells #[.bool x, .slice A a.length ca] 24)).alloc (.cells #[.bool y, .slice B b.length cb] 24)) = W at *
  have k0 := blk_cell E0.out 0
  have k1 := blk_cell E0.out 1
  have k2 := blk_cell E1.out 1
  have k3 := blk_cell E1.out 0
  simp at k0 k1 k2 k3
  have ha1 := ha.below H2.out
  have hb1 := hb.below H2.out
  go_quiet ((go_at_call 36; exact Calls.quiet_of_same ((trim_canon _ _ _ _ (by first | exact ha1.drewN _ | exact hb1.drewN _) (by omega) (by assumption)).mono fun _ _ h => ⟨h.1, h.2.symm⟩)))
  go_wp2_with fail
  refine (cmp_any A B ca cb a b _ (ha1.drewN _) (hb1.drewN _) (by omega) (by omega) hda hdb).mono ?_
  rintro e w2 ⟨rfl, n, rfl⟩
  by_cases hv : val a = val b
  · rw [cmpN_eq hv]
    by_cases ha0 : a = []
    · have hl0 : ((a.length : Nat) : Int) = 0 := by rw [ha0]; rfl
      have hlb0 : (((a.length : Nat) : Int) == 0) = true := by rw [beq_iff_eq]; exact hl0
      have HE : Hid (decide (sgn x (val a) = sgn y (val b)) = true) := by
        have h0 : val a = 0 := by rw [ha0]; rfl
        have h1 : val b = 0 := by omega
        unfold Hid
        rw [h0, h1]
        cases x <;> cases y <;> rfl
      clear hl0 ha0 hv
      go_wp2_with fail
      go_ret
      exact ⟨by rw [HE.out]; rfl, below_drewN H2.out _⟩
    · have hpos : 0 < a.length := List.length_pos_iff.2 ha0
      have hlb0 : (((a.length : Nat) : Int) == 0) = false := beq_eq_false_iff_ne.2 (by omega)
      have HE : Hid (decide (sgn x (val a) = sgn y (val b)) = (x == y)) := by
        have h0 : val a ≠ 0 := fun h => ha0 ((canon_zero hda).1 h)
        unfold Hid
        rw [Bool.eq_iff_iff, decide_eq_true_iff, beq_iff_eq]
        constructor
        · intro h
          rcases (sgn_same h).2 with h2 | h2
          · exact absurd h2 h0
          · exact h2
        · rintro rfl; rw [hv]
      clear ha0 hv
      cases x <;> cases y
      all_goals
        go_wp2_with fail
        go_ret
        exact ⟨by rw [HE.out]; rfl, below_drewN H2.out _⟩
  · have HE : Hid (decide (sgn x (val a) = sgn y (val b)) = false) := by
      unfold Hid
      rw [decide_eq_false_iff_not]
      exact fun h => hv (sgn_same h).1
    have hc : ∃ k : Int, Hid (cmpN (val a) (val b) = k) ∧ (k == 0) = false := by
      rcases Nat.lt_or_ge (val a) (val b) with h | h
      · exact ⟨-1, cmpN_lt h, rfl⟩
      · exact ⟨1, cmpN_gt (by omega), rfl⟩
    obtain ⟨k, HK, hk⟩ := hc
    rw [HK.out]
    clear hv
    go_wp2_with fail
    go_ret
    exact ⟨by rw [HE.out]; rfl, below_drewN H2.out _⟩

end Go.Proofs.YtfjoahbboglgfaaDoor
