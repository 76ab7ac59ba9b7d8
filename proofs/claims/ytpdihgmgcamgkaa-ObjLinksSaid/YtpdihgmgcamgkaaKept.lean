/- Kept, has, at, mayBe: one part, one number. -/
import Derived.Test.YtpdihgmgcamgkaaNeeds
import Derived.Test.YtpdihgmgcamgkaaMay
set_option linter.unusedSimpArgs false
set_option maxRecDepth 20000
namespace Go.Proofs.Ytpdihgmgcamgkaa
open Go.RowKit

set_option maxHeartbeats 400000 in
theorem kept_any (k : Int) (w : World) : Calls Try.prog 12 #[.int .i64 k] w fun e w' => e = .returned (.bool (needM k).kept) ∧ Below w.heap.size w w' := by
  go_enter Try.func12, Try.ntmps12
  go_wp2_with fail
  refine (needsOf_any k _).mono ?_
  rintro e w1 ⟨v, rfl, ⟨q, n, c, rfl, hR⟩, hb⟩
  clear hR
  have HB := Lib.hid hb
  clear hb
  go_wp2_with fail
  go_ret
  exact ⟨rfl, HB.out.alloc HB.out.size _⟩
set_option maxHeartbeats 400000 in
theorem has_any (lo hi n : Int) (w : World) : Calls Try.prog 26 #[.agg #[.int .i64 lo, .int .i64 hi], .int .i64 n] w fun e w' => e = .returned (.bool (decide (lo ≤ n) && decide (n ≤ hi))) ∧ Below w.heap.size w w' := by
  obtain ⟨a, ha⟩ : ∃ a, decide (lo ≤ n) = a := ⟨_, rfl⟩
  obtain ⟨b, hb⟩ : ∃ b, decide (n ≤ hi) = b := ⟨_, rfl⟩
  rw [ha, hb]
  cases a with
  | false =>
    go_enter Try.func26, Try.ntmps26
    go_wp2_with fail
    go_ret
    exact ⟨rfl, (Below.refl _ _).alloc (Nat.le_refl _) _⟩
  | true =>
    go_enter Try.func26, Try.ntmps26
    go_wp2_with fail
    go_ret
    exact ⟨rfl, (Below.refl _ _).alloc (Nat.le_refl _) _⟩
set_option maxHeartbeats 400000 in
theorem at_any (v : Value) (n : Nd) (i : Nat) (w : World) (hi : i ≤ 9223372036854775807) (hv : NdV w v n) : Calls Try.prog 34 #[v, .int .i64 i] w fun e w' => ∃ r, e = .returned r ∧ RlV w' r (n.at i) ∧ Below w.heap.size w w' := by
  obtain ⟨q, k, c, rfl, hl, hR⟩ := hv
  have HL := Lib.hid hl
  have HR := Lib.hid hR
  clear hl hR
  by_cases hlt : i < k
  · obtain ⟨b, o, rfl, hc⟩ := HR.out (by omega)
    obtain ⟨r, hr, hv⟩ := hc i hlt
    have hr2 : ∀ ob : Obj, (w.alloc ob).cell? ⟨b, o + i, none⟩ = some r := fun ob => (World.cell?_alloc_lt _ _ _ (World.block_lt_of_cell? w _ hr)).trans hr
    have HV : Hid (RlV w r (n.at i)) := Lib.hid hv
    have hd : decide ((i : Int) < (k : Int)) = true := by simp; omega
    clear hc hv hr HR
    go_enter Try.func34, Try.ntmps34
    go_wp2_with fail
    go_ret
    exact ⟨r, rfl, HV.out.below ((Below.refl _ _).alloc (Nat.le_refl _) _), (Below.refl _ _).alloc (Nat.le_refl _) _⟩
  · have hd : decide ((i : Int) < (k : Int)) = false := by simp; omega
    have HV : Hid (n.at i = .any) := Lib.hid (by unfold Nd.at; rw [List.getD_eq_getElem?_getD, List.getElem?_eq_none (by rw [HL.out]; omega)]; rfl)
    go_enter Try.func34, Try.ntmps34
    go_wp2_with fail
    go_ret
    exact ⟨_, rfl, by rw [HV.out]; exact .any, (Below.refl _ _).alloc (Nat.le_refl _) _⟩
set_option maxHeartbeats 800000 in
theorem mayBe_any (p : Pt) (lo hi : Int) (w : World) : Calls Try.prog 47 #[p.val, .agg #[.int .i64 lo, .int .i64 hi]] w fun e w' => e = .returned (.bool (mayBeM p lo hi)) ∧ Below w.heap.size w w' := by
  obtain ⟨k, n, S⟩ := p
  unfold Pt.val mayBeM
  simp only
  have hE : S.toList.isEmpty = decide (S.size = 0) := by
    by_cases h : S.size = 0
    · rw [empty_of h, ByteArray.toList_eq]; rfl
    · rw [isEmpty_false (by omega)]; simp [h]
  obtain ⟨h, hh⟩ : ∃ h, Hid ((decide (lo ≤ n) && decide (n ≤ hi)) = h) := ⟨_, Lib.hid rfl⟩
  have HH := fun w => has_any lo hi n w
  rw [hh.out] at HH ⊢
  obtain ⟨e, he⟩ : ∃ e, Hid (decide (S.size = 0) = e) := ⟨_, Lib.hid rfl⟩
  rw [he.out] at hE ⊢
  obtain ⟨o, ho⟩ : ∃ o, Hid (okB S = o) := ⟨_, Lib.hid rfl⟩
  have HM := fun w => may_any S w
  rw [ho.out] at HM ⊢
  by_cases hk : k = 4
  · subst hk
    rw [if_pos rfl]
    cases o with
    | false =>
      go_enter Try.func47, Try.ntmps47
      go_wp2_with fail
      refine (HM _).mono ?_
      rintro e1 w1 ⟨rfl, rfl⟩
      go_wp2_with fail
      go_ret
      exact ⟨rfl, ((Below.refl _ _).alloc (Nat.le_refl _) _).alloc (by simp) _⟩
    | true =>
      go_enter Try.func47, Try.ntmps47
      go_wp2_with fail
      refine (HM _).mono ?_
      rintro e1 w1 ⟨rfl, rfl⟩
      go_wp2_with fail
      refine (HH _).mono ?_
      rintro e1 w1 ⟨rfl, hb⟩
      have HB := Lib.hid hb
      clear hb
      go_wp2_with fail
      go_ret
      exact ⟨rfl, (((Below.refl _ _).alloc (Nat.le_refl _) _).alloc (by simp) _).trans (HB.out.mono (by simp; try omega))⟩
  · rw [if_neg hk]
    have hb : (k == 4) = false := beq_eq_false_iff_ne.2 hk
    clear hk
    cases e with
    | false =>
      go_enter Try.func47, Try.ntmps47
      go_wp2_with fail
      go_ret
      exact ⟨rfl, ((Below.refl _ _).alloc (Nat.le_refl _) _).alloc (by simp) _⟩
    | true =>
      go_enter Try.func47, Try.ntmps47
      go_wp2_with fail
      refine (HH _).mono ?_
      rintro e1 w1 ⟨rfl, hb⟩
      have HB := Lib.hid hb
      clear hb
      go_wp2_with fail
      go_ret
      exact ⟨rfl, (((Below.refl _ _).alloc (Nat.le_refl _) _).alloc (by simp) _).trans (HB.out.mono (by simp; try omega))⟩
end Go.Proofs.Ytpdihgmgcamgkaa
