/- Same of two records, the program's and the document's. -/
import Derived.Test.YtpdihgmgcamgkaaSameP
import Derived.Test.YtpdihgmgcamgkaaTakeB
set_option linter.unusedSimpArgs false
set_option maxRecDepth 20000
namespace Go.Proofs.Ytpdihgmgcamgkaa
open Go.RowKit

def sameM (a b : Rc) : Bool := decide (a.kind = b.kind) && (decide (a.parts = b.parts) && decide (a.bytes = b.bytes))
theorem str_eq (S T : ByteArray) : (S.toList == T.toList) = decide (S = T) := by
  by_cases h : S = T
  · rw [h]; simp
  · have : S.toList ≠ T.toList := fun e => h (by
      rw [ByteArray.toList_eq, ByteArray.toList_eq] at e
      exact ByteArray.ext (Array.ext' e))
    simp [h, this]
theorem rec_two (w : World) (a b : Array Value) (t : TypeId) :
    ((w.alloc (.cells a t)).alloc (.cells b t)).heap[w.heap.size]? = some (.cells a t (0, 0)) ∧ ((w.alloc (.cells a t)).alloc (.cells b t)).heap[w.heap.size + 1]? = some (.cells b t (0, 0)) ∧ Below w.heap.size w ((w.alloc (.cells a t)).alloc (.cells b t)) := by
  refine ⟨?_, ?_, ((Below.refl _ _).alloc (Nat.le_refl _) _).alloc (by simp) _⟩
  · rw [Below.heap_alloc _ _ _ (by simp)]; exact heap_alloc_new w _
  · have := heap_alloc_new (w.alloc (.cells a t)) (.cells b t)
    simpa using this
set_option maxHeartbeats 1600000 in
theorem same_any (a b : Rc) (q1 q2 : Option Addr) (c1 c2 : Nat) (w : World) (hn : a.parts.length ≤ 9223372036854775807) (h1 : Pts w q1 a.parts.length a.parts) (h2 : Pts w q2 b.parts.length b.parts) :
    Calls Try.prog 20 #[a.val q1 c1, b.val q2 c2] w fun e w' => e = .returned (.bool (sameM a b)) ∧ Below w.heap.size w w' := by
  have HE := Lib.hid (fun w' (hb : Below w.heap.size w w') => equal_all q1 q2 a.parts.length b.parts.length c1 c2 a.parts b.parts w' hn (h1.below hb) (h2.below hb))
  have hst := str_eq a.bytes b.bytes
  have HKE : Hid ((a.kind == b.kind) = decide (a.kind = b.kind)) := Lib.hid (by by_cases h : a.kind = b.kind <;> simp [h])
  unfold sameM Rc.val
  clear h1 h2
  obtain ⟨k1, l1, S1⟩ := a
  obtain ⟨k2, l2, S2⟩ := b
  simp only at HE hst HKE hn ⊢
  have hke := HKE.out
  clear HKE
  generalize decide (k1 = k2) = d1 at *
  generalize decide (l1 = l2) = d2 at *
  generalize decide (S1 = S2) = d3 at *
  generalize l1.length = n1 at *
  generalize l2.length = n2 at *
  obtain ⟨t1, t2, hb⟩ := rec_two w #[.int .i64 k1, .slice q1 n1 c1, .string S1] #[.int .i64 k2, .slice q2 n2 c2, .string S2] 33
  have HT1 := Lib.hid t1
  have HT2 := Lib.hid t2
  have HB := Lib.hid hb
  clear t1 t2 hb
  cases d1 with
  | false =>
    go_enter Try.func20, Try.ntmps20
    go_wp2_with fail
    go_ret
    exact ⟨rfl, HB.out⟩
  | true =>
    go_enter Try.func20, Try.ntmps20
    go_wp2_with fail
    refine (HE.out _ HB.out).mono ?_
    rintro e w2 ⟨rfl, hb2⟩
    have x1 := cell_of_row _ _ 2 _ _ _ ((hb2.block _ (lt_of_block HT1.out)).trans HT1.out)
    have x2 := cell_of_row _ _ 2 _ _ _ ((hb2.block _ (lt_of_block HT2.out)).trans HT2.out)
    simp at x1 x2
    have HB2 := Lib.hid (HB.out.trans (hb2.mono HB.out.size))
    clear hb2
    cases d2 with
    | false =>
      go_wp2_with fail
      go_ret
      exact ⟨rfl, HB2.out⟩
    | true =>
      go_wp2_with fail
      go_ret
      exact ⟨rfl, HB2.out⟩
theorem list_eq_of (l1 l2 : List Pt) (h : l1.length = l2.length) (hj : ∀ j, j < l1.length → l1.getD j default = l2.getD j default) : l1 = l2 := by
  apply List.ext_getElem h
  intro j h1 h2
  have := hj j h1
  rw [List.getD_eq_getElem?_getD, List.getD_eq_getElem?_getD, List.getElem?_eq_getElem h1, List.getElem?_eq_getElem h2] at this
  exact this
set_option maxHeartbeats 1600000 in
theorem rsame_any (a b : Rc) (q1 q2 : Option Addr) (c1 c2 : Nat) (w : World) (hn : a.parts.length ≤ 9223372036854775807) (h1 : Pts w q1 a.parts.length a.parts) (h2 : Pts w q2 b.parts.length b.parts) :
    Calls Try.prog 15 #[a.val q1 c1, b.val q2 c2] w fun e w' => e = .returned (.bool (sameM a b)) ∧ Below w.heap.size w w' := by
  have H1 := Lib.hid h1
  have H2 := Lib.hid h2
  have hst := str_eq a.bytes b.bytes
  have HKE : Hid ((a.kind != b.kind) = !decide (a.kind = b.kind)) := Lib.hid (by by_cases h : a.kind = b.kind <;> simp [h])
  unfold sameM Rc.val
  clear h1 h2
  obtain ⟨k1, l1, S1⟩ := a
  obtain ⟨k2, l2, S2⟩ := b
  simp only at H1 H2 hst HKE hn ⊢
  have hke := HKE.out
  clear HKE
  generalize decide (k1 = k2) = d1 at *
  generalize decide (S1 = S2) = d3 at *
  obtain ⟨n1, HN1⟩ : ∃ n, Hid (l1.length = n) := ⟨_, Lib.hid rfl⟩
  obtain ⟨n2, HN2⟩ : ∃ n, Hid (l2.length = n) := ⟨_, Lib.hid rfl⟩
  rw [HN1.out] at H1 hn ⊢
  rw [HN2.out] at H2 ⊢
  obtain ⟨t1, t2, hb⟩ := rec_two w #[.int .i64 k1, .slice q1 n1 c1, .string S1] #[.int .i64 k2, .slice q2 n2 c2, .string S2] 24
  have HT1 := Lib.hid t1
  have HT2 := Lib.hid t2
  have HB := Lib.hid hb
  clear t1 t2 hb
  cases d1 with
  | false =>
    go_enter Try.func15, Try.ntmps15
    go_wp2_with fail
    go_ret
    exact ⟨rfl, HB.out⟩
  | true =>
    cases d3 with
    | false =>
      rw [Bool.and_false, Bool.and_false]
      go_enter Try.func15, Try.ntmps15
      go_wp2_with fail
      go_ret
      exact ⟨rfl, HB.out⟩
    | true =>
      rw [Bool.and_true, Bool.true_and]
      by_cases hnn : n1 = n2
      · subst hnn
        have hd0 : ((n1 : Int) != (n1 : Int)) = false := by simp
        go_enter Try.func15, Try.ntmps15
        go_wp2_with fail
        obtain ⟨W, hW⟩ : ∃ W, Hid ((w.alloc (.cells #[.int .i64 k1, .slice q1 n1 c1, .string S1] 24)).alloc (.cells #[.int .i64 k2, .slice q2 n1 c2, .string S2] 24) = W) := ⟨_, Lib.hid rfl⟩
        rw [hW.out] at HT1 HT2 HB ⊢
        clear hW
        go_loopw [5] (fun iv wr => ∃ i : Nat, i ≤ n1 ∧ iv = .int .i64 (i : Int) ∧ Hid (Below W.heap.size W wr) ∧ Hid (∀ j, j < i → l1.getD j default = l2.getD j default)) (fun iv _ => n1 - (intOf iv).toNat)
        case atStart => exact ⟨0, by omega, by go_num, Lib.hid (Below.refl _ _), Lib.hid (fun j hj => absurd hj (Nat.not_lt_zero j))⟩
        case round =>
          obtain ⟨i, hi, rfl, HBW, HJ⟩ := hrel
          have z1 := cell_of_row _ _ 1 _ _ _ ((HBW.out.block _ (lt_of_block HT1.out)).trans HT1.out)
          have z2 := cell_of_row _ _ 1 _ _ _ ((HBW.out.block _ (lt_of_block HT2.out)).trans HT2.out)
          simp at z1 z2
          have HBR := Lib.hid (HB.out.trans (HBW.out.mono HB.out.size))
          by_cases hlt : i < n1
          · obtain ⟨b1, o1, rfl, hc1⟩ := (H1.out.below (HBR.out.mono (Nat.le_refl _))).2 (by omega)
            obtain ⟨b2, o2, rfl, hc2⟩ := (H2.out.below (HBR.out.mono (Nat.le_refl _))).2 (by omega)
            obtain ⟨p0, p1, p2⟩ := hc1 i hlt
            obtain ⟨r0, r1, r2⟩ := hc2 i hlt
            have hd1 : decide ((i : Int) < (n1 : Int)) = true := by simp; omega
            clear hc1 hc2
            obtain ⟨x, HX⟩ : ∃ x, Hid (l1.getD i default = x) := ⟨_, Lib.hid rfl⟩
            obtain ⟨y, HY⟩ : ∃ y, Hid (l2.getD i default = y) := ⟨_, Lib.hid rfl⟩
            rw [HX.out] at p0 p1 p2
            rw [HY.out] at r0 r1 r2
            have hNE := fun w => neqR x y w
            have hG := guardR
            by_cases hxy : x = y
            · have hd2 : decide (x = y) = true := decide_eq_true hxy
              rw [hd2] at hNE
              have HJ2 : Hid (∀ j, j < i + 1 → l1.getD j default = l2.getD j default) := Lib.hid (fun j hj => (Nat.lt_succ_iff_lt_or_eq.1 hj).elim (HJ.out j) (fun e => by rw [e, HX.out, HY.out, hxy]))
              clear hxy hd2
              go_upto_region 6 with fail
              go_quiet (fail)
              go_wp2_with fail
              go_roundw
              case rel => exact ⟨i + 1, by omega, by go_num, Lib.hid (below_drewN HBW.out _), HJ2⟩
              case measure => simp [intOf]; omega
            · have hd2 : decide (x = y) = false := decide_eq_false hxy
              rw [hd2] at hNE
              have HR : Hid (decide (l1 = l2) = false) := Lib.hid (decide_eq_false (fun e => hxy (by rw [← HX.out, ← HY.out, e])))
              clear hxy hd2
              go_upto_region 6 with fail
              go_quiet (fail)
              go_wp2_with fail
              go_ret
              rw [HR.out]
              exact ⟨rfl, below_drewN HBR.out _⟩
          · obtain rfl : i = n1 := by omega
            have HR : Hid (decide (l1 = l2) = true) := Lib.hid (decide_eq_true (list_eq_of l1 l2 (by rw [HN1.out, HN2.out]) (fun j hj => HJ.out j (by rw [← HN1.out]; exact hj))))
            go_wp2_with fail
            go_ret
            rw [HR.out]
            exact ⟨rfl, HBR.out⟩
      · have hd0 : ((n1 : Int) != (n2 : Int)) = true := by simp; omega
        have HR : Hid (decide (l1 = l2) = false) := Lib.hid (decide_eq_false (fun e => hnn (by rw [← HN1.out, ← HN2.out, e])))
        rw [HR.out]
        go_enter Try.func15, Try.ntmps15
        go_wp2_with fail
        go_ret
        exact ⟨rfl, HB.out⟩
end Go.Proofs.Ytpdihgmgcamgkaa
