/- What firstOf and needsOf return. -/
import Derived.Test.YtpdihgmgcamgkaaNeeds0
set_option linter.unusedSimpArgs false
set_option maxRecDepth 20000
namespace Go.Proofs.Ytpdihgmgcamgkaa
open Go.RowKit

set_option maxHeartbeats 400000 in
theorem oneOf_any (q : Option Addr) (n c : Nat) (w : World) :
    Calls Try.prog 58 #[.slice q n c] w fun e w' => e = .returned (.func (.func 63) #[] #[.pointer (some ⟨w.heap.size, 0, none⟩)]) ∧ w'.cell? ⟨w.heap.size, 0, none⟩ = some (.slice q n c) ∧ Below w.heap.size w w' := by
  go_enter Try.func58, Try.ntmps58
  go_wp2_with fail
  go_ret
  exact ⟨rfl, World.cell?_alloc_new w _ _ 0, (Below.refl _ _).alloc (Nat.le_refl _) _⟩
theorem needM_other {k : Int} (h5 : k ≠ 5) (h6 : k ≠ 6) (h7 : k ≠ 7) : (needM k).first = [] := by
  unfold needM
  rw [if_neg h6, if_neg h7]
  repeat' split
  all_goals first | rfl | (exfalso; omega)
def FstR (w w' : World) (e : Ending) (l : List Rl) : Prop := ∃ q n c, e = .returned (.slice q n c) ∧ Rls w' q n l ∧ Below w.heap.size w w'
set_option maxHeartbeats 800000 in
theorem firstOf_other (k : Int) (w : World) (h5 : k ≠ 5) (h6 : k ≠ 6) (h7 : k ≠ 7) :
    Calls Try.prog 46 #[.int .i64 k] w fun e w' => FstR w w' e [] := by
  have b5 : (k == 5) = false := beq_eq_false_iff_ne.2 h5
  have b6 : (k == 6) = false := beq_eq_false_iff_ne.2 h6
  have b7 : (k == 7) = false := beq_eq_false_iff_ne.2 h7
  clear h5 h6 h7
  go_enter Try.func46, Try.ntmps46
  go_wp2_with fail
  go_ret
  exact ⟨none, 0, 0, rfl, ⟨rfl, fun h => absurd h (Nat.lt_irrefl 0)⟩, Below.refl _ _⟩
set_option maxHeartbeats 800000 in
theorem firstOf_7 (w : World) : Calls Try.prog 46 #[.int .i64 7] w fun e w' => FstR w w' e [.tag] := by
  go_enter Try.func46, Try.ntmps46
  go_wp2_with fail
  go_ret
  refine ⟨_, _, _, rfl, ⟨rfl, fun _ => ⟨_, 0, rfl, fun i hi => ?_⟩⟩, (Below.refl _ _).alloc (Nat.le_refl _) _⟩
  obtain rfl : i = 0 := by omega
  exact ⟨_, World.cell?_alloc_new w _ _ 0, .tag⟩
set_option maxHeartbeats 800000 in
theorem firstOf_6 (w : World) : Calls Try.prog 46 #[.int .i64 6] w fun e w' => FstR w w' e [.refNil] := by
  go_enter Try.func46, Try.ntmps46
  go_wp2_with fail
  refine (oneOf_any _ _ _ _).mono ?_
  rintro e w1 ⟨rfl, hB, hb⟩
  have hK : Hid (w1.heap[w.heap.size]? = some (.cells #[.int .i64 8, .int .i64 0] 52 (0, 0))) := Lib.hid (by rw [hb.block w.heap.size (by simp)]; exact heap_alloc_new w _)
  have HR : Hid (RlV w1 (.func (.func 63) #[] #[.pointer (some ⟨(w.alloc (.cells #[.int .i64 8, .int .i64 0] 52)).heap.size, 0, none⟩)]) .refNil) := Lib.hid
    (.refNil _ w.heap.size hB (by rw [cell_of_row _ _ _ _ _ _ hK.out]; rfl) (by rw [cell_of_row _ _ _ _ _ _ hK.out]; rfl))
  have HB : Hid (Below w.heap.size w w1) := Lib.hid (((Below.refl w.heap.size w).alloc (Nat.le_refl _) _).trans (hb.mono (by simp)))
  clear hB hb hK
  generalize (w.alloc (.cells #[.int .i64 8, .int .i64 0] 52)).heap.size = B1 at *
  go_wp2_with fail
  go_ret
  refine ⟨_, _, _, rfl, ⟨rfl, fun _ => ⟨_, 0, rfl, fun i hi => ?_⟩⟩, HB.out.alloc HB.out.size _⟩
  obtain rfl : i = 0 := by omega
  exact ⟨_, World.cell?_alloc_new w1 _ _ 0, HR.out.below ((Below.refl _ _).alloc (Nat.le_refl _) _)⟩
set_option maxHeartbeats 800000 in
theorem firstOf_5 (w : World) : Calls Try.prog 46 #[.int .i64 5] w fun e w' => FstR w w' e [.ref, .refNil] := by
  go_enter Try.func46, Try.ntmps46
  go_wp2_with fail
  refine (oneOf_any _ _ _ _).mono ?_
  rintro e w1 ⟨rfl, hB, hb⟩
  have hK : Hid (w1.heap[w.heap.size]? = some (.cells #[.int .i64 8] 52 (0, 0))) := Lib.hid (by rw [hb.block w.heap.size (by simp)]; exact heap_alloc_new w _)
  have HR : Hid (RlV w1 (.func (.func 63) #[] #[.pointer (some ⟨(w.alloc (.cells #[.int .i64 8] 52)).heap.size, 0, none⟩)]) .ref) := Lib.hid
    (.ref _ w.heap.size hB (by rw [cell_of_row _ _ _ _ _ _ hK.out]; rfl))
  have HB : Hid (Below w.heap.size w w1) := Lib.hid (((Below.refl w.heap.size w).alloc (Nat.le_refl _) _).trans (hb.mono (by simp)))
  clear hB hb hK
  generalize (w.alloc (.cells #[.int .i64 8] 52)).heap.size = B1 at *
  go_wp2_with fail
  refine (oneOf_any _ _ _ _).mono ?_
  rintro e w2 ⟨rfl, hB, hb⟩
  have hK : Hid (w2.heap[w1.heap.size]? = some (.cells #[.int .i64 8, .int .i64 0] 52 (0, 0))) := Lib.hid (by rw [hb.block w1.heap.size (by simp)]; exact heap_alloc_new w1 _)
  have HR2 : Hid (RlV w2 (.func (.func 63) #[] #[.pointer (some ⟨(w1.alloc (.cells #[.int .i64 8, .int .i64 0] 52)).heap.size, 0, none⟩)]) .refNil) := Lib.hid
    (.refNil _ w1.heap.size hB (by rw [cell_of_row _ _ _ _ _ _ hK.out]; rfl) (by rw [cell_of_row _ _ _ _ _ _ hK.out]; rfl))
  have hb12 : Below w1.heap.size w1 w2 := ((Below.refl w1.heap.size w1).alloc (Nat.le_refl _) _).trans (hb.mono (by simp))
  have HR1 := Lib.hid (HR.out.below hb12)
  have HB2 : Hid (Below w.heap.size w w2) := Lib.hid (HB.out.trans (hb12.mono HB.out.size))
  clear hB hb hK hb12 HR HB
  generalize (w1.alloc (.cells #[.int .i64 8, .int .i64 0] 52)).heap.size = B2 at *
  go_wp2_with fail
  go_ret
  refine ⟨_, _, _, rfl, ⟨rfl, fun _ => ⟨_, 0, rfl, fun i hi => ?_⟩⟩, HB2.out.alloc HB2.out.size _⟩
  rcases (show i = 0 ∨ i = 1 by omega) with rfl | rfl
  · exact ⟨_, World.cell?_alloc_new w2 _ _ 0, HR1.out.below ((Below.refl _ _).alloc (Nat.le_refl _) _)⟩
  · exact ⟨_, World.cell?_alloc_new w2 _ _ 1, HR2.out.below ((Below.refl _ _).alloc (Nat.le_refl _) _)⟩
theorem firstOf_any (k : Int) (w : World) : Calls Try.prog 46 #[.int .i64 k] w fun e w' => FstR w w' e (needM k).first := by
  by_cases h5 : k = 5
  · subst h5; exact firstOf_5 w
  · by_cases h6 : k = 6
    · subst h6; exact firstOf_6 w
    · by_cases h7 : k = 7
      · subst h7; exact firstOf_7 w
      · rw [needM_other h5 h6 h7]; exact firstOf_other k w h5 h6 h7
/-- What needsOf returns: a value that lies in the world behind it. -/
def NdR (w w' : World) (e : Ending) (n : Nd) : Prop := ∃ v, e = .returned (.tuple #[v, .bool n.kept]) ∧ NdV w' v n ∧ Below w.heap.size w w'
theorem five_set (V : World) (g t : Nat) (a0 a1 a2 a3 a4 b0 b1 b2 b3 b4 : Value) (h : V.heap[g]? = some (.cells #[a0, a1, a2, a3, a4] t (0, 0))) :
    (((((V.setCell ⟨g, 0, none⟩ b0).setCell ⟨g, 1, none⟩ b1).setCell ⟨g, 2, none⟩ b2).setCell ⟨g, 3, none⟩ b3).setCell ⟨g, 4, none⟩ b4).heap[g]? = some (.cells #[b0, b1, b2, b3, b4] t (0, 0)) :=
  heap_setCell_same _ g 4 _ _ b4 (heap_setCell_same _ g 3 _ _ b3 (heap_setCell_same _ g 2 _ _ b2 (heap_setCell_same _ g 1 _ _ b1 (heap_setCell_same _ g 0 _ _ b0 h))))
theorem five_below {V w : World} {g : Nat} (b0 b1 b2 b3 b4 : Value) (h : Below g w V) : Below g w (((((V.setCell ⟨g, 0, none⟩ b0).setCell ⟨g, 1, none⟩ b1).setCell ⟨g, 2, none⟩ b2).setCell ⟨g, 3, none⟩ b3).setCell ⟨g, 4, none⟩ b4) :=
  ((((h.setCell (Nat.le_refl _) _).setCell (Nat.le_refl _) _).setCell (Nat.le_refl _) _).setCell (Nat.le_refl _) _).setCell (Nat.le_refl _) _
def V5 (V : World) (g : Nat) (N : Nd) (v : Value) : World :=
  ((((V.setCell ⟨g, 0, none⟩ (.int .i64 N.least)).setCell ⟨g, 1, none⟩ (.int .i64 N.most)).setCell ⟨g, 2, none⟩ v).setCell ⟨g, 3, none⟩ (.int .i64 N.bytes)).setCell ⟨g, 4, none⟩ (.int .u8 (N.high : Int))
theorem zero_ne {V : World} {g : Nat} {t : TypeId} {a : Addr} {v : Value} (hV : V.heap[g]? = some (.cells #[.int .i64 0, .int .i64 0, .slice none 0 0, .int .i64 0, .int .u8 0] t (0, 0)))
    (ha : V.cell? a = some v) (h0 : a.spot = none) (h1 : v ≠ .int .i64 0) (h2 : v ≠ .slice none 0 0) (h3 : v ≠ .int .u8 0) : a.block ≠ g := by
  rintro rfl
  obtain ⟨b, o, sp⟩ := a
  cases h0
  rw [cell_of_row V b o _ _ _ hV] at ha
  match o, ha with
  | 0, ha => simp at ha; exact h1 ha.symm
  | 1, ha => simp at ha; exact h1 ha.symm
  | 2, ha => simp at ha; exact h2 ha.symm
  | 3, ha => simp at ha; exact h1 ha.symm
  | 4, ha => simp at ha; exact h3 ha.symm
  | o + 5, ha => simp at ha
theorem Rls.other {V V' : World} {g : Nat} {t : TypeId} {q : Option Addr} {n : Nat} {l : List Rl} (h : Rls V q n l) (hV : V.heap[g]? = some (.cells #[.int .i64 0, .int .i64 0, .slice none 0 0, .int .i64 0, .int .u8 0] t (0, 0)))
    (hk : ∀ a : Addr, a.block ≠ g → V'.cell? a = V.cell? a) : Rls V' q n l := ⟨h.1, fun hn => by
  obtain ⟨b, o, e, hc⟩ := h.2 hn
  refine ⟨b, o, e, fun i hi => ?_⟩
  obtain ⟨v, h1, h2⟩ := hc i hi
  generalize hr : l.getD i .any = r at h2 ⊢
  have hvf : ∃ f x y, v = .func f x y := by cases h2 <;> exact ⟨_, _, _, rfl⟩
  refine ⟨v, (hk _ (zero_ne hV h1 rfl (by rintro rfl; simp at hvf) (by rintro rfl; simp at hvf) (by rintro rfl; simp at hvf))).trans h1, ?_⟩
  clear h1 hvf
  cases h2 with
  | any => exact .any
  | tag => exact .tag
  | ref B K h h0 => exact .ref B K ((hk _ (zero_ne hV h rfl (by simp) (by simp) (by simp))).trans h) ((hk _ (zero_ne hV h0 rfl (by simp) (by simp) (by simp))).trans h0)
  | refNil B K h h0 h1 =>
    have hne := zero_ne hV h0 rfl (by simp) (by simp) (by simp)
    exact .refNil B K ((hk _ (zero_ne hV h rfl (by simp) (by simp) (by simp))).trans h) ((hk _ hne).trans h0) ((hk ⟨K, 1, none⟩ hne).trans h1)⟩
theorem set_other (V : World) (g i : Nat) (v : Value) (a : Addr) (h : a.block ≠ g) : (V.setCell ⟨g, i, none⟩ v).cell? a = V.cell? a := World.cell?_setCell_other _ _ _ _ (fun e => h (by rw [← e]))
/-- What follows the call of firstOf. -/
theorem needs_end {w V : World} {q : Option Addr} {n c : Nat} {N : Nd} (T : Array Value)
    (hV : V.heap[w.heap.size]? = some (.cells #[.int .i64 0, .int .i64 0, .slice none 0 0, .int .i64 0, .int .u8 0] 63 (0, 0))) (hb : Below w.heap.size w V)
    (hR : Rls V q n N.first) (hT2 : T[2]? = some (.pointer (some ⟨w.heap.size, 0, none⟩))) (hT3 : T[3]? = some (.bool N.kept)) :
    bodyPost Try.prog Try.f25 (fun e w' => NdR w w' e N) Exit.ret ⟨T, []⟩ (V5 V w.heap.size N (.slice q n c)) := by
  have hF : (V5 V w.heap.size N (.slice q n c)).heap[w.heap.size]? = _ := five_set V w.heap.size _ _ _ _ _ _ (.int .i64 N.least) (.int .i64 N.most) (.slice q n c) (.int .i64 N.bytes) (.int .u8 (N.high : Int)) hV
  have hB : Below w.heap.size w (V5 V w.heap.size N (.slice q n c)) := five_below (.int .i64 N.least) (.int .i64 N.most) (.slice q n c) (.int .i64 N.bytes) (.int .u8 (N.high : Int)) hb
  have hO : Rls (V5 V w.heap.size N (.slice q n c)) q n N.first := hR.other hV (fun a ha => by
    unfold V5
    rw [set_other _ _ _ _ _ ha, set_other _ _ _ _ _ ha, set_other _ _ _ _ _ ha, set_other _ _ _ _ _ ha, set_other _ _ _ _ _ ha])
  generalize V5 V w.heap.size N (.slice q n c) = V' at *
  have z0 : V'.cell? ⟨w.heap.size, 0, none⟩ = some (.int .i64 N.least) := by rw [cell_of_row _ _ _ _ _ _ hF]; rfl
  have z1 : V'.cell? ⟨w.heap.size, 1, none⟩ = some (.int .i64 N.most) := by rw [cell_of_row _ _ _ _ _ _ hF]; rfl
  have z2 : V'.cell? ⟨w.heap.size, 2, none⟩ = some (.slice q n c) := by rw [cell_of_row _ _ _ _ _ _ hF]; rfl
  have z3 : V'.cell? ⟨w.heap.size, 3, none⟩ = some (.int .i64 N.bytes) := by rw [cell_of_row _ _ _ _ _ _ hF]; rfl
  have z4 : V'.cell? ⟨w.heap.size, 4, none⟩ = some (.int .u8 (N.high : Int)) := by rw [cell_of_row _ _ _ _ _ _ hF]; rfl
  exact bodyPost_ret (v := .tuple #[.agg #[.int .i64 N.least, .int .i64 N.most, .slice q n c, .int .i64 N.bytes, .int .u8 (N.high : Int)], .bool N.kept]) (by simp [results, Try.results25, go_sem, hT2, hT3, z0, z1, z2, z3, z4]) rfl
    ⟨_, rfl, ⟨q, n, c, rfl, hO⟩, hB⟩
set_option maxHeartbeats 4000000 in
theorem needsOf_any (k : Int) (w : World) : Calls Try.prog 25 #[.int .i64 k] w fun e w' => NdR w w' e (needM k) := by
  have hten : k = 0 ∨ k = 1 ∨ k = 2 ∨ k = 3 ∨ k = 4 ∨ k = 5 ∨ k = 6 ∨ k = 7 ∨ k = 8 ∨ k = 9 ∨ (k ≠ 0 ∧ k ≠ 1 ∧ k ≠ 2 ∧ k ≠ 3 ∧ k ≠ 4 ∧ k ≠ 5 ∧ k ≠ 6 ∧ k ≠ 7 ∧ k ≠ 8 ∧ k ≠ 9) := by omega
  rcases hten with rfl | rfl | rfl | rfl | rfl | rfl | rfl | rfl | rfl | rfl | ⟨h0, h1, h2, h3, h4, h5, h6, h7, h8, h9⟩
  case inr.inr.inr.inr.inr.inr.inr.inr.inr.inr =>
    have HN : Hid (needM k = ⟨0, 0, [], 0, 0, false⟩) := Lib.hid (by unfold needM; simp [h0, h1, h2, h3, h4, h5, h6, h7, h8, h9])
    rw [HN.out]
    have b0 : (k == 0) = false := beq_eq_false_iff_ne.2 h0
    have b1 : (k == 1) = false := beq_eq_false_iff_ne.2 h1
    have b2 : (k == 2) = false := beq_eq_false_iff_ne.2 h2
    have b3 : (k == 3) = false := beq_eq_false_iff_ne.2 h3
    have b4 : (k == 4) = false := beq_eq_false_iff_ne.2 h4
    have b5 : (k == 5) = false := beq_eq_false_iff_ne.2 h5
    have b6 : (k == 6) = false := beq_eq_false_iff_ne.2 h6
    have b7 : (k == 7) = false := beq_eq_false_iff_ne.2 h7
    have b8 : (k == 8) = false := beq_eq_false_iff_ne.2 h8
    have b9 : (k == 9) = false := beq_eq_false_iff_ne.2 h9
    clear h0 h1 h2 h3 h4 h5 h6 h7 h8 h9
    go_enter Try.func25, Try.ntmps25
    go_wp2_with fail
    refine (firstOf_any _ _).mono ?_
    rintro e w1 ⟨q, n, c, rfl, hR, hb⟩
    have H2 : w1.heap[w.heap.size]? = some (.cells #[.int .i64 0, .int .i64 0, .slice none 0 0, .int .i64 0, .int .u8 0] 63 (0, 0)) := by
      rw [hb.block w.heap.size (by simp)]; exact heap_alloc_new w _
    have HLT : Hid (w.heap.size < w1.heap.size) := Lib.hid (lt_of_block H2)
    have hc : ∀ (ob : Obj) (i : Nat) (v : Value), #[Value.int .i64 0, .int .i64 0, .slice none 0 0, .int .i64 0, .int .u8 0][i]? = some v → (w1.alloc ob).cell? ⟨w.heap.size, i, none⟩ = some v ∧ (w1.alloc ob).frozen? ⟨w.heap.size, i, none⟩ = false := fun ob i v hv => by
      have h := (Below.heap_alloc w1 ob _ (lt_of_block H2)).trans H2
      exact ⟨by rw [cell_of_row _ _ _ _ _ _ h]; exact hv, frozen_of_row _ _ _ _ _ h⟩
    have HH : Hid (∀ ob : Obj, (w1.alloc ob).heap[w.heap.size]? = some (.cells #[.int .i64 0, .int .i64 0, .slice none 0 0, .int .i64 0, .int .u8 0] 63 (0, 0)) ∧ Below w.heap.size w (w1.alloc ob)) := Lib.hid (fun ob =>
      ⟨(Below.heap_alloc w1 ob _ (lt_of_block H2)).trans H2, (((Below.refl w.heap.size w).alloc (Nat.le_refl _) _).trans (hb.mono (by simp))).alloc (by have := lt_of_block H2; omega) _⟩)
    have c0 := fun ob => hc ob 0 _ rfl
    have c1 := fun ob => hc ob 1 _ rfl
    have c2 := fun ob => hc ob 2 _ rfl
    have c3 := fun ob => hc ob 3 _ rfl
    have c4 := fun ob => hc ob 4 _ rfl
    clear hR hb hc H2 HN
    go_wp2_with fail
    exact needs_end (N := ⟨0, 0, [], 0, 0, false⟩) (q := none) (n := 0) (c := 0) _ (HH.out _).1 (HH.out _).2 ⟨rfl, fun h => absurd h (Nat.lt_irrefl 0)⟩ rfl rfl
  all_goals
    go_enter Try.func25, Try.ntmps25
    go_wp2_with fail
    refine (firstOf_any _ _).mono ?_
    rintro e w1 ⟨q, n, c, rfl, hR, hb⟩
    have H2 : w1.heap[w.heap.size]? = some (.cells #[.int .i64 0, .int .i64 0, .slice none 0 0, .int .i64 0, .int .u8 0] 63 (0, 0)) := by
      rw [hb.block w.heap.size (by simp)]; exact heap_alloc_new w _
    have HLT : Hid (w.heap.size < w1.heap.size) := Lib.hid (lt_of_block H2)
    have hc : ∀ (ob : Obj) (i : Nat) (v : Value), #[Value.int .i64 0, .int .i64 0, .slice none 0 0, .int .i64 0, .int .u8 0][i]? = some v → (w1.alloc ob).cell? ⟨w.heap.size, i, none⟩ = some v ∧ (w1.alloc ob).frozen? ⟨w.heap.size, i, none⟩ = false := fun ob i v hv => by
      have h := (Below.heap_alloc w1 ob _ (lt_of_block H2)).trans H2
      exact ⟨by rw [cell_of_row _ _ _ _ _ _ h]; exact hv, frozen_of_row _ _ _ _ _ h⟩
    have HH : Hid (∀ ob : Obj, (w1.alloc ob).heap[w.heap.size]? = some (.cells #[.int .i64 0, .int .i64 0, .slice none 0 0, .int .i64 0, .int .u8 0] 63 (0, 0)) ∧ Below w.heap.size w (w1.alloc ob)) := Lib.hid (fun ob =>
      ⟨(Below.heap_alloc w1 ob _ (lt_of_block H2)).trans H2, (((Below.refl w.heap.size w).alloc (Nat.le_refl _) _).trans (hb.mono (by simp))).alloc (by have := lt_of_block H2; omega) _⟩)
    have c0 := fun ob => hc ob 0 _ rfl
    have c1 := fun ob => hc ob 1 _ rfl
    have c2 := fun ob => hc ob 2 _ rfl
    have c3 := fun ob => hc ob 3 _ rfl
    have c4 := fun ob => hc ob 4 _ rfl
    have HR := Lib.hid hR
    clear hR hb hc H2
    go_wp2_with fail
    exact needs_end (N := needM _) _ (HH.out _).1 (HH.out _).2 (HR.out.below ((Below.refl _ _).alloc (Nat.le_refl _) _)) rfl rfl
end Go.Proofs.Ytpdihgmgcamgkaa
