/- Texts XLC7 to XLC8 of this seat, laid into one. -/
import Derived.Test.YthjjgpepgbfalaaGreatDoorM10
set_option linter.unusedVariables false
set_option linter.unusedSimpArgs false
set_option linter.constructorNameAsVariable false
section
/-! What a word is. -/
set_option maxRecDepth 20000
set_option linter.unusedSimpArgs false
set_option linter.unusedVariables false
namespace Go.Proofs.YthjjgpepgbfalaaGreatDoor.Lx
open Go.RowKit

def zTk : Tk := ⟨0, 0, []⟩
def a0 (L : List UInt8) : Tk × Int := if L = [46] then (⟨9, 0, []⟩, 0) else (zTk, 5)
def a1 (L : List UInt8) : Tk × Int := if parseE (cutB L).1 (cutB L).2 = 4 then (zTk, 5) else (⟨10, parseV (cutB L).1 (cutB L).2, []⟩, parseE (cutB L).1 (cutB L).2)
def a2 (L : List UInt8) : Tk × Int := match boolO L with | some b => (⟨11, b, []⟩, 0) | none => (zTk, 5)
def a3 (L : List UInt8) : Tk × Int := match chrO L with | some n => (⟨12, (n : Int), []⟩, 0) | none => (zTk, 5)
def a4 (L : List UInt8) : Tk × Int := if L = [] ∨ L.contains 35 = true ∨ begN L = true then (zTk, 5) else if 32 < L.length then (zTk, 2) else (⟨14, 0, L⟩, 0)
/-- What the k-th function tells of a word; 5: it is none of its own. -/
def askK (L : List UInt8) : Nat → Tk × Int
  | 0 => a0 L
  | 1 => a1 L
  | 2 => a2 L
  | 3 => a3 L
  | _ => a4 L
theorem parseE_ne (b : Nat) (L : List UInt8) : parseE b L ≠ 5 := by unfold parseE; split <;> (try split) <;> decide
theorem wordM_at {L : List UInt8} : ∀ {k : Nat}, k < 5 → (∀ j, j < k → (askK L j).2 = 5) → (askK L k).2 ≠ 5 → wordM L = askK L k := by
  intro k hk h1 h2
  have n0 : ∀ {k}, 0 < k → (∀ j, j < k → (askK L j).2 = 5) → L ≠ [46] := fun hk h e => by have := h 0 hk; rw [show askK L 0 = a0 L from rfl] at this; unfold a0 at this; rw [if_pos e] at this; exact absurd this (by decide)
  have n1 : ∀ {k}, 1 < k → (∀ j, j < k → (askK L j).2 = 5) → parseE (cutB L).1 (cutB L).2 = 4 := fun hk h => by
    have := h 1 hk
    rw [show askK L 1 = a1 L from rfl] at this
    unfold a1 at this
    by_cases e : parseE (cutB L).1 (cutB L).2 = 4
    · exact e
    · rw [if_neg e] at this; exact absurd this (parseE_ne _ _)
  have n2 : ∀ {k}, 2 < k → (∀ j, j < k → (askK L j).2 = 5) → boolO L = none := fun hk h => by
    have := h 2 hk
    rw [show askK L 2 = a2 L from rfl] at this
    unfold a2 at this
    cases e : boolO L with
    | none => rfl
    | some b => rw [e] at this; exact absurd this (show (0 : Int) ≠ 5 by decide)
  have n3 : ∀ {k}, 3 < k → (∀ j, j < k → (askK L j).2 = 5) → chrO L = none := fun hk h => by
    have := h 3 hk
    rw [show askK L 3 = a3 L from rfl] at this
    unfold a3 at this
    cases e : chrO L with
    | none => rfl
    | some b => rw [e] at this; exact absurd this (show (0 : Int) ≠ 5 by decide)
  match k, hk with
  | 0, _ =>
    rw [show askK L 0 = a0 L from rfl] at h2 ⊢
    unfold a0 at h2 ⊢
    by_cases e : L = [46]
    · unfold wordM; rw [if_pos e, if_pos e]
    · rw [if_neg e] at h2; exact absurd rfl h2
  | 1, hk =>
    rw [show askK L 1 = a1 L from rfl] at h2 ⊢
    unfold a1 at h2 ⊢
    by_cases e : parseE (cutB L).1 (cutB L).2 = 4
    · rw [if_pos e] at h2; exact absurd rfl h2
    · unfold wordM; rw [if_neg (n0 (k := 1) (by omega) h1), if_pos e, if_neg e]
  | 2, hk =>
    rw [show askK L 2 = a2 L from rfl] at h2 ⊢
    unfold a2 at h2 ⊢
    unfold wordM; rw [if_neg (n0 (k := 2) (by omega) h1), if_neg (not_not_intro (n1 (k := 2) (by omega) h1))]
    cases e : boolO L with
    | none => rw [e] at h2; exact absurd rfl h2
    | some b => rfl
  | 3, hk =>
    rw [show askK L 3 = a3 L from rfl] at h2 ⊢
    unfold a3 at h2 ⊢
    unfold wordM; rw [if_neg (n0 (k := 3) (by omega) h1), if_neg (not_not_intro (n1 (k := 3) (by omega) h1)), n2 (k := 3) (by omega) h1]
    cases e : chrO L with
    | none => rw [e] at h2; exact absurd rfl h2
    | some b => rfl
  | 4, hk =>
    rw [show askK L 4 = a4 L from rfl] at h2 ⊢
    unfold a4 at h2 ⊢
    unfold wordM; rw [if_neg (n0 (k := 4) (by omega) h1), if_neg (not_not_intro (n1 (k := 4) (by omega) h1)), n2 (k := 4) (by omega) h1, n3 (k := 4) (by omega) h1]
    by_cases e : L = [] ∨ L.contains 35 = true ∨ begN L = true
    · rw [if_pos e] at h2; exact absurd rfl h2
    · rw [if_neg e]
      show (if _ then _ else _) = _
      rw [if_neg e]
      by_cases e2 : 32 < L.length
      · rw [if_pos e2, if_pos e2]; rfl
      · rw [if_neg e2, if_neg e2]
  | k + 5, hk => exact absurd hk (by omega)
theorem wordM_no {L : List UInt8} (h : ∀ j, j < 5 → (askK L j).2 = 5) : wordM L = (zTk, 4) := by
  have h0 := h 0 (by omega)
  have h1 := h 1 (by omega)
  have h2 := h 2 (by omega)
  have h3 := h 3 (by omega)
  have h4 := h 4 (by omega)
  rw [show askK L 0 = a0 L from rfl] at h0
  rw [show askK L 1 = a1 L from rfl] at h1
  rw [show askK L 2 = a2 L from rfl] at h2
  rw [show askK L 3 = a3 L from rfl] at h3
  rw [show askK L 4 = a4 L from rfl] at h4
  unfold a0 at h0
  unfold a1 at h1
  unfold a2 at h2
  unfold a3 at h3
  unfold a4 at h4
  have e0 : L ≠ [46] := fun e => by rw [if_pos e] at h0; exact absurd h0 (by decide)
  have e1 : parseE (cutB L).1 (cutB L).2 = 4 := by
    by_cases e : parseE (cutB L).1 (cutB L).2 = 4
    · exact e
    · rw [if_neg e] at h1; exact absurd h1 (parseE_ne _ _)
  have e2 : boolO L = none := by
    cases e : boolO L with
    | none => rfl
    | some b => rw [e] at h2; exact absurd h2 (show (0 : Int) ≠ 5 by decide)
  have e3 : chrO L = none := by
    cases e : chrO L with
    | none => rfl
    | some b => rw [e] at h3; exact absurd h3 (show (0 : Int) ≠ 5 by decide)
  have e4 : L = [] ∨ L.contains 35 = true ∨ begN L = true := by
    by_cases e : L = [] ∨ L.contains 35 = true ∨ begN L = true
    · exact e
    · rw [if_neg e] at h4
      split at h4
      · exact absurd h4 (show (2 : Int) ≠ 5 by decide)
      · exact absurd h4 (show (0 : Int) ≠ 5 by decide)
  unfold wordM
  rw [if_neg e0, if_neg (not_not_intro e1), e2, e3]
  show (if _ then _ else _) = _
  rw [if_pos e4]; rfl
theorem ask0 (S : ByteArray) (w : World) (hS : S.size ≤ 5000) : Calls Tryz.prog 137 #[.string S] w fun e w' => e = .returned (askV (a0 (tl S)).1 (a0 (tl S)).2) ∧ Below w.heap.size w w' := by
  refine (dot_any S _).mono ?_
  rintro e w' ⟨rfl, hb⟩
  refine ⟨congrArg Ending.returned ?_, hb⟩
  unfold a0
  split <;> rfl
theorem ask1 (S : ByteArray) (w : World) (hS : S.size ≤ 5000) : Calls Tryz.prog 138 #[.string S] w fun e w' => e = .returned (askV (a1 (tl S)).1 (a1 (tl S)).2) ∧ Below w.heap.size w w' := by
  refine (number_any S _ hS).mono ?_
  rintro e w' ⟨rfl, hb⟩
  refine ⟨congrArg Ending.returned ?_, hb⟩
  unfold a1
  unfold numV
  split <;> rfl
theorem ask2 (S : ByteArray) (w : World) (hS : S.size ≤ 5000) : Calls Tryz.prog 139 #[.string S] w fun e w' => e = .returned (askV (a2 (tl S)).1 (a2 (tl S)).2) ∧ Below w.heap.size w w' := by
  refine (truth_any S _).mono ?_
  rintro e w' ⟨rfl, hb⟩
  refine ⟨congrArg Ending.returned ?_, hb⟩
  unfold a2
  cases boolO (tl S) <;> rfl
theorem ask3 (S : ByteArray) (w : World) (h : Env w) (hS : S.size ≤ 5000) : Calls Tryz.prog 140 #[.string S] w fun e w' => e = .returned (askV (a3 (tl S)).1 (a3 (tl S)).2) ∧ Below w.heap.size w w' := by
  refine (char_any S _ h hS).mono ?_
  rintro e w' ⟨rfl, hb⟩
  refine ⟨congrArg Ending.returned ?_, hb⟩
  unfold a3 chrV
  cases chrO (tl S) <;> rfl
theorem ask4 (S : ByteArray) (w : World) (hS : S.size ≤ 5000) : Calls Tryz.prog 141 #[.string S] w fun e w' => e = .returned (askV (a4 (tl S)).1 (a4 (tl S)).2) ∧ Below w.heap.size w w' := by
  refine (symbol_any S _ hS).mono ?_
  rintro e w' ⟨rfl, hb⟩
  refine ⟨congrArg Ending.returned ?_, hb⟩
  unfold a4
  unfold symV
  split
  · rfl
  · split <;> rfl
set_option maxHeartbeats 6400000 in
theorem wordOf_any (S : ByteArray) (w : World) (hE : Env w) (hS : S.size ≤ 5000) : Calls Tryz.prog 120 #[.string S] w fun e w' => e = .returned (askV (wordM (tl S)).1 (wordM (tl S)).2) ∧ Below w.heap.size w w' := by
  obtain ⟨hz, -⟩ := zero_of_info (P := Tryz.prog) zeroTok
  have b0 := build0
  obtain ⟨M, hM⟩ : ∃ M, wordM (tl S) = M := ⟨_, rfl⟩
  have HM := Lib.hid hM
  rw [hM]
  clear hM
  have en0 : ∀ args w, (callFunc 137 args).run Tryz.prog w = .ok (.enter 137 args) w := enters_of Tryz.func137 (by kernel_rfl) rfl
  have en1 : ∀ args w, (callFunc 138 args).run Tryz.prog w = .ok (.enter 138 args) w := enters_of Tryz.func138 (by kernel_rfl) rfl
  have en2 : ∀ args w, (callFunc 139 args).run Tryz.prog w = .ok (.enter 139 args) w := enters_of Tryz.func139 (by kernel_rfl) rfl
  have en3 : ∀ args w, (callFunc 140 args).run Tryz.prog w = .ok (.enter 140 args) w := enters_of Tryz.func140 (by kernel_rfl) rfl
  have en4 : ∀ args w, (callFunc 141 args).run Tryz.prog w = .ok (.enter 141 args) w := enters_of Tryz.func141 (by kernel_rfl) rfl
  have HX0 : Hid (Bx4 (w.alloc (.cells #[.int .i64 0, .int .i64 0, .string ⟨#[]⟩, .int .i64 0] 71)) w.heap.size #[.int .i64 0, .int .i64 0, .string ⟨#[]⟩, .int .i64 0]) := Lib.hid (Bx4.new _ _)
  have HB0 := Lib.hid (alloc_below w (.cells #[.int .i64 0, .int .i64 0, .string ⟨#[]⟩, .int .i64 0] 71))
  go_enter Tryz.func120, Tryz.ntmps120
  go_upto_region 2 with fail
  have HSZ : Hid ((w.alloc (.cells #[.int .i64 0, .int .i64 0, .string ⟨#[]⟩, .int .i64 0] 71)).heap.size = w.heap.size + 1) := Lib.hid (by simp)
  generalize w.alloc (.cells #[.int .i64 0, .int .i64 0, .string ⟨#[]⟩, .int .i64 0] 71) = W0 at *
  have hf := heap_alloc_new W0 (.cells #[.func (.func 137) #[] #[], .func (.func 138) #[] #[], .func (.func 139) #[] #[], .func (.func 140) #[] #[], .func (.func 141) #[] #[]] 183)
  have hb1 : Below W0.heap.size W0 (W0.alloc (.cells #[.func (.func 137) #[] #[], .func (.func 138) #[] #[], .func (.func 139) #[] #[], .func (.func 140) #[] #[], .func (.func 141) #[] #[]] 183)) := alloc_below _ _
  generalize W0.alloc (.cells #[.func (.func 137) #[] #[], .func (.func 138) #[] #[], .func (.func 139) #[] #[], .func (.func 140) #[] #[], .func (.func 141) #[] #[]] 183) = W1 at *
  rw [HSZ.out] at hf
  have HF := Lib.hid hf
  have HBX := Lib.hid (HX0.out.below hb1)
  have HB1 : Hid (Below w.heap.size w W1) := Lib.hid (HB0.out.trans (hb1.mono (by have := HSZ.out; omega)))
  have HEW : Hid (Env w) := Lib.hid hE
  clear hf hb1 hE
  go_loopw [10] (fun kv wr => ∃ k : Nat, kv = .int .i64 (k : Int) ∧ k ≤ 5 ∧ Hid ((∀ j, j < k → (askK (tl S) j).2 = 5) ∧ Below W1.heap.size W1 wr)) (fun kv _ => 5 - (RowKit.intOf kv).toNat)
  case atStart => exact ⟨0, rfl, by omega, Lib.hid ⟨fun j hj => absurd hj (Nat.not_lt_zero j), Below.refl _ _⟩⟩
  case round =>
    obtain ⟨k, rfl, hk, HK⟩ := hrel
    have hfr := (HK.out.2.block _ (lt_of_block HF.out)).trans HF.out
    have HSW : Hid (Env wr) := Lib.hid (HEW.out.below (HB1.out.trans (HK.out.2.mono HB1.out.size)))
    have HBR : Hid (Below w.heap.size w wr) := Lib.hid (HB1.out.trans (HK.out.2.mono HB1.out.size))
    have HXR := Lib.hid (HBX.out.below HK.out.2)
    rcases (show k = 0 ∨ k = 1 ∨ k = 2 ∨ k = 3 ∨ k = 4 ∨ k = 5 by omega) with rfl | rfl | rfl | rfl | rfl | rfl
    · have c := cell_of_row _ _ 0 _ _ _ hfr
      simp at c
      obtain ⟨A, hA⟩ : ∃ A, a0 (tl S) = A := ⟨_, rfl⟩
      have hask := ask0 S wr hS
      rw [hA] at hask
      have HA : Hid (askK (tl S) 0 = A) := hA
      obtain ⟨⟨tk, tn, ts⟩, e0⟩ := A
      unfold askV tkC at hask
      dsimp only at hask
      obtain ⟨T, hT⟩ : ∃ T : ByteArray, T = ⟨ts.toArray⟩ := ⟨_, rfl⟩
      have HT := Lib.hid hT
      rw [← hT] at hask
      have HAS := Lib.hid hask
      clear hask hA hfr hT
      have hb9 : ∀ w2, Below w2.heap.size w2 (w2.alloc (.cells #[.int .i64 (tk : Int), .int .i64 tn, .string T, .int .i64 0] 71)) := fun w2 => alloc_below _ _
      have HB9 := Lib.hid hb9
      clear hb9
      by_cases h5 : e0 = 5
      · subst h5
        have HK2 : Hid (∀ j, j < 0 + 1 → (askK (tl S) j).2 = 5) := Lib.hid fun j hj => by
          by_cases ej : j = 0
          · rw [ej, HA.out]
          · exact HK.out.1 j (by omega)
        go_wp2_with (go_at_fn 137; refine (HAS.out).mono ?_; rintro e w2 ⟨rfl, hb2⟩; have HB2 := Lib.hid hb2; clear hb2)
        go_roundw
        case rel => exact ⟨0 + 1, rfl, by omega, Lib.hid ⟨HK2.out, HK.out.2.trans ((HB2.out.trans ((HB9.out w2).mono HB2.out.size)).mono HK.out.2.size)⟩⟩
        case measure => simp [RowKit.intOf]
      · have hne : (e0 != 5) = true := bne_iff_ne.2 h5
        have HV : Hid (M = (⟨tk, tn, ts⟩, e0)) := by
          unfold Hid
          rw [← HM.out, ← HA.out]
          exact wordM_at (by omega) HK.out.1 (by rw [HA.out]; exact h5)
        clear h5
        go_upto_region 5 with (go_at_fn 137; refine (HAS.out).mono ?_; rintro e w2 ⟨rfl, hb2⟩; have HB2 := Lib.hid hb2; clear hb2)
        have hx9 := heap_alloc_new w2 (.cells #[.int .i64 (tk : Int), .int .i64 tn, .string T, .int .i64 0] 71)
        have hb3 := HB9.out w2
        generalize w2.alloc (.cells #[.int .i64 (tk : Int), .int .i64 tn, .string T, .int .i64 0] 71) = w3 at *
        have d0 := cell_of_row _ _ 0 _ _ _ hx9
        have d1 := cell_of_row _ _ 1 _ _ _ hx9
        have d2 := cell_of_row _ _ 2 _ _ _ hx9
        have d3 := cell_of_row _ _ 3 _ _ _ hx9
        simp at d0 d1 d2 d3
        have HB3 : Hid (Below w.heap.size w w3) := Lib.hid (HBR.out.trans ((HB2.out.trans (hb3.mono HB2.out.size)).mono HBR.out.size))
        have hbx := (HXR.out.below HB2.out).below hb3
        obtain ⟨⟨q0, q1, q2, q3⟩, f0, f1, f2, f3⟩ := hbx.cells
        have HBX3 := Lib.hid hbx
        clear hbx hb3 hx9
        go_wp2_with fail
        refine bodyPost_ret (results_row_tmp rfl _ _ w.heap.size 71 _ (0, 0) _ rfl (HBX3.out.set _ _ _ _).row Tryz.underlying71 rfl sizeTok) rfl ⟨?_, box_below HB3.out (Nat.le_refl _) _ _ _ _⟩
        rw [HV.out, HT.out]; rfl
    · have c := cell_of_row _ _ 1 _ _ _ hfr
      simp at c
      obtain ⟨A, hA⟩ : ∃ A, a1 (tl S) = A := ⟨_, rfl⟩
      have hask := ask1 S wr hS
      rw [hA] at hask
      have HA : Hid (askK (tl S) 1 = A) := hA
      obtain ⟨⟨tk, tn, ts⟩, e0⟩ := A
      unfold askV tkC at hask
      dsimp only at hask
      obtain ⟨T, hT⟩ : ∃ T : ByteArray, T = ⟨ts.toArray⟩ := ⟨_, rfl⟩
      have HT := Lib.hid hT
      rw [← hT] at hask
      have HAS := Lib.hid hask
      clear hask hA hfr hT
      have hb9 : ∀ w2, Below w2.heap.size w2 (w2.alloc (.cells #[.int .i64 (tk : Int), .int .i64 tn, .string T, .int .i64 0] 71)) := fun w2 => alloc_below _ _
      have HB9 := Lib.hid hb9
      clear hb9
      by_cases h5 : e0 = 5
      · subst h5
        have HK2 : Hid (∀ j, j < 1 + 1 → (askK (tl S) j).2 = 5) := Lib.hid fun j hj => by
          by_cases ej : j = 1
          · rw [ej, HA.out]
          · exact HK.out.1 j (by omega)
        go_wp2_with (go_at_fn 138; refine (HAS.out).mono ?_; rintro e w2 ⟨rfl, hb2⟩; have HB2 := Lib.hid hb2; clear hb2)
        go_roundw
        case rel => exact ⟨1 + 1, rfl, by omega, Lib.hid ⟨HK2.out, HK.out.2.trans ((HB2.out.trans ((HB9.out w2).mono HB2.out.size)).mono HK.out.2.size)⟩⟩
        case measure => simp [RowKit.intOf]
      · have hne : (e0 != 5) = true := bne_iff_ne.2 h5
        have HV : Hid (M = (⟨tk, tn, ts⟩, e0)) := by
          unfold Hid
          rw [← HM.out, ← HA.out]
          exact wordM_at (by omega) HK.out.1 (by rw [HA.out]; exact h5)
        clear h5
        go_upto_region 5 with (go_at_fn 138; refine (HAS.out).mono ?_; rintro e w2 ⟨rfl, hb2⟩; have HB2 := Lib.hid hb2; clear hb2)
        have hx9 := heap_alloc_new w2 (.cells #[.int .i64 (tk : Int), .int .i64 tn, .string T, .int .i64 0] 71)
        have hb3 := HB9.out w2
        generalize w2.alloc (.cells #[.int .i64 (tk : Int), .int .i64 tn, .string T, .int .i64 0] 71) = w3 at *
        have d0 := cell_of_row _ _ 0 _ _ _ hx9
        have d1 := cell_of_row _ _ 1 _ _ _ hx9
        have d2 := cell_of_row _ _ 2 _ _ _ hx9
        have d3 := cell_of_row _ _ 3 _ _ _ hx9
        simp at d0 d1 d2 d3
        have HB3 : Hid (Below w.heap.size w w3) := Lib.hid (HBR.out.trans ((HB2.out.trans (hb3.mono HB2.out.size)).mono HBR.out.size))
        have hbx := (HXR.out.below HB2.out).below hb3
        obtain ⟨⟨q0, q1, q2, q3⟩, f0, f1, f2, f3⟩ := hbx.cells
        have HBX3 := Lib.hid hbx
        clear hbx hb3 hx9
        go_wp2_with fail
        refine bodyPost_ret (results_row_tmp rfl _ _ w.heap.size 71 _ (0, 0) _ rfl (HBX3.out.set _ _ _ _).row Tryz.underlying71 rfl sizeTok) rfl ⟨?_, box_below HB3.out (Nat.le_refl _) _ _ _ _⟩
        rw [HV.out, HT.out]; rfl
    · have c := cell_of_row _ _ 2 _ _ _ hfr
      simp at c
      obtain ⟨A, hA⟩ : ∃ A, a2 (tl S) = A := ⟨_, rfl⟩
      have hask := ask2 S wr hS
      rw [hA] at hask
      have HA : Hid (askK (tl S) 2 = A) := hA
      obtain ⟨⟨tk, tn, ts⟩, e0⟩ := A
      unfold askV tkC at hask
      dsimp only at hask
      obtain ⟨T, hT⟩ : ∃ T : ByteArray, T = ⟨ts.toArray⟩ := ⟨_, rfl⟩
      have HT := Lib.hid hT
      rw [← hT] at hask
      have HAS := Lib.hid hask
      clear hask hA hfr hT
      have hb9 : ∀ w2, Below w2.heap.size w2 (w2.alloc (.cells #[.int .i64 (tk : Int), .int .i64 tn, .string T, .int .i64 0] 71)) := fun w2 => alloc_below _ _
      have HB9 := Lib.hid hb9
      clear hb9
      by_cases h5 : e0 = 5
      · subst h5
        have HK2 : Hid (∀ j, j < 2 + 1 → (askK (tl S) j).2 = 5) := Lib.hid fun j hj => by
          by_cases ej : j = 2
          · rw [ej, HA.out]
          · exact HK.out.1 j (by omega)
        go_wp2_with (go_at_fn 139; refine (HAS.out).mono ?_; rintro e w2 ⟨rfl, hb2⟩; have HB2 := Lib.hid hb2; clear hb2)
        go_roundw
        case rel => exact ⟨2 + 1, rfl, by omega, Lib.hid ⟨HK2.out, HK.out.2.trans ((HB2.out.trans ((HB9.out w2).mono HB2.out.size)).mono HK.out.2.size)⟩⟩
        case measure => simp [RowKit.intOf]
      · have hne : (e0 != 5) = true := bne_iff_ne.2 h5
        have HV : Hid (M = (⟨tk, tn, ts⟩, e0)) := by
          unfold Hid
          rw [← HM.out, ← HA.out]
          exact wordM_at (by omega) HK.out.1 (by rw [HA.out]; exact h5)
        clear h5
        go_upto_region 5 with (go_at_fn 139; refine (HAS.out).mono ?_; rintro e w2 ⟨rfl, hb2⟩; have HB2 := Lib.hid hb2; clear hb2)
        have hx9 := heap_alloc_new w2 (.cells #[.int .i64 (tk : Int), .int .i64 tn, .string T, .int .i64 0] 71)
        have hb3 := HB9.out w2
        generalize w2.alloc (.cells #[.int .i64 (tk : Int), .int .i64 tn, .string T, .int .i64 0] 71) = w3 at *
        have d0 := cell_of_row _ _ 0 _ _ _ hx9
        have d1 := cell_of_row _ _ 1 _ _ _ hx9
        have d2 := cell_of_row _ _ 2 _ _ _ hx9
        have d3 := cell_of_row _ _ 3 _ _ _ hx9
        simp at d0 d1 d2 d3
        have HB3 : Hid (Below w.heap.size w w3) := Lib.hid (HBR.out.trans ((HB2.out.trans (hb3.mono HB2.out.size)).mono HBR.out.size))
        have hbx := (HXR.out.below HB2.out).below hb3
        obtain ⟨⟨q0, q1, q2, q3⟩, f0, f1, f2, f3⟩ := hbx.cells
        have HBX3 := Lib.hid hbx
        clear hbx hb3 hx9
        go_wp2_with fail
        refine bodyPost_ret (results_row_tmp rfl _ _ w.heap.size 71 _ (0, 0) _ rfl (HBX3.out.set _ _ _ _).row Tryz.underlying71 rfl sizeTok) rfl ⟨?_, box_below HB3.out (Nat.le_refl _) _ _ _ _⟩
        rw [HV.out, HT.out]; rfl
    · have c := cell_of_row _ _ 3 _ _ _ hfr
      simp at c
      obtain ⟨A, hA⟩ : ∃ A, a3 (tl S) = A := ⟨_, rfl⟩
      have hask := ask3 S wr HSW.out hS
      rw [hA] at hask
      have HA : Hid (askK (tl S) 3 = A) := hA
      obtain ⟨⟨tk, tn, ts⟩, e0⟩ := A
      unfold askV tkC at hask
      dsimp only at hask
      obtain ⟨T, hT⟩ : ∃ T : ByteArray, T = ⟨ts.toArray⟩ := ⟨_, rfl⟩
      have HT := Lib.hid hT
      rw [← hT] at hask
      have HAS := Lib.hid hask
      clear hask hA hfr hT
      have hb9 : ∀ w2, Below w2.heap.size w2 (w2.alloc (.cells #[.int .i64 (tk : Int), .int .i64 tn, .string T, .int .i64 0] 71)) := fun w2 => alloc_below _ _
      have HB9 := Lib.hid hb9
      clear hb9
      by_cases h5 : e0 = 5
      · subst h5
        have HK2 : Hid (∀ j, j < 3 + 1 → (askK (tl S) j).2 = 5) := Lib.hid fun j hj => by
          by_cases ej : j = 3
          · rw [ej, HA.out]
          · exact HK.out.1 j (by omega)
        go_wp2_with (go_at_fn 140; refine (HAS.out).mono ?_; rintro e w2 ⟨rfl, hb2⟩; have HB2 := Lib.hid hb2; clear hb2)
        go_roundw
        case rel => exact ⟨3 + 1, rfl, by omega, Lib.hid ⟨HK2.out, HK.out.2.trans ((HB2.out.trans ((HB9.out w2).mono HB2.out.size)).mono HK.out.2.size)⟩⟩
        case measure => simp [RowKit.intOf]
      · have hne : (e0 != 5) = true := bne_iff_ne.2 h5
        have HV : Hid (M = (⟨tk, tn, ts⟩, e0)) := by
          unfold Hid
          rw [← HM.out, ← HA.out]
          exact wordM_at (by omega) HK.out.1 (by rw [HA.out]; exact h5)
        clear h5
        go_upto_region 5 with (go_at_fn 140; refine (HAS.out).mono ?_; rintro e w2 ⟨rfl, hb2⟩; have HB2 := Lib.hid hb2; clear hb2)
        have hx9 := heap_alloc_new w2 (.cells #[.int .i64 (tk : Int), .int .i64 tn, .string T, .int .i64 0] 71)
        have hb3 := HB9.out w2
        generalize w2.alloc (.cells #[.int .i64 (tk : Int), .int .i64 tn, .string T, .int .i64 0] 71) = w3 at *
        have d0 := cell_of_row _ _ 0 _ _ _ hx9
        have d1 := cell_of_row _ _ 1 _ _ _ hx9
        have d2 := cell_of_row _ _ 2 _ _ _ hx9
        have d3 := cell_of_row _ _ 3 _ _ _ hx9
        simp at d0 d1 d2 d3
        have HB3 : Hid (Below w.heap.size w w3) := Lib.hid (HBR.out.trans ((HB2.out.trans (hb3.mono HB2.out.size)).mono HBR.out.size))
        have hbx := (HXR.out.below HB2.out).below hb3
        obtain ⟨⟨q0, q1, q2, q3⟩, f0, f1, f2, f3⟩ := hbx.cells
        have HBX3 := Lib.hid hbx
        clear hbx hb3 hx9
        go_wp2_with fail
        refine bodyPost_ret (results_row_tmp rfl _ _ w.heap.size 71 _ (0, 0) _ rfl (HBX3.out.set _ _ _ _).row Tryz.underlying71 rfl sizeTok) rfl ⟨?_, box_below HB3.out (Nat.le_refl _) _ _ _ _⟩
        rw [HV.out, HT.out]; rfl
    · have c := cell_of_row _ _ 4 _ _ _ hfr
      simp at c
      obtain ⟨A, hA⟩ : ∃ A, a4 (tl S) = A := ⟨_, rfl⟩
      have hask := ask4 S wr hS
      rw [hA] at hask
      have HA : Hid (askK (tl S) 4 = A) := hA
      obtain ⟨⟨tk, tn, ts⟩, e0⟩ := A
      unfold askV tkC at hask
      dsimp only at hask
      obtain ⟨T, hT⟩ : ∃ T : ByteArray, T = ⟨ts.toArray⟩ := ⟨_, rfl⟩
      have HT := Lib.hid hT
      rw [← hT] at hask
      have HAS := Lib.hid hask
      clear hask hA hfr hT
      have hb9 : ∀ w2, Below w2.heap.size w2 (w2.alloc (.cells #[.int .i64 (tk : Int), .int .i64 tn, .string T, .int .i64 0] 71)) := fun w2 => alloc_below _ _
      have HB9 := Lib.hid hb9
      clear hb9
      by_cases h5 : e0 = 5
      · subst h5
        have HK2 : Hid (∀ j, j < 4 + 1 → (askK (tl S) j).2 = 5) := Lib.hid fun j hj => by
          by_cases ej : j = 4
          · rw [ej, HA.out]
          · exact HK.out.1 j (by omega)
        go_wp2_with (go_at_fn 141; refine (HAS.out).mono ?_; rintro e w2 ⟨rfl, hb2⟩; have HB2 := Lib.hid hb2; clear hb2)
        go_roundw
        case rel => exact ⟨4 + 1, rfl, by omega, Lib.hid ⟨HK2.out, HK.out.2.trans ((HB2.out.trans ((HB9.out w2).mono HB2.out.size)).mono HK.out.2.size)⟩⟩
        case measure => simp [RowKit.intOf]
      · have hne : (e0 != 5) = true := bne_iff_ne.2 h5
        have HV : Hid (M = (⟨tk, tn, ts⟩, e0)) := by
          unfold Hid
          rw [← HM.out, ← HA.out]
          exact wordM_at (by omega) HK.out.1 (by rw [HA.out]; exact h5)
        clear h5
        go_upto_region 5 with (go_at_fn 141; refine (HAS.out).mono ?_; rintro e w2 ⟨rfl, hb2⟩; have HB2 := Lib.hid hb2; clear hb2)
        have hx9 := heap_alloc_new w2 (.cells #[.int .i64 (tk : Int), .int .i64 tn, .string T, .int .i64 0] 71)
        have hb3 := HB9.out w2
        generalize w2.alloc (.cells #[.int .i64 (tk : Int), .int .i64 tn, .string T, .int .i64 0] 71) = w3 at *
        have d0 := cell_of_row _ _ 0 _ _ _ hx9
        have d1 := cell_of_row _ _ 1 _ _ _ hx9
        have d2 := cell_of_row _ _ 2 _ _ _ hx9
        have d3 := cell_of_row _ _ 3 _ _ _ hx9
        simp at d0 d1 d2 d3
        have HB3 : Hid (Below w.heap.size w w3) := Lib.hid (HBR.out.trans ((HB2.out.trans (hb3.mono HB2.out.size)).mono HBR.out.size))
        have hbx := (HXR.out.below HB2.out).below hb3
        obtain ⟨⟨q0, q1, q2, q3⟩, f0, f1, f2, f3⟩ := hbx.cells
        have HBX3 := Lib.hid hbx
        clear hbx hb3 hx9
        go_wp2_with fail
        refine bodyPost_ret (results_row_tmp rfl _ _ w.heap.size 71 _ (0, 0) _ rfl (HBX3.out.set _ _ _ _).row Tryz.underlying71 rfl sizeTok) rfl ⟨?_, box_below HB3.out (Nat.le_refl _) _ _ _ _⟩
        rw [HV.out, HT.out]; rfl
    · have HV : Hid (M = (zTk, 4)) := by
        unfold Hid
        rw [← HM.out]
        exact wordM_no HK.out.1
      obtain ⟨⟨q0, q1, q2, q3⟩, f0, f1, f2, f3⟩ := HXR.out.cells
      clear hfr
      go_wp2_with fail
      refine bodyPost_ret (results_row_tmp rfl _ _ w.heap.size 71 _ (0, 0) _ rfl (HXR.out.set _ _ _ _).row Tryz.underlying71 rfl sizeTok) rfl ⟨?_, box_below HBR.out (Nat.le_refl _) _ _ _ _⟩
      rw [HV.out]; rfl
end Go.Proofs.YthjjgpepgbfalaaGreatDoor.Lx
end
section
/-! Escapes, and what stands between quotes. -/
set_option maxRecDepth 20000
set_option linter.unusedSimpArgs false
set_option linter.unusedVariables false
namespace Go.Proofs.YthjjgpepgbfalaaGreatDoor.Lx
open Go.RowKit

theorem esc0 (W : World) : (Instr.index 9 (.string ⟨#[34, 92, 10, 9, 13, 7, 8]⟩) (.int .i64 (Lib.indexByte escL 34))).run Tryz.prog W = .ok (.int .u8 ((escB.getD (escL.idxOf 34) 0).toNat : Int)) W := by kernel_rfl
theorem esc1 (W : World) : (Instr.index 9 (.string ⟨#[34, 92, 10, 9, 13, 7, 8]⟩) (.int .i64 (Lib.indexByte escL 92))).run Tryz.prog W = .ok (.int .u8 ((escB.getD (escL.idxOf 92) 0).toNat : Int)) W := by kernel_rfl
theorem esc2 (W : World) : (Instr.index 9 (.string ⟨#[34, 92, 10, 9, 13, 7, 8]⟩) (.int .i64 (Lib.indexByte escL 110))).run Tryz.prog W = .ok (.int .u8 ((escB.getD (escL.idxOf 110) 0).toNat : Int)) W := by kernel_rfl
theorem esc3 (W : World) : (Instr.index 9 (.string ⟨#[34, 92, 10, 9, 13, 7, 8]⟩) (.int .i64 (Lib.indexByte escL 116))).run Tryz.prog W = .ok (.int .u8 ((escB.getD (escL.idxOf 116) 0).toNat : Int)) W := by kernel_rfl
theorem esc4 (W : World) : (Instr.index 9 (.string ⟨#[34, 92, 10, 9, 13, 7, 8]⟩) (.int .i64 (Lib.indexByte escL 114))).run Tryz.prog W = .ok (.int .u8 ((escB.getD (escL.idxOf 114) 0).toNat : Int)) W := by kernel_rfl
theorem esc5 (W : World) : (Instr.index 9 (.string ⟨#[34, 92, 10, 9, 13, 7, 8]⟩) (.int .i64 (Lib.indexByte escL 97))).run Tryz.prog W = .ok (.int .u8 ((escB.getD (escL.idxOf 97) 0).toNat : Int)) W := by kernel_rfl
theorem esc6 (W : World) : (Instr.index 9 (.string ⟨#[34, 92, 10, 9, 13, 7, 8]⟩) (.int .i64 (Lib.indexByte escL 98))).run Tryz.prog W = .ok (.int .u8 ((escB.getD (escL.idxOf 98) 0).toNat : Int)) W := by kernel_rfl
theorem esc_tab (c : UInt8) (h : escL.contains c = true) (i : Int) (hi : i = Lib.indexByte escL c) (W : World) :
    (Instr.index 9 (.string ⟨#[34, 92, 10, 9, 13, 7, 8]⟩) (.int .i64 i)).run Tryz.prog W = .ok (.int .u8 ((escB.getD (escL.idxOf c) 0).toNat : Int)) W := by
  have h2 : c = 34 ∨ c = 92 ∨ c = 110 ∨ c = 116 ∨ c = 114 ∨ c = 97 ∨ c = 98 := by
    have := List.contains_iff_mem.1 h
    simpa [escL] using this
  subst hi
  clear h
  rcases h2 with rfl | rfl | rfl | rfl | rfl | rfl | rfl
  · exact esc0 W
  · exact esc1 W
  · exact esc2 W
  · exact esc3 W
  · exact esc4 W
  · exact esc5 W
  · exact esc6 W
def escV (L : List UInt8) : Value := .tuple #[.int .u8 ((esc L).1 : Int), .int .i64 ((esc L).2 : Int)]
set_option maxHeartbeats 3200000 in
theorem escaped_any (S : ByteArray) (w : World) (hE : Env w) (hS : S.size ≤ 5000) (h2 : 2 ≤ S.size) : Calls Tryz.prog 124 #[.string S] w fun e w' => e = .returned (escV (tl S)) ∧ Below w.heap.size w w' := by
  have hi1 : ∀ w, (Instr.index 9 (.string S) (.int .i64 1)).run Tryz.prog w = .ok (.int .u8 (((tl S).getD 1 0).toNat : Int)) w := fun w => idx_any S 1 (by omega) w
  obtain ⟨RV, hRV⟩ : ∃ RV, escV (tl S) = RV := ⟨_, rfl⟩
  rw [hRV]
  unfold escV esc at hRV
  obtain ⟨c, hc⟩ : ∃ c, (tl S).getD 1 0 = c := ⟨_, rfl⟩
  rw [hc] at hi1 hRV
  have hmem := fun w => member_any ⟨#[34, 92, 110, 116, 114, 97, 98]⟩ c w
  rw [show tl ⟨#[34, 92, 110, 116, 114, 97, 98]⟩ = escL from rfl] at hmem
  have htab := esc_tab c
  clear hc
  rcases hm : escL.contains c with _ | _
  · rw [hm] at hmem hRV
    rw [if_neg (by simp)] at hRV
    have HM := Lib.hid hmem
    clear hmem htab hm
    obtain ⟨m, hmx⟩ := hE.mx
    have hcp := fun w => Tryz.strings_CutPrefix S ⟨#[92, 120]⟩ w
    rw [show Lib.hasPrefix S.data.toList (⟨#[92, 120]⟩ : ByteArray).data.toList = [92, 120].isPrefixOf (tl S) from rfl] at hcp
    rcases hp : [92, 120].isPrefixOf (tl S) with _ | _
    · rw [hp] at hcp hRV
      rw [if_neg (by simp)] at hRV
      have ht : (⟨(Lib.trimPrefix S.data.toList (⟨#[92, 120]⟩ : ByteArray).data.toList).toArray⟩ : ByteArray) = S := by
        unfold Lib.trimPrefix Lib.hasPrefix
        rw [show (⟨#[92, 120]⟩ : ByteArray).data.toList = [92, 120] from rfl, hp]; rfl
      rw [ht] at hcp
      have HCP := Lib.hid hcp
      have hcut := fun w (hm : w.cell? ⟨1, 0, none⟩ = some (.int .i64 m)) => Tryz.strings_Cut S ⟨#[59]⟩ m w (by omega) hm
      rw [show (⟨#[59]⟩ : ByteArray).data.toList = [59] from rfl] at hcut
      obtain ⟨A, hA⟩ : ∃ A, Lib.cut S.data.toList [59] = A := ⟨_, rfl⟩
      have hA1 : A.1.length ≤ 5000 := by
        rw [← hA, (cut_one _ _).1]
        exact Nat.le_trans ((List.takeWhile_sublist _).length_le) (by show (tl S).length ≤ 5000; rw [tl_len]; exact hS)
      rw [hA] at hcut
      obtain ⟨A1, A2, A3⟩ := A
      have HCU := Lib.hid hcut
      have hbo := fun w => byteOf_any ⟨A1.toArray⟩ w (by exact hA1)
      obtain ⟨V, b, hV⟩ : ∃ V b, bofV (tl (⟨A1.toArray⟩ : ByteArray)) = .tuple #[.int .i64 V, .bool b] := by
        unfold bofV; split <;> exact ⟨_, _, rfl⟩
      rw [hV] at hbo
      have HBO := Lib.hid hbo
      have HV : Hid (.tuple #[.int .u8 0, .int .i64 0] = RV) := hRV
      clear hRV hcp hcut hbo hp ht hA hV hE
      go_enter Tryz.func124, Tryz.ntmps124
      go_wp2_with (first
        | (go_at_call 86; refine (HM.out _).mono ?_; rintro e w' ⟨⟨i, rfl, -, hi⟩, rfl⟩)
        | (go_at_call 116; refine (HCP.out _).mono ?_; rintro e w' ⟨rfl, rfl⟩)
        | (go_at_call 111; refine (HCU.out _ hmx).mono ?_; rintro e w' ⟨rfl, n, rfl⟩)
        | (go_at_call 143; refine (HBO.out _).mono ?_; rintro e w2 ⟨rfl, hb2⟩; have HB2 := Lib.hid ((below_drewN (Below.refl _ _) n).trans hb2); clear hb2))
      all_goals
        go_ret2
        exact ⟨by rw [← HV.out]; rfl, HB2.out⟩
    · rw [hp] at hcp hRV
      have ht : (⟨(Lib.trimPrefix S.data.toList (⟨#[92, 120]⟩ : ByteArray).data.toList).toArray⟩ : ByteArray) = ⟨((tl S).drop 2).toArray⟩ := by
        unfold Lib.trimPrefix Lib.hasPrefix
        rw [show (⟨#[92, 120]⟩ : ByteArray).data.toList = [92, 120] from rfl, hp]; rfl
      rw [ht] at hcp
      obtain ⟨R, hR⟩ : ∃ R : ByteArray, R = ⟨((tl S).drop 2).toArray⟩ := ⟨_, rfl⟩
      have hRt : tl R = (tl S).drop 2 := by rw [hR]
      have hRl : R.size ≤ 5000 := by rw [← tl_len, hRt, List.length_drop, tl_len]; omega
      rw [← hR] at hcp
      rw [← hRt] at hRV
      have HCP := Lib.hid hcp
      have hcut := fun w (hm : w.cell? ⟨1, 0, none⟩ = some (.int .i64 m)) => Tryz.strings_Cut R ⟨#[59]⟩ m w (by omega) hm
      rw [show (⟨#[59]⟩ : ByteArray).data.toList = [59] from rfl] at hcut
      obtain ⟨A, hA⟩ : ∃ A, Lib.cut R.data.toList [59] = A := ⟨_, rfl⟩
      have hA0 := cut_one (tl R) 59
      rw [hA] at hcut hA0
      obtain ⟨A1, A2, A3⟩ := A
      obtain ⟨hA1, hA2⟩ := hA0
      dsimp only at hA1 hA2
      have hAl : A1.length ≤ 5000 := by
        rw [hA1]
        exact Nat.le_trans ((List.takeWhile_sublist _).length_le) (by rw [tl_len]; exact hRl)
      rw [← hA1, ← hA2] at hRV
      have HCU := Lib.hid hcut
      have hbo := fun w => byteOf_any ⟨A1.toArray⟩ w (by exact hAl)
      rw [show tl (⟨A1.toArray⟩ : ByteArray) = A1 from rfl] at hbo
      unfold bofV at hbo
      have hlen : (((⟨A1.toArray⟩ : ByteArray).size : Nat) : Int) = (A1.length : Int) := rfl
      have hnn := byteOk_nn (h := A1)
      have hlt : byteOk A1 = true → parseV 16 A1 < 128 := fun h => by
        unfold byteOk at h
        rw [Bool.and_eq_true, Bool.and_eq_true] at h
        exact of_decide_eq_true h.2.2
      clear hcp hcut hA hA1 hA2 hE hp ht hR hRt
      rcases A3 with _ | _
      · rw [if_neg (by simp)] at hRV
        have HV : Hid (.tuple #[.int .u8 0, .int .i64 0] = RV) := hRV
        obtain ⟨V, b, hV⟩ : ∃ V b, (if byteOk A1 = true then Value.tuple #[.int .i64 (parseV 16 A1), .bool true] else .tuple #[.int .i64 0, .bool false]) = .tuple #[.int .i64 V, .bool b] := by
          split <;> exact ⟨_, _, rfl⟩
        rw [hV] at hbo
        have HBO := Lib.hid hbo
        clear hRV hbo hV hnn hlt
        go_enter Tryz.func124, Tryz.ntmps124
        go_wp2_with (first
          | (go_at_call 86; refine (HM.out _).mono ?_; rintro e w' ⟨⟨i, rfl, -, hi⟩, rfl⟩)
          | (go_at_call 116; refine (HCP.out _).mono ?_; rintro e w' ⟨rfl, rfl⟩)
          | (go_at_call 111; refine (HCU.out _ hmx).mono ?_; rintro e w' ⟨rfl, n, rfl⟩)
          | (go_at_call 143; refine (HBO.out _).mono ?_; rintro e w2 ⟨rfl, hb2⟩; have HB2 := Lib.hid ((below_drewN (Below.refl _ _) n).trans hb2); clear hb2))
        all_goals
          go_ret2
          exact ⟨by rw [← HV.out]; rfl, HB2.out⟩
      · rcases hb : byteOk A1 with _ | _
        · rw [hb] at hbo hRV
          rw [if_neg (by simp)] at hRV
          have HV : Hid (.tuple #[.int .u8 0, .int .i64 0] = RV) := hRV
          have HBO := Lib.hid hbo
          clear hRV hbo hb hnn hlt
          go_enter Tryz.func124, Tryz.ntmps124
          go_wp2_with (first
            | (go_at_call 86; refine (HM.out _).mono ?_; rintro e w' ⟨⟨i, rfl, -, hi⟩, rfl⟩)
            | (go_at_call 116; refine (HCP.out _).mono ?_; rintro e w' ⟨rfl, rfl⟩)
            | (go_at_call 111; refine (HCU.out _ hmx).mono ?_; rintro e w' ⟨rfl, n, rfl⟩)
            | (go_at_call 143; refine (HBO.out _).mono ?_; rintro e w2 ⟨rfl, hb2⟩; have HB2 := Lib.hid ((below_drewN (Below.refl _ _) n).trans hb2); clear hb2))
          all_goals
            go_ret2
            exact ⟨by rw [← HV.out]; rfl, HB2.out⟩
        · have hv1 := hnn hb
          have hv2 := hlt hb
          rw [hb] at hbo hRV
          rw [if_pos ⟨rfl, rfl, rfl⟩] at hRV
          obtain ⟨V, hV⟩ : ∃ V, parseV 16 A1 = V := ⟨_, rfl⟩
          rw [hV] at hv1 hv2 hbo hRV
          have HV : Hid (.tuple #[.int .u8 V, .int .i64 (2 + (A1.length : Int) + 1)] = RV) := by
            unfold Hid
            rw [← hRV, show ((V.toNat : Nat) : Int) = V by omega, show (((A1.length + 3 : Nat)) : Int) = 2 + (A1.length : Int) + 1 by omega]
          have hw : IntKind.u8.wrap V = V := by rw [IntKind.wrap_u8]; omega
          have HBO := Lib.hid hbo
          have hAlI : (A1.length : Int) ≤ 5000 := by omega
          clear hRV hbo hb hV hnn hlt
          go_enter Tryz.func124, Tryz.ntmps124
          go_wp2_with (first
            | (go_at_call 86; refine (HM.out _).mono ?_; rintro e w' ⟨⟨i, rfl, -, hi⟩, rfl⟩)
            | (go_at_call 116; refine (HCP.out _).mono ?_; rintro e w' ⟨rfl, rfl⟩)
            | (go_at_call 111; refine (HCU.out _ hmx).mono ?_; rintro e w' ⟨rfl, n, rfl⟩)
            | (go_at_call 143; refine (HBO.out _).mono ?_; rintro e w2 ⟨rfl, hb2⟩; have HB2 := Lib.hid ((below_drewN (Below.refl _ _) n).trans hb2); clear hb2))
          all_goals
            go_ret2
            exact ⟨by rw [← HV.out]; rfl, HB2.out⟩
  · rw [hm] at hmem hRV
    rw [if_pos rfl] at hRV
    have HT := Lib.hid (htab hm)
    have HM := Lib.hid hmem
    generalize (escB.getD (escL.idxOf c) 0).toNat = b at *
    have HV : Hid (.tuple #[.int .u8 (b : Int), .int .i64 2] = RV) := hRV
    clear hRV hmem htab hm hE
    go_enter Tryz.func124, Tryz.ntmps124
    go_upto_region 2 with (go_at_call 86; refine (HM.out _).mono ?_; rintro e w' ⟨⟨i, rfl, hi2, hi⟩, rfl⟩; have ht := HT.out i hi2; clear hi2)
    go_wp2_with fail
    go_ret2
    exact ⟨by rw [← HV.out]; rfl, Below.refl _ _⟩
end Go.Proofs.YthjjgpepgbfalaaGreatDoor.Lx
end
