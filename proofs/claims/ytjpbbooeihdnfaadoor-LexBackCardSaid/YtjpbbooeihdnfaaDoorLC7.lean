/- What a word is. -/
import Derived.Test.YtjpbbooeihdnfaaDoorLC6
set_option maxRecDepth 20000
set_option linter.unusedSimpArgs false
set_option linter.unusedVariables false
namespace Go.Proofs.YtjpbbooeihdnfaaDoor
open Go.RowKit

def zTk : Tk := ⟨0, 0, []⟩
def a0 (L : List UInt8) : Tk × Int := if L = [46] then (⟨9, 0, []⟩, 0) else (zTk, 5)
def a1 (L : List UInt8) : Tk × Int := if parseE (cutB L).1 (cutB L).2 = 4 then (zTk, 5) else (⟨10, parseV (cutB L).1 (cutB L).2, []⟩, parseE (cutB L).1 (cutB L).2)
def a2 (L : List UInt8) : Tk × Int := match boolO L with | some b => (⟨11, b, []⟩, 0) | none => (zTk, 5)
def a3 (L : List UInt8) : Tk × Int := match chrO L with | some n => (⟨12, (n : Int), []⟩, 0) | none => (zTk, 5)
def a4 (L : List UInt8) : Tk × Int := if L = [] ∨ L.contains 35 = true ∨ begN L = true then (zTk, 5) else if 32 < L.length then (zTk, 2) else (⟨14, 0, L⟩, 0)
/-- What the k-th function tells of a word; 5: it is none of its own. -/
def askK (L : List UInt8) : Nat → Tk × Int
  | 0 => a0 L
  | 1 => a1 L
  | 2 => a2 L
  | 3 => a3 L
  | _ => a4 L
theorem parseE_ne (b : Nat) (L : List UInt8) : parseE b L ≠ 5 := by unfold parseE; split <;> (try split) <;> decide
theorem wordM_at {L : List UInt8} : ∀ {k : Nat}, k < 5 → (∀ j, j < k → (askK L j).2 = 5) → (askK L k).2 ≠ 5 → wordM L = askK L k := by
  intro k hk h1 h2
  have n0 : ∀ {k}, 0 < k → (∀ j, j < k → (askK L j).2 = 5) → L ≠ [46] := fun hk h e => by have := h 0 hk; rw [show askK L 0 = a0 L from rfl] at this; unfold a0 at this; rw [if_pos e] at this; exact absurd this (by decide)
  have n1 : ∀ {k}, 1 < k → (∀ j, j < k → (askK L j).2 = 5) → parseE (cutB L).1 (cutB L).2 = 4 := fun hk h => by
    have := h 1 hk
    rw [show askK L 1 = a1 L from rfl] at this
    unfold a1 at this
    by_cases e : parseE (cutB L).1 (cutB L).2 = 4
    · exact e
    · rw [if_neg e] at this; exact absurd this (parseE_ne _ _)
  have n2 : ∀ {k}, 2 < k → (∀ j, j < k → (askK L j).2 = 5) → boolO L = none := fun hk h => by
    have := h 2 hk
    rw [show askK L 2 = a2 L from rfl] at this
    unfold a2 at this
    cases e : boolO L with
    | none => rfl
    | some b => rw [e] at this; exact absurd this (show (0 : Int) ≠ 5 by decide)
  have n3 : ∀ {k}, 3 < k → (∀ j, j < k → (askK L j).2 = 5) → chrO L = none := fun hk h => by
    have := h 3 hk
    rw [show askK L 3 = a3 L from rfl] at this
    unfold a3 at this
    cases e : chrO L with
    | none => rfl
    | some b => rw [e] at this; exact absurd this (show (0 : Int) ≠ 5 by decide)
  match k, hk with
  | 0, _ =>
    rw [show askK L 0 = a0 L from rfl] at h2 ⊢
    unfold a0 at h2 ⊢
    by_cases e : L = [46]
    · unfold wordM; rw [if_pos e, if_pos e]
    · rw [if_neg e] at h2; exact absurd rfl h2
  | 1, hk =>
    rw [show askK L 1 = a1 L from rfl] at h2 ⊢
    unfold a1 at h2 ⊢
    by_cases e : parseE (cutB L).1 (cutB L).2 = 4
    · rw [if_pos e] at h2; exact absurd rfl h2
    · unfold wordM; rw [if_neg (n0 (k := 1) (by omega) h1), if_pos e, if_neg e]
  | 2, hk =>
    rw [show askK L 2 = a2 L from rfl] at h2 ⊢
    unfold a2 at h2 ⊢
    unfold wordM; rw [if_neg (n0 (k := 2) (by omega) h1), if_neg (not_not_intro (n1 (k := 2) (by omega) h1))]
    cases e : boolO L with
    | none => rw [e] at h2; exact absurd rfl h2
    | some b => rfl
  | 3, hk =>
    rw [show askK L 3 = a3 L from rfl] at h2 ⊢
    unfold a3 at h2 ⊢
    unfold wordM; rw [if_neg (n0 (k := 3) (by omega) h1), if_neg (not_not_intro (n1 (k := 3) (by omega) h1)), n2 (k := 3) (by omega) h1]
    cases e : chrO L with
    | none => rw [e] at h2; exact absurd rfl h2
    | some b => rfl
  | 4, hk =>
    rw [show askK L 4 = a4 L from rfl] at h2 ⊢
    unfold a4 at h2 ⊢
    unfold wordM; rw [if_neg (n0 (k := 4) (by omega) h1), if_neg (not_not_intro (n1 (k := 4) (by omega) h1)), n2 (k := 4) (by omega) h1, n3 (k := 4) (by omega) h1]
    by_cases e : L = [] ∨ L.contains 35 = true ∨ begN L = true
    · rw [if_pos e] at h2; exact absurd rfl h2
    · rw [if_neg e]
      show (if _ then _ else _) = _
      rw [if_neg e]
      by_cases e2 : 32 < L.length
      · rw [if_pos e2, if_pos e2]; rfl
      · rw [if_neg e2, if_neg e2]
  | k + 5, hk => exact absurd hk (by omega)
theorem wordM_no {L : List UInt8} (h : ∀ j, j < 5 → (askK L j).2 = 5) : wordM L = (zTk, 4) := by
  have h0 := h 0 (by omega)
  have h1 := h 1 (by omega)
  have h2 := h 2 (by omega)
  have h3 := h 3 (by omega)
  have h4 := h 4 (by omega)
  rw [show askK L 0 = a0 L from rfl] at h0
  rw [show askK L 1 = a1 L from rfl] at h1
  rw [show askK L 2 = a2 L from rfl] at h2
  rw [show askK L 3 = a3 L from rfl] at h3
  rw [show askK L 4 = a4 L from rfl] at h4
  unfold a0 at h0
  unfold a1 at h1
  unfold a2 at h2
  unfold a3 at h3
  unfold a4 at h4
  have e0 : L ≠ [46] := fun e => by rw [if_pos e] at h0; exact absurd h0 (by decide)
  have e1 : parseE (cutB L).1 (cutB L).2 = 4 := by
    by_cases e : parseE (cutB L).1 (cutB L).2 = 4
    · exact e
    · rw [if_neg e] at h1; exact absurd h1 (parseE_ne _ _)
  have e2 : boolO L = none := by
    cases e : boolO L with
    | none => rfl
    | some b => rw [e] at h2; exact absurd h2 (show (0 : Int) ≠ 5 by decide)
  have e3 : chrO L = none := by
    cases e : chrO L with
    | none => rfl
    | some b => rw [e] at h3; exact absurd h3 (show (0 : Int) ≠ 5 by decide)
  have e4 : L = [] ∨ L.contains 35 = true ∨ begN L = true := by
    by_cases e : L = [] ∨ L.contains 35 = true ∨ begN L = true
    · exact e
    · rw [if_neg e] at h4
      split at h4
      · exact absurd h4 (show (2 : Int) ≠ 5 by decide)
      · exact absurd h4 (show (0 : Int) ≠ 5 by decide)
  unfold wordM
  rw [if_neg e0, if_neg (not_not_intro e1), e2, e3]
  show (if _ then _ else _) = _
  rw [if_pos e4]; rfl
theorem ask0 (S : ByteArray) (w : World) (hS : S.size ≤ 5000) : Calls Tryd.prog 57 #[.string S] w fun e w' => e = .returned (askV (a0 (tl S)).1 (a0 (tl S)).2) ∧ Below w.heap.size w w' := by
  refine (dot_any S _).mono ?_
  rintro e w' ⟨rfl, hb⟩
  refine ⟨congrArg Ending.returned ?_, hb⟩
  unfold a0
  split <;> rfl
theorem ask1 (S : ByteArray) (w : World) (hS : S.size ≤ 5000) : Calls Tryd.prog 58 #[.string S] w fun e w' => e = .returned (askV (a1 (tl S)).1 (a1 (tl S)).2) ∧ Below w.heap.size w w' := by
  refine (number_any S _ hS).mono ?_
  rintro e w' ⟨rfl, hb⟩
  refine ⟨congrArg Ending.returned ?_, hb⟩
  unfold a1
  unfold numV
  split <;> rfl
theorem ask2 (S : ByteArray) (w : World) (hS : S.size ≤ 5000) : Calls Tryd.prog 59 #[.string S] w fun e w' => e = .returned (askV (a2 (tl S)).1 (a2 (tl S)).2) ∧ Below w.heap.size w w' := by
  refine (truth_any S _).mono ?_
  rintro e w' ⟨rfl, hb⟩
  refine ⟨congrArg Ending.returned ?_, hb⟩
  unfold a2
  cases boolO (tl S) <;> rfl
theorem ask3 (S : ByteArray) (w : World) (h : Env w) (hS : S.size ≤ 5000) : Calls Tryd.prog 60 #[.string S] w fun e w' => e = .returned (askV (a3 (tl S)).1 (a3 (tl S)).2) ∧ Below w.heap.size w w' := by
  refine (char_any S _ h hS).mono ?_
  rintro e w' ⟨rfl, hb⟩
  refine ⟨congrArg Ending.returned ?_, hb⟩
  unfold a3 chrV
  cases chrO (tl S) <;> rfl
theorem ask4 (S : ByteArray) (w : World) (hS : S.size ≤ 5000) : Calls Tryd.prog 61 #[.string S] w fun e w' => e = .returned (askV (a4 (tl S)).1 (a4 (tl S)).2) ∧ Below w.heap.size w w' := by
  refine (symbol_any S _ hS).mono ?_
  rintro e w' ⟨rfl, hb⟩
  refine ⟨congrArg Ending.returned ?_, hb⟩
  unfold a4
  unfold symV
  split
  · rfl
  · split <;> rfl
set_option maxHeartbeats 6400000 in
theorem wordOf_any (S : ByteArray) (w : World) (hE : Env w) (hS : S.size ≤ 5000) : Calls Tryd.prog 39 #[.string S] w fun e w' => e = .returned (askV (wordM (tl S)).1 (wordM (tl S)).2) ∧ Below w.heap.size w w' := by
  obtain ⟨hz, -⟩ := zero_of_info (P := Tryd.prog) zeroTok
  have b0 := build0
  obtain ⟨M, hM⟩ : ∃ M, wordM (tl S) = M := ⟨_, rfl⟩
  have HM := Lib.hid hM
  rw [hM]
  clear hM
  have en0 : ∀ args w, (callFunc 57 args).run Tryd.prog w = .ok (.enter 57 args) w := enters_of Tryd.func57 (by kernel_rfl) rfl
  have en1 : ∀ args w, (callFunc 58 args).run Tryd.prog w = .ok (.enter 58 args) w := enters_of Tryd.func58 (by kernel_rfl) rfl
  have en2 : ∀ args w, (callFunc 59 args).run Tryd.prog w = .ok (.enter 59 args) w := enters_of Tryd.func59 (by kernel_rfl) rfl
  have en3 : ∀ args w, (callFunc 60 args).run Tryd.prog w = .ok (.enter 60 args) w := enters_of Tryd.func60 (by kernel_rfl) rfl
  have en4 : ∀ args w, (callFunc 61 args).run Tryd.prog w = .ok (.enter 61 args) w := enters_of Tryd.func61 (by kernel_rfl) rfl
  have HX0 : Hid (Bx4 (w.alloc (.cells #[.int .i64 0, .int .i64 0, .string ⟨#[]⟩, .int .i64 0] 30)) w.heap.size #[.int .i64 0, .int .i64 0, .string ⟨#[]⟩, .int .i64 0]) := Lib.hid (Bx4.new _ _)
  have HB0 := Lib.hid (alloc_below w (.cells #[.int .i64 0, .int .i64 0, .string ⟨#[]⟩, .int .i64 0] 30))
  go_enter Tryd.func39, Tryd.ntmps39
  go_upto_region 2 with fail
  have HSZ : Hid ((w.alloc (.cells #[.int .i64 0, .int .i64 0, .string ⟨#[]⟩, .int .i64 0] 30)).heap.size = w.heap.size + 1) := Lib.hid (by simp)
  generalize w.alloc (.cells #[.int .i64 0, .int .i64 0, .string ⟨#[]⟩, .int .i64 0] 30) = W0 at *
  have hf := heap_alloc_new W0 (.cells #[.func (.func 57) #[] #[], .func (.func 58) #[] #[], .func (.func 59) #[] #[], .func (.func 60) #[] #[], .func (.func 61) #[] #[]] 68)
  have hb1 : Below W0.heap.size W0 (W0.alloc (.cells #[.func (.func 57) #[] #[], .func (.func 58) #[] #[], .func (.func 59) #[] #[], .func (.func 60) #[] #[], .func (.func 61) #[] #[]] 68)) := alloc_below _ _
  generalize W0.alloc (.cells #[.func (.func 57) #[] #[], .func (.func 58) #[] #[], .func (.func 59) #[] #[], .func (.func 60) #[] #[], .func (.func 61) #[] #[]] 68) = W1 at *
  rw [HSZ.out] at hf
  have HF := Lib.hid hf
  have HBX := Lib.hid (HX0.out.below hb1)
  have HB1 : Hid (Below w.heap.size w W1) := Lib.hid (HB0.out.trans (hb1.mono (by have := HSZ.out; omega)))
  have HEW : Hid (Env w) := Lib.hid hE
  clear hf hb1 hE
  go_loopw [10] (fun kv wr => ∃ k : Nat, kv = .int .i64 (k : Int) ∧ k ≤ 5 ∧ Hid ((∀ j, j < k → (askK (tl S) j).2 = 5) ∧ Below W1.heap.size W1 wr)) (fun kv _ => 5 - (intOf kv).toNat)
  case atStart => exact ⟨0, rfl, by omega, Lib.hid ⟨fun j hj => absurd hj (Nat.not_lt_zero j), Below.refl _ _⟩⟩
  case round =>
    obtain ⟨k, rfl, hk, HK⟩ := hrel
    have hfr := (HK.out.2.block _ (lt_of_block HF.out)).trans HF.out
    have HSW : Hid (Env wr) := Lib.hid (HEW.out.below (HB1.out.trans (HK.out.2.mono HB1.out.size)))
    have HBR : Hid (Below w.heap.size w wr) := Lib.hid (HB1.out.trans (HK.out.2.mono HB1.out.size))
    have HXR := Lib.hid (HBX.out.below HK.out.2)
    rcases (show k = 0 ∨ k = 1 ∨ k = 2 ∨ k = 3 ∨ k = 4 ∨ k = 5 by omega) with rfl | rfl | rfl | rfl | rfl | rfl
    · have c := cell_of_row _ _ 0 _ _ _ hfr
      simp at c
      obtain ⟨A, hA⟩ : ∃ A, a0 (tl S) = A := ⟨_, rfl⟩
      have hask := ask0 S wr hS
      rw [hA] at hask
      have HA : Hid (askK (tl S) 0 = A) := hA
      obtain ⟨⟨tk, tn, ts⟩, e0⟩ := A
      unfold askV tkC at hask
      dsimp only at hask
      obtain ⟨T, hT⟩ : ∃ T : ByteArray, T = ⟨ts.toArray⟩ := ⟨_, rfl⟩
      have HT := Lib.hid hT
      rw [← hT] at hask
      have HAS := Lib.hid hask
      clear hask hA hfr hT
      have hb9 : ∀ w2, Below w2.heap.size w2 (w2.alloc (.cells #[.int .i64 (tk : Int), .int .i64 tn, .string T, .int .i64 0] 30)) := fun w2 => alloc_below _ _
      have HB9 := Lib.hid hb9
      clear hb9
      by_cases h5 : e0 = 5
      · subst h5
        have HK2 : Hid (∀ j, j < 0 + 1 → (askK (tl S) j).2 = 5) := Lib.hid fun j hj => by
          by_cases ej : j = 0
          · rw [ej, HA.out]
          · exact HK.out.1 j (by omega)
        go_wp2_with (go_at_fn 57; refine (HAS.out).mono ?_; rintro e w2 ⟨rfl, hb2⟩; have HB2 := Lib.hid hb2; clear hb2)
        go_roundw
        case rel => exact ⟨0 + 1, rfl, by omega, Lib.hid ⟨HK2.out, HK.out.2.trans ((HB2.out.trans ((HB9.out w2).mono HB2.out.size)).mono HK.out.2.size)⟩⟩
        case measure => simp [intOf]
      · have hne : (e0 != 5) = true := bne_iff_ne.2 h5
        have HV : Hid (M = (⟨tk, tn, ts⟩, e0)) := by
          unfold Hid
          rw [← HM.out, ← HA.out]
          exact wordM_at (by omega) HK.out.1 (by rw [HA.out]; exact h5)
        clear h5
        go_upto_region 5 with (go_at_fn 57; refine (HAS.out).mono ?_; rintro e w2 ⟨rfl, hb2⟩; have HB2 := Lib.hid hb2; clear hb2)
        have hx9 := heap_alloc_new w2 (.cells #[.int .i64 (tk : Int), .int .i64 tn, .string T, .int .i64 0] 30)
        have hb3 := HB9.out w2
        generalize w2.alloc (.cells #[.int .i64 (tk : Int), .int .i64 tn, .string T, .int .i64 0] 30) = w3 at *
        have d0 := cell_of_row _ _ 0 _ _ _ hx9
        have d1 := cell_of_row _ _ 1 _ _ _ hx9
        have d2 := cell_of_row _ _ 2 _ _ _ hx9
        have d3 := cell_of_row _ _ 3 _ _ _ hx9
        simp at d0 d1 d2 d3
        have HB3 : Hid (Below w.heap.size w w3) := Lib.hid (HBR.out.trans ((HB2.out.trans (hb3.mono HB2.out.size)).mono HBR.out.size))
        have hbx := (HXR.out.below HB2.out).below hb3
        obtain ⟨⟨q0, q1, q2, q3⟩, f0, f1, f2, f3⟩ := hbx.cells
        have HBX3 := Lib.hid hbx
        clear hbx hb3 hx9
        go_wp2_with fail
        refine bodyPost_ret (results_row_tmp rfl _ _ w.heap.size 30 _ (0, 0) _ rfl (HBX3.out.set _ _ _ _).row Tryd.underlying30 rfl sizeTok) rfl ⟨?_, box_below HB3.out (Nat.le_refl _) _ _ _ _⟩
        rw [HV.out, HT.out]; rfl
    · have c := cell_of_row _ _ 1 _ _ _ hfr
      simp at c
      obtain ⟨A, hA⟩ : ∃ A, a1 (tl S) = A := ⟨_, rfl⟩
      have hask := ask1 S wr hS
      rw [hA] at hask
      have HA : Hid (askK (tl S) 1 = A) := hA
      obtain ⟨⟨tk, tn, ts⟩, e0⟩ := A
      unfold askV tkC at hask
      dsimp only at hask
      obtain ⟨T, hT⟩ : ∃ T : ByteArray, T = ⟨ts.toArray⟩ := ⟨_, rfl⟩
      have HT := Lib.hid hT
      rw [← hT] at hask
      have HAS := Lib.hid hask
      clear hask hA hfr hT
      have hb9 : ∀ w2, Below w2.heap.size w2 (w2.alloc (.cells #[.int .i64 (tk : Int), .int .i64 tn, .string T, .int .i64 0] 30)) := fun w2 => alloc_below _ _
      have HB9 := Lib.hid hb9
      clear hb9
      by_cases h5 : e0 = 5
      · subst h5
        have HK2 : Hid (∀ j, j < 1 + 1 → (askK (tl S) j).2 = 5) := Lib.hid fun j hj => by
          by_cases ej : j = 1
          · rw [ej, HA.out]
          · exact HK.out.1 j (by omega)
        go_wp2_with (go_at_fn 58; refine (HAS.out).mono ?_; rintro e w2 ⟨rfl, hb2⟩; have HB2 := Lib.hid hb2; clear hb2)
        go_roundw
        case rel => exact ⟨1 + 1, rfl, by omega, Lib.hid ⟨HK2.out, HK.out.2.trans ((HB2.out.trans ((HB9.out w2).mono HB2.out.size)).mono HK.out.2.size)⟩⟩
        case measure => simp [intOf]
      · have hne : (e0 != 5) = true := bne_iff_ne.2 h5
        have HV : Hid (M = (⟨tk, tn, ts⟩, e0)) := by
          unfold Hid
          rw [← HM.out, ← HA.out]
          exact wordM_at (by omega) HK.out.1 (by rw [HA.out]; exact h5)
        clear h5
        go_upto_region 5 with (go_at_fn 58; refine (HAS.out).mono ?_; rintro e w2 ⟨rfl, hb2⟩; have HB2 := Lib.hid hb2; clear hb2)
        have hx9 := heap_alloc_new w2 (.cells #[.int .i64 (tk : Int), .int .i64 tn, .string T, .int .i64 0] 30)
        have hb3 := HB9.out w2
        generalize w2.alloc (.cells #[.int .i64 (tk : Int), .int .i64 tn, .string T, .int .i64 0] 30) = w3 at *
        have d0 := cell_of_row _ _ 0 _ _ _ hx9
        have d1 := cell_of_row _ _ 1 _ _ _ hx9
        have d2 := cell_of_row _ _ 2 _ _ _ hx9
        have d3 := cell_of_row _ _ 3 _ _ _ hx9
        simp at d0 d1 d2 d3
        have HB3 : Hid (Below w.heap.size w w3) := Lib.hid (HBR.out.trans ((HB2.out.trans (hb3.mono HB2.out.size)).mono HBR.out.size))
        have hbx := (HXR.out.below HB2.out).below hb3
        obtain ⟨⟨q0, q1, q2, q3⟩, f0, f1, f2, f3⟩ := hbx.cells
        have HBX3 := Lib.hid hbx
        clear hbx hb3 hx9
        go_wp2_with fail
        refine bodyPost_ret (results_row_tmp rfl _ _ w.heap.size 30 _ (0, 0) _ rfl (HBX3.out.set _ _ _ _).row Tryd.underlying30 rfl sizeTok) rfl ⟨?_, box_below HB3.out (Nat.le_refl _) _ _ _ _⟩
        rw [HV.out, HT.out]; rfl
    · have c := cell_of_row _ _ 2 _ _ _ hfr
      simp at c
      obtain ⟨A, hA⟩ : ∃ A, a2 (tl S) = A := ⟨_, rfl⟩
      have hask := ask2 S wr hS
      rw [hA] at hask
      have HA : Hid (askK (tl S) 2 = A) := hA
      obtain ⟨⟨tk, tn, ts⟩, e0⟩ := A
      unfold askV tkC at hask
      dsimp only at hask
      obtain ⟨T, hT⟩ : ∃ T : ByteArray, T = ⟨ts.toArray⟩ := ⟨_, rfl⟩
      have HT := Lib.hid hT
      rw [← hT] at hask
      have HAS := Lib.hid hask
      clear hask hA hfr hT
      have hb9 : ∀ w2, Below w2.heap.size w2 (w2.alloc (.cells #[.int .i64 (tk : Int), .int .i64 tn, .string T, .int .i64 0] 30)) := fun w2 => alloc_below _ _
      have HB9 := Lib.hid hb9
      clear hb9
      by_cases h5 : e0 = 5
      · subst h5
        have HK2 : Hid (∀ j, j < 2 + 1 → (askK (tl S) j).2 = 5) := Lib.hid fun j hj => by
          by_cases ej : j = 2
          · rw [ej, HA.out]
          · exact HK.out.1 j (by omega)
        go_wp2_with (go_at_fn 59; refine (HAS.out).mono ?_; rintro e w2 ⟨rfl, hb2⟩; have HB2 := Lib.hid hb2; clear hb2)
        go_roundw
        case rel => exact ⟨2 + 1, rfl, by omega, Lib.hid ⟨HK2.out, HK.out.2.trans ((HB2.out.trans ((HB9.out w2).mono HB2.out.size)).mono HK.out.2.size)⟩⟩
        case measure => simp [intOf]
      · have hne : (e0 != 5) = true := bne_iff_ne.2 h5
        have HV : Hid (M = (⟨tk, tn, ts⟩, e0)) := by
          unfold Hid
          rw [← HM.out, ← HA.out]
          exact wordM_at (by omega) HK.out.1 (by rw [HA.out]; exact h5)
        clear h5
        go_upto_region 5 with (go_at_fn 59; refine (HAS.out).mono ?_; rintro e w2 ⟨rfl, hb2⟩; have HB2 := Lib.hid hb2; clear hb2)
        have hx9 := heap_alloc_new w2 (.cells #[.int .i64 (tk : Int), .int .i64 tn, .string T, .int .i64 0] 30)
        have hb3 := HB9.out w2
        generalize w2.alloc (.cells #[.int .i64 (tk : Int), .int .i64 tn, .string T, .int .i64 0] 30) = w3 at *
        have d0 := cell_of_row _ _ 0 _ _ _ hx9
        have d1 := cell_of_row _ _ 1 _ _ _ hx9
        have d2 := cell_of_row _ _ 2 _ _ _ hx9
        have d3 := cell_of_row _ _ 3 _ _ _ hx9
        simp at d0 d1 d2 d3
        have HB3 : Hid (Below w.heap.size w w3) := Lib.hid (HBR.out.trans ((HB2.out.trans (hb3.mono HB2.out.size)).mono HBR.out.size))
        have hbx := (HXR.out.below HB2.out).below hb3
        obtain ⟨⟨q0, q1, q2, q3⟩, f0, f1, f2, f3⟩ := hbx.cells
        have HBX3 := Lib.hid hbx
        clear hbx hb3 hx9
        go_wp2_with fail
        refine bodyPost_ret (results_row_tmp rfl _ _ w.heap.size 30 _ (0, 0) _ rfl (HBX3.out.set _ _ _ _).row Tryd.underlying30 rfl sizeTok) rfl ⟨?_, box_below HB3.out (Nat.le_refl _) _ _ _ _⟩
        rw [HV.out, HT.out]; rfl
    · have c := cell_of_row _ _ 3 _ _ _ hfr
      simp at c
      obtain ⟨A, hA⟩ : ∃ A, a3 (tl S) = A := ⟨_, rfl⟩
      have hask := ask3 S wr HSW.out hS
      rw [hA] at hask
      have HA : Hid (askK (tl S) 3 = A) := hA
      obtain ⟨⟨tk, tn, ts⟩, e0⟩ := A
      unfold askV tkC at hask
      dsimp only at hask
      obtain ⟨T, hT⟩ : ∃ T : ByteArray, T = ⟨ts.toArray⟩ := ⟨_, rfl⟩
      have HT := Lib.hid hT
      rw [← hT] at hask
      have HAS := Lib.hid hask
      clear hask hA hfr hT
      have hb9 : ∀ w2, Below w2.heap.size w2 (w2.alloc (.cells #[.int .i64 (tk : Int), .int .i64 tn, .string T, .int .i64 0] 30)) := fun w2 => alloc_below _ _
      have HB9 := Lib.hid hb9
      clear hb9
      by_cases h5 : e0 = 5
      · subst h5
        have HK2 : Hid (∀ j, j < 3 + 1 → (askK (tl S) j).2 = 5) := Lib.hid fun j hj => by
          by_cases ej : j = 3
          · rw [ej, HA.out]
          · exact HK.out.1 j (by omega)
        go_wp2_with (go_at_fn 60; refine (HAS.out).mono ?_; rintro e w2 ⟨rfl, hb2⟩; have HB2 := Lib.hid hb2; clear hb2)
        go_roundw
        case rel => exact ⟨3 + 1, rfl, by omega, Lib.hid ⟨HK2.out, HK.out.2.trans ((HB2.out.trans ((HB9.out w2).mono HB2.out.size)).mono HK.out.2.size)⟩⟩
        case measure => simp [intOf]
      · have hne : (e0 != 5) = true := bne_iff_ne.2 h5
        have HV : Hid (M = (⟨tk, tn, ts⟩, e0)) := by
          unfold Hid
          rw [← HM.out, ← HA.out]
          exact wordM_at (by omega) HK.out.1 (by rw [HA.out]; exact h5)
        clear h5
        go_upto_region 5 with (go_at_fn 60; refine (HAS.out).mono ?_; rintro e w2 ⟨rfl, hb2⟩; have HB2 := Lib.hid hb2; clear hb2)
        have hx9 := heap_alloc_new w2 (.cells #[.int .i64 (tk : Int), .int .i64 tn, .string T, .int .i64 0] 30)
        have hb3 := HB9.out w2
        generalize w2.alloc (.cells #[.int .i64 (tk : Int), .int .i64 tn, .string T, .int .i64 0] 30) = w3 at *
        have d0 := cell_of_row _ _ 0 _ _ _ hx9
        have d1 := cell_of_row _ _ 1 _ _ _ hx9
        have d2 := cell_of_row _ _ 2 _ _ _ hx9
        have d3 := cell_of_row _ _ 3 _ _ _ hx9
        simp at d0 d1 d2 d3
        have HB3 : Hid (Below w.heap.size w w3) := Lib.hid (HBR.out.trans ((HB2.out.trans (hb3.mono HB2.out.size)).mono HBR.out.size))
        have hbx := (HXR.out.below HB2.out).below hb3
        obtain ⟨⟨q0, q1, q2, q3⟩, f0, f1, f2, f3⟩ := hbx.cells
        have HBX3 := Lib.hid hbx
        clear hbx hb3 hx9
        go_wp2_with fail
        refine bodyPost_ret (results_row_tmp rfl _ _ w.heap.size 30 _ (0, 0) _ rfl (HBX3.out.set _ _ _ _).row Tryd.underlying30 rfl sizeTok) rfl ⟨?_, box_below HB3.out (Nat.le_refl _) _ _ _ _⟩
        rw [HV.out, HT.out]; rfl
    · have c := cell_of_row _ _ 4 _ _ _ hfr
      simp at c
      obtain ⟨A, hA⟩ : ∃ A, a4 (tl S) = A := ⟨_, rfl⟩
      have hask := ask4 S wr hS
      rw [hA] at hask
      have HA : Hid (askK (tl S) 4 = A) := hA
      obtain ⟨⟨tk, tn, ts⟩, e0⟩ := A
      unfold askV tkC at hask
      dsimp only at hask
      obtain ⟨T, hT⟩ : ∃ T : ByteArray, T = ⟨ts.toArray⟩ := ⟨_, rfl⟩
      have HT := Lib.hid hT
      rw [← hT] at hask
      have HAS := Lib.hid hask
      clear hask hA hfr hT
      have hb9 : ∀ w2, Below w2.heap.size w2 (w2.alloc (.cells #[.int .i64 (tk : Int), .int .i64 tn, .string T, .int .i64 0] 30)) := fun w2 => alloc_below _ _
      have HB9 := Lib.hid hb9
      clear hb9
      by_cases h5 : e0 = 5
      · subst h5
        have HK2 : Hid (∀ j, j < 4 + 1 → (askK (tl S) j).2 = 5) := Lib.hid fun j hj => by
          by_cases ej : j = 4
          · rw [ej, HA.out]
          · exact HK.out.1 j (by omega)
        go_wp2_with (go_at_fn 61; refine (HAS.out).mono ?_; rintro e w2 ⟨rfl, hb2⟩; have HB2 := Lib.hid hb2; clear hb2)
        go_roundw
        case rel => exact ⟨4 + 1, rfl, by omega, Lib.hid ⟨HK2.out, HK.out.2.trans ((HB2.out.trans ((HB9.out w2).mono HB2.out.size)).mono HK.out.2.size)⟩⟩
        case measure => simp [intOf]
      · have hne : (e0 != 5) = true := bne_iff_ne.2 h5
        have HV : Hid (M = (⟨tk, tn, ts⟩, e0)) := by
          unfold Hid
          rw [← HM.out, ← HA.out]
          exact wordM_at (by omega) HK.out.1 (by rw [HA.out]; exact h5)
        clear h5
        go_upto_region 5 with (go_at_fn 61; refine (HAS.out).mono ?_; rintro e w2 ⟨rfl, hb2⟩; have HB2 := Lib.hid hb2; clear hb2)
        have hx9 := heap_alloc_new w2 (.cells #[.int .i64 (tk : Int), .int .i64 tn, .string T, .int .i64 0] 30)
        have hb3 := HB9.out w2
        generalize w2.alloc (.cells #[.int .i64 (tk : Int), .int .i64 tn, .string T, .int .i64 0] 30) = w3 at *
        have d0 := cell_of_row _ _ 0 _ _ _ hx9
        have d1 := cell_of_row _ _ 1 _ _ _ hx9
        have d2 := cell_of_row _ _ 2 _ _ _ hx9
        have d3 := cell_of_row _ _ 3 _ _ _ hx9
        simp at d0 d1 d2 d3
        have HB3 : Hid (Below w.heap.size w w3) := Lib.hid (HBR.out.trans ((HB2.out.trans (hb3.mono HB2.out.size)).mono HBR.out.size))
        have hbx := (HXR.out.below HB2.out).below hb3
        obtain ⟨⟨q0, q1, q2, q3⟩, f0, f1, f2, f3⟩ := hbx.cells
        have HBX3 := Lib.hid hbx
        clear hbx hb3 hx9
        go_wp2_with fail
        refine bodyPost_ret (results_row_tmp rfl _ _ w.heap.size 30 _ (0, 0) _ rfl (HBX3.out.set _ _ _ _).row Tryd.underlying30 rfl sizeTok) rfl ⟨?_, box_below HB3.out (Nat.le_refl _) _ _ _ _⟩
        rw [HV.out, HT.out]; rfl
    · have HV : Hid (M = (zTk, 4)) := by
        unfold Hid
        rw [← HM.out]
        exact wordM_no HK.out.1
      obtain ⟨⟨q0, q1, q2, q3⟩, f0, f1, f2, f3⟩ := HXR.out.cells
      clear hfr
      go_wp2_with fail
      refine bodyPost_ret (results_row_tmp rfl _ _ w.heap.size 30 _ (0, 0) _ rfl (HXR.out.set _ _ _ _).row Tryd.underlying30 rfl sizeTok) rfl ⟨?_, box_below HBR.out (Nat.le_refl _) _ _ _ _⟩
      rw [HV.out]; rfl
end Go.Proofs.YtjpbbooeihdnfaaDoor
