/- Texts XLC6 to XLC6 of this seat, laid into one. -/
import Derived.Deep.Cut
import Derived.Deep.DeepCutAuto
import Derived.Test.YthjjgpepgbfalaaGreatDoorM09
set_option linter.unusedVariables false
set_option linter.unusedSimpArgs false
set_option linter.constructorNameAsVariable false
section
/-! Symbols and characters. -/
set_option maxRecDepth 20000
set_option linter.unusedSimpArgs false
namespace Go.Proofs.YthjjgpepgbfalaaGreatDoor.Lx
open Go.RowKit

def symV (L : List UInt8) : Value := if L = [] ∨ L.contains 35 = true ∨ begN L = true then askV ⟨0, 0, []⟩ 5 else if 32 < L.length then askV ⟨0, 0, []⟩ 2 else askV ⟨14, 0, L⟩ 0
set_option maxHeartbeats 1600000 in
theorem symbol_any (S : ByteArray) (w : World) (hS : S.size ≤ 5000) : Calls Tryz.prog 141 #[.string S] w fun e w' => e = .returned (symV (tl S)) ∧ Below w.heap.size w w' := by
  obtain ⟨hz, -⟩ := zero_of_info (P := Tryz.prog) zeroTok
  have b0 := build0
  have b1 := buildKS 14 S
  have hll := tl_len S
  have he := eq_str S []
  unfold symV
  by_cases h0 : tl S = []
  · rw [decide_eq_true h0] at he
    rw [if_pos (.inl h0)]
    have hem : S.toList.isEmpty = true := by rw [Go.Lib.toList_data]; exact List.isEmpty_iff.2 h0
    clear h0 hll
    go_enter Tryz.func141, Tryz.ntmps141
    go_wp2_with fail
    exact bodyPost_ret (results_row_tmp rfl _ _ w.heap.size 71 _ (0, 0) _ rfl (heap_alloc_new _ _) Tryz.underlying71 rfl sizeTok) rfl ⟨rfl, alloc_below _ _⟩
  · rw [decide_eq_false h0] at he
    obtain ⟨hpos, hhd⟩ := cons_of h0
    have hem : S.toList.isEmpty = false := by rw [Go.Lib.toList_data]; exact List.isEmpty_eq_false_iff.2 h0
    have hco := fun w => Tryz.strings_Contains_one S 35 w
    have hcb : decide (0 ≤ Lib.indexByte S.data.toList 35) = (tl S).contains 35 := by
      rw [← Bool.coe_iff_coe, decide_eq_true_iff]; exact idxB_iff _ _
    rw [hcb] at hco
    have hbe := fun w => beginsNumber_any S w hS hpos
    have HLN : Hid ((tl S).length = S.size) := hll
    rcases hc : (tl S).contains 35 with _ | _
    · rw [hc] at hco
      have HCO := Lib.hid hco
      rcases hb : begN (tl S) with _ | _
      · rw [hb] at hbe
        have HBE := Lib.hid hbe
        rw [if_neg (by simp [h0])]
        by_cases h32 : 32 < S.size
        · rw [if_pos (by rw [HLN.out]; exact h32)]
          have hd : decide ((32 : Int) < (S.size : Int)) = true := decide_eq_true (by omega)
          clear h0 hll hhd hcb hco hbe hc hb
          go_enter Tryz.func141, Tryz.ntmps141
          go_wp2_with (first
            | (go_at_call 152; refine (HCO.out _).mono ?_; rintro e w' ⟨rfl, rfl⟩)
            | (go_at_call 153; refine (HBE.out _).mono ?_; rintro e w' ⟨rfl, rfl⟩))
          exact bodyPost_ret (results_row_tmp rfl _ _ w.heap.size 71 _ (0, 0) _ rfl (heap_alloc_new _ _) Tryz.underlying71 rfl sizeTok) rfl ⟨rfl, alloc_below _ _⟩
        · rw [if_neg (by rw [HLN.out]; exact h32)]
          have hd : decide ((32 : Int) < (S.size : Int)) = false := decide_eq_false (by omega)
          have hd2 : decide (32 < S.size) = false := decide_eq_false h32
          clear h0 hll hhd hcb hco hbe hc hb
          go_enter Tryz.func141, Tryz.ntmps141
          go_wp2_with (first
            | (go_at_call 152; refine (HCO.out _).mono ?_; rintro e w' ⟨rfl, rfl⟩)
            | (go_at_call 153; refine (HBE.out _).mono ?_; rintro e w' ⟨rfl, rfl⟩))
          exact bodyPost_ret (results_row_tmp rfl _ _ w.heap.size 71 _ (0, 0) _ rfl (heap_alloc_new _ _) Tryz.underlying71 rfl sizeTok) rfl ⟨rfl, alloc_below _ _⟩
      · rw [hb] at hbe
        have HBE := Lib.hid hbe
        rw [if_pos (.inr (.inr rfl))]
        clear h0 hll hhd hcb hco hbe hc hb
        go_enter Tryz.func141, Tryz.ntmps141
        go_wp2_with (first
          | (go_at_call 152; refine (HCO.out _).mono ?_; rintro e w' ⟨rfl, rfl⟩)
          | (go_at_call 153; refine (HBE.out _).mono ?_; rintro e w' ⟨rfl, rfl⟩))
        exact bodyPost_ret (results_row_tmp rfl _ _ w.heap.size 71 _ (0, 0) _ rfl (heap_alloc_new _ _) Tryz.underlying71 rfl sizeTok) rfl ⟨rfl, alloc_below _ _⟩
    · rw [hc] at hco
      have HCO := Lib.hid hco
      have HBE := Lib.hid hbe
      rw [if_pos (.inr (.inl rfl))]
      clear h0 hll hhd hcb hco hbe hc
      go_enter Tryz.func141, Tryz.ntmps141
      go_wp2_with (first
        | (go_at_call 152; refine (HCO.out _).mono ?_; rintro e w' ⟨rfl, rfl⟩)
        | (go_at_call 153; refine (HBE.out _).mono ?_; rintro e w' ⟨rfl, rfl⟩))
      exact bodyPost_ret (results_row_tmp rfl _ _ w.heap.size 71 _ (0, 0) _ rfl (heap_alloc_new _ _) Tryz.underlying71 rfl sizeTok) rfl ⟨rfl, alloc_below _ _⟩
theorem zeroNm : (Tryz.prog.info? 213).map (fun i => (i.zero, i.size)) = some (some (.agg #[.string ⟨#[]⟩, .int .i64 0]), 2) := by kernel_rfl
def nmA (k : Nat) : ByteArray := ⟨(nms.getD k ([], 0)).1.toArray⟩
def nmN (k : Nat) : Nat := (nms.getD k ([], 0)).2
theorem nm_at (k : Nat) (h : k < 9) (W : World) : (Instr.index 214 (.agg nmC) (.int .i64 (k : Int))).run Tryz.prog W = .ok (.agg #[.string (nmA k), .int .i64 (nmN k : Int)]) W :=
  match k, h with
  | 0, _ => by kernel_rfl
  | 1, _ => by kernel_rfl
  | 2, _ => by kernel_rfl
  | 3, _ => by kernel_rfl
  | 4, _ => by kernel_rfl
  | 5, _ => by kernel_rfl
  | 6, _ => by kernel_rfl
  | 7, _ => by kernel_rfl
  | 8, _ => by kernel_rfl
  | k + 9, h => absurd h (by omega)
theorem lookup_at {r : List UInt8} {k : Nat} (hk : k < 9) (h1 : ∀ j, j < k → (nms.getD j ([], 0)).1 ≠ r) (h2 : (nms.getD k ([], 0)).1 = r) : nms.lookup r = some (nmN k) := by
  have key : ∀ (l : List (List UInt8 × Nat)) (k : Nat), k < l.length → (∀ j, j < k → (l.getD j ([], 0)).1 ≠ r) → (l.getD k ([], 0)).1 = r → l.lookup r = some (l.getD k ([], 0)).2 := by
    intro l
    induction l with
    | nil => intro k h; simp at h
    | cons a t ih =>
      intro k hk h1 h2
      obtain ⟨a1, a2⟩ := a
      cases k with
      | zero =>
        have h3 : a1 = r := h2
        rw [List.lookup_cons, h3]
        simp
      | succ k =>
        have h3 : a1 ≠ r := h1 0 (by omega)
        have h4 : (r == a1) = false := beq_false_of_ne (fun e => h3 e.symm)
        rw [List.lookup_cons, h4]
        exact ih k (by simpa using hk) (fun j hj => h1 (j + 1) (by omega)) h2
  exact key nms k hk h1 h2
theorem lookup_no {r : List UInt8} (h1 : ∀ j, j < 9 → (nms.getD j ([], 0)).1 ≠ r) : nms.lookup r = none := by
  have key : ∀ (l : List (List UInt8 × Nat)), (∀ j, j < l.length → (l.getD j ([], 0)).1 ≠ r) → l.lookup r = none := by
    intro l
    induction l with
    | nil => intro _; rfl
    | cons a t ih =>
      intro h1
      obtain ⟨a1, a2⟩ := a
      have h3 : a1 ≠ r := h1 0 (by simp)
      have h4 : (r == a1) = false := beq_false_of_ne (fun e => h3 e.symm)
      rw [List.lookup_cons, h4]
      exact ih fun j hj => h1 (j + 1) (by simpa using hj)
  exact key nms h1
theorem Env.names {w : World} (h : Env w) : w.cell? ⟨2, 0, none⟩ = some (.string ⟨#[110, 117, 108]⟩) ∧ w.cell? ⟨2, 1, none⟩ = some (.int .i64 0) ∧ w.cell? ⟨2, 2, none⟩ = some (.string ⟨#[115, 112, 97, 99, 101]⟩) ∧ w.cell? ⟨2, 3, none⟩ = some (.int .i64 32) ∧ w.cell? ⟨2, 4, none⟩ = some (.string ⟨#[110, 101, 119, 108, 105, 110, 101]⟩) ∧ w.cell? ⟨2, 5, none⟩ = some (.int .i64 10) ∧ w.cell? ⟨2, 6, none⟩ = some (.string ⟨#[116, 97, 98]⟩) ∧ w.cell? ⟨2, 7, none⟩ = some (.int .i64 9) ∧ w.cell? ⟨2, 8, none⟩ = some (.string ⟨#[114, 101, 116, 117, 114, 110]⟩) ∧ w.cell? ⟨2, 9, none⟩ = some (.int .i64 13) ∧ w.cell? ⟨2, 10, none⟩ = some (.string ⟨#[101, 115, 99, 97, 112, 101]⟩) ∧ w.cell? ⟨2, 11, none⟩ = some (.int .i64 27) ∧ w.cell? ⟨2, 12, none⟩ = some (.string ⟨#[100, 101, 108, 101, 116, 101]⟩) ∧ w.cell? ⟨2, 13, none⟩ = some (.int .i64 127) ∧ w.cell? ⟨2, 14, none⟩ = some (.string ⟨#[97, 108, 97, 114, 109]⟩) ∧ w.cell? ⟨2, 15, none⟩ = some (.int .i64 7) ∧ w.cell? ⟨2, 16, none⟩ = some (.string ⟨#[98, 97, 99, 107, 115, 112, 97, 99, 101]⟩) ∧ w.cell? ⟨2, 17, none⟩ = some (.int .i64 8) := by
  obtain ⟨t, fr, hn⟩ := h.nms
  have hc := fun i => cell_of_row _ _ i _ _ _ hn
  unfold nmC at hc
  exact ⟨(hc 0).trans rfl, (hc 1).trans rfl, (hc 2).trans rfl, (hc 3).trans rfl, (hc 4).trans rfl, (hc 5).trans rfl, (hc 6).trans rfl, (hc 7).trans rfl, (hc 8).trans rfl, (hc 9).trans rfl, (hc 10).trans rfl, (hc 11).trans rfl, (hc 12).trans rfl, (hc 13).trans rfl, (hc 14).trans rfl, (hc 15).trans rfl, (hc 16).trans rfl, (hc 17).trans rfl⟩
/-- A byte's number isn't below 0. -/
theorem byteOk_nn {h : List UInt8} (hb : byteOk h = true) : 0 ≤ parseV 16 h := by
  unfold byteOk at hb
  rw [Bool.and_eq_true, Bool.and_eq_true] at hb
  have hg : cutG h = 1 := by
    cases h with
    | nil => rfl
    | cons c t =>
      by_cases e : c = 45
      · rw [e] at hb; simp at hb
      · unfold cutG; split
        · rename_i h; injection h with h; exact absurd h e
        · rfl
  unfold parseV
  split
  · exact Int.le_refl _
  · rw [hg]
    unfold fitV
    split
    · omega
    · exact Int.le_refl _
/-- What char tells of a word. -/
def chrV (L : List UInt8) : Value := match chrO L with | some n => askV ⟨12, (n : Int), []⟩ 0 | none => askV ⟨0, 0, []⟩ 5
set_option maxHeartbeats 3200000 in
theorem char_any (S : ByteArray) (w : World) (hE : Env w) (hS : S.size ≤ 5000) : Calls Tryz.prog 140 #[.string S] w fun e w' => e = .returned (chrV (tl S)) ∧ Below w.heap.size w w' := by
  obtain ⟨hz, -⟩ := zero_of_info (P := Tryz.prog) zeroTok
  obtain ⟨hz2, -⟩ := zero_of_info (P := Tryz.prog) zeroNm
  have b0 := build0
  have b1 := buildKN 12
  have hcp := fun w => Tryz.strings_CutPrefix S ⟨#[35, 92]⟩ w
  rw [show Lib.hasPrefix S.data.toList (⟨#[35, 92]⟩ : ByteArray).data.toList = [35, 92].isPrefixOf (tl S) from rfl] at hcp
  have HX0 : Hid (Bx4 (w.alloc (.cells #[.int .i64 0, .int .i64 0, .string ⟨#[]⟩, .int .i64 0] 71)) w.heap.size #[.int .i64 0, .int .i64 0, .string ⟨#[]⟩, .int .i64 0]) := Lib.hid (Bx4.new _ _)
  have HB0 := Lib.hid (alloc_below w (.cells #[.int .i64 0, .int .i64 0, .string ⟨#[]⟩, .int .i64 0] 71))
  have HE := Lib.hid hE
  obtain ⟨RV, hRV⟩ : ∃ RV, chrV (tl S) = RV := ⟨_, rfl⟩
  rw [hRV]
  unfold chrV chrO at hRV
  rcases hp : [35, 92].isPrefixOf (tl S) with _ | _
  · rw [hp] at hcp hRV
    have HCP := Lib.hid hcp
    rw [if_neg (by simp)] at hRV
    have HV : Hid (askV ⟨0, 0, []⟩ 5 = RV) := hRV
    clear hp hcp hE hRV
    go_enter Tryz.func140, Tryz.ntmps140
    go_wp2_with (go_at_call 116; refine (HCP.out _).mono ?_; rintro e w' ⟨rfl, rfl⟩)
    exact bodyPost_ret (results_row_tmp rfl _ _ w.heap.size 71 _ (0, 0) _ rfl (heap_alloc_new _ _) Tryz.underlying71 rfl sizeTok) rfl ⟨by rw [← HV.out]; rfl, alloc_below _ _⟩
  · rw [hp] at hcp hRV
    have ht : Lib.trimPrefix S.data.toList (⟨#[35, 92]⟩ : ByteArray).data.toList = (tl S).drop 2 := by
      unfold Lib.trimPrefix Lib.hasPrefix
      rw [show (⟨#[35, 92]⟩ : ByteArray).data.toList = [35, 92] from rfl, hp]; rfl
    rw [ht] at hcp
    rw [if_pos rfl] at hRV
    have hRl : ((tl S).drop 2).length ≤ 5000 := by rw [List.length_drop, tl_len]; omega
    generalize (tl S).drop 2 = R at *
    obtain ⟨X, hX⟩ : ∃ X : ByteArray, X = ⟨R.toArray⟩ := ⟨_, rfl⟩
    have hXt : tl X = R := by rw [hX]
    have hXl := tl_len X
    rw [← hX] at hcp
    rw [← hXt] at hRl hRV
    have HCP := Lib.hid hcp
    clear hX hXt hcp ht hp
    unfold charO at hRV
    by_cases h1 : X.size = 1
    · rw [if_pos (by rw [hXl]; exact h1)] at hRV
      have HV : Hid (askV ⟨12, (((tl X).getD 0 0).toNat : Int), []⟩ 0 = RV) := hRV
      clear hRV
      have hi0 : ∀ w, (Instr.index 9 (.string X) (.int .i64 0)).run Tryz.prog w = .ok (.int .u8 (((tl X).getD 0 0).toNat : Int)) w := fun w => idx_any X 0 (by omega) w
      have hd : ((X.size : Int) == 1) = true := by rw [h1]; rfl
      have hcc : IntKind.i64.wrap (((tl X).getD 0 0).toNat : Int) = (((tl X).getD 0 0).toNat : Int) := by
        have := ((tl X).getD 0 0).toNat_lt
        rw [IntKind.wrap_i64]; omega
      generalize ((tl X).getD 0 0).toNat = c at *
      clear h1 hXl hRl hE
      go_enter Tryz.func140, Tryz.ntmps140
      go_wp2_with (go_at_call 116; refine (HCP.out _).mono ?_; rintro e w' ⟨rfl, rfl⟩)
      exact bodyPost_ret (results_row_tmp rfl _ _ w.heap.size 71 _ (0, 0) _ rfl (heap_alloc_new _ _) Tryz.underlying71 rfl sizeTok) rfl ⟨by rw [← HV.out]; rfl, alloc_below _ _⟩
    · rw [if_neg (by rw [hXl]; exact h1)] at hRV
      have HRV := Lib.hid hRV
      clear hRV
      have hd : ((X.size : Int) == 1) = false := by rw [beq_eq_false_iff_ne]; omega
      have hd2 : (X.size == 1) = false := by rw [beq_eq_false_iff_ne]; exact h1
      obtain ⟨q0, q1, q2, q3, q4, q5, q6, q7, q8, q9, q10, q11, q12, q13, q14, q15, q16, q17⟩ := (hE.below HB0.out).names
      have HNA := Lib.hid nm_at
      unfold nmC at HNA
      have HXL := Lib.hid hXl
      clear h1 hE hXl
      go_enter Tryz.func140, Tryz.ntmps140
      go_wp2_with (go_at_call 116; refine (HCP.out _).mono ?_; rintro e w' ⟨rfl, rfl⟩)
      clear q0 q1 q2 q3 q4 q5 q6 q7 q8 q9 q10 q11 q12 q13 q14 q15 q16 q17
      have HBW : Hid (w.heap.size + 1 ≤ (w.alloc (.cells #[.int .i64 0, .int .i64 0, .string ⟨#[]⟩, .int .i64 0] 71)).heap.size) := Lib.hid (by simp)
      generalize w.alloc (.cells #[.int .i64 0, .int .i64 0, .string ⟨#[]⟩, .int .i64 0] 71) = W1 at *
      go_loopw [28] (fun iv wr => ∃ k : Nat, iv = .int .i64 (k : Int) ∧ k ≤ 9 ∧ Hid ((∀ j, j < k → (nms.getD j ([], 0)).1 ≠ tl X) ∧ Below W1.heap.size W1 wr)) (fun iv _ => 9 - (RowKit.intOf iv).toNat)
      case atStart => exact ⟨0, rfl, by omega, Lib.hid ⟨fun j hj => absurd hj (Nat.not_lt_zero j), Below.refl _ _⟩⟩
      case round =>
        obtain ⟨k, rfl, hk, HK⟩ := hrel
        by_cases hlt : k < 9
        · have hna := HNA.out k hlt
          have heq : (X.toList == (nmA k).toList) = decide (tl X = (nms.getD k ([], 0)).1) := by
            rw [eq_str]
            rw [Lib.toList_data]; rfl
          obtain ⟨A, hA⟩ : ∃ A, nmA k = A := ⟨_, rfl⟩
          obtain ⟨N, hN⟩ : ∃ N, nmN k = N := ⟨_, rfl⟩
          rw [hA] at heq hna
          rw [hN] at hna
          have HN := Lib.hid hN
          clear hA hN
          by_cases hq : tl X = (nms.getD k ([], 0)).1
          · rw [decide_eq_true hq] at heq
            have HV : Hid (askV ⟨12, (N : Int), []⟩ 0 = RV) := by
              have h := HRV.out
              rw [show nms.lookup (tl X) = some N from by rw [← HN.out]; exact lookup_at hlt HK.out.1 hq.symm] at h
              exact h
            clear hq
            go_upto_region 9 with fail
            have hbw : Below wr.heap.size wr (wr.alloc (.cells #[.string A, .int .i64 (N : Int)] 213)) := alloc_below _ _
            have hx9 := heap_alloc_new wr (.cells #[.string A, .int .i64 (N : Int)] 213)
            generalize wr.alloc (.cells #[.string A, .int .i64 (N : Int)] 213) = W2 at *
            have hbx := (HX0.out.below HK.out.2).below hbw
            obtain ⟨⟨q0, q1, q2, q3⟩, f0, f1, f2, f3⟩ := hbx.cells
            have d0 := cell_of_row _ _ 0 _ _ _ hx9
            have d1 := cell_of_row _ _ 1 _ _ _ hx9
            simp at d0 d1
            have HBX := Lib.hid hbx
            have HB2 : Hid (Below w.heap.size w W2) := Lib.hid (HB0.out.trans ((HK.out.2.trans (hbw.mono HK.out.2.size)).mono (by have := HBW.out; omega)))
            clear hbx hbw hx9
            go_wp2_with fail
            refine bodyPost_ret (results_row_tmp rfl _ _ w.heap.size 71 _ (0, 0) _ rfl (HBX.out.set _ _ _ _).row Tryz.underlying71 rfl sizeTok) rfl ⟨by rw [← HV.out]; rfl, box_below HB2.out (Nat.le_refl _) _ _ _ _⟩
          · rw [decide_eq_false hq] at heq
            have HK2 : Hid (∀ j, j < k + 1 → (nms.getD j ([], 0)).1 ≠ tl X) := Lib.hid fun j hj => by
              by_cases e : j = k
              · rw [e]; exact fun e2 => hq e2.symm
              · exact HK.out.1 j (by omega)
            clear hq
            go_upto_region 9 with fail
            have hbw : Below wr.heap.size wr (wr.alloc (.cells #[.string A, .int .i64 (N : Int)] 213)) := alloc_below _ _
            have hx9 := heap_alloc_new wr (.cells #[.string A, .int .i64 (N : Int)] 213)
            generalize wr.alloc (.cells #[.string A, .int .i64 (N : Int)] 213) = W2 at *
            have d0 := cell_of_row _ _ 0 _ _ _ hx9
            simp at d0
            have HB2 : Hid (Below W1.heap.size W1 W2) := Lib.hid (HK.out.2.trans (hbw.mono HK.out.2.size))
            clear hbw hx9
            go_wp2_with fail
            go_roundw
            case rel => exact ⟨k + 1, by go_num, by omega, Lib.hid ⟨HK2.out, HB2.out⟩⟩
            case measure => simp [RowKit.intOf]; omega
        · have hk9 : k = 9 := by omega
          subst hk9
          have HRV2 : Hid ((match (if [120].isPrefixOf (tl X) then byteO ((tl X).drop 1) else none) with | some n => askV ⟨12, (n : Int), []⟩ 0 | none => askV ⟨0, 0, []⟩ 5) = RV) := by
            have h := HRV.out
            rw [lookup_no HK.out.1] at h
            exact h
          have hcp2 := fun w => Tryz.strings_CutPrefix X ⟨#[120]⟩ w
          rw [show Lib.hasPrefix X.data.toList (⟨#[120]⟩ : ByteArray).data.toList = [120].isPrefixOf (tl X) from rfl] at hcp2
          have HR0 : Hid (Bx4 wr w.heap.size #[.int .i64 0, .int .i64 0, .string ⟨#[]⟩, .int .i64 0]) := Lib.hid (HX0.out.below HK.out.2)
          have HBR : Hid (Below w.heap.size w wr) := Lib.hid (HB0.out.trans (HK.out.2.mono (by have := HBW.out; omega)))
          clear hlt hk
          rcases hp : [120].isPrefixOf (tl X) with _ | _
          · rw [hp] at hcp2
            have HV : Hid (askV ⟨0, 0, []⟩ 5 = RV) := by
              have h := HRV2.out
              rw [hp, if_neg (by simp)] at h
              exact h
            have HCP2 := Lib.hid hcp2
            obtain ⟨⟨q0, q1, q2, q3⟩, f0, f1, f2, f3⟩ := HR0.out.cells
            clear hp hcp2
            go_wp2_with (go_at_call 116; refine (HCP2.out _).mono ?_; rintro e w' ⟨rfl, rfl⟩)
            refine bodyPost_ret (results_row_tmp rfl _ _ w.heap.size 71 _ (0, 0) _ rfl (HR0.out.set _ _ _ _).row Tryz.underlying71 rfl sizeTok) rfl ⟨by rw [← HV.out]; rfl, box_below HBR.out (Nat.le_refl _) _ _ _ _⟩
          · rw [hp] at hcp2
            have ht : Lib.trimPrefix X.data.toList (⟨#[120]⟩ : ByteArray).data.toList = (tl X).drop 1 := by
              unfold Lib.trimPrefix Lib.hasPrefix
              rw [show (⟨#[120]⟩ : ByteArray).data.toList = [120] from rfl, hp]; rfl
            rw [ht] at hcp2
            obtain ⟨Y, hY⟩ : ∃ Y : ByteArray, Y = ⟨((tl X).drop 1).toArray⟩ := ⟨_, rfl⟩
            have hYt : tl Y = (tl X).drop 1 := by rw [hY]
            have hYl : Y.size ≤ 5000 := by rw [← tl_len, hYt, List.length_drop]; omega
            rw [← hY] at hcp2
            have HRV3 : Hid ((match byteO ((tl X).drop 1) with | some n => askV ⟨12, (n : Int), []⟩ 0 | none => askV ⟨0, 0, []⟩ 5) = RV) := by
              have h := HRV2.out
              rw [hp, if_pos rfl] at h
              exact h
            have HCP2 := Lib.hid hcp2
            have hbo := fun w => byteOf_any Y w hYl
            rw [hYt] at hbo
            unfold bofV at hbo
            clear hcp2 hY ht hp
            clear hYt hYl
            rcases hb : byteOk ((tl X).drop 1) with _ | _
            · rw [hb] at hbo
              have HV : Hid (askV ⟨0, 0, []⟩ 5 = RV) := by
                have h := HRV3.out
                unfold byteO at h
                rw [hb] at h
                exact h
              have HBO := Lib.hid hbo
              clear hbo hb
              go_wp2_with (first
                | (go_at_call 116; refine (HCP2.out _).mono ?_; rintro e w' ⟨rfl, rfl⟩)
                | (go_at_call 143; refine (HBO.out _).mono ?_; rintro e w2 ⟨rfl, hb2⟩; have HB2 := Lib.hid (HBR.out.trans (hb2.mono HBR.out.size)); have hbx := HR0.out.below hb2; obtain ⟨⟨q0, q1, q2, q3⟩, f0, f1, f2, f3⟩ := hbx.cells; have HBX := Lib.hid hbx; clear hbx hb2))
              refine bodyPost_ret (results_row_tmp rfl _ _ w.heap.size 71 _ (0, 0) _ rfl (HBX.out.set _ _ _ _).row Tryz.underlying71 rfl sizeTok) rfl ⟨by rw [← HV.out]; rfl, box_below HB2.out (Nat.le_refl _) _ _ _ _⟩
            · rw [hb] at hbo
              have hvn : 0 ≤ parseV 16 ((tl X).drop 1) := byteOk_nn hb
              obtain ⟨V, hVV⟩ : ∃ V, parseV 16 ((tl X).drop 1) = V := ⟨_, rfl⟩
              have HV : Hid (askV ⟨12, V, []⟩ 0 = RV) := by
                have h := HRV3.out
                unfold byteO at h
                rw [hb, if_pos rfl, hVV] at h
                rw [hVV] at hvn
                have e : (V.toNat : Int) = V := by omega
                rw [← h]
                show _ = askV ⟨12, (V.toNat : Int), []⟩ 0
                rw [e]
              rw [hVV] at hbo hvn
              clear hVV hb
              have HBO := Lib.hid hbo
              clear hbo
              go_wp2_with (first
                | (go_at_call 116; refine (HCP2.out _).mono ?_; rintro e w' ⟨rfl, rfl⟩)
                | (go_at_call 143; refine (HBO.out _).mono ?_; rintro e w2 ⟨rfl, hb2⟩; have HB2 := Lib.hid (HBR.out.trans (hb2.mono HBR.out.size)); have hbx := HR0.out.below hb2; obtain ⟨⟨q0, q1, q2, q3⟩, f0, f1, f2, f3⟩ := hbx.cells; have HBX := Lib.hid hbx; clear hbx hb2))
              refine bodyPost_ret (results_row_tmp rfl _ _ w.heap.size 71 _ (0, 0) _ rfl (HBX.out.set _ _ _ _).row Tryz.underlying71 rfl sizeTok) rfl ⟨by rw [← HV.out]; rfl, box_below HB2.out (Nat.le_refl _) _ _ _ _⟩
end Go.Proofs.YthjjgpepgbfalaaGreatDoor.Lx
end
