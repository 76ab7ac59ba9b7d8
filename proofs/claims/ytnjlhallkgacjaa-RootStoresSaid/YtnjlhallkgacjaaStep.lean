/- What the document's answer for one more byte returns. -/
import Derived.Test.YtnjlhallkgacjaaRef
import Derived.Deep.QuietTactic
import Derived.BigQuiet
import Derived.Deep.RegionWith
import Derived.Deep.DeepCutAuto
import Derived.RegionTactic
namespace Go.Proofs.Ytnjlhallkgacjaa
open Go.RowKit

structure S1 (w wr : World) (R c k : Nat) : Prop where
  below : Below w.heap.size w wr
  row : IsRow wr w.heap.size (fun j => if j < k then (R ^^^ c).testBit j else R.testBit j)
  out : IsRow wr (w.heap.size + 1) (fun _ => false)

theorem IsRow.lt {w : World} {g : Nat} {f : Nat → Bool} (h : IsRow w g f) : g < w.heap.size := by
  rcases Nat.lt_or_ge g w.heap.size with h1 | h1
  · exact h1
  · unfold IsRow at h; rw [Array.getElem?_eq_none h1] at h; cases h
theorem IsRow.same {w : World} {g : Nat} {f f2 : Nat → Bool} (h : IsRow w g f) (hf : ∀ i, i < 32 → f i = f2 i) : IsRow w g f2 := by
  unfold IsRow at h ⊢
  rw [h, rowF_ext hf]
theorem S1.put {w wr : World} {R c k : Nat} (h : S1 w wr R c k) (z : Bool) (hz : (R ^^^ c).testBit k = z) : S1 w (wr.setCell ⟨w.heap.size, k, none⟩ (.bool z)).drew R c (k + 1) :=
  ⟨(h.below.setCell (Nat.le_refl _) _).drew, h.row.put k z (fun j hj => by
    by_cases e : j = k
    · subst e; rw [if_pos rfl, if_pos (by omega), hz]
    · rw [if_neg e]
      by_cases h : j < k
      · rw [if_pos h, if_pos (by omega)]
      · rw [if_neg h, if_neg (by omega)]), h.out.other (by show w.heap.size + 1 ≠ w.heap.size; omega) _⟩
structure S2 (w wr : World) (S k V : Nat) : Prop where
  below : Below w.heap.size w wr
  lt : S < 4294967296
  goes : stps (8 - k) S = V
  row : IsRow wr w.heap.size S.testBit
  out : IsRow wr (w.heap.size + 1) (fun _ => false)
theorem S1.ends {w wr : World} {R c : Nat} (h : S1 w wr R c 8) (hR : R < 4294967296) (hc : c < 256) : S2 w wr (R ^^^ c) 0 (eat R c) :=
  ⟨h.below, xor_lt hR (by omega), rfl, h.row.same fun j hj => by
    by_cases h8 : j < 8
    · rw [if_pos h8]
    · rw [if_neg h8, Nat.testBit_xor, show c.testBit j = false from Nat.testBit_lt_two_pow (Nat.lt_of_lt_of_le hc (Nat.pow_le_pow_right (n := 2) (i := 8) (by omega) (by omega)))]
      cases R.testBit j <;> rfl, h.out⟩
/-- Amid a step: the next row is made of the old one, moved down. -/
structure S3 (w wr : World) (n S k i V : Nat) : Prop where
  two : S2 w wr S k V
  far : w.heap.size + 1 < n
  row : IsRow wr n (fun j => if j < i then S.testBit (j + 1) else false)
/-- Amid a step: the polynomial is taken in. -/
structure S4 (w wr : World) (n S k i V : Nat) : Prop where
  two : S2 w wr S k V
  far : w.heap.size + 1 < n
  row : IsRow wr n (fun j => if j < i then (stp S).testBit j else (S / 2).testBit j)
theorem S2.set {w wr : World} {S k V : Nat} (h : S2 w wr S k V) {n : Nat} (hn : w.heap.size + 1 < n) (i : Nat) (v : Value) : S2 w (wr.setCell ⟨n, i, none⟩ v) S k V :=
  ⟨h.below.setCell (by show w.heap.size ≤ n; omega) _, h.lt, h.goes, h.row.other (by show w.heap.size ≠ n; omega) _, h.out.other (by show w.heap.size + 1 ≠ n; omega) _⟩
theorem S2.drew {w wr : World} {S k V : Nat} (h : S2 w wr S k V) : S2 w wr.drew S k V := ⟨h.below.drew, h.lt, h.goes, h.row, h.out⟩
theorem S2.next {w wr : World} {S k V : Nat} (h : S2 w wr S k V) : S3 w (wr.alloc (.cells (rowF fun _ => false) 84)) wr.heap.size S k 0 V :=
  ⟨⟨h.below.alloc h.below.size _, h.lt, h.goes, h.row.below ((Below.refl _ _).alloc (Nat.le_refl _) _), h.out.below ((Below.refl _ _).alloc (Nat.le_refl _) _)⟩, h.out.lt, heap_alloc_new wr _⟩
theorem S3.put {w wr : World} {n S k i V : Nat} (h : S3 w wr n S k i V) : S3 w (wr.setCell ⟨n, i, none⟩ (.bool (S.testBit (i + 1)))) n S k (i + 1) V :=
  ⟨h.two.set h.far i _, h.far, h.row.put i _ (fun j hj => by
    by_cases e : j = i
    · subst e; rw [if_pos rfl, if_pos (by omega)]
    · rw [if_neg e]
      by_cases h : j < i
      · rw [if_pos h, if_pos (by omega)]
      · rw [if_neg h, if_neg (by omega)])⟩
theorem S3.ends {w wr : World} {n S k V : Nat} (h : S3 w wr n S k 31 V) : S4 w wr n S k 0 V :=
  ⟨h.two, h.far, h.row.same fun j hj => by
    rw [if_neg (Nat.not_lt_zero j), ← Nat.testBit_succ]
    by_cases hj2 : j < 31
    · rw [if_pos hj2]
    · rw [if_neg hj2, bit_high h.two.lt (by omega)]⟩
theorem S4.put {w wr : World} {n S k i V : Nat} (h : S4 w wr n S k i V) (z : Bool) (hz : (stp S).testBit i = z) : S4 w (wr.setCell ⟨n, i, none⟩ (.bool z)).drew n S k (i + 1) V :=
  ⟨(h.two.set h.far i _).drew, h.far, h.row.put i z (fun j hj => by
    by_cases e : j = i
    · subst e; rw [if_pos rfl, if_pos (by omega), hz]
    · rw [if_neg e]
      by_cases h : j < i
      · rw [if_pos h, if_pos (by omega)]
      · rw [if_neg h, if_neg (by omega)])⟩
theorem S4.ends {w wr : World} {n S k V : Nat} (h : S4 w wr n S k 32 V) (hk : k < 8) : IsRow wr n (stp S).testBit ∧ S2 w (wr.setRow w.heap.size (rowF (stp S).testBit)) (stp S) (k + 1) V :=
  ⟨h.row.same fun j hj => by rw [if_pos hj], below_row h.two.below (Nat.le_refl _) _, stp_lt h.two.lt, by rw [← h.two.goes, show 8 - k = (8 - (k + 1)) + 1 by omega]; rfl, h.two.row.over _,
    (setRow_other wr w.heap.size (w.heap.size + 1) _ (by omega)).trans h.two.out⟩

set_option maxHeartbeats 1600000 in
set_option maxRecDepth 10000 in
theorem step_any (R c : Nat) (w : World) (hR : R < 4294967296) (hc : c < 256) :
    Calls Try.prog 49 #[.agg (rowF R.testBit), .int .u8 c] w fun e w' => e = .returned (.agg (rowF (eat R c).testBit)) ∧ Below w.heap.size w w' := by
  have h1 : Hid (IsRow ((w.alloc (.cells (rowF R.testBit) 84)).alloc (.cells (rowF fun _ => false) 84)) w.heap.size R.testBit) := Lib.hid (heap_alloc2_old w _ _)
  have h2 : Hid (IsRow ((w.alloc (.cells (rowF R.testBit) 84)).alloc (.cells (rowF fun _ => false) 84)) (w.heap.size + 1) (fun _ => false)) := Lib.hid (heap_alloc2_new w _ _)
  have h3 : Hid (Below w.heap.size w ((w.alloc (.cells (rowF R.testBit) 84)).alloc (.cells (rowF fun _ => false) 84))) := Lib.hid (((Below.refl _ _).alloc (Nat.le_refl _) _).alloc (by simp) _)
  have hz : rowF (fun _ => false) = #[.bool false, .bool false, .bool false, .bool false, .bool false, .bool false, .bool false, .bool false, .bool false, .bool false, .bool false, .bool false, .bool false, .bool false, .bool false, .bool false, .bool false, .bool false, .bool false, .bool false, .bool false, .bool false, .bool false, .bool false, .bool false, .bool false, .bool false, .bool false, .bool false, .bool false, .bool false, .bool false] := rfl
  rw [hz] at h1 h2 h3
  clear hz
  generalize hF : R.testBit = F at *
  have HF := Lib.hid hF
  clear hF
  have hcw : IntKind.u32.wrap (c : Int) = c := by rw [IntKind.wrap_u32]; omega
  go_enter Try.func49, Try.ntmps49
  go_wp2_with fail
  generalize (World.alloc (World.alloc _ _) _) = W at *
  have H0 : Hid (S1 w W R c 0) := Lib.hid ⟨h3.out, by
    have h := h1.out
    rw [← HF.out] at h
    exact h, h2.out⟩
  clear h1 h2 h3
  go_loopw [5] (fun iv wr => ∃ k : Nat, k ≤ 8 ∧ iv = .int .i64 (k : Int) ∧ S1 w wr R c k) (fun i _ => 8 - (intOf i).toNat)
  case atStart => exact ⟨0, by omega, by go_num, H0.out⟩
  case round =>
    obtain ⟨k, hk, rfl, hr⟩ := hrel
    have HR := Lib.hid hr
    clear hr H0
    by_cases hlt : k < 8
    · have hd : decide ((k : Int) < 8) = true := decide_eq_true (by omega)
      have hg := HR.out.row.cell k (by omega)
      rw [if_neg (Nat.lt_irrefl k)] at hg
      have hf := HR.out.row.free k
      obtain ⟨x, hx⟩ : ∃ x, Hid (R.testBit k = x) := ⟨_, rfl⟩
      obtain ⟨y, hy⟩ : ∃ y, Hid (c.testBit k = y) := ⟨_, rfl⟩
      rw [hx.out] at hg
      go_wp2_with fail
      go_region_with (first | (go_at_call 55; refine (bit_any c k _ (by omega) (by omega)).mono ?_; rintro e w3 ⟨rfl, rfl⟩; rw [hy.out]))
      all_goals
        go_wp2_with fail
        go_roundw
      all_goals first
        | (case rel => exact ⟨k + 1, by omega, by go_num, HR.out.put (!(x == y)) (by rw [Nat.testBit_xor, hx.out, hy.out]; cases x <;> cases y <;> rfl)⟩)
        | (case measure => simp [intOf]; omega)
    · have hd : decide ((k : Int) < 8) = false := decide_eq_false (by omega)
      have H2 : Hid (S2 w wr (R ^^^ c) 0 (eat R c)) := Lib.hid (S1.ends (by
        have h := HR.out
        rw [show k = 8 by omega] at h
        exact h) hR hc)
      obtain ⟨wo, rfl⟩ : ∃ wo : World, wo = wr := ⟨_, rfl⟩
      clear HR hcw
      go_wp2_with fail
      go_loopw [6] (fun iv wr => ∃ k S : Nat, k ≤ 8 ∧ iv = .int .i64 (k : Int) ∧ S2 w wr S k (eat R c)) (fun i _ => 8 - (intOf i).toNat)
      case atStart => exact ⟨0, _, by omega, by go_num, H2.out⟩
      case round =>
        clear H2 hk hlt hd
        obtain ⟨k, S, hk, rfl, hr⟩ := hrel
        have HR := Lib.hid hr
        clear hr
        obtain ⟨wp, rfl⟩ : ∃ wo : World, wo = wr := ⟨_, rfl⟩
        by_cases hlt : k < 8
        · have hd : decide ((k : Int) < 8) = true := decide_eq_true (by omega)
          have hg := HR.out.row.cell 0 (by omega)
          obtain ⟨O, hO⟩ : ∃ O, Hid (S.testBit 0 = O) := ⟨_, rfl⟩
          rw [hO.out] at hg
          have H3 := Lib.hid HR.out.next
          have hz : rowF (fun _ => false) = #[.bool false, .bool false, .bool false, .bool false, .bool false, .bool false, .bool false, .bool false, .bool false, .bool false, .bool false, .bool false, .bool false, .bool false, .bool false, .bool false, .bool false, .bool false, .bool false, .bool false, .bool false, .bool false, .bool false, .bool false, .bool false, .bool false, .bool false, .bool false, .bool false, .bool false, .bool false, .bool false] := rfl
          rw [hz] at H3
          clear hz HR
          go_wp2_with fail
          generalize (World.alloc _ _) = W at *
          generalize wp.heap.size = n at *
          go_loopw [9] (fun iv wr => ∃ i : Nat, i ≤ 31 ∧ iv = .int .i64 (i : Int) ∧ S3 w wr n S k i (eat R c)) (fun i _ => 31 - (intOf i).toNat)
          case atStart => exact ⟨0, by omega, by go_num, H3.out⟩
          case round =>
            clear H3 hg
            obtain ⟨i, hi, rfl, hr⟩ := hrel
            have HR := Lib.hid hr
            clear hr
            obtain ⟨wq, rfl⟩ : ∃ wo : World, wo = wr := ⟨_, rfl⟩
            by_cases hlt2 : i < 31
            · have hd2 : decide ((i : Int) < 31) = true := decide_eq_true (by omega)
              have hg := HR.out.two.row.cell (i + 1) (by omega)
              have hg2 := HR.out.row.cell i (by omega)
              rw [if_neg (Nat.lt_irrefl i)] at hg2
              have hf2 := HR.out.row.free i
              have HN := Lib.hid HR.out.put
              generalize S.testBit (i + 1) = x at *
              clear HR
              go_wp2_with fail
              go_roundw
              case rel => exact ⟨i + 1, by omega, by go_num, HN.out⟩
              case measure => simp [intOf]; omega
            · have hd2 : decide ((i : Int) < 31) = false := decide_eq_false (by omega)
              have H4 : Hid (S4 w wq n S k 0 (eat R c)) := Lib.hid (S3.ends (by
                have h := HR.out
                rw [show i = 31 by omega] at h
                exact h))
              clear HR
              go_wp2_with fail
              go_loopw [10] (fun iv wr => ∃ i : Nat, i ≤ 32 ∧ iv = .int .i64 (i : Int) ∧ S4 w wr n S k i (eat R c)) (fun i _ => 32 - (intOf i).toNat)
              case atStart => exact ⟨0, by omega, by go_num, H4.out⟩
              case round =>
                clear H4 hi hlt2 hd2
                obtain ⟨i, hi, rfl, hr⟩ := hrel
                have HR := Lib.hid hr
                clear hr
                obtain ⟨ws, rfl⟩ : ∃ wo : World, wo = wr := ⟨_, rfl⟩
                by_cases hlt3 : i < 32
                · have hd3 : decide ((i : Int) < 32) = true := decide_eq_true (by omega)
                  have hg := HR.out.row.cell i (by omega)
                  rw [if_neg (Nat.lt_irrefl i)] at hg
                  have hf := HR.out.row.free i
                  obtain ⟨x, hx⟩ : ∃ x, Hid ((S / 2).testBit i = x) := ⟨_, rfl⟩
                  rw [hx.out] at hg
                  obtain ⟨y, hy⟩ : ∃ y, Hid (poly.testBit i = y) := ⟨_, rfl⟩
                  have HS : Hid ((stp S).testBit i = (x.xor (O && y))) := Lib.hid (by rw [stp_bit, Nat.testBit_succ, hx.out, hO.out, hy.out])
                  have HP := Lib.hid HR.out.put
                  clear HR
                  cases O with
                  | true =>
                    go_wp2_with fail
                    go_region_with (first | (go_at_call 55; refine (bit_any 3988292384 i _ (by omega) (by omega)).mono ?_; rintro e w3 ⟨rfl, rfl⟩; rw [show (3988292384 : Nat).testBit i = y from hy.out]))
                    all_goals
                      go_wp2_with fail
                      go_roundw
                    all_goals first
                      | (case rel => exact ⟨i + 1, by omega, by go_num, HP.out (!(x == y)) (by rw [HS.out]; cases x <;> cases y <;> rfl)⟩)
                      | (case measure => simp [intOf]; omega)
                  | false =>
                    have HQ := Lib.hid (HP.out x (by rw [HS.out]; cases x <;> rfl))
                    clear HP
                    go_wp2_with fail
                    go_region
                    all_goals
                      go_wp2_with fail
                      go_roundw
                    all_goals first
                      | (case rel => exact ⟨i + 1, by omega, by go_num, HQ.out⟩)
                      | (case measure => simp [intOf]; omega)
                · have hd3 : decide ((i : Int) < 32) = false := decide_eq_false (by omega)
                  have H5 : IsRow ws n (stp S).testBit ∧ S2 w (ws.setRow w.heap.size (rowF (stp S).testBit)) (stp S) (k + 1) (eat R c) := S4.ends (by
                    have h := HR.out
                    rw [show i = 32 by omega] at h
                    exact h) hlt
                  have HX := Lib.hid H5.1
                  have HN := Lib.hid H5.2
                  have HO := Lib.hid HR.out.two.row
                  clear H5 HR
                  generalize (stp S).testBit = G at *
                  have KI := Lib.hid (info84 G)
                  have K1 := Lib.hid (rowF_one G)
                  have KS : Hid ((rowF S.testBit).size = (rowF G).size) := Lib.hid (by rw [rowF_size, rowF_size])
                  go_wp2_with (first
                    | (refine wpList_load_row rfl 84 (.tmp 8) rfl n rfl 84 (rowF G) (0, 0) _ HX.out Try.underlying84 rfl KI.out ?_)
                    | (refine wpList_store_row rfl 84 (.tmp 2) (.tmp 56) rfl w.heap.size (rowF G) rfl rfl 84 (rowF S.testBit) HO.out KI.out KS.out K1.out ?_))
                  go_roundw
                  case rel => exact ⟨k + 1, stp S, by omega, by go_num, HN.out⟩
                  case measure => simp [intOf]; omega
        · have hd : decide ((k : Int) < 8) = false := decide_eq_false (by omega)
          have hS : S = eat R c := by
            have h := HR.out.goes
            rw [show k = 8 by omega] at h
            exact h
          have HS := Lib.hid hS
          have HX := Lib.hid HR.out.row
          have HO := Lib.hid HR.out.out
          have HB := Lib.hid HR.out.below
          clear HR hS
          have KI := Lib.hid (info84 S.testBit)
          have K1 := Lib.hid (rowF_one S.testBit)
          have KS : Hid ((rowF fun _ => false).size = (rowF S.testBit).size) := Lib.hid (by rw [rowF_size, rowF_size])
          have HY : Hid (IsRow (wp.setRow (w.heap.size + 1) (rowF S.testBit)) (w.heap.size + 1) S.testBit) := Lib.hid (HO.out.over _)
          have HZ := Lib.hid (below_row HB.out (show w.heap.size ≤ w.heap.size + 1 by omega) (rowF S.testBit))
          go_wp2_with (first
            | (refine wpList_load_row rfl 84 (.tmp 2) rfl w.heap.size rfl 84 (rowF S.testBit) (0, 0) _ HX.out Try.underlying84 rfl KI.out ?_)
            | (refine wpList_store_row rfl 84 (.tmp 4) (.tmp 57) rfl (w.heap.size + 1) (rowF S.testBit) rfl rfl 84 (rowF fun _ => false) HO.out KI.out KS.out K1.out ?_))
          refine bodyPost_ret (v := .agg (rowF S.testBit)) ?_ rfl ⟨by rw [HS.out], HZ.out⟩
          exact results_cell_row Try.results49 _ _ (w.heap.size + 1) 84 (rowF S.testBit) (0, 0) _ rfl HY.out Try.underlying84 rfl KI.out
end Go.Proofs.Ytnjlhallkgacjaa
