/- What the document's answer for one bit, for a register of a sum and for the sum of a register return. -/
import Derived.Test.YtnjlhallkgacjaaTail
import Derived.Laws.Rows
namespace Go.Proofs.Ytnjlhallkgacjaa
open Go.RowKit

/-- A row of 32 bools. -/
def rowF (f : Nat → Bool) : Array Value := ((List.range 32).map fun i => Value.bool (f i)).toArray
theorem rowF_size (f : Nat → Bool) : (rowF f).size = 32 := by simp [rowF]
theorem rowF_get (f : Nat → Bool) (i : Nat) (h : i < 32) : (rowF f)[i]? = some (.bool (f i)) := by simp [rowF, h]
theorem rowF_ext {f g : Nat → Bool} (h : ∀ i, i < 32 → f i = g i) : rowF f = rowF g := by
  unfold rowF
  congr 1
  exact List.map_congr_left fun i hi => by rw [h i (List.mem_range.1 hi)]
theorem rowF_set (f : Nat → Bool) (i : Nat) (v : Bool) : (rowF f).set! i (.bool v) = rowF (fun j => if j = i then v else f j) := by
  apply Array.ext
  · simp [rowF]
  · intro j h1 h2
    have hj : j < 32 := by rw [rowF_size] at h2; exact h2
    simp only [Array.set!_eq_setIfInBounds, rowF, List.getElem_toArray, List.getElem_map, List.getElem_range]
    by_cases hij : i = j
    · subst hij; simp
    · simp [hij, show ¬ j = i from fun e => hij e.symm]
/-- The block is a row of these bools. -/
def IsRow (w : World) (g : Nat) (f : Nat → Bool) : Prop := w.heap[g]? = some (.cells (rowF f) 84 (0, 0))
theorem IsRow.cell {w : World} {g : Nat} {f : Nat → Bool} (h : IsRow w g f) (i : Nat) (hi : i < 32) : w.cell? ⟨g, i, none⟩ = some (.bool (f i)) := by
  rw [cell_of_row w g i _ _ _ h]; exact rowF_get f i hi
theorem IsRow.free {w : World} {g : Nat} {f : Nat → Bool} (h : IsRow w g f) (i : Nat) : w.frozen? ⟨g, i, none⟩ = false := frozen_of_row w g i _ _ h
theorem IsRow.put {w : World} {g : Nat} {f : Nat → Bool} (h : IsRow w g f) (i : Nat) (v : Bool) {f2 : Nat → Bool} (hf : ∀ j, j < 32 → (if j = i then v else f j) = f2 j) : IsRow (w.setCell ⟨g, i, none⟩ (.bool v)) g f2 := by
  have h2 := heap_setCell_same w g i _ _ (.bool v) h
  unfold IsRow
  rw [← rowF_ext hf, ← rowF_set]
  exact h2
theorem IsRow.below {w w2 : World} {g : Nat} {f : Nat → Bool} (h : IsRow w g f) (hb : Below w.heap.size w w2) : IsRow w2 g f := (hb.block g (by
  rcases Nat.lt_or_ge g w.heap.size with h1 | h1
  · exact h1
  · unfold IsRow at h; rw [Array.getElem?_eq_none h1] at h; cases h)).trans h

theorem bit_zero {m : Nat} (h : m % 2 = 1) : m.testBit 0 = true := by rw [Nat.testBit_zero]; exact decide_eq_true h
set_option maxHeartbeats 400000 in
theorem bit_any (n i : Nat) (w : World) (hn : n < 4294967296) (hi : i < 64) :
    Calls Try.prog 55 #[.int .u32 n, .int .i64 i] w fun e w' => e = .returned (.bool (n.testBit i)) ∧ w = w' := by
  obtain ⟨V, HV⟩ : ∃ V, Hid (n.testBit i = V) := ⟨_, rfl⟩
  rw [HV.out]
  go_enter Try.func55, Try.ntmps55
  go_wp2_with fail
  go_loop [0, 1] (fun nv iv => ∃ k m : Nat, k ≤ 64 ∧ iv = .int .i64 (k : Int) ∧ nv = .int .u32 (m : Int) ∧ m < 4294967296 ∧ m.testBit k = V) (fun _ i => (intOf i).toNat)
  case atStart => exact ⟨i, n, by omega, rfl, rfl, hn, HV.out⟩
  case round =>
    obtain ⟨k, m, hk, rfl, rfl, hm, hV⟩ := hrel
    have HR := Lib.hid hV
    clear hV HV
    by_cases h0 : 0 < k
    · obtain ⟨k, rfl⟩ : ∃ j, k = j + 1 := ⟨k - 1, by omega⟩
      have HN : Hid ((m / 2).testBit k = V) := Lib.hid ((Nat.testBit_succ m k).symm.trans HR.out)
      go_wp2_with fail
      go_round
      case rel => exact ⟨k, m / 2, by omega, by go_num, by go_num, by omega, HN.out⟩
      case measure => simp [intOf]
    · obtain rfl : k = 0 := by omega
      by_cases ho : m % 2 = 1
      · have HE : Hid (V = true) := Lib.hid (by rw [← HR.out]; exact bit_zero ho)
        have hb : ((m : Int) % 2 == 1) = true := by rw [beq_iff_eq]; omega
        clear ho HR
        go_wp2_with fail
        go_ret
        exact ⟨by rw [HE.out]; rfl, rfl⟩
      · have HE : Hid (V = false) := Lib.hid (by rw [← HR.out, Nat.testBit_zero]; exact decide_eq_false ho)
        have hb : ((m : Int) % 2 == 1) = false := by rw [beq_eq_false_iff_ne]; omega
        clear ho HR
        go_wp2_with fail
        go_ret
        exact ⟨by rw [HE.out]; rfl, rfl⟩

theorem full_bit (s i : Nat) (h : i < 32) : (full ^^^ s).testBit i = !(s.testBit i) := by
  rw [Nat.testBit_xor]
  have : full.testBit i = true := by
    rw [show full = 2 ^ 32 - 1 from rfl, Nat.testBit_two_pow_sub_one]; exact decide_eq_true h
  rw [this]; cases s.testBit i <;> rfl
theorem bit_high {R i : Nat} (h : R < 4294967296) (hi : 32 ≤ i) : R.testBit i = false :=
  Nat.testBit_lt_two_pow (Nat.lt_of_lt_of_le h (Nat.pow_le_pow_right (n := 2) (i := 32) (by omega) hi))

theorem info84 (f : Nat → Bool) : (Try.prog.info? 84).map (·.size) = some (rowF f).size := by rw [rowF_size]; kernel_rfl
theorem rowF_one (f : Nat → Bool) : (rowF f).all (·.oneCell') = true := by
  rw [Array.all_eq_true_iff_forall_mem]
  intro x hx
  obtain ⟨i, _, rfl⟩ := List.mem_map.1 (by simpa [rowF] using hx : x ∈ (List.range 32).map fun i => Value.bool (f i))
  rfl
theorem IsRow.over {w : World} {g : Nat} {f : Nat → Bool} (h : IsRow w g f) (f2 : Nat → Bool) : IsRow (w.setRow g (rowF f2)) g f2 := setRow_heap w g _ _ _ _ h
theorem below_row {B g : Nat} {w0 w : World} (hb : Below B w0 w) (hBg : B ≤ g) (cs : Array Value) : Below B w0 (w.setRow g cs) :=
  hb.trans ⟨rfl, rfl, rfl, by simp [World.setRow], fun k hk => setRow_other w g k cs (by omega)⟩
theorem IsRow.other {w : World} {g : Nat} {f : Nat → Bool} (h : IsRow w g f) {a : Addr} (ha : g ≠ a.block) (v : Value) : IsRow (w.setCell a v) g f := (heap_setCell_other w a g v ha).trans h

structure OfRel (w wr : World) (s k : Nat) : Prop where
  below : Below w.heap.size w wr
  out : IsRow wr w.heap.size (fun _ => false)
  row : IsRow wr (w.heap.size + 1) (fun j => if j < k then !(s.testBit j) else false)

set_option maxHeartbeats 400000 in
theorem of_any (s : Nat) (w : World) (hs : s < 4294967296) :
    Calls Try.prog 48 #[.int .u32 s] w fun e w' => e = .returned (.agg (rowF (full ^^^ s).testBit)) ∧ Below w.heap.size w w' := by
  have h1 : Hid (IsRow ((w.alloc (.cells (rowF fun _ => false) 84)).alloc (.cells (rowF fun _ => false) 84)) w.heap.size (fun _ => false)) := Lib.hid (heap_alloc2_old w _ _)
  have h2 : Hid (IsRow ((w.alloc (.cells (rowF fun _ => false) 84)).alloc (.cells (rowF fun _ => false) 84)) (w.heap.size + 1) (fun _ => false)) := Lib.hid (heap_alloc2_new w _ _)
  have h3 : Hid (Below w.heap.size w ((w.alloc (.cells (rowF fun _ => false) 84)).alloc (.cells (rowF fun _ => false) 84))) := Lib.hid (((Below.refl _ _).alloc (Nat.le_refl _) _).alloc (by simp) _)
  have hz : rowF (fun _ => false) = #[.bool false, .bool false, .bool false, .bool false, .bool false, .bool false, .bool false, .bool false, .bool false, .bool false, .bool false, .bool false, .bool false, .bool false, .bool false, .bool false, .bool false, .bool false, .bool false, .bool false, .bool false, .bool false, .bool false, .bool false, .bool false, .bool false, .bool false, .bool false, .bool false, .bool false, .bool false, .bool false] := rfl
  rw [hz] at h1 h2 h3
  clear hz
  go_enter Try.func48, Try.ntmps48
  go_wp2_with fail
  generalize (World.alloc (World.alloc _ _) _) = W at *
  have H0 : Hid (OfRel w W s 0) := Lib.hid ⟨h3.out, h1.out, h2.out⟩
  clear h1 h2 h3
  go_loopw [4] (fun iv wr => ∃ k : Nat, k ≤ 32 ∧ iv = .int .i64 (k : Int) ∧ OfRel w wr s k) (fun i _ => 32 - (intOf i).toNat)
  case atStart => exact ⟨0, by omega, by go_num, H0.out⟩
  case round =>
    obtain ⟨k, hk, rfl, hr⟩ := hrel
    have HR := Lib.hid hr
    clear hr H0
    by_cases hlt : k < 32
    · have hd : decide ((k : Int) < 32) = true := decide_eq_true (by omega)
      have hc := HR.out.row.cell k hlt
      have hf := HR.out.row.free k
      have HN : ∀ v : Bool, v = s.testBit k → Hid (OfRel w (wr.setCell ⟨w.heap.size + 1, k, none⟩ (.bool !v)) s (k + 1)) := fun v hv => Lib.hid
        ⟨HR.out.below.setCell (by show w.heap.size ≤ w.heap.size + 1; omega) _, HR.out.out.other (by show w.heap.size ≠ w.heap.size + 1; omega) _, HR.out.row.put k (!v) (fun j hj => by
          by_cases e : j = k
          · subst e; rw [if_pos rfl, if_pos (by omega), hv]
          · rw [if_neg e]
            by_cases h : j < k
            · rw [if_pos h, if_pos (by omega)]
            · rw [if_neg h, if_neg (by omega)])⟩
      have HNN := Lib.hid HN
      clear HN
      obtain ⟨v, hv⟩ : ∃ v, Hid (s.testBit k = v) := ⟨_, rfl⟩
      have HN := HNN.out v (hv.out).symm
      clear HNN
      generalize (if k < k then !(s.testBit k) else false) = x0 at *
      go_wp2_with fail
      refine (bit_any s k _ hs (by omega)).mono ?_
      rintro e w3 ⟨rfl, rfl⟩
      rw [hv.out]
      go_wp2_with fail
      go_roundw
      case rel => exact ⟨k + 1, by omega, by go_num, HN.out⟩
      case measure => simp [intOf]; omega
    · have hd : decide ((k : Int) < 32) = false := decide_eq_false (by omega)
      obtain rfl : k = 32 := by omega
      have HX : Hid (IsRow wr (w.heap.size + 1) (full ^^^ s).testBit) := Lib.hid (by
        have h := HR.out.row
        unfold IsRow at h ⊢
        rw [h, rowF_ext (fun i hi => ?_)]
        show (if i < 32 then _ else _) = _
        rw [if_pos hi, full_bit s i hi])
      have HO := Lib.hid HR.out.out
      have HB := Lib.hid HR.out.below
      clear HR
      generalize hF : (full ^^^ s).testBit = F at *
      have HF := Lib.hid hF
      clear hF
      have KI := Lib.hid (info84 F)
      have K1 := Lib.hid (rowF_one F)
      have KS : Hid ((rowF fun _ => false).size = (rowF F).size) := Lib.hid (by rw [rowF_size, rowF_size])
      go_wp2_with (first
        | (refine wpList_load_row rfl 84 (.tmp 3) rfl (w.heap.size + 1) rfl 84 (rowF F) (0, 0) _ HX.out Try.underlying84 rfl KI.out ?_)
        | (refine wpList_store_row rfl 84 (.tmp 2) (.tmp 15) rfl w.heap.size (rowF F) rfl rfl 84 (rowF fun _ => false) HO.out KI.out KS.out K1.out ?_))
      have HY := Lib.hid (HO.out.over F)
      have HZ := Lib.hid (below_row HB.out (Nat.le_refl _) (rowF F))
      refine bodyPost_ret (v := .agg (rowF F)) ?_ rfl ⟨by rw [HF.out], HZ.out⟩
      exact results_cell_row Try.results48 _ _ w.heap.size 84 (rowF F) (0, 0) _ rfl HY.out Try.underlying84 rfl KI.out

theorem half_bit (X i : Nat) : X / 2 ^ i = 2 * (X / 2 ^ (i + 1)) + (X.testBit i).toNat := by
  rw [Nat.pow_succ, ← Nat.div_div_eq_div_mul, Nat.testBit_eq_decide_div_mod_eq]
  have := Nat.div_add_mod (X / 2 ^ i) 2
  by_cases h : X / 2 ^ i % 2 = 1
  · simp [h]; omega
  · simp [h]; omega
theorem half_lt {X : Nat} (h : X < 4294967296) (i : Nat) : X / 2 ^ (i + 1) < 2147483648 := by
  rw [Nat.pow_succ, Nat.mul_comm, ← Nat.div_div_eq_div_mul]
  exact Nat.lt_of_le_of_lt (Nat.div_le_self _ _) (by omega)

set_option maxHeartbeats 400000 in
theorem number_any (R : Nat) (w : World) (hs : R < 4294967296) :
    Calls Try.prog 50 #[.agg (rowF R.testBit)] w fun e w' => e = .returned (.int .u32 (full ^^^ R : Nat)) ∧ Below w.heap.size w w' := by
  have hX : full ^^^ R < 4294967296 := xor_lt (by decide) hs
  have HF : Hid (∀ i, i < 32 → (full ^^^ R).testBit i = !(R.testBit i)) := Lib.hid fun i hi => full_bit R i hi
  have H1 : Hid (IsRow (w.alloc (.cells (rowF R.testBit) 84)) w.heap.size R.testBit) := Lib.hid (heap_alloc_new w _)
  have H2 : Hid (Below w.heap.size w (w.alloc (.cells (rowF R.testBit) 84))) := Lib.hid ((Below.refl _ _).alloc (Nat.le_refl _) _)
  generalize full ^^^ R = X at *
  generalize R.testBit = F at *
  go_enter Try.func50, Try.ntmps50
  go_wp2_with fail
  generalize (w.alloc (.cells (rowF F) 84)) = W at *
  go_loop [3, 4] (fun nv iv => ∃ k m : Nat, k ≤ 32 ∧ iv = .int .i64 ((k : Int) - 1) ∧ nv = .int .u32 (m : Int) ∧ X / 2 ^ k = m) (fun _ i => (intOf i + 1).toNat)
  case atStart => exact ⟨32, 0, by omega, rfl, rfl, Nat.div_eq_of_lt (by omega)⟩
  case round =>
    obtain ⟨k, m, hk, rfl, rfl, hV⟩ := hrel
    have HV := Lib.hid hV
    clear hV
    by_cases h0 : 0 < k
    · obtain ⟨k, rfl⟩ : ∃ j, k = j + 1 := ⟨k - 1, by omega⟩
      have hc := H1.out.cell k (by omega)
      have hml : m < 2147483648 := by rw [← HV.out]; exact half_lt hX k
      have hb := HF.out k (by omega)
      have hh := half_bit X k
      rw [HV.out, hb] at hh
      cases hfk : F k with
      | false =>
        rw [hfk] at hh hc
        have HN : Hid (X / 2 ^ k = 2 * m + 1) := Lib.hid hh
        clear hh hb hfk
        go_wp2_with fail
        go_round
        case rel => exact ⟨k, 2 * m + 1, by omega, by go_num, by go_num, HN.out⟩
        case measure => simp [intOf]
      | true =>
        rw [hfk] at hh hc
        have HN : Hid (X / 2 ^ k = 2 * m) := Lib.hid hh
        clear hh hb hfk
        go_wp2_with fail
        go_round
        case rel => exact ⟨k, 2 * m, by omega, by go_num, by go_num, HN.out⟩
        case measure => simp [intOf]
    · obtain rfl : k = 0 := by omega
      have HE : Hid (m = X) := Lib.hid (by rw [← HV.out, Nat.pow_zero, Nat.div_one])
      clear HV
      go_wp2_with fail
      go_ret
      exact ⟨ret_u32 HE.out, H2.out⟩
end Go.Proofs.Ytnjlhallkgacjaa
