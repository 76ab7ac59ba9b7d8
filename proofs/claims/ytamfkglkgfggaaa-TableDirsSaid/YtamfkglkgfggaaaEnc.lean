/- What Encode returns. -/
import Derived.Test.YtamfkglkgfggaaaDir0
import Derived.Laws.CopyOwn
set_option linter.unusedSimpArgs false
namespace Go.Proofs.Ytamfkglkgfggaaa
open Go.RowKit

theorem spl1 (A : List Nat) (h : A.length = 16) : splice (u8s (List.replicate 512 0)) 0 (u8s A) = u8s (A ++ List.replicate 496 0) := by
  unfold splice
  rw [List.take_zero, List.nil_append, u8s_len, h, Nat.zero_add, u8s_drop, ← u8s_append, List.drop_replicate]
theorem spl2 (A R : List Nat) (h : A.length = 16) (hr : R.length = 64) : splice (u8s (A ++ List.replicate 496 0)) 16 (u8s R) = u8s (A ++ R ++ List.replicate 432 0) := by
  unfold splice
  rw [u8s_take, List.take_append_of_le_length (by omega), List.take_of_length_le (by omega), u8s_len, hr, u8s_drop, List.drop_append, List.drop_of_length_le (by omega), List.nil_append, h, List.drop_replicate, ← u8s_append, ← u8s_append, List.append_assoc]
theorem run_index48 (cs : Array Value) (k : Nat) (v : Value) (w : World) (hk : k < 4) (hv : cs[k]? = some v) : (Instr.index 48 (.agg cs) (.int .i64 (k : Int))).run Try.prog w = .ok v w := by
  have hu := Try.underlying48
  have hp := run_part3 cs k v w hv
  obtain ⟨i0, hi, hz0, hz1, hz2⟩ := info_parts Try.info3
  have hs : (sizeOf 3).run Try.prog w = .ok 1 w := by simp [sizeOf, typeInfo, hi, hz1]
  have ha : (asIntOf (.int .i64 (k : Int))).run Try.prog w = .ok (.i64, (k : Int)) w := by simp [asIntOf]
  have hc : (0 : Int) ≤ (k : Int) ∧ (k : Int) < ((4 : Nat) : Int) := ⟨by omega, by omega⟩
  unfold Instr.index
  simp only [Sem.run_bind, ha, Result.andThen_ok, run_underlying hu w, if_pos hc, hs, Int.toNat_natCast, hp]
theorem wpList_index48 {ops : Array Oper} {rest : List Oper} {o : Oper} {a : Act} {w : World} {Q : Exit → Act → World → Prop} (hgd : o.guard = none) (x y : Operand) (ho : o.op = .index 48 x y)
    (cs : Array Value) (k : Nat) (v : Value) (hx : a.eval x = .agg cs) (hy : a.eval y = .int .i64 (k : Int)) (hk : k < 4) (hv : cs[k]? = some v) (h : wpList Try.prog ops Q rest (a.put o.dst v) w) : wpList Try.prog ops Q (o :: rest) a w :=
  wpList_plain hgd fun _ hK => by
    unfold Oper.wp execOp
    simp only [ho, hx, hy, Sem.run_bind, run_index48 cs k v w hk hv, Result.andThen_ok, Sem.run_pure]
    exact hK _ _ h
theorem size_nil (w : World) : Calls Try.prog 46 #[.pointer none] w fun e w' => e = .returned (.int .i64 0) ∧ w = w' := by
  go_enter Try.func46, Try.ntmps46
  go_wp2_with fail
  go_ret
  exact ⟨rfl, rfl⟩
def okN (x y z u : Int) : Nat → Bool
  | 0 => mayI x
  | 1 => mayI y
  | 2 => mayI z
  | 3 => mayI u
  | _ => true
theorem okN_all {x y z u : Int} (h : ∀ j, j < 4 → okN x y z u j = true) : okL x y z u = true := by
  have h0 := h 0 (by omega); have h1 := h 1 (by omega); have h2 := h 2 (by omega); have h3 := h 3 (by omega)
  have g0 : mayI x = true := h0
  have g1 : mayI y = true := h1
  have g2 : mayI z = true := h2
  have g3 : mayI u = true := h3
  unfold okL
  rw [g0, g1, g2, g3]; rfl
theorem enc_nil (x y z u : Int) (w : World) : Calls Try.prog 22 #[.agg #[.int .i64 x, .int .i64 y, .int .i64 z, .int .i64 u, .pointer none]] w fun e w' => e = .returned (.tuple #[.slice none 0 0, .int .i64 1]) ∧ Below w.heap.size w w' := by
  have HB : Hid (Below w.heap.size w (w.alloc (.cells #[.int .i64 x, .int .i64 y, .int .i64 z, .int .i64 u, .pointer none] 60))) := Lib.hid ((Below.refl _ _).alloc (Nat.le_refl _) _)
  go_enter Try.func22, Try.ntmps22
  go_wp2_with (go_at_call 46; refine (size_nil _).mono ?_; rintro e w7 ⟨rfl, rfl⟩)
  go_ret2
  exact ⟨rfl, HB.out⟩
set_option maxRecDepth 100000 in
set_option maxHeartbeats 1600000 in
theorem enc_any (x y z u : Int) (gs bs : Nat) (f : Nat → Bool) (w : World) (hS : Sat w gs bs 512 f) :
    Calls Try.prog 22 #[.agg #[.int .i64 x, .int .i64 y, .int .i64 z, .int .i64 u, .pointer (some ⟨gs, 0, none⟩)]] w fun e w' =>
      ((okL x y z u = true ∧ ∃ p c, e = .returned (.tuple #[.slice p 512 c, .int .i64 0]) ∧ Bys w' p 512 (dirB x y z u f) ∧ 512 ≤ c ∧ c ≤ 9223372036854775807) ∨ (okL x y z u = false ∧ e = .returned (.tuple #[.slice none 0 0, .int .i64 1]))) ∧ Below w.heap.size w w' := by
  have HB0 : Hid (Below w.heap.size w (w.alloc (.cells #[.int .i64 x, .int .i64 y, .int .i64 z, .int .i64 u, .pointer (some ⟨gs, 0, none⟩)] 60))) := Lib.hid ((Below.refl _ _).alloc (Nat.le_refl _) _)
  have HDB := heap_alloc_new w (.cells #[.int .i64 x, .int .i64 y, .int .i64 z, .int .i64 u, .pointer (some ⟨gs, 0, none⟩)] 60)
  have HD := Lib.hid HDB
  have HSZ : Hid ((w.alloc (.cells #[.int .i64 x, .int .i64 y, .int .i64 z, .int .i64 u, .pointer (some ⟨gs, 0, none⟩)] 60)).heap.size = w.heap.size + 1) := Lib.hid (by simp)
  have k0 : (w.alloc (.cells #[.int .i64 x, .int .i64 y, .int .i64 z, .int .i64 u, .pointer (some ⟨gs, 0, none⟩)] 60)).cell? ⟨w.heap.size, 0, none⟩ = some (.int .i64 x) := by rw [cell_of_row _ _ _ _ _ _ HDB]; rfl
  have k1 : (w.alloc (.cells #[.int .i64 x, .int .i64 y, .int .i64 z, .int .i64 u, .pointer (some ⟨gs, 0, none⟩)] 60)).cell? ⟨w.heap.size, 1, none⟩ = some (.int .i64 y) := by rw [cell_of_row _ _ _ _ _ _ HDB]; rfl
  have k2 : (w.alloc (.cells #[.int .i64 x, .int .i64 y, .int .i64 z, .int .i64 u, .pointer (some ⟨gs, 0, none⟩)] 60)).cell? ⟨w.heap.size, 2, none⟩ = some (.int .i64 z) := by rw [cell_of_row _ _ _ _ _ _ HDB]; rfl
  have k3 : (w.alloc (.cells #[.int .i64 x, .int .i64 y, .int .i64 z, .int .i64 u, .pointer (some ⟨gs, 0, none⟩)] 60)).cell? ⟨w.heap.size, 3, none⟩ = some (.int .i64 u) := by rw [cell_of_row _ _ _ _ _ _ HDB]; rfl
  have k4 : (w.alloc (.cells #[.int .i64 x, .int .i64 y, .int .i64 z, .int .i64 u, .pointer (some ⟨gs, 0, none⟩)] 60)).cell? ⟨w.heap.size, 4, none⟩ = some (.pointer (some ⟨gs, 0, none⟩)) := by rw [cell_of_row _ _ _ _ _ _ HDB]; rfl
  have HS := Lib.hid (hS.below HB0.out)
  have HSize := Lib.hid (size_any HS.out)
  clear hS HDB
  go_enter Try.func22, Try.ntmps22
  go_upto_region 1 with fail
  generalize w.alloc _ = W at *
  go_wp2_with (go_at_call 46; refine HSize.out.mono ?_; rintro e w7 ⟨rfl, rfl⟩)
  go_loop [13] (fun iv => ∃ i : Nat, i ≤ 4 ∧ iv = .int .i64 (i : Int) ∧ ∀ j, j < i → okN x y z u j = true) (fun iv => 4 - (intOf iv).toNat)
  case atStart => exact ⟨0, by omega, by go_num, fun j hj => absurd hj (Nat.not_lt_zero j)⟩
  case round =>
    obtain ⟨i, hi, rfl, hok⟩ := hrel
    rcases (show i = 0 ∨ i = 1 ∨ i = 2 ∨ i = 3 ∨ i = 4 by omega) with rfl | rfl | rfl | rfl | rfl
    · have hd : decide ((0 : Int) < 4) = true := rfl
      cases hm : mayI x with
      | false =>
        have HO : Hid (okL x y z u = false) := Lib.hid (by unfold okL; rw [hm]; simp)
        have HMA := Lib.hid (fun w => may_any7 x w)
        rw [hm] at HMA
        clear hm hok
        go_wp2_with (first
          | (go_at_call 47; refine (HMA.out _).mono ?_; rintro e w7 ⟨rfl, rfl⟩)
          | (refine wpList_index48 rfl (.tmp 12) (.tmp 13) rfl _ 0 _ rfl rfl (by decide) rfl ?_))
        go_ret2
        exact ⟨.inr ⟨HO.out, rfl⟩, HB0.out⟩
      | true =>
        have HMA := Lib.hid (fun w => may_any7 x w)
        have HO : Hid (∀ j, j < 1 → okN x y z u j = true) := Lib.hid fun j hj => by
          by_cases e : j = 0
          · subst e; exact hm
          · exact hok j (by omega)
        rw [hm] at HMA
        clear hm hok
        go_wp2_with (first
          | (go_at_call 47; refine (HMA.out _).mono ?_; rintro e w7 ⟨rfl, rfl⟩)
          | (refine wpList_index48 rfl (.tmp 12) (.tmp 13) rfl _ 0 _ rfl rfl (by decide) rfl ?_))
        go_round
        case rel => exact ⟨1, by omega, by go_num, HO.out⟩
        case measure => simp [intOf]
    · have hd : decide ((1 : Int) < 4) = true := rfl
      cases hm : mayI y with
      | false =>
        have HO : Hid (okL x y z u = false) := Lib.hid (by unfold okL; rw [hm]; simp)
        have HMA := Lib.hid (fun w => may_any7 y w)
        rw [hm] at HMA
        clear hm hok
        go_wp2_with (first
          | (go_at_call 47; refine (HMA.out _).mono ?_; rintro e w7 ⟨rfl, rfl⟩)
          | (refine wpList_index48 rfl (.tmp 12) (.tmp 13) rfl _ 1 _ rfl rfl (by decide) rfl ?_))
        go_ret2
        exact ⟨.inr ⟨HO.out, rfl⟩, HB0.out⟩
      | true =>
        have HMA := Lib.hid (fun w => may_any7 y w)
        have HO : Hid (∀ j, j < 2 → okN x y z u j = true) := Lib.hid fun j hj => by
          by_cases e : j = 1
          · subst e; exact hm
          · exact hok j (by omega)
        rw [hm] at HMA
        clear hm hok
        go_wp2_with (first
          | (go_at_call 47; refine (HMA.out _).mono ?_; rintro e w7 ⟨rfl, rfl⟩)
          | (refine wpList_index48 rfl (.tmp 12) (.tmp 13) rfl _ 1 _ rfl rfl (by decide) rfl ?_))
        go_round
        case rel => exact ⟨2, by omega, by go_num, HO.out⟩
        case measure => simp [intOf]
    · have hd : decide ((2 : Int) < 4) = true := rfl
      cases hm : mayI z with
      | false =>
        have HO : Hid (okL x y z u = false) := Lib.hid (by unfold okL; rw [hm]; simp)
        have HMA := Lib.hid (fun w => may_any7 z w)
        rw [hm] at HMA
        clear hm hok
        go_wp2_with (first
          | (go_at_call 47; refine (HMA.out _).mono ?_; rintro e w7 ⟨rfl, rfl⟩)
          | (refine wpList_index48 rfl (.tmp 12) (.tmp 13) rfl _ 2 _ rfl rfl (by decide) rfl ?_))
        go_ret2
        exact ⟨.inr ⟨HO.out, rfl⟩, HB0.out⟩
      | true =>
        have HMA := Lib.hid (fun w => may_any7 z w)
        have HO : Hid (∀ j, j < 3 → okN x y z u j = true) := Lib.hid fun j hj => by
          by_cases e : j = 2
          · subst e; exact hm
          · exact hok j (by omega)
        rw [hm] at HMA
        clear hm hok
        go_wp2_with (first
          | (go_at_call 47; refine (HMA.out _).mono ?_; rintro e w7 ⟨rfl, rfl⟩)
          | (refine wpList_index48 rfl (.tmp 12) (.tmp 13) rfl _ 2 _ rfl rfl (by decide) rfl ?_))
        go_round
        case rel => exact ⟨3, by omega, by go_num, HO.out⟩
        case measure => simp [intOf]
    · have hd : decide ((3 : Int) < 4) = true := rfl
      cases hm : mayI u with
      | false =>
        have HO : Hid (okL x y z u = false) := Lib.hid (by unfold okL; rw [hm]; simp)
        have HMA := Lib.hid (fun w => may_any7 u w)
        rw [hm] at HMA
        clear hm hok
        go_wp2_with (first
          | (go_at_call 47; refine (HMA.out _).mono ?_; rintro e w7 ⟨rfl, rfl⟩)
          | (refine wpList_index48 rfl (.tmp 12) (.tmp 13) rfl _ 3 _ rfl rfl (by decide) rfl ?_))
        go_ret2
        exact ⟨.inr ⟨HO.out, rfl⟩, HB0.out⟩
      | true =>
        have HMA := Lib.hid (fun w => may_any7 u w)
        have HO : Hid (∀ j, j < 4 → okN x y z u j = true) := Lib.hid fun j hj => by
          by_cases e : j = 3
          · subst e; exact hm
          · exact hok j (by omega)
        rw [hm] at HMA
        clear hm hok
        go_wp2_with (first
          | (go_at_call 47; refine (HMA.out _).mono ?_; rintro e w7 ⟨rfl, rfl⟩)
          | (refine wpList_index48 rfl (.tmp 12) (.tmp 13) rfl _ 3 _ rfl rfl (by decide) rfl ?_))
        go_round
        case rel => exact ⟨4, by omega, by go_num, HO.out⟩
        case measure => simp [intOf]
    · have HO := Lib.hid (okN_all hok)
      clear hok hi
      have hd : decide ((4 : Int) < 4) = false := rfl
      have HLV := Lib.hid (lvF_lt HO.out)
      obtain ⟨Z0, HZ0⟩ : ∃ Z0, Hid (Z0 = List.replicate 512 0) := ⟨_, Lib.hid rfl⟩
      obtain ⟨hx, hy, hzz, hu⟩ := okL_nat HO.out
      obtain ⟨i0, hi, hz0, hz1, hz2⟩ := info_parts Try.info5
      have hmk : ∀ w : World, (Instr.makeSlice 35 (.int .i64 512) (.int .i64 512)).run Try.prog w = .ok (.slice (some ⟨w.heap.size, 0, none⟩) 512 512) (w.alloc (.cells (u8s Z0).toArray 5)) := fun w => by
        have h := run_make (P := Try.prog) w 35 5 i0 _ Try.underlying35 hi hz0 .i64 .i64 ((512 : Nat) : Int) ((512 : Nat) : Int) (by omega) (by omega) (by rw [hz2]; omega) (by omega)
        rw [hz1, Int.toNat_natCast, Nat.mul_one] at h
        rw [HZ0.out, ← zeros_of 512, Array.toArray_toList]
        exact h
      have hl0 : (Try.prog.info? 5).map (·.size) = some 1 := by kernel_rfl
      have HP := Lib.hid hl0
      have HW1 : Hid (Below W.heap.size W (W.alloc (.cells (u8s Z0).toArray 5))) := Lib.hid ((Below.refl _ _).alloc (Nat.le_refl _) _)
      have HH1 : Hid ((W.alloc (.cells (u8s Z0).toArray 5)).heap[W.heap.size]? = some (.cells (u8s Z0).toArray 5 (0, 0))) := Lib.hid (heap_alloc_new W _)
      have HDW : Hid (w.heap.size < W.heap.size) := Lib.hid (by rw [HSZ.out]; omega)
      have HLay := Lib.hid (lay_any w.heap.size 0 4 4 (lvF x y z u) (W.alloc (.cells (u8s Z0).toArray 5)) (by omega) HLV.out (fun j hj => by
        have e : ∀ t : Int, 0 ≤ t → ((t.toNat : Nat) : Int) = t := fun t ht => Int.toNat_of_nonneg ht
        rw [Nat.zero_add]
        refine (HW1.out.cell (p := ⟨w.heap.size, j, none⟩) HDW.out).trans ?_
        rcases (show j = 0 ∨ j = 1 ∨ j = 2 ∨ j = 3 by omega) with rfl | rfl | rfl | rfl
        · rw [k0]; show some (Value.int .i64 x) = some (.int .i64 ((x.toNat : Nat) : Int)); rw [e x hx.1]
        · rw [k1]; show some (Value.int .i64 y) = some (.int .i64 ((y.toNat : Nat) : Int)); rw [e y hy.1]
        · rw [k2]; show some (Value.int .i64 z) = some (.int .i64 ((z.toNat : Nat) : Int)); rw [e z hzz.1]
        · rw [k3]; show some (Value.int .i64 u) = some (.int .i64 ((u.toNat : Nat) : Int)); rw [e u hu.1]))
      have HK4 := Lib.hid k4
      clear hi hz0 hz1 hz2 hl0 hx hy hzz hu k0 k1 k2 k3 k4 HD HSize HSZ
      go_upto_region 10 with fail
      generalize W.alloc _ = W1 at *
      have HB2 : Hid (Below w.heap.size w W1) := Lib.hid (HB0.out.trans (HW1.out.mono HB0.out.size))
      have HL16 : Hid ((u8s (fours (lvF x y z u) 4)).length = 16) := Lib.hid (by rw [u8s_len, fours_len])
      have HL512 : Hid ((u8s Z0).length = 512) := Lib.hid (by rw [HZ0.out, u8s_len, List.length_replicate])
      go_upto_region 11 with (first
        | (go_at_call 35; refine HLay.out.mono ?_; rintro e w2 ⟨⟨p1, c1, rfl, hB1, hc1, hd1⟩, hb2⟩)
        | (refine wpList_copy_splice (w := w2) rfl (.tmp 21) (.tmp 24) 35 35 rfl 5 Try.underlying35 HP.out (some ⟨W.heap.size, 0, none⟩) p1 512 512 (4 * 4) c1 rfl rfl W.heap.size 0 (u8s Z0) 5 ((hb2.block W.heap.size (lt_of_block HH1.out)).trans HH1.out) (u8s (fours (lvF x y z u) 4)) (by rw [HL16.out]; rfl)
            (fun h => ⟨rfl, hB1.cells (by omega)⟩) (by rw [HL16.out, HL512.out]; omega) (u8s_one _) W.heap.size w2 (Below.refl _ _) (Nat.le_refl _) ?_; intro w3 hh3 hb3))
      have HW3 : Hid (Below W.heap.size W w3) := Lib.hid ((HW1.out.trans (hb2.mono HW1.out.size)).trans hb3)
      have HH3 : Hid (w3.heap[W.heap.size]? = some (.cells (u8s (fours (lvF x y z u) 4 ++ List.replicate 496 0)).toArray 5 (0, 0))) := Lib.hid (by
        have h := hh3.out
        rwa [HZ0.out, spl1 _ (fours_len _ _)] at h)
      have HC3 : Hid (w3.cell? ⟨w.heap.size, 4, none⟩ = some (.pointer (some ⟨gs, 0, none⟩))) := Lib.hid ((HW3.out.cell (p := ⟨w.heap.size, 4, none⟩) HDW.out).trans HK4.out)
      have HS3 := Lib.hid (HS.out.below HW3.out)
      have HBt : Hid (∀ w', Sat w' gs bs 512 f → Calls Try.prog 26 #[.pointer (some ⟨gs, 0, none⟩)] w' fun e w'' => (∃ p c, e = .returned (.slice p 64 c) ∧ Bys w'' p 64 (rowF f 64)) ∧ Below w'.heap.size w' w'') := Lib.hid fun w' h => bytes_any h
      have HL3 : Hid ((u8s (fours (lvF x y z u) 4 ++ List.replicate 496 0)).length = 512) := Lib.hid (by rw [u8s_len, List.length_append, fours_len, List.length_replicate])
      have HL64 : Hid ((u8s (rowF f 64)).length = 64) := Lib.hid (by rw [u8s_len, rowF_len])
      clear hh3 hb3 hb2 hB1 hc1 hd1 HLay hmk
      have HCU : Hid (splice (u8s (fours (lvF x y z u) 4 ++ List.replicate 496 0)) 16 (u8s (rowF f 64)) = u8s (dirB x y z u f)) := Lib.hid (spl2 _ _ (fours_len _ _) (rowF_len _ _))
      generalize u8s (fours (lvF x y z u) 4 ++ List.replicate 496 0) = CU at *
      refine wp_region_held_drew (S := fun w' => w'.cell? ⟨w.heap.size, 4, none⟩ = some (.pointer (some ⟨gs, 0, none⟩))) (by kernel_rfl) HC3.out (fun hS => ?_)
      try simp only [List.getElem_toArray, List.getElem_cons_succ, List.getElem_cons_zero, Act.put, List.setIfInBounds_toArray, List.set_cons_succ, List.set_cons_zero]
      refine wpAnyH_take (i := 0) (v := .slice (some ⟨W.heap.size, 0, none⟩) 512 512) rfl (by kernel_rfl) (by kernel_rfl) (by kernel_rfl) (fun _ _ _ h => h) (Or.inl ⟨by rfl, fun w' hw => by go_simp⟩) hS ?_
      try simp only [List.getElem_toArray, List.getElem_cons_succ, List.getElem_cons_zero, Act.put, List.setIfInBounds_toArray, List.set_cons_succ, List.set_cons_zero]
      refine wpAnyH_take (i := 1) (v := .slice (some ⟨W.heap.size, 16, none⟩) 496 496) rfl (by kernel_rfl) (by kernel_rfl) (by kernel_rfl) (fun _ _ _ h => h) (Or.inl ⟨by rfl, fun w' hw => by go_simp⟩) hS ?_
      try simp only [List.getElem_toArray, List.getElem_cons_succ, List.getElem_cons_zero, Act.put, List.setIfInBounds_toArray, List.set_cons_succ, List.set_cons_zero]
      refine wpAnyH_take (i := 2) (v := .pointer (some ⟨w.heap.size, 4, none⟩)) rfl (by kernel_rfl) (by kernel_rfl) (by kernel_rfl) (fun _ _ _ h => h) (Or.inl ⟨by rfl, fun w' hw => by go_simp⟩) hS ?_
      try simp only [List.getElem_toArray, List.getElem_cons_succ, List.getElem_cons_zero, Act.put, List.setIfInBounds_toArray, List.set_cons_succ, List.set_cons_zero]
      refine wpAnyH_take (i := 3) (v := .pointer (some ⟨gs, 0, none⟩)) rfl (by kernel_rfl) (by kernel_rfl) (by kernel_rfl) (fun _ _ _ h => h) (Or.inl ⟨by rfl, fun w' hw => by go_simp⟩) hS ?_
      try simp only [List.getElem_toArray, List.getElem_cons_succ, List.getElem_cons_zero, Act.put, List.setIfInBounds_toArray, List.set_cons_succ, List.set_cons_zero]
      refine wpAnyH_ready (rs := [4]) (by kernel_rfl) (by simp) ?_
      refine AllReadyH.cons rfl (fun K hK => ?_) AllReadyH.nil
      rw [if_pos (by rfl)]
      try simp only [List.getElem_toArray, List.getElem_cons_succ, List.getElem_cons_zero, Act.put, List.setIfInBounds_toArray, List.set_cons_succ, List.set_cons_zero]
      go_simp
      go_at_call 26
      refine (HBt.out _ HS3.out.drew).mono ?_
      rintro e w5 ⟨⟨p2, c2, rfl, hB2⟩, hb5⟩
      refine hK.out _ _ ((hb5.cell (p := ⟨w.heap.size, 4, none⟩) (World.block_lt_of_cell? w3 _ HC3.out)).trans hS) (fun hS5 => ?_)
      clear hK K
      refine wpAnyH_ready (rs := [5]) (by kernel_rfl) (by simp) ?_
      refine AllReadyH.cons rfl (fun K hK => ?_) AllReadyH.nil
      refine step_copy_splice rfl (.tmp 27) (.tmp 30) 35 35 rfl 5 Try.underlying35 HP.out (some ⟨W.heap.size, 16, none⟩) p2 496 496 64 c2 rfl rfl W.heap.size 16 CU 5 ((hb5.block W.heap.size (lt_of_block HH3.out)).trans HH3.out) (u8s (rowF f 64)) (by rw [HL64.out]; rfl)
        (fun h => ⟨rfl, hB2.cells (by omega)⟩) (by rw [HL64.out, HL3.out]; omega) (u8s_one _) W.heap.size w5 (Below.refl _ _) (Nat.le_refl _) ?_
      intro w6 hh6 hb6
      have HH6 := Lib.hid hh6.out
      rw [HCU.out] at HH6
      refine hK.out _ _ ((hb6.cell (p := ⟨w.heap.size, 4, none⟩) HDW.out).trans hS5) (fun _ => ?_)
      clear hK K hh6
      refine wpAnyH_done (by kernel_rfl) ?_ _
      have HBF : Hid (Below w.heap.size w w6) := Lib.hid ((((HB0.out.trans (HW3.out.mono HB0.out.size)).drew).trans (hb5.mono (by have := HB0.out.size; have := HW3.out.size; show w.heap.size ≤ w3.heap.size; omega))).trans (hb6.mono (by have := HDW.out; omega)))
      clear hb5 hb6 hB2
      go_wp2_with fail
      go_ret2
      refine ⟨.inl ⟨HO.out, _, _, rfl, ⟨dirB_len _ _ _ _ _, dirB_dig HO.out f, fun _ => ⟨W.heap.size, 0, rfl, fun j hj => ?_⟩⟩, by omega, by omega⟩, HBF.out⟩
      rw [cell_of_row _ _ _ _ _ _ HH6.out, Nat.zero_add, ← Array.getElem?_toList]
      exact u8s_get _ _ (by rw [dirB_len]; exact hj)
end Go.Proofs.Ytamfkglkgfggaaa
