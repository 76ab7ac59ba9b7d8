/- A leaf's bytes, and bytes loaded: the walk of the law. -/
import Derived.Test.YtamfkglkgfggaaaRLoad
set_option linter.unusedSimpArgs false
namespace Go.Proofs.Ytamfkglkgfggaaa
open Go.ChangeShapes Go.WideShapes Go.ChangeAt Go.RowKit

theorem wpList_load_rowG {P : Program} {ops : Array Oper} {rest : List Oper} {o : Oper} {a : Act} {w : World} {Q : Exit → Act → World → Prop} (hgd : Region.wanted o (yielded ops a.tmps) = true) (ty : TypeId) (x : Operand) (ho : o.op = .load ty x)
    (g : Nat) (hx : a.eval x = .pointer (some ⟨g, 0, none⟩)) (t : TypeId) (cs : Array Value) (fr : Nat × Nat) (d : TypeDesc) (hg : w.heap[g]? = some (.cells cs t fr))
    (hu : P.underlying ty = some d) (hd : (match d with | .struct _ | .array _ _ => true | _ => false) = true) (hi : (P.info? ty).map (·.size) = some cs.size)
    (h : wpList P ops Q rest (a.put o.dst (.agg cs)) w) : wpList P ops Q (o :: rest) a w :=
  BigFrame.wpList_want hgd fun _ hK => wp_load_row ty x ho g hx t cs fr d hg hu hd hi (hK _ _ h)
theorem zeros_bys (w : World) : Bys (w.alloc (.cells (madeCells #[Value.int .u8 0] 512) 5)) (some ⟨w.heap.size, 0, none⟩) 512 (fours (fun _ => 0) 128) := by
  rw [fours_zero]
  refine ⟨by rw [List.length_replicate], by intro x hx; rw [List.mem_replicate] at hx; omega, fun _ => ⟨w.heap.size, 0, rfl, fun j hj => ?_⟩⟩
  rw [cell_of_row _ _ _ _ _ _ (heap_alloc_new w _), Nat.zero_add, ← Array.getElem?_toList]
  have h := zeros_of 512
  rw [h, u8s_get _ _ (by rw [List.length_replicate]; omega)]
theorem bare_eq (f : Nat → Nat) (i : Nat) : decide (fours (leafF f i) 128 = fours (fun _ => 0) 128) = bareB f i := by
  unfold bareB sameN
  exact decide_eq_decide.2 ⟨fun h j hj => fours_inj h j hj, fun h => fours_congr h⟩
/-- Behind the leaf's checks. -/
structure Lv (w wx : World) (g gx : Nat) (f : Nat → Nat) : Prop where
  tab : Tab wx g f
  row : IsT wx gx 25 f 512
  ne : gx ≠ g
  l1 : w.heap.size ≤ g
  bel : Below w.heap.size w wx
theorem Lv.below {w wx wy : World} {g gx : Nat} {f : Nat → Nat} (h : Lv w wx g gx f) (hb : Below wx.heap.size wx wy) : Lv w wy g gx f :=
  ⟨h.tab.below hb, h.row.below hb, h.ne, h.l1, h.bel.trans (hb.mono h.bel.size)⟩
set_option maxRecDepth 100000 in
set_option maxHeartbeats 2400000 in
theorem leaves_walk (p1 : Option Addr) (n1 c1 : Nat) (f1 : Nat → Op3) (x : Int) (p : Option Addr) (n c : Nat) (bs : List Nat) (w : World) (hn1 : n1 ≤ 9223372036854775807) (hO1 : OpsIn w p1 n1 f1) (_ : -9223372036854775808 ≤ x) (_ : x ≤ 9223372036854775807) (hB : Bys w p n bs) (hFt : Fit p n c) (hc : c ≤ 140737488351232) :
    Calls Try.prog 4 #[.slice p1 n1 c1, .int .i64 x, .slice p n c] w fun e w' => e = .returned (.bool true) ∧ Below w.heap.size w w' := by
  have hcap := hFt.cap
  have hnz : (n : Int) ≤ 140737488351232 := by omega
  by_cases hbig : 1500 < n
  · have hd : decide ((n : Int) > 1500) = true := decide_eq_true (by omega)
    have hd2 : decide ((1500 : Int) < (n : Int)) = true := decide_eq_true (by omega)
    have hd3 : decide (1500 < n) = true := decide_eq_true hbig
    clear hO1 hB hFt hcap hc
    go_enter Try.func4, Try.ntmps4
    go_wp2_with (go_at_call 11; refine (lives_any _).mono ?_; rintro e w7 ⟨rfl, hb7⟩)
    go_ret
    exact ⟨rfl, hb7⟩
  have hd : decide ((n : Int) > 1500) = false := decide_eq_false (by omega)
  have hd2 : decide ((1500 : Int) < (n : Int)) = false := decide_eq_false (by omega)
  have hd3 : decide (1500 < n) = false := decide_eq_false hbig
  obtain ⟨hz, -⟩ := zero_of_info (P := Try.prog) info25
  have KI : Hid (∀ F, (Try.prog.info? 25).map (·.size) = some (rowA F 512).size) := Lib.hid fun F => by rw [size25, rowA_size]
  have HZS : Hid ((rowA (fun _ => 0) 512).size = 512) := Lib.hid (rowA_size _ _)
  have HM1 := Lib.hid (made_any p1 n1 c1 f1 w hn1 hO1)
  have HBY := Lib.hid hB
  have HCC : Hid (n ≤ c ∧ c ≤ 9223372036854775807 ∧ n ≤ 1099511627776) := Lib.hid ⟨hcap, by omega, by omega⟩
  clear hn1 hO1 hB hFt hcap hc hbig
  generalize fsF f1 (min n1 40) = f at *
  generalize hZZ : rowA (fun _ => 0) 512 = Z at *
  have HZZ := Lib.hid hZZ
  clear hZZ
  go_enter Try.func4, Try.ntmps4
  go_upto_region 4 with (first
    | (go_at_call 7; refine HM1.out.mono ?_; rintro e w1 ⟨rfl, hT1, hb1⟩)
    | (refine wpList_store_row rfl 25 (.tmp 8) (.tmp 21) rfl _ (rowA f 512) rfl rfl 25 Z (heap_alloc_new _ _) (KI.out _) (by rw [rowA_size]; exact HZS.out) (rowA_one _ _) ?_))
  have HG : Hid (Lv w ((w1.alloc (.cells Z 25)).setRow w1.heap.size (rowA f 512)) (w.heap.size + 1) w1.heap.size f) := Lib.hid (by
    rw [World.setRow_alloc_new]
    exact ⟨hT1.below ((Below.refl _ _).alloc (Nat.le_refl _) _), heap_alloc_new w1 _, by have := hT1.lt; omega, by omega, hb1.trans ((Below.refl w.heap.size w1).alloc hb1.size _)⟩)
  clear hT1 hb1 HM1
  generalize World.setRow _ _ _ = w2 at *
  generalize w.heap.size + 1 = g at *
  generalize w1.heap.size = gx at *
  by_cases hx : 0 ≤ x ∧ x < 4
  · obtain ⟨i, rfl⟩ := Int.eq_ofNat_of_zero_le hx.1
    have HIL : Hid (i < 4) := Lib.hid (by omega)
    have g1 : decide ((i : Int) < 0) = false := decide_eq_false (by omega)
    have g2 : decide ((i : Int) > 3) = false := decide_eq_false (by omega)
    have g3 : decide ((3 : Int) < (i : Int)) = false := decide_eq_false (by omega)
    have HLF := Lib.hid (leaf_in HG.out.tab i HIL.out)
    clear hx
    go_upto_region 8 with (go_at_call 12; refine HLF.out.mono ?_; rintro e wr ⟨⟨pl, cl, rfl, hBl, hcl, hcl2⟩, hbl⟩)
    have HR := Lib.hid (HG.out.below hbl)
    have HBL := Lib.hid hBl
    clear hBl hcl hcl2 hbl HG HLF
    go_cut [58] (fun v wx => v = .bool false ∧ Below wr.heap.size wr wx)
    case first =>
      obtain ⟨S1, hS1⟩ : ∃ S1, strB (fours (leafF f i) 128) = S1 := ⟨_, rfl⟩
      obtain ⟨S0, hS0⟩ : ∃ S0, strB (fours (fun _ => 0) 128) = S0 := ⟨_, rfl⟩
      have HLC : Hid (∀ w', Below wr.heap.size wr w' → (convert 35 9 (.slice pl 512 cl)).run Try.prog w' = .ok (.string S1) w') := Lib.hid fun w' hb => by rw [← hS1]; exact (HBL.out.below hb).conv cl
      have HXR : Hid (∀ w', Below wr.heap.size wr w' → w'.rangeAt gx 0 (ints f 0 512)) := Lib.hid fun w' hb => (HR.out.row.below hb).range 0 512 (by omega)
      have H14 : Hid (∀ w', Below wr.heap.size wr w' → Calls Try.prog 14 #[.agg (ints f 0 512).toArray, .int .i64 (i : Int)] w' fun e w'' => e = .returned (.string S1) ∧ Below wr.heap.size wr w'' ∧ Below w'.heap.size w' w'') := Lib.hid fun w' hb => by
        rw [← hS1]
        exact (rleaf_any f i w' HR.out.tab.ok HIL.out).mono fun e w'' h => ⟨h.1, hb.trans (h.2.mono hb.size), h.2⟩
      have H13 : Hid (∀ w', Below wr.heap.size wr w' → Calls Try.prog 13 #[.pointer (some ⟨g, 0, none⟩), .int .i64 (i : Int)] w' fun e w'' => e = .returned (.bool (bareB f i)) ∧ w' = w'') := Lib.hid fun w' hb => bare_in (HR.out.tab.below hb) i HIL.out
      obtain ⟨i0, hi, hz0, hz1, hz2⟩ := info_parts Try.info5
      obtain ⟨C0, hC0⟩ : ∃ C0, madeCells #[Value.int .u8 0] 512 = C0 := ⟨_, rfl⟩
      have hmk : ∀ w : World, (Instr.makeSlice 35 (.int .i64 512) (.int .i64 512)).run Try.prog w = .ok (.slice (some ⟨w.heap.size, 0, none⟩) 512 512) (w.alloc (.cells C0 5)) := fun w => by
        have h := run_make (P := Try.prog) w 35 5 i0 _ Try.underlying35 hi hz0 .i64 .i64 ((512 : Nat) : Int) ((512 : Nat) : Int) (by omega) (by omega) (by rw [hz2]; omega) (by omega)
        rw [hz1, Int.toNat_natCast, Nat.mul_one] at h
        rw [← hC0]
        exact h
      have HZ : Hid (∀ (w' : World), Below wr.heap.size wr w' → Bys (w'.alloc (.cells C0 5)) (some ⟨w'.heap.size, 0, none⟩) 512 (fours (fun _ => 0) 128)) := Lib.hid fun w' _ => by rw [← hC0]; exact zeros_bys w'
      have hEQ : (S1.toList == S0.toList) = bareB f i := by
        rw [← hS1, ← hS0, strB_beq (fours_dig (f := leafF f i) (fun j => HR.out.tab.ok.lt _) _) (fours_dig (f := fun _ => 0) (fun j => by omega) _), bare_eq]
      generalize bareB f i = bq at *
      clear hi hz0 hz1 hz2 hC0 hS1
      refine wp_region_held_drew (S := fun w' => Below wr.heap.size wr w') (by kernel_rfl) (Below.refl _ _).drew (fun hS => ?_)
      refine wpAnyH_take (i := 0) (v := .slice pl 512 cl) rfl (by kernel_rfl) (by kernel_rfl) (by kernel_rfl) (fun _ _ _ h => h) (Or.inl ⟨by rfl, fun w hw => by go_simp⟩) hS ?_
      try simp only [List.getElem_toArray, List.getElem_cons_succ, List.getElem_cons_zero, Act.put, List.setIfInBounds_toArray, List.set_cons_succ, List.set_cons_zero]
      refine wpAnyH_take (i := 1) (v := .string S1) rfl (by kernel_rfl) (by kernel_rfl) (by kernel_rfl) (fun _ _ _ h => h) (Or.inl ⟨by rfl, fun w hw => by have hcv := HLC.out w hw; go_simp⟩) hS ?_
      try simp only [List.getElem_toArray, List.getElem_cons_succ, List.getElem_cons_zero, Act.put, List.setIfInBounds_toArray, List.set_cons_succ, List.set_cons_zero]
      refine wpAnyH_take (i := 2) (v := .agg (ints f 0 512).toArray) rfl (by kernel_rfl) (by kernel_rfl) (by kernel_rfl) (fun _ _ _ h => h) (yieldsIf_load_mid rfl 25 (.tmp 8) rfl gx 0 rfl (ints f 0 512) _ (fun w h => HXR.out w h) Try.underlying25 rfl (by rw [size25, ints_len])) hS ?_
      try simp only [List.getElem_toArray, List.getElem_cons_succ, List.getElem_cons_zero, Act.put, List.setIfInBounds_toArray, List.set_cons_succ, List.set_cons_zero]
      refine wpAnyH_take (i := 3) (v := .int .i64 (i : Int)) rfl (by kernel_rfl) (by kernel_rfl) (by kernel_rfl) (fun _ _ _ h => h) (Or.inl ⟨by rfl, fun w hw => by go_simp⟩) hS ?_
      try simp only [List.getElem_toArray, List.getElem_cons_succ, List.getElem_cons_zero, Act.put, List.setIfInBounds_toArray, List.set_cons_succ, List.set_cons_zero]
      refine wpAnyH_ready (rs := [4]) (by kernel_rfl) (by simp) ?_
      refine AllReadyH.cons rfl (fun K hK => ?_) AllReadyH.nil
      rw [if_pos (by rfl)]
      try simp only [List.getElem_toArray, List.getElem_cons_succ, List.getElem_cons_zero, Act.put, List.setIfInBounds_toArray, List.set_cons_succ, List.set_cons_zero]
      go_simp
      go_at_call 14
      refine (H14.out _ hS).mono ?_
      rintro e w1 ⟨rfl, hs1, ht1⟩
      refine hK.out _ _ hs1 (fun _ => ?_)
      clear hK K
      refine wpAnyH_take (i := 5) (v := .bool false) rfl (by kernel_rfl) (by kernel_rfl) (by kernel_rfl) (fun _ _ _ h => h) (Or.inl ⟨by rfl, fun w hw => by go_simp⟩) hs1 ?_
      try simp only [List.getElem_toArray, List.getElem_cons_succ, List.getElem_cons_zero, Act.put, List.setIfInBounds_toArray, List.set_cons_succ, List.set_cons_zero]
      refine wpAnyH_take (i := 6) (v := .bool false) rfl (by kernel_rfl) (by kernel_rfl) (by kernel_rfl) (fun _ _ _ h => h) (Or.inl ⟨by rfl, fun w hw => by go_simp⟩) hs1 ?_
      try simp only [List.getElem_toArray, List.getElem_cons_succ, List.getElem_cons_zero, Act.put, List.setIfInBounds_toArray, List.set_cons_succ, List.set_cons_zero]
      refine wpAnyH_take (i := 7) (v := .pointer (some ⟨g, 0, none⟩)) rfl (by kernel_rfl) (by kernel_rfl) (by kernel_rfl) (fun _ _ _ h => h) (Or.inl ⟨by rfl, fun w hw => by go_simp⟩) hs1 ?_
      try simp only [List.getElem_toArray, List.getElem_cons_succ, List.getElem_cons_zero, Act.put, List.setIfInBounds_toArray, List.set_cons_succ, List.set_cons_zero]
      refine wpAnyH_take (i := 8) (v := .int .i64 (i : Int)) rfl (by kernel_rfl) (by kernel_rfl) (by kernel_rfl) (fun _ _ _ h => h) (Or.inl ⟨by rfl, fun w hw => by go_simp⟩) hs1 ?_
      try simp only [List.getElem_toArray, List.getElem_cons_succ, List.getElem_cons_zero, Act.put, List.setIfInBounds_toArray, List.set_cons_succ, List.set_cons_zero]
      refine wpAnyH_take (i := 10) (v := .agg (ints f 0 512).toArray) rfl (by kernel_rfl) (by kernel_rfl) (by kernel_rfl) (fun _ _ _ h => h) (yieldsIf_load_mid rfl 25 (.tmp 8) rfl gx 0 rfl (ints f 0 512) _ (fun w h => HXR.out w h) Try.underlying25 rfl (by rw [size25, ints_len])) hs1 ?_
      try simp only [List.getElem_toArray, List.getElem_cons_succ, List.getElem_cons_zero, Act.put, List.setIfInBounds_toArray, List.set_cons_succ, List.set_cons_zero]
      refine wpAnyH_take (i := 11) (v := .int .i64 (i : Int)) rfl (by kernel_rfl) (by kernel_rfl) (by kernel_rfl) (fun _ _ _ h => h) (Or.inl ⟨by rfl, fun w hw => by go_simp⟩) hs1 ?_
      try simp only [List.getElem_toArray, List.getElem_cons_succ, List.getElem_cons_zero, Act.put, List.setIfInBounds_toArray, List.set_cons_succ, List.set_cons_zero]
      refine wpAnyH_ready (rs := [9,13]) (by kernel_rfl) (by simp) ?_
      refine AllReadyH.cons rfl (fun K hK => ?_) ?_
      · rw [if_pos (by rfl)]
        try simp only [List.getElem_toArray, List.getElem_cons_succ, List.getElem_cons_zero, Act.put, List.setIfInBounds_toArray, List.set_cons_succ, List.set_cons_zero]
        go_simp
        go_at_call 13
        refine (H13.out _ hs1).mono ?_
        rintro e w2 ⟨rfl, rfl⟩
        refine hK.out _ _ hs1 (fun _ => ?_)
        clear hK K
        refine wpAnyH_ready (rs := [12,13]) (by kernel_rfl) (by simp) ?_
        refine AllReadyH.cons rfl (fun K hK => ?_) ?_
        · rw [if_pos (by rfl)]
          try simp only [List.getElem_toArray, List.getElem_cons_succ, List.getElem_cons_zero, Act.put, List.setIfInBounds_toArray, List.set_cons_succ, List.set_cons_zero]
          go_simp
          go_at_call 14
          refine (H14.out _ hs1).mono ?_
          rintro e w3 ⟨rfl, hs3, ht3⟩
          refine hK.out _ _ hs3 (fun _ => ?_)
          clear hK K
          refine wpAnyH_ready (rs := [13]) (by kernel_rfl) (by simp) ?_
          refine AllReadyH.cons rfl (fun K hK => ?_) AllReadyH.nil
          rw [if_pos (by rfl)]
          try simp only [List.getElem_toArray, List.getElem_cons_succ, List.getElem_cons_zero, Act.put, List.setIfInBounds_toArray, List.set_cons_succ, List.set_cons_zero]
          have hz4 := HZ.out _ hs3
          go_simp
          refine hK.out _ _ (Below.alloc hs3 (Below.size hs3) _) (fun hs4 => ?_)
          clear hK K
          refine wpAnyH_ready (rs := [14]) (by kernel_rfl) (by simp) ?_
          refine AllReadyH.cons rfl (fun K hK => ?_) AllReadyH.nil
          rw [if_pos (by rfl)]
          try simp only [List.getElem_toArray, List.getElem_cons_succ, List.getElem_cons_zero, Act.put, List.setIfInBounds_toArray, List.set_cons_succ, List.set_cons_zero]
          have hcv := Bys.conv hz4 512
          go_simp
          refine hK.out _ _ hs4 (fun _ => ?_)
          clear hK K hcv
          refine wpAnyH_take (i := 15) (v := .bool bq) rfl (by kernel_rfl) (by kernel_rfl) (by kernel_rfl) (fun _ _ _ h => h) (Or.inl ⟨by rfl, fun w hw => by go_simp⟩) hs4 ?_
          try simp only [List.getElem_toArray, List.getElem_cons_succ, List.getElem_cons_zero, Act.put, List.setIfInBounds_toArray, List.set_cons_succ, List.set_cons_zero]
          refine wpAnyH_take (i := 16) (v := .bool false) rfl (by kernel_rfl) (by kernel_rfl) (by kernel_rfl) (fun _ _ _ h => h) (Or.inl ⟨by rfl, fun w hw => by go_simp⟩) hs4 ?_
          try simp only [List.getElem_toArray, List.getElem_cons_succ, List.getElem_cons_zero, Act.put, List.setIfInBounds_toArray, List.set_cons_succ, List.set_cons_zero]
          refine wpAnyH_take (i := 17) (v := .bool false) rfl (by kernel_rfl) (by kernel_rfl) (by kernel_rfl) (fun _ _ _ h => h) (Or.inl ⟨by rfl, fun w hw => by go_simp⟩) hs4 ?_
          try simp only [List.getElem_toArray, List.getElem_cons_succ, List.getElem_cons_zero, Act.put, List.setIfInBounds_toArray, List.set_cons_succ, List.set_cons_zero]
          refine wpAnyH_done (by kernel_rfl) ?_ _
          go_wp2_with fail
          go_meet
          exact ⟨rfl, hs4⟩
        · refine AllReadyH.cons rfl (fun K hK => ?_) AllReadyH.nil
          rw [if_pos (by rfl)]
          try simp only [List.getElem_toArray, List.getElem_cons_succ, List.getElem_cons_zero, Act.put, List.setIfInBounds_toArray, List.set_cons_succ, List.set_cons_zero]
          have hz6 := HZ.out _ hs1
          go_simp
          refine hK.out _ _ (Below.alloc hs1 (Below.size hs1) _) (fun hs6 => ?_)
          clear hK K
          refine wpAnyH_ready (rs := [12,14]) (by kernel_rfl) (by simp) ?_
          refine AllReadyH.cons rfl (fun K hK => ?_) ?_
          · rw [if_pos (by rfl)]
            try simp only [List.getElem_toArray, List.getElem_cons_succ, List.getElem_cons_zero, Act.put, List.setIfInBounds_toArray, List.set_cons_succ, List.set_cons_zero]
            go_simp
            go_at_call 14
            refine (H14.out _ hs6).mono ?_
            rintro e w7 ⟨rfl, hs7, ht7⟩
            refine hK.out _ _ hs7 (fun _ => ?_)
            clear hK K
            have hz7 := hz6.below ht7
            refine wpAnyH_ready (rs := [14]) (by kernel_rfl) (by simp) ?_
            refine AllReadyH.cons rfl (fun K hK => ?_) AllReadyH.nil
            rw [if_pos (by rfl)]
            try simp only [List.getElem_toArray, List.getElem_cons_succ, List.getElem_cons_zero, Act.put, List.setIfInBounds_toArray, List.set_cons_succ, List.set_cons_zero]
            have hcv := Bys.conv hz7 512
            go_simp
            refine hK.out _ _ hs7 (fun _ => ?_)
            clear hK K hcv
            refine wpAnyH_take (i := 15) (v := .bool bq) rfl (by kernel_rfl) (by kernel_rfl) (by kernel_rfl) (fun _ _ _ h => h) (Or.inl ⟨by rfl, fun w hw => by go_simp⟩) hs7 ?_
            try simp only [List.getElem_toArray, List.getElem_cons_succ, List.getElem_cons_zero, Act.put, List.setIfInBounds_toArray, List.set_cons_succ, List.set_cons_zero]
            refine wpAnyH_take (i := 16) (v := .bool false) rfl (by kernel_rfl) (by kernel_rfl) (by kernel_rfl) (fun _ _ _ h => h) (Or.inl ⟨by rfl, fun w hw => by go_simp⟩) hs7 ?_
            try simp only [List.getElem_toArray, List.getElem_cons_succ, List.getElem_cons_zero, Act.put, List.setIfInBounds_toArray, List.set_cons_succ, List.set_cons_zero]
            refine wpAnyH_take (i := 17) (v := .bool false) rfl (by kernel_rfl) (by kernel_rfl) (by kernel_rfl) (fun _ _ _ h => h) (Or.inl ⟨by rfl, fun w hw => by go_simp⟩) hs7 ?_
            try simp only [List.getElem_toArray, List.getElem_cons_succ, List.getElem_cons_zero, Act.put, List.setIfInBounds_toArray, List.set_cons_succ, List.set_cons_zero]
            refine wpAnyH_done (by kernel_rfl) ?_ _
            go_wp2_with fail
            go_meet
            exact ⟨rfl, hs7⟩
          · refine AllReadyH.cons rfl (fun K hK => ?_) AllReadyH.nil
            rw [if_pos (by rfl)]
            try simp only [List.getElem_toArray, List.getElem_cons_succ, List.getElem_cons_zero, Act.put, List.setIfInBounds_toArray, List.set_cons_succ, List.set_cons_zero]
            have hcv := Bys.conv hz6 512
            go_simp
            refine hK.out _ _ hs6 (fun _ => ?_)
            clear hK K hcv
            refine wpAnyH_ready (rs := [12]) (by kernel_rfl) (by simp) ?_
            refine AllReadyH.cons rfl (fun K hK => ?_) AllReadyH.nil
            rw [if_pos (by rfl)]
            try simp only [List.getElem_toArray, List.getElem_cons_succ, List.getElem_cons_zero, Act.put, List.setIfInBounds_toArray, List.set_cons_succ, List.set_cons_zero]
            go_simp
            go_at_call 14
            refine (H14.out _ hs6).mono ?_
            rintro e w10 ⟨rfl, hs10, ht10⟩
            refine hK.out _ _ hs10 (fun _ => ?_)
            clear hK K
            have hz10 := hz6.below ht10
            refine wpAnyH_take (i := 15) (v := .bool bq) rfl (by kernel_rfl) (by kernel_rfl) (by kernel_rfl) (fun _ _ _ h => h) (Or.inl ⟨by rfl, fun w hw => by go_simp⟩) hs10 ?_
            try simp only [List.getElem_toArray, List.getElem_cons_succ, List.getElem_cons_zero, Act.put, List.setIfInBounds_toArray, List.set_cons_succ, List.set_cons_zero]
            refine wpAnyH_take (i := 16) (v := .bool false) rfl (by kernel_rfl) (by kernel_rfl) (by kernel_rfl) (fun _ _ _ h => h) (Or.inl ⟨by rfl, fun w hw => by go_simp⟩) hs10 ?_
            try simp only [List.getElem_toArray, List.getElem_cons_succ, List.getElem_cons_zero, Act.put, List.setIfInBounds_toArray, List.set_cons_succ, List.set_cons_zero]
            refine wpAnyH_take (i := 17) (v := .bool false) rfl (by kernel_rfl) (by kernel_rfl) (by kernel_rfl) (fun _ _ _ h => h) (Or.inl ⟨by rfl, fun w hw => by go_simp⟩) hs10 ?_
            try simp only [List.getElem_toArray, List.getElem_cons_succ, List.getElem_cons_zero, Act.put, List.setIfInBounds_toArray, List.set_cons_succ, List.set_cons_zero]
            refine wpAnyH_done (by kernel_rfl) ?_ _
            go_wp2_with fail
            go_meet
            exact ⟨rfl, hs10⟩
      · refine AllReadyH.cons rfl (fun K hK => ?_) AllReadyH.nil
        rw [if_pos (by rfl)]
        try simp only [List.getElem_toArray, List.getElem_cons_succ, List.getElem_cons_zero, Act.put, List.setIfInBounds_toArray, List.set_cons_succ, List.set_cons_zero]
        have hz11 := HZ.out _ hs1
        go_simp
        refine hK.out _ _ (Below.alloc hs1 (Below.size hs1) _) (fun hs11 => ?_)
        clear hK K
        refine wpAnyH_ready (rs := [9,14]) (by kernel_rfl) (by simp) ?_
        refine AllReadyH.cons rfl (fun K hK => ?_) ?_
        · rw [if_pos (by rfl)]
          try simp only [List.getElem_toArray, List.getElem_cons_succ, List.getElem_cons_zero, Act.put, List.setIfInBounds_toArray, List.set_cons_succ, List.set_cons_zero]
          go_simp
          go_at_call 13
          refine (H13.out _ hs11).mono ?_
          rintro e w12 ⟨rfl, rfl⟩
          refine hK.out _ _ hs11 (fun _ => ?_)
          clear hK K
          refine wpAnyH_ready (rs := [12,14]) (by kernel_rfl) (by simp) ?_
          refine AllReadyH.cons rfl (fun K hK => ?_) ?_
          · rw [if_pos (by rfl)]
            try simp only [List.getElem_toArray, List.getElem_cons_succ, List.getElem_cons_zero, Act.put, List.setIfInBounds_toArray, List.set_cons_succ, List.set_cons_zero]
            go_simp
            go_at_call 14
            refine (H14.out _ hs11).mono ?_
            rintro e w13 ⟨rfl, hs13, ht13⟩
            refine hK.out _ _ hs13 (fun _ => ?_)
            clear hK K
            have hz13 := hz11.below ht13
            refine wpAnyH_ready (rs := [14]) (by kernel_rfl) (by simp) ?_
            refine AllReadyH.cons rfl (fun K hK => ?_) AllReadyH.nil
            rw [if_pos (by rfl)]
            try simp only [List.getElem_toArray, List.getElem_cons_succ, List.getElem_cons_zero, Act.put, List.setIfInBounds_toArray, List.set_cons_succ, List.set_cons_zero]
            have hcv := Bys.conv hz13 512
            go_simp
            refine hK.out _ _ hs13 (fun _ => ?_)
            clear hK K hcv
            refine wpAnyH_take (i := 15) (v := .bool bq) rfl (by kernel_rfl) (by kernel_rfl) (by kernel_rfl) (fun _ _ _ h => h) (Or.inl ⟨by rfl, fun w hw => by go_simp⟩) hs13 ?_
            try simp only [List.getElem_toArray, List.getElem_cons_succ, List.getElem_cons_zero, Act.put, List.setIfInBounds_toArray, List.set_cons_succ, List.set_cons_zero]
            refine wpAnyH_take (i := 16) (v := .bool false) rfl (by kernel_rfl) (by kernel_rfl) (by kernel_rfl) (fun _ _ _ h => h) (Or.inl ⟨by rfl, fun w hw => by go_simp⟩) hs13 ?_
            try simp only [List.getElem_toArray, List.getElem_cons_succ, List.getElem_cons_zero, Act.put, List.setIfInBounds_toArray, List.set_cons_succ, List.set_cons_zero]
            refine wpAnyH_take (i := 17) (v := .bool false) rfl (by kernel_rfl) (by kernel_rfl) (by kernel_rfl) (fun _ _ _ h => h) (Or.inl ⟨by rfl, fun w hw => by go_simp⟩) hs13 ?_
            try simp only [List.getElem_toArray, List.getElem_cons_succ, List.getElem_cons_zero, Act.put, List.setIfInBounds_toArray, List.set_cons_succ, List.set_cons_zero]
            refine wpAnyH_done (by kernel_rfl) ?_ _
            go_wp2_with fail
            go_meet
            exact ⟨rfl, hs13⟩
          · refine AllReadyH.cons rfl (fun K hK => ?_) AllReadyH.nil
            rw [if_pos (by rfl)]
            try simp only [List.getElem_toArray, List.getElem_cons_succ, List.getElem_cons_zero, Act.put, List.setIfInBounds_toArray, List.set_cons_succ, List.set_cons_zero]
            have hcv := Bys.conv hz11 512
            go_simp
            refine hK.out _ _ hs11 (fun _ => ?_)
            clear hK K hcv
            refine wpAnyH_ready (rs := [12]) (by kernel_rfl) (by simp) ?_
            refine AllReadyH.cons rfl (fun K hK => ?_) AllReadyH.nil
            rw [if_pos (by rfl)]
            try simp only [List.getElem_toArray, List.getElem_cons_succ, List.getElem_cons_zero, Act.put, List.setIfInBounds_toArray, List.set_cons_succ, List.set_cons_zero]
            go_simp
            go_at_call 14
            refine (H14.out _ hs11).mono ?_
            rintro e w16 ⟨rfl, hs16, ht16⟩
            refine hK.out _ _ hs16 (fun _ => ?_)
            clear hK K
            have hz16 := hz11.below ht16
            refine wpAnyH_take (i := 15) (v := .bool bq) rfl (by kernel_rfl) (by kernel_rfl) (by kernel_rfl) (fun _ _ _ h => h) (Or.inl ⟨by rfl, fun w hw => by go_simp⟩) hs16 ?_
            try simp only [List.getElem_toArray, List.getElem_cons_succ, List.getElem_cons_zero, Act.put, List.setIfInBounds_toArray, List.set_cons_succ, List.set_cons_zero]
            refine wpAnyH_take (i := 16) (v := .bool false) rfl (by kernel_rfl) (by kernel_rfl) (by kernel_rfl) (fun _ _ _ h => h) (Or.inl ⟨by rfl, fun w hw => by go_simp⟩) hs16 ?_
            try simp only [List.getElem_toArray, List.getElem_cons_succ, List.getElem_cons_zero, Act.put, List.setIfInBounds_toArray, List.set_cons_succ, List.set_cons_zero]
            refine wpAnyH_take (i := 17) (v := .bool false) rfl (by kernel_rfl) (by kernel_rfl) (by kernel_rfl) (fun _ _ _ h => h) (Or.inl ⟨by rfl, fun w hw => by go_simp⟩) hs16 ?_
            try simp only [List.getElem_toArray, List.getElem_cons_succ, List.getElem_cons_zero, Act.put, List.setIfInBounds_toArray, List.set_cons_succ, List.set_cons_zero]
            refine wpAnyH_done (by kernel_rfl) ?_ _
            go_wp2_with fail
            go_meet
            exact ⟨rfl, hs16⟩
        · refine AllReadyH.cons rfl (fun K hK => ?_) AllReadyH.nil
          rw [if_pos (by rfl)]
          try simp only [List.getElem_toArray, List.getElem_cons_succ, List.getElem_cons_zero, Act.put, List.setIfInBounds_toArray, List.set_cons_succ, List.set_cons_zero]
          have hcv := Bys.conv hz11 512
          go_simp
          refine hK.out _ _ hs11 (fun _ => ?_)
          clear hK K hcv
          refine wpAnyH_ready (rs := [9]) (by kernel_rfl) (by simp) ?_
          refine AllReadyH.cons rfl (fun K hK => ?_) AllReadyH.nil
          rw [if_pos (by rfl)]
          try simp only [List.getElem_toArray, List.getElem_cons_succ, List.getElem_cons_zero, Act.put, List.setIfInBounds_toArray, List.set_cons_succ, List.set_cons_zero]
          go_simp
          go_at_call 13
          refine (H13.out _ hs11).mono ?_
          rintro e w18 ⟨rfl, rfl⟩
          refine hK.out _ _ hs11 (fun _ => ?_)
          clear hK K
          refine wpAnyH_ready (rs := [12]) (by kernel_rfl) (by simp) ?_
          refine AllReadyH.cons rfl (fun K hK => ?_) AllReadyH.nil
          rw [if_pos (by rfl)]
          try simp only [List.getElem_toArray, List.getElem_cons_succ, List.getElem_cons_zero, Act.put, List.setIfInBounds_toArray, List.set_cons_succ, List.set_cons_zero]
          go_simp
          go_at_call 14
          refine (H14.out _ hs11).mono ?_
          rintro e w19 ⟨rfl, hs19, ht19⟩
          refine hK.out _ _ hs19 (fun _ => ?_)
          clear hK K
          have hz19 := hz11.below ht19
          refine wpAnyH_take (i := 15) (v := .bool bq) rfl (by kernel_rfl) (by kernel_rfl) (by kernel_rfl) (fun _ _ _ h => h) (Or.inl ⟨by rfl, fun w hw => by go_simp⟩) hs19 ?_
          try simp only [List.getElem_toArray, List.getElem_cons_succ, List.getElem_cons_zero, Act.put, List.setIfInBounds_toArray, List.set_cons_succ, List.set_cons_zero]
          refine wpAnyH_take (i := 16) (v := .bool false) rfl (by kernel_rfl) (by kernel_rfl) (by kernel_rfl) (fun _ _ _ h => h) (Or.inl ⟨by rfl, fun w hw => by go_simp⟩) hs19 ?_
          try simp only [List.getElem_toArray, List.getElem_cons_succ, List.getElem_cons_zero, Act.put, List.setIfInBounds_toArray, List.set_cons_succ, List.set_cons_zero]
          refine wpAnyH_take (i := 17) (v := .bool false) rfl (by kernel_rfl) (by kernel_rfl) (by kernel_rfl) (fun _ _ _ h => h) (Or.inl ⟨by rfl, fun w hw => by go_simp⟩) hs19 ?_
          try simp only [List.getElem_toArray, List.getElem_cons_succ, List.getElem_cons_zero, Act.put, List.setIfInBounds_toArray, List.set_cons_succ, List.set_cons_zero]
          refine wpAnyH_done (by kernel_rfl) ?_ _
          go_wp2_with fail
          go_meet
          exact ⟨rfl, hs19⟩
    case rest =>
      obtain ⟨rfl, hbx⟩ := hcut
      have HLV := Lib.hid (HR.out.below hbx)
      clear hbx
      have HBW := Lib.hid (HBY.out.below HLV.out.bel)
      have HRL := Lib.hid (rload_any f (i : Int) p n c bs wc HBW.out HCC.out.2.2)
      go_upto_region 11 with (first
        | (refine wpList_load_row rfl 25 (.tmp 8) rfl gx rfl 25 (rowA f 512) (0, 0) _ HLV.out.row Try.underlying25 rfl (KI.out _) ?_)
        | (go_at_call 15; refine HRL.out.mono ?_; rintro e w5 ⟨rfl, hb5⟩)
        | (refine wpList_store_row rfl 25 (.tmp 11) (.tmp 64) rfl _ (rowA (loadF f (i : Int) bs) 512) rfl rfl 25 Z (heap_alloc_new _ _) (KI.out _) (by rw [rowA_size]; exact HZS.out) (rowA_one _ _) ?_))
      have HL6 : Hid (Lv w ((w5.alloc (.cells Z 25)).setRow w5.heap.size (rowA (loadF f (i : Int) bs) 512)) g gx f ∧ IsT ((w5.alloc (.cells Z 25)).setRow w5.heap.size (rowA (loadF f (i : Int) bs) 512)) w5.heap.size 25 (loadF f (i : Int) bs) 512 ∧ Below wc.heap.size wc ((w5.alloc (.cells Z 25)).setRow w5.heap.size (rowA (loadF f (i : Int) bs) 512))) := Lib.hid (by
        rw [World.setRow_alloc_new]
        have hb := hb5.trans ((Below.refl wc.heap.size w5).alloc hb5.size (.cells (rowA (loadF f (i : Int) bs) 512) 25))
        exact ⟨HLV.out.below hb, heap_alloc_new w5 _, hb⟩)
      have HGY : Hid (w5.heap.size ≠ g) := Lib.hid (by have := HLV.out.tab.lt; have := hb5.size; omega)
      clear hb5 HRL
      generalize World.setRow _ _ _ = w6 at *
      generalize w5.heap.size = gy at *
      have HLD := Lib.hid (load_any HL6.out.1.tab (i : Int) p n c bs (HBW.out.below HL6.out.2.2) HCC.out.1 HCC.out.2.1)
      go_wp2_with (first
        | (go_at_call 16; refine HLD.out.mono ?_; rintro e w7 ⟨rfl, hT7, ho7⟩; have HX7 : Hid (w7.heap[gy]? = some (.cells (rowA (loadF f (i : Int) bs) 512) 25 (0, 0))) := Lib.hid (HL6.out.2.1.only ho7 HGY.out))
        | (refine wpList_load_rowG (by kernel_rfl) 25 (.tmp 11) rfl gy rfl 25 (rowA (loadF f (i : Int) bs) 512) (0, 0) _ HX7.out Try.underlying25 rfl (KI.out _) ?_)
        | (go_at_call 8; refine (same_tab hT7).mono ?_; rintro e w8 ⟨rfl, hb8⟩)
        | (go_at_call 11; refine (lives_any _).mono ?_; rintro e w9 ⟨rfl, hb9⟩))
      go_ret
      have hA := ho7.below HL6.out.1.bel HL6.out.1.bel.size HL6.out.1.l1
      exact ⟨rfl, (hA.trans (hb8.mono hA.size)).trans (hb9.mono (by have := hA.size; have := hb8.size; omega))⟩
  · have HLF := Lib.hid (leaf_out (g := g) x hx w2)
    have HBA := Lib.hid (bare_out (g := g) x hx w2)
    have HLV := HG
    by_cases h0 : x < 0
    · have g1 : decide (x < 0) = true := decide_eq_true h0
      clear hx
      go_upto_region 10 with (first
        | (go_at_call 12; refine HLF.out.mono ?_; rintro e w7 ⟨rfl, rfl⟩)
        | (go_at_call 13; refine HBA.out.mono ?_; rintro e w7 ⟨rfl, rfl⟩))
      have HBW := Lib.hid (HBY.out.below HLV.out.bel)
      have HRL := Lib.hid (rload_any f x p n c bs w2 HBW.out HCC.out.2.2)
      go_upto_region 11 with (first
        | (refine wpList_load_row rfl 25 (.tmp 8) rfl gx rfl 25 (rowA f 512) (0, 0) _ HLV.out.row Try.underlying25 rfl (KI.out _) ?_)
        | (go_at_call 15; refine HRL.out.mono ?_; rintro e w5 ⟨rfl, hb5⟩)
        | (refine wpList_store_row rfl 25 (.tmp 11) (.tmp 64) rfl _ (rowA (loadF f x bs) 512) rfl rfl 25 Z (heap_alloc_new _ _) (KI.out _) (by rw [rowA_size]; exact HZS.out) (rowA_one _ _) ?_))
      have HL6 : Hid (Lv w ((w5.alloc (.cells Z 25)).setRow w5.heap.size (rowA (loadF f x bs) 512)) g gx f ∧ IsT ((w5.alloc (.cells Z 25)).setRow w5.heap.size (rowA (loadF f x bs) 512)) w5.heap.size 25 (loadF f x bs) 512 ∧ Below w2.heap.size w2 ((w5.alloc (.cells Z 25)).setRow w5.heap.size (rowA (loadF f x bs) 512))) := Lib.hid (by
        rw [World.setRow_alloc_new]
        have hb := hb5.trans ((Below.refl w2.heap.size w5).alloc hb5.size (.cells (rowA (loadF f x bs) 512) 25))
        exact ⟨HLV.out.below hb, heap_alloc_new w5 _, hb⟩)
      have HGY : Hid (w5.heap.size ≠ g) := Lib.hid (by have := HLV.out.tab.lt; have := hb5.size; omega)
      clear hb5 HRL
      generalize World.setRow _ _ _ = w6 at *
      generalize w5.heap.size = gy at *
      have HLD := Lib.hid (load_any HL6.out.1.tab x p n c bs (HBW.out.below HL6.out.2.2) HCC.out.1 HCC.out.2.1)
      go_wp2_with (first
        | (go_at_call 16; refine HLD.out.mono ?_; rintro e w7 ⟨rfl, hT7, ho7⟩; have HX7 : Hid (w7.heap[gy]? = some (.cells (rowA (loadF f x bs) 512) 25 (0, 0))) := Lib.hid (HL6.out.2.1.only ho7 HGY.out))
        | (refine wpList_load_rowG (by kernel_rfl) 25 (.tmp 11) rfl gy rfl 25 (rowA (loadF f x bs) 512) (0, 0) _ HX7.out Try.underlying25 rfl (KI.out _) ?_)
        | (go_at_call 8; refine (same_tab hT7).mono ?_; rintro e w8 ⟨rfl, hb8⟩)
        | (go_at_call 11; refine (lives_any _).mono ?_; rintro e w9 ⟨rfl, hb9⟩))
      go_ret
      have hA := ho7.below HL6.out.1.bel HL6.out.1.bel.size HL6.out.1.l1
      exact ⟨rfl, (hA.trans (hb8.mono hA.size)).trans (hb9.mono (by have := hA.size; have := hb8.size; omega))⟩
    · have g1 : decide (x < 0) = false := decide_eq_false h0
      have g2 : decide (x > 3) = true := decide_eq_true (by omega)
      have g3 : decide ((3 : Int) < x) = true := decide_eq_true (by omega)
      clear hx
      go_upto_region 10 with (first
        | (go_at_call 12; refine HLF.out.mono ?_; rintro e w7 ⟨rfl, rfl⟩)
        | (go_at_call 13; refine HBA.out.mono ?_; rintro e w7 ⟨rfl, rfl⟩))
      have HBW := Lib.hid (HBY.out.below HLV.out.bel)
      have HRL := Lib.hid (rload_any f x p n c bs w2 HBW.out HCC.out.2.2)
      go_upto_region 11 with (first
        | (refine wpList_load_row rfl 25 (.tmp 8) rfl gx rfl 25 (rowA f 512) (0, 0) _ HLV.out.row Try.underlying25 rfl (KI.out _) ?_)
        | (go_at_call 15; refine HRL.out.mono ?_; rintro e w5 ⟨rfl, hb5⟩)
        | (refine wpList_store_row rfl 25 (.tmp 11) (.tmp 64) rfl _ (rowA (loadF f x bs) 512) rfl rfl 25 Z (heap_alloc_new _ _) (KI.out _) (by rw [rowA_size]; exact HZS.out) (rowA_one _ _) ?_))
      have HL6 : Hid (Lv w ((w5.alloc (.cells Z 25)).setRow w5.heap.size (rowA (loadF f x bs) 512)) g gx f ∧ IsT ((w5.alloc (.cells Z 25)).setRow w5.heap.size (rowA (loadF f x bs) 512)) w5.heap.size 25 (loadF f x bs) 512 ∧ Below w2.heap.size w2 ((w5.alloc (.cells Z 25)).setRow w5.heap.size (rowA (loadF f x bs) 512))) := Lib.hid (by
        rw [World.setRow_alloc_new]
        have hb := hb5.trans ((Below.refl w2.heap.size w5).alloc hb5.size (.cells (rowA (loadF f x bs) 512) 25))
        exact ⟨HLV.out.below hb, heap_alloc_new w5 _, hb⟩)
      have HGY : Hid (w5.heap.size ≠ g) := Lib.hid (by have := HLV.out.tab.lt; have := hb5.size; omega)
      clear hb5 HRL
      generalize World.setRow _ _ _ = w6 at *
      generalize w5.heap.size = gy at *
      have HLD := Lib.hid (load_any HL6.out.1.tab x p n c bs (HBW.out.below HL6.out.2.2) HCC.out.1 HCC.out.2.1)
      go_wp2_with (first
        | (go_at_call 16; refine HLD.out.mono ?_; rintro e w7 ⟨rfl, hT7, ho7⟩; have HX7 : Hid (w7.heap[gy]? = some (.cells (rowA (loadF f x bs) 512) 25 (0, 0))) := Lib.hid (HL6.out.2.1.only ho7 HGY.out))
        | (refine wpList_load_rowG (by kernel_rfl) 25 (.tmp 11) rfl gy rfl 25 (rowA (loadF f x bs) 512) (0, 0) _ HX7.out Try.underlying25 rfl (KI.out _) ?_)
        | (go_at_call 8; refine (same_tab hT7).mono ?_; rintro e w8 ⟨rfl, hb8⟩)
        | (go_at_call 11; refine (lives_any _).mono ?_; rintro e w9 ⟨rfl, hb9⟩))
      go_ret
      have hA := ho7.below HL6.out.1.bel HL6.out.1.bel.size HL6.out.1.l1
      exact ⟨rfl, (hA.trans (hb8.mono hA.size)).trans (hb9.mono (by have := hA.size; have := hb8.size; omega))⟩
set_option maxRecDepth 100000 in
theorem leaves_lifted (os : Os) (started : os.Started) (H : Type) (enc : TypeId × Value → H) :
    ReturnsInHanded {} Try.checked os 4 .any (fun w args => Rows.tableLeavesSpec.pre enc Try.prog Try.f4 [] false w args ∧ sizedMet enc Try.prog Try.f4 (OpenSpec.ofChange Rows.tableLeavesSpec) false w args)
      (Rows.tableLeavesSpec.post enc Try.prog Try.f4 false true false false) := by
  refine returnsInHanded_of_change_sized (C := Try.checked) own started (by kernel_rfl) Try.func4
    (ChangeSpec.witness6 (enc := enc) (C := Try.checked) false ⟨#[], #[.slice none 0 0, .int .i64 0, .slice none 0 0], []⟩ 8 (by kernel_rfl) (by kernel_rfl) (by kernel_rfl) (by kernel_rfl)) ?_
  intro W base args ds gs before hval0 hW _ hsz0 _
  have hval : ∀ (j : Nat) t v, Try.f4.params[j]? = some t → args[j]? = some v → Value.okWide Try.prog W .any base t v := hval0
  have hlt := fun x hx => hW.lt (p := x) hx
  have hW' := hW
  obtain ⟨p, q, hA0, hV, rfl, hfz, hnd⟩ := hW
  have hA : DataW.TrodAll enc Try.prog W 0 (fun _ => true) true Try.f4.params.toList args.toList ds p := hA0
  have hsz : (DataW.weightsEach Try.prog (Try.f4.params.toList ++ Rows.tableLeavesSpec.plain.varTypes Try.prog) (ds ++ gs)).all (· ≤ reachBytes) = true := hsz0
  rw [Try.params4] at hA hval hsz
  obtain ⟨v0, vs0, d0, ds0, p0, q0, hargs, rfl, rfl, h0, r0⟩ := trodAll_cons hA
  obtain ⟨v1, vs1, d1, ds1, p1, q1, rfl, rfl, rfl, h1, r1⟩ := trodAll_cons r0
  obtain ⟨v2, vs2, d2, ds2, p2, q2, rfl, rfl, rfl, h2, r2⟩ := trodAll_cons r1
  obtain ⟨rfl, rfl, rfl⟩ := trodAll_nil r2
  obtain rfl : args = #[v0, v1, v2] := by cases args; simp_all
  obtain ⟨rfl, rfl⟩ := trodVars_none hV
  obtain ⟨a0, n0, c0, b0, rfl, hb0, hn0⟩ := open_ops (hval 0 22 v0 rfl rfl) h0
  obtain ⟨a1, rfl, rfl, rfl, w1⟩ := open_int Try.underlying3 (hval 1 3 v1 rfl rfl) h1
  obtain ⟨a2, n2, c2, b2, rfl, hb2, hn2, hc2⟩ := open_bys (hval 2 35 v2 rfl rfl) h2 (fun el sp e => sized_slice hsz (j := 2) rfl (by rw [← e]; rfl) Try.underlying35)
  clear hA0 hval0
  simp only [List.append_nil] at hW'
  refine (leaves_walk a0 n0 c0 b0 a1 a2 n2 c2 b2 W hn0 hb0 (i64_of w1).1 (i64_of w1).2 hb2 hn2 hc2).mono fun e W' ⟨he, hg⟩ => ?_
  subst he
  exact ⟨_, rfl, law_post hW' (fun _ _ _ => (trodAll_cons_mk (shut_bool Try.underlying4 _) trodAll_mk0)) (trodAll_cons_mk (Below.trod laidOut (by kernel_rfl) (by decide +kernel) h0 hg (fun x hx => hlt x (by simp [hx]))) (trodAll_cons_mk (shut_int Try.underlying3 w1) (trodAll_cons_mk (Below.trod laidOut (by kernel_rfl) (by decide +kernel) h2 hg (fun x hx => hlt x (by simp [hx]))) trodAll_mk0))) rfl (by simp) hg⟩

theorem leaves_holds : Rows.TableLeavesSaid :=
  OpenClaim.holds_of_wide 4 Try.f4 rfl rfl rfl rfl rfl rfl rfl ⟨rfl, rfl, rfl, rfl, rfl⟩ rfl rfl rfl rfl rfl (by kernel_rfl) Try.func4 (by kernel_rfl)
    (of_decide_eq_true (by kernel_rfl)) (by unfold Func.isWrapper; first | (rw [if_pos (by decide +kernel)]; kernel_rfl) | (rw [if_neg (by decide +kernel)]; exact ⟨rfl, rfl⟩))
    (fun os started H enc _ => leaves_lifted os started H enc)
#print axioms leaves_holds

end Go.Proofs.Ytamfkglkgfggaaa
