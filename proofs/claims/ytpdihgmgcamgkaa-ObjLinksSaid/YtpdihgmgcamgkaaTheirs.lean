/- theirs: a record's parts, one by one, in memory of their own. -/
import Derived.Test.YtpdihgmgcamgkaaMine
set_option linter.unusedSimpArgs false
set_option maxRecDepth 20000
namespace Go.Proofs.Ytpdihgmgcamgkaa
open Go.RowKit

set_option maxHeartbeats 3200000 in
theorem theirs_any (r : Rc) (q : Option Addr) (c : Nat) (w : World) (hn : r.parts.length ≤ 1000) (hp : Pts w q r.parts.length r.parts) :
    Calls Try.prog 16 #[r.val q c] w fun e w' => RecR w w' e r := by
  have HP := Lib.hid hp
  obtain ⟨i0, hi, hz0, hzs, hzb⟩ := info_parts Try.infoRP
  have HI := Lib.hid hi
  have HZ0 := Lib.hid hz0
  have HZ1 := Lib.hid hzs
  have HZ2 := Lib.hid hzb
  clear hp hi hz0 hzs hzb
  obtain ⟨k, l, S⟩ := r
  unfold RecR Rc.val
  simp only at HP hn ⊢
  obtain ⟨n, HN⟩ : ∃ n, Hid (l.length = n) := ⟨_, Lib.hid rfl⟩
  rw [HN.out] at HP hn ⊢
  go_enter Try.func16, Try.ntmps16
  go_upto_region 3 with fail
  obtain ⟨W, hW⟩ : ∃ W, Hid (((w.alloc (.cells #[.int .i64 k, .slice q n c, .string S] 33)).alloc (.cells #[.int .i64 0, .slice none 0 0, .string ⟨#[]⟩] 24)).alloc (.cells #[.int .i64 k, .slice none 0 0, .string S] 24) = W) := ⟨_, Lib.hid rfl⟩
  have HM0 : Hid (MiR w W k (.slice q n c) S 33 24 50 0 l (.slice none 0 0)) := Lib.hid (by
    rw [← hW.out]
    refine ⟨(((Below.refl _ _).alloc (Nat.le_refl _) _).alloc (by simp) _).alloc (by simp; omega) _, ?_, ⟨_, ?_, rfl⟩, ?_, World.ownsRow_nil _ _ _ _⟩
    · rw [Below.heap_alloc _ _ _ (by simp; omega), Below.heap_alloc _ _ _ (by simp)]; exact heap_alloc_new w _
    · rw [Below.heap_alloc _ _ _ (by simp)]
      have := heap_alloc_new (w.alloc (.cells #[.int .i64 k, .slice q n c, .string S] 33)) (.cells #[.int .i64 0, .slice none 0 0, .string ⟨#[]⟩] 24)
      simpa using this
    · have := heap_alloc_new ((w.alloc (.cells #[.int .i64 k, .slice q n c, .string S] 33)).alloc (.cells #[.int .i64 0, .slice none 0 0, .string ⟨#[]⟩] 24)) (.cells #[.int .i64 k, .slice none 0 0, .string S] 24)
      simpa using this)
  rw [hW.out]
  clear hW
  go_loopw [4] (fun iv wr => ∃ (i : Nat) (v : Value), i ≤ n ∧ iv = .int .i64 (i : Int) ∧ Hid (MiR w wr k (.slice q n c) S 33 24 50 i l v)) (fun iv _ => n - (intOf iv).toNat)
  case atStart => exact ⟨0, _, by omega, by go_num, HM0⟩
  case round =>
    obtain ⟨i, v, hi, rfl, HM⟩ := hrel
    have a1 := cell_of_row _ _ 1 _ _ _ HM.out.x1
    simp at a1
    by_cases hlt : i < n
    · obtain ⟨b, o, rfl, hc⟩ := (HP.out.below (HM.out.below.mono (Nat.le_refl _))).2 (by omega)
      obtain ⟨p0, p1, p2⟩ := hc i hlt
      obtain ⟨p, HPP⟩ : ∃ p, Hid (l.getD i default = p) := ⟨_, Lib.hid rfl⟩
      rw [HPP.out] at p0 p1 p2
      have hd1 : decide ((i : Int) < (n : Int)) = true := by simp; omega
      have HLT : Hid (i < l.length) := Lib.hid (by rw [HN.out]; exact hlt)
      obtain ⟨qv, cv, hv⟩ := own_form HM.out.row
      subst hv
      have t1 := cell_of_row _ _ 1 _ _ _ HM.out.x3
      have tf := frozen_of_row _ _ 1 _ _ HM.out.x3
      simp at t1
      have L1 := Lib.hid (lt_of_block HM.out.x1)
      have L3 := Lib.hid (lt_of_block HM.out.x3)
      have LBW := Lib.hid (HP.out.lt (by omega))
      have LB : Hid (b < wr.heap.size) := Lib.hid (World.block_lt_of_cell? _ _ p0)
      have HOWN : Hid (∀ ob : Obj, (wr.alloc ob).drew.ownsRow (w.heap.size + 3) 50 3 (.slice qv i cv) i (pflat (l.take i))) := Lib.hid (fun ob => own_other HM.out.row (fun g hg => Below.heap_alloc wr ob g (HM.out.row.lt g hg).2))
      have HONE : Hid (∀ u ∈ [Value.int .i64 p.k, .int .i64 p.n, .string p.s], u.oneCell' = true) := Lib.hid (by
        intro u hu
        simp at hu
        rcases hu with rfl | rfl | rfl <;> rfl)
      have HNX : Hid (∀ (ob : Obj) (w3 : World) (v' : Value), w3.ownsRow (w.heap.size + 3) 50 3 v' (i + 1) (pflat (l.take i) ++ [.int .i64 p.k, .int .i64 p.n, .string p.s]) → (wr.alloc ob).drew.grownBy w3 (Value.slice qv i cv).ownBlock →
          w3.heap[w.heap.size + 2]? = some (.cells #[.int .i64 k, .slice qv i cv, .string S] 24 (0, 0)) ∧ MiR w (w3.setCell ⟨w.heap.size + 2, 1, none⟩ v') k (.slice (some ⟨b, o, none⟩) n c) S 33 24 50 (i + 1) l v') :=
        Lib.hid (fun ob w3 v' h1 h2 => HM.out.next ob HLT.out HPP.out h1 h2)
      have H63 : Hid (i + 1 ≤ maxLen) := Lib.hid (by unfold maxLen; omega)
      have HNN : Hid ((0 : Nat) < 1) := Lib.hid (by omega)
      have HBS : Hid (∀ ob : Obj, w.heap.size + 3 ≤ (wr.alloc ob).drew.heap.size) := Lib.hid (fun ob => by show _ ≤ (wr.alloc ob).heap.size; have := L3.out; simp; omega)
      clear hc
      go_upto_region 5 with fail
      have HRD : Hid (∀ (ob : Obj) (w3 : World), (wr.alloc ob).drew.grownBy w3 (Value.slice qv i cv).ownBlock → w3.cell? ⟨w.heap.size + 2, 1, none⟩ = some (.slice qv i cv) ∧ w3.frozen? ⟨w.heap.size + 2, 1, none⟩ = false) := Lib.hid (fun ob w3 hg => by
        have h0 : w3.heap[w.heap.size + 2]? = wr.heap[w.heap.size + 2]? :=
          (hg.block _ (by show _ < (wr.alloc ob).heap.size; have := L3.out; simp; omega) (fun e => by have := (HM.out.row.lt _ e.symm).1; omega)).trans (Below.heap_alloc wr ob _ L3.out)
        exact ⟨(World.cell?_of_block h0).trans t1, (World.frozen?_of_block h0).trans tf⟩)
      have HRS : Hid (∀ (ob : Obj) (w3 : World), (wr.alloc ob).drew.grownBy w3 (Value.slice qv i cv).ownBlock → w3.cell? ⟨w.heap.size, 1, none⟩ = some (.slice (some ⟨b, o, none⟩) n c) ∧ w3.cell? ⟨b, o + i * 3, none⟩ = some (.int .i64 p.k) ∧ w3.cell? ⟨b, o + i * 3 + 1, none⟩ = some (.int .i64 p.n) ∧ w3.cell? ⟨b, o + i * 3 + 2, none⟩ = some (.string p.s)) := Lib.hid (fun ob w3 hg => by
        have h0 : ∀ g, g < wr.heap.size → g < w.heap.size + 3 → w3.heap[g]? = wr.heap[g]? := fun g h1 h2 =>
          (hg.block _ (by show _ < (wr.alloc ob).heap.size; simp; omega) (fun e => by have := (HM.out.row.lt _ e.symm).1; omega)).trans (Below.heap_alloc wr ob _ h1)
        have e1 := h0 _ L1.out (by omega)
        have e2 : w3.heap[b]? = wr.heap[b]? := h0 b LB.out (by have := LBW.out; omega)
        exact ⟨(World.cell?_of_block e1).trans a1, (World.cell?_of_block e2).trans p0, (World.cell?_of_block e2).trans p1, (World.cell?_of_block e2).trans p2⟩)
      have q1 : w.heap.size ≠ w.heap.size + 1 + 1 := by omega
      have q2 : b ≠ w.heap.size + 1 + 1 := by have := LBW.out; omega
      have m1 := fun ob => (World.cell?_alloc_lt wr ob ⟨w.heap.size + 2, 1, none⟩ L3.out).trans t1
      refine wp_region_held_drew (S := (fun u : World => u.cell? ⟨w.heap.size, 1, none⟩ = some (.slice (some ⟨b, o, none⟩) n c) ∧ u.cell? ⟨b, o + i * 3, none⟩ = some (.int .i64 p.k) ∧ u.cell? ⟨b, o + i * 3 + 1, none⟩ = some (.int .i64 p.n) ∧ u.cell? ⟨b, o + i * 3 + 2, none⟩ = some (.string p.s))) (by kernel_rfl) ⟨a1, p0, p1, p2⟩ (fun hHeld => ?_)
      refine wpAnyH_take (i := 0) (v := ?_) rfl (by kernel_rfl) (by kernel_rfl) (by kernel_rfl) (fun _ _ _ h => h) (Or.inl ⟨by rfl, ?_⟩) (by assumption) ?_
      rotate_left
      · intro w hSw
        try dsimp only at hSw
        go_simp
        all_goals (with_reducible rfl)
      try simp only [Act.put]
      try simp only [List.setIfInBounds_toArray]
      try simp only [List.set]
      refine wpAnyH_take (i := 2) (v := ?_) rfl (by kernel_rfl) (by kernel_rfl) (by kernel_rfl) (fun _ _ _ h => h) (Or.inl ⟨by rfl, ?_⟩) (by assumption) ?_
      rotate_left
      · intro w hSw
        try dsimp only at hSw
        go_simp
        all_goals (with_reducible rfl)
      try simp only [Act.put]
      try simp only [List.setIfInBounds_toArray]
      try simp only [List.set]
      refine wpAnyH_take (i := 3) (v := ?_) rfl (by kernel_rfl) (by kernel_rfl) (by kernel_rfl) (fun _ _ _ h => h) (Or.inl ⟨by rfl, ?_⟩) (by assumption) ?_
      rotate_left
      · intro w hSw
        try dsimp only at hSw
        go_simp
        all_goals (with_reducible rfl)
      try simp only [Act.put]
      try simp only [List.setIfInBounds_toArray]
      try simp only [List.set]
      refine wpAnyH_take (i := 4) (v := ?_) rfl (by kernel_rfl) (by kernel_rfl) (by kernel_rfl) (fun _ _ _ h => h) (Or.inl ⟨by rfl, ?_⟩) (by assumption) ?_
      rotate_left
      · intro w hSw
        try dsimp only at hSw
        go_simp
        all_goals (with_reducible rfl)
      try simp only [Act.put]
      try simp only [List.setIfInBounds_toArray]
      try simp only [List.set]
      refine wpAnyH_take (i := 5) (v := ?_) rfl (by kernel_rfl) (by kernel_rfl) (by kernel_rfl) (fun _ _ _ h => h) (Or.inl ⟨by rfl, ?_⟩) (by assumption) ?_
      rotate_left
      · intro w hSw
        try dsimp only at hSw
        go_simp
        all_goals (with_reducible rfl)
      try simp only [Act.put]
      try simp only [List.setIfInBounds_toArray]
      try simp only [List.set]
      refine wpAnyH_take (i := 6) (v := ?_) rfl (by kernel_rfl) (by kernel_rfl) (by kernel_rfl) (fun _ _ _ h => h) (Or.inl ⟨by rfl, ?_⟩) (by assumption) ?_
      rotate_left
      · intro w hSw
        try dsimp only at hSw
        go_simp
        all_goals (with_reducible rfl)
      try simp only [Act.put]
      try simp only [List.setIfInBounds_toArray]
      try simp only [List.set]
      refine wpAnyH_take (i := 7) (v := ?_) rfl (by kernel_rfl) (by kernel_rfl) (by kernel_rfl) (fun _ _ _ h => h) (Or.inl ⟨by rfl, ?_⟩) (by assumption) ?_
      rotate_left
      · intro w hSw
        try dsimp only at hSw
        go_simp
        all_goals (with_reducible rfl)
      try simp only [Act.put]
      try simp only [List.setIfInBounds_toArray]
      try simp only [List.set]
      refine wpAnyH_take (i := 8) (v := ?_) rfl (by kernel_rfl) (by kernel_rfl) (by kernel_rfl) (fun _ _ _ h => h) (Or.inl ⟨by rfl, ?_⟩) (by assumption) ?_
      rotate_left
      · intro w hSw
        try dsimp only at hSw
        go_simp
        all_goals (with_reducible rfl)
      try simp only [Act.put]
      try simp only [List.setIfInBounds_toArray]
      try simp only [List.set]
      refine wpAnyH_take (i := 9) (v := ?_) rfl (by kernel_rfl) (by kernel_rfl) (by kernel_rfl) (fun _ _ _ h => h) (Or.inl ⟨by rfl, ?_⟩) (by assumption) ?_
      rotate_left
      · intro w hSw
        try dsimp only at hSw
        go_simp
        all_goals (with_reducible rfl)
      try simp only [Act.put]
      try simp only [List.setIfInBounds_toArray]
      try simp only [List.set]
      refine wpAnyH_take (i := 10) (v := ?_) rfl (by kernel_rfl) (by kernel_rfl) (by kernel_rfl) (fun _ _ _ h => h) (Or.inl ⟨by rfl, ?_⟩) (by assumption) ?_
      rotate_left
      · intro w hSw
        try dsimp only at hSw
        go_simp
        all_goals (with_reducible rfl)
      try simp only [Act.put]
      try simp only [List.setIfInBounds_toArray]
      try simp only [List.set]
      refine wpAnyH_take (i := 11) (v := ?_) rfl (by kernel_rfl) (by kernel_rfl) (by kernel_rfl) (fun _ _ _ h => h) (Or.inl ⟨by rfl, ?_⟩) (by assumption) ?_
      rotate_left
      · intro w hSw
        try dsimp only at hSw
        go_simp
        all_goals (with_reducible rfl)
      try simp only [Act.put]
      try simp only [List.setIfInBounds_toArray]
      try simp only [List.set]
      refine wpAnyH_take (i := 12) (v := ?_) rfl (by kernel_rfl) (by kernel_rfl) (by kernel_rfl) (fun _ _ _ h => h) (Or.inl ⟨by rfl, ?_⟩) (by assumption) ?_
      rotate_left
      · intro w hSw
        try dsimp only at hSw
        go_simp
        all_goals (with_reducible rfl)
      try simp only [Act.put]
      try simp only [List.setIfInBounds_toArray]
      try simp only [List.set]
      refine wpAnyH_take (i := 13) (v := ?_) rfl (by kernel_rfl) (by kernel_rfl) (by kernel_rfl) (fun _ _ _ h => h) (Or.inl ⟨by rfl, ?_⟩) (by assumption) ?_
      rotate_left
      · intro w hSw
        try dsimp only at hSw
        go_simp
        all_goals (with_reducible rfl)
      try simp only [Act.put]
      try simp only [List.setIfInBounds_toArray]
      try simp only [List.set]
      refine wpAnyH_take (i := 14) (v := ?_) rfl (by kernel_rfl) (by kernel_rfl) (by kernel_rfl) (fun _ _ _ h => h) (Or.inl ⟨by rfl, ?_⟩) (by assumption) ?_
      rotate_left
      · intro w hSw
        try dsimp only at hSw
        go_simp
        all_goals (with_reducible rfl)
      try simp only [Act.put]
      try simp only [List.setIfInBounds_toArray]
      try simp only [List.set]
      refine wpAnyH_take (i := 15) (v := ?_) rfl (by kernel_rfl) (by kernel_rfl) (by kernel_rfl) (fun _ _ _ h => h) (Or.inl ⟨by rfl, ?_⟩) (by assumption) ?_
      rotate_left
      · intro w hSw
        try dsimp only at hSw
        go_simp
        all_goals (with_reducible rfl)
      try simp only [Act.put]
      try simp only [List.setIfInBounds_toArray]
      try simp only [List.set]
      refine wpAnyH_take (i := 16) (v := ?_) rfl (by kernel_rfl) (by kernel_rfl) (by kernel_rfl) (fun _ _ _ h => h) (Or.inl ⟨by rfl, ?_⟩) (by assumption) ?_
      rotate_left
      · intro w hSw
        try dsimp only at hSw
        go_simp
        all_goals (with_reducible rfl)
      try simp only [Act.put]
      try simp only [List.setIfInBounds_toArray]
      try simp only [List.set]
      refine wpAnyH_take (i := 17) (v := ?_) rfl (by kernel_rfl) (by kernel_rfl) (by kernel_rfl) (fun _ _ _ h => h) (Or.inl ⟨by rfl, ?_⟩) (by assumption) ?_
      rotate_left
      · intro w hSw
        try dsimp only at hSw
        go_simp
        all_goals (with_reducible rfl)
      try simp only [Act.put]
      try simp only [List.setIfInBounds_toArray]
      try simp only [List.set]
      refine wpAnyH_take (i := 18) (v := ?_) rfl (by kernel_rfl) (by kernel_rfl) (by kernel_rfl) (fun _ _ _ h => h) (Or.inl ⟨by rfl, ?_⟩) (by assumption) ?_
      rotate_left
      · intro w hSw
        try dsimp only at hSw
        go_simp
        all_goals (with_reducible rfl)
      try simp only [Act.put]
      try simp only [List.setIfInBounds_toArray]
      try simp only [List.set]
      refine wpAnyH_take (i := 19) (v := ?_) rfl (by kernel_rfl) (by kernel_rfl) (by kernel_rfl) (fun _ _ _ h => h) (Or.inl ⟨by rfl, ?_⟩) (by assumption) ?_
      rotate_left
      · intro w hSw
        try dsimp only at hSw
        go_simp
        all_goals (with_reducible rfl)
      try simp only [Act.put]
      try simp only [List.setIfInBounds_toArray]
      try simp only [List.set]
      refine wpAnyH_take (i := 20) (v := ?_) rfl (by kernel_rfl) (by kernel_rfl) (by kernel_rfl) (fun _ _ _ h => h) (Or.inl ⟨by rfl, ?_⟩) (by assumption) ?_
      rotate_left
      · intro w hSw
        try dsimp only at hSw
        go_simp
        all_goals (with_reducible rfl)
      try simp only [Act.put]
      try simp only [List.setIfInBounds_toArray]
      try simp only [List.set]
      refine wpAnyH_ready (rs := [1, 21]) (by kernel_rfl) (by simp) ?_
      refine AllReadyH.cons rfl (fun K hK => ?_) (AllReadyH.cons rfl (fun K hK => ?_) AllReadyH.nil)
      · go_simp
        refine hK.out _ _ ?_ (fun hHeld => ?_)
        · exact ⟨a1, p0, p1, p2⟩
        clear hK K
        try simp only [Act.put]
        try simp only [List.setIfInBounds_toArray]
        try simp only [List.set]
        refine wpAnyH_ready (rs := [21]) (by kernel_rfl) (by simp) ?_
        refine AllReadyH.cons rfl (fun K hK => ?_) AllReadyH.nil
        go_simp
        refine hK.out _ _ ?_ (fun hHeld => ?_)
        · exact ⟨(World.cell?_alloc_lt _ _ _ L1.out).trans a1, (World.cell?_alloc_lt _ _ _ LB.out).trans p0, (World.cell?_alloc_lt _ _ _ LB.out).trans p1, (World.cell?_alloc_lt _ _ _ LB.out).trans p2⟩
        clear hK K
        try simp only [Act.put]
        try simp only [List.setIfInBounds_toArray]
        try simp only [List.set]
        refine wpAnyH_ready (rs := [22]) (by kernel_rfl) (by simp) ?_
        refine AllReadyH.cons rfl (fun K hK => ?_) AllReadyH.nil
        refine step_append_lies _ rfl (.tmp 18) (.tmp 38) 22 rfl (w.heap.size + 3) 50 i0 (.agg #[.int .i64 0, .int .i64 0, .string ⟨#[]⟩]) 3 32 Try.underlying22 HI.out HZ0.out HZ1.out HZ2.out rfl (by decide) (.slice qv i cv) i (pflat (l.take i)) (by rfl) (HOWN.out _) ⟨_, 0, none⟩ 1 1 [.int .i64 p.k, .int .i64 p.n, .string p.s] (by rfl) rfl (World.news_of_block (heap_alloc_new _ _)) HONE.out HNN.out H63.out (by omega) (HBS.out _) _ rfl ?_
        intro gN cap2 w3 hown hgrow hat hlt3
        obtain ⟨c2, f2⟩ := HRD.out _ _ hgrow
        obtain ⟨s0, s1, s2, s3⟩ := HRS.out _ _ hgrow
        clear hHeld
        refine hK.out _ _ ?_ (fun hHeld => ?_)
        · exact ⟨s0, s1, s2, s3⟩
        clear hK K
        try simp only [Act.put]
        try simp only [List.setIfInBounds_toArray]
        try simp only [List.set]
        refine wpAnyH_take (i := 23) (v := ?_) rfl (by kernel_rfl) (by kernel_rfl) (by kernel_rfl) (fun _ _ _ h => h) (Or.inl ⟨by rfl, ?_⟩) (by assumption) ?_
        rotate_left
        · intro w hSw
          try dsimp only at hSw
          go_simp
          all_goals (with_reducible rfl)
        try simp only [Act.put]
        try simp only [List.setIfInBounds_toArray]
        try simp only [List.set]
        refine wpAnyH_ready (rs := [24]) (by kernel_rfl) (by simp) ?_
        refine AllReadyH.cons rfl (fun K hK => ?_) AllReadyH.nil
        go_simp
        refine hK.out _ _ ?_ (fun hHeld => ?_)
        · exact ⟨(set_at q1).trans s0, (set_at q2).trans s1, (set_at q2).trans s2, (set_at q2).trans s3⟩
        clear hK K
        try simp only [Act.put]
        try simp only [List.setIfInBounds_toArray]
        try simp only [List.set]
        refine wpAnyH_done (by kernel_rfl) ?_ _
        have HPN := Lib.hid (HNX.out _ _ _ hown hgrow).2
        clear hown hgrow hat hlt3 c2 f2 s0 s1 s2 s3 hHeld
        go_wp2_with fail
        go_roundw
        case rel => exact ⟨i + 1, _, by omega, by go_num, HPN⟩
        case measure => simp [intOf]; omega
      · go_simp
        refine hK.out _ _ ?_ (fun hHeld => ?_)
        · exact ⟨(World.cell?_alloc_lt _ _ _ L1.out).trans a1, (World.cell?_alloc_lt _ _ _ LB.out).trans p0, (World.cell?_alloc_lt _ _ _ LB.out).trans p1, (World.cell?_alloc_lt _ _ _ LB.out).trans p2⟩
        clear hK K
        try simp only [Act.put]
        try simp only [List.setIfInBounds_toArray]
        try simp only [List.set]
        refine wpAnyH_ready (rs := [1]) (by kernel_rfl) (by simp) ?_
        refine AllReadyH.cons rfl (fun K hK => ?_) AllReadyH.nil
        go_simp
        refine hK.out _ _ ?_ (fun hHeld => ?_)
        · exact ⟨(World.cell?_alloc_lt _ _ _ L1.out).trans a1, (World.cell?_alloc_lt _ _ _ LB.out).trans p0, (World.cell?_alloc_lt _ _ _ LB.out).trans p1, (World.cell?_alloc_lt _ _ _ LB.out).trans p2⟩
        clear hK K
        try simp only [Act.put]
        try simp only [List.setIfInBounds_toArray]
        try simp only [List.set]
        refine wpAnyH_ready (rs := [22]) (by kernel_rfl) (by simp) ?_
        refine AllReadyH.cons rfl (fun K hK => ?_) AllReadyH.nil
        refine step_append_lies _ rfl (.tmp 18) (.tmp 38) 22 rfl (w.heap.size + 3) 50 i0 (.agg #[.int .i64 0, .int .i64 0, .string ⟨#[]⟩]) 3 32 Try.underlying22 HI.out HZ0.out HZ1.out HZ2.out rfl (by decide) (.slice qv i cv) i (pflat (l.take i)) (by rfl) (HOWN.out _) ⟨_, 0, none⟩ 1 1 [.int .i64 p.k, .int .i64 p.n, .string p.s] (by rfl) rfl (World.news_of_block (heap_alloc_new _ _)) HONE.out HNN.out H63.out (by omega) (HBS.out _) _ rfl ?_
        intro gN cap2 w3 hown hgrow hat hlt3
        obtain ⟨c2, f2⟩ := HRD.out _ _ hgrow
        obtain ⟨s0, s1, s2, s3⟩ := HRS.out _ _ hgrow
        clear hHeld
        refine hK.out _ _ ?_ (fun hHeld => ?_)
        · exact ⟨s0, s1, s2, s3⟩
        clear hK K
        try simp only [Act.put]
        try simp only [List.setIfInBounds_toArray]
        try simp only [List.set]
        refine wpAnyH_take (i := 23) (v := ?_) rfl (by kernel_rfl) (by kernel_rfl) (by kernel_rfl) (fun _ _ _ h => h) (Or.inl ⟨by rfl, ?_⟩) (by assumption) ?_
        rotate_left
        · intro w hSw
          try dsimp only at hSw
          go_simp
          all_goals (with_reducible rfl)
        try simp only [Act.put]
        try simp only [List.setIfInBounds_toArray]
        try simp only [List.set]
        refine wpAnyH_ready (rs := [24]) (by kernel_rfl) (by simp) ?_
        refine AllReadyH.cons rfl (fun K hK => ?_) AllReadyH.nil
        go_simp
        refine hK.out _ _ ?_ (fun hHeld => ?_)
        · exact ⟨(set_at q1).trans s0, (set_at q2).trans s1, (set_at q2).trans s2, (set_at q2).trans s3⟩
        clear hK K
        try simp only [Act.put]
        try simp only [List.setIfInBounds_toArray]
        try simp only [List.set]
        refine wpAnyH_done (by kernel_rfl) ?_ _
        have HPN := Lib.hid (HNX.out _ _ _ hown hgrow).2
        clear hown hgrow hat hlt3 c2 f2 s0 s1 s2 s3 hHeld
        go_wp2_with fail
        go_roundw
        case rel => exact ⟨i + 1, _, by omega, by go_num, HPN⟩
        case measure => simp [intOf]; omega
    · obtain rfl : i = n := by omega
      have HTK : Hid (l.take i = l) := Lib.hid (by rw [← HN.out, List.take_length])
      obtain ⟨z, hz, rfl⟩ := HM.out.x2
      have g0 := cell_of_row _ _ 0 _ _ _ hz
      have g1 := cell_of_row _ _ 1 _ _ _ hz
      have g2 := cell_of_row _ _ 2 _ _ _ hz
      have f0 := frozen_of_row _ _ 0 _ _ hz
      have f1 := frozen_of_row _ _ 1 _ _ hz
      have f2 := frozen_of_row _ _ 2 _ _ hz
      have e0 := cell_of_row _ _ 0 _ _ _ HM.out.x3
      have e1 := cell_of_row _ _ 1 _ _ _ HM.out.x3
      have e2 := cell_of_row _ _ 2 _ _ _ HM.out.x3
      simp at g0 g1 g2 e0 e1 e2
      obtain ⟨qv, cv, hv⟩ := own_form HM.out.row
      subst hv
      have hrow := HM.out.row
      rw [HTK.out] at hrow
      have HS := heap_setCell_same _ _ 2 _ _ (.string S) (heap_setCell_same _ _ 1 _ _ (.slice qv i cv) (heap_setCell_same _ _ 0 _ _ (.int .i64 k) hz))
      have HSH := Lib.hid HS
      have HRW : Hid (Pts (((wr.setCell ⟨w.heap.size + 1, 0, none⟩ (.int .i64 k)).setCell ⟨w.heap.size + 1, 1, none⟩ (.slice qv i cv)).setCell ⟨w.heap.size + 1, 2, none⟩ (.string S)) qv i l) := Lib.hid (Pts.own (own_other hrow (fun g e => by
        have := (hrow.lt g e).1
        rw [Below.heap_setCell _ _ _ _ (by show g ≠ w.heap.size + 1; omega), Below.heap_setCell _ _ _ _ (by show g ≠ w.heap.size + 1; omega), Below.heap_setCell _ _ _ _ (by show g ≠ w.heap.size + 1; omega)])))
      have HBW : Hid (Below w.heap.size w (((wr.setCell ⟨w.heap.size + 1, 0, none⟩ (.int .i64 k)).setCell ⟨w.heap.size + 1, 1, none⟩ (.slice qv i cv)).setCell ⟨w.heap.size + 1, 2, none⟩ (.string S))) :=
        Lib.hid (((HM.out.below.setCell (by show w.heap.size ≤ w.heap.size + 1; omega) _).setCell (by show w.heap.size ≤ w.heap.size + 1; omega) _).setCell (by show w.heap.size ≤ w.heap.size + 1; omega) _)
      clear hz hrow HS
      go_wp2_with fail
      have z0 := cell_of_row _ _ 0 _ _ _ HSH.out
      have z1 := cell_of_row _ _ 1 _ _ _ HSH.out
      have z2 := cell_of_row _ _ 2 _ _ _ HSH.out
      simp at z0 z1 z2
      exact bodyPost_ret (v := .agg #[.int .i64 k, .slice qv i cv, .string S]) (by simp [results, Try.results16, go_sem, z0, z1, z2]) rfl ⟨qv, cv, rfl, HRW.out, HBW.out⟩
end Go.Proofs.Ytpdihgmgcamgkaa
