/- The document's new disk. -/
import Derived.Test.YtdldjpgbifcljaaRFail
namespace Go.Proofs.Ytdldjpgbifcljaa
open Go.RowKit

structure NewR (w wr : World) (b : Nat) (vL : Value) (k : Nat) : Prop where
  a : Box5 wr (b + 1) vL (.slice none 0 0) (.int .i64 (-1)) (.bool false) (.int .i64 0)
  r : ∃ z0 z1 z2 z3 z4, Box5 wr b z0 z1 z2 z3 z4
  below : Below w.heap.size w wr
  l : wr.ownsRow w.heap.size 9 1 vL k (strs (List.replicate k zeros128))
theorem NewR.le {w wr w4 : World} {b k : Nat} {vL : Value} (h : NewR w wr b vL k) (hb : Below wr.heap.size wr w4) : NewR w w4 b vL k := by
  obtain ⟨z0, z1, z2, z3, z4, hr⟩ := h.r
  exact ⟨h.a.below hb, ⟨z0, z1, z2, z3, z4, hr.below hb⟩, h.below.trans (hb.mono h.below.size), own_chg h.l (Chg.of_below (F := []) hb) (fun k hk => by cases hk) (by decide)⟩
theorem NewR.step {w wd w3 : World} {b k : Nat} {vL : Value} (h : NewR w wd b vL k) (hw : w.heap.size ≤ b) {o : Obj} {gN cap : Nat} {S : ByteArray} (hS : strB zeros128 = S)
    (hown : w3.ownsRow w.heap.size 9 1 (.slice (some ⟨gN, 0, none⟩) (k + 1) cap) (k + 1) (strs (List.replicate k zeros128) ++ [.string S])) (hgrow : (wd.alloc o).grownBy w3 vL.ownBlock) :
    NewR w (w3.setCell ⟨b + 1, 0, none⟩ (.slice (some ⟨gN, 0, none⟩) (k + 1) cap)) b (.slice (some ⟨gN, 0, none⟩) (k + 1) cap) (k + 1) := by
  obtain ⟨z0, z1, z2, z3, z4, hr⟩ := h.r
  have hgb : ∀ j, vL.ownBlock = some j → j ≠ b + 1 ∧ j ≠ b := fun j e => by
    obtain ⟨cur, hc⟩ := own_head h.l e
    exact ⟨ne_of_ty hc h.a.hd (by decide), ne_of_ty hc hr.hd (by decide)⟩
  have hC := grow_chg hgrow
  have hA : Box5 w3 (b + 1) vL (.slice none 0 0) (.int .i64 (-1)) (.bool false) (.int .i64 0) := ⟨(hC.block _ h.a.lt (fun e => (hgb _ (by simpa using e)).1 rfl)).trans h.a.hd⟩
  have hR : Box5 w3 b z0 z1 z2 z3 z4 := ⟨(hC.block _ hr.lt (fun e => (hgb _ (by simpa using e)).2 rfl)).trans hr.hd⟩
  have hN : gN ≠ b + 1 := by obtain ⟨cur, hc⟩ := own_head hown rfl; exact ne_of_ty hc hA.hd (by decide)
  refine ⟨hA.set0 _, ⟨z0, z1, z2, z3, z4, hR.other (Nat.ne_of_lt (Nat.lt_succ_self _)) _⟩, (hC.below h.below h.below.size (fun k hk => (h.l.lt k (by simpa using hk)).1)).setCell (Nat.le_succ_of_le hw) _, own_other ?_ (fun j e => by cases e; exact heap_setCell_other _ _ _ _ hN)⟩
  have e : strs (List.replicate (k + 1) zeros128) = strs (List.replicate k zeros128) ++ [.string S] := by
    unfold strs; rw [List.replicate_succ', List.map_append]; simp [hS]
  rw [e]; exact hown
theorem NewR.blk {w wd : World} {b k : Nat} {vL : Value} (h : NewR w wd b vL k) (o : Obj) (w3 : World) (hgrow : (wd.alloc o).grownBy w3 vL.ownBlock) : w3.heap[b + 1]? = wd.heap[b + 1]? :=
  (grow_chg hgrow).block _ h.a.lt (fun e => by
    obtain ⟨cur, hc⟩ := own_head h.l (by simpa using e)
    exact ne_of_ty hc h.a.hd (by decide) rfl)
theorem NewR.far {w wd : World} {b k : Nat} {vL : Value} (h : NewR w wd b vL k) (o : Obj) (w3 : World) (hgrow : (wd.alloc o).grownBy w3 vL.ownBlock) : w3.cell? ⟨b + 1, 0, none⟩ = some vL :=
  (World.cell?_of_block (h.blk o w3 hgrow)).trans h.a.c0
theorem NewR.farz {w wd : World} {b k : Nat} {vL : Value} (h : NewR w wd b vL k) (o : Obj) (w3 : World) (hgrow : (wd.alloc o).grownBy w3 vL.ownBlock) : w3.frozen? ⟨b + 1, 0, none⟩ = false :=
  (World.frozen?_of_block (h.blk o w3 hgrow)).trans (h.a.fz 0)
set_option maxHeartbeats 1600000 in
theorem rnew_raw (n : Nat) (w : World) (hn : n ≤ 2048) :
    Calls Try.prog 12 #[.int .i64 (n : Int)] w fun e w' => (∃ vN, e = .returned (.agg #[vN, .slice none 0 0, .int .i64 (-1), .bool false, .int .i64 0]) ∧ w'.ownsRow 0 9 1 vN n (strs (List.replicate n zeros128))) ∧ Below w.heap.size w w' := by
  obtain ⟨i0, hi0, hz0, hz1, hz2⟩ := info_parts info9
  have HI := Lib.hid hi0
  have HZ0 := Lib.hid hz0
  have HZ1 := Lib.hid hz1
  have HZ2 := Lib.hid hz2
  clear hi0 hz0 hz1 hz2
  obtain ⟨S, HS⟩ : ∃ S, Hid (strB zeros128 = S) := ⟨_, Lib.hid rfl⟩
  have HZA := fun w2 => Lib.hid (zeros_any w2)
  rw [HS.out] at HZA
  have H0 : Hid (NewR w ((w.alloc (.cells #[.slice none 0 0, .slice none 0 0, .int .i64 0, .bool false, .int .i64 0] 33)).alloc (.cells #[.slice none 0 0, .slice none 0 0, .int .i64 (-1), .bool false, .int .i64 0] 33)) w.heap.size (.slice none 0 0) 0) := Lib.hid (by
    have hx := boxes w (.slice none 0 0) (.slice none 0 0) (.int .i64 0) (.bool false) (.int .i64 0) (.slice none 0 0) (.slice none 0 0) (.int .i64 (-1)) (.bool false) (.int .i64 0)
    exact ⟨hx.2, ⟨_, _, _, _, _, hx.1⟩, below2 _ _ _, World.ownsRow_nil _ _ _ _⟩)
  go_enter Try.func12, Try.ntmps12
  go_upto_region 2 with fail
  generalize (w.alloc (.cells #[.slice none 0 0, .slice none 0 0, .int .i64 0, .bool false, .int .i64 0] 33)).alloc (.cells #[.slice none 0 0, .slice none 0 0, .int .i64 (-1), .bool false, .int .i64 0] 33) = w1 at *
  go_wp2_with fail
  go_loopw [4] (fun iv wq => ∃ k : Nat, k ≤ n ∧ iv = .int .i64 (k : Int) ∧ Hid (∃ vL, NewR w wq w.heap.size vL k)) (fun iv _ => n - (intOf iv).toNat)
  case atStart => exact ⟨0, by omega, by go_num, Lib.hid ⟨_, H0.out⟩⟩
  case round =>
    obtain ⟨k, hk, rfl, hr⟩ := hrel
    clear H0
    obtain ⟨vL, hB⟩ := hr.out
    have HB := Lib.hid hB
    clear hr hB
    obtain ⟨qL, cL, hvL⟩ := own_form HB.out.l
    rw [hvL] at HB
    clear hvL
    by_cases hlt : k < n
    · have HONE : Hid (∀ u ∈ [Value.string S], u.oneCell' = true) := Lib.hid (by
        intro u hu
        obtain rfl := List.mem_singleton.1 hu
        rfl)
      have H63 : Hid (k + 1 ≤ maxLen) := Lib.hid (by unfold maxLen; omega)
      have H01 : Hid ((0 : Nat) < 1) := Lib.hid (by omega)
      have HBY : Hid ((k + 1) * 16 ≤ 140737488355328) := Lib.hid (by omega)
      have a0 := HB.out.a.c0
      have af := HB.out.a.fz
      go_wp2_with fail
      go_region_law (first
        | (refine step_append_lies _ rfl (.tmp 12) (.tmp 14) 30 rfl w.heap.size 9 i0 (.string ⟨#[]⟩) 1 16 Try.underlying30 HI.out HZ0.out HZ1.out HZ2.out rfl (by decide) (.slice qL k cL) k _ (by rfl) (HOWNZ.out _) ⟨_, 0, none⟩ 1 1 [.string S] (by rfl) rfl (World.news_of_block (heap_alloc_new _ _)) HONE.out H01.out H63.out HBY.out (HSZZ.out _) _ rfl ?_; intro gN cap w3 hown hgrow hat hlt2; have HNX := Lib.hid (HBZ.out.step (Nat.le_refl _) HS.out hown hgrow); have c0 := HFAR.out _ _ hgrow; have cf := HFARZ.out _ _ hgrow)
        | (go_simp; go_at_call 28; refine (HZA _).out.mono ?_; rintro e wz ⟨rfl, hbz⟩; have HBZ := Lib.hid (HB.out.le ((Below.refl _ _).drew.trans hbz)); have HOWNZ := Lib.hid (fun o : Obj => HBZ.out.l.alloc o); have HSZZ := Lib.hid (fun o : Obj => Nat.le_trans HBZ.out.below.size ((Below.refl 0 wz).alloc (Nat.zero_le _) o).size); have a0z := HBZ.out.a.c0; have a0y : (wz.alloc (.cells #[.string S] 9)).cell? ⟨w.heap.size + 1, 0, none⟩ = _ := (World.cell?_alloc_lt _ _ _ HBZ.out.a.lt).trans a0z; have HFAR := Lib.hid (HBZ.out.far); have HFARZ := Lib.hid (HBZ.out.farz); clear hbz))
      all_goals go_wp2_with fail
      all_goals
        go_roundw
        case rel => exact ⟨k + 1, by omega, by go_num, Lib.hid ⟨_, HNX.out⟩⟩
        case measure => simp [intOf]; omega
    · obtain rfl : k = n := by omega
      have a0 := HB.out.a.c0
      have a1 := HB.out.a.c1
      have a2 := HB.out.a.c2
      have a3 := HB.out.a.c3
      have a4 := HB.out.a.c4
      obtain ⟨z0, z1, z2, z3, z4, hR⟩ := HB.out.r
      have r0 := hR.c0
      have r1 := hR.c1
      have r2 := hR.c2
      have r3 := hR.c3
      have r4 := hR.c4
      have rf := hR.fz
      have HN1 : Hid (∀ j, (Value.slice qL k cL).ownBlock = some j → j ≠ w.heap.size) := Lib.hid (fun j e => by
        obtain ⟨cur, hc⟩ := own_head HB.out.l e
        exact ne_of_ty hc hR.hd (by decide))
      clear hR
      go_wp2_with fail
      refine bodyPost_ret (v := .agg #[.slice qL k cL, .slice none 0 0, .int .i64 (-1), .bool false, .int .i64 0]) (by simp [results, Try.results12, go_sem, r0, r1, r2, r3, r4]) rfl ⟨⟨_, rfl, ?_⟩, ?_⟩
      · refine own_other (base0 HB.out.l) (fun j hj => ?_)
        iterate 4 refine (heap_setCell_other _ _ _ _ (HN1.out j hj)).trans ?_
        exact heap_setCell_other _ _ _ _ (HN1.out j hj)
      · repeat' refine Below.setCell ?_ (by first | exact Nat.le_refl _ | exact Nat.le_succ _) _
        exact HB.out.below
theorem rnew_any (n : Nat) (w : World) (hn : n ≤ 2048) : Calls Try.prog 12 #[.int .i64 (n : Int)] w fun e w' => (∃ y, e = .returned y ∧ Ref w' y (newM n)) ∧ Below w.heap.size w w' := by
  refine (rnew_raw n w hn).mono ?_
  rintro e w' ⟨⟨vN, rfl, hN⟩, hb⟩
  refine ⟨⟨_, rfl, vN, .slice none 0 0, rfl, ?_, World.ownsRow_nil _ _ _ _, Ok.new n⟩, hb⟩
  show World.ownsRow _ 0 9 1 _ (List.replicate n (List.replicate 128 0)).length _
  rw [List.length_replicate]
  exact hN
end Go.Proofs.Ytdldjpgbifcljaa
