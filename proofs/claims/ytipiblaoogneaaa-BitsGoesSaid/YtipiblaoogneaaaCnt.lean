/- How many numbers a set has. -/
import Derived.Test.YtipiblaoogneaaaIter
namespace Go.Proofs.Ytipiblaoogneaaa
open Go.RowKit Go.Shelf
attribute [local go_sem] Oper.semAt_some

/-- What All, and Runs, tell of a set: a function that goes over a set by itself. -/
structure Told (W w' : World) (Bs g b n : Nat) (f : Nat → Bool) : Prop where
  l1 : W.heap.size ≤ Bs
  l2 : W.heap.size ≤ g
  l3 : W.heap.size ≤ b
  h1 : Bs < w'.heap.size
  cell : w'.cell? ⟨Bs, 0, none⟩ = some (.pointer (some ⟨g, 0, none⟩))
  sat : Sat w' g b n f
set_option maxHeartbeats 800000 in
theorem all_any {w : World} {g b n : Nat} {f : Nat → Bool} (h : Sat w g b n f) :
    Calls Try.prog 19 #[.pointer (some ⟨g, 0, none⟩)] w fun e w' => (∃ Bs g' b', e = .returned (.func (.func 40) #[] #[.pointer (some ⟨Bs, 0, none⟩)]) ∧ Told w w' Bs g' b' n f) ∧ Below w.heap.size w w' := by
  have HT := Lib.hid (twin_any h)
  clear h
  go_enter Try.func19, Try.ntmps19
  go_wp2_with (go_at_call 39; refine HT.out.mono ?_; rintro e w7 ⟨⟨g', b', rfl, h1, h2, hS⟩, hb⟩)
  go_ret
  have hb2 := (Below.refl w7.heap.size w7).alloc (Nat.le_refl _) (.cells #[.pointer (some ⟨g', 0, none⟩)] 23)
  exact ⟨⟨w7.heap.size, g', b', rfl, hb.size, h1, h2, by simp, World.cell?_alloc_new w7 _ _ 0, hS.below hb2⟩, hb.alloc hb.size _⟩
set_option maxHeartbeats 800000 in
theorem runs_any {w : World} {g b n : Nat} {f : Nat → Bool} (h : Sat w g b n f) :
    Calls Try.prog 20 #[.pointer (some ⟨g, 0, none⟩)] w fun e w' => (∃ Bs g' b', e = .returned (.func (.func 41) #[] #[.pointer (some ⟨Bs, 0, none⟩)]) ∧ Told w w' Bs g' b' n f) ∧ Below w.heap.size w w' := by
  have HT := Lib.hid (twin_any h)
  clear h
  go_enter Try.func20, Try.ntmps20
  go_wp2_with (go_at_call 39; refine HT.out.mono ?_; rintro e w7 ⟨⟨g', b', rfl, h1, h2, hS⟩, hb⟩)
  go_ret
  have hb2 := (Below.refl w7.heap.size w7).alloc (Nat.le_refl _) (.cells #[.pointer (some ⟨g', 0, none⟩)] 23)
  exact ⟨⟨w7.heap.size, g', b', rfl, hb.size, h1, h2, by simp, World.cell?_alloc_new w7 _ _ 0, hS.below hb2⟩, hb.alloc hb.size _⟩
theorem all_stops (n : Nat) (hn : 1 ≤ n) (Bs g b N M : Nat) (hM : N < M) (f : Nat → Bool) (w : World) (hB : Bs < w.heap.size) (hc : w.cell? ⟨Bs, 0, none⟩ = some (.pointer (some ⟨g, 0, none⟩))) (hS : Sat w g b N f) :
    SeqStopsK Fence.wide n Try.prog 40 #[.pointer (some ⟨Bs, 0, none⟩)] (fun x : Nat => #[Value.int .i64 (x : Int)]) (Three Bs g b) (fun ys => ys = mems f N) (fun pre => ∃ j, j ≤ N ∧ pre = mems f j) M w := fun l J Jx W hW _ _ hY h0 =>
  all1_in n hn l Bs g b N M hM f J Jx hY W ((hW.cell (p := ⟨Bs, 0, none⟩) hB).trans hc) (hS.same (hW.block g hS.glt) (hW.block b hS.blt)) h0
theorem runs_stops (n : Nat) (hn : 1 ≤ n) (Bs g b N M : Nat) (hM : N < M) (f : Nat → Bool) (w : World) (hB : Bs < w.heap.size) (hc : w.cell? ⟨Bs, 0, none⟩ = some (.pointer (some ⟨g, 0, none⟩))) (hS : Sat w g b N f) :
    SeqStopsK Fence.wide n Try.prog 41 #[.pointer (some ⟨Bs, 0, none⟩)] (fun x : Run => #[Value.int .i64 (x.1.val : Int), Value.int .i64 (x.2.val : Int)]) (Three Bs g b) (fun ys => ys = runs f N) (fun _ => True) M w := fun l J Jx W hW _ _ hY h0 =>
  runs1_in n hn l Bs g b N M hM f J Jx hY W ((hW.cell (p := ⟨Bs, 0, none⟩) hB).trans hc) (hS.same (hW.block g hS.glt) (hW.block b hS.blt)) h0
/-- A box that holds a number. -/
structure Bx (w : World) (g : Nat) (v : Int) : Prop where
  cell : w.cell? ⟨g, 0, none⟩ = some (.int .i64 v)
  fz : w.frozen? ⟨g, 0, none⟩ = false
theorem Bx.own {g : Nat} (v : List Run → Int) : Own (fun (pre : List Run) W => Bx W g (v pre)) := fun _ _ _ _ hs hg hr =>
  ⟨cell_kept hs.cell hg hr, (frozen_kept hs.cell hg hr).trans hs.fz⟩
set_option maxRecDepth 100000 in
set_option maxHeartbeats 2000000 in
theorem count_any {w : World} {g b N : Nat} {f : Nat → Bool} (h : Sat w g b N f) :
    Calls Try.prog 29 #[.pointer (some ⟨g, 0, none⟩)] w fun e w' => e = .returned (.int .i64 (cnt f N : Int)) ∧ Below w.heap.size w w' := by
  have hN := h.le
  have HSub := Lib.hid h.sub
  have HT : Hid (∀ w1, Below w.heap.size w w1 → Calls Try.prog 20 #[.pointer (some ⟨g, 0, none⟩)] w1 fun e w' => (∃ Bs g' b', e = .returned (.func (.func 41) #[] #[.pointer (some ⟨Bs, 0, none⟩)]) ∧ Told w1 w' Bs g' b' N f) ∧ Below w1.heap.size w1 w') := Lib.hid fun w1 hb => runs_any (h.below hb)
  have HN := Lib.hid hN
  clear h hN
  refine (callsIn_wide (n := 5)).1 ?_
  refine callsIn_of_wp_marks Try.func29 rfl trivial ?_ rfl
  simp only [Try.ntmps29, List.size_toArray, List.length_cons, List.length_nil, Nat.reduceAdd, Nat.reduceSub, Array.replicate_succ, Array.replicate_zero, List.push_toArray, List.append_toArray, List.nil_append, List.cons_append]
  gi_wp2_with (refine ⟨trivial, ?_⟩; gi_at_call 20; refine (callsIn_wide.2 (HT.out _ ((Below.refl _ _).alloc (Nat.le_refl _) _))).mono ?_; rintro e w7 ⟨⟨Bs, g', b', rfl, hTo⟩, hb⟩)
  obtain ⟨t1, t2, t3, t4, t5, t6⟩ := hTo
  have hbB : Below w.heap.size w w7 := ((Below.refl _ _).alloc (Nat.le_refl _) (.cells #[.int .i64 0] 3)).trans (hb.mono (by simp))
  have hbx : Bx w7 w.heap.size 0 := ⟨(hb.cell (p := ⟨w.heap.size, 0, none⟩) (by simp)).trans (World.cell?_alloc_new w _ _ 0), (World.frozen?_of_block (hb.block w.heap.size (by simp))).trans (free_of_one (heap_alloc_new w _))⟩
  have hsz : w.heap.size < w7.heap.size := by have := hb.size; simp at this; omega
  have hg := t6.glt
  have hbl := t6.blt
  have n1 : Bs ≠ w.heap.size := by simp at t1; omega
  have n2 : g' ≠ w.heap.size := by simp at t2; omega
  have n3 : b' ≠ w.heap.size := by simp at t3; omega
  have HFN : Hid (total (runs f N) = cnt f N) := Lib.hid (by have := runs_total HSub.out HN.out (N + 1) 0 (by omega) (by omega); rw [← this]; show _ = 0 + _; rw [Nat.zero_add]; rfl)
  refine wpIn_rangeFunc_ownG rfl (by omega) (gf := 41) (lb := #[.pointer (some ⟨Bs, 0, none⟩)]) rfl trivial (enters_of Try.func41 (by kernel_rfl) rfl)
    (runs_stops 4 (by omega) Bs g' b' N (N + 1) (by omega) f w7 t4 t5 t6) Three.trans (Three.put t4 hg hbl) (Below.refl _ _) (fun _ => rfl)
    (fun pre W => Bx W w.heap.size (total pre : Int) ∧ Below w.heap.size w W)
    (fun _ _ _ => False)
    (OwnFrom.and (Own.from (Bx.own (fun pre => (total pre : Int))) _) (ownFrom_below (by omega) (by omega)))
    (fun c => ownFrom_pure _ _)
    ⟨hbx, hbB⟩
    (fun x => { tmps := #[.pointer (some ⟨g, 0, none⟩), undef, .int .i64 0, .pointer (some ⟨w.heap.size, 0, none⟩), undef, .int .i64 (x.2.val : Int), .pointer (some ⟨g, 0, none⟩), .func (.func 41) #[] #[.pointer (some ⟨Bs, 0, none⟩)], .int .i64 (x.1.val : Int), .int .i64 (x.2.val : Int), undef, undef, undef, undef], defers := [] }) ?assign ?body ?done ?stop
  case assign =>
    intro l x W K hK
    gi_wp2
    exact hK
  case body =>
    rintro l pre x W ⟨hbx2, hB2⟩ hlen
    have hc := hbx2.cell
    have hf := hbx2.fz
    have hb1 : (total pre : Int) ≤ 5000000 := by have h1 := total_le pre; have := HN.out; omega
    have hb0 : (0 : Int) ≤ (total pre : Int) := by omega
    have HTS : Hid ((total (pre ++ [x]) : Int) = (total pre : Int) + (x.2.val : Int)) := Lib.hid (by rw [total_snoc, Int.natCast_add])
    have hx1 : (x.2.val : Int) ≤ 2048 := by have := x.2.isLt; omega
    have HB2 := Lib.hid hB2
    clear hbx2 hB2 hlen
    generalize total pre = tp at *
    generalize x.2.val = xv at *
    generalize x.1.val = xu at *
    gi_wp2
    refine ⟨(KeepsOthers.setCell _ _ _).from _, Three.setCell n1 n2 n3 _ _, ⟨?_, ?_⟩, HB2.out.setCell (p := ⟨w.heap.size, 0, none⟩) (Nat.le_refl _) _⟩
    · rw [HTS.out]; exact World.cell?_setCell_same' _ _ _ (by rw [hc]; rfl)
    · rw [World.frozen?_setCell]; exact hf
  case done =>
    rintro D ys W hD rfl ⟨hbx2, hB2⟩ hK
    rw [HFN.out] at hbx2
    have hc := hbx2.cell
    clear hbx2
    have HB2 := Lib.hid (hB2.trans (belowK_b (w := w) (Nat.le_refl _) W D _ (.deferred none) (by omega) hK rfl rfl))
    have HK := Lib.hid hK
    clear hB2 hK
    gi_wp2
    refine ⟨by simp, .inl ⟨_, _, rfl, run_takeDeferred HK.out, ?_⟩⟩
    refine ⟨.int .i64 (cnt f N : Int), ?_, rfl, HB2.out⟩
    simp [results, Try.f29, go_sem]
  case stop =>
    rintro D cd pre W hD _ hf hK
    exact hf.elim
end Go.Proofs.Ytipiblaoogneaaa
