/- A copy of a table; the function that goes over a table. -/
import Derived.Test.YtamfkglkgfggaaaGap
import Derived.RangeFuncNested
import Derived.RangeFuncBound
import Derived.RangeFuncCalls
import Derived.RangeFuncLeaves
import Derived.RangeFuncBox
import Derived.Shelf.Abstract
import Derived.Shelf.RegionOpen
import Derived.WalkKit
import Derived.OwnWalkIn
import Derived.TacticsInMore
import Derived.LoopNIn
import Derived.LoopIn
import Derived.Great.BuildSlice
namespace Go.Proofs.Ytamfkglkgfggaaa
open Go.RowKit Go.Shelf
attribute [local go_sem] Oper.semAt_some

theorem size84 : (Try.prog.info? 84).map (·.size) = some 512 := by kernel_rfl
theorem size82 : (Try.prog.info? 82).map (·.size) = some 512 := by kernel_rfl
theorem size81 : (Try.prog.info? 81).map (·.size) = some 128 := by kernel_rfl
theorem size25 : (Try.prog.info? 25).map (·.size) = some 512 := by kernel_rfl
set_option maxHeartbeats 800000 in
theorem fold_list (o : Nat) : ∀ (l : List Value) (s : Nat) (C : Array Value), o + s + l.length ≤ C.size → ∀ k, ((l.zipIdx s).foldl (fun cs (x : Value × Nat) => cs.setIfInBounds (o + x.2) x.1) C)[k]? = if o + s ≤ k ∧ k < o + s + l.length then l[k - o - s]? else C[k]?
  | [], s, C, _, k => by
    simp only [List.length_nil]; rw [if_neg (by omega)]; first | rfl | done
  | v :: r, s, C, h, k => by
    rw [List.length_cons] at h
    rw [List.zipIdx_cons, List.foldl_cons, fold_list o r (s + 1) _ (by rw [Array.size_setIfInBounds]; omega) k]
    by_cases e : k = o + s
    · subst e
      rw [if_neg (by omega), if_pos (by simp), Array.getElem?_setIfInBounds, if_pos rfl, if_pos (by omega)]
      rw [show o + s - o - s = 0 by omega]; rfl
    · by_cases hin : o + s ≤ k ∧ k < o + s + (v :: r).length
      · rw [List.length_cons] at hin
        rw [if_pos (by omega), if_pos (by rw [List.length_cons]; omega), show k - o - s = (k - o - (s + 1)) + 1 by omega]
        rfl
      · rw [if_neg hin]
        rw [List.length_cons] at hin
        rw [if_neg (by omega), Array.getElem?_setIfInBounds, if_neg (by omega)]
theorem fold_all (Z C : Array Value) (h : C.size = Z.size) : Z.zipIdx.foldl (fun cs (x : Value × Nat) => cs.setIfInBounds (0 + x.2) x.1) C = Z := by
  apply Array.ext_getElem?
  intro k
  have := fold_list 0 Z.toList 0 C (by simp [h]) k
  rw [← Array.foldl_toList, Array.toList_zipIdx]
  rw [this]
  by_cases hk : k < Z.size
  · rw [if_pos (by simp; exact hk)]; simp
  · rw [if_neg (by simp; omega), Array.getElem?_eq_none (by omega), Array.getElem?_eq_none (by omega)]
theorem built84 (Z : Array Value) (h : Z.size = 512) : Try.prog.built 84 [(0, .agg Z)] = some Z := by
  have h1 := info84
  have h2 := size82
  unfold Program.built
  rw [Try.underlying84]
  cases q : Try.prog.info? 84 with
  | none => rw [q] at h1; cases h1
  | some it =>
    rw [q] at h1
    cases q2 : Try.prog.info? 82 with
    | none => rw [q2] at h2; cases h2
    | some it2 =>
      rw [q2] at h2
      simp only [Option.map_some, Option.some.injEq, Prod.mk.injEq] at h1 h2
      obtain ⟨h1, -⟩ := h1
      simp only [h1, List.mapM_cons, List.mapM_nil, q2, Option.map_some, h2]
      simp only [Option.bind_eq_bind, Option.bind_some, Option.pure_def]
      unfold Instr.fill
      simp only [List.getElem?_toArray, List.getElem?_cons_zero, Value.cells, h, rowA_size]
      rw [if_neg (by decide)]
      unfold Instr.fill
      rw [fold_all Z _ (by rw [rowA_size, h])]
set_option maxRecDepth 100000 in
theorem copy_any {w : World} {g : Nat} {f : Nat → Nat} (h : Tab w g f) :
    Calls Try.prog 31 #[.pointer (some ⟨g, 0, none⟩)] w fun e w' => e = .returned (.pointer (some ⟨w.heap.size, 0, none⟩)) ∧ Tab w' w.heap.size f ∧ Below w.heap.size w w' := by
  have HR : Hid (w.heap[g]? = some (.cells (rowA f 512) 84 (0, 0))) := Lib.hid h.row
  have HN : Hid (Tab (w.alloc (.cells (rowA f 512) 84)) w.heap.size f) := Lib.hid ⟨heap_alloc_new w _, h.ok⟩
  have HB : Hid (Below w.heap.size w (w.alloc (.cells (rowA f 512) 84))) := Lib.hid ((Below.refl _ _).alloc (Nat.le_refl _) _)
  have HS : Hid ((Try.prog.info? 82).map (·.size) = some (rowA f 512).size) := Lib.hid (by rw [size82, rowA_size])
  obtain ⟨hz, -⟩ := zero_of_info (P := Try.prog) info84
  have hs1 : (rowA f 512).size = 512 := rowA_size _ _
  have hs0 : (rowA (fun _ => 0) 512).size = 512 := rowA_size _ _
  have hfo : Array.foldl (fun (cs : Array Value) (x : Value × Nat) => cs.setIfInBounds x.snd x.fst) (rowA (fun _ => 0) 512) (rowA f 512).zipIdx 0 (rowA f 512).size = rowA f 512 := by
    have h := fold_all (rowA f 512) (rowA (fun _ => 0) 512) (by rw [hs0, hs1])
    simp only [Nat.zero_add, Array.size_zipIdx] at h
    exact h
  rw [hs1] at hfo
  clear h
  generalize rowA (fun _ => 0) 512 = Z0 at *
  generalize rowA f 512 = Z at *
  go_enter Try.func31, Try.ntmps31
  go_wp2_with (refine wpList_load_row rfl 82 (.tmp 7) rfl g rfl 84 Z (0, 0) _ HR.out Try.underlying82 rfl HS.out ?_)
  go_ret
  exact ⟨rfl, HN.out, HB.out⟩

/-- What All tells of a table: a function that goes over a table by itself. -/
structure Told (W w' : World) (Bs g : Nat) (f : Nat → Nat) : Prop where
  l1 : W.heap.size ≤ Bs
  l2 : W.heap.size ≤ g
  ne : Bs ≠ g
  h1 : Bs < w'.heap.size
  cell : w'.cell? ⟨Bs, 0, none⟩ = some (.pointer (some ⟨g, 0, none⟩))
  tab : Tab w' g f
set_option maxHeartbeats 800000 in
theorem all_any {w : World} {g : Nat} {f : Nat → Nat} (h : Tab w g f) :
    Calls Try.prog 9 #[.pointer (some ⟨g, 0, none⟩)] w fun e w' => (∃ Bs g', e = .returned (.func (.func 32) #[] #[.pointer (some ⟨Bs, 0, none⟩)]) ∧ Told w w' Bs g' f) ∧ Below w.heap.size w w' := by
  have HT := Lib.hid (copy_any h)
  clear h
  go_enter Try.func9, Try.ntmps9
  go_wp2_with (go_at_call 31; refine HT.out.mono ?_; rintro e w7 ⟨rfl, hS, hb⟩)
  go_ret
  have hb2 := (Below.refl w7.heap.size w7).alloc (Nat.le_refl _) (.cells #[.pointer (some ⟨w.heap.size, 0, none⟩)] 23)
  exact ⟨⟨w7.heap.size, w.heap.size, rfl, hb.size, Nat.le_refl _, by have := hS.lt; omega, by simp, World.cell?_alloc_new w7 _ _ 0, hS.below hb2⟩, hb.alloc hb.size _⟩

/-- Two blocks lie as they lay. -/
def Two (x y : Nat) (A B : World) : Prop := B.heap[x]? = A.heap[x]? ∧ B.heap[y]? = A.heap[y]?
theorem Two.refl (x y : Nat) (A : World) : Two x y A A := ⟨rfl, rfl⟩
theorem Two.trans {x y : Nat} {A B C : World} (h : Two x y A B) (k : Two x y B C) : Two x y A C := ⟨k.1.trans h.1, k.2.trans h.2⟩
theorem Two.of_below {n₀ x y : Nat} {A B : World} (h : Below n₀ A B) (hx : x < n₀) (hy : y < n₀) : Two x y A B := ⟨h.block x hx, h.block y hy⟩
theorem Two.fst {x y o : Nat} {A B : World} (h : Two x y A B) : B.cell? ⟨x, o, none⟩ = A.cell? ⟨x, o, none⟩ := World.cell?_of_block (w := A) h.1
theorem Two.tab {x g : Nat} {f : Nat → Nat} {A B : World} (h : Two x g A B) (hS : Tab A g f) : Tab B g f := hS.same h.2
theorem Two.put {w : World} {x y : Nat} (hx : x < w.heap.size) (hy : y < w.heap.size) (W : World) (l : Nat) (o o' : Obj) (hl : w.heap.size ≤ l) (h : W.heap[l]? = some o) (h1 : o.isCells = false) (h2 : o.isWalk = false) : Two x y W (W.putObj l o') :=
  Two.of_below (belowK_b (w := w) (Nat.le_refl _) W l o o' hl h h1 h2) hx hy
theorem Two.setCell {x y g i : Nat} (hx : x ≠ g) (hy : y ≠ g) (v : Value) (w : World) : Two x y w (w.setCell ⟨g, i, none⟩ v) := ⟨Below.heap_setCell w _ v x hx, Below.heap_setCell w _ v y hy⟩

/-- The numbers below a bound that are told. -/
def mems (f : Nat → Bool) (s : Nat) : List Nat := (List.range s).filter f
theorem mems_hit {f : Nat → Bool} {j : Nat} (h : f j = true) : mems f (j + 1) = mems f j ++ [j] := by
  unfold mems
  rw [List.range_succ, List.filter_append]; simp [h]
theorem mems_miss {f : Nat → Bool} {j : Nat} (h : f j = false) : mems f (j + 1) = mems f j := by
  unfold mems
  rw [List.range_succ, List.filter_append]; simp [h]
theorem mems_len (f : Nat → Bool) (s : Nat) : (mems f s).length ≤ s := by
  unfold mems
  exact Nat.le_trans (List.length_filter_le _ _) (by simp)
theorem mems_cnt (f : Nat → Bool) (s : Nat) : (mems f s).length = cnt f s := by
  induction s with
  | zero => rfl
  | succ s ih =>
    cases h : f s with
    | true => rw [mems_hit h, List.length_append, ih]; show _ = cnt f s + (f s).toNat; rw [h]; rfl
    | false => rw [mems_miss h, ih]; show _ = cnt f s + (f s).toNat; rw [h]; rfl
/-- What the body is told of a page. -/
def tell (f : Nat → Nat) (x : Nat) : Array Value := #[.int .i64 (x : Int), .int .i64 ((f x : Nat) : Int)]
set_option maxRecDepth 100000 in
set_option maxHeartbeats 2000000 in
theorem all1_in (n : Nat) (hn : 1 ≤ n) (l Bs g : Nat) (f : Nat → Nat) (J Jx : List Nat → World → Prop)
    (hY : ∀ (pre : List Nat) (x : Nat) W, J pre W → pre.length < 513 → YieldAt Fence.wide (n - 1) Try.prog l (tell f x) W fun e W' =>
      (e = .returned (.bool true) ∧ J (pre ++ [x]) W' ∧ Two Bs g W W') ∨ (e = .returned (.bool false) ∧ Jx (pre ++ [x]) W'))
    (W : World) (hBs : W.cell? ⟨Bs, 0, none⟩ = some (.pointer (some ⟨g, 0, none⟩))) (hS : Tab W g f) (h0 : J [] W) :
    CallsIn Fence.wide n Try.prog 32 #[.func (.yield l) #[] #[], .pointer (some ⟨Bs, 0, none⟩)] W fun e W' => (∃ v, e = .returned v) ∧
      ((∃ ys, ys = mems (told f) 512 ∧ J ys W') ∨ (∃ pre, (∃ j, j ≤ 512 ∧ pre = mems (told f) j) ∧ Jx pre W')) := by
  have HS := Lib.hid hS
  have HY := Lib.hid hY
  have HBs := Lib.hid hBs
  clear hS hY hBs
  refine callsIn_of_wp Try.func32 rfl trivial ?_ rfl
  simp only [Try.ntmps32, List.size_toArray, List.length_cons, List.length_nil, Nat.reduceAdd, Nat.reduceSub, Array.replicate_succ, Array.replicate_zero, List.push_toArray, List.append_toArray, List.nil_append, List.cons_append]
  gi_wp2
  gi_loopw [6] (fun i wr => ∃ s : Nat, s ≤ 512 ∧ i = .int .i64 (s : Int) ∧ J (mems (told f) s) wr ∧ Two Bs g W wr)
    (fun i _ => 512 - (intOf i).toNat)
  case atStart => exact ⟨0, Nat.zero_le _, rfl, h0, Two.refl _ _ _⟩
  case round =>
    obtain ⟨s, hs, rfl, hJs, hnx⟩ := hrel
    have HNX := Lib.hid hnx
    have HJ := Lib.hid hJs
    clear hnx hJs
    by_cases hlt : s < 512
    · have hd : decide ((s : Int) < 512) = true := decide_eq_true (by omega)
      have hb : wr.cell? ⟨Bs, 0, none⟩ = some (.pointer (some ⟨g, 0, none⟩)) := HNX.out.fst.trans HBs.out
      have HG := Lib.hid (get_in (HNX.out.tab HS.out) s hlt)
      have hz : (s : Int) ≤ 512 := by omega
      have HL := Lib.hid hlt
      have HSS := Lib.hid hs
      clear hlt hs
      cases ht : told f s with
      | false =>
        have HM : Hid (mems (told f) (s + 1) = mems (told f) s) := Lib.hid (mems_miss ht)
        rw [ht] at HG
        clear ht
        gi_wp2_with (refine ⟨trivial, ?_⟩; gi_at_call 30; refine (callsIn_wide.2 HG.out).mono ?_; rintro e w' ⟨rfl, rfl⟩)
        refine ⟨fun _ h => (by cases h), ?_⟩
        gi_wp2
        go_roundw
        case rel => exact ⟨s + 1, by have := HL.out; omega, by go_num, by rw [HM.out]; exact HJ.out, HNX.out⟩
        case measure => have := HL.out; simp [intOf]; omega
      | true =>
        have HM : Hid (mems (told f) s ++ [s] = mems (told f) (s + 1)) := Lib.hid (mems_hit ht).symm
        have hy0 := HY.out _ s wr HJ.out (by have := mems_len (told f) s; have := HL.out; omega)
        rw [HM.out] at hy0
        unfold tell at hy0
        rw [ht] at HG
        clear ht
        obtain ⟨fn, tmps, assign, body, hy, hR⟩ := hy0
        gi_wp2_with (refine ⟨trivial, ?_⟩; gi_at_call 30; refine (callsIn_wide.2 HG.out).mono ?_; rintro e w' ⟨rfl, rfl⟩)
        refine hR.mono ?_
        rintro e W3 (⟨rfl, hJ3, hk3⟩ | ⟨rfl, hJx3⟩)
        · have HK3 := Lib.hid (HNX.out.trans hk3)
          clear hk3
          gi_wp2
          go_roundw
          case rel => exact ⟨s + 1, by have := HL.out; omega, by go_num, hJ3, HK3.out⟩
          case measure => have := HL.out; simp [intOf]; omega
        · gi_wp2
          refine bodyPost_ret (results_none rfl _ _ _) rfl ?_
          exact ⟨⟨_, rfl⟩, .inr ⟨_, ⟨s + 1, by have := HL.out; omega, rfl⟩, hJx3⟩⟩
    · have hd : decide ((s : Int) < 512) = false := decide_eq_false (by omega)
      have HE : Hid (s = 512) := Lib.hid (by omega)
      clear hlt hs
      gi_wp2
      go_end0
      exact ⟨⟨_, rfl⟩, .inl ⟨_, rfl, by have := HJ.out; rwa [HE.out] at this⟩⟩
theorem all_stops (n : Nat) (hn : 1 ≤ n) (Bs g : Nat) (f : Nat → Nat) (w : World) (hB : Bs < w.heap.size) (hc : w.cell? ⟨Bs, 0, none⟩ = some (.pointer (some ⟨g, 0, none⟩))) (hS : Tab w g f) :
    SeqStopsK Fence.wide n Try.prog 32 #[.pointer (some ⟨Bs, 0, none⟩)] (tell f) (Two Bs g) (fun ys => ys = mems (told f) 512) (fun pre => ∃ j, j ≤ 512 ∧ pre = mems (told f) j) 513 w := fun l J Jx W hW _ _ hY h0 =>
  all1_in n hn l Bs g f J Jx hY W ((hW.cell (p := ⟨Bs, 0, none⟩) hB).trans hc) (hS.same (hW.block g hS.lt)) h0
/-- A box that holds a number. -/
structure Bx (w : World) (g : Nat) (v : Int) : Prop where
  cell : w.cell? ⟨g, 0, none⟩ = some (.int .i64 v)
  fz : w.frozen? ⟨g, 0, none⟩ = false
theorem Bx.own {g : Nat} (v : List Nat → Int) : Own (fun (pre : List Nat) W => Bx W g (v pre)) := fun _ _ _ _ hs hg hr =>
  ⟨cell_kept hs.cell hg hr, (frozen_kept hs.cell hg hr).trans hs.fz⟩
set_option maxRecDepth 100000 in
set_option maxHeartbeats 2000000 in
theorem len_any {w : World} {g : Nat} {f : Nat → Nat} (h : Tab w g f) :
    Calls Try.prog 10 #[.pointer (some ⟨g, 0, none⟩)] w fun e w' => e = .returned (.int .i64 (cnt (told f) 512 : Int)) ∧ Below w.heap.size w w' := by
  have HT : Hid (∀ w1, Below w.heap.size w w1 → Calls Try.prog 9 #[.pointer (some ⟨g, 0, none⟩)] w1 fun e w' => (∃ Bs g', e = .returned (.func (.func 32) #[] #[.pointer (some ⟨Bs, 0, none⟩)]) ∧ Told w1 w' Bs g' f) ∧ Below w1.heap.size w1 w') := Lib.hid fun w1 hb => all_any (h.below hb)
  clear h
  refine (callsIn_wide (n := 5)).1 ?_
  refine callsIn_of_wp_marks Try.func10 rfl trivial ?_ rfl
  simp only [Try.ntmps10, List.size_toArray, List.length_cons, List.length_nil, Nat.reduceAdd, Nat.reduceSub, Array.replicate_succ, Array.replicate_zero, List.push_toArray, List.append_toArray, List.nil_append, List.cons_append]
  gi_wp2_with (refine ⟨trivial, ?_⟩; gi_at_call 9; refine (callsIn_wide.2 (HT.out _ ((Below.refl _ _).alloc (Nat.le_refl _) _))).mono ?_; rintro e w7 ⟨⟨Bs, g', rfl, hTo⟩, hb⟩)
  obtain ⟨t1, t2, t3, t4, t5, t6⟩ := hTo
  have hbB : Below w.heap.size w w7 := ((Below.refl _ _).alloc (Nat.le_refl _) (.cells #[.int .i64 0] 3)).trans (hb.mono (by simp))
  have hbx : Bx w7 w.heap.size 0 := ⟨(hb.cell (p := ⟨w.heap.size, 0, none⟩) (by simp)).trans (World.cell?_alloc_new w _ _ 0), (World.frozen?_of_block (hb.block w.heap.size (by simp))).trans (free_of_one (heap_alloc_new w _))⟩
  have hsz : w.heap.size < w7.heap.size := by have := hb.size; simp at this; omega
  have hg := t6.lt
  have n1 : Bs ≠ w.heap.size := by simp at t1; omega
  have n2 : g' ≠ w.heap.size := by simp at t2; omega
  have HFN : Hid (((mems (told f) 512).length : Int) = (cnt (told f) 512 : Int)) := Lib.hid (by rw [mems_cnt])
  refine wpIn_rangeFunc_ownG rfl (by omega) (gf := 32) (lb := #[.pointer (some ⟨Bs, 0, none⟩)]) rfl trivial (enters_of Try.func32 (by kernel_rfl) rfl)
    (all_stops 4 (by omega) Bs g' f w7 t4 t5 t6) Two.trans (Two.put t4 hg) (Below.refl _ _) (fun _ => rfl)
    (fun pre W => Bx W w.heap.size (pre.length : Int) ∧ Below w.heap.size w W)
    (fun _ _ _ => False)
    (OwnFrom.and (Own.from (Bx.own (fun pre => (pre.length : Int))) _) (ownFrom_below (by omega) (by omega)))
    (fun c => ownFrom_pure _ _)
    ⟨hbx, hbB⟩
    (fun x => { tmps := #[.pointer (some ⟨g, 0, none⟩), undef, .int .i64 0, .pointer (some ⟨w.heap.size, 0, none⟩), .pointer (some ⟨g, 0, none⟩), .func (.func 32) #[] #[.pointer (some ⟨Bs, 0, none⟩)], .int .i64 (x : Int), .int .i64 ((f x : Nat) : Int), undef, undef, undef], defers := [] }) ?assign ?body ?done ?stop
  case assign =>
    intro l x W K hK
    unfold tell
    gi_wp2
    first
      | exact hK
      | (simp; exact hK)
  case body =>
    rintro l pre x W ⟨hbx2, hB2⟩ hlen
    have hc := hbx2.cell
    have hf := hbx2.fz
    have hb1 : (pre.length : Int) ≤ 512 := by omega
    have hb0 : (0 : Int) ≤ (pre.length : Int) := by omega
    have HTS : Hid (((pre ++ [x]).length : Int) = (pre.length : Int) + 1) := Lib.hid (by rw [List.length_append]; simp)
    have HB2 := Lib.hid hB2
    clear hbx2 hB2 hlen
    generalize pre.length = tp at *
    generalize f x = xv at *
    gi_wp2
    refine ⟨(KeepsOthers.setCell _ _ _).from _, Two.setCell n1 n2 _ _, ⟨?_, ?_⟩, HB2.out.setCell (p := ⟨w.heap.size, 0, none⟩) (Nat.le_refl _) _⟩
    · rw [HTS.out]; exact World.cell?_setCell_same' _ _ _ (by rw [hc]; rfl)
    · rw [World.frozen?_setCell]; exact hf
  case done =>
    rintro D ys W hD rfl ⟨hbx2, hB2⟩ hK
    rw [HFN.out] at hbx2
    have hc := hbx2.cell
    clear hbx2
    have HB2 := Lib.hid (hB2.trans (belowK_b (w := w) (Nat.le_refl _) W D _ (.deferred none) (by omega) hK rfl rfl))
    have HK := Lib.hid hK
    clear hB2 hK
    generalize hN : cnt (told f) 512 = N at *
    gi_wp2
    refine ⟨by simp, .inl ⟨_, _, rfl, run_takeDeferred HK.out, ?_⟩⟩
    refine ⟨.int .i64 (N : Int), ?_, by rw [hN], HB2.out⟩
    simp [results, Try.f10, go_sem]
  case stop =>
    rintro D cd pre W hD _ hf hK
    exact hf.elim
end Go.Proofs.Ytamfkglkgfggaaa
