/- Texts TCopy to TTake of this seat, laid into one. -/
import Derived.RangeFuncNested
import Derived.RangeFuncBound
import Derived.RangeFuncCalls
import Derived.RangeFuncLeaves
import Derived.RangeFuncBox
import Derived.Shelf.Abstract
import Derived.Shelf.RegionOpen
import Derived.WalkKit
import Derived.OwnWalkIn
import Derived.TacticsInMore
import Derived.LoopNIn
import Derived.LoopIn
import Derived.Great.BuildSlice
import Derived.Test.YtmbecjlioogbhaaGreatDoorM03
set_option linter.unusedVariables false
set_option linter.unusedSimpArgs false
set_option linter.constructorNameAsVariable false
section
/-! A copy of a table; the function that goes over a table. -/
set_option maxRecDepth 20000
namespace Go.Proofs.YtmbecjlioogbhaaGreatDoor.Tb
open Go.Proofs.YtmbecjlioogbhaaGreatDoor.Bi
open Go.RowKit Go.Shelf
attribute [local go_sem] Oper.semAt_some

theorem size185 : (Tryz.prog.info? 185).map (·.size) = some 512 := by kernel_rfl
theorem size184 : (Tryz.prog.info? 184).map (·.size) = some 128 := by kernel_rfl
set_option maxHeartbeats 800000 in
theorem fold_list (o : Nat) : ∀ (l : List Value) (s : Nat) (C : Array Value), o + s + l.length ≤ C.size → ∀ k, ((l.zipIdx s).foldl (fun cs (x : Value × Nat) => cs.setIfInBounds (o + x.2) x.1) C)[k]? = if o + s ≤ k ∧ k < o + s + l.length then l[k - o - s]? else C[k]?
  | [], s, C, _, k => by
    simp only [List.length_nil]; rw [if_neg (by omega)]; first | rfl | done
  | v :: r, s, C, h, k => by
    rw [List.length_cons] at h
    rw [List.zipIdx_cons, List.foldl_cons, fold_list o r (s + 1) _ (by rw [Array.size_setIfInBounds]; omega) k]
    by_cases e : k = o + s
    · subst e
      rw [if_neg (by omega), if_pos (by simp), Array.getElem?_setIfInBounds, if_pos rfl, if_pos (by omega)]
      rw [show o + s - o - s = 0 by omega]; rfl
    · by_cases hin : o + s ≤ k ∧ k < o + s + (v :: r).length
      · rw [List.length_cons] at hin
        rw [if_pos (by omega), if_pos (by rw [List.length_cons]; omega), show k - o - s = (k - o - (s + 1)) + 1 by omega]
        rfl
      · rw [if_neg hin]
        rw [List.length_cons] at hin
        rw [if_neg (by omega), Array.getElem?_setIfInBounds, if_neg (by omega)]
theorem fold_all (Z C : Array Value) (h : C.size = Z.size) : Z.zipIdx.foldl (fun cs (x : Value × Nat) => cs.setIfInBounds (0 + x.2) x.1) C = Z := by
  apply Array.ext_getElem?
  intro k
  have := fold_list 0 Z.toList 0 C (by simp [h]) k
  rw [← Array.foldl_toList, Array.toList_zipIdx]
  rw [this]
  by_cases hk : k < Z.size
  · rw [if_pos (by simp; exact hk)]; simp
  · rw [if_neg (by simp; omega), Array.getElem?_eq_none (by omega), Array.getElem?_eq_none (by omega)]
set_option maxRecDepth 100000 in
theorem copy_any {w : World} {g : Nat} {f : Nat → Nat} (h : Tab w g f) :
    Calls Tryz.prog 129 #[.pointer (some ⟨g, 0, none⟩)] w fun e w' => e = .returned (.pointer (some ⟨w.heap.size, 0, none⟩)) ∧ Tab w' w.heap.size f ∧ Below w.heap.size w w' := by
  have HR : Hid (w.heap[g]? = some (.cells (rowA f 512) 187 (0, 0))) := Lib.hid h.row
  have HN : Hid (Tab (w.alloc (.cells (rowA f 512) 187)) w.heap.size f) := Lib.hid ⟨heap_alloc_new w _, h.ok⟩
  have HB : Hid (Below w.heap.size w (w.alloc (.cells (rowA f 512) 187))) := Lib.hid ((Below.refl _ _).alloc (Nat.le_refl _) _)
  have HS : Hid ((Tryz.prog.info? 185).map (·.size) = some (rowA f 512).size) := Lib.hid (by rw [size185, rowA_size])
  obtain ⟨hz, -⟩ := zero_of_info (P := Tryz.prog) info187
  have hs1 : (rowA f 512).size = 512 := rowA_size _ _
  have hs0 : (rowA (fun _ => 0) 512).size = 512 := rowA_size _ _
  have hfo : Array.foldl (fun (cs : Array Value) (x : Value × Nat) => cs.setIfInBounds x.snd x.fst) (rowA (fun _ => 0) 512) (rowA f 512).zipIdx 0 (rowA f 512).size = rowA f 512 := by
    have h := fold_all (rowA f 512) (rowA (fun _ => 0) 512) (by rw [hs0, hs1])
    simp only [Nat.zero_add, Array.size_zipIdx] at h
    exact h
  rw [hs1] at hfo
  clear h
  generalize rowA (fun _ => 0) 512 = Z0 at *
  generalize rowA f 512 = Z at *
  go_enter Tryz.func129, Tryz.ntmps129
  go_wp2_with (refine wpList_load_row rfl 185 (.tmp 7) rfl g rfl 187 Z (0, 0) _ HR.out Tryz.underlying185 rfl HS.out ?_)
  go_ret
  exact ⟨rfl, HN.out, HB.out⟩

/-- What All tells of a table: a function that goes over a table by itself. -/
structure Told (W w' : World) (Bs g : Nat) (f : Nat → Nat) : Prop where
  l1 : W.heap.size ≤ Bs
  l2 : W.heap.size ≤ g
  ne : Bs ≠ g
  h1 : Bs < w'.heap.size
  cell : w'.cell? ⟨Bs, 0, none⟩ = some (.pointer (some ⟨g, 0, none⟩))
  tab : Tab w' g f
set_option maxHeartbeats 800000 in
theorem all_any {w : World} {g : Nat} {f : Nat → Nat} (h : Tab w g f) :
    Calls Tryz.prog 93 #[.pointer (some ⟨g, 0, none⟩)] w fun e w' => (∃ Bs g', e = .returned (.func (.func 151) #[] #[.pointer (some ⟨Bs, 0, none⟩)]) ∧ Told w w' Bs g' f) ∧ Below w.heap.size w w' := by
  have HT := Lib.hid (copy_any h)
  clear h
  go_enter Tryz.func93, Tryz.ntmps93
  go_wp2_with (go_at_call 129; refine HT.out.mono ?_; rintro e w7 ⟨rfl, hS, hb⟩)
  go_ret
  have hb2 := (Below.refl w7.heap.size w7).alloc (Nat.le_refl _) (.cells #[.pointer (some ⟨w.heap.size, 0, none⟩)] 95)
  exact ⟨⟨w7.heap.size, w.heap.size, rfl, hb.size, Nat.le_refl _, by have := hS.lt; omega, by simp, World.cell?_alloc_new w7 _ _ 0, hS.below hb2⟩, hb.alloc hb.size _⟩

/-- Two blocks lie as they lay. -/
def Two (x y : Nat) (A B : World) : Prop := B.heap[x]? = A.heap[x]? ∧ B.heap[y]? = A.heap[y]?
theorem Two.refl (x y : Nat) (A : World) : Two x y A A := ⟨rfl, rfl⟩
theorem Two.trans {x y : Nat} {A B C : World} (h : Two x y A B) (k : Two x y B C) : Two x y A C := ⟨k.1.trans h.1, k.2.trans h.2⟩
theorem Two.of_below {n₀ x y : Nat} {A B : World} (h : Below n₀ A B) (hx : x < n₀) (hy : y < n₀) : Two x y A B := ⟨h.block x hx, h.block y hy⟩
theorem Two.fst {x y o : Nat} {A B : World} (h : Two x y A B) : B.cell? ⟨x, o, none⟩ = A.cell? ⟨x, o, none⟩ := World.cell?_of_block (w := A) h.1
theorem Two.tab {x g : Nat} {f : Nat → Nat} {A B : World} (h : Two x g A B) (hS : Tab A g f) : Tab B g f := hS.same h.2
theorem Two.put {w : World} {x y : Nat} (hx : x < w.heap.size) (hy : y < w.heap.size) (W : World) (l : Nat) (o o' : Obj) (hl : w.heap.size ≤ l) (h : W.heap[l]? = some o) (h1 : o.isCells = false) (h2 : o.isWalk = false) : Two x y W (W.putObj l o') :=
  Two.of_below (belowK_b (w := w) (Nat.le_refl _) W l o o' hl h h1 h2) hx hy
theorem Two.setCell {x y g i : Nat} (hx : x ≠ g) (hy : y ≠ g) (v : Value) (w : World) : Two x y w (w.setCell ⟨g, i, none⟩ v) := ⟨Below.heap_setCell w _ v x hx, Below.heap_setCell w _ v y hy⟩

/-- The numbers below a bound that are told. -/
def mems (f : Nat → Bool) (s : Nat) : List Nat := (List.range s).filter f
theorem mems_hit {f : Nat → Bool} {j : Nat} (h : f j = true) : mems f (j + 1) = mems f j ++ [j] := by
  unfold mems
  rw [List.range_succ, List.filter_append]; simp [h]
theorem mems_miss {f : Nat → Bool} {j : Nat} (h : f j = false) : mems f (j + 1) = mems f j := by
  unfold mems
  rw [List.range_succ, List.filter_append]; simp [h]
theorem mems_len (f : Nat → Bool) (s : Nat) : (mems f s).length ≤ s := by
  unfold mems
  exact Nat.le_trans (List.length_filter_le _ _) (by simp)
theorem mems_cnt (f : Nat → Bool) (s : Nat) : (mems f s).length = cnt f s := by
  induction s with
  | zero => rfl
  | succ s ih =>
    cases h : f s with
    | true => rw [mems_hit h, List.length_append, ih]; show _ = cnt f s + (f s).toNat; rw [h]; rfl
    | false => rw [mems_miss h, ih]; show _ = cnt f s + (f s).toNat; rw [h]; rfl
/-- What the body is told of a page. -/
def tell (f : Nat → Nat) (x : Nat) : Array Value := #[.int .i64 (x : Int), .int .i64 ((f x : Nat) : Int)]
set_option maxRecDepth 100000 in
set_option maxHeartbeats 2000000 in
theorem all1_in (n : Nat) (hn : 1 ≤ n) (l Bs g : Nat) (f : Nat → Nat) (J Jx : List Nat → World → Prop)
    (hY : ∀ (pre : List Nat) (x : Nat) W, J pre W → pre.length < 513 → YieldAt Fence.wide (n - 1) Tryz.prog l (tell f x) W fun e W' =>
      (e = .returned (.bool true) ∧ J (pre ++ [x]) W' ∧ Two Bs g W W') ∨ (e = .returned (.bool false) ∧ Jx (pre ++ [x]) W'))
    (W : World) (hBs : W.cell? ⟨Bs, 0, none⟩ = some (.pointer (some ⟨g, 0, none⟩))) (hS : Tab W g f) (h0 : J [] W) :
    CallsIn Fence.wide n Tryz.prog 151 #[.func (.yield l) #[] #[], .pointer (some ⟨Bs, 0, none⟩)] W fun e W' => (∃ v, e = .returned v) ∧
      ((∃ ys, ys = mems (told f) 512 ∧ J ys W') ∨ (∃ pre, (∃ j, j ≤ 512 ∧ pre = mems (told f) j) ∧ Jx pre W')) := by
  have HS := Lib.hid hS
  have HY := Lib.hid hY
  have HBs := Lib.hid hBs
  clear hS hY hBs
  refine callsIn_of_wp Tryz.func151 rfl trivial ?_ rfl
  simp only [Tryz.ntmps151, List.size_toArray, List.length_cons, List.length_nil, Nat.reduceAdd, Nat.reduceSub, Array.replicate_succ, Array.replicate_zero, List.push_toArray, List.append_toArray, List.nil_append, List.cons_append]
  gi_wp2
  gi_loopw [6] (fun i wr => ∃ s : Nat, s ≤ 512 ∧ i = .int .i64 (s : Int) ∧ J (mems (told f) s) wr ∧ Two Bs g W wr)
    (fun i _ => 512 - (RowKit.intOf i).toNat)
  case atStart => exact ⟨0, Nat.zero_le _, rfl, h0, Two.refl _ _ _⟩
  case round =>
    obtain ⟨s, hs, rfl, hJs, hnx⟩ := hrel
    have HNX := Lib.hid hnx
    have HJ := Lib.hid hJs
    clear hnx hJs
    by_cases hlt : s < 512
    · have hd : decide ((s : Int) < 512) = true := decide_eq_true (by omega)
      have hb : wr.cell? ⟨Bs, 0, none⟩ = some (.pointer (some ⟨g, 0, none⟩)) := HNX.out.fst.trans HBs.out
      have HG := Lib.hid (get_in (HNX.out.tab HS.out) s hlt)
      have hz : (s : Int) ≤ 512 := by omega
      have HL := Lib.hid hlt
      have HSS := Lib.hid hs
      clear hlt hs
      cases ht : told f s with
      | false =>
        have HM : Hid (mems (told f) (s + 1) = mems (told f) s) := Lib.hid (mems_miss ht)
        rw [ht] at HG
        clear ht
        gi_wp2_with (refine ⟨trivial, ?_⟩; gi_at_call 77; refine (callsIn_wide.2 HG.out).mono ?_; rintro e w' ⟨rfl, rfl⟩)
        refine ⟨fun _ h => (by cases h), ?_⟩
        gi_wp2
        go_roundw
        case rel => exact ⟨s + 1, by have := HL.out; omega, by go_num, by rw [HM.out]; exact HJ.out, HNX.out⟩
        case measure => have := HL.out; simp [RowKit.intOf]; omega
      | true =>
        have HM : Hid (mems (told f) s ++ [s] = mems (told f) (s + 1)) := Lib.hid (mems_hit ht).symm
        have hy0 := HY.out _ s wr HJ.out (by have := mems_len (told f) s; have := HL.out; omega)
        rw [HM.out] at hy0
        unfold tell at hy0
        rw [ht] at HG
        clear ht
        obtain ⟨fn, tmps, assign, body, hy, hR⟩ := hy0
        gi_wp2_with (refine ⟨trivial, ?_⟩; gi_at_call 77; refine (callsIn_wide.2 HG.out).mono ?_; rintro e w' ⟨rfl, rfl⟩)
        refine hR.mono ?_
        rintro e W3 (⟨rfl, hJ3, hk3⟩ | ⟨rfl, hJx3⟩)
        · have HK3 := Lib.hid (HNX.out.trans hk3)
          clear hk3
          gi_wp2
          go_roundw
          case rel => exact ⟨s + 1, by have := HL.out; omega, by go_num, hJ3, HK3.out⟩
          case measure => have := HL.out; simp [RowKit.intOf]; omega
        · gi_wp2
          refine bodyPost_ret (results_none rfl _ _ _) rfl ?_
          exact ⟨⟨_, rfl⟩, .inr ⟨_, ⟨s + 1, by have := HL.out; omega, rfl⟩, hJx3⟩⟩
    · have hd : decide ((s : Int) < 512) = false := decide_eq_false (by omega)
      have HE : Hid (s = 512) := Lib.hid (by omega)
      clear hlt hs
      gi_wp2
      go_end0
      exact ⟨⟨_, rfl⟩, .inl ⟨_, rfl, by have := HJ.out; rwa [HE.out] at this⟩⟩
theorem all_stops (n : Nat) (hn : 1 ≤ n) (Bs g : Nat) (f : Nat → Nat) (w : World) (hB : Bs < w.heap.size) (hc : w.cell? ⟨Bs, 0, none⟩ = some (.pointer (some ⟨g, 0, none⟩))) (hS : Tab w g f) :
    SeqStopsK Fence.wide n Tryz.prog 151 #[.pointer (some ⟨Bs, 0, none⟩)] (tell f) (Two Bs g) (fun ys => ys = mems (told f) 512) (fun pre => ∃ j, j ≤ 512 ∧ pre = mems (told f) j) 513 w := fun l J Jx W hW _ _ hY h0 =>
  all1_in n hn l Bs g f J Jx hY W ((hW.cell (p := ⟨Bs, 0, none⟩) hB).trans hc) (hS.same (hW.block g hS.lt)) h0
/-- A box that holds a number. -/
structure Bx (w : World) (g : Nat) (v : Int) : Prop where
  cell : w.cell? ⟨g, 0, none⟩ = some (.int .i64 v)
  fz : w.frozen? ⟨g, 0, none⟩ = false
theorem Bx.own {g : Nat} (v : List Nat → Int) : Own (fun (pre : List Nat) W => Bx W g (v pre)) := fun _ _ _ _ hs hg hr =>
  ⟨cell_kept hs.cell hg hr, (frozen_kept hs.cell hg hr).trans hs.fz⟩
set_option maxRecDepth 100000 in
set_option maxHeartbeats 2000000 in
theorem len_any {w : World} {g : Nat} {f : Nat → Nat} (h : Tab w g f) :
    Calls Tryz.prog 50 #[.pointer (some ⟨g, 0, none⟩)] w fun e w' => e = .returned (.int .i64 (cnt (told f) 512 : Int)) ∧ Below w.heap.size w w' := by
  have HT : Hid (∀ w1, Below w.heap.size w w1 → Calls Tryz.prog 93 #[.pointer (some ⟨g, 0, none⟩)] w1 fun e w' => (∃ Bs g', e = .returned (.func (.func 151) #[] #[.pointer (some ⟨Bs, 0, none⟩)]) ∧ Told w1 w' Bs g' f) ∧ Below w1.heap.size w1 w') := Lib.hid fun w1 hb => all_any (h.below hb)
  clear h
  refine (callsIn_wide (n := 5)).1 ?_
  refine callsIn_of_wp_marks Tryz.func50 rfl trivial ?_ rfl
  simp only [Tryz.ntmps50, List.size_toArray, List.length_cons, List.length_nil, Nat.reduceAdd, Nat.reduceSub, Array.replicate_succ, Array.replicate_zero, List.push_toArray, List.append_toArray, List.nil_append, List.cons_append]
  gi_wp2_with (refine ⟨trivial, ?_⟩; gi_at_call 93; refine (callsIn_wide.2 (HT.out _ ((Below.refl _ _).alloc (Nat.le_refl _) _))).mono ?_; rintro e w7 ⟨⟨Bs, g', rfl, hTo⟩, hb⟩)
  obtain ⟨t1, t2, t3, t4, t5, t6⟩ := hTo
  have hbB : Below w.heap.size w w7 := ((Below.refl _ _).alloc (Nat.le_refl _) (.cells #[.int .i64 0] 3)).trans (hb.mono (by simp))
  have hbx : Bx w7 w.heap.size 0 := ⟨(hb.cell (p := ⟨w.heap.size, 0, none⟩) (by simp)).trans (World.cell?_alloc_new w _ _ 0), (World.frozen?_of_block (hb.block w.heap.size (by simp))).trans (free_of_one (heap_alloc_new w _))⟩
  have hsz : w.heap.size < w7.heap.size := by have := hb.size; simp at this; omega
  have hg := t6.lt
  have n1 : Bs ≠ w.heap.size := by simp at t1; omega
  have n2 : g' ≠ w.heap.size := by simp at t2; omega
  have HFN : Hid (((mems (told f) 512).length : Int) = (cnt (told f) 512 : Int)) := Lib.hid (by rw [mems_cnt])
  refine wpIn_rangeFunc_ownG rfl (by omega) (gf := 151) (lb := #[.pointer (some ⟨Bs, 0, none⟩)]) rfl trivial (enters_of Tryz.func151 (by kernel_rfl) rfl)
    (all_stops 4 (by omega) Bs g' f w7 t4 t5 t6) Two.trans (Two.put t4 hg) (Below.refl _ _) (fun _ => rfl)
    (fun pre W => Bx W w.heap.size (pre.length : Int) ∧ Below w.heap.size w W)
    (fun _ _ _ => False)
    (OwnFrom.and (Own.from (Bx.own (fun pre => (pre.length : Int))) _) (ownFrom_below (by omega) (by omega)))
    (fun c => ownFrom_pure _ _)
    ⟨hbx, hbB⟩
    (fun x => { tmps := #[.pointer (some ⟨g, 0, none⟩), undef, .int .i64 0, .pointer (some ⟨w.heap.size, 0, none⟩), .pointer (some ⟨g, 0, none⟩), .func (.func 151) #[] #[.pointer (some ⟨Bs, 0, none⟩)], .int .i64 (x : Int), .int .i64 ((f x : Nat) : Int), undef, undef, undef], defers := [] }) ?assign ?body ?done ?stop
  case assign =>
    intro l x W K hK
    unfold tell
    gi_wp2
    first
      | exact hK
      | (simp; exact hK)
  case body =>
    rintro l pre x W ⟨hbx2, hB2⟩ hlen
    have hc := hbx2.cell
    have hf := hbx2.fz
    have hb1 : (pre.length : Int) ≤ 512 := by omega
    have hb0 : (0 : Int) ≤ (pre.length : Int) := by omega
    have HTS : Hid (((pre ++ [x]).length : Int) = (pre.length : Int) + 1) := Lib.hid (by rw [List.length_append]; simp)
    have HB2 := Lib.hid hB2
    clear hbx2 hB2 hlen
    generalize pre.length = tp at *
    generalize f x = xv at *
    gi_wp2
    refine ⟨(KeepsOthers.setCell _ _ _).from _, Two.setCell n1 n2 _ _, ⟨?_, ?_⟩, HB2.out.setCell (p := ⟨w.heap.size, 0, none⟩) (Nat.le_refl _) _⟩
    · rw [HTS.out]; exact World.cell?_setCell_same' _ _ _ (by rw [hc]; rfl)
    · rw [World.frozen?_setCell]; exact hf
  case done =>
    rintro D ys W hD rfl ⟨hbx2, hB2⟩ hK
    rw [HFN.out] at hbx2
    have hc := hbx2.cell
    clear hbx2
    have HB2 := Lib.hid (hB2.trans (belowK_b (w := w) (Nat.le_refl _) W D _ (.deferred none) (by omega) hK rfl rfl))
    have HK := Lib.hid hK
    clear hB2 hK
    generalize hN : cnt (told f) 512 = N at *
    gi_wp2
    refine ⟨by simp, .inl ⟨_, _, rfl, run_takeDeferred HK.out, ?_⟩⟩
    refine ⟨.int .i64 (N : Int), ?_, by rw [hN], HB2.out⟩
    simp [results, Tryz.f50, go_sem]
  case stop =>
    rintro D cd pre W hD _ hf hK
    exact hf.elim
end Go.Proofs.YtmbecjlioogbhaaGreatDoor.Tb
end
section
/-! Pages told in four bytes each. -/
set_option linter.unusedSimpArgs false
set_option maxRecDepth 20000
namespace Go.Proofs.YtmbecjlioogbhaaGreatDoor.Tb
open Go.Proofs.YtmbecjlioogbhaaGreatDoor.Bi
open Go.RowKit

/-- A page's four bytes, the highest first. -/
def four (v : Nat) : List Nat := [0, 0, v / 256, v % 256]
def fours (f : Nat → Nat) : Nat → List Nat
  | 0 => []
  | n + 1 => fours f n ++ four (f n)
theorem fours_len (f : Nat → Nat) (n : Nat) : (fours f n).length = 4 * n := by
  induction n with
  | zero => rfl
  | succ n ih => show (fours f n ++ four (f n)).length = _; rw [List.length_append, ih]; show 4 * n + 4 = _; omega
theorem four_dig {v : Nat} (h : v < 512) : ∀ x ∈ four v, x < 256 := by
  intro x hx
  simp [four] at hx
  rcases hx with rfl | rfl | rfl <;> omega
theorem fours_dig {f : Nat → Nat} (h : ∀ j, f j < 512) (n : Nat) : ∀ x ∈ fours f n, x < 256 := by
  induction n with
  | zero => intro x hx; cases hx
  | succ n ih => exact dig_append ih (four_dig (h n))
theorem fours_congr {f g : Nat → Nat} {n : Nat} (h : ∀ j, j < n → f j = g j) : fours f n = fours g n := by
  induction n with
  | zero => rfl
  | succ n ih => show fours f n ++ four (f n) = fours g n ++ four (g n); rw [ih (fun j hj => h j (by omega)), h n (by omega)]
/-- The number of four bytes. -/
def valB (bs : List Nat) (k : Nat) : Nat := bs.getD (4 * k) 0 * 16777216 + bs.getD (4 * k + 1) 0 * 65536 + bs.getD (4 * k + 2) 0 * 256 + bs.getD (4 * k + 3) 0
theorem own_cap {w : World} {base E n : Nat} {v : Value} {xs : List Value} (h : w.ownsRow base E 1 v n xs) : ∃ p c, v = .slice p n c ∧ n ≤ c ∧ c ≤ 9223372036854775807 := by
  rcases h.2 with ⟨h0, h1⟩ | ⟨g, cap, cur, e, _, _, hc, hm, _⟩
  · subst h1; exact ⟨none, 0, h0, Nat.le_refl _, by omega⟩
  · exact ⟨_, _, e, hc, by unfold maxLen at hm; omega⟩
set_option maxRecDepth 100000 in
set_option maxHeartbeats 1600000 in
theorem lay_any (g o n c : Nat) (f : Nat → Nat) (w : World) (hn : n ≤ 128) (hf : ∀ j, f j < 512) (hcell : ∀ j, j < n → w.cell? ⟨g, o + j, none⟩ = some (.int .i64 ((f j : Nat) : Int))) :
    Calls Tryz.prog 176 #[.slice (some ⟨g, o, none⟩) n c] w fun e w' => (∃ p c', e = .returned (.slice p (4 * n) c') ∧ Bys w' p (4 * n) (fours f n) ∧ 4 * n ≤ c' ∧ c' ≤ 9223372036854775807) ∧ Below w.heap.size w w' := by
  obtain ⟨i0, hi, hz0, hz1, hz2⟩ := info_parts Tryz.info5
  have HN := Lib.hid hn
  have HF := Lib.hid hf
  have HC := Lib.hid hcell
  obtain ⟨C0, hC0⟩ : ∃ C0, C0 = madeCells #[Value.int .u8 0] (4 * n) := ⟨_, rfl⟩
  have hmk : ∀ w : World, (Instr.makeSlice 71 (.int .i64 (0 : Int)) (.int .i64 ((n : Int) * 4))).run Tryz.prog w = .ok (.slice (some ⟨w.heap.size, 0, none⟩) 0 (4 * n)) (w.alloc (.cells C0 5)) := fun w => by
    obtain ⟨m, hm⟩ : ∃ m, m = 4 * n := ⟨_, rfl⟩
    rw [show (n : Int) * 4 = (m : Int) by omega, hC0, ← hm]
    have h := run_make (P := Tryz.prog) w 71 5 i0 _ Tryz.underlying71 hi hz0 .i64 .i64 ((0 : Nat) : Int) (m : Int) (by omega) (by omega) (by rw [hz2]; omega) (by omega)
    rw [hz1, Int.toNat_natCast, Int.toNat_natCast, Nat.mul_one] at h
    exact h
  have HCs : Hid (C0.size = 4 * n) := Lib.hid (by rw [hC0]; simp [madeCells])
  have K0 : Hid ((w.alloc (.cells C0 5)).ownsRow w.heap.size 5 1 (.slice (some ⟨w.heap.size, 0, none⟩) 0 (4 * n)) 0 (u8s [])) := Lib.hid ⟨rfl, .inr ⟨w.heap.size, 4 * n, C0, rfl, Nat.le_refl _, heap_alloc_new w _, Nat.zero_le _, by unfold maxLen; omega, by rw [HCs.out, Nat.mul_one], by simp [u8s]⟩⟩
  have K5 : Hid (Below w.heap.size w (w.alloc (.cells C0 5))) := Lib.hid ((Below.refl _ _).alloc (Nat.le_refl _) _)
  have hnz : (n : Int) ≤ 128 := by omega
  clear hn hf hcell hC0
  go_enter Tryz.func176, Tryz.ntmps176
  go_wp2_with fail
  generalize w.alloc (.cells C0 5) = W at *
  go_loopw [12, 3] (fun iv bv wr => ∃ i : Nat, i ≤ n ∧ iv = .int .i64 (i : Int) ∧ wr.ownsRow w.heap.size 5 1 bv (4 * i) (u8s (fours f i)) ∧ Below w.heap.size w wr) (fun iv _ _ => n - (RowKit.intOf iv).toNat)
  case atStart => exact ⟨0, Nat.zero_le _, by go_num, K0.out, K5.out⟩
  case round =>
    obtain ⟨i, hi1, rfl, hown, hbel⟩ := hrel
    have HO := Lib.hid hown
    have HB := Lib.hid hbel
    have HI := Lib.hid hi1
    clear hown hbel hi1
    by_cases hlt : i < n
    · have hc := (HB.out.cell (p := ⟨g, o + i, none⟩) (World.block_lt_of_cell? w _ (HC.out i hlt))).trans (HC.out i hlt)
      have hv := HF.out i
      have HL := Lib.hid hlt
      have HFS : Hid (u8s (fours f (i + 1)) = u8s (fours f i) ++ u8s (four (f i))) := Lib.hid (u8s_append _ _)
      generalize hvv : f i = v at *
      have HV := Lib.hid hvv
      have hvz : (v : Int) < 512 := by omega
      have hvz0 : (0 : Int) ≤ (v : Int) := by omega
      have d1 : (v : Int) / 16777216 = 0 := by omega
      have d2 : (v : Int) / 65536 = 0 := by omega
      obtain ⟨q, hq⟩ : ∃ q, Hid (v / 256 = q) := ⟨_, Lib.hid rfl⟩
      obtain ⟨r, hr⟩ : ∃ r, Hid (v % 256 = r) := ⟨_, Lib.hid rfl⟩
      have d3 : (v : Int) / 256 = (q : Int) := by have := hq.out; omega
      have d4 : (v : Int) % 256 = (r : Int) := by have := hr.out; omega
      have d5 : (q : Int) < 256 := by have := hq.out; omega
      have d6 : (r : Int) < 256 := by have := hr.out; omega
      have d7 : (q : Int) % 256 = (q : Int) := by omega
      have HFV : Hid (four v = [0, 0, q, r]) := Lib.hid (by unfold four; rw [hq.out, hr.out])
      have HNEW : Hid (∀ (j : Nat) (u : Value), (u8s [0, 0, q, r])[j]? = some u → (wr.alloc (.cells #[.int .u8 0, .int .u8 0, .int .u8 (q : Int), .int .u8 (r : Int)] 5)).cell? ((⟨wr.heap.size, 0, none⟩ : Addr).add j) = some u) := Lib.hid fun j u hj => by
        rw [Addr.add_mid, Nat.zero_add, cell_of_row _ _ j _ _ _ (heap_alloc_new wr _)]
        simpa [u8s] using hj
      clear hlt hvv hv
      go_wp2_with (at_builtin; refine wpList_append_own _ rfl _ _ 71 rfl w.heap.size 5 i0 (.int .u8 0) 1 1 Tryz.underlying71 hi hz0 hz1 hz2 rfl (by decide) _ (4 * i) _ rfl (World.ownsRow.alloc HO.out _) ⟨wr.heap.size, 0, none⟩ 4 4 (u8s [0, 0, q, r]) rfl rfl HNEW.out ?c2 ?c3 ?c4 ?c5 ?_)
      case c2 => exact u8s_one _
      case c3 => unfold maxLen; have := HN.out; have := HI.out; omega
      case c4 => have := HN.out; have := HI.out; omega
      case c5 => have := HB.out.size; simp; omega
      intro v' w1 hown hgrow hnil
      have HB1 := Lib.hid ((HB.out.alloc HB.out.size (.cells #[.int .u8 0, .int .u8 0, .int .u8 (q : Int), .int .u8 (r : Int)] 5)).grown hgrow (by have := HB.out.size; simp; omega) (by intro k2 hk2; exact (World.ownsRow.lt HO.out k2 hk2).1))
      have hown2 : w1.ownsRow w.heap.size 5 1 v' (4 * (i + 1)) (u8s (fours f (i + 1))) := by rw [HFS.out, HFV.out]; exact hown
      clear hown hgrow hnil
      go_wp2_with fail
      go_roundw
      case rel => exact ⟨i + 1, by have := HL.out; omega, by go_num, hown2, HB1.out⟩
      case measure => have := HL.out; simp [RowKit.intOf]; omega
    · obtain rfl : i = n := by have := HI.out; omega
      obtain ⟨p', c', rfl, hcap⟩ := own_cap HO.out
      have HCP := Lib.hid hcap
      clear hcap
      have HY : Hid (Bys wr p' (4 * i) (fours f i)) := Lib.hid (Bys.own HO.out (fours_dig HF.out i))
      have hlt2 : ¬ i < i := Nat.lt_irrefl i
      clear hlt
      go_wp2_with fail
      go_ret
      exact ⟨⟨_, _, rfl, HY.out, HCP.out⟩, HB.out⟩
end Go.Proofs.YtmbecjlioogbhaaGreatDoor.Tb
end
section
/-! Rows of numbers held against each other as wholes. -/
set_option linter.unusedSimpArgs false
namespace Go.Proofs.YtmbecjlioogbhaaGreatDoor.Tb
open Go.Proofs.YtmbecjlioogbhaaGreatDoor.Bi
open Go.RowKit

theorem run_part3 (xs : Array Value) (i : Nat) (v : Value) (w : World) (h : xs[i]? = some v) : (part 3 xs (i * 1)).run Tryz.prog w = .ok v w := by
  have hu := Tryz.underlying3
  unfold part
  simp [isAgg, Sem.run_bind, run_underlying hu w, h]
theorem run_int3 (d : Nat) (x y : Int) (w : World) : (Op.equalIn (d + 1) 3 (.int .i64 x) (.int .i64 y)).run Tryz.prog w = .ok (x == y) w := by
  have hu := Tryz.underlying3
  unfold Op.equalIn
  simp [Sem.run_bind, run_underlying hu w]
theorem run_items (d : Nat) (xs ys : Array Value) (f g : Nat → Nat) (n : Nat) (hx : ∀ i, i < n → xs[i]? = some (.int .i64 ((f i : Nat) : Int))) (hy : ∀ i, i < n → ys[i]? = some (.int .i64 ((g i : Nat) : Int))) (w : World) :
    ∀ (is : List Nat), (∀ i ∈ is, i < n) → (Op.eqItems (d + 1) 3 1 xs ys is).run Tryz.prog w = .ok (is.all fun i => f i == g i) w
  | [], _ => by simp [Op.eqItems]
  | i :: is, h => by
    have hi := h i (List.mem_cons_self ..)
    simp only [Op.eqItems, Sem.run_bind, run_part3 xs i _ w (hx i hi), run_part3 ys i _ w (hy i hi), Result.andThen_ok, run_int3]
    have e : (((f i : Nat) : Int) == ((g i : Nat) : Int)) = (f i == g i) := by rw [Bool.eq_iff_iff]; simp only [beq_iff_eq]; omega
    rw [e, List.all_cons]
    cases hfg : f i == g i with
    | true =>
      have ih := run_items d xs ys f g n hx hy w is (fun j hj => h j (List.mem_cons_of_mem _ hj))
      simp [ih]
    | false => simp
theorem all_iff (f g : Nat → Nat) (n : Nat) : ((List.range n).all fun i => f i == g i) = decide (∀ i, i < n → f i = g i) := by
  rw [Bool.eq_iff_iff]; simp
/-- Are so many numbers the same, from two places on? -/
def sameN (f g : Nat → Nat) (n : Nat) : Bool := decide (∀ i, i < n → f i = g i)
theorem cellsOf3 : Tryz.prog.cellsOf 3 = 1 := by kernel_rfl
theorem eq_row (t n : Nat) (hu : Tryz.prog.underlying t = some (.array n 3)) (f g : Nat → Nat) (a b : Nat) (w : World) :
    (binOp .eql t (.agg (ints f a n).toArray) (.agg (ints g b n).toArray)).run Tryz.prog w = .ok (.bool (sameN (fun i => f (a + i)) (fun i => g (b + i)) n)) w := by
  obtain ⟨i0, hi, -⟩ := info_parts (show (Tryz.prog.info? 3).map (fun i => (i.zero, i.size, i.bytes)) = some (some (.int .i64 0), 1, 8) by kernel_rfl)
  rw [run_eql_struct, show (10000 : Nat) = 9998 + 1 + 1 from rfl, run_equalIn_array w (9998 + 1) _ _ hu hi, cellsOf3,
    run_items 9998 _ _ (fun i => f (a + i)) (fun i => g (b + i)) n (fun i hi => by simpa using ints_get f a n i hi) (fun i hi => by simpa using ints_get g b n i hi) w _ (fun i hi => List.mem_range.1 hi), all_iff]
  rfl
theorem ne_row (t n : Nat) (hu : Tryz.prog.underlying t = some (.array n 3)) (f g : Nat → Nat) (a b : Nat) (w : World) :
    (binOp .neq t (.agg (ints f a n).toArray) (.agg (ints g b n).toArray)).run Tryz.prog w = .ok (.bool (!sameN (fun i => f (a + i)) (fun i => g (b + i)) n)) w := by
  obtain ⟨i0, hi, -⟩ := info_parts (show (Tryz.prog.info? 3).map (fun i => (i.zero, i.size, i.bytes)) = some (some (.int .i64 0), 1, 8) by kernel_rfl)
  rw [run_neq_struct, show (10000 : Nat) = 9998 + 1 + 1 from rfl, run_equalIn_array w (9998 + 1) _ _ hu hi, cellsOf3,
    run_items 9998 _ _ (fun i => f (a + i)) (fun i => g (b + i)) n (fun i hi => by simpa using ints_get f a n i hi) (fun i hi => by simpa using ints_get g b n i hi) w _ (fun i hi => List.mem_range.1 hi), all_iff]
  rfl
theorem guard81 : Tryz.prog.eqGuardType Tryz.prog.depth 184 = false := by kernel_rfl
end Go.Proofs.YtmbecjlioogbhaaGreatDoor.Tb
end
section
/-! A leaf's bytes; whether a leaf tells nothing; whether bytes are a page, and zeros. -/
set_option linter.unusedSimpArgs false
set_option maxRecDepth 20000
namespace Go.Proofs.YtmbecjlioogbhaaGreatDoor.Tb
open Go.Proofs.YtmbecjlioogbhaaGreatDoor.Bi
open Go.RowKit

/-- A leaf's numbers. -/
def leafF (f : Nat → Nat) (i : Nat) : Nat → Nat := fun k => f (128 * i + k)
theorem leaf_no (x : Int) (g : Nat) (h : ¬ (0 ≤ x ∧ x < 4)) (w : World) : Calls Tryz.prog 175 #[.pointer (some ⟨g, 0, none⟩), .int .i64 x] w fun e w' => e = .returned (.bool false) ∧ w = w' := by
  have := leaf_tab g x w
  have e : (decide (0 ≤ x) && decide (x < 4)) = false := by rw [← Bool.decide_and]; exact decide_eq_false h
  rwa [e] at this
theorem leaf_yes (i g : Nat) (h : i < 4) (w : World) : Calls Tryz.prog 175 #[.pointer (some ⟨g, 0, none⟩), .int .i64 (i : Int)] w fun e w' => e = .returned (.bool true) ∧ w = w' := by
  have := leaf_tab g (i : Int) w
  rwa [decide_eq_true (show (0 : Int) ≤ (i : Int) by omega), decide_eq_true (show (i : Int) < 4 by omega)] at this
set_option maxRecDepth 100000 in
theorem leaf_in {w : World} {g : Nat} {f : Nat → Nat} (h : Tab w g f) (i : Nat) (hi : i < 4) :
    Calls Tryz.prog 141 #[.pointer (some ⟨g, 0, none⟩), .int .i64 (i : Int)] w fun e w' => (∃ p c', e = .returned (.slice p 512 c') ∧ Bys w' p 512 (fours (leafF f i) 128) ∧ 512 ≤ c' ∧ c' ≤ 9223372036854775807) ∧ Below w.heap.size w w' := by
  have HY := Lib.hid (fun w' => leaf_yes i g hi w')
  have HL := Lib.hid (lay_any g (i * 128) 128 128 (leafF f i) w (by omega) (fun j => h.ok.lt _) (fun j hj => by unfold leafF; rw [Nat.mul_comm i 128]; exact h.row.cell _ (by omega)))
  have HI := Lib.hid hi
  clear h
  go_enter Tryz.func141, Tryz.ntmps141
  go_wp2_with (first | (go_at_call 175; refine (HY.out _).mono ?_; rintro e w7 ⟨rfl, rfl⟩) | (go_at_call 176; refine HL.out.mono ?_; rintro e w7 ⟨⟨p, c', rfl, hB, hcp⟩, hb⟩))
  go_ret
  exact ⟨⟨_, _, rfl, hB, hcp⟩, hb⟩
/-- Does a leaf tell nothing? -/
def bareB (f : Nat → Nat) (i : Nat) : Bool := sameN (leafF f i) (fun _ => 0) 128
set_option maxRecDepth 100000 in
theorem bare_in {w : World} {g : Nat} {f : Nat → Nat} (h : Tab w g f) (i : Nat) (hi : i < 4) :
    Calls Tryz.prog 140 #[.pointer (some ⟨g, 0, none⟩), .int .i64 (i : Int)] w fun e w' => e = .returned (.bool (bareB f i)) ∧ w = w' := by
  have HY := Lib.hid (fun w' => leaf_yes i g hi w')
  have HI := Lib.hid hi
  have HR := Lib.hid (h.row.range (i * 128) 128 (by omega))
  have HE : Hid (∀ w, (binOp .eql 184 (.agg (ints f (i * 128) 128).toArray) (.agg (ints (fun _ => 0) 0 128).toArray)).run Tryz.prog w = .ok (.bool (bareB f i)) w) := Lib.hid fun w => by
    rw [eq_row 184 128 Tryz.underlying184]
    unfold bareB leafF
    rw [Nat.mul_comm 128 i]
  obtain ⟨hz, -⟩ := zero_of_info (P := Tryz.prog) info184
  have HS : Hid ((Tryz.prog.info? 184).map (·.size) = some (ints f (i * 128) 128).length) := Lib.hid (by rw [size184, ints_len])
  have hg := guard81
  clear h
  have hzz : ∀ w, (zeroValue 184).run Tryz.prog w = .ok (.agg (ints (fun _ => 0) 0 128).toArray) w := hz
  clear hz
  generalize (ints (fun _ => 0) 0 128).toArray = Z at *
  generalize ints f (i * 128) 128 = X at *
  have hee := HE.out
  have hi' : (i : Int) < 4 := by omega
  go_enter Tryz.func140, Tryz.ntmps140
  go_wp2_with (first
    | (go_at_call 175; refine (HY.out _).mono ?_; rintro e w7 ⟨rfl, rfl⟩)
    | (refine wpList_load_mid rfl 184 (.tmp 15) rfl g (i * 128) rfl X _ HR.out Tryz.underlying184 rfl HS.out ?_))
  go_ret
  exact ⟨rfl, rfl⟩
end Go.Proofs.YtmbecjlioogbhaaGreatDoor.Tb
end
section
/-! Which leaves of two tables differ. -/
set_option linter.unusedSimpArgs false
set_option maxRecDepth 20000
namespace Go.Proofs.YtmbecjlioogbhaaGreatDoor.Tb
open Go.Proofs.YtmbecjlioogbhaaGreatDoor.Bi
open Go.RowKit

/-- Does a leaf differ? -/
def difB (f k : Nat → Nat) : Nat → Bool := fun i => !sameN (leafF f i) (leafF k i) 128
def ivs (l : List Nat) : List Value := l.map fun (x : Nat) => Value.int .i64 (x : Int)
theorem Tryz.info3 : (Tryz.prog.info? 3).map (fun i => (i.zero, i.size, i.bytes)) = some (some (.int .i64 0), 1, 8) := by kernel_rfl
theorem own_base {w : World} {B B' E m n : Nat} {v : Value} {xs : List Value} (h : w.ownsRow B E m v n xs) (hB : B' ≤ B) : w.ownsRow B' E m v n xs := by
  refine ⟨h.1, ?_⟩
  rcases h.2 with h2 | ⟨g, cap, cur, e, hb, hr⟩
  · exact .inl h2
  · exact .inr ⟨g, cap, cur, e, Nat.le_trans hB hb, hr⟩
theorem wpQuiet_load_mid {P : Program} {ops : Array Oper} {C : World → Prop} {Q : Act → Prop} {a : Act} {op : Oper} {rest : List Oper} (hw : Region.wanted op (yielded ops a.tmps) = true) (ty : TypeId) (x : Operand) (ho : op.op = .load ty x)
    (b o : Nat) (hx : a.eval x = .pointer (some ⟨b, o, none⟩)) (cs : List Value) (d : TypeDesc) (hc : ∀ w, C w → w.rangeAt b o cs) (hu : P.underlying ty = some d) (hd : d.isRow = true) (hi : (P.info? ty).map (·.size) = some cs.length)
    (h : wpQuiet P ops C Q rest (a.put op.dst (.agg cs.toArray))) : wpQuiet P ops C Q (op :: rest) a :=
  BigFrame.wpQuiet_want hw fun K hK => ⟨.agg cs.toArray, fun w hw' => by
    unfold Oper.quietAt execOp
    simp only [ho, hx, Instr.loadAt, Instr.sureAddr, Sem.run_bind, Sem.run_pure, Result.andThen_ok, run_loadVar_mid w b o ty cs d (hc w hw') hu hd hi]
    exact ⟨rfl, rfl⟩, hK _ h⟩
set_option maxRecDepth 100000 in
set_option maxHeartbeats 3200000 in
theorem chg_all {w : World} {g : Nat} {f k : Nat → Nat} (h : Tab w g f) (q : Option Addr) (ho : (∃ o, q = some ⟨o, 0, none⟩ ∧ Tab w o k) ∨ (q = none ∧ k = fun _ => 0)) :
    Calls Tryz.prog 166 #[.pointer (some ⟨g, 0, none⟩), .pointer q] w fun e w' => (∃ v, e = .returned v ∧ w'.ownsRow w.heap.size 3 1 v (mems (difB f k) 4).length (ivs (mems (difB f k) 4))) ∧ Below w.heap.size w w' := by
  obtain ⟨i0, hi, hz0, hz1, hz2⟩ := info_parts Tryz.info3
  have H := Lib.hid h
  have HO := Lib.hid ho
  have HNIL : ∀ (B : Nat) (W : World), Hid (W.ownsRow B 3 1 (.slice none 0 0) 0 (ivs [])) := fun B W => Lib.hid (World.ownsRow_nil _ _ _ _)
  clear h ho
  have hq : ∀ w, (binOp .eql 95 (.pointer q) (.pointer none)).run Tryz.prog w = .ok (.bool q.isNone) w := fun w => by
    have hu := Tryz.underlying95
    cases q <;> simp [go_sem, Op.equal, Op.maxDepth, Op.equalIn, run_underlying hu]
  go_enter Tryz.func166, Tryz.ntmps166
  go_upto_if 10 with fail
  go_cut [1] (fun v wx => ∃ o, v = .pointer (some ⟨o, 0, none⟩) ∧ Tab wx o k ∧ Below w.heap.size w wx)
  case first =>
    rcases HO.out with ⟨o, rfl, hO⟩ | ⟨rfl, hk⟩
    · have HOO := Lib.hid hO
      clear hO
      go_wp2_with fail
      go_meet
      exact ⟨o, rfl, HOO.out, Below.refl _ _⟩
    · go_wp2_with (go_at_call 75; refine (new_any w).mono ?_; rintro e w7 ⟨rfl, hT, hb⟩)
      go_meet
      exact ⟨_, rfl, by rw [hk]; exact hT, hb⟩
  case rest =>
    obtain ⟨o, rfl, hO, hb0⟩ := hcut
    have HOO := Lib.hid hO
    have HB0 := Lib.hid hb0
    clear hO hb0 HO
    go_wp2_with fail
    go_loopw [12, 5] (fun iv dv wr => ∃ i : Nat, i ≤ 4 ∧ iv = .int .i64 (i : Int) ∧ wr.ownsRow wc.heap.size 3 1 dv (mems (difB f k) i).length (ivs (mems (difB f k) i)) ∧ Below wc.heap.size wc wr) (fun iv _ _ => 4 - (RowKit.intOf iv).toNat)
    case atStart => exact ⟨0, Nat.zero_le _, by go_num, (HNIL _ _).out, Below.refl _ _⟩
    case round =>
      obtain ⟨i, hi1, rfl, hown, hbel⟩ := hrel
      have HOW := Lib.hid hown
      have HF := Lib.hid ((H.out.below HB0.out).below hbel)
      have HK := Lib.hid (HOO.out.below hbel)
      have HB := Lib.hid hbel
      have HI := Lib.hid hi1
      clear hown hbel hi1
      by_cases hlt : i < 4
      · have HL1 : Hid (∀ w', (∃ s : In wr, w' = s.1) → w'.rangeAt g (i * 128) (ints f (i * 128) 128)) := Lib.hid fun w' ⟨s, hs⟩ => by
          subst hs; exact (HF.out.row.below s.2).range (i * 128) 128 (by omega)
        have HL2 : Hid (∀ w', (∃ s : In wr, w' = s.1) → w'.rangeAt o (i * 128) (ints k (i * 128) 128)) := Lib.hid fun w' ⟨s, hs⟩ => by
          subst hs; exact (HK.out.row.below s.2).range (i * 128) 128 (by omega)
        have HS1 : Hid ((Tryz.prog.info? 184).map (·.size) = some (ints f (i * 128) 128).length) := Lib.hid (by rw [size184, ints_len])
        have HS2 : Hid ((Tryz.prog.info? 184).map (·.size) = some (ints k (i * 128) 128).length) := Lib.hid (by rw [size184, ints_len])
        have hee : ∀ w, (binOp .neq 184 (.agg (ints f (i * 128) 128).toArray) (.agg (ints k (i * 128) 128).toArray)).run Tryz.prog w = .ok (.bool (difB f k i)) w := fun w => by
          rw [ne_row 184 128 Tryz.underlying184]
          unfold difB leafF
          rw [Nat.mul_comm 128 i]
        have hg := guard81
        have hd : decide ((i : Int) < 4) = true := decide_eq_true (by omega)
        have hiz : (i : Int) < 4 := by omega
        have HL := Lib.hid hlt
        generalize ints f (i * 128) 128 = X at *
        generalize ints k (i * 128) 128 = Y at *
        cases hdf : difB f k i with
        | true =>
          have HM : Hid (mems (difB f k) (i + 1) = mems (difB f k) i ++ [i]) := Lib.hid (mems_hit hdf)
          have HLN : Hid ((mems (difB f k) i).length ≤ i) := Lib.hid (mems_len _ _)
          rw [hdf] at hee
          clear hdf
          have hne := In.some wr
          go_upto_region 9 with fail
          refine region_in wr (by kernel_rfl) (by kernel_rfl) (Below.refl _ _) ?_
          repeat (go_big_quiet_step (fail))
          refine wpQuiet_load_mid rfl 184 (.tmp 19) rfl g (i * 128) rfl X _ HL1.out Tryz.underlying184 rfl HS1.out ?_
          simp only [Act.put, List.setIfInBounds_toArray, List.set_cons_succ, List.set_cons_zero]
          repeat (go_big_quiet_step (fail))
          refine wpQuiet_load_mid rfl 184 (.tmp 25) rfl o (i * 128) rfl Y _ HL2.out Tryz.underlying184 rfl HS2.out ?_
          simp only [Act.put, List.setIfInBounds_toArray, List.set_cons_succ, List.set_cons_zero]
          repeat (go_big_quiet_step (fail))
          refine wpQuiet_nil ?_
          intro w12 hw'
          have hb12 : Below wr.heap.size wr w12 := by
            obtain ⟨⟨wz, hbz⟩, hw''⟩ := hw'
            subst hw''
            exact hbz
          clear hw' HL1 HL2 HS1 HS2
          have HOW2 := Lib.hid (own_below HOW.out hb12)
          have HB12 := Lib.hid hb12
          have HBW := Lib.hid (HB.out.trans (hb12.mono HB.out.size))
          clear hb12
          have HIV : Hid (ivs (mems (difB f k) (i + 1)) = ivs (mems (difB f k) i) ++ [.int .i64 (i : Int)] ∧ (mems (difB f k) (i + 1)).length = (mems (difB f k) i).length + 1) := Lib.hid ⟨by rw [HM.out]; unfold ivs; rw [List.map_append]; rfl, by rw [HM.out, List.length_append]; rfl⟩
          generalize (mems (difB f k) i).length = m at *
          generalize ivs (mems (difB f k) i) = ws at *
          go_wp2_with (at_builtin; refine wpList_append_own _ rfl _ _ 47 rfl wc.heap.size 3 i0 (.int .i64 0) 1 8 Tryz.underlying47 hi hz0 hz1 hz2 rfl (by decide) _ m _ rfl (World.ownsRow.alloc HOW2.out _) ⟨w12.heap.size, 0, none⟩ 1 1 [.int .i64 (i : Int)] rfl rfl (one_cells w12 _ _) ?c2 ?c3 ?c4 ?c5 ?_)
          case c2 => intro v hv; simp at hv; subst hv; rfl
          case c3 => unfold maxLen; have := HLN.out; have := HL.out; omega
          case c4 => have := HLN.out; have := HL.out; omega
          case c5 => have := HBW.out.size; simp; omega
          intro v' w1 hown hgrow hnil
          have HB1 := Lib.hid ((HBW.out.alloc HBW.out.size (.cells #[.int .i64 (i : Int)] 3)).grown hgrow (by have := HBW.out.size; simp; omega) (by intro k2 hk2; exact (World.ownsRow.lt HOW2.out k2 hk2).1))
          have hown2 : w1.ownsRow wc.heap.size 3 1 v' (mems (difB f k) (i + 1)).length (ivs (mems (difB f k) (i + 1))) := by rw [HIV.out.1, HIV.out.2]; exact hown
          clear hown hgrow hnil
          go_wp2_with fail
          go_roundw
          case rel => exact ⟨i + 1, by have := HL.out; omega, by go_num, hown2, HB1.out⟩
          case measure => have := HL.out; simp [RowKit.intOf]; omega
        | false =>
          have HM : Hid (mems (difB f k) (i + 1) = mems (difB f k) i) := Lib.hid (mems_miss hdf)
          rw [hdf] at hee
          clear hdf
          have hne := In.some wr
          go_upto_region 9 with fail
          refine region_in wr (by kernel_rfl) (by kernel_rfl) (Below.refl _ _) ?_
          repeat (go_big_quiet_step (fail))
          refine wpQuiet_load_mid rfl 184 (.tmp 19) rfl g (i * 128) rfl X _ HL1.out Tryz.underlying184 rfl HS1.out ?_
          simp only [Act.put, List.setIfInBounds_toArray, List.set_cons_succ, List.set_cons_zero]
          repeat (go_big_quiet_step (fail))
          refine wpQuiet_load_mid rfl 184 (.tmp 25) rfl o (i * 128) rfl Y _ HL2.out Tryz.underlying184 rfl HS2.out ?_
          simp only [Act.put, List.setIfInBounds_toArray, List.set_cons_succ, List.set_cons_zero]
          repeat (go_big_quiet_step (fail))
          refine wpQuiet_nil ?_
          intro w12 hw'
          have hb12 : Below wr.heap.size wr w12 := by
            obtain ⟨⟨wz, hbz⟩, hw''⟩ := hw'
            subst hw''
            exact hbz
          clear hw' HL1 HL2 HS1 HS2
          have HOW2 := Lib.hid (own_below HOW.out hb12)
          have HB12 := Lib.hid hb12
          have HBW := Lib.hid (HB.out.trans (hb12.mono HB.out.size))
          clear hb12
          go_wp2_with fail
          go_roundw
          case rel => exact ⟨i + 1, by have := HL.out; omega, by go_num, by rw [HM.out]; exact HOW2.out, HBW.out⟩
          case measure => have := HL.out; simp [RowKit.intOf]; omega
      · have hd : decide ((i : Int) < 4) = false := decide_eq_false (by omega)
        have HE : Hid (i = 4) := Lib.hid (by have := HI.out; omega)
        clear hlt
        go_wp2_with fail
        go_ret
        have h1 := HOW.out
        rw [HE.out] at h1
        exact ⟨⟨_, rfl, own_base h1 HB0.out.size⟩, HB0.out.trans (HB.out.mono HB0.out.size)⟩
end Go.Proofs.YtmbecjlioogbhaaGreatDoor.Tb
end
section
/-! Pages taken off bytes. -/
set_option linter.unusedSimpArgs false
set_option maxRecDepth 20000
namespace Go.Proofs.YtmbecjlioogbhaaGreatDoor.Tb
open Go.Proofs.YtmbecjlioogbhaaGreatDoor.Bi
open Go.RowKit

/-- The number of the first bytes of four. -/
def preB (bs : List Nat) (k : Nat) : Nat → Nat
  | 0 => 0
  | j + 1 => preB bs k j * 256 + bs.getD (4 * k + j) 0
theorem preB_four (bs : List Nat) (k : Nat) : preB bs k 4 = valB bs k := by
  show (((0 * 256 + bs.getD (4 * k + 0) 0) * 256 + bs.getD (4 * k + 1) 0) * 256 + bs.getD (4 * k + 2) 0) * 256 + bs.getD (4 * k + 3) 0 = _
  unfold valB; rw [Nat.add_zero]; omega
theorem preB_lt {bs : List Nat} (hd : ∀ i, bs.getD i 0 < 256) (k j : Nat) : preB bs k j < 256 ^ j := by
  induction j with
  | zero => exact Nat.one_pos
  | succ j ih =>
    show preB bs k j * 256 + bs.getD (4 * k + j) 0 < 256 ^ (j + 1)
    have := hd (4 * k + j)
    rw [Nat.pow_succ]; omega
theorem getD_lt {bs : List Nat} (hd : ∀ x ∈ bs, x < 256) (i : Nat) : bs.getD i 0 < 256 := by
  rw [List.getD_eq_getElem?_getD]
  cases h : bs[i]? with
  | none => decide
  | some x => exact hd x (List.mem_of_getElem? h)
theorem or_i64 (x y : Nat) (hx : x < 16777216) (hy : y < 256) : bits .or .i64 ((x : Int) * 256) (y : Int) = ((x * 256 + y : Nat) : Int) := by
  have h3 : (x * 256) ||| y = x * 256 + y := by
    have h4 := Nat.two_pow_add_eq_or_of_lt (i := 8) (b := y) (by omega) x
    rw [show 2 ^ 8 * x = x * 256 by omega] at h4
    exact h4.symm
  have hs : (BitVec.ofInt 64 ((x : Int) * 256)).toNat = x * 256 := by
    rw [show (x : Int) * 256 = ((x * 256 : Nat) : Int) by omega, BitVec.ofInt_natCast, BitVec.toNat_ofNat]; exact Nat.mod_eq_of_lt (by omega)
  have hp : (BitVec.ofInt 64 (y : Int)).toNat = y := by
    rw [BitVec.ofInt_natCast, BitVec.toNat_ofNat]; exact Nat.mod_eq_of_lt (by omega)
  show IntKind.i64.wrap ((BitVec.ofInt 64 ((x : Int) * 256) ||| BitVec.ofInt 64 (y : Int)).toNat : Int) = _
  rw [BitVec.toNat_or, hs, hp, h3, IntKind.wrap_i64]
  omega
theorem set_snoc (g : Nat) : ∀ (l : List Value) (o : Nat) (v : Value) (w : World), w.setCells g o (l ++ [v]) = (w.setCells g o l).setCell ⟨g, o + l.length, none⟩ v
  | [], o, v, w => rfl
  | u :: l, o, v, w => by
    rw [List.cons_append, World.setCells, set_snoc g l (o + 1) v, World.setCells, List.length_cons, show o + 1 + l.length = o + (l.length + 1) by omega]
theorem ints_snoc (f : Nat → Nat) (a n : Nat) : ints f a (n + 1) = ints f a n ++ [.int .i64 ((f (a + n) : Nat) : Int)] := by
  unfold ints; rw [List.range_succ, List.map_append]; rfl
theorem mayI_nat (v : Nat) : mayI (v : Int) = pgN v := by
  unfold mayI pgI pgN
  rw [Bool.eq_iff_iff]; simp; omega
/-- May each of so many numbers be? -/
def okV (V : Nat → Nat) (n : Nat) : Bool := decide (∀ j, j < n → pgN (V j) = true)
set_option maxRecDepth 100000 in
set_option maxHeartbeats 3200000 in
theorem take_any (g n c m cc : Nat) (p : Option Addr) (bs : List Nat) (w : World) (hn0 : 0 < n) (hn : n ≤ 128) (hT : w.there g 0 n) (hB : Bys w p m bs) (hm : 4 * n ≤ m) (hcc : m ≤ cc) (hc2 : cc ≤ 9223372036854775807) (hp : ∀ b o, p = some ⟨b, o, none⟩ → b ≠ g) :
    Calls Tryz.prog 189 #[.slice (some ⟨g, 0, none⟩) n c, .slice p m cc] w fun e w' => e = .returned (.bool (okV (valB bs) n)) ∧ ∃ k, k ≤ n ∧ w' = w.setCells g 0 (ints (valB bs) 0 k) ∧ (okV (valB bs) n = true → k = n) := by
  obtain ⟨bb, o, rfl, hc⟩ := hB.at (by omega)
  have hne := hp bb o rfl
  have HT := Lib.hid hT
  have HC : Hid (∀ i, i < m → ∀ (l : List Value), (w.setCells g 0 l).cell? ⟨bb, o + i, none⟩ = some (.int .u8 ((bs.getD i 0 : Nat) : Int))) := Lib.hid fun i hi l => by
    rw [World.cell?_setCells_out g l 0 w _ (fun e _ => absurd e hne)]; exact hc i hi
  have HD := Lib.hid (getD_lt hB.dig)
  have HN := Lib.hid (And.intro hn0 hn)
  have HM := Lib.hid (And.intro hm (And.intro hcc hc2))
  have hnz : (n : Int) ≤ 128 := by omega
  have hmz : (m : Int) ≤ 9223372036854775807 := by omega
  have hcz : (cc : Int) ≤ 9223372036854775807 := by omega
  clear hT hB hc hp hn hn0 hm hcc hc2 hne
  generalize hV : valB bs = V
  have HV := Lib.hid hV
  clear hV
  go_enter Tryz.func189, Tryz.ntmps189
  go_wp2_with fail
  go_loopw [11] (fun iv wr => ∃ i : Nat, i ≤ n ∧ iv = .int .i64 (i : Int) ∧ wr = w.setCells g 0 (ints V 0 i) ∧ ∀ j, j < i → pgN (V j) = true) (fun iv _ => n - (RowKit.intOf iv).toNat)
  case atStart => exact ⟨0, Nat.zero_le _, by go_num, rfl, fun j hj => absurd hj (Nat.not_lt_zero j)⟩
  case round =>
    obtain ⟨i, hi1, rfl, rfl, hok⟩ := hrel
    have HOK := Lib.hid hok
    have HI := Lib.hid hi1
    clear hok hi1
    by_cases hlt : i < n
    · have hd : decide ((i : Int) < (n : Int)) = true := decide_eq_true (by omega)
      have HL := Lib.hid hlt
      have h4i : 4 * i + 4 ≤ m := by have := HM.out; omega
      have h4c : 4 * i + 4 ≤ cc := by have := HM.out; omega
      have hiz : (i : Int) < 128 := by have := HN.out; omega
      have HTI := Lib.hid (World.there_setCells HT.out g 0 (ints V 0 i))
      have HCW := Lib.hid (fun (j : Nat) (hj : j < 4) => HC.out (4 * i + j) (by omega) (ints V 0 i))
      have HSN : Hid (w.setCells g 0 (ints V 0 (i + 1)) = (w.setCells g 0 (ints V 0 i)).setCell ⟨g, i, none⟩ (.int .i64 ((V i : Nat) : Int))) := Lib.hid (by rw [ints_snoc, set_snoc, ints_len, Nat.zero_add])
      clear hlt
      generalize hwr : w.setCells g 0 (ints V 0 i) = wr at *
      have HWR := Lib.hid hwr.symm
      clear hwr
      go_wp2_with fail
      go_loop [20, 6] (fun jv pv => ∃ j : Nat, j ≤ 4 ∧ jv = .int .i64 (j : Int) ∧ pv = .int .i64 ((preB bs i j : Nat) : Int)) (fun jv _ => 4 - (RowKit.intOf jv).toNat)
      case atStart => exact ⟨0, by omega, by go_num, rfl⟩
      case round =>
        obtain ⟨j, hj, rfl, rfl⟩ := hrel
        by_cases hlj : j < 4
        · have hcell := HCW.out j hlj
          have hoff : o + i * 4 + j = o + (4 * i + j) := by omega
          rw [← hoff] at hcell
          have hor := or_i64 (preB bs i j) (bs.getD (4 * i + j) 0) (by
            have := preB_lt HD.out i j
            have h2 : 256 ^ j ≤ 256 ^ 3 := Nat.pow_le_pow_right (by omega) (by omega)
            omega) (HD.out _)
          have hpz : ((preB bs i j : Nat) : Int) < 16777216 := by
            have := preB_lt HD.out i j
            have h2 : 256 ^ j ≤ 256 ^ 3 := Nat.pow_le_pow_right (by omega) (by omega)
            omega
          have hpz0 : (0 : Int) ≤ ((preB bs i j : Nat) : Int) := Int.natCast_nonneg _
          have hyz : ((bs.getD (4 * i + j) 0 : Nat) : Int) < 256 := by have := HD.out (4 * i + j); omega
          have hyz0 : (0 : Int) ≤ ((bs.getD (4 * i + j) 0 : Nat) : Int) := Int.natCast_nonneg _
          have hjz : (j : Int) < 4 := by omega
          have HPN : Hid (preB bs i (j + 1) = preB bs i j * 256 + bs.getD (4 * i + j) 0) := Lib.hid rfl
          rw [← HPN.out] at hor
          have HJ := Lib.hid hlj
          clear hlj hj hoff
          generalize hrr : preB bs i (j + 1) = r at *
          have HRR := Lib.hid hrr
          clear hrr
          generalize preB bs i j = q at *
          generalize bs.getD (4 * i + j) 0 = y at *
          go_wp2_with fail
          go_round
          case rel => exact ⟨j + 1, by have := HJ.out; omega, by go_num, by rw [HRR.out]⟩
          case measure => have := HJ.out; simp [RowKit.intOf]; omega
        · obtain rfl : j = 4 := by omega
          have HP4 : Hid (preB bs i 4 = V i) := Lib.hid (by rw [preB_four, HV.out])
          rw [HP4.out]
          have HMA := Lib.hid (fun w => may_any7 ((V i : Nat) : Int) w)
          rw [mayI_nat] at HMA
          have hvz : ((V i : Nat) : Int) < 4294967296 := by
            have := preB_lt HD.out i 4
            rw [HP4.out] at this
            omega
          have hth := HTI.out i (HL.out)
          rw [Nat.zero_add] at hth
          obtain ⟨ht1, ht2⟩ := hth
          cases hpg : pgN (V i) with
          | true =>
            rw [hpg] at HMA
            have HO2 : Hid (∀ j, j < i + 1 → pgN (V j) = true) := Lib.hid fun j hj => by
              by_cases e : j = i
              · rw [e]; exact hpg
              · exact HOK.out j (by omega)
            obtain ⟨cv, hcv⟩ := Option.isSome_iff_exists.1 ht1
            clear hpg hlj hj ht1
            generalize V i = v at *
            go_wp2_with (go_at_call 181; refine (HMA.out _).mono ?_; rintro e w7 ⟨rfl, rfl⟩)
            go_roundw
            case rel => exact ⟨i + 1, by have := HL.out; omega, by go_num, by rw [HSN.out], HO2.out⟩
            case measure => have := HL.out; simp [RowKit.intOf]; omega
          | false =>
            rw [hpg] at HMA
            have HOV : Hid (okV V n = false) := Lib.hid (decide_eq_false fun h => by
              have := h i HL.out
              rw [hpg] at this; cases this)
            clear hpg hlj hj ht1 ht2
            generalize V i = v at *
            go_wp2_with (go_at_call 181; refine (HMA.out _).mono ?_; rintro e w7 ⟨rfl, rfl⟩)
            go_ret
            exact ⟨by rw [HOV.out]; rfl, i, HI.out, HWR.out, fun h => by rw [HOV.out] at h; cases h⟩
    · have hd : decide ((i : Int) < (n : Int)) = false := decide_eq_false (by omega)
      have HE : Hid (i = n) := Lib.hid (by have := HI.out; omega)
      have HOV : Hid (okV V n = true) := Lib.hid (decide_eq_true fun j hj => HOK.out j (by have := HE.out; omega))
      have hd2 : decide (i < n) = false := decide_eq_false hlt
      go_wp2_with fail
      go_ret
      exact ⟨by rw [HOV.out]; rfl, i, HI.out, rfl, fun _ => HE.out⟩
end Go.Proofs.YtmbecjlioogbhaaGreatDoor.Tb
end
