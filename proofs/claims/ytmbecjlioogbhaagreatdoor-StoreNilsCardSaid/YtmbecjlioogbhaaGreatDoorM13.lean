/- Texts PPages to SGet of this seat, laid into one. -/
import Derived.Laws.EntriesVeiled
import Derived.StillTailTactics
import Derived.BigQuiet
import Derived.Deep.QuietTactic
import Derived.Deep.RegionWith
import Derived.Test.YtmbecjlioogbhaaGreatDoorM01
import Derived.Test.YtmbecjlioogbhaaGreatDoorM12
set_option linter.unusedVariables false
set_option linter.unusedSimpArgs false
set_option linter.constructorNameAsVariable false
section
/-! All pages that a state lies on. -/
set_option maxRecDepth 20000
set_option linter.unusedSimpArgs false
namespace Go.Proofs.YtmbecjlioogbhaaGreatDoor
open Go.RowKit Go.Shelf
attribute [local go_sem] Oper.semAt_some

/-- What is claimed of the leaves ahead of some. -/
def lvL (lv : Nat → Nat) (i : Nat) : List Int := ((List.range i).filter fun i => !(lv i == 0)).map fun i => ((lv i : Nat) : Int)
theorem lvL_succ (lv : Nat → Nat) (i : Nat) : lvL lv (i + 1) = lvL lv i ++ (if lv i = 0 then [] else [((lv i : Nat) : Int)]) := by
  unfold lvL
  rw [List.range_succ, List.filter_append, List.map_append]
  congr 1
  by_cases h : lv i = 0
  · simp [h]
  · simp [h]
/-- Amid the claims of a state. -/
structure Amid (w wr : World) (B1 B2 B3 B6 g pt gu bu : Nat) (pu : Option Addr) (r : Rt) (lv tb : Nat → Nat) (c : (Nat → Bool) × Bool) : Prop where
  cl : Clm wr B1 B2 B3 g pt gu bu pu r lv tb c
  c6 : wr.cell? ⟨B6, 0, none⟩ = some (.func (.func 178) #[] #[.pointer (some ⟨B1, 0, none⟩), .pointer (some ⟨B2, 0, none⟩), .pointer (some ⟨B3, 0, none⟩)])
  bel : Below w.heap.size w wr
  n6 : B6 ≠ bu ∧ B6 ≠ B3
  hi : w.heap.size ≤ bu ∧ w.heap.size ≤ B3
theorem Amid.below {w wr w' : World} {B1 B2 B3 B6 g pt gu bu : Nat} {pu : Option Addr} {r : Rt} {lv tb : Nat → Nat} {c : (Nat → Bool) × Bool} (h : Amid w wr B1 B2 B3 B6 g pt gu bu pu r lv tb c) (hb : Below wr.heap.size wr w') : Amid w w' B1 B2 B3 B6 g pt gu bu pu r lv tb c :=
  ⟨h.cl.below hb, (hb.cell (p := ⟨B6, 0, none⟩) (World.block_lt_of_cell? wr _ h.c6)).trans h.c6, Below.more h.bel hb h.bel.size, h.n6, h.hi⟩
theorem Amid.grown {w wr w' : World} {B1 B2 B3 B6 g pt gu bu : Nat} {pu : Option Addr} {r : Rt} {lv tb : Nat → Nat} {c : (Nat → Bool) × Bool} (h : Amid w wr B1 B2 B3 B6 g pt gu bu pu r lv tb c) {row : Option Nat} (hg : wr.grownBy w' row)
    (hr : ∀ k ∈ [B1, B2, B3, g, pt, gu, bu, B6], some k ≠ row) (hw : ∀ j, row = some j → w.heap.size ≤ j) : Amid w w' B1 B2 B3 B6 g pt gu bu pu r lv tb c :=
  ⟨h.cl.keep (fun k hk => hg.block k (h.cl.lt k hk) (hr k ((List.mem_append (s := [B1, B2, B3, g, pt, gu, bu]) (t := [B6])).2 (.inl hk)))), (World.cell?_of_block (hg.block B6 (World.block_lt_of_cell? wr _ h.c6) (hr B6 (by simp)))).trans h.c6, h.bel.grown hg h.bel.size hw, h.n6, h.hi⟩
theorem Amid.lt {w wr : World} {B1 B2 B3 B6 g pt gu bu : Nat} {pu : Option Addr} {r : Rt} {lv tb : Nat → Nat} {c : (Nat → Bool) × Bool} (h : Amid w wr B1 B2 B3 B6 g pt gu bu pu r lv tb c) : ∀ k ∈ [B1, B2, B3, g, pt, gu, bu, B6], k < wr.heap.size := fun k hk => by
  by_cases e : k = B6
  · rw [e]; exact World.block_lt_of_cell? wr _ h.c6
  · exact h.cl.lt k (((List.mem_append (s := [B1, B2, B3, g, pt, gu, bu]) (t := [B6])).1 hk).elim id (fun h2 => absurd (by simpa using h2) e))
theorem Amid.claim {w wr w' : World} {B1 B2 B3 B6 g pt gu bu : Nat} {pu : Option Addr} {r : Rt} {lv tb : Nat → Nat} {c c' : (Nat → Bool) × Bool} (h : Amid w wr B1 B2 B3 B6 g pt gu bu pu r lv tb c)
    (hc : Clm w' B1 B2 B3 g pt gu bu pu r lv tb c') (hg : Chg [bu, B3] [bu, B3] wr w') : Amid w w' B1 B2 B3 B6 g pt gu bu pu r lv tb c' :=
  ⟨hc, (World.cell?_of_block (hg.block B6 (World.block_lt_of_cell? wr _ h.c6) (by simp; exact h.n6))).trans h.c6, hg.below h.bel h.bel.size (by intro k hk; simp only [List.mem_cons, List.not_mem_nil, or_false] at hk; rcases hk with rfl | rfl; exact h.hi.1; exact h.hi.2), h.n6, h.hi⟩
section
variable {w : World} {g pt : Nat} {pu : Option Addr} {r : Rt} {lv tb : Nat → Nat}
set_option maxRecDepth 100000 in
set_option maxHeartbeats 3200000 in
theorem pagesS_any (h : Stt w g pt pu r lv tb) :
    Calls Tryz.prog 142 #[.pointer (some ⟨g, 0, none⟩)] w fun e w' => (∃ gu bu, e = .returned (.tuple #[.pointer (some ⟨gu, 0, none⟩), .bool (pgsM r lv tb).2]) ∧ w.heap.size ≤ gu ∧ w.heap.size ≤ bu ∧ Bi.Sat w' gu bu 512 (pgsM r lv tb).1) ∧ Below w.heap.size w w' := by
  have HN := Lib.hid (fun w => noPages_any w)
  have HX := Lib.hid h
  clear h
  refine (callsIn_wide (n := 5)).1 ?_
  refine callsIn_of_wp_marks Tryz.func142 rfl trivial ?_ rfl
  simp only [Tryz.ntmps142, List.size_toArray, List.length_cons, List.length_nil, Nat.reduceAdd, Nat.reduceSub, Array.replicate_succ, Array.replicate_zero, List.push_toArray, List.append_toArray, List.nil_append, List.cons_append]
  refine wpIn_wide.2 ?_
  go_upto_region 1 with fail
  have HA := Lib.hid (alloc_below w (.cells #[.pointer (some ⟨g, 0, none⟩)] 237))
  have HA1 : Hid ((w.alloc (.cells #[.pointer (some ⟨g, 0, none⟩)] 237)).cell? ⟨w.heap.size, 0, none⟩ = some (.pointer (some ⟨g, 0, none⟩))) := Lib.hid (World.cell?_alloc_new w _ _ 0)
  have HA2 : Hid ((w.alloc (.cells #[.pointer (some ⟨g, 0, none⟩)] 237)).heap.size = w.heap.size + 1) := Lib.hid (by simp)
  generalize w.alloc (.cells #[.pointer (some ⟨g, 0, none⟩)] 237) = w1 at *
  have HE : Hid (∀ u : World, ((u.alloc (.cells #[.pointer none] 96)).alloc (.cells #[.bool false] 4)).cell? ⟨u.heap.size, 0, none⟩ = some (.pointer none) ∧ ((u.alloc (.cells #[.pointer none] 96)).alloc (.cells #[.bool false] 4)).frozen? ⟨u.heap.size, 0, none⟩ = false ∧
      ((u.alloc (.cells #[.pointer none] 96)).alloc (.cells #[.bool false] 4)).cell? ⟨u.heap.size + 1, 0, none⟩ = some (.bool false) ∧ ((u.alloc (.cells #[.pointer none] 96)).alloc (.cells #[.bool false] 4)).frozen? ⟨u.heap.size + 1, 0, none⟩ = false) := Lib.hid fun u => by
    have a1 := heap_alloc2_old u (.cells #[.pointer none] 96) (.cells #[.bool false] 4)
    have a2 := heap_alloc2_new u (.cells #[.pointer none] 96) (.cells #[.bool false] 4)
    exact ⟨by rw [cell_of_row _ _ _ _ _ _ a1]; rfl, frozen_of_row _ _ _ _ _ a1, by rw [cell_of_row _ _ _ _ _ _ a2]; rfl, frozen_of_row _ _ _ _ _ a2⟩
  go_upto_region 2 with (go_at_call 177; refine (HN.out _).mono ?_; rintro e w2 ⟨⟨gu, bu, rfl, ha, hb, hS⟩, hb2⟩; obtain ⟨e1, e2, e3, e4⟩ := HE.out w2)
  have a1 := heap_alloc2_old w2 (.cells #[.pointer (some ⟨gu, 0, none⟩)] 96) (.cells #[.bool true] 4)
  have a2 := heap_alloc2_new w2 (.cells #[.pointer (some ⟨gu, 0, none⟩)] 96) (.cells #[.bool true] 4)
  have hb3 : Below w2.heap.size w2 ((w2.alloc (.cells #[.pointer (some ⟨gu, 0, none⟩)] 96)).alloc (.cells #[.bool true] 4)) := ((Below.refl _ _).alloc (Nat.le_refl _) _).alloc (by simp) _
  have HS3 : Hid (((w2.alloc (.cells #[.pointer (some ⟨gu, 0, none⟩)] 96)).alloc (.cells #[.bool true] 4)).heap.size = w2.heap.size + 2) := Lib.hid (by simp)
  have HSZ : Hid (w.heap.size < w2.heap.size ∧ w1.heap.size ≤ w2.heap.size) := Lib.hid (by have := HA2.out; have := hb2.size; omega)
  have HCL0 : Hid (Clm ((w2.alloc (.cells #[.pointer (some ⟨gu, 0, none⟩)] 96)).alloc (.cells #[.bool true] 4)) w.heap.size w2.heap.size (w2.heap.size + 1) g pt gu bu pu r lv tb (fun _ => false, true)) := Lib.hid (by
    have hgl := HX.out.lt
    have hptl := HX.out.tab.lt
    have hgu := hS.glt
    have hbu := hS.blt
    have hs1 := HA2.out
    have hs2 := hb2.size
    refine ⟨?_, by rw [cell_of_row _ _ _ _ _ _ a1]; rfl, by rw [cell_of_row _ _ _ _ _ _ a2]; rfl, frozen_of_row _ _ _ _ _ a2, ((HX.out.below HA.out).below hb2).below hb3, hS.below hb3, ⟨by omega, by omega, by omega, by omega, by omega, by omega⟩, ⟨by omega, by omega, by omega, by omega, by omega⟩⟩
    rw [hb3.cell (p := ⟨w.heap.size, 0, none⟩) (by show w.heap.size < _; omega), hb2.cell (p := ⟨w.heap.size, 0, none⟩) (by show w.heap.size < _; omega)]
    exact HA1.out)
  have HB3 : Hid (Below w.heap.size w ((w2.alloc (.cells #[.pointer (some ⟨gu, 0, none⟩)] 96)).alloc (.cells #[.bool true] 4))) := Lib.hid (Below.more (Below.more HA.out hb2 HA.out.size) hb3 (Nat.le_of_lt HSZ.out.1))
  have HGU : Hid (w.heap.size ≤ gu ∧ w.heap.size ≤ bu) := Lib.hid (by have := HA2.out; omega)
  clear HN HA HA1 HE e1 e2 e3 e4 a1 a2 hb3 hS hb2 ha hb
  obtain ⟨B1, hB1⟩ : ∃ B1, w.heap.size = B1 := ⟨_, rfl⟩
  obtain ⟨B2, hB2⟩ : ∃ B2, w2.heap.size = B2 := ⟨_, rfl⟩
  obtain ⟨B3, hB3⟩ : ∃ B3, w2.heap.size + 1 = B3 := ⟨_, rfl⟩
  have HBS : Hid (w.heap.size = B1 ∧ B1 < B2 ∧ B3 = B2 + 1) := Lib.hid ⟨hB1, by have := HSZ.out; omega, by omega⟩
  generalize ((w2.alloc (.cells #[.pointer (some ⟨gu, 0, none⟩)] 96)).alloc (.cells #[.bool true] 4)) = w3 at *
  rw [hB1, hB3, hB2] at HCL0
  rw [hB2] at HS3
  rw [hB1, hB3, hB2]
  have q1 : (w3.alloc (.cells #[.nilFunc] 41)).cell? ⟨w3.heap.size, 0, none⟩ = some .nilFunc := World.cell?_alloc_new w3 _ _ 0
  have q2 : (w3.alloc (.cells #[.nilFunc] 41)).frozen? ⟨w3.heap.size, 0, none⟩ = false := free_of_one (heap_alloc_new w3 _)
  clear hB1 hB2 hB3 HSZ HA2
  go_upto_region 3 with fail
  have hb4 := alloc_below w3 (.cells #[.func (.func 178) #[] #[.pointer (some ⟨B1, 0, none⟩), .pointer (some ⟨B2, 0, none⟩), .pointer (some ⟨B3, 0, none⟩)]] 41)
  have HAM : Hid (Amid w (w3.alloc (.cells #[.func (.func 178) #[] #[.pointer (some ⟨B1, 0, none⟩), .pointer (some ⟨B2, 0, none⟩), .pointer (some ⟨B3, 0, none⟩)]] 41)) B1 B2 B3 w3.heap.size g pt gu bu pu r lv tb (fun _ => false, true)) := Lib.hid
    ⟨HCL0.out.below hb4, World.cell?_alloc_new w3 _ _ 0, Below.more HB3.out hb4 HB3.out.size, ⟨by have := HCL0.out.sat.blt; omega, by have := HS3.out; have := HBS.out; omega⟩, ⟨HGU.out.2, by have := HBS.out; omega⟩⟩
  generalize w3.alloc (.cells #[.func (.func 178) #[] #[.pointer (some ⟨B1, 0, none⟩), .pointer (some ⟨B2, 0, none⟩), .pointer (some ⟨B3, 0, none⟩)]] 41) = w4 at *
  generalize w3.heap.size = B6 at *
  have HGU2 := Lib.hid HGU.out.1
  clear q1 q2 hb4 HCL0 HB3 HS3 HX HBS HGU
  have k6 := HAM.out.c6
  have k1 := HAM.out.cl.c1
  have kd : w4.cell? ⟨g, 2, none⟩ = some (.int .i64 r.dr) := HAM.out.cl.st.cell 2 _ rfl
  have HAM2 := Lib.hid (HAM.out.below (Below.refl _ _).drew)
  have HCA := Lib.hid (claim_any HAM2.out.cl r.dr)
  go_cut [] from 11 to 22 (fun wx => Amid w wx B1 B2 B3 B6 g pt gu bu pu r lv tb (clm r.pg (fun _ => false, true) r.dr))
  case first =>
    go_still_tail 6, (by kernel_rfl)
    change wpList _ _ _ _ _ (World.drew _)
    go_wp2_with (go_at_call 178; refine HCA.out.mono ?_; rintro e w5 ⟨rfl, hC5, hG5⟩)
    have HF := Lib.hid (HAM2.out.claim hC5 hG5)
    clear hC5 hG5
    go_meet
    exact HF.out
  case rest =>
    have HA5 := Lib.hid hcut
    clear hcut HAM HAM2 HCA k6 k1 kd
    have k1 := HA5.out.cl.c1
    have l0 : wc.cell? ⟨g, 4, none⟩ = some (.int .i64 (lv 0 : Nat)) := HA5.out.cl.st.cell 4 _ rfl
    have l1 : wc.cell? ⟨g, 5, none⟩ = some (.int .i64 (lv 1 : Nat)) := HA5.out.cl.st.cell 5 _ rfl
    have l2 : wc.cell? ⟨g, 6, none⟩ = some (.int .i64 (lv 2 : Nat)) := HA5.out.cl.st.cell 6 _ rfl
    have l3 : wc.cell? ⟨g, 7, none⟩ = some (.int .i64 (lv 3 : Nat)) := HA5.out.cl.st.cell 7 _ rfl
    go_wp2_with fail
    obtain ⟨c0, hc0⟩ : ∃ c0, clm r.pg (fun _ => false, true) r.dr = c0 := ⟨_, rfl⟩
    rw [hc0] at HA5
    have HC0 := Lib.hid hc0
    clear hc0 k1 l0 l1 l2 l3
    have HLV : Hid (∀ i : Nat, i < 4 → (#[Value.int .i64 (lv 0 : Nat), .int .i64 (lv 1 : Nat), .int .i64 (lv 2 : Nat), .int .i64 (lv 3 : Nat)] : Array Value)[i]? = some (.int .i64 (lv i : Nat))) := Lib.hid fun i hi => by
      rcases (show i = 0 ∨ i = 1 ∨ i = 2 ∨ i = 3 by omega) with rfl | rfl | rfl | rfl <;> rfl
    obtain ⟨LA, hLA⟩ : ∃ LA, (#[Value.int .i64 (lv 0 : Nat), .int .i64 (lv 1 : Nat), .int .i64 (lv 2 : Nat), .int .i64 (lv 3 : Nat)] : Array Value) = LA := ⟨_, rfl⟩
    rw [hLA] at HLV ⊢
    clear hLA
    go_loopw [24] (fun iv wr => ∃ i : Nat, i ≤ 4 ∧ iv = .int .i64 (i : Int) ∧ Hid (Amid w wr B1 B2 B3 B6 g pt gu bu pu r lv tb ((lvL lv i).foldl (clm r.pg) c0))) (fun iv _ => 4 - (RowKit.intOf iv).toNat)
    case atStart => exact ⟨0, by omega, by go_num, HA5⟩
    case round =>
      obtain ⟨i, hi4, rfl, HA⟩ := hrel
      have hz4 : (i : Int) ≤ 4 := by omega
      by_cases hlt : i < 4
      · have hd : decide ((i : Int) < 4) = true := decide_eq_true (by omega)
        have hidx : ∀ w : World, (Instr.index 94 (.agg LA) (.int .i64 (i : Int))).run Tryz.prog w = .ok (.int .i64 (lv i : Nat)) w := fun w => Tb.run_index48 LA i _ w hlt (HLV.out i hlt)
        have HL := Lib.hid hlt
        have k6 := HA.out.c6
        have HSU := Lib.hid (lvL_succ lv i)
        by_cases hz : lv i = 0
        · have HS2 : Hid ((lvL lv (i + 1)).foldl (clm r.pg) c0 = (lvL lv i).foldl (clm r.pg) c0) := Lib.hid (by rw [HSU.out, if_pos hz, List.append_nil])
          rw [hz] at hidx
          clear hlt hi4 hz HSU
          go_wp2_with fail
          go_roundw
          case rel => exact ⟨i + 1, by have := HL.out; omega, by go_num, by rw [HS2.out]; exact HA⟩
          case measure => have := HL.out; simp [RowKit.intOf]; omega
        · have hnz : (((lv i : Nat) : Int) == 0) = false := by simpa using hz
          have hnz2 : (((lv i : Nat) : Int) != 0) = true := by simpa using hz
          have HS2 : Hid ((lvL lv (i + 1)).foldl (clm r.pg) c0 = clm r.pg ((lvL lv i).foldl (clm r.pg) c0) ((lv i : Nat) : Int)) := Lib.hid (by rw [HSU.out, if_neg hz, List.foldl_append]; rfl)
          have HCA := Lib.hid (claim_any HA.out.cl ((lv i : Nat) : Int))
          clear hlt hi4 hz HSU
          obtain ⟨y, hy⟩ : ∃ y, lv i = y := ⟨_, rfl⟩
          rw [hy] at hidx hnz hnz2 HCA HS2
          clear hy
          go_wp2_with (go_at_call 178; refine HCA.out.mono ?_; rintro e w5 ⟨rfl, hC5, hG5⟩)
          go_roundw
          case rel => exact ⟨i + 1, by have := HL.out; omega, by go_num, by rw [HS2.out]; exact Lib.hid (HA.out.claim hC5 hG5)⟩
          case measure => have := HL.out; simp [RowKit.intOf]; omega
      · have hd : decide ((i : Int) < 4) = false := decide_eq_false (by omega)
        have hd2 : decide (i < 4) = false := decide_eq_false (by omega)
        have HE : Hid (i = 4) := Lib.hid (by omega)
        have k1 := HA.out.cl.c1
        have k8 : wr.cell? ⟨g, 8, none⟩ = some (.pointer (some ⟨pt, 0, none⟩)) := HA.out.cl.st.cell 8 _ rfl
        have HALL := Lib.hid (Tb.all_any HA.out.cl.st.tab)
        clear hlt hi4
        go_wp2_with (go_at_call 93; refine HALL.out.mono ?_; rintro e w6 ⟨⟨Bs, g', rfl, hTo⟩, hb6⟩)
        have HA6 := Lib.hid (HA.out.below hb6)
        obtain ⟨t1, t2, t3, t4, t5, t6⟩ := hTo
        have HSZ : Hid (wr.heap.size ≤ w6.heap.size) := Lib.hid hb6.size
        have HLT : Hid (∀ k ∈ [B1, B2, B3, g, pt, gu, bu, B6], k < w6.heap.size ∧ k ≠ Bs ∧ k ≠ g') := Lib.hid fun k hk => by
          have h1 := HA.out.lt k hk
          exact ⟨by omega, by omega, by omega⟩
        have HBW : Hid (w.heap.size ≤ w6.heap.size) := Lib.hid HA6.out.bel.size
        have HE2 : Hid (lvL lv i = lvL lv 4) := Lib.hid (by rw [HE.out])
        obtain ⟨c1, hc1⟩ : ∃ c1, (lvL lv i).foldl (clm r.pg) c0 = c1 := ⟨_, rfl⟩
        rw [hc1] at HA HA6
        have HC1 := Lib.hid hc1
        have HTN : Hid (Bs ≠ g') := Lib.hid t3
        clear HALL hb6 hc1 k1 k8 HA hd hd2
        refine (wpIn_wide (n := 5)).1 ?_
        refine wpIn_rangeFunc_ownG rfl (by omega) (gf := 151) (lb := #[.pointer (some ⟨Bs, 0, none⟩)]) rfl trivial (enters_of Tryz.func151 (by kernel_rfl) rfl)
          (Tb.all_stops 4 (by omega) Bs g' tb w6 t4 t5 t6) Tb.Two.trans (Tb.Two.put t4 t6.lt) (Below.refl _ _) (fun _ => rfl)
          (fun pre W => Amid w W B1 B2 B3 B6 g pt gu bu pu r lv tb ((pre.map fun l => ((tb l : Nat) : Int)).foldl (clm r.pg) c1) ∧ w6.heap.size ≤ W.heap.size)
          (fun _ _ _ => False)
          (fun pre W W' row hs hg hr => ⟨hs.1.grown hg (fun k hk e => by have h1 := (hr k e.symm).1; have h2 := (HLT.out k hk).1; omega) (fun j e => Nat.le_trans HBW.out (hr j e).1), Nat.le_trans hs.2 hg.size⟩)
          (fun c => ownFrom_pure _ _)
          ⟨HA6.out, Nat.le_refl _⟩
          (fun x => { tmps := #[.pointer (some ⟨g, 0, none⟩), .pointer (some ⟨B1, 0, none⟩), .pointer none, .bool false, .pointer (some ⟨B2, 0, none⟩), .pointer (some ⟨B3, 0, none⟩), .pointer (some ⟨B6, 0, none⟩), undef, u8, undef, .int .i64 ((tb x : Nat) : Int), u11, u12, u13, u14, u15, u16, u17, u18, u19, .pointer (some ⟨g, 0, none⟩), .pointer (some ⟨g, 0, none⟩), .pointer (some ⟨g, 4, none⟩), .agg LA, .int .i64 (i : Int), .bool false, u26, u27, u28, u29, u30, u31, u32, .pointer (some ⟨g, 0, none⟩), .pointer (some ⟨g, 0, none⟩), .pointer (some ⟨g, 8, none⟩), .pointer (some ⟨pt, 0, none⟩), .func (.func 151) #[] #[.pointer (some ⟨Bs, 0, none⟩)], .int .i64 (x : Int), .int .i64 ((tb x : Nat) : Int), undef, undef, undef, undef, undef], defers := [] }) ?assign ?body ?done ?stop
        case assign =>
          intro l x W K hK
          unfold Tb.tell
          gi_wp2
          first
            | exact hK
            | (simp; exact hK)
        case body =>
          rintro l pre x W ⟨hA, hWS⟩ hlen
          have HAW := Lib.hid hA
          have k6 := hA.c6
          have HCA := Lib.hid (claim_any hA.cl ((tb x : Nat) : Int))
          have HFO : Hid (((pre ++ [x]).map fun l => ((tb l : Nat) : Int)).foldl (clm r.pg) c1 = clm r.pg ((pre.map fun l => ((tb l : Nat) : Int)).foldl (clm r.pg) c1) ((tb x : Nat) : Int)) := Lib.hid (by rw [List.map_append, List.foldl_append]; rfl)
          clear hA hlen
          generalize tb x = y at *
          gi_wp2
          refine ⟨trivial, (CallsIn.inRound l (callsIn_wide.2 HCA.out)).mono ?_⟩
          rintro e w7 ⟨rfl, hC7, hG7⟩
          have hsz := hG7.size
          have h1 := (HLT.out bu (by simp)).1
          have h2 := (HLT.out B3 (by simp)).1
          have hoth : ∀ k, k ≠ bu → k ≠ B3 → k < W.heap.size → w7.heap[k]? = W.heap[k]? := fun k e1 e2 hk => hG7.block k hk (by simp; exact ⟨e1, e2⟩)
          have hKF : KeepsFrom w6.heap.size W w7 := ⟨hsz, fun k o hB hk _ => (hoth k (by omega) (by omega) (Array.getElem?_eq_some_iff.1 hk).1).trans hk⟩
          have hFin := HAW.out.claim hC7 hG7
          rw [← HFO.out] at hFin
          have hTw : Tb.Two Bs g' W w7 := ⟨hoth Bs (fun e => (HLT.out bu (by simp)).2.1 e.symm) (fun e => (HLT.out B3 (by simp)).2.1 e.symm) (by omega), hoth g' (fun e => (HLT.out bu (by simp)).2.2 e.symm) (fun e => (HLT.out B3 (by simp)).2.2 e.symm) (by have := t6.lt; omega)⟩
          gi_wp2
          exact ⟨hKF, hTw, hFin, by omega⟩
        case done =>
          rintro D ys W hD rfl ⟨hA, hWS⟩ hK
          have HPG : Hid (pgsM r lv tb = ((Tb.mems (Tb.told tb) 512).map fun l => ((tb l : Nat) : Int)).foldl (clm r.pg) c1) := Lib.hid (by
            unfold pgsM claims
            rw [List.foldl_cons, List.foldl_append, HC0.out, ← HC1.out, HE2.out]; rfl)
          have k4 := hA.cl.c2
          have k5 := hA.cl.c3
          have HAW := Lib.hid hA
          have HK := Lib.hid hK
          have HBF : Hid (Below w6.heap.size W (W.putObj D (.deferred none))) := Lib.hid (belowK_b (w := w6) (Nat.le_refl _) W D _ (.deferred none) hD hK rfl rfl)
          clear hA hK
          rw [← HPG.out] at k5 HAW
          obtain ⟨PG, hPG⟩ : ∃ PG, pgsM r lv tb = PG := ⟨_, rfl⟩
          rw [hPG] at k5 HAW
          have HPG2 := Lib.hid hPG
          clear hPG HPG
          go_wp2_with fail
          go_quiet (fail)
          have hbq : Below W.heap.size W (W.drewN nq) := below_drewN (Below.refl _ _) nq
          have hDl : D < W.heap.size := (Array.getElem?_eq_some_iff.1 HK.out).1
          have HKq : Hid ((W.drewN nq).heap[D]? = some (.deferred (some []))) := Lib.hid ((hbq.block D hDl).trans HK.out)
          have HAq := Lib.hid (HAW.out.below hbq)
          have HBq : Hid (Below w6.heap.size (W.drewN nq) ((W.drewN nq).putObj D (.deferred none))) := Lib.hid (belowK_b (w := w6) (Nat.le_refl _) _ D _ (.deferred none) hD HKq.out rfl rfl)
          clear hbq HAW HBF
          generalize W.drewN nq = Wq at *
          go_wp2_with fail
          refine ⟨by simp, .inl ⟨_, _, rfl, run_takeDeferred HKq.out, ?_⟩⟩
          have hfin : Amid w (Wq.putObj D (.deferred none)) B1 B2 B3 B6 g pt gu bu pu r lv tb PG := HAq.out.grown (grownBy_putObj' Wq D _) (fun k hk e => by have h2 := (HLT.out k hk).1; injection e with e; omega) (fun j e => by cases e; exact Nat.le_trans HBW.out hD)
          refine ⟨.tuple #[.pointer (some ⟨gu, 0, none⟩), .bool PG.2], ?_, ⟨gu, bu, by rw [HPG2.out], HGU2.out, hfin.hi.1, by rw [HPG2.out]; exact hfin.cl.sat⟩, hfin.bel⟩
          simp [results, Tryz.f142, go_sem]
        case stop =>
          rintro D cd pre W hD _ hf hK
          exact hf.elim
end
end Go.Proofs.YtmbecjlioogbhaaGreatDoor
end
section
/-! A leaf loaded off the disk. -/
set_option maxRecDepth 20000
set_option linter.unusedSimpArgs false
namespace Go.Proofs.YtmbecjlioogbhaaGreatDoor
open Go.RowKit

/-- '[]byte(s)'. -/
theorem conv_bytes (w : World) (b : List Nat) (hd : ∀ x ∈ b, x < 256) (hn : b.length ≤ 1099511627776) :
    ∃ cap W', (convert 9 71 (.string (strB b))).run Tryz.prog w = .ok (.slice (some ⟨w.heap.size, 0, none⟩) b.length cap) W' ∧ Below w.heap.size w W' ∧ Bys W' (some ⟨w.heap.size, 0, none⟩) b.length b ∧ b.length ≤ cap ∧ cap ≤ 9223372036854775807 := by
  have hrun := run_bytes_of_string (P := Tryz.prog) w 9 71 5 (strB b) Tryz.underlying9 Tryz.underlying71 Tryz.underlying5
  rw [strB_size] at hrun
  have hc1 := grownCap_ge w b.length 0 5
  have hc2 := grownCap_le_maxLen w b.length 0 5 (by unfold maxLen; omega)
  refine ⟨_, _, hrun, (Below.refl _ _).drew.alloc (Nat.le_refl _) _, ⟨rfl, hd, fun _ => ⟨w.heap.size, 0, rfl, fun i hi => ?_⟩⟩, hc1, by unfold maxLen at hc2; omega⟩
  rw [Nat.zero_add]
  show (w.drew.alloc _).cell? ⟨w.drew.heap.size, i, none⟩ = _
  rw [cell_of_row _ _ _ _ _ _ (heap_alloc_new w.drew _)]
  unfold bytesRow
  have hsz : ((strB b).data.map (fun c => Value.int .u8 (c.toNat : Int))).size = b.length := by
    rw [Array.size_map]; exact strB_size b
  rw [Array.getElem?_append_left (by rw [hsz]; exact hi), Array.getElem?_map, strB_get b i hi]
  have h3 : b.getD i 0 < 256 := by
    rw [List.getD_eq_getElem?_getD, List.getElem?_eq_getElem hi]
    exact hd _ (List.getElem_mem _)
  simp only [Option.map_some]
  rw [UInt8.toNat_ofNat_of_lt' h3]
theorem pageB_ok {m : Dsk} (h : Ok m) (p : Nat) (hp : 4 * p + 4 ≤ m.out.length) : (pageB m.last p).length = 512 ∧ ∀ x ∈ pageB m.last p, x < 256 := by
  have hs : ∀ j, j < 4 → (sec m.last (4 * p + j)).length = 128 ∧ ∀ d ∈ sec m.last (4 * p + j), d < 256 := fun j hj => h.last _ (sec_mem (by rw [last_len]; omega))
  have hL : ∀ i, i ≤ 4 → (cat (fun j => sec m.last (4 * p + j)) i).length = i * 128 ∧ ∀ x ∈ cat (fun j => sec m.last (4 * p + j)) i, x < 256 := by
    intro i
    induction i with
    | zero => exact fun _ => ⟨rfl, fun x hx => by cases hx⟩
    | succ i ih =>
      intro hi
      have h1 := ih (by omega)
      have h2 := hs i (by omega)
      refine ⟨?_, fun x hx => ?_⟩
      · show (cat _ i ++ sec m.last (4 * p + i)).length = _
        rw [List.length_append, h1.1, h2.1]; omega
      · rcases List.mem_append.1 (show x ∈ cat (fun j => sec m.last (4 * p + j)) i ++ sec m.last (4 * p + i) from hx) with hx | hx
        · exact h1.2 x hx
        · exact h2.2 x hx
  exact hL 4 (by omega)
/-- What a leaf's page makes of a table, and what is told of it. -/
def leafM (m : Dsk) (r : Rt) (lv tb : Nat → Nat) (i : Nat) : Int × (Nat → Nat) :=
  if lv i = 0 then (0, tb) else if r.pg ≤ ((lv i : Nat) : Int) then (13, tb)
  else if Tb.loadE (i : Int) (pageB m.last (lv i)) ≠ 0 then (13, tb) else if Tb.bareB (Tb.loadF tb (i : Int) (pageB m.last (lv i))) i then (13, Tb.loadF tb (i : Int) (pageB m.last (lv i))) else (0, Tb.loadF tb (i : Int) (pageB m.last (lv i)))
section
variable {w : World} {g pt d : Nat} {pu : Option Addr} {r : Rt} {lv tb : Nat → Nat} {F : List Nat} {m : Dsk}
set_option maxHeartbeats 1600000 in
theorem loadLeaf_any (h : Stt w g pt pu r lv tb) (hD : Dk w d F m) (hd : m.down = false) (hl : m.out.length ≤ 2048) (hpg : r.pg * 4 ≤ (m.out.length : Int)) (i : Nat) (hi : i < 4) (hlv : lv i < 512) :
    Calls Tryz.prog 149 #[.pointer (some ⟨g, 0, none⟩), .pointer (some ⟨d, 0, none⟩), .int .i64 (i : Int)] w fun e w' => e = .returned (.int .i64 (leafM m r lv tb i).1) ∧ Tb.Tab w' pt (leafM m r lv tb i).2 ∧ Only pt w w' := by
  have kl : w.cell? ⟨g, 4 + i, none⟩ = some (.int .i64 (lv i : Nat)) := h.cell (4 + i) _ (by rcases (show i = 0 ∨ i = 1 ∨ i = 2 ∨ i = 3 by omega) with rfl | rfl | rfl | rfl <;> rfl)
  have k1 : w.cell? ⟨g, 1, none⟩ = some (.int .i64 r.pg) := h.cell 1 _ rfl
  have k8 : w.cell? ⟨g, 8, none⟩ = some (.pointer (some ⟨pt, 0, none⟩)) := h.cell 8 _ rfl
  have HX := Lib.hid h
  have HE : Hid (leafM m r lv tb i = if lv i = 0 then (0, tb) else if r.pg ≤ ((lv i : Nat) : Int) then (13, tb)
    else if Tb.loadE (i : Int) (pageB m.last (lv i)) ≠ 0 then (13, tb) else if Tb.bareB (Tb.loadF tb (i : Int) (pageB m.last (lv i))) i then (13, Tb.loadF tb (i : Int) (pageB m.last (lv i))) else (0, Tb.loadF tb (i : Int) (pageB m.last (lv i)))) := Lib.hid rfl
  rw [HE.out]
  have HT := Lib.hid h.tab
  have hli := hlv
  have hi5 : (i : Int) < 4 := by omega
  have hi6 : (0 : Int) ≤ (i : Int) := by omega
  have HI := Lib.hid hi
  clear h hlv HE
  by_cases hz : lv i = 0
  · rw [if_pos hz]
    rw [hz] at kl
    clear hz hD hd hl hpg hli
    go_enter Tryz.func149, Tryz.ntmps149
    go_wp2_with fail
    go_ret
    exact ⟨rfl, HT.out, Only.refl _ _⟩
  · rw [if_neg hz]
    have hnz : (((lv i : Nat) : Int) == 0) = false := by simpa using hz
    by_cases hp : r.pg ≤ ((lv i : Nat) : Int)
    · rw [if_pos hp]
      have hd1 : decide (r.pg ≤ ((lv i : Nat) : Int)) = true := decide_eq_true hp
      have hd2 : decide (((lv i : Nat) : Int) ≥ r.pg) = true := decide_eq_true hp
      clear hz hD hd hl hpg hli
      generalize lv i = y at *
      generalize r.pg = pg at *
      go_enter Tryz.func149, Tryz.ntmps149
      go_wp2_with fail
      go_ret
      exact ⟨rfl, HT.out, Only.refl _ _⟩
    · rw [if_neg hp]
      have hd1 : decide (r.pg ≤ ((lv i : Nat) : Int)) = false := decide_eq_false hp
      have hd2 : decide (((lv i : Nat) : Int) ≥ r.pg) = false := decide_eq_false hp
      have HRP := Lib.hid (readPage_up hD (lv i) hd (by omega) hl)
      obtain ⟨hb1, hb2⟩ := pageB_ok hD.ok (lv i) (by omega)
      generalize pageB m.last (lv i) = bs at *
      obtain ⟨cap, W1, hrun, hbW, hBy, hc1, hc2⟩ := conv_bytes w bs hb2 (by omega)
      rw [hb1] at hrun hBy hc1
      have HB1 := Lib.hid hbW
      have j8 := (hbW.cell (p := ⟨g, 8, none⟩) HX.out.lt).trans k8
      have hTL := Tb.load_any (HT.out.below hbW) (i : Int) (some ⟨w.heap.size, 0, none⟩) 512 cap bs hBy hc1 hc2
      have HTL := Lib.hid hTL
      have HKG : Hid (∀ w2, Only pt W1 w2 → w2.cell? ⟨g, 8, none⟩ = some (.pointer (some ⟨pt, 0, none⟩))) := Lib.hid fun w2 ho => by
        have hg1 : g < W1.heap.size := Nat.lt_of_lt_of_le HX.out.lt hbW.size
        have hne : g ≠ pt := fun e => by
          have h1 := HX.out.box
          have h2 := HT.out.row
          unfold Tb.IsT at h2
          rw [e, h2] at h1; simp at h1
        exact (World.cell?_of_block (ho.block g hg1 hne)).trans j8
      have hLF : Tb.loadE (i : Int) bs ≠ 0 → Tb.loadF tb (i : Int) bs = tb := fun e => by unfold Tb.loadF; rw [if_neg e]
      have HLF := Lib.hid hLF
      clear hz hD hd hl hpg hp hb1 hb2 hbW hBy hc1 hc2 hTL hLF
      generalize Tb.loadF tb (i : Int) bs = t2 at *
      obtain ⟨E, hE⟩ : ∃ E, Tb.loadE (i : Int) bs = E := ⟨_, rfl⟩
      rw [hE] at HTL HLF ⊢
      clear hE
      obtain ⟨S, hS⟩ : ∃ S, strB bs = S := ⟨_, rfl⟩
      rw [hS] at HRP hrun
      clear hS
      generalize lv i = y at *
      generalize r.pg = pg at *
      by_cases h0 : E = 0
      · subst h0
        rw [if_neg (by decide)]
        cases hba : Tb.bareB t2 i with
        | true =>
          have HBA : Hid (∀ w2, Tb.Tab w2 pt t2 → Calls Tryz.prog 140 #[.pointer (some ⟨pt, 0, none⟩), .int .i64 (i : Int)] w2 fun e w' => e = .returned (.bool true) ∧ w2 = w') := Lib.hid fun w2 hT => by
            have h1 := Tb.bare_in hT i HI.out
            rwa [hba] at h1
          rw [if_pos rfl]
          clear hba HLF
          go_enter Tryz.func149, Tryz.ntmps149
          go_wp2_with (first
            | (go_at_call 78; refine HRP.out.mono ?_; rintro e w7 ⟨rfl, rfl⟩)
            | (go_at_call 192; refine HTL.out.mono ?_; rintro e w2 ⟨rfl, hT2, hO2⟩; have m8 := HKG.out w2 hO2)
            | (go_at_call 140; refine (HBA.out _ hT2).mono ?_; rintro e w7 ⟨rfl, rfl⟩))
          go_ret
          exact ⟨rfl, hT2, (Only.of_below HB1.out).trans hO2⟩
        | false =>
          have HBA : Hid (∀ w2, Tb.Tab w2 pt t2 → Calls Tryz.prog 140 #[.pointer (some ⟨pt, 0, none⟩), .int .i64 (i : Int)] w2 fun e w' => e = .returned (.bool false) ∧ w2 = w') := Lib.hid fun w2 hT => by
            have h1 := Tb.bare_in hT i HI.out
            rwa [hba] at h1
          rw [if_neg (by decide)]
          clear hba HLF
          go_enter Tryz.func149, Tryz.ntmps149
          go_wp2_with (first
            | (go_at_call 78; refine HRP.out.mono ?_; rintro e w7 ⟨rfl, rfl⟩)
            | (go_at_call 192; refine HTL.out.mono ?_; rintro e w2 ⟨rfl, hT2, hO2⟩; have m8 := HKG.out w2 hO2)
            | (go_at_call 140; refine (HBA.out _ hT2).mono ?_; rintro e w7 ⟨rfl, rfl⟩))
          go_ret
          exact ⟨rfl, hT2, (Only.of_below HB1.out).trans hO2⟩
      · rw [if_pos h0]
        have hb0 : (E == 0) = false := by simpa using h0
        have hb00 : (E != 0) = true := by simpa using h0
        have HTB := Lib.hid (HLF.out h0)
        clear h0 HLF
        go_enter Tryz.func149, Tryz.ntmps149
        go_wp2_with (first
          | (go_at_call 78; refine HRP.out.mono ?_; rintro e w7 ⟨rfl, rfl⟩)
          | (go_at_call 192; refine HTL.out.mono ?_; rintro e w2 ⟨rfl, hT2, hO2⟩))
        go_ret
        exact ⟨rfl, by rw [← HTB.out]; exact hT2, (Only.of_below HB1.out).trans hO2⟩
end
end Go.Proofs.YtmbecjlioogbhaaGreatDoor
end
section
/-! The bytes of a long thing as its pages have them. -/
set_option maxRecDepth 20000
set_option linter.unusedSimpArgs false
namespace Go.Proofs.YtmbecjlioogbhaaGreatDoor
open Go.RowKit

/-- Texts in a row. -/
def txL (f : Nat → List Nat) (n : Nat) : List Value := (List.range n).map fun i => Value.string (strB (f i))
/-- A row of texts of the call's own. -/
def OwnT (w : World) (B : Nat) (v : Value) (f : Nat → List Nat) (n : Nat) : Prop := ∃ p c, v = .slice p n c ∧ w.ownsRow B 9 1 (.slice p n c) n (txL f n)
theorem OwnT.below {w w' : World} {B n : Nat} {v : Value} {f : Nat → List Nat} (h : OwnT w B v f n) (hb : Below w.heap.size w w') : OwnT w' B v f n := by
  obtain ⟨p, c, e, h⟩ := h
  exact ⟨p, c, e, own_below h hb⟩
end Go.Proofs.YtmbecjlioogbhaaGreatDoor
end
section
/-! The store in memory: its box and its parts; what only reads it. -/
set_option maxRecDepth 20000
set_option linter.unusedSimpArgs false
namespace Go.Proofs.YtmbecjlioogbhaaGreatDoor
open Go.RowKit

/-- Parts in a row of the store's own. -/
def OwnP (w : World) (B : Nat) (v : Value) (n : Nat) (F : Nat → Nat) : Prop := w.ownsRow B 82 129 v n (Tb.ints F 0 (n * 129))
theorem OwnP.form {w : World} {B : Nat} {v : Value} {n : Nat} {F : Nat → Nat} (h : OwnP w B v n F) : ∃ p c, v = .slice p n c ∧ (0 < n → ∃ b, p = some ⟨b, 0, none⟩ ∧ b < w.heap.size ∧ (∀ j, j < n * 129 → w.cell? ⟨b, j, none⟩ = some (.int .i64 ((F j : Nat) : Int)))) := by
  have h0 := h
  rcases h.2 with ⟨e, hn⟩ | ⟨g, cap, cur, e, hb, hh, h1, h2, h3, h4⟩
  · subst hn
    exact ⟨none, 0, e, fun h => absurd h (Nat.lt_irrefl 0)⟩
  · refine ⟨_, cap, e, fun hn => ⟨g, rfl, (World.ownsRow.lt h0 g (by rw [e]; rfl)).2, fun j hj => ?_⟩⟩
    rw [cell_of_row _ _ _ _ _ _ hh]
    have h5 := Tb.ints_get F 0 (n * 129) j hj
    rw [← h4, List.getElem?_take, if_pos (by omega), Nat.zero_add] at h5
    simpa using h5
/-- The store's box. -/
structure Sth (w : World) (g sg mb : Nat) (v : Value) (n : Nat) (F : Nat → Nat) (shut : Bool) : Prop where
  row : w.heap[g]? = some (.cells #[.pointer (some ⟨sg, 0, none⟩), v, .map (some mb), .bool shut] 78 (0, 0))
  own : OwnP w 0 v n F
  n64 : n ≤ 64
section
variable {w w' : World} {g sg mb n : Nat} {v : Value} {F : Nat → Nat} {sh : Bool}
theorem Sth.lt (h : Sth w g sg mb v n F sh) : g < w.heap.size := lt_of_block h.row
theorem Sth.below (h : Sth w g sg mb v n F sh) (hb : Below w.heap.size w w') : Sth w' g sg mb v n F sh := ⟨(hb.block g h.lt).trans h.row, own_below h.own hb, h.n64⟩
theorem Sth.c0 (h : Sth w g sg mb v n F sh) : w.cell? ⟨g, 0, none⟩ = some (.pointer (some ⟨sg, 0, none⟩)) := by rw [cell_of_row w g 0 _ _ _ h.row]; rfl
theorem Sth.c1 (h : Sth w g sg mb v n F sh) : w.cell? ⟨g, 1, none⟩ = some v := by rw [cell_of_row w g 1 _ _ _ h.row]; rfl
theorem Sth.c2 (h : Sth w g sg mb v n F sh) : w.cell? ⟨g, 2, none⟩ = some (.map (some mb)) := by rw [cell_of_row w g 2 _ _ _ h.row]; rfl
theorem Sth.c3 (h : Sth w g sg mb v n F sh) : w.cell? ⟨g, 3, none⟩ = some (.bool sh) := by rw [cell_of_row w g 3 _ _ _ h.row]; rfl
theorem refusal_nil (w : World) : Calls Tryz.prog 42 #[.pointer none] w fun e w' => e = .returned (.int .i64 1) ∧ w = w' := by
  go_enter Tryz.func42, Tryz.ntmps42
  go_wp2_with fail
  go_ret
  exact ⟨rfl, rfl⟩
theorem Sth.refusal (h : Sth w g sg mb v n F sh) : Calls Tryz.prog 42 #[.pointer (some ⟨g, 0, none⟩)] w fun e w' => e = .returned (.int .i64 (if sh then 12 else 0)) ∧ w = w' := by
  have c3 := h.c3
  clear h
  cases sh
  · go_enter Tryz.func42, Tryz.ntmps42
    go_wp2_with fail
    go_ret
    exact ⟨rfl, rfl⟩
  · go_enter Tryz.func42, Tryz.ntmps42
    go_wp2_with fail
    go_ret
    exact ⟨rfl, rfl⟩
theorem Sth.lacksPart (h : Sth w g sg mb v n F sh) (k : Int) : Calls Tryz.prog 98 #[.pointer (some ⟨g, 0, none⟩), .int .i64 k] w fun e w' => e = .returned (.bool (decide ((n : Int) * 128 < k))) ∧ w = w' := by
  have c1 := h.c1
  obtain ⟨p, c, rfl, -⟩ := h.own.form
  have h64 : (n : Int) ≤ 64 := by have := h.n64; omega
  clear h
  go_enter Tryz.func98, Tryz.ntmps98
  go_wp2_with fail
  go_ret
  exact ⟨rfl, rfl⟩
/-- What a number tells, one less than it. -/
def spF (F : Nat → Nat) (k : Nat) : Nat := F (k / 128 * 129 + 1 + k % 128)
/-- What a number tells. -/
def spotN (F : Nat → Nat) (n : Nat) (k : Int) : Nat := if 1 ≤ k ∧ k ≤ (n : Int) * 128 then spF F (k - 1).toNat else 0
set_option maxHeartbeats 800000 in
theorem Sth.spot (h : Sth w g sg mb v n F sh) (k : Int) : Calls Tryz.prog 70 #[.pointer (some ⟨g, 0, none⟩), .int .i64 k] w fun e w' => e = .returned (.int .i64 ((spotN F n k : Nat) : Int)) ∧ w = w' := by
  have c1 := h.c1
  obtain ⟨p, c, rfl, hp⟩ := h.own.form
  have h64 : (n : Int) ≤ 64 := by have := h.n64; omega
  have HP := Lib.hid hp
  clear h hp
  by_cases h1 : k < 1
  · have hd : decide (k < 1) = true := decide_eq_true h1
    have HS : Hid (spotN F n k = 0) := Lib.hid (if_neg (by omega))
    go_enter Tryz.func70, Tryz.ntmps70
    go_wp2_with fail
    go_ret
    exact ⟨by rw [HS.out]; rfl, rfl⟩
  · have hd : decide (k < 1) = false := decide_eq_false h1
    by_cases h2 : (n : Int) * 128 < k
    · have hd2 : decide ((n : Int) * 128 < k) = true := decide_eq_true h2
      have HS : Hid (spotN F n k = 0) := Lib.hid (if_neg (by omega))
      go_enter Tryz.func70, Tryz.ntmps70
      go_wp2_with fail
      go_ret
      exact ⟨by rw [HS.out]; rfl, rfl⟩
    · have hd2 : decide ((n : Int) * 128 < k) = false := decide_eq_false h2
      obtain ⟨m, hm⟩ : ∃ m : Nat, k = (m : Int) + 1 := ⟨(k - 1).toNat, by omega⟩
      have hmn : m < n * 128 := by omega
      obtain ⟨b, rfl, hb, hcell⟩ := HP.out (by omega)
      have hq1 : m / 128 < n := by omega
      have hq2 : m % 128 < 128 := Nat.mod_lt _ (by decide)
      have hcl := hcell (m / 128 * 129 + 1 + m % 128) (by have := Nat.mul_le_mul_right 129 (show m / 128 + 1 ≤ n by omega); omega)
      have HS : Hid (spotN F n k = F (m / 128 * 129 + 1 + m % 128)) := Lib.hid (by
        unfold spotN spF
        rw [if_pos (by omega), hm, show ((m : Int) + 1 - 1).toNat = m by omega])
      have HPL := Lib.hid (placeOf_any m w (by omega))
      rw [← hm] at HPL
      have hk1 : k ≤ 8192 := by omega
      have hk0 : 1 ≤ k := by omega
      have hi1 : ((m / 128 : Nat) : Int) < (n : Int) := by omega
      have hi2 : ((m % 128 : Nat) : Int) < 128 := by omega
      rw [HS.out]
      generalize F (m / 128 * 129 + 1 + m % 128) = x at *
      generalize m / 128 = q at *
      generalize m % 128 = r at *
      clear HP hcell hmn hm h1 h2 HS
      go_enter Tryz.func70, Tryz.ntmps70
      go_wp2_with (go_at_call 113; with_reducible refine HPL.out.mono ?_; rintro e w7 ⟨rfl, rfl⟩)
      go_ret
      exact ⟨rfl, rfl⟩
end
end Go.Proofs.YtmbecjlioogbhaaGreatDoor
end
section
/-! The least number without a thing. -/
set_option maxRecDepth 20000
set_option linter.unusedSimpArgs false
namespace Go.Proofs.YtmbecjlioogbhaaGreatDoor
open Go.RowKit

/-- The least number, less one, that tells nothing; all numbers else. -/
def bareN (F : Nat → Nat) (n : Nat) : Nat := ((List.range (n * 128)).find? fun k => spF F k == 0).getD (n * 128)
theorem bare_at {F : Nat → Nat} {n k : Nat} (h : ∀ j, j < k → spF F j ≠ 0) (hk : spF F k = 0) (hn : k < n * 128) : bareN F n = k := by
  have h1 : (List.range (n * 128)).find? (fun k => spF F k == 0) = some k := by
    rw [List.find?_range_eq_some]
    exact ⟨by simp [hk], by simpa using hn, fun j hj => by simp [h j hj]⟩
  unfold bareN
  rw [h1]; rfl
theorem bare_all {F : Nat → Nat} {n : Nat} (h : ∀ j, j < n * 128 → spF F j ≠ 0) : bareN F n = n * 128 := by
  have h1 : (List.range (n * 128)).find? (fun k => spF F k == 0) = none := by
    rw [List.find?_range_eq_none]
    exact fun j hj => by simp [h j hj]
  unfold bareN
  rw [h1]; rfl
theorem spF_at (F : Nat → Nat) (i j : Nat) (hj : j < 128) : spF F (i * 128 + j) = F (i * 129 + 1 + j) := by
  unfold spF
  rw [show (i * 128 + j) / 128 = i by omega, show (i * 128 + j) % 128 = j by omega]
theorem range_of_cells {w : World} {b N o k : Nat} {F : Nat → Nat} (h : ∀ j, j < N → w.cell? ⟨b, j, none⟩ = some (.int .i64 ((F j : Nat) : Int))) (ho : o + k ≤ N) : w.rangeAt b o (Tb.ints F o k) := fun j v hv => by
  have hj : j < k := by
    have := (List.getElem?_eq_some_iff.1 hv).1
    rwa [Tb.ints_len] at this
  rw [Tb.ints_get F o k j hj] at hv
  rw [h (o + j) (by omega)]; exact hv
section
variable {w : World} {g sg mb n : Nat} {v : Value} {F : Nat → Nat} {sh : Bool}
set_option maxHeartbeats 3200000 in
theorem Sth.bare (h : Sth w g sg mb v n F sh) : Calls Tryz.prog 51 #[.pointer (some ⟨g, 0, none⟩)] w fun e w' => e = .returned (.int .i64 ((bareN F n : Nat) + 1 : Int)) ∧ Below w.heap.size w w' := by
  have c1 := h.c1
  have hg := h.lt
  obtain ⟨p, c, rfl, hp⟩ := h.own.form
  have h64 : n ≤ 64 := h.n64
  have h64I : (n : Int) ≤ 64 := by omega
  obtain ⟨hz, -⟩ := zero_of_info (P := Tryz.prog) infoPart
  have hzs : (partL 0 fun _ => 0).toArray.size = 129 := by rw [List.size_toArray, partL_len]
  have HP := Lib.hid hp
  have HC1 := Lib.hid c1
  clear h hp
  generalize (partL 0 fun _ => 0).toArray = Z at *
  have HZS := Lib.hid hzs
  clear hzs
  go_enter Tryz.func51, Tryz.ntmps51
  go_upto_region 2 with fail
  clear c1
  go_loopw [12] (fun iv wr => ∃ i : Nat, i ≤ n ∧ iv = .int .i64 (i : Int) ∧ Hid (Below w.heap.size w wr ∧ ∀ j, j < i * 128 → spF F j ≠ 0)) (fun iv _ => n - (RowKit.intOf iv).toNat)
  case atStart => exact ⟨0, by omega, by go_num, Lib.hid ⟨Below.refl _ _, fun j hj => by omega⟩⟩
  case round =>
    obtain ⟨i, hi, rfl, hr⟩ := hrel
    have c1 := (hr.out.1.cell (p := ⟨g, 1, none⟩) hg).trans HC1.out
    by_cases hlt : i < n
    · have hd : decide ((i : Int) < (n : Int)) = true := decide_eq_true (by omega)
      have hiI : (i : Int) < 64 := by omega
      have hiI2 : (i : Int) < (n : Int) := by omega
      have HI2 := Lib.hid hlt
      obtain ⟨b, rfl, hb, hcell⟩ := HP.out (by omega)
      have hcw : ∀ j, j < n * 129 → wr.cell? ⟨b, j, none⟩ = some (.int .i64 ((F j : Nat) : Int)) := fun j hj => (hr.out.1.cell (p := ⟨b, j, none⟩) hb).trans (hcell j hj)
      have hin : i * 129 + 129 ≤ n * 129 := by have := Nat.mul_le_mul_right 129 (show i + 1 ≤ n by omega); omega
      have HRA := Lib.hid (range_of_cells hcw hin)
      have HSR : Hid ((Tryz.prog.info? 82).map (·.size) = some (Tb.ints F (i * 129) 129).length) := Lib.hid (by rw [sizePart, Tb.ints_len])
      have HSA : Hid ((Tryz.prog.info? 82).map (·.size) = some (Tb.ints F (i * 129) 129).toArray.size) := Lib.hid (by rw [sizePart, List.size_toArray, Tb.ints_len])
      have HNW : Hid ((wr.alloc (.cells Z 82)).heap[wr.heap.size]? = some (.cells Z 82 (0, 0))) := Lib.hid (heap_alloc_new _ _)
      have HOL : Hid (Z.size = (Tb.ints F (i * 129) 129).toArray.size) := Lib.hid (by rw [HZS.out, List.size_toArray, Tb.ints_len])
      have HON : Hid ((Tb.ints F (i * 129) 129).toArray.all (·.oneCell') = true) := Lib.hid (all_oneCell_toArray (Tb.ints_one F (i * 129) 129))
      obtain ⟨W5, hW5⟩ : ∃ W5, (wr.alloc (.cells Z 82)).setRow wr.heap.size (Tb.ints F (i * 129) 129).toArray = W5 := ⟨_, rfl⟩
      have HB5 : Hid (Below w.heap.size w W5) := Lib.hid (by rw [← hW5]; exact hr.out.1.trans ((below_rowY (alloc_below wr _) (Nat.le_refl _) _).mono hr.out.1.size))
      have HR5 : Hid (W5.rangeAt wr.heap.size 1 (Tb.ints F (i * 129 + 1) 128)) := Lib.hid (by
        have hrow : W5.heap[wr.heap.size]? = some (.cells (Tb.ints F (i * 129) 129).toArray 82 (0, 0)) := by
          rw [← hW5]; exact setRow_heap (wr.alloc (.cells Z 82)) wr.heap.size _ _ _ _ HNW.out
        intro j x hx
        have hj : j < 128 := by
          have := (List.getElem?_eq_some_iff.1 hx).1
          rwa [Tb.ints_len] at this
        rw [cell_of_row _ _ _ _ _ _ hrow, List.getElem?_toArray, Tb.ints_get F (i * 129) 129 (1 + j) (by omega), ← hx, Tb.ints_get F (i * 129 + 1) 128 j hj, Nat.add_assoc])
      have HS : Hid ((Tryz.prog.info? 80).map (·.size) = some (Tb.ints F (i * 129 + 1) 128).length) := Lib.hid (by rw [size128, Tb.ints_len])
      have HIX : Hid (∀ j, j < 128 → (Tb.ints F (i * 129 + 1) 128).toArray[j]? = some (.int .i64 ((F (i * 129 + 1 + j) : Nat) : Int))) := Lib.hid fun j hj => by
        rw [List.getElem?_toArray, Tb.ints_get F _ 128 j hj]
      have HOLD := Lib.hid hr.out.2
      clear hr hcw hcell hin hi c1
      generalize hX : Tb.ints F (i * 129 + 1) 128 = X at *
      clear hX
      generalize hY : Tb.ints F (i * 129) 129 = Y at *
      clear hY
      go_upto_region 5 with (first
        | (refine wpList_load_mid rfl 82 (.tmp 15) rfl b (i * 129) rfl Y _ HRA.out Tryz.underlying82 rfl HSR.out ?_)
        | (refine wpList_store_row rfl 82 (.tmp 4) (.tmp 16) rfl wr.heap.size Y.toArray rfl rfl 82 Z HNW.out HSA.out HOL.out HON.out ?_; rw [hW5])
        | (refine wpList_load_mid rfl 80 (.tmp 17) rfl wr.heap.size 1 rfl X _ HR5.out Tryz.underlying80 rfl HS.out ?_))
      clear hW5
      go_loop [19] (fun jv => ∃ j : Nat, j ≤ 128 ∧ jv = .int .i64 (j : Int) ∧ Hid (∀ l, l < j → F (i * 129 + 1 + l) ≠ 0)) (fun jv => 128 - (RowKit.intOf jv).toNat)
      case atStart => exact ⟨0, by omega, by go_num, Lib.hid fun l hl => absurd hl (Nat.not_lt_zero l)⟩
      case round =>
        obtain ⟨j, hj, rfl, hf⟩ := hrel
        by_cases hlj : j < 128
        · have hd2 : decide ((j : Int) < 128) = true := decide_eq_true (by omega)
          have hjI : (j : Int) < 128 := by omega
          have HJ := Lib.hid hlj
          have hx := HIX.out j hlj
          obtain ⟨x, hxe⟩ : ∃ x, F (i * 129 + 1 + j) = x := ⟨_, rfl⟩
          have HX := Lib.hid hxe
          rw [hxe] at hx
          clear hxe hj hlj
          by_cases x0 : x = 0
          · have e0 : ((x : Int) == 0) = true := by rw [beq_iff_eq]; omega
            have HN := Lib.hid (numberAt_any i j W5 (by omega) (by omega))
            have HE : Hid (((bareN F n : Nat) : Int) + 1 = (i : Int) * 128 + (j : Int) + 1) := Lib.hid (by
              have := bare_at (F := F) (n := n) (k := i * 128 + j) (fun l hl => by
                by_cases h1 : l < i * 128
                · exact HOLD.out l h1
                · obtain ⟨m, rfl⟩ : ∃ m, l = i * 128 + m := ⟨l - i * 128, by omega⟩
                  rw [spF_at F i m (by have := HJ.out; omega)]
                  exact hf.out m (by omega)) (by rw [spF_at F i j HJ.out, HX.out, x0]) (by have := HI2.out; have := HJ.out; have := Nat.mul_le_mul_right 128 (show i + 1 ≤ n by omega); omega)
              rw [this]; omega)
            clear x0
            go_wp2_with (first
              | (refine wpList_index128 rfl (.tmp 18) (.tmp 19) rfl _ j _ rfl rfl HJ.out hx ?_)
              | (go_at_call 38; with_reducible refine HN.out.mono ?_; rintro e w7 ⟨rfl, rfl⟩))
            go_ret
            exact ⟨by rw [HE.out]; rfl, HB5.out⟩
          · have e0 : ((x : Int) == 0) = false := by rw [beq_eq_false_iff_ne]; omega
            have HF2 : Hid (∀ l, l < j + 1 → F (i * 129 + 1 + l) ≠ 0) := Lib.hid fun l hl => by
              by_cases h1 : l = j
              · rw [h1, HX.out]; exact x0
              · exact hf.out l (by omega)
            clear x0
            go_wp2_with (refine wpList_index128 rfl (.tmp 18) (.tmp 19) rfl _ j _ rfl rfl HJ.out hx ?_)
            go_round
            case rel => exact ⟨j + 1, HJ.out, by go_num, HF2⟩
            case measure => have := HJ.out; simp [RowKit.intOf]; omega
        · obtain rfl : j = 128 := by omega
          have hd2 : decide (((128 : Nat) : Int) < 128) = false := by decide
          have HO2 : Hid (∀ l, l < (i + 1) * 128 → spF F l ≠ 0) := Lib.hid fun l hl => by
            by_cases h1 : l < i * 128
            · exact HOLD.out l h1
            · obtain ⟨m, rfl⟩ : ∃ m, l = i * 128 + m := ⟨l - i * 128, by omega⟩
              rw [spF_at F i m (by omega)]
              exact hf.out m (by omega)
          clear hj hlj hf
          go_wp2_with fail
          go_roundw
          case rel => exact ⟨i + 1, HI2.out, by go_num, Lib.hid ⟨HB5.out, HO2.out⟩⟩
          case measure => have := HI2.out; simp [RowKit.intOf]; omega
    · obtain rfl : i = n := by omega
      have hd2 : decide ((i : Int) < (i : Int)) = false := decide_eq_false (by omega)
      have HE : Hid (((bareN F i : Nat) : Int) + 1 = (i : Int) * 128 + 1) := Lib.hid (by rw [bare_all hr.out.2]; omega)
      have HB := Lib.hid hr.out.1
      clear hr
      go_wp2_with fail
      go_ret
      exact ⟨by rw [HE.out]; rfl, HB.out⟩
end
end Go.Proofs.YtmbecjlioogbhaaGreatDoor
end
section
/-! The small calls of a page. -/
set_option linter.unusedSimpArgs false
namespace Go.Proofs.YtmbecjlioogbhaaGreatDoor.Sl
open Go.RowKit

section
variable {w : World} {g : Nat} {v : Value} {l : List Sl}
set_option maxHeartbeats 400000 in
theorem len_any (h : Pg0 w g v l) : Calls Tryz.prog 111 #[.pointer (some ⟨g, 0, none⟩)] w fun e w' => e = .returned (.int .i64 (l.length : Int)) ∧ w = w' := by
  obtain ⟨q, c, rfl⟩ := h.form
  have c0 := h.c0
  have hl := h.ok.len
  go_enter Tryz.func111, Tryz.ntmps111
  go_wp2_with fail
  go_ret
  exact ⟨rfl, rfl⟩
theorem behind_any (n : Nat) (w : World) (hn : n ≤ 1000) : Calls Tryz.prog 197 #[.int .i64 (n : Int)] w fun e w' => e = .returned (.int .i64 (1 + (n : Int) * 2)) ∧ w = w' := by
  go_enter Tryz.func197, Tryz.ntmps197
  go_wp2_with fail
  go_ret
  exact ⟨rfl, rfl⟩
theorem new_any (w : World) : Calls Tryz.prog 105 #[] w fun e w' => ∃ g F, e = .returned (.pointer (some ⟨g, 0, none⟩)) ∧ Pg w' g F [] ∧ (∀ k ∈ F, w.heap.size ≤ k) ∧ w.heap.size ≤ g ∧ Below w.heap.size w w' := by
  go_enter Tryz.func105, Tryz.ntmps105
  go_wp2_with fail
  go_ret
  refine ⟨w.heap.size, _, rfl, ⟨.slice none 0 0, ⟨heap_alloc_new w _, World.ownsRow_nil _ _ _ _, Okp.nil_⟩, rfl⟩, ?_, Nat.le_refl _, (Below.refl _ _).alloc (Nat.le_refl _) _⟩
  intro k hk
  simp [foot, Value.ownBlock] at hk
  omega
set_option maxHeartbeats 800000 in
theorem size_any (o : Sl) (w : World) (ho : sz o ≤ 512) : Calls Tryz.prog 157 #[.agg #[.bool o.isSome, .string (recOf o)]] w fun e w' => e = .returned (.int .i64 (if o.isSome = true then (sz o : Int) + 1 else 0)) ∧ Below w.heap.size w w' := by
  cases o with
  | none =>
    go_enter Tryz.func157, Tryz.ntmps157
    go_wp2_with fail
    go_ret
    exact ⟨rfl, (Below.refl _ _).alloc (Nat.le_refl _) _⟩
  | some r =>
    have hr : r.size ≤ 512 := ho
    rw [sz_some]
    simp only [recOf, Option.getD_some, Option.isSome_some, if_true]
    go_enter Tryz.func157, Tryz.ntmps157
    go_wp2_with fail
    go_ret
    exact ⟨rfl, (Below.refl _ _).alloc (Nat.le_refl _) _⟩
set_option maxHeartbeats 1600000 in
theorem next_any (h : Pg0 w g v l) : Calls Tryz.prog 155 #[.pointer (some ⟨g, 0, none⟩)] w fun e w' => e = .returned (.int .i64 (bareI l : Int)) ∧ Below w.heap.size w w' := by
  have HP := Lib.hid h
  obtain ⟨q, c, rfl⟩ := h.form
  have c0 := h.c0
  have hl := h.ok.len
  have hg := h.lt
  clear h
  obtain ⟨N, HN⟩ : ∃ N, Hid (l.length = N) := ⟨_, Lib.hid rfl⟩
  rw [HN.out] at c0 hl
  go_enter Tryz.func155, Tryz.ntmps155
  go_wp2_with fail
  go_loopw [10] (fun iv wr => ∃ i : Nat, i ≤ N ∧ iv = .int .i64 (i : Int) ∧ (∀ j, j < i → (slot l j).isSome = true) ∧ Below w.heap.size w wr) (fun iv _ => N - (RowKit.intOf iv).toNat)
  case atStart => exact ⟨0, by omega, by go_num, fun j hj => absurd hj (Nat.not_lt_zero j), Below.refl _ _⟩
  case round =>
    obtain ⟨i, hi, rfl, hj, hb⟩ := hrel
    have c1 := (hb.cell (p := ⟨g, 0, none⟩) hg).trans c0
    by_cases hlt : i < N
    · obtain ⟨b, c', e, hc, a1, a2⟩ := HP.out.at (k := i) (by rw [HN.out]; exact hlt)
      rw [HN.out] at e hc
      cases e
      have x1 := (hb.cell (p := ⟨b, i * 2, none⟩) (World.block_lt_of_cell? w _ a1)).trans a1
      have x2 := (hb.cell (p := ⟨b, i * 2 + 1, none⟩) (World.block_lt_of_cell? w _ a2)).trans a2
      have HJ := Lib.hid hj
      have HB := Lib.hid hb
      clear hj hb a1 a2
      cases hs : (slot l i).isSome with
      | true =>
        rw [hs] at x1
        have HS := Lib.hid hs
        clear hs
        go_wp2_with fail
        go_roundw
        case rel => exact ⟨i + 1, by omega, by go_num, fun j hj => (Nat.lt_succ_iff_lt_or_eq.1 hj).elim (HJ.out j) (fun e => by rw [e]; exact HS.out), HB.out.alloc HB.out.size _⟩
        case measure => simp [RowKit.intOf]; omega
      | false =>
        rw [hs] at x1
        have HS := Lib.hid hs
        clear hs
        go_wp2_with fail
        go_ret
        have := bareI_eq (l := l) (i := i) (by rw [HN.out]; omega) HJ.out (fun _ => by have := HS.out; simpa using this)
        rw [this]
        exact ⟨rfl, HB.out.alloc HB.out.size _⟩
    · obtain rfl : i = N := by omega
      have HJ := Lib.hid hj
      have HB := Lib.hid hb
      clear hj hb
      go_wp2_with fail
      go_ret
      have := bareI_eq (l := l) (i := i) (by rw [HN.out]; omega) HJ.out (fun h => by have := HN.out; omega)
      rw [this]
      exact ⟨rfl, HB.out⟩
end
end Go.Proofs.YtmbecjlioogbhaaGreatDoor.Sl
end
section
/-! What a slot has; how much is left. -/
set_option linter.unusedSimpArgs false
namespace Go.Proofs.YtmbecjlioogbhaaGreatDoor.Sl
open Go.RowKit

section
variable {w : World} {g : Nat} {v : Value} {l : List Sl}
def getS (l : List Sl) (i : Int) : ByteArray := if fullI l i = true then recOf (slot l i.toNat) else ⟨#[]⟩
theorem getS_nat (l : List Sl) (k : Nat) : getS l (k : Int) = recOf (slot l k) := by
  unfold getS
  rw [fullI_nat, Int.toNat_natCast]
  cases e : slot l k with
  | none => simp [recOf]
  | some r => simp
set_option maxHeartbeats 800000 in
theorem get_any (h : Pg0 w g v l) (i : Int) : Calls Tryz.prog 159 #[.pointer (some ⟨g, 0, none⟩), .int .i64 i] w fun e w' => e = .returned (.tuple #[.string (getS l i), .bool (fullI l i)]) ∧ Below w.heap.size w w' := by
  have HL := Lib.hid (len_any h)
  by_cases h0 : i < 0
  · have hd : decide (i < 0) = true := decide_eq_true h0
    rw [show getS l i = ⟨#[]⟩ by unfold getS; rw [if_neg (by unfold fullI; simp; omega)], show fullI l i = false by unfold fullI; simp; omega]
    clear h
    go_enter Tryz.func159, Tryz.ntmps159
    go_wp2_with fail
    go_ret2
    exact ⟨rfl, Below.refl _ _⟩
  · obtain ⟨k, rfl⟩ : ∃ k : Nat, i = (k : Int) := ⟨i.toNat, by omega⟩
    have hd : decide ((k : Int) < 0) = false := by simp
    rw [getS_nat, fullI_nat]
    by_cases h1 : k < l.length
    · obtain ⟨b, c, rfl, hc, a1, a2⟩ := h.at h1
      have c0 := h.c0
      have hn : l.length ≤ 64 := h.ok.len
      have hk : (k : Int) < (l.length : Int) := by omega
      have hd2 : decide ((l.length : Int) ≤ (k : Int)) = false := by simp; omega
      obtain ⟨N, HN⟩ : ∃ N, Hid (l.length = N) := ⟨_, Lib.hid rfl⟩
      rw [HN.out] at HL c0 hn hk hd2 hc h1
      clear h
      generalize (slot l k).isSome = bb at *
      generalize recOf (slot l k) = rr at *
      go_enter Tryz.func159, Tryz.ntmps159
      go_wp2_with (go_at_call 111; refine HL.out.mono ?_; rintro e w1 ⟨rfl, rfl⟩)
      go_quiet (fail)
      go_wp2_with fail
      go_ret2
      refine ⟨rfl, ?_⟩
      exact ⟨rfl, rfl, rfl, Nat.le_refl _, fun _ _ => rfl⟩
    · rw [slot_ge (by omega)]
      have hd2 : decide ((l.length : Int) ≤ (k : Int)) = true := by simp; omega
      clear h
      go_enter Tryz.func159, Tryz.ntmps159
      go_wp2_with (go_at_call 111; refine HL.out.mono ?_; rintro e w1 ⟨rfl, rfl⟩)
      go_ret2
      exact ⟨rfl, Below.refl _ _⟩
theorem tot_le {l : List Sl} (h : Okp l) : tot l ≤ 512 := by have := h.need; unfold need at this; omega
set_option maxHeartbeats 1600000 in
theorem left_any (h : Pg0 w g v l) : Calls Tryz.prog 156 #[.pointer (some ⟨g, 0, none⟩)] w fun e w' => e = .returned (.int .i64 (left l)) ∧ Below w.heap.size w w' := by
  have HP := Lib.hid h
  obtain ⟨q, c, rfl⟩ := h.form
  have c0 := h.c0
  have hl := h.ok.len
  have ht := tot_le h.ok
  have hg := h.lt
  clear h
  obtain ⟨N, HN⟩ : ∃ N, Hid (l.length = N) := ⟨_, Lib.hid rfl⟩
  rw [HN.out] at c0 hl
  have HB := Lib.hid (behind_any N · (by omega))
  have HT : Hid (∀ i, i ≤ N → tot (l.take i) ≤ 512) := Lib.hid (fun i _ => Nat.le_trans (tot_take_le l i) ht)
  clear ht
  go_enter Tryz.func156, Tryz.ntmps156
  go_wp2_with (go_at_call 197; refine (HB.out _).mono ?_; rintro e w1 ⟨rfl, rfl⟩)
  go_wp2_with fail
  go_loopw [3, 18] (fun sv iv wr => ∃ i s : Nat, i ≤ N ∧ iv = .int .i64 (i : Int) ∧ sv = .int .i64 (512 - (1 + (N : Int) * 2) - (s : Int)) ∧ s ≤ 512 ∧ Hid (tot (l.take i) = s) ∧ Below w.heap.size w wr) (fun _ iv _ => N - (RowKit.intOf iv).toNat)
  case atStart => exact ⟨0, 0, by omega, by go_num, by simp, by omega, Lib.hid rfl, Below.refl _ _⟩
  case round =>
    obtain ⟨i, s, hi, rfl, rfl, hs, HS, hb⟩ := hrel
    have c1 := (hb.cell (p := ⟨g, 0, none⟩) hg).trans c0
    by_cases hlt : i < N
    · obtain ⟨b, c', e, hc, a1, a2⟩ := HP.out.at (k := i) (by rw [HN.out]; exact hlt)
      rw [HN.out] at e hc
      cases e
      have x1 := (hb.cell (p := ⟨b, i * 2, none⟩) (World.block_lt_of_cell? w _ a1)).trans a1
      have x2 := (hb.cell (p := ⟨b, i * 2 + 1, none⟩) (World.block_lt_of_cell? w _ a2)).trans a2
      have HBL := Lib.hid hb
      have HS2 : Hid (tot (l.take (i + 1)) = s + sz (slot l i)) := Lib.hid (by rw [tot_take_succ (by rw [HN.out]; exact hlt), HS.out])
      have hs2 : s + (recOf (slot l i)).size ≤ 512 := by have := HT.out (i + 1) (by omega); rw [HS2.out] at this; exact this
      have HSZ : Hid (sz (slot l i) = (recOf (slot l i)).size) := Lib.hid rfl
      rw [HSZ.out] at HS2
      clear hb a1 a2 HSZ
      generalize (slot l i).isSome = bb at *
      generalize recOf (slot l i) = rr at *
      obtain ⟨z, HZ⟩ : ∃ z, Hid (rr.size = z) := ⟨_, Lib.hid rfl⟩
      rw [HZ.out] at hs2 HS2
      have hz := HZ.out
      go_wp2_with fail
      go_roundw
      case rel => exact ⟨i + 1, s + z, by omega, by go_num, by congr 1; omega, hs2, HS2, HBL.out.alloc HBL.out.size _⟩
      case measure => simp [RowKit.intOf]; omega
    · obtain rfl : i = N := by omega
      have HB := Lib.hid hb
      clear hb
      go_wp2_with fail
      go_ret
      refine ⟨?_, HB.out⟩
      have h1 := HS.out
      have h2 := HN.out
      rw [List.take_of_length_le (by omega)] at h1
      have h3 : (512 - (1 + (i : Int) * 2) - (s : Int)) = left l := by unfold left need; omega
      rw [h3]
      rfl
end
end Go.Proofs.YtmbecjlioogbhaaGreatDoor.Sl
end
