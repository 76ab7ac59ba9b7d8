/- Texts PFree to PCol of this seat, laid into one. -/
import Derived.OwnWalkIn
import Derived.Test.YthcnofdihigohaaGreatM01
import Derived.Test.YthcnofdihigohaaGreatM08
import Derived.Test.YthcnofdihigohaaGreatM11
section
/- The pages that a commit may take, one by one. -/
set_option maxRecDepth 20000
set_option linter.unusedSimpArgs false
namespace Go.Proofs.YthcnofdihigohaaGreat
open Go.RowKit

/-- Some blocks lie as they lay. -/
def Keep (L : List Nat) (A B : World) : Prop := ∀ k ∈ L, B.heap[k]? = A.heap[k]?
theorem Keep.refl (L : List Nat) (A : World) : Keep L A A := fun _ _ => rfl
theorem Keep.trans {L : List Nat} {A B C : World} (h : Keep L A B) (k : Keep L B C) : Keep L A C := fun x hx => (k x hx).trans (h x hx)
theorem Keep.of_below {L : List Nat} {n : Nat} {A B : World} (h : Below n A B) (hL : ∀ k ∈ L, k < n) : Keep L A B := fun x hx => h.block x (hL x hx)
theorem Keep.put {w : World} {L : List Nat} (hL : ∀ k ∈ L, k < w.heap.size) (W : World) (l : Nat) (o o' : Obj) (hl : w.heap.size ≤ l) (h : W.heap[l]? = some o) (h1 : o.isCells = false) (h2 : o.isWalk = false) : Keep L W (W.putObj l o') :=
  Keep.of_below (belowK_b (w := w) (Nat.le_refl _) W l o o' hl h h1 h2) hL
theorem grown_of_below {A B : World} (h : Below A.heap.size A B) : A.grownBy B none := ⟨h.os, h.tape, h.output, h.size, fun k hk _ => h.block k hk⟩
/-- Block g holds a space of so many pages. -/
def PgBox (w : World) (g : Nat) (r : Rt) : Prop := ∃ d lv pt pu po pk mb ch, w.heap[g]? = some (.cells (spA d r lv pt pu po pk mb ch) 84 (0, 0))
theorem Spc0.pgBox {w : World} {g d pt pk mb : Nat} {pu po : Option Addr} {s : Sp} (h : Spc0 w g d pt pk mb pu po s) : PgBox w g s.g.r := ⟨_, _, _, _, _, _, _, _, h.box⟩
theorem PgBox.same {w w' : World} {g : Nat} {r : Rt} (h : PgBox w g r) (hb : w'.heap[g]? = w.heap[g]?) : PgBox w' g r := by
  obtain ⟨d, lv, pt, pu, po, pk, mb, ch, h⟩ := h
  exact ⟨d, lv, pt, pu, po, pk, mb, ch, hb.trans h⟩
theorem PgBox.lt {w : World} {g : Nat} {r : Rt} (h : PgBox w g r) : g < w.heap.size := by
  obtain ⟨d, lv, pt, pu, po, pk, mb, ch, h⟩ := h
  exact lt_of_block h
theorem PgBox.cell {w : World} {g : Nat} {r : Rt} (h : PgBox w g r) : w.cell? ⟨g, 1, none⟩ = some (.int .i64 r.ep) ∧ w.cell? ⟨g, 2, none⟩ = some (.int .i64 r.pg) ∧ w.cell? ⟨g, 3, none⟩ = some (.int .i64 r.dr) ∧ w.cell? ⟨g, 4, none⟩ = some (.int .i64 r.wd) := by
  obtain ⟨d, lv, pt, pu, po, pk, mb, ch, h⟩ := h
  exact ⟨by rw [cell_of_row _ _ _ _ _ _ h]; rfl, by rw [cell_of_row _ _ _ _ _ _ h]; rfl, by rw [cell_of_row _ _ _ _ _ _ h]; rfl, by rw [cell_of_row _ _ _ _ _ _ h]; rfl⟩
theorem root_box {w : World} {g : Nat} {r : Rt} (h : PgBox w g r) : Calls Tryz.prog 51 #[.pointer (some ⟨g, 0, none⟩)] w fun e w' => e = .returned r.val ∧ Below w.heap.size w w' := by
  obtain ⟨B1, hB1⟩ : ∃ B1, w.alloc (.cells #[.int .i64 0, .int .i64 0, .int .i64 0, .int .i64 0] 74) = B1 := ⟨_, rfl⟩
  have hb : Below w.heap.size w B1 := by rw [← hB1]; exact alloc_below _ _
  have HR : Hid (RtAt B1 w.heap.size 74 Rt.none_) := Lib.hid (by rw [← hB1]; exact RtAt.new w Rt.none_ 74)
  obtain ⟨c1, c2, c3, c4⟩ := (h.same (hb.block g h.lt)).cell
  have k0 := HR.out.c0
  have k1 := HR.out.c1
  have k2 := HR.out.c2
  have k3 := HR.out.c3
  have fz := HR.out.fz
  have HB := Lib.hid hb
  have HF : Hid (Below w.heap.size w (set4 B1 w.heap.size r)) := Lib.hid (below_set4 HB.out (Nat.le_refl _) _)
  unfold set4 at HF
  clear h hb HR
  unfold Rt.val
  generalize r.ep = x at *
  generalize r.pg = y at *
  generalize r.dr = z at *
  generalize r.wd = u at *
  go_enter Tryz.func51, Tryz.ntmps51
  go_wp2_with fail
  exact bodyPost_ret (v := .agg #[.int .i64 x, .int .i64 y, .int .i64 z, .int .i64 u]) (by simp [results, Tryz.results51, go_sem, k0, k1, k2, k3]) rfl ⟨rfl, HF.out⟩
theorem pages_box {w : World} {g : Nat} {r : Rt} (h : PgBox w g r) : Calls Tryz.prog 16 #[.pointer (some ⟨g, 0, none⟩)] w fun e w' => e = .returned (.int .i64 r.pg) ∧ Below w.heap.size w w' := by
  have HR := Lib.hid (root_box h)
  clear h
  unfold Rt.val at HR
  obtain ⟨f0, f1, f2, f3⟩ := field_root r.ep r.pg r.dr r.wd
  go_enter Tryz.func16, Tryz.ntmps16
  go_wp2_with (go_at_call 51; refine HR.out.mono ?_; rintro e w7 ⟨rfl, hb⟩)
  go_ret
  exact ⟨rfl, hb⟩
/-- May a page be taken? -/
def frB (held : Nat → Bool) (p : Nat) : Bool := decide (2 ≤ p) && !held p
/-- What the iterator leans on. -/
structure FrK (W : World) (B1 B2 g gh bh : Nat) (r : Rt) (held : Nat → Bool) : Prop where
  c1 : W.cell? ⟨B1, 0, none⟩ = some (.pointer (some ⟨g, 0, none⟩))
  c2 : W.cell? ⟨B2, 0, none⟩ = some (.pointer (some ⟨gh, 0, none⟩))
  pb : PgBox W g r
  st : Bi.Sat W gh bh 512 held
theorem FrK.keep {W W' : World} {B1 B2 g gh bh : Nat} {r : Rt} {held : Nat → Bool} (h : FrK W B1 B2 g gh bh r held) (hk : Keep [B1, B2, g, gh, bh] W W') : FrK W' B1 B2 g gh bh r held :=
  ⟨(World.cell?_of_block (hk B1 (by simp))).trans h.c1, (World.cell?_of_block (hk B2 (by simp))).trans h.c2, h.pb.same (hk g (by simp)), h.st.same (hk gh (by simp)) (hk bh (by simp))⟩
theorem FrK.lt {W : World} {B1 B2 g gh bh : Nat} {r : Rt} {held : Nat → Bool} (h : FrK W B1 B2 g gh bh r held) : ∀ k ∈ [B1, B2, g, gh, bh], k < W.heap.size := by
  intro k hk
  simp only [List.mem_cons, List.not_mem_nil, or_false] at hk
  rcases hk with rfl | rfl | rfl | rfl | rfl
  · exact World.block_lt_of_cell? W _ h.c1
  · exact World.block_lt_of_cell? W _ h.c2
  · exact h.pb.lt
  · exact h.st.glt
  · exact h.st.blt
theorem FrK.below {W W' : World} {B1 B2 g gh bh : Nat} {r : Rt} {held : Nat → Bool} (h : FrK W B1 B2 g gh bh r held) (hb : Below W.heap.size W W') : FrK W' B1 B2 g gh bh r held := h.keep (Keep.of_below hb h.lt)
set_option maxRecDepth 100000 in
set_option maxHeartbeats 2000000 in
theorem free1_in (n : Nat) (hn : 1 ≤ n) (l B1 B2 g gh bh pg : Nat) (r : Rt) (hr : r.pg = (pg : Int)) (hpg : pg ≤ 512) (held : Nat → Bool) (J Jx : List Nat → World → Prop)
    (hY : ∀ (pre : List Nat) (x : Nat) W, J pre W → pre.length < 513 → YieldAt Fence.wide (n - 1) Tryz.prog l #[.int .i64 (x : Int)] W fun e W' =>
      (e = .returned (.bool true) ∧ J (pre ++ [x]) W' ∧ Keep [B1, B2, g, gh, bh] W W') ∨ (e = .returned (.bool false) ∧ Jx (pre ++ [x]) W'))
    (W : World) (hJ : AbidesFrom W.heap.size J) (hK : FrK W B1 B2 g gh bh r held) (h0 : J [] W) :
    CallsIn Fence.wide n Tryz.prog 85 #[.func (.yield l) #[] #[], .pointer (some ⟨B1, 0, none⟩), .pointer (some ⟨B2, 0, none⟩)] W fun e W' => (∃ v, e = .returned v) ∧
      ((∃ ys, ys = Tb.mems (frB held) pg ∧ J ys W') ∨ (∃ pre, True ∧ Jx pre W')) := by
  have HY := Lib.hid hY
  have HJ := Lib.hid hJ
  have HK := Lib.hid hK
  have HR := Lib.hid hr
  have HP := Lib.hid hpg
  clear hY hJ hK hr hpg
  refine callsIn_of_wp Tryz.func85 rfl trivial ?_ rfl
  simp only [Tryz.ntmps85, List.size_toArray, List.length_cons, List.length_nil, Nat.reduceAdd, Nat.reduceSub, Array.replicate_succ, Array.replicate_zero, List.push_toArray, List.append_toArray, List.nil_append, List.cons_append]
  gi_wp2
  gi_loopw [4] (fun i wr => ∃ s : Nat, 2 ≤ s ∧ i = .int .i64 (s : Int) ∧ s ≤ 512 ∧ Hid (J (Tb.mems (frB held) s) wr ∧ Keep [B1, B2, g, gh, bh] W wr ∧ True ∧ (s ≤ pg ∨ s = 2)))
    (fun i _ => 512 - (RowKit.intOf i).toNat)
  case atStart => exact ⟨2, by omega, rfl, by omega, Lib.hid ⟨h0, Keep.refl _ _, trivial, .inr rfl⟩⟩
  case round =>
    obtain ⟨s, hs2, rfl, hs5, HS⟩ := hrel
    have HKr := Lib.hid (HK.out.keep HS.out.2.1)
    have hb1 := HKr.out.c1
    have HPG := Lib.hid (pages_box HKr.out.pb)
    rw [HR.out] at HPG
    by_cases hlt : s < pg
    · have hd : decide ((s : Int) < (pg : Int)) = true := decide_eq_true (by omega)
      have hd2 : decide (s < pg) = true := decide_eq_true hlt
      have hz : (s : Int) ≤ 511 := by have := HP.out; omega
      have HL := Lib.hid hlt
      have HS2 := Lib.hid hs2
      clear hs2 hs5
      have HPL : Hid (s + 1 ≤ pg) := Lib.hid hlt
      have HSP : Hid (s < 512) := Lib.hid (by have := HP.out; omega)
      have HY2 : Hid (∀ wa wb, Below wr.heap.size wr wa → Below wa.heap.size wa wb → J (Tb.mems (frB held) s) wb ∧ Keep [B1, B2, g, gh, bh] W wb ∧ True) := Lib.hid fun wa wb ha hb => by
        have hab := Below.more ha hb ha.size
        exact ⟨HJ.out _ wr wb none HS.out.1 (grown_of_below hab) (fun r e => by cases e), HS.out.2.1.trans (Keep.of_below hab HKr.out.lt), trivial⟩
      clear hlt HS
      cases hh : held s with
      | true =>
        have HM : Hid (Tb.mems (frB held) (s + 1) = Tb.mems (frB held) s) := Lib.hid (Tb.mems_miss (by unfold frB; rw [hh]; simp))
        have HH : Hid (∀ wa, Below wr.heap.size wr wa → Calls Tryz.prog 22 #[.pointer (some ⟨gh, 0, none⟩), .int .i64 (s : Int)] wa fun e w' => e = .returned (.bool true) ∧ Below wa.heap.size wa w') := Lib.hid fun wa ha => by
          have h1 := Bi.has_in (HKr.out.below ha).st s HSP.out
          rwa [hh] at h1
        clear hh
        gi_wp2_with (refine ⟨trivial, ?_⟩; first
          | (gi_at_call 16; refine (callsIn_wide.2 HPG.out).mono ?_; rintro e wa ⟨rfl, hba⟩; have ha2 := (HKr.out.below hba).c2)
          | (gi_at_call 22; refine (callsIn_wide.2 (HH.out wa hba)).mono ?_; rintro e wb ⟨rfl, hbb⟩))
        refine ⟨fun _ h => (by cases h), ?_⟩
        gi_wp2
        go_roundw
        case rel => exact ⟨s + 1, by have := HS2.out; omega, by go_num, by have := HSP.out; omega, by rw [HM.out]; exact Lib.hid ⟨(HY2.out wa wb hba hbb).1, (HY2.out wa wb hba hbb).2.1, (HY2.out wa wb hba hbb).2.2, .inl HPL.out⟩⟩
        case measure => have := HSP.out; simp [RowKit.intOf]; omega
      | false =>
        have HM : Hid (Tb.mems (frB held) s ++ [s] = Tb.mems (frB held) (s + 1)) := Lib.hid (Tb.mems_hit (by unfold frB; rw [hh]; simp [HS2.out])).symm
        have HH : Hid (∀ wa, Below wr.heap.size wr wa → Calls Tryz.prog 22 #[.pointer (some ⟨gh, 0, none⟩), .int .i64 (s : Int)] wa fun e w' => e = .returned (.bool false) ∧ Below wa.heap.size wa w') := Lib.hid fun wa ha => by
          have h1 := Bi.has_in (HKr.out.below ha).st s HSP.out
          rwa [hh] at h1
        have HYY : Hid (∀ wa wb, Below wr.heap.size wr wa → Below wa.heap.size wa wb → YieldAt Fence.wide (n - 1) Tryz.prog l #[.int .i64 (s : Int)] wb fun e W' =>
            (e = .returned (.bool true) ∧ J (Tb.mems (frB held) (s + 1)) W' ∧ Keep [B1, B2, g, gh, bh] wb W') ∨ (e = .returned (.bool false) ∧ Jx (Tb.mems (frB held) (s + 1)) W')) := Lib.hid fun wa wb ha hb => by
          have h1 := HY.out _ s wb (HY2.out wa wb ha hb).1 (by have := Tb.mems_len (frB held) s; have := HSP.out; omega)
          rwa [HM.out] at h1
        clear hh
        gi_wp2_with (refine ⟨trivial, ?_⟩; first
          | (gi_at_call 16; refine (callsIn_wide.2 HPG.out).mono ?_; rintro e wa ⟨rfl, hba⟩; have ha2 := (HKr.out.below hba).c2)
          | (gi_at_call 22; refine (callsIn_wide.2 (HH.out wa hba)).mono ?_; rintro e wb ⟨rfl, hbb⟩; obtain ⟨fn, tmps, assign, body, hy, hR⟩ := HYY.out wa wb hba hbb))
        refine hR.mono ?_
        rintro e W3 (⟨rfl, hJ3, hk3⟩ | ⟨rfl, hJx3⟩)
        · have HK3 : Hid (Keep [B1, B2, g, gh, bh] W W3) := Lib.hid ((HY2.out wa wb hba hbb).2.1.trans hk3)
          clear hk3
          gi_wp2
          go_roundw
          case rel => exact ⟨s + 1, by have := HS2.out; omega, by go_num, by have := HSP.out; omega, Lib.hid ⟨hJ3, HK3.out, trivial, .inl HPL.out⟩⟩
          case measure => have := HSP.out; simp [RowKit.intOf]; omega
        · gi_wp2
          refine bodyPost_ret (results_none rfl _ _ _) rfl ?_
          exact ⟨⟨_, rfl⟩, .inr ⟨_, trivial, hJx3⟩⟩
    · have hd : decide ((s : Int) < (pg : Int)) = false := decide_eq_false (by omega)
      have hd2 : decide (s < pg) = false := decide_eq_false hlt
      have HE : Hid (Tb.mems (frB held) pg = Tb.mems (frB held) s) := Lib.hid (by
        rcases HS.out.2.2.2 with h | h
        · rw [show s = pg by omega]
        · subst h
          rcases (show pg = 0 ∨ pg = 1 ∨ pg = 2 by omega) with e | e | e <;> subst e <;> rfl)
      clear hlt hs2 hs5
      gi_wp2_with (refine ⟨trivial, ?_⟩; gi_at_call 16; refine (callsIn_wide.2 HPG.out).mono ?_; rintro e wa ⟨rfl, hba⟩)
      have HJa : Hid (J (Tb.mems (frB held) s) wa) := Lib.hid (HJ.out _ wr wa none HS.out.1 (grown_of_below hba) (fun r e => by cases e))
      gi_wp2
      go_end0
      exact ⟨⟨_, rfl⟩, .inl ⟨_, rfl, by rw [HE.out]; exact HJa.out⟩⟩
end Go.Proofs.YthcnofdihigohaaGreat
end
section
/- How many pages a commit needs, and how many are free. -/
set_option maxRecDepth 20000
set_option linter.unusedSimpArgs false
namespace Go.Proofs.YthcnofdihigohaaGreat
open Go.RowKit Go.Shelf
attribute [local go_sem] Oper.semAt_some

theorem free_stops (n : Nat) (hn : 1 ≤ n) (B1 B2 g gh bh pg : Nat) (r : Rt) (hr : r.pg = (pg : Int)) (hpg : pg ≤ 512) (held : Nat → Bool) (w : World) (hK : FrK w B1 B2 g gh bh r held) :
    SeqStopsK Fence.wide n Tryz.prog 85 #[.pointer (some ⟨B1, 0, none⟩), .pointer (some ⟨B2, 0, none⟩)] (fun x : Nat => #[Value.int .i64 (x : Int)]) (Keep [B1, B2, g, gh, bh]) (fun ys => ys = Tb.mems (frB held) pg) (fun _ => True) 513 w := fun l J Jx W hW hJ _ hY h0 =>
  free1_in n hn l B1 B2 g gh bh pg r hr hpg held J Jx hY W hJ (hK.below hW) h0
section
variable {w : World} {g d pt pk mb : Nat} {pu po : Option Addr} {s : Sp}
/-- Fresh blocks of what free told. -/
structure FrN (W w' : World) (B1 B2 g gh bh : Nat) (r : Rt) (held : Nat → Bool) : Prop where
  k : FrK w' B1 B2 g gh bh r held
  n : W.heap.size ≤ B1 ∧ W.heap.size ≤ B2 ∧ W.heap.size ≤ gh ∧ W.heap.size ≤ bh
set_option maxHeartbeats 800000 in
theorem free_any (h : Spc0 w g d pt pk mb pu po s) :
    Calls Tryz.prog 53 #[.pointer (some ⟨g, 0, none⟩)] w fun e w' => (∃ B1 B2 gh bh, e = .returned (.func (.func 85) #[] #[.pointer (some ⟨B1, 0, none⟩), .pointer (some ⟨B2, 0, none⟩)]) ∧ FrN w w' B1 B2 g gh bh s.g.r (heldS s)) ∧ Below w.heap.size w w' := by
  have HA : Hid (Below w.heap.size w (w.alloc (.cells #[.pointer (some ⟨g, 0, none⟩)] 24))) := Lib.hid (alloc_below _ _)
  have k1 : (w.alloc (.cells #[.pointer (some ⟨g, 0, none⟩)] 24)).cell? ⟨w.heap.size, 0, none⟩ = some (.pointer (some ⟨g, 0, none⟩)) := World.cell?_alloc_new w _ _ 0
  have HX := Lib.hid (h.below HA.out)
  have HH := Lib.hid (held_any HX.out)
  clear h
  have HS1 : Hid ((w.alloc (.cells #[.pointer (some ⟨g, 0, none⟩)] 24)).heap.size = w.heap.size + 1) := Lib.hid (by simp)
  have HK1 := Lib.hid k1
  go_enter Tryz.func53, Tryz.ntmps53
  go_wp2_with (go_at_call 12; refine HH.out.mono ?_; rintro e w2 ⟨⟨gh, bh, rfl, ha, hb, hS⟩, hb2⟩; have e1 : (w2.alloc (.cells #[.pointer none] 33)).cell? ⟨w2.heap.size, 0, none⟩ = some (.pointer none) := World.cell?_alloc_new w2 _ _ 0; have e2 : (w2.alloc (.cells #[.pointer none] 33)).frozen? ⟨w2.heap.size, 0, none⟩ = false := free_of_one (heap_alloc_new w2 _))
  go_ret
  have hsz := HS1.out
  have hs2 := hb2.size
  have hb3 := alloc_below w2 (.cells #[.pointer (some ⟨gh, 0, none⟩)] 33)
  have hbw : Below w.heap.size w w2 := Below.more HA.out hb2 HA.out.size
  refine ⟨⟨w.heap.size, w2.heap.size, gh, bh, rfl, ⟨⟨?_, World.cell?_alloc_new w2 _ _ 0, (((HX.out.below hb2).below hb3).pgBox), hS.below hb3⟩, by omega, by omega, by omega, by omega⟩⟩, Below.more hbw hb3 hbw.size⟩
  rw [hb3.cell (p := ⟨w.heap.size, 0, none⟩) (by show w.heap.size < w2.heap.size; omega), hb2.cell (p := ⟨w.heap.size, 0, none⟩) (by show w.heap.size < _; omega)]
  exact HK1.out
/-- A box that holds a number. -/
structure BxN (w : World) (g : Nat) (v : Int) : Prop where
  cell : w.cell? ⟨g, 0, none⟩ = some (.int .i64 v)
  fz : w.frozen? ⟨g, 0, none⟩ = false
theorem BxN.own {g : Nat} (v : List Nat → Int) : Own (fun (pre : List Nat) W => BxN W g (v pre)) := fun _ _ _ _ hs hg hr =>
  ⟨cell_kept hs.cell hg hr, (frozen_kept hs.cell hg hr).trans hs.fz⟩
theorem Keep.setCell {L : List Nat} {g i : Nat} (hg : ∀ k ∈ L, k ≠ g) (v : Value) (w : World) : Keep L w (w.setCell ⟨g, i, none⟩ v) := fun k hk => Below.heap_setCell w _ v k (hg k hk)
/-- The pages that may be taken, rising. -/
def freeL (s : Sp) : List Nat := Tb.mems (frB (heldS s)) s.g.r.pg.toNat
set_option maxRecDepth 100000 in
set_option maxHeartbeats 2000000 in
theorem Free_any (h : Spc0 w g d pt pk mb pu po s) (pg : Nat) (hr : s.g.r.pg = (pg : Int)) (hpg : pg ≤ 512) :
    Calls Tryz.prog 20 #[.pointer (some ⟨g, 0, none⟩)] w fun e w' => e = .returned (.int .i64 ((freeL s).length : Int)) ∧ Below w.heap.size w w' := by
  have HT : Hid (∀ w1, Below w.heap.size w w1 → Calls Tryz.prog 53 #[.pointer (some ⟨g, 0, none⟩)] w1 fun e w' => (∃ B1 B2 gh bh, e = .returned (.func (.func 85) #[] #[.pointer (some ⟨B1, 0, none⟩), .pointer (some ⟨B2, 0, none⟩)]) ∧ FrN w1 w' B1 B2 g gh bh s.g.r (heldS s)) ∧ Below w1.heap.size w1 w') := Lib.hid fun w1 hb => free_any (h.below hb)
  have HFN : Hid (Tb.mems (frB (heldS s)) pg = freeL s) := Lib.hid (by unfold freeL; rw [hr, Int.toNat_natCast])
  have HG := Lib.hid h.lts.1
  clear h
  refine (callsIn_wide (n := 5)).1 ?_
  refine callsIn_of_wp_marks Tryz.func20 rfl trivial ?_ rfl
  simp only [Tryz.ntmps20, List.size_toArray, List.length_cons, List.length_nil, Nat.reduceAdd, Nat.reduceSub, Array.replicate_succ, Array.replicate_zero, List.push_toArray, List.append_toArray, List.nil_append, List.cons_append]
  gi_wp2_with (refine ⟨trivial, ?_⟩; gi_at_call 53; refine (callsIn_wide.2 (HT.out _ ((Below.refl _ _).alloc (Nat.le_refl _) _))).mono ?_; rintro e w7 ⟨⟨B1, B2, gh, bh, rfl, hTo⟩, hb⟩)
  obtain ⟨hF, t1, t2, t3, t4⟩ := hTo
  have hbB : Below w.heap.size w w7 := ((Below.refl _ _).alloc (Nat.le_refl _) (.cells #[.int .i64 0] 3)).trans (hb.mono (by simp))
  have hbx : BxN w7 w.heap.size 0 := ⟨(hb.cell (p := ⟨w.heap.size, 0, none⟩) (by simp)).trans (World.cell?_alloc_new w _ _ 0), (World.frozen?_of_block (hb.block w.heap.size (by simp))).trans (free_of_one (heap_alloc_new w _))⟩
  have hsz : w.heap.size < w7.heap.size := by have := hb.size; simp at this; omega
  have hL : ∀ k ∈ [B1, B2, g, gh, bh], k ≠ w.heap.size := by
    intro k hk
    simp only [List.mem_cons, List.not_mem_nil, or_false] at hk
    have hg := HG.out
    simp at t1 t2 t3 t4
    rcases hk with rfl | rfl | rfl | rfl | rfl <;> omega
  have HLT := Lib.hid hF.lt
  refine wpIn_rangeFunc_ownG rfl (by omega) (gf := 85) (lb := #[.pointer (some ⟨B1, 0, none⟩), .pointer (some ⟨B2, 0, none⟩)]) rfl trivial (enters_of Tryz.func85 (by kernel_rfl) rfl)
    (free_stops 4 (by omega) B1 B2 g gh bh pg s.g.r hr hpg (heldS s) w7 hF) Keep.trans (Keep.put HLT.out) (Below.refl _ _) (fun _ => rfl)
    (fun pre W => BxN W w.heap.size (pre.length : Int) ∧ Below w.heap.size w W)
    (fun _ _ _ => False)
    (OwnFrom.and (Own.from (BxN.own (fun pre => (pre.length : Int))) _) (ownFrom_below (by omega) (by omega)))
    (fun c => ownFrom_pure _ _)
    ⟨hbx, hbB⟩
    (fun x => { tmps := #[.pointer (some ⟨g, 0, none⟩), undef, .int .i64 0, .pointer (some ⟨w.heap.size, 0, none⟩), .pointer (some ⟨g, 0, none⟩), .func (.func 85) #[] #[.pointer (some ⟨B1, 0, none⟩), .pointer (some ⟨B2, 0, none⟩)], .int .i64 (x : Int), undef, undef, undef], defers := [] }) ?assign ?body ?done ?stop
  case assign =>
    intro l x W K hK
    gi_wp2
    first
      | exact hK
      | (simp; exact hK)
  case body =>
    rintro l pre x W ⟨hbx2, hB2⟩ hlen
    have hc := hbx2.cell
    have hf := hbx2.fz
    have hb1 : (pre.length : Int) ≤ 512 := by omega
    have hb0 : (0 : Int) ≤ (pre.length : Int) := by omega
    have HTS : Hid (((pre ++ [x]).length : Int) = (pre.length : Int) + 1) := Lib.hid (by rw [List.length_append]; simp)
    have HB2 := Lib.hid hB2
    clear hbx2 hB2 hlen
    generalize pre.length = tp at *
    gi_wp2
    refine ⟨(KeepsOthers.setCell _ _ _).from _, Keep.setCell hL _ _, ⟨?_, ?_⟩, HB2.out.setCell (p := ⟨w.heap.size, 0, none⟩) (Nat.le_refl _) _⟩
    · rw [HTS.out]; exact World.cell?_setCell_same' _ _ _ (by rw [hc]; rfl)
    · rw [World.frozen?_setCell]; exact hf
  case done =>
    rintro D ys W hD rfl ⟨hbx2, hB2⟩ hK
    rw [HFN.out] at hbx2
    have hc := hbx2.cell
    clear hbx2
    have HB2 := Lib.hid (hB2.trans (belowK_b (w := w) (Nat.le_refl _) W D _ (.deferred none) (by omega) hK rfl rfl))
    have HK := Lib.hid hK
    clear hB2 hK
    generalize hN : (freeL s).length = N at *
    gi_wp2
    refine ⟨by simp, .inl ⟨_, _, rfl, run_takeDeferred HK.out, ?_⟩⟩
    refine ⟨.int .i64 (N : Int), ?_, by rw [hN], HB2.out⟩
    simp [results, Tryz.f20, go_sem]
  case stop =>
    rintro D cd pre W hD _ hf hK
    exact hf.elim
/-- How many pages a commit needs. -/
def needS (s : Sp) : Nat := s.fr.keys.length + (movL s).length + 1
theorem movL_len (s : Sp) : (movL s).length ≤ 4 := Tb.mems_len _ _
theorem need_any (h : Spc0 w g d pt pk mb pu po s) :
    Calls Tryz.prog 17 #[.pointer (some ⟨g, 0, none⟩)] w fun e w' => e = .returned (.int .i64 (needS s : Int)) ∧ Below w.heap.size w w' := by
  have HR := Lib.hid (refusal_any h)
  have HM := Lib.hid (moved_any h)
  have c13 := h.c13
  have hLen := h.map.len
  have h1 := s.fr.keys_le
  have h2 := movL_len s
  have HE : Hid (needS s = s.fr.keys.length + (movL s).length + 1) := Lib.hid rfl
  rw [HE.out]
  clear h HE
  go_enter Tryz.func17, Tryz.ntmps17
  go_wp2_with (first | (go_at_call 48; refine HR.out.mono ?_; rintro e w7 ⟨rfl, rfl⟩) | (go_at_call 52; refine HM.out.mono ?_; rintro e w8 ⟨⟨v, rfl, hv⟩, hb8⟩; obtain ⟨p, c, rfl, hc⟩ := OwnI.cells hv))
  go_ret
  exact ⟨by simp, hb8⟩
end
end Go.Proofs.YthcnofdihigohaaGreat
end
section
/- A space with nothing changed; all as it was committed. -/
set_option maxRecDepth 20000
set_option linter.unusedSimpArgs false
namespace Go.Proofs.YthcnofdihigohaaGreat
open Go.RowKit

/-- With nothing changed. -/
def settleS (s : Sp) : Sp := { s with kp := s.g.tb, fr := fun _ => none, ch := false }
set_option maxHeartbeats 1600000 in
theorem settle_any {w : World} {g d pt : Nat} {pu po pk0 : Option Addr} {mb0 : Option Nat} {ch0 : Bool} {s : Sp}
    (hbox : w.heap[g]? = some (.cells (spA d s.g.r s.g.lv (some ⟨pt, 0, none⟩) pu po pk0 mb0 ch0) 84 (0, 0))) (hT : Tb.Tab w pt s.g.tb) (hu : Stp w pu s.g.us) (ho : Stp w po s.od) :
    Calls Tryz.prog 46 #[.pointer (some ⟨g, 0, none⟩)] w fun e w' => e = .returned (.tuple #[]) ∧ (∃ pk mb, w.heap.size ≤ pk ∧ w.heap.size ≤ mb ∧ Spc0 w' g d pt pk mb pu po (settleS s)) ∧ Only g w w' := by
  have hmm := @run_makeMap Tryz.prog
  have c9 : w.cell? ⟨g, 9, none⟩ = some (.pointer (some ⟨pt, 0, none⟩)) := by rw [cell_of_row _ _ _ _ _ _ hbox]; rfl
  have HC := Lib.hid (Tb.copy_any hT)
  have HX := Lib.hid hbox
  have HT := Lib.hid hT
  have HU := Lib.hid hu
  have HO := Lib.hid ho
  clear hbox hT hu ho
  have HFX : Hid (∀ w1, Below w.heap.size w w1 → (w1.alloc (.map #[] 0)).heap[g]? = some (.cells (spA d s.g.r s.g.lv (some ⟨pt, 0, none⟩) pu po pk0 mb0 ch0) 84 (0, 0)) ∧
      (w1.alloc (.map #[] 0)).cell? ⟨g, 12, none⟩ = some (.pointer pk0) ∧ (w1.alloc (.map #[] 0)).cell? ⟨g, 13, none⟩ = some (.map mb0) ∧ (w1.alloc (.map #[] 0)).cell? ⟨g, 14, none⟩ = some (.bool ch0) ∧ ∀ i, (w1.alloc (.map #[] 0)).frozen? ⟨g, i, none⟩ = false) := Lib.hid fun w1 hb1 => by
    have hX2 : (w1.alloc (.map #[] 0)).heap[g]? = some (.cells (spA d s.g.r s.g.lv (some ⟨pt, 0, none⟩) pu po pk0 mb0 ch0) 84 (0, 0)) := ((alloc_below w1 (.map #[] 0)).block g (by have := lt_of_block HX.out; have := hb1.size; omega)).trans ((hb1.block g (lt_of_block HX.out)).trans HX.out)
    exact ⟨hX2, by rw [cell_of_row _ _ _ _ _ _ hX2]; rfl, by rw [cell_of_row _ _ _ _ _ _ hX2]; rfl, by rw [cell_of_row _ _ _ _ _ _ hX2]; rfl, fun i => frozen_of_row _ g i _ _ hX2⟩
  go_enter Tryz.func46, Tryz.ntmps46
  go_wp2_with (go_at_call 72; refine HC.out.mono ?_; rintro e w1 ⟨rfl, hT1, hb1⟩; obtain ⟨hX2, e12, e13, e14, fz⟩ := HFX.out w1 hb1)
  go_end0
  have hlg := lt_of_block HX.out
  have hs1 := hb1.size
  have hlt1 : w.heap.size < w1.heap.size := hT1.lt
  have hb2 := alloc_below w1 (.map #[] 0)
  have hb12 := Below.more hb1 hb2 hb1.size
  have hM := Frs.made w1
  have g1 := heap_setCell_same _ g 12 _ _ (.pointer (some ⟨w.heap.size, 0, none⟩)) hX2
  have g2 := heap_setCell_same _ g 13 _ _ (.map (some w1.heap.size)) g1
  have g3 := heap_setCell_same _ g 14 _ _ (.bool false) g2
  have hO : Only g (w1.alloc (.map #[] 0)) ((((w1.alloc (.map #[] 0)).setCell ⟨g, 12, none⟩ (.pointer (some ⟨w.heap.size, 0, none⟩))).setCell ⟨g, 13, none⟩ (.map (some w1.heap.size))).setCell ⟨g, 14, none⟩ (.bool false)) :=
    ((Only.setCell g 12 _ _).trans (Only.setCell g 13 _ _)).trans (Only.setCell g 14 _ _)
  have hk : Kin (w1.alloc (.map #[] 0)) [g] := fun k hk => by
    obtain rfl : k = g := by simpa using hk
    exact .inr ⟨_, _, _, hX2, by simp⟩
  have n1 : pt ≠ g := fun e => by have h2 := HT.out.row; unfold Tb.IsT at h2; rw [e, HX.out] at h2; simp at h2
  generalize hW : (((w1.alloc (.map #[] 0)).setCell ⟨g, 12, none⟩ (.pointer (some ⟨w.heap.size, 0, none⟩))).setCell ⟨g, 13, none⟩ (.map (some w1.heap.size))).setCell ⟨g, 14, none⟩ (.bool false) = W at *
  refine ⟨rfl, ⟨w.heap.size, w1.heap.size, Nat.le_refl _, hs1, ?_⟩, (Only.of_below hb12).trans hO⟩
  have hTc : Tb.Tab (w1.alloc (.map #[] 0)) w.heap.size s.g.tb := hT1.below hb2
  exact ⟨g3, (HT.out.below hb12).only hO n1, hTc.only hO (by omega), hM.same (hO.block _ (by simp) (by omega)), (HU.out.below hb12).chg2 (Chg.of_only (G := [g]) hO (by simp)) hk, (HO.out.below hb12).chg2 (Chg.of_only (G := [g]) hO (by simp)) hk, by have := HT.out.lt; omega⟩
theorem settle_sp {w : World} {g d pt pk mb : Nat} {pu po : Option Addr} {s : Sp} (h : Spc0 w g d pt pk mb pu po s) :
    Calls Tryz.prog 46 #[.pointer (some ⟨g, 0, none⟩)] w fun e w' => e = .returned (.tuple #[]) ∧ (∃ pk mb, w.heap.size ≤ pk ∧ w.heap.size ≤ mb ∧ Spc0 w' g d pt pk mb pu po (settleS s)) ∧ Only g w w' :=
  settle_any h.box h.tab h.us h.od
theorem abort_sp {w : World} {g d pt pk mb : Nat} {pu po : Option Addr} {s : Sp} (h : Spc0 w g d pt pk mb pu po s) :
    Calls Tryz.prog 76 #[.pointer (some ⟨g, 0, none⟩)] w fun e w' => e = .returned (.tuple #[]) ∧ (∃ pk mb, w.heap.size ≤ pk ∧ w.heap.size ≤ mb ∧ Spc0 w' g d pt pk mb pu po (settleS s)) ∧ Only g w w' := by
  have HR := Lib.hid (refusal_any h)
  have HS := Lib.hid (settle_sp h)
  clear h
  go_enter Tryz.func76, Tryz.ntmps76
  go_wp2_with (first | (go_at_call 48; refine HR.out.mono ?_; rintro e w7 ⟨rfl, rfl⟩) | (go_at_call 46; refine HS.out.mono ?_; rintro e w8 ⟨rfl, h1, h2⟩))
  go_end0
  exact ⟨rfl, h1, h2⟩
end Go.Proofs.YthcnofdihigohaaGreat
end
section
/- What a put and a drop make of a set: all cases. -/
set_option maxRecDepth 20000
namespace Go.Proofs.YthcnofdihigohaaGreat.Bi
open Go.RowKit

set_option maxHeartbeats 800000 in
theorem put_not {w : World} {g b n : Nat} {f : Nat → Bool} (h : Sat w g b n f) (x : Int) (hx : newI n f x = false) : Calls Tryz.prog 125 #[.pointer (some ⟨g, 0, none⟩), .int .i64 x] w fun e w' => e = .returned (.bool false) ∧ Below w.heap.size w w' := by
  have H := Lib.hid h
  clear h
  by_cases hin : 0 ≤ x ∧ x < (n : Int)
  · have hd1 : decide ((0 : Int) ≤ x) = true := decide_eq_true hin.1
    have hd2 : decide (x < (n : Int)) = true := decide_eq_true hin.2
    have hh : hasI f x = true := by unfold newI at hx; rw [decide_eq_true hin] at hx; simpa using hx
    go_enter Tryz.func125, Tryz.ntmps125
    go_wp2_with (go_at_call 55; refine (reach_any H.out _).mono ?_; rintro e w7 ⟨rfl, rfl⟩)
    refine (has_any H.out x).mono ?_
    rintro e w7 ⟨rfl, hb7⟩
    rw [hh]
    go_wp2_with fail
    go_ret
    exact ⟨rfl, hb7⟩
  · have hr : (decide (0 ≤ x) && decide (x < (n : Int))) = false := by
      by_cases h0 : 0 ≤ x
      · rw [decide_eq_false (show ¬ x < (n : Int) by omega), Bool.and_false]
      · rw [decide_eq_false h0, Bool.false_and]
    have HR := Lib.hid (reach_any H.out x)
    rw [hr] at HR
    go_enter Tryz.func125, Tryz.ntmps125
    go_wp2_with (go_at_call 55; refine (HR.out).mono ?_; rintro e w7 ⟨rfl, rfl⟩)
    go_ret
    exact ⟨rfl, Below.refl _ _⟩
/-- Put. -/
theorem put_any {w : World} {g b n : Nat} {f : Nat → Bool} (h : Sat w g b n f) (x : Int) : Calls Tryz.prog 125 #[.pointer (some ⟨g, 0, none⟩), .int .i64 x] w fun e w' => e = .returned (.bool (newI n f x)) ∧ Sat w' g b n (putI n f x) ∧ Only b w w' := by
  cases hx : newI n f x with
  | false =>
    refine (put_not h x hx).mono ?_
    rintro e w' ⟨rfl, hb⟩
    refine ⟨rfl, ?_, Only.of_below hb⟩
    have e : putI n f x = f := by
      unfold putI
      by_cases hin : 0 ≤ x ∧ x < (n : Int)
      · rw [if_pos hin]
        have hh : hasI f x = true := by unfold newI at hx; rw [decide_eq_true hin] at hx; simpa using hx
        have h2 : f x.toNat = true := by unfold hasI at hh; rw [decide_eq_true hin.1] at hh; simpa using hh
        funext j
        by_cases hj : j = x.toNat
        · subst hj; rw [upd_same, h2]
        · rw [upd_other _ _ _ _ hj]
      · rw [if_neg hin]
    rw [e]; exact h.below hb
  | true =>
    unfold newI at hx
    simp only [Bool.and_eq_true, decide_eq_true_eq, Bool.not_eq_true'] at hx
    obtain ⟨hin, hh⟩ := hx
    obtain ⟨i, rfl⟩ := Int.eq_ofNat_of_zero_le hin.1
    rw [hasI_nat] at hh
    refine (put_new h i (by omega) hh).mono ?_
    rintro e w' ⟨rfl, hs, ho⟩
    refine ⟨rfl, ?_, ho⟩
    unfold putI
    rw [if_pos hin, Int.toNat_natCast]; exact hs

end Go.Proofs.YthcnofdihigohaaGreat.Bi
end
section
/- The pages that a state lies on, and whether each stands for one thing alone. -/
set_option maxRecDepth 20000
set_option linter.unusedSimpArgs false
namespace Go.Proofs.YthcnofdihigohaaGreat
open Go.RowKit

/-- What a claim makes of a set, and of whether all are apart. -/
def clm (pg : Int) (c : (Nat → Bool) × Bool) (x : Int) : (Nat → Bool) × Bool :=
  if x < pg then (Bi.putI 512 c.1 x, c.2 && Bi.newI 512 c.1 x) else (c.1, false)
/-- What is claimed of a state. -/
def claims (r : Rt) (lv tb : Nat → Nat) : List Int :=
  r.dr :: ((((List.range 4).filter fun i => !(lv i == 0)).map fun i => ((lv i : Nat) : Int)) ++ (Tb.mems (Tb.told tb) 512).map fun l => ((tb l : Nat) : Int))
def pgsM (r : Rt) (lv tb : Nat → Nat) : (Nat → Bool) × Bool := (claims r lv tb).foldl (clm r.pg) (fun _ => false, true)
/-- A state's cells. -/
def stA (r : Rt) (lv : Nat → Nat) (pt pu : Option Addr) : Array Value :=
  #[.int .i64 r.ep, .int .i64 r.pg, .int .i64 r.dr, .int .i64 r.wd, .int .i64 (lv 0 : Nat), .int .i64 (lv 1 : Nat), .int .i64 (lv 2 : Nat), .int .i64 (lv 3 : Nat), .pointer pt, .pointer pu]
/-- Block g holds a state. -/
structure Stt (w : World) (g pt : Nat) (pu : Option Addr) (r : Rt) (lv tb : Nat → Nat) : Prop where
  box : w.heap[g]? = some (.cells (stA r lv (some ⟨pt, 0, none⟩) pu) 81 (0, 0))
  tab : Tb.Tab w pt tb
section
variable {w w' : World} {g pt : Nat} {pu : Option Addr} {r : Rt} {lv tb : Nat → Nat}
theorem Stt.cell (h : Stt w g pt pu r lv tb) (i : Nat) (v : Value) (hv : (stA r lv (some ⟨pt, 0, none⟩) pu)[i]? = some v) : w.cell? ⟨g, i, none⟩ = some v := by
  rw [cell_of_row _ _ _ _ _ _ h.box]; exact hv
theorem Stt.same (h : Stt w g pt pu r lv tb) (h1 : w'.heap[g]? = w.heap[g]?) (h2 : w'.heap[pt]? = w.heap[pt]?) : Stt w' g pt pu r lv tb := ⟨h1.trans h.box, h.tab.same h2⟩
theorem Stt.lt (h : Stt w g pt pu r lv tb) : g < w.heap.size := lt_of_block h.box
theorem Stt.below (h : Stt w g pt pu r lv tb) (hb : Below w.heap.size w w') : Stt w' g pt pu r lv tb := h.same (hb.block g h.lt) (hb.block pt h.tab.lt)
end
/-- Amid the claims: the boxes, the state, the set. -/
structure Clm (W : World) (B1 B2 B3 g pt gu bu : Nat) (pu : Option Addr) (r : Rt) (lv tb : Nat → Nat) (c : (Nat → Bool) × Bool) : Prop where
  c1 : W.cell? ⟨B1, 0, none⟩ = some (.pointer (some ⟨g, 0, none⟩))
  c2 : W.cell? ⟨B2, 0, none⟩ = some (.pointer (some ⟨gu, 0, none⟩))
  c3 : W.cell? ⟨B3, 0, none⟩ = some (.bool c.2)
  f3 : W.frozen? ⟨B3, 0, none⟩ = false
  st : Stt W g pt pu r lv tb
  sat : Bi.Sat W gu bu 512 c.1
  n1 : B1 ≠ B3 ∧ B2 ≠ B3 ∧ g ≠ B3 ∧ pt ≠ B3 ∧ gu ≠ B3 ∧ bu ≠ B3
  n2 : B1 ≠ bu ∧ B2 ≠ bu ∧ g ≠ bu ∧ pt ≠ bu ∧ B3 ≠ bu
section
variable {W W' : World} {B1 B2 B3 g pt gu bu : Nat} {pu : Option Addr} {r : Rt} {lv tb : Nat → Nat} {c : (Nat → Bool) × Bool}
theorem Clm.keep (h : Clm W B1 B2 B3 g pt gu bu pu r lv tb c) (hk : Keep [B1, B2, B3, g, pt, gu, bu] W W') : Clm W' B1 B2 B3 g pt gu bu pu r lv tb c :=
  ⟨(World.cell?_of_block (hk B1 (by simp))).trans h.c1, (World.cell?_of_block (hk B2 (by simp))).trans h.c2, (World.cell?_of_block (hk B3 (by simp))).trans h.c3, (World.frozen?_of_block (hk B3 (by simp))).trans h.f3,
    h.st.same (hk g (by simp)) (hk pt (by simp)), h.sat.same (hk gu (by simp)) (hk bu (by simp)), h.n1, h.n2⟩
theorem Clm.lt (h : Clm W B1 B2 B3 g pt gu bu pu r lv tb c) : ∀ k ∈ [B1, B2, B3, g, pt, gu, bu], k < W.heap.size := by
  intro k hk
  simp only [List.mem_cons, List.not_mem_nil, or_false] at hk
  rcases hk with rfl | rfl | rfl | rfl | rfl | rfl | rfl
  · exact World.block_lt_of_cell? W _ h.c1
  · exact World.block_lt_of_cell? W _ h.c2
  · exact World.block_lt_of_cell? W _ h.c3
  · exact h.st.lt
  · exact h.st.tab.lt
  · exact h.sat.glt
  · exact h.sat.blt
theorem Clm.below (h : Clm W B1 B2 B3 g pt gu bu pu r lv tb c) (hb : Below W.heap.size W W') : Clm W' B1 B2 B3 g pt gu bu pu r lv tb c := h.keep (Keep.of_below hb h.lt)
/-- The set's bytes change. -/
theorem Clm.setSat (h : Clm W B1 B2 B3 g pt gu bu pu r lv tb c) {f : Nat → Bool} (hs : Bi.Sat W' gu bu 512 f) (ho : Only bu W W') : Clm W' B1 B2 B3 g pt gu bu pu r lv tb (f, c.2) :=
  ⟨(World.cell?_of_block (ho.block B1 (h.lt B1 (by simp)) h.n2.1)).trans h.c1, (World.cell?_of_block (ho.block B2 (h.lt B2 (by simp)) h.n2.2.1)).trans h.c2, (World.cell?_of_block (ho.block B3 (h.lt B3 (by simp)) h.n2.2.2.2.2)).trans h.c3, (World.frozen?_of_block (ho.block B3 (h.lt B3 (by simp)) h.n2.2.2.2.2)).trans h.f3,
    h.st.same (ho.block g h.st.lt h.n2.2.2.1) (ho.block pt h.st.tab.lt h.n2.2.2.2.1), hs, h.n1, h.n2⟩
/-- They aren't apart. -/
theorem Clm.setOff (h : Clm W B1 B2 B3 g pt gu bu pu r lv tb c) (b : Bool) : Clm (W.setCell ⟨B3, 0, none⟩ (.bool b)) B1 B2 B3 g pt gu bu pu r lv tb (c.1, b) := by
  have ho : Only B3 W (W.setCell ⟨B3, 0, none⟩ (.bool b)) := Only.setCell B3 0 _ W
  exact ⟨(World.cell?_of_block (ho.block B1 (h.lt B1 (by simp)) h.n1.1)).trans h.c1, (World.cell?_of_block (ho.block B2 (h.lt B2 (by simp)) h.n1.2.1)).trans h.c2, World.cell?_setCell_same' _ _ _ (by rw [h.c3]; rfl), by rw [World.frozen?_setCell]; exact h.f3,
    h.st.same (ho.block g h.st.lt h.n1.2.2.1) (ho.block pt h.st.tab.lt h.n1.2.2.2.1), h.sat.same (ho.block gu h.sat.glt h.n1.2.2.2.2.1) (ho.block bu h.sat.blt h.n1.2.2.2.2.2), h.n1, h.n2⟩
set_option maxHeartbeats 1600000 in
theorem claim_any (h : Clm W B1 B2 B3 g pt gu bu pu r lv tb c) (x : Int) :
    Calls Tryz.prog 124 #[.int .i64 x, .pointer (some ⟨B1, 0, none⟩), .pointer (some ⟨B2, 0, none⟩), .pointer (some ⟨B3, 0, none⟩)] W fun e W' => e = .returned (.tuple #[]) ∧ Clm W' B1 B2 B3 g pt gu bu pu r lv tb (clm r.pg c x) ∧ Chg [bu, B3] [bu, B3] W W' := by
  have c1 := h.c1
  have c2 := h.c2
  have c3 := h.c3
  have f3 := h.f3
  have p1 : W.cell? ⟨g, 1, none⟩ = some (.int .i64 r.pg) := h.st.cell 1 _ rfl
  have HX := Lib.hid h
  have HP := Lib.hid (Bi.put_any h.sat x)
  have HC : Hid (clm r.pg c x = if x < r.pg then (Bi.putI 512 c.1 x, c.2 && Bi.newI 512 c.1 x) else (c.1, false)) := Lib.hid rfl
  rw [HC.out]
  clear h HC
  generalize r.pg = pg at *
  by_cases hx : x < pg
  · have hd : decide (pg ≤ x) = false := decide_eq_false (by omega)
    have hd2 : decide (x ≥ pg) = false := decide_eq_false (by omega)
    rw [if_pos hx]
    clear hx
    cases hn : Bi.newI 512 c.1 x with
    | true =>
      rw [hn] at HP
      rw [Bool.and_true]
      generalize Bi.putI 512 c.1 x = f2 at *
      clear hn
      go_enter Tryz.func124, Tryz.ntmps124
      go_wp2_with (go_at_call 125; refine HP.out.mono ?_; rintro e w7 ⟨rfl, hS, hO⟩)
      go_end0
      exact ⟨rfl, HX.out.setSat hS hO, Chg.of_only hO (by simp)⟩
    | false =>
      rw [hn] at HP
      rw [Bool.and_false]
      generalize Bi.putI 512 c.1 x = f2 at *
      clear hn
      go_enter Tryz.func124, Tryz.ntmps124
      go_upto_region 1 with (go_at_call 125; refine HP.out.mono ?_; rintro e w7 ⟨rfl, hS, hO⟩)
      have HX7 := Lib.hid (HX.out.setSat hS hO)
      have HC7 : Hid (Chg [bu, B3] [bu, B3] W w7) := Lib.hid (Chg.of_only hO (by simp))
      have d3 := HX7.out.c3
      have e3 := HX7.out.f3
      have HX8 := Lib.hid (HX7.out.setOff false)
      clear hS hO HX7 HX HP c1 c2 c3 f3 p1
      go_wp2_with fail
      go_end0
      exact ⟨rfl, HX8.out, HC7.out.trans (Chg.setCell (by simp) _ _)⟩
  · have hd : decide (pg ≤ x) = true := decide_eq_true (by omega)
    have hd2 : decide (x ≥ pg) = true := decide_eq_true (by omega)
    rw [if_neg hx]
    have HX8 := Lib.hid (HX.out.setOff false)
    clear hx
    go_enter Tryz.func124, Tryz.ntmps124
    go_wp2_with fail
    go_end0
    exact ⟨rfl, HX8.out, Chg.setCell (by simp) _ _⟩
end
end Go.Proofs.YthcnofdihigohaaGreat
end
section
/- The pages that a state lies on, told by labels: 0 is the directory, 1 to 4 the leaves, 5 and on the logical pages. -/
set_option maxRecDepth 20000
set_option linter.unusedSimpArgs false
namespace Go.Proofs.YthcnofdihigohaaGreat
open Go.RowKit

def lab (r : Rt) (lv tb : Nat → Nat) (n : Nat) : Nat := if n = 0 then r.dr.toNat else if n < 5 then lv (n - 1) else tb (n - 5)
theorem lab_dir (r : Rt) (lv tb : Nat → Nat) : lab r lv tb 0 = r.dr.toNat := rfl
theorem lab_lv (r : Rt) (lv tb : Nat → Nat) (i : Nat) (h : i < 4) : lab r lv tb (i + 1) = lv i := by unfold lab; rw [if_neg (by omega), if_pos (by omega)]; rfl
theorem lab_tb (r : Rt) (lv tb : Nat → Nat) (l : Nat) : lab r lv tb (l + 5) = tb l := by unfold lab; rw [if_neg (by omega), if_neg (by omega)]; rfl
/-- The pages of a row of labels. -/
def labs (P : Nat → Nat) (l : List Nat) : List Int := (l.filter fun n => !(P n == 0)).map fun n => ((P n : Nat) : Int)
theorem labs_app (P : Nat → Nat) (a b : List Nat) : labs P (a ++ b) = labs P a ++ labs P b := by unfold labs; rw [List.filter_append, List.map_append]
theorem labs_map (P Q : Nat → Nat) (f : Nat → Nat) (l : List Nat) (h : ∀ n ∈ l, P (f n) = Q n) : labs P (l.map f) = labs Q l := by
  unfold labs
  induction l with
  | nil => rfl
  | cons x l ih =>
    have hx := h x (by simp)
    have ih := ih (fun n hn => h n (by simp [hn]))
    rw [List.map_cons, List.filter_cons, List.filter_cons, hx]
    cases e : !(Q x == 0)
    · simp only [Bool.false_eq_true, if_false]; exact ih
    · simp only [if_true, List.map_cons, hx]; rw [ih]
theorem claims_labs (r : Rt) (lv tb : Nat → Nat) (hd : 2 ≤ r.dr) : claims r lv tb = labs (lab r lv tb) (List.range 517) := by
  have e : List.range 517 = [0] ++ ((List.range 4).map (fun i => i + 1) ++ (List.range 512).map (fun l => l + 5)) := by decide +kernel
  rw [e, labs_app, labs_app, labs_map (lab r lv tb) lv (fun i => i + 1) _ (fun n hn => lab_lv r lv tb n (List.mem_range.1 hn)), labs_map (lab r lv tb) tb (fun l => l + 5) _ (fun n _ => lab_tb r lv tb n)]
  have h0 : labs (lab r lv tb) [0] = [r.dr] := by
    unfold labs
    rw [List.filter_cons, lab_dir]
    have : (r.dr.toNat == 0) = false := by rw [beq_eq_false_iff_ne]; omega
    rw [this]
    simp [lab_dir]; omega
  rw [h0]
  unfold claims labs
  rfl
theorem clm_ok {pg : Int} {f : Nat → Bool} {x : Nat} (h : (x : Int) < pg) (hp : pg ≤ 512) (hf : f x = false) : clm pg (f, true) (x : Int) = (Bi.upd f x true, true) := by
  unfold clm
  rw [if_pos h]
  have hx : (0 : Int) ≤ (x : Int) ∧ (x : Int) < ((512 : Nat) : Int) := by omega
  unfold Bi.putI Bi.newI
  rw [if_pos hx, decide_eq_true hx]
  unfold Bi.hasI
  simp [hf]
theorem clm_no {pg : Int} {c : (Nat → Bool) × Bool} (x : Int) (h : c.2 = false) : (clm pg c x).2 = false := by
  unfold clm
  split
  · simp [h]
  · rfl
theorem fold_no {pg : Int} (X : List Int) : ∀ {c : (Nat → Bool) × Bool}, c.2 = false → (X.foldl (clm pg) c).2 = false := by
  induction X with
  | nil => exact fun h => h
  | cons x X ih => exact fun h => ih (clm_no x h)
theorem clm_yes {pg : Int} {f : Nat → Bool} {x : Nat} (hp : pg ≤ 512) (h : (clm pg (f, true) (x : Int)).2 = true) : (x : Int) < pg ∧ f x = false := by
  unfold clm at h
  split at h
  · rename_i h1
    refine ⟨h1, ?_⟩
    have hx : (0 : Int) ≤ (x : Int) ∧ (x : Int) < ((512 : Nat) : Int) := by omega
    unfold Bi.newI Bi.hasI at h
    rw [decide_eq_true hx] at h
    simp at h
    exact h
  · cases h
/-- Each label's page is one of the space's, and its alone. -/
structure Apart (P : Nat → Nat) (l : List Nat) (pg : Int) : Prop where
  lt : ∀ n ∈ l, P n ≠ 0 → (P n : Int) < pg
  inj : ∀ n ∈ l, ∀ k ∈ l, P n ≠ 0 → P n = P k → n = k
/-- Is this page among a row's? -/
def inL (P : Nat → Nat) (l : List Nat) (p : Nat) : Bool := l.any fun n => P n == p && !(p == 0)
theorem inL_iff {P : Nat → Nat} {l : List Nat} {p : Nat} : inL P l p = true ↔ p ≠ 0 ∧ ∃ n ∈ l, P n = p := by
  unfold inL
  rw [List.any_eq_true]
  constructor
  · rintro ⟨n, hn, h⟩
    simp at h
    exact ⟨h.2, n, hn, h.1⟩
  · rintro ⟨h0, n, hn, h⟩
    exact ⟨n, hn, by simp [h, h0]⟩
theorem fold_labs {P : Nat → Nat} {pg : Int} (hp : pg ≤ 512) : ∀ (l : List Nat) (f : Nat → Bool), l.Nodup → Apart P l pg → (∀ n ∈ l, P n ≠ 0 → f (P n) = false) →
    (labs P l).foldl (clm pg) (f, true) = ((fun p => f p || inL P l p), true)
  | [], f, _, _, _ => by
    unfold labs inL; simp
  | x :: l, f, hn, hA, hf => by
    obtain ⟨hx, hn2⟩ := List.nodup_cons.1 hn
    have hA2 : Apart P l pg := ⟨fun n h => hA.lt n (by simp [h]), fun n h k hk => hA.inj n (by simp [h]) k (by simp [hk])⟩
    by_cases h0 : P x = 0
    · have e : labs P (x :: l) = labs P l := by unfold labs; rw [List.filter_cons, h0]; rfl
      rw [e, fold_labs hp l f hn2 hA2 (fun n h => hf n (by simp [h]))]
      congr 1
      funext p
      congr 1
      unfold inL
      rw [List.any_cons, h0]
      cases e2 : ((0 : Nat) == p && !(p == 0))
      · simp
      · simp at e2; omega
    · have e : labs P (x :: l) = ((P x : Nat) : Int) :: labs P l := by
        unfold labs
        rw [List.filter_cons]
        have : (!(P x == 0)) = true := by simp [h0]
        rw [if_pos this]; rfl
      rw [e, List.foldl_cons, clm_ok (hA.lt x (by simp) h0) hp (hf x (by simp) h0), fold_labs hp l _ hn2 hA2 (fun n h hz => by
        have hne : P n ≠ P x := fun e => hx (by rw [← hA.inj n (by simp [h]) x (by simp) hz e]; exact h)
        rw [Bi.upd_other _ _ _ _ hne]
        exact hf n (by simp [h]) hz)]
      congr 1
      funext p
      unfold inL
      rw [List.any_cons]
      by_cases e2 : p = P x
      · subst e2
        rw [Bi.upd_same]
        simp [h0]
      · rw [Bi.upd_other _ _ _ _ e2]
        have : (P x == p) = false := by rw [beq_eq_false_iff_ne]; exact fun h => e2 h.symm
        rw [this]
        simp
theorem fold_apart {P : Nat → Nat} {pg : Int} (hp : pg ≤ 512) : ∀ (l : List Nat) (f : Nat → Bool), ((labs P l).foldl (clm pg) (f, true)).2 = true → l.Nodup → Apart P l pg ∧ ∀ n ∈ l, P n ≠ 0 → f (P n) = false
  | [], f, _, _ => ⟨⟨fun n h => (by cases h), fun n h => (by cases h)⟩, fun n h => (by cases h)⟩
  | x :: l, f, h, hn => by
    obtain ⟨hx, hn2⟩ := List.nodup_cons.1 hn
    by_cases h0 : P x = 0
    · have e : labs P (x :: l) = labs P l := by unfold labs; rw [List.filter_cons, h0]; rfl
      rw [e] at h
      obtain ⟨hA, hf⟩ := fold_apart hp l f h hn2
      refine ⟨⟨fun n hn hz => ?_, fun n hn k hk hz ee => ?_⟩, fun n hn hz => ?_⟩
      · rcases List.mem_cons.1 hn with rfl | h1
        · exact absurd h0 hz
        · exact hA.lt n h1 hz
      · rcases List.mem_cons.1 hn with rfl | h1
        · exact absurd h0 hz
        · rcases List.mem_cons.1 hk with rfl | h2
          · rw [h0] at ee; exact absurd ee hz
          · exact hA.inj n h1 k h2 hz ee
      · rcases List.mem_cons.1 hn with rfl | h1
        · exact absurd h0 hz
        · exact hf n h1 hz
    · have e : labs P (x :: l) = ((P x : Nat) : Int) :: labs P l := by
        unfold labs
        rw [List.filter_cons]
        have : (!(P x == 0)) = true := by simp [h0]
        rw [if_pos this]; rfl
      rw [e, List.foldl_cons] at h
      have hclm : (clm pg (f, true) ((P x : Nat) : Int)).2 = true := by
        cases e2 : (clm pg (f, true) ((P x : Nat) : Int)).2
        · rw [fold_no _ e2] at h; cases h
        · rfl
      obtain ⟨hlt, hfx⟩ := clm_yes hp hclm
      rw [clm_ok hlt hp hfx] at h
      obtain ⟨hA, hf⟩ := fold_apart hp l _ h hn2
      have hne : ∀ n ∈ l, P n ≠ 0 → P n ≠ P x ∧ f (P n) = false := fun n hn hz => by
        have h3 := hf n hn hz
        by_cases e2 : P n = P x
        · rw [e2, Bi.upd_same] at h3; cases h3
        · rw [Bi.upd_other _ _ _ _ e2] at h3; exact ⟨e2, h3⟩
      refine ⟨⟨fun n hn hz => ?_, fun n hn k hk hz ee => ?_⟩, fun n hn hz => ?_⟩
      · rcases List.mem_cons.1 hn with rfl | h1
        · exact hlt
        · exact hA.lt n h1 hz
      · rcases List.mem_cons.1 hn with rfl | h1
        · rcases List.mem_cons.1 hk with rfl | h2
          · rfl
          · exact absurd ee.symm (hne k h2 (by rw [← ee]; exact hz)).1
        · rcases List.mem_cons.1 hk with rfl | h2
          · exact absurd ee (hne n h1 hz).1
          · exact hA.inj n h1 k h2 hz ee
      · rcases List.mem_cons.1 hn with rfl | h1
        · exact hfx
        · exact (hne n h1 hz).2
/-- The pages of a state, as truths. -/
def usF (r : Rt) (lv tb : Nat → Nat) : Nat → Bool := inL (lab r lv tb) (List.range 517)
abbrev ApartS (r : Rt) (lv tb : Nat → Nat) : Prop := Apart (lab r lv tb) (List.range 517) r.pg
theorem pgsM_yes {r : Rt} {lv tb : Nat → Nat} (hd : 2 ≤ r.dr) (hp : r.pg ≤ 512) (hA : ApartS r lv tb) : pgsM r lv tb = (usF r lv tb, true) := by
  unfold pgsM
  rw [claims_labs r lv tb hd, fold_labs hp _ _ List.nodup_range hA (fun _ _ _ => rfl)]
  congr 1
theorem pgsM_apart {r : Rt} {lv tb : Nat → Nat} (hd : 2 ≤ r.dr) (hp : r.pg ≤ 512) (h : (pgsM r lv tb).2 = true) : ApartS r lv tb := by
  unfold pgsM at h
  rw [claims_labs r lv tb hd] at h
  exact (fold_apart hp _ _ h List.nodup_range).1
theorem usF_iff {r : Rt} {lv tb : Nat → Nat} {p : Nat} : usF r lv tb p = true ↔ p ≠ 0 ∧ ∃ n, n < 517 ∧ lab r lv tb n = p := by
  unfold usF
  rw [inL_iff]
  simp only [List.mem_range]
theorem usF_sub {r : Rt} {lv tb : Nat → Nat} (hp : r.pg ≤ 512) (hA : ApartS r lv tb) : Bi.Sub 512 (usF r lv tb) := by
  intro i hi
  cases e : usF r lv tb i
  · rfl
  · obtain ⟨h0, n, hn, rfl⟩ := usF_iff.1 e
    have := hA.lt n (List.mem_range.2 hn) h0
    omega
end Go.Proofs.YthcnofdihigohaaGreat
end
section
/- The pages that may be taken, collected into a row. -/
set_option maxRecDepth 20000
set_option linter.unusedSimpArgs false
namespace Go.Proofs.YthcnofdihigohaaGreat
open Go.RowKit Go.Shelf
attribute [local go_sem] Oper.semAt_some

/-- The box of a row that grows. -/
def ColAt (B0 Bs : Nat) (pre : List Nat) (W : World) : Prop := ∃ v, W.heap[Bs]? = some (.cells #[v] 62 (0, 0)) ∧ OwnI W B0 v pre
theorem ColAt.own (B0 Bs : Nat) : Own (ColAt B0 Bs) := fun s W W' row hs hg hr => by
  obtain ⟨v, hv, ho⟩ := hs
  refine ⟨v, (hg.block Bs (lt_of_block hv) (fun e => ?_)).trans hv, ho.kept hg ?_⟩
  · obtain ⟨o, h1, h2⟩ := hr Bs e.symm
    rw [hv] at h1; cases h1; cases h2
  · rcases ho.2 with ⟨rfl, _⟩ | ⟨g, cap, cur, rfl, _, hgb, _⟩
    · exact .inl rfl
    · refine .inr fun e => ?_
      obtain ⟨o, h1, h2⟩ := hr g e.symm
      rw [hgb] at h1; cases h1; cases h2
set_option maxRecDepth 100000 in
set_option maxHeartbeats 3200000 in
theorem seq_free {w : World} {B1 B2 g gh bh pg : Nat} {r : Rt} {held : Nat → Bool} (hF : FrK w B1 B2 g gh bh r held) (hr : r.pg = (pg : Int)) (hpg : pg ≤ 512) :
    Calls Tryz.prog 119 #[.slice none 0 0, .func (.func 85) #[] #[.pointer (some ⟨B1, 0, none⟩), .pointer (some ⟨B2, 0, none⟩)]] w fun e w' => (∃ v, e = .returned v ∧ OwnI w' w.heap.size v (Tb.mems (frB held) pg)) ∧ Below w.heap.size w w' := by
  obtain ⟨i0, hi, hz0, hz1, hz2⟩ := info_parts Tb.Tryz.info3
  have HI := Lib.hid hi
  have HZ0 := Lib.hid hz0
  have HZ1 := Lib.hid hz1
  have HZ2 := Lib.hid hz2
  have HF := Lib.hid hF
  have HL := Lib.hid hF.lt
  clear hi hz0 hz1 hz2 hF
  refine (callsIn_wide (n := 5)).1 ?_
  refine callsIn_of_wp_marks Tryz.func119 rfl trivial ?_ rfl
  simp only [Tryz.ntmps119, List.size_toArray, List.length_cons, List.length_nil, Nat.reduceAdd, Nat.reduceSub, Array.replicate_succ, Array.replicate_zero, List.push_toArray, List.append_toArray, List.nil_append, List.cons_append]
  gi_wp2
  have hb1 := alloc_below w (.cells #[.slice none 0 0] 62)
  have hv0 : (w.alloc (.cells #[.slice none 0 0] 62)).heap[w.heap.size]? = some (.cells #[.slice none 0 0] 62 (0, 0)) := heap_alloc_new w _
  have hF1 := HF.out.keep (Keep.of_below hb1 HL.out)
  have hsz : w.heap.size < (w.alloc (.cells #[.slice none 0 0] 62)).heap.size := by simp
  generalize w.alloc (.cells #[.slice none 0 0] 62) = w7 at *
  have hL : ∀ k ∈ [B1, B2, g, gh, bh], k ≠ w.heap.size := fun k hk => by have := HL.out k hk; omega
  have HLT := Lib.hid hF1.lt
  refine wpIn_rangeFunc_ownG rfl (by omega) (gf := 85) (lb := #[.pointer (some ⟨B1, 0, none⟩), .pointer (some ⟨B2, 0, none⟩)]) rfl trivial (enters_of Tryz.func85 (by kernel_rfl) rfl)
    (free_stops 4 (by omega) B1 B2 g gh bh pg r hr hpg held w7 hF1) Keep.trans (Keep.put HLT.out) (Below.refl _ _) (fun _ => rfl)
    (fun pre W => ColAt w.heap.size w.heap.size pre W ∧ Below w.heap.size w W)
    (fun _ _ _ => False)
    (OwnFrom.and (Own.from (ColAt.own _ _) _) (ownFrom_below (by omega) (by omega)))
    (fun c => ownFrom_pure _ _)
    ⟨⟨_, hv0, World.ownsRow_nil _ _ _ _⟩, hb1⟩
    (fun x => { tmps := #[.slice none 0 0, .func (.func 85) #[] #[.pointer (some ⟨B1, 0, none⟩), .pointer (some ⟨B2, 0, none⟩)], .pointer (some ⟨w.heap.size, 0, none⟩), undef, .slice none 0 0, .int .i64 (x : Int), .func (.func 85) #[] #[.pointer (some ⟨B1, 0, none⟩), .pointer (some ⟨B2, 0, none⟩)], .int .i64 (x : Int), undef, undef, undef, undef, undef], defers := [] }) ?assign ?body ?done ?stop
  case assign =>
    intro l x W K hK
    gi_wp2
    first
      | exact hK
      | (simp; exact hK)
  case body =>
    rintro l pre x W ⟨⟨v, hv, ho⟩, hB2⟩ hlen
    have c0 : W.cell? ⟨w.heap.size, 0, none⟩ = some v := by rw [cell_of_row _ _ _ _ _ _ hv]; rfl
    have f0 : W.frozen? ⟨w.heap.size, 0, none⟩ = false := frozen_of_row _ _ 0 _ _ hv
    have HO := Lib.hid ho
    have HV := Lib.hid hv
    have HB2 := Lib.hid hB2
    have HLN := Lib.hid hlen
    clear hv ho hB2 hlen
    gi_wp2_with (first
      | (gi_at_builtin; refine wpListIn_append_own _ rfl _ _ 62 rfl w.heap.size 3 i0 (.int .i64 0) 1 8 Tryz.underlying62 HI.out HZ0.out HZ1.out HZ2.out rfl (by decide) _ _ _ rfl (World.ownsRow.alloc HO.out _) ⟨W.heap.size, 0, none⟩ 1 1 [.int .i64 (x : Int)] rfl rfl (cell_one_new W _ _) ?c2 ?c3 ?c4 ?c5 ?_
         case c2 => intro u hu; simp at hu; subst hu; rfl
         case c3 => unfold maxLen; have := HLN.out; omega
         case c4 => have := HLN.out; omega
         case c5 => have := HB2.out.size; simp; omega
         intro v' W3 hown hg3 _
         have hne : some w.heap.size ≠ v.ownBlock := fun e => by
           rcases HO.out.2 with ⟨rfl, _⟩ | ⟨g1, cap1, cur1, rfl, _, hgb, _⟩
           · cases e
           · have e2 : w.heap.size = g1 := by simpa [Value.ownBlock] using e
             rw [← e2, HV.out] at hgb
             cases hgb
         have hb4 : w.heap.size < W.heap.size := lt_of_block HV.out
         have hv3 : W3.heap[w.heap.size]? = some (.cells #[v] 62 (0, 0)) := (hg3.block _ (by simp; omega) hne).trans (((alloc_below W _).block _ hb4).trans HV.out)
         have HB3 := Lib.hid ((HB2.out.alloc HB2.out.size (.cells #[.int .i64 (x : Int)] 3)).grown hg3 (by have := HB2.out.size; simp; omega) (fun j e => (World.ownsRow.lt HO.out j e).1))
         have HKW : Hid (KeepsOthers W W3) := Lib.hid ((KeepsOthers.alloc W (.cells #[.int .i64 (x : Int)] 3)).trans (KeepsOthers.of_grownBy hg3 (fun j o e ho => by
           rcases (World.ownsRow.alloc HO.out (.cells #[.int .i64 (x : Int)] 3)).2 with ⟨rfl, _⟩ | ⟨g1, cap1, cur1, rfl, _, hgb, _⟩
           · cases e
           · have e1 : (some g1 : Option Nat) = some j := e
             have e2 : g1 = j := by simpa using e1
             rw [← e2, hgb] at ho
             cases ho; rfl)))
         have HKK : Hid (Keep [B1, B2, g, gh, bh] W W3) := Lib.hid (fun k hk => by
           have hk1 := HL.out k hk
           exact (hg3.block k (by have := HB2.out.size; simp; omega) (fun e => by have := (World.ownsRow.lt HO.out k e.symm).1; omega)).trans ((alloc_below W _).block k (by have := HB2.out.size; omega)))
         have HOW := Lib.hid hown
         obtain ⟨g', cap', rfl⟩ : ∃ g' cap', v' = .slice (some ⟨g', 0, none⟩) (pre.length + 1) cap' := by
           rcases hown.2 with ⟨_, h0⟩ | ⟨g1, cap1, cur1, rfl, _⟩
           · omega
           · exact ⟨_, _, rfl⟩
         clear hown hg3 hne hb4
         have c3 : W3.cell? ⟨w.heap.size, 0, none⟩ = some v := by rw [cell_of_row _ _ _ _ _ _ hv3]; rfl
         have f3 : W3.frozen? ⟨w.heap.size, 0, none⟩ = false := frozen_of_row _ _ 0 _ _ hv3
         )
      | fail)
    refine ⟨(HKW.out.trans (KeepsOthers.setCell _ _ _)).from _, HKK.out.trans (Keep.setCell hL _ _), ⟨_, heap_setCell_same _ w.heap.size 0 _ 62 _ hv3, ?_⟩, HB3.out.setCell (p := ⟨w.heap.size, 0, none⟩) (Nat.le_refl _) _⟩
    have h1 := HOW.out.kept (grownBy_setCell' W3 w.heap.size (.slice (some ⟨g', 0, none⟩) (pre.length + 1) cap')) (.inr (fun e => by
      rcases HOW.out.2 with ⟨_, h0⟩ | ⟨g1, cap1, cur1, e1, _, hgb, _⟩
      · omega
      · have e2 : g' = w.heap.size := by simpa [Value.ownBlock] using e
        have e3 : g' = g1 := by simpa using (Value.slice.inj e1).1
        rw [← e3, e2, hv3] at hgb
        cases hgb))
    unfold OwnI
    rw [List.length_append, show Tb.ivs (pre ++ [x]) = Tb.ivs pre ++ [.int .i64 (x : Int)] by unfold Tb.ivs; rw [List.map_append]; rfl]
    exact h1
  case done =>
    rintro D ys W hD rfl ⟨⟨v, hv, ho⟩, hB2⟩ hK
    have c0 : W.cell? ⟨w.heap.size, 0, none⟩ = some v := by rw [cell_of_row _ _ _ _ _ _ hv]; rfl
    have HO := Lib.hid ho
    have HV := Lib.hid hv
    have HB2 := Lib.hid (hB2.trans (belowK_b (w := w) (Nat.le_refl _) W D _ (.deferred none) (by omega) hK rfl rfl))
    have HK := Lib.hid hK
    clear hB2 hK hv ho
    gi_wp2
    refine ⟨by simp, .inl ⟨_, _, rfl, run_takeDeferred HK.out, ?_⟩⟩
    refine ⟨v, ?_, ⟨v, rfl, ?_⟩, HB2.out⟩
    · simp [results, Tryz.f119, go_sem]
    · exact HO.out.kept (grownBy_putObj' W D (.deferred none)) (by
        rcases HO.out.2 with ⟨rfl, _⟩ | ⟨g1, cap1, cur1, rfl, _, hgb, _⟩
        · exact .inl rfl
        · refine .inr fun e => ?_
          have e2 : g1 = D := by simpa [Value.ownBlock] using e
          rw [e2, HK.out] at hgb
          cases hgb)
  case stop =>
    rintro D c pre W _ _ h
    exact h.elim
theorem collect_free {w : World} {B1 B2 g gh bh pg : Nat} {r : Rt} {held : Nat → Bool} (hF : FrK w B1 B2 g gh bh r held) (hr : r.pg = (pg : Int)) (hpg : pg ≤ 512) :
    Calls Tryz.prog 90 #[.func (.func 85) #[] #[.pointer (some ⟨B1, 0, none⟩), .pointer (some ⟨B2, 0, none⟩)]] w fun e w' => (∃ v, e = .returned v ∧ OwnI w' w.heap.size v (Tb.mems (frB held) pg)) ∧ Below w.heap.size w w' := by
  have HS := Lib.hid (seq_free hF hr hpg)
  clear hF
  go_enter Tryz.func90, Tryz.ntmps90
  go_wp2_with (go_at_call 119; refine HS.out.mono ?_; rintro e w7 ⟨⟨v, rfl, hO⟩, hb⟩)
  go_ret
  exact ⟨⟨v, rfl, hO⟩, hb⟩
end Go.Proofs.YthcnofdihigohaaGreat
end
