/- What is ranged over is the numbers of a set, rising, and its runs; a loop that is left ends; at whatever size and numbers. -/
import Derived.Test.YtipiblaoogneaaaLGoes0
namespace Go.Proofs.Ytipiblaoogneaaa
open Go.ChangeShapes Go.WideShapes Go.ChangeAt Go.RowKit Go.Shelf
attribute [local go_sem] Oper.semAt_some

set_option maxRecDepth 100000 in
set_option maxHeartbeats 1600000 in
theorem goes_out (x : Int) (p : Option Addr) (m c : Nat) (stop : Int) (w : World) (h : ¬ (0 ≤ x ∧ x ≤ 200)) :
    Calls Try.prog 5 #[.int .i64 x, .slice p m c, .int .i64 stop] w fun e w' => e = .returned (.bool true) ∧ Below w.heap.size w w' := by
  have hba := (Below.refl w.heap.size w).alloc (Nat.le_refl _) (.cells #[.int .i64 stop] 3)
  by_cases h0 : x < 0
  · have hd : decide (x < 0) = true := decide_eq_true h0
    clear h h0
    go_enter Try.func5, Try.ntmps5
    go_wp2_with (go_at_call 8; refine (lives_any _).mono ?_; rintro e w1 ⟨rfl, hb⟩)
    go_ret
    exact ⟨rfl, Below.more hba hb hba.size⟩
  · have hd : decide (x < 0) = false := decide_eq_false h0
    have hd2 : decide (x ≤ 200) = false := decide_eq_false (by omega)
    clear h h0
    go_enter Try.func5, Try.ntmps5
    go_wp2_with (first
      | (go_at_call 9; refine (few_any _ _).mono ?_; rintro e w2 ⟨rfl, rfl⟩; rw [hd2])
      | (go_at_call 8; refine (lives_any _).mono ?_; rintro e w1 ⟨rfl, hb⟩))
    go_ret
    exact ⟨rfl, Below.more hba hb hba.size⟩
/-- What stays through the law: the set, the row, the bound that was handed in. -/
structure Gs (w W : World) (g b n : Nat) (p : Option Addr) (f : Nat → Bool) (stop : Int) : Prop where
  sat : Sat W g b n f
  row : Bls W p n f
  stop_ : W.cell? ⟨w.heap.size, 0, none⟩ = some (.int .i64 stop)
  below : Below w.heap.size w W
theorem Gs.le {w W W' : World} {g b n : Nat} {p : Option Addr} {f : Nat → Bool} {stop : Int} (h : Gs w W g b n p f stop) (hl : w.heap.size < W.heap.size) (hb : Below W.heap.size W W') : Gs w W' g b n p f stop :=
  ⟨h.sat.below hb, h.row.below hb, (hb.cell (p := ⟨w.heap.size, 0, none⟩) hl).trans h.stop_, Below.more h.below hb h.below.size⟩
set_option maxRecDepth 100000 in
set_option maxHeartbeats 6400000 in
theorem goes_in (n : Nat) (p : Option Addr) (m c : Nat) (z : Nat → Int) (stop : Int) (w : World) (hn : n ≤ 200) (hm : m ≤ 9223372036854775807) (hZ : Zs w p m z) (hs1 : -9223372036854775808 ≤ stop) (hs2 : stop ≤ 9223372036854775807) :
    Calls Try.prog 5 #[.int .i64 (n : Int), .slice p m c, .int .i64 stop] w fun e w' => e = .returned (.bool true) ∧ Below w.heap.size w w' := by
  have d1 : decide ((n : Int) < 0) = false := decide_eq_false (by omega)
  have d2 : decide ((n : Int) ≤ 200) = true := decide_eq_true (by omega)
  have HN := Lib.hid hn
  have hba := (Below.refl w.heap.size w).alloc (Nat.le_refl _) (.cells #[.int .i64 stop] 3)
  have HM : Hid (∀ w', Below w.heap.size w w' → Calls Try.prog 18 #[.int .i64 (n : Int), .slice p m c] w' fun e w2 => ∃ g b p' c' f, e = .returned (.tuple #[.pointer (some ⟨g, 0, none⟩), .slice p' n c']) ∧ PR w' w2 g b n p' f) := Lib.hid fun w' hb => made_any n p m c z w' hn hm (fun hk => by
    obtain ⟨b, o, e, hlt, hc⟩ := hZ hk
    exact ⟨b, o, e, Nat.lt_of_lt_of_le hlt hb.size, fun r hr => ⟨(hb.cell (p := ⟨b, o + r, none⟩) hlt).trans (hc r hr).1, (hc r hr).2⟩⟩)
  have HBA := Lib.hid hba
  have hst : (w.alloc (.cells #[.int .i64 stop] 3)).cell? ⟨w.heap.size, 0, none⟩ = some (.int .i64 stop) := World.cell?_alloc_new w _ _ 0
  have HST := Lib.hid hst
  clear hn hm hZ hba hst
  have q46 : ∀ (w : World) (caps : Array Value), (binOp .eql 46 (.func (.func 40) #[] caps) .nilFunc).run Try.prog w = .ok (.bool false) w := fun w caps => eql_nil46 w 40 caps
  have q50 : ∀ (w : World) (caps : Array Value), (binOp .eql 50 (.func (.func 41) #[] caps) .nilFunc).run Try.prog w = .ok (.bool false) w := fun w caps => eql_nil50 w 41 caps
  refine (callsIn_wide (n := 5)).1 ?_
  refine callsIn_of_wp_marks Try.func5 rfl trivial ?_ rfl
  simp only [Try.ntmps5, List.size_toArray, List.length_cons, List.length_nil, Nat.reduceAdd, Nat.reduceSub, Array.replicate_succ, Array.replicate_zero, List.push_toArray, List.append_toArray, List.nil_append, List.cons_append]
  gi_wp2_with (first
    | (refine ⟨trivial, ?_⟩; gi_at_call 9; refine (callsIn_wide.2 (few_any _ _)).mono ?_; rintro e w2 ⟨rfl, rfl⟩; rw [d2])
    | (refine ⟨trivial, ?_⟩; gi_at_call 18; refine (callsIn_wide.2 (HM.out _ HBA.out)).mono ?_; rintro e w2 ⟨g, b, p2, c2, f, rfl, hP⟩))
  have hG0 : Gs w w2 g b n p2 f stop := ⟨hP.sat, hP.row, (hP.below.cell (p := ⟨w.heap.size, 0, none⟩) (by simp)).trans HST.out, Below.more HBA.out hP.below HBA.out.size⟩
  have HGL : Hid (w.heap.size < w2.heap.size ∧ g < w2.heap.size ∧ b < w2.heap.size) := Lib.hid ⟨by have := hP.below.size; simp at this; omega, hP.sat.glt, hP.sat.blt⟩
  have HG0 := Lib.hid hG0
  have HSub := Lib.hid hP.sat.sub
  have HAll : Hid (∀ w', Below w2.heap.size w2 w' → Calls Try.prog 19 #[.pointer (some ⟨g, 0, none⟩)] w' fun e w3 => (∃ Bs g' b', e = .returned (.func (.func 40) #[] #[.pointer (some ⟨Bs, 0, none⟩)]) ∧ Told w' w3 Bs g' b' n f) ∧ Below w'.heap.size w' w3) := Lib.hid fun w' hb => all_any (HG0.out.sat.below hb)
  clear hP hG0 HM HBA HST
  refine ⟨trivial, ?_⟩
  refine (callsIn_wide.2 (HAll.out _ ((Below.refl _ _).alloc (Nat.le_refl _) _))).mono ?_
  rintro e w3 ⟨⟨Bs0, g0, b0, rfl, hTo⟩, hb3⟩
  gi_wp2
  have HT3 : Hid (Gs w w3 g b n p2 f stop ∧ w2.heap.size < w3.heap.size) := Lib.hid (by
    have hb : Below w2.heap.size w2 w3 := ((Below.refl w2.heap.size w2).alloc (Nat.le_refl _) (.cells #[.slice none 0 0] 22)).trans (hb3.mono (by simp))
    exact ⟨HG0.out.le HGL.out.1 hb, by have := hb3.size; simp at this; omega⟩)
  have HB23 : Hid (Below w2.heap.size w2 w3) := Lib.hid (((Below.refl w2.heap.size w2).alloc (Nat.le_refl _) (.cells #[.slice none 0 0] 22)).trans (hb3.mono (by simp)))
  have HSZ3 : Hid (w.heap.size ≤ w3.heap.size) := Lib.hid (by have := HGL.out.1; have := HT3.out.2; omega)
  have HBX : Hid (Boxed w3 w2.heap.size 22 (.slice none 0 0)) := Lib.hid ((hb3.block w2.heap.size (by simp)).trans (Boxed.new w2 22 (.slice none 0 0)))
  obtain ⟨t1, t2, t3, t4, t5, t6⟩ := hTo
  have t7 := t6.glt
  have t8 := t6.blt
  have n1 : Bs0 ≠ w2.heap.size := by simp at t1; omega
  have n2 : g0 ≠ w2.heap.size := by simp at t2; omega
  have n3 : b0 ≠ w2.heap.size := by simp at t3; omega
  obtain ⟨i0, hi, hz0, hz1, hz2⟩ := info_parts Try.info3
  clear hb3 t1 t2 t3
  refine wpIn_rangeFunc_ownG rfl (by omega) (gf := 40) (lb := #[.pointer (some ⟨Bs0, 0, none⟩)]) rfl trivial (enters_of Try.func40 (by kernel_rfl) rfl)
    (all_stops 4 (by omega) Bs0 g0 b0 n (n + 1) (by omega) f w3 t4 t5 t6) Three.trans (Three.put t4 t7 t8) (Below.refl _ _) (fun _ => rfl)
    (fun pre W => (∃ v, Boxed W w2.heap.size 22 v ∧ W.ownsRow w3.heap.size 3 1 v pre.length (ivs pre) ∧ True) ∧ OnlyN w3.heap.size w2.heap.size w3 W)
    (fun _ _ _ => False)
    (OwnFrom.and (Own.from (holdsRow_own w3.heap.size w2.heap.size 22 3 1 (fun pre => pre.length) (fun pre => ivs pre) (fun _ _ => True)) _) (ownFrom_onlyN (Nat.le_refl _) (Nat.le_refl _)))
    (fun c => ownFrom_pure _ _)
    ⟨⟨_, HBX.out, World.ownsRow_nil _ _ _ _, trivial⟩, OnlyN.refl _ _ _⟩
    (fun x => { tmps := #[Value.int IntKind.i64 ↑n, Value.slice p m c, Value.int IntKind.i64 stop, undef, undef, Value.pointer (some { block := w.heap.size, off := 0 }), Value.bool false, Value.pointer (some { block := g, off := 0 }), Value.slice p2 n c2, Value.pointer (some { block := w2.heap.size, off := 0 }), Value.func (Fn.func 40) #[] #[Value.pointer (some { block := Bs0, off := 0 })], .int .i64 (x : Int), undef, undef, undef, undef, undef, undef, undef, undef, undef, undef, undef, undef, undef, Value.int IntKind.i64 ↑n, Value.bool false, Value.bool false, Value.int IntKind.i64 ↑n, Value.bool true, Value.bool false, Value.bool false, undef, Value.tuple #[Value.pointer (some { block := g, off := 0 }), Value.slice p2 n c2], Value.int IntKind.i64 ↑n, Value.slice p m c, Value.tuple #[Value.pointer (some { block := g, off := 0 }), Value.slice p2 n c2], Value.pointer (some { block := g, off := 0 }), Value.slice p2 n c2, Value.pointer (some { block := g, off := 0 }), Value.func (Fn.func 40) #[] #[Value.pointer (some { block := Bs0, off := 0 })], Value.func (Fn.func 40) #[] #[Value.pointer (some { block := Bs0, off := 0 })], Value.bool false, Value.func (Fn.func 40) #[] #[Value.pointer (some { block := Bs0, off := 0 })], .int .i64 (x : Int), undef, undef, undef, undef, undef, undef, undef, undef, undef, undef, undef, undef, undef, undef, undef, undef, undef, undef, undef, undef, undef, undef, undef, undef, undef, undef, undef, undef, undef, undef, undef, undef, undef, undef, undef, undef, undef, undef, undef, undef, undef, undef, undef, undef, undef, undef, undef, undef, undef, undef, undef, undef, undef, undef, undef, undef, undef, undef, undef, undef, undef, undef, undef, undef, undef, undef, undef, undef, undef, undef, undef, undef, undef, undef, undef, undef, undef, undef, undef, undef, undef, undef, undef, undef, undef, undef, undef, undef, undef, undef, undef, undef, undef, undef, undef, undef, undef, undef, undef, undef, undef, undef, undef, undef, undef, undef, undef, undef, undef, undef, undef, undef, undef, undef, undef, undef, undef, undef, undef, undef, undef, undef, undef, undef, undef, undef, undef, undef, undef, undef, undef, undef, undef, undef, undef, undef, undef, undef, undef], defers := [] }) ?assign ?body ?done ?stop
  case assign =>
    intro l x W K hK
    gi_wp2
    exact hK
  case body =>
    rintro l pre x W ⟨⟨v, hv, hrow, _⟩, hO⟩ hlen
    have hc := hv.cell
    have hl : pre.length ≤ 201 := by have := HN.out; omega
    have hsz := hO.size
    gi_wp2_with (gi_at_builtin; refine wpListIn_append_own _ rfl _ _ 22 rfl w3.heap.size 3 i0 (.int .i64 0) 1 8 Try.underlying22 hi hz0 hz1 hz2 rfl (by decide) _ _ _ rfl (hrow.alloc _) ⟨W.heap.size, 0, none⟩ 1 1 [.int .i64 (x : Int)] rfl rfl (cell_one_new _ _ _) (by simp [Value.oneCell']) (by unfold maxLen; omega) (by omega) (by simp; omega) ?_; intro v' w1 hown' hgrow _; obtain ⟨gq, cap', rfl⟩ := ownsRow_succ hown'; obtain ⟨hv1, hv2, hr2, hk2, ho2⟩ := appendedN hv (by decide) hrow hsz hown' hgrow; have hc1 := hv1.cell; have hf1 := hv1.frozen)
    exact ⟨hk2.from _, ho2.three t4 t7 t8 n1 n2 n3, ⟨_, hv2, by rw [ivs_snoc, List.length_append]; exact hr2, trivial⟩, hO.trans ho2⟩
  case stop =>
    rintro D cd pre W hD _ hf hK
    exact hf.elim
  case done =>
    rintro D1 ys W hD1 rfl ⟨⟨v, hv, hrow, _⟩, hO⟩ hK1
    have HB2 : Hid (Below w2.heap.size w2 W) := Lib.hid (by
      have hb := HT3.out.2
      exact ⟨hO.os.trans HB23.out.os, hO.tape.trans HB23.out.tape, hO.output.trans HB23.out.output, by have := hO.size; omega, fun k hk => (hO.block k (by omega) (by omega)).trans (HB23.out.block k hk)⟩)
    have HG := Lib.hid (HG0.out.le HGL.out.1 HB2.out)
    have HV := Lib.hid hv
    have HR := Lib.hid hrow
    have HK1 := Lib.hid hK1
    have HL : Hid ((mems f n).length = cnt f n) := Lib.hid (mems_cnt f n)
    rw [HL.out] at HR
    have hc := hv.cell
    have HRuns : Hid (∀ w', Below W.heap.size W w' → Calls Try.prog 20 #[.pointer (some ⟨g, 0, none⟩)] w' fun e w3 => (∃ Bs g' b', e = .returned (.func (.func 41) #[] #[.pointer (some ⟨Bs, 0, none⟩)]) ∧ Told w' w3 Bs g' b' n f) ∧ Below w'.heap.size w' w3) := Lib.hid fun w' hb => runs_any (HG.out.sat.below hb)
    have hnz : (n : Int) ≤ 200 := by have := HN.out; omega
    have HD1 := Lib.hid hD1
    clear t5 t6 t7 t8 t4 n1 n2 n3 q46 hi hz0 hz1 hz2 hv hrow hO hK1 HT3 HBX HAll hD1 HB23
    gi_wp2
    gi_loopw [13, 12] (fun iv av wr => ∃ i : Nat, i ≤ n ∧ iv = .int .i64 (i : Int) ∧ av = .int .i64 (cnt f i : Int) ∧ wr = W) (fun iv _ _ => n - (intOf iv).toNat)
    case atStart => exact ⟨0, by omega, by go_num, rfl, rfl⟩
    case round =>
      obtain ⟨i, hi, rfl, rfl, hwr⟩ := hrel
      replace hwr := hwr.symm
      subst hwr
      by_cases hlt : i < n
      · have hdl : decide ((i : Int) < (n : Int)) = true := decide_eq_true (by omega)
        obtain ⟨br, or_, rfl, hcr⟩ := HG.out.row.at (by omega)
        have hcell := hcr i hlt
        have hiz : (i : Int) ≤ 200 := by omega
        have hcz : (cnt f i : Int) ≤ 200 := by have := cnt_le f i; omega
        have HC : Hid (cnt f (i + 1) = cnt f i + (f i).toNat) := Lib.hid rfl
        have HMN := Lib.hid (cnt_mono (f := f) (show i + 1 ≤ n by omega))
        clear hcr
        cases hf : f i with
        | true =>
          rw [hf] at hcell HC
          obtain ⟨gq, cap, hvq, _, _⟩ := own_some HR.out (by have := HMN.out; have := HC.out; simp at this; omega)
          rw [hvq] at hc
          have hR2 := HR.out
          rw [hvq] at hR2
          have hlt2 : cnt f i < cnt f n := by have := HMN.out; have := HC.out; simp at this; omega
          have hgc := (World.ownsRow.cellAt hR2 (cnt f i) (by omega)).trans (ivs_get (mems_at hlt hf))
          have ha1 : decide ((cnt f n : Int) ≤ (cnt f i : Int)) = false := decide_eq_false (by omega)
          have ha2 : decide (cnt f n ≤ cnt f i) = false := decide_eq_false (by omega)
          have ha3 : ((i : Int) != (i : Int)) = false := by simp
          clear hR2
          generalize cnt f i = k at *
          generalize cnt f n = L at *
          gi_wp2
          go_roundw
          case rel => exact ⟨i + 1, by omega, by go_num, by rw [HC.out]; go_num, trivial⟩
          case measure => simp [intOf]; omega
        | false =>
          rw [hf] at hcell HC
          generalize cnt f i = k at *
          gi_wp2
          go_roundw
          case rel => exact ⟨i + 1, by omega, by go_num, by rw [HC.out]; rfl, trivial⟩
          case measure => simp [intOf]; omega
      · have hdl : decide ((i : Int) < (n : Int)) = false := decide_eq_false (by omega)
        have hdln : decide (i < n) = false := decide_eq_false hlt
        obtain rfl : n = i := by omega
        clear hlt
        gi_wp2_with (refine ⟨trivial, ?_⟩; gi_at_call 20; refine (callsIn_wide.2 (HRuns.out _ ((Below.refl _ _).alloc (Nat.le_refl _) _))).mono ?_; rintro e w5 ⟨⟨Bs, g', b', rfl, hTo⟩, hb5⟩)
        obtain ⟨t1, t2, t3, t4, t5, t6⟩ := hTo
        have t7 := t6.glt
        have t8 := t6.blt
        have n1 : Bs ≠ W.heap.size := by simp at t1; omega
        have n2 : g' ≠ W.heap.size := by simp at t2; omega
        have n3 : b' ≠ W.heap.size := by simp at t3; omega
        have hsz5 : W.heap.size < w5.heap.size := by have := hb5.size; simp at this; omega
        have HB25 : Hid (Below W.heap.size W w5) := Lib.hid (((Below.refl W.heap.size W).alloc (Nat.le_refl _) (.cells #[.slice none 0 0] 48)).trans (hb5.mono (by simp)))
        have HBX2 : Hid (Boxed w5 W.heap.size 48 (.slice none 0 0)) := Lib.hid ((hb5.block W.heap.size (by simp)).trans (Boxed.new W 48 (.slice none 0 0)))
        obtain ⟨i2, hi, hz0, hz1, hz2⟩ := info_parts Try.info52
        clear hb5 t1 t2 t3
        refine wpIn_rangeFunc_ownG rfl (by omega) (gf := 41) (lb := #[.pointer (some ⟨Bs, 0, none⟩)]) rfl trivial (enters_of Try.func41 (by kernel_rfl) rfl)
          (runs_stops 4 (by omega) Bs g' b' n (n + 1) (by omega) f w5 t4 t5 t6) Three.trans (Three.put t4 t7 t8) (Below.refl _ _) (fun _ => rfl)
          (fun pre W' => (∃ v, Boxed W' W.heap.size 48 v ∧ W'.ownsRow w5.heap.size 52 2 v pre.length (rvs pre) ∧ True) ∧ OnlyN w5.heap.size W.heap.size w5 W')
          (fun _ _ _ => False)
          (OwnFrom.and (Own.from (holdsRow_own w5.heap.size W.heap.size 48 52 2 (fun pre => pre.length) (fun pre => rvs pre) (fun _ _ => True)) _) (ownFrom_onlyN (Nat.le_refl _) (Nat.le_refl _)))
          (fun c => ownFrom_pure _ _)
          ⟨⟨_, HBX2.out, World.ownsRow_nil _ _ _ _, trivial⟩, OnlyN.refl _ _ _⟩
          (fun x => { tmps := #[Value.int IntKind.i64 ↑n, Value.slice p m c, Value.int IntKind.i64 stop, undef, undef, Value.pointer (some { block := w.heap.size, off := 0 }), u6, Value.pointer (some { block := g, off := 0 }), Value.slice p2 n c2, Value.pointer (some { block := w2.heap.size, off := 0 }), Value.func (Fn.func 40) #[] #[Value.pointer (some { block := Bs0, off := 0 })], undef, Value.int IntKind.i64 ↑(cnt f n), Value.int IntKind.i64 ↑n, Value.pointer (some { block := W.heap.size, off := 0 }), Value.func (Fn.func 41) #[] #[Value.pointer (some { block := Bs, off := 0 })], .int .i64 (x.1.val : Int), .int .i64 (x.2.val : Int), undef, undef, undef, undef, undef, undef, undef, Value.int IntKind.i64 ↑n, Value.bool false, Value.bool false, Value.int IntKind.i64 ↑n, Value.bool true, Value.bool false, Value.bool false, undef, Value.tuple #[Value.pointer (some { block := g, off := 0 }), Value.slice p2 n c2], Value.int IntKind.i64 ↑n, Value.slice p m c, Value.tuple #[Value.pointer (some { block := g, off := 0 }), Value.slice p2 n c2], Value.pointer (some { block := g, off := 0 }), Value.slice p2 n c2, Value.pointer (some { block := g, off := 0 }), Value.func (Fn.func 40) #[] #[Value.pointer (some { block := Bs0, off := 0 })], Value.func (Fn.func 40) #[] #[Value.pointer (some { block := Bs0, off := 0 })], Value.bool false, Value.func (Fn.func 40) #[] #[Value.pointer (some { block := Bs0, off := 0 })], undef, undef, undef, undef, undef, Value.int IntKind.i64 ↑n, Value.int IntKind.i64 ↑n, Value.bool false, u52, u53, u54, u55, u56, u57, u58, u59, u60, u61, u62, u63, u64, u65, u66, u67, u68, u69, u70, u71, Value.pointer (some { block := g, off := 0 }), Value.func (Fn.func 41) #[] #[Value.pointer (some { block := Bs, off := 0 })], Value.func (Fn.func 41) #[] #[Value.pointer (some { block := Bs, off := 0 })], Value.bool false, Value.func (Fn.func 41) #[] #[Value.pointer (some { block := Bs, off := 0 })], .int .i64 (x.1.val : Int), .int .i64 (x.2.val : Int), undef, undef, undef, undef, undef, undef, undef, undef, undef, undef, undef, undef, undef, undef, undef, undef, undef, undef, undef, undef, undef, undef, undef, undef, undef, undef, undef, undef, undef, undef, undef, undef, undef, undef, undef, undef, undef, undef, undef, undef, undef, undef, undef, undef, undef, undef, undef, undef, undef, undef, undef, undef, undef, undef, undef, undef, undef, undef, undef, undef, undef, undef, undef, undef, undef, undef, undef, undef, undef, undef, undef, undef, undef, undef, undef, undef, undef, undef, undef, undef, undef, undef, undef, undef, undef, undef, undef, undef, undef, undef, undef, undef, undef, undef, undef, undef, undef, undef, undef, undef, undef, undef, undef, undef, undef], defers := [] }) ?assign2 ?body2 ?done2 ?stop2
        case assign2 =>
          intro l x W K hK
          gi_wp2
          exact hK
        case body2 =>
          rintro l pre x W6 ⟨⟨v, hv, hrow, _⟩, hO⟩ hlen
          have hc := hv.cell
          have hl : pre.length ≤ 201 := by have := HN.out; omega
          have hsz := hO.size
          obtain ⟨⟨xa, hxa⟩, ⟨xb, hxb⟩⟩ := x
          gi_wp2_with (gi_at_builtin; refine wpListIn_append_own _ rfl _ _ 48 rfl w5.heap.size 52 i2 (.agg #[.int .i64 0, .int .i64 0]) 2 16 Try.underlying48 hi hz0 hz1 hz2 rfl (by decide) _ _ _ rfl (hrow.alloc _) ⟨W6.heap.size, 0, none⟩ 1 1 [.int .i64 (xa : Int), .int .i64 (xb : Int)] rfl rfl (World.news_of_block (heap_alloc_new _ _)) (by simp [Value.oneCell']) (by unfold maxLen; omega) (by omega) (by simp; omega) ?_; intro v' w1 hown' hgrow _; obtain ⟨gq, cap', hvq⟩ := own_some2 hown'; subst hvq; obtain ⟨hv1, hv2, hr2, hk2, ho2⟩ := appendedN hv (by decide) hrow hsz hown' hgrow; have hc1 := hv1.cell; have hf1 := hv1.frozen)
          exact ⟨hk2.from _, ho2.three t4 t7 t8 n1 n2 n3, ⟨_, hv2, by rw [rvs_snoc, List.length_append]; exact hr2, trivial⟩, hO.trans ho2⟩
        case stop2 =>
          rintro D cd pre W hD _ hf hK
          exact hf.elim
        case done2 =>
          rintro D2 ys W4 hD2 rfl ⟨⟨v2, hv2, hrow2, _⟩, hO⟩ hK2
          have HB4 : Hid (Below W.heap.size W W4) := Lib.hid ⟨hO.os.trans HB25.out.os, hO.tape.trans HB25.out.tape, hO.output.trans HB25.out.output, by have := hO.size; omega, fun k hk => (hO.block k (by omega) (by omega)).trans (HB25.out.block k hk)⟩
          have HSZ5 := Lib.hid hsz5
          have HV2 := Lib.hid hv2
          have HR2 := Lib.hid hrow2
          have HK2 := Lib.hid hK2
          have HD2 := Lib.hid hD2
          have HG4 := Lib.hid (HG.out.le (Nat.lt_of_lt_of_le HGL.out.1 HB2.out.size) HB4.out)
          have HGD : Hid (Good f n (-1) (runs f n)) := Lib.hid (good_runs HSub.out (by have := HN.out; omega) (n + 1) 0 (-1) (.inl (by omega)))
          have HLN : Hid ((runs f n).length ≤ n) := Lib.hid (runsF_len HSub.out (n + 1) 0 (Nat.zero_le _))
          have HTT : Hid (total (runs f n) = cnt f n) := Lib.hid (by have := runs_total HSub.out (by have := HN.out; omega) (n + 1) 0 (by omega) (by omega); rw [← this]; show _ = 0 + _; rw [Nat.zero_add]; rfl)
          have HT0 : Hid (total ([] : List Run) = 0) := Lib.hid rfl
          have hcb := hv2.cell
          clear hv2 hrow2 hK2 hD2 hO t4 t5 t6 t7 t8 n1 n2 n3 hi hz0 hz1 hz2 HB25 HBX2 hsz5 q50 HRuns
          generalize hRL : runs f n = RL at *
          generalize hL2 : RL.length = L2 at *
          gi_wp2
          gi_loopw [20, 18, 19, 21] (fun iv cv ev _ wr => ∃ (i : Nat) (e : Int), i ≤ L2 ∧ -1 ≤ e ∧ e ≤ 200 ∧ iv = .int .i64 (i : Int) ∧ cv = .int .i64 (total (RL.take i) : Int) ∧ ev = .int .i64 e ∧ Hid (Good f n e (RL.drop i)) ∧ Below W4.heap.size W4 wr) (fun iv _ _ _ _ => L2 - (intOf iv).toNat)
          case atStart => exact ⟨0, -1, by omega, by omega, by omega, by go_num, by rw [List.take_zero, HT0.out]; rfl, rfl, by rw [List.drop_zero]; exact HGD, Below.refl _ _⟩
          case round =>
            obtain ⟨i, e, hi, he1, he2, rfl, rfl, rfl, HGo, hbw⟩ := hrel
            have HBW := Lib.hid hbw
            have hcb2 := (hbw.cell (p := ⟨W.heap.size, 0, none⟩) (by have := HV2.out.lt; exact this)).trans hcb
            have hiz : (i : Int) ≤ 200 := by have := HLN.out; omega
            clear hbw
            by_cases hlt : i < L2
            · have hdl : decide ((i : Int) < (L2 : Int)) = true := decide_eq_true (by omega)
              have hdln : decide (i < L2) = true := decide_eq_true hlt
              obtain ⟨x, hx⟩ : ∃ x, RL[i]? = some x := ⟨RL[i]'(by omega), List.getElem?_eq_getElem _⟩
              have hdrop : RL.drop i = x :: RL.drop (i + 1) := by
                rw [List.drop_eq_getElem_cons (by omega)]
                rw [List.getElem?_eq_getElem (by omega)] at hx
                rw [Option.some.inj hx]
              have htake : total (RL.take (i + 1)) = total (RL.take i) + x.2.val := by
                rw [List.take_add_one, hx]; exact total_snoc _ _
              have hGo := HGo.out
              rw [hdrop] at hGo
              obtain ⟨o1, o2, o3, o4, o5, o6⟩ := hGo
              have hxc := rvs_get hx
              obtain ⟨gr, cap2, hvq⟩ : ∃ gr cap2, v2 = .slice (some ⟨gr, 0, none⟩) L2 cap2 := by
                rcases HR2.out.2 with ⟨h0, h1⟩ | ⟨gr, cap, cur, e, _⟩
                · omega
                · exact ⟨_, _, e⟩
              have hrow := HR2.out
              rw [hvq] at hrow hcb2
              have hca := (World.ownsRow.cellAt hrow (i * 2) (by omega)).trans hxc.1
              have hcc := (World.ownsRow.cellAt hrow (i * 2 + 1) (by omega)).trans hxc.2
              have hgl := World.block_lt_of_cell? _ _ hca
              have HCA : Hid (∀ w', Below W4.heap.size W4 w' → w'.cell? ⟨gr, i * 2, none⟩ = some (.int .i64 (x.1.val : Int))) := Lib.hid fun w' hb => (hb.cell (p := ⟨gr, i * 2, none⟩) hgl).trans hca
              have HCC : Hid (∀ w', Below W4.heap.size W4 w' → w'.cell? ⟨gr, i * 2 + 1, none⟩ = some (.int .i64 (x.2.val : Int))) := Lib.hid fun w' hb => (hb.cell (p := ⟨gr, i * 2 + 1, none⟩) hgl).trans hcc
              have HCB : Hid (∀ w', Below W4.heap.size W4 w' → w'.cell? ⟨W.heap.size, 0, none⟩ = some (.slice (some ⟨gr, 0, none⟩) L2 cap2)) := Lib.hid fun w' hb => by
                rw [← hvq]; exact (hb.cell (p := ⟨W.heap.size, 0, none⟩) HV2.out.lt).trans hcb
              have HO3 := Lib.hid o3
              have HO4 := Lib.hid o4
              have HO6 := Lib.hid o6
              have HO5 := Lib.hid o5
              have HTK := Lib.hid htake
              have htz : (total (RL.take i) : Int) ≤ 1000000 := by have h1 := total_le (RL.take i); rw [List.length_take] at h1; have := HLN.out; have := HN.out; omega
              have ca := HCA.out wr HBW.out
              have cc := HCC.out wr HBW.out
              have hx1 : (x.1.val : Int) ≤ 200 := by have := HN.out; omega
              have hx2 : (x.2.val : Int) ≤ 200 := by have := HN.out; omega
              have hx3 : (1 : Int) ≤ (x.2.val : Int) := by omega
              have hda : decide ((x.1.val : Int) ≤ e) = false := decide_eq_false (by omega)
              have hdb : decide ((x.2.val : Int) < 1) = false := decide_eq_false (by omega)
              have hdb2 : decide (x.2.val < 1) = false := decide_eq_false (by omega)
              have HHas : Hid (∀ w' (y : Int), Below W4.heap.size W4 w' → Calls Try.prog 21 #[.pointer (some ⟨g, 0, none⟩), .int .i64 y] w' fun e w3 => e = .returned (.bool (hasI f y)) ∧ Below w'.heap.size w' w3) := Lib.hid fun w' y hb => has_any (HG4.out.sat.below hb) y
              clear hdrop htake hxc hrow hca hcc hgl o1 o2 o3 o4 o5 o6 hx
              generalize total (RL.take i) = tk at *
              generalize x.1.val = xa at *
              generalize x.2.val = xb at *
              gi_wp2
              gi_loopw [21] (fun kv wr2 => ∃ k : Nat, k ≤ xb ∧ kv = .int .i64 (k : Int) ∧ Below W4.heap.size W4 wr2) (fun kv _ => xb - (intOf kv).toNat)
              case atStart => exact ⟨0, by omega, by go_num, HBW.out⟩
              case round =>
                obtain ⟨k, hk, rfl, hbw2⟩ := hrel
                have HBW2 := Lib.hid hbw2
                rename_i wr2 _
                clear hcb2 ca cc
                have hcb3 := HCB.out _ hbw2
                have ca := HCA.out _ hbw2
                have cc := HCC.out _ hbw2
                clear hbw2
                by_cases hkx : k < xb
                · have hdk : decide ((k : Int) < (xb : Int)) = true := decide_eq_true (by omega)
                  have hdkn : decide (k < xb) = true := decide_eq_true hkx
                  have hkz : (k : Int) ≤ 200 := by omega
                  have HH := Lib.hid (HHas.out _ ((xa : Int) + (k : Int)) HBW2.out)
                  have hv : hasI f ((xa : Int) + (k : Int)) = true := by
                    have h := hasI_nat f (xa + k)
                    rw [Int.natCast_add] at h
                    rw [h]; exact HO3.out k hkx
                  rw [hv] at HH
                  clear hv
                  gi_wp2_with (refine ⟨trivial, ?_⟩; gi_at_call 21; refine (callsIn_wide.2 HH.out).mono ?_; rintro e2 w7 ⟨rfl, hb7⟩)
                  go_roundw
                  case rel => exact ⟨k + 1, by omega, by go_num, Below.more HBW2.out hb7 HBW2.out.size⟩
                  case measure => simp [intOf]; omega
                · obtain rfl : xb = k := by omega
                  have hdk : decide ((xb : Int) < (xb : Int)) = false := decide_eq_false (by omega)
                  gi_wp2
                  gi_big_quiet_th (fail)
                  have HQB := Lib.hid (below_drewN HBW2.out nq)
                  have HH := Lib.hid (HHas.out _ ((xa : Int) + (xb : Int)) HQB.out)
                  have hv : hasI f ((xa : Int) + (xb : Int)) = false := by
                    have h := hasI_nat f (xa + xb)
                    rw [Int.natCast_add] at h
                    rw [h]; exact HO4.out
                  rw [hv] at HH
                  clear hv
                  gi_wp2_with (refine ⟨trivial, ?_⟩; gi_at_call 21; refine (callsIn_wide.2 HH.out).mono ?_; rintro e2 w7 ⟨rfl, hb7⟩)
                  go_roundw
                  case rel => exact ⟨i + 1, (xa : Int) + (xb : Int), by omega, by omega, by have := HO5.out; have := HN.out; omega, by go_num, by rw [HTK.out]; simp, rfl, by have h := HO6.out; rw [Int.natCast_add] at h; exact Lib.hid h, Below.more HQB.out hb7 HQB.out.size⟩
                  case measure => simp [intOf]; omega
            · have hdl : decide ((i : Int) < (L2 : Int)) = false := decide_eq_false (by omega)
              have hdln : decide (i < L2) = false := decide_eq_false hlt
              have hil : i = L2 := by omega
              have HTE : Hid (total (RL.take i) = cnt f n) := Lib.hid (by rw [hil, ← hL2, List.take_length]; exact HTT.out)
              rw [HTE.out]
              have q46 : ∀ (w : World) (caps : Array Value), (binOp .eql 46 (.func (.func 40) #[] caps) .nilFunc).run Try.prog w = .ok (.bool false) w := fun w caps => eql_nil46 w 40 caps
              obtain ⟨pv, cv, hvq⟩ : ∃ pv cv, v2 = .slice pv L2 cv := by
                rcases HR2.out.2 with ⟨h0, h1⟩ | ⟨gr, cap, cur, e, _⟩
                · exact ⟨none, 0, by rw [h0, h1]⟩
                · exact ⟨_, _, e⟩
              rw [hvq] at hcb2
              have HG5 := Lib.hid (HG4.out.le (Nat.lt_of_lt_of_le (Nat.lt_of_lt_of_le HGL.out.1 HB2.out.size) HB4.out.size) HBW.out)
              have HAll5 : Hid (∀ w', Below wr.heap.size wr w' → Calls Try.prog 19 #[.pointer (some ⟨g, 0, none⟩)] w' fun e w3 => (∃ Bs g' b', e = .returned (.func (.func 40) #[] #[.pointer (some ⟨Bs, 0, none⟩)]) ∧ Told w' w3 Bs g' b' n f) ∧ Below w'.heap.size w' w3) := Lib.hid fun w' hb => all_any (HG5.out.sat.below hb)
              gi_wp2_with (refine ⟨trivial, ?_⟩; gi_at_call 19; refine (callsIn_wide.2 (HAll5.out _ ((Below.refl _ _).alloc (Nat.le_refl _) _))).mono ?_; rintro e2 w8 ⟨⟨Bs3, g3, b3, rfl, hTo⟩, hb8⟩)
              obtain ⟨t1, t2, t3, t4, t5, t6⟩ := hTo
              have t7 := t6.glt
              have t8 := t6.blt
              have n1 : Bs3 ≠ wr.heap.size := by simp at t1; omega
              have n2 : g3 ≠ wr.heap.size := by simp at t2; omega
              have n3 : b3 ≠ wr.heap.size := by simp at t3; omega
              have HSZ8 : Hid (wr.heap.size < w8.heap.size) := Lib.hid (by have := hb8.size; simp at this; omega)
              have HB58 : Hid (Below wr.heap.size wr w8) := Lib.hid (((Below.refl wr.heap.size wr).alloc (Nat.le_refl _) (.cells #[.int .i64 0] 3)).trans (hb8.mono (by simp)))
              have HSZW : Hid (w.heap.size ≤ W.heap.size ∧ W.heap.size ≤ wr.heap.size ∧ w.heap.size ≤ w8.heap.size) := Lib.hid (by have := HGL.out.1; have := HB2.out.size; have := HB4.out.size; have := HBW.out.size; have := HSZ8.out; omega)
              have hbx0 : Bx w8 wr.heap.size 0 := ⟨(hb8.cell (p := ⟨wr.heap.size, 0, none⟩) (by simp)).trans (World.cell?_alloc_new wr _ _ 0), (World.frozen?_of_block (hb8.block wr.heap.size (by simp))).trans (free_of_one (heap_alloc_new wr _))⟩
              have HST8 := Lib.hid (HG5.out.le (Nat.lt_of_lt_of_le (Nat.lt_of_lt_of_le (Nat.lt_of_lt_of_le HGL.out.1 HB2.out.size) HB4.out.size) HBW.out.size) HB58.out)
              have hws : w.heap.size ≠ wr.heap.size := by have := HGL.out.1; have := HB2.out.size; have := HSZW.out; omega
              clear hb8 t1 t2 t3 hcb2 HGo HTE hcb HGD HAll5
              refine wpIn_rangeFunc_ownG rfl (by omega) (gf := 40) (lb := #[.pointer (some ⟨Bs3, 0, none⟩)]) rfl trivial (enters_of Try.func40 (by kernel_rfl) rfl)
                (all_stops 4 (by omega) Bs3 g3 b3 n (n + 1) (by omega) f w8 t4 t5 t6) Three.trans (Three.put t4 t7 t8) (Below.refl _ _) (fun _ => rfl)
                (fun (pre : List Nat) W' => (Bx W' wr.heap.size (pre.length : Int) ∧ OnlyN w8.heap.size wr.heap.size w8 W') ∧ (∀ j : Nat, 1 ≤ j → j ≤ pre.length → (j : Int) ≠ stop))
                (fun cd (pre : List Nat) W' => (Bx W' wr.heap.size (pre.length : Int) ∧ OnlyN w8.heap.size wr.heap.size w8 W') ∧ (cd = .exit 10 ∧ (pre.length : Int) = stop ∧ 1 ≤ pre.length))
                (OwnFrom.and (OwnFrom.and (Own.from (bx_own (fun (pre : List Nat) => (pre.length : Int))) _) (ownFrom_onlyN (Nat.le_refl _) (Nat.le_refl _))) (ownFrom_pure _ _))
                (fun c => OwnFrom.and (OwnFrom.and (Own.from (bx_own (fun (pre : List Nat) => (pre.length : Int))) _) (ownFrom_onlyN (Nat.le_refl _) (Nat.le_refl _))) (ownFrom_pure _ (fun (pre : List Nat) => c = .exit 10 ∧ (pre.length : Int) = stop ∧ 1 ≤ pre.length)))
                ⟨⟨hbx0, OnlyN.refl _ _ _⟩, fun j h1 h2 => by simp at h2; omega⟩
                (fun x => { tmps := #[Value.int IntKind.i64 ↑n, Value.slice p m c, Value.int IntKind.i64 stop, undef, undef, Value.pointer (some { block := w.heap.size, off := 0 }), u6, Value.pointer (some { block := g, off := 0 }), Value.slice p2 n c2, Value.pointer (some { block := w2.heap.size, off := 0 }), Value.func (Fn.func 40) #[] #[Value.pointer (some { block := Bs0, off := 0 })], undef, Value.int IntKind.i64 ↑(cnt f n), Value.int IntKind.i64 ↑n, Value.pointer (some { block := W.heap.size, off := 0 }), Value.func (Fn.func 41) #[] #[Value.pointer (some { block := Bs, off := 0 })], undef, undef, Value.int IntKind.i64 ↑(cnt f n), Value.int IntKind.i64 e, Value.int IntKind.i64 ↑L2, u21, Value.pointer (some { block := wr.heap.size, off := 0 }), Value.func (Fn.func 40) #[] #[Value.pointer (some { block := Bs3, off := 0 })], undef, Value.int IntKind.i64 ↑n, Value.bool false, Value.bool false, Value.int IntKind.i64 ↑n, Value.bool true, Value.bool false, Value.bool false, undef, Value.tuple #[Value.pointer (some { block := g, off := 0 }), Value.slice p2 n c2], Value.int IntKind.i64 ↑n, Value.slice p m c, Value.tuple #[Value.pointer (some { block := g, off := 0 }), Value.slice p2 n c2], Value.pointer (some { block := g, off := 0 }), Value.slice p2 n c2, Value.pointer (some { block := g, off := 0 }), Value.func (Fn.func 40) #[] #[Value.pointer (some { block := Bs0, off := 0 })], Value.func (Fn.func 40) #[] #[Value.pointer (some { block := Bs0, off := 0 })], Value.bool false, Value.func (Fn.func 40) #[] #[Value.pointer (some { block := Bs0, off := 0 })], undef, undef, undef, undef, undef, Value.int IntKind.i64 ↑n, Value.int IntKind.i64 ↑n, Value.bool false, u52, u53, u54, u55, u56, u57, u58, u59, u60, u61, u62, u63, u64, u65, u66, u67, u68, u69, u70, u71, Value.pointer (some { block := g, off := 0 }), Value.func (Fn.func 41) #[] #[Value.pointer (some { block := Bs, off := 0 })], Value.func (Fn.func 41) #[] #[Value.pointer (some { block := Bs, off := 0 })], Value.bool false, Value.func (Fn.func 41) #[] #[Value.pointer (some { block := Bs, off := 0 })], undef, undef, undef, undef, undef, undef, undef, undef, Value.int IntKind.i64 ↑L2, Value.slice pv L2 cv, Value.int IntKind.i64 ↑L2, Value.bool false, u89, u90, u91, u92, u93, u94, u95, u96, u97, u98, u99, u100, u101, u102, u103, u104, u105, u106, u107, u108, u109, u110, u111, u112, u113, u114, u115, u116, u117, u118, u119, u120, u121, u122, u123, u124, u125, u126, u127, u128, u129, u130, u131, u132, u133, u134, u135, u136, u137, u138, u139, u140, u141, u142, u143, u144, u145, Value.pointer (some { block := g, off := 0 }), Value.func (Fn.func 40) #[] #[Value.pointer (some { block := Bs3, off := 0 })], Value.func (Fn.func 40) #[] #[Value.pointer (some { block := Bs3, off := 0 })], Value.bool false, Value.func (Fn.func 40) #[] #[Value.pointer (some { block := Bs3, off := 0 })], .int .i64 (x : Int), undef, undef, undef, undef, undef, undef, undef, undef, undef, undef, undef, undef, undef, undef, undef, undef, undef, undef, undef, undef, undef, undef, undef, undef, undef, undef, undef, undef, undef, undef, undef, undef], defers := [] }) ?assign3 ?body3 ?done3 ?stop3
              case assign3 =>
                intro l x W K hK
                gi_wp2
                exact hK
              case body3 =>
                rintro l pre x W6 ⟨⟨hbx, hO⟩, hpure⟩ hlen
                have hc6 := hbx.cell
                have hf6 := hbx.fz
                have hs6 : W6.cell? ⟨w.heap.size, 0, none⟩ = some (.int .i64 stop) := (World.cell?_of_block (w := w8) (hO.block w.heap.size (by have := HSZ8.out; have := HSZW.out; omega) hws)).trans HST8.out.stop_
                have hl : (pre.length : Int) ≤ 201 := by have := HN.out; omega
                have HL6 : Hid ((pre ++ [x]).length = pre.length + 1) := Lib.hid (by rw [List.length_append]; rfl)
                have HP6 := Lib.hid hpure
                have HO6 := Lib.hid hO
                clear hbx hO hpure hlen
                generalize hpl : pre.length = q at *
                have hsame : (W6.setCell ⟨wr.heap.size, 0, none⟩ (.int .i64 ((q : Int) + 1))).cell? ⟨wr.heap.size, 0, none⟩ = some (.int .i64 ((q : Int) + 1)) := World.cell?_setCell_same' _ _ _ (by rw [hc6]; rfl)
                have hoth : (W6.setCell ⟨wr.heap.size, 0, none⟩ (.int .i64 ((q : Int) + 1))).cell? ⟨w.heap.size, 0, none⟩ = some (.int .i64 stop) := (World.cell?_setCell_far _ _ _ _ (by show wr.heap.size ≠ w.heap.size; omega)).trans hs6
                have hfrz : (W6.setCell ⟨wr.heap.size, 0, none⟩ (.int .i64 ((q : Int) + 1))).frozen? ⟨wr.heap.size, 0, none⟩ = false := by rw [World.frozen?_setCell]; exact hf6
                have HON := Lib.hid (HO6.out.trans (OnlyN.setCell w8.heap.size wr.heap.size 0 (.int .i64 ((q : Int) + 1)) W6))
                have HTH := Lib.hid ((OnlyN.setCell w8.heap.size wr.heap.size 0 (.int .i64 ((q : Int) + 1)) W6).three t4 t7 t8 n1 n2 n3)
                by_cases hq : (q : Int) + 1 = stop
                · have hd : ((q : Int) + 1 == stop) = true := by simpa using hq
                  have HQ := Lib.hid hq
                  clear hq
                  gi_wp2
                  exact ⟨(KeepsOthers.setCell _ _ _).from _, ⟨⟨by rw [HL6.out]; exact hsame, hfrz⟩, HON.out⟩, rfl, by have := HQ.out; rw [HL6.out]; omega, by rw [HL6.out]; omega⟩
                · have hd : ((q : Int) + 1 == stop) = false := by simpa using hq
                  gi_wp2
                  exact ⟨(KeepsOthers.setCell _ _ _).from _, HTH.out, ⟨⟨by rw [HL6.out]; exact hsame, hfrz⟩, HON.out⟩, fun j h1 h2 => by
                    rw [HL6.out] at h2
                    by_cases hj : j = q + 1
                    · rw [hj]; exact hq
                    · exact HP6.out j h1 (by omega)⟩
              case done3 =>
                rintro D3 ys W7 hD3 rfl ⟨⟨hbx, hO⟩, hpure⟩ hK3
                rw [HL.out] at hbx hpure
                have HB7 : Hid (Below wr.heap.size wr W7) := Lib.hid ⟨hO.os.trans HB58.out.os, hO.tape.trans HB58.out.tape, hO.output.trans HB58.out.output, by have := hO.size; have := HB58.out.size; omega, fun k hk => (hO.block k (by have := HB58.out.size; have := HSZ8.out; omega) (by omega)).trans (HB58.out.block k hk)⟩
                have HB47 : Hid (Below W.heap.size W W7) := Lib.hid (Below.more (Below.more HB4.out HBW.out HB4.out.size) HB7.out (Nat.le_trans HB4.out.size HBW.out.size))
                have HG7 := Lib.hid (HG.out.le (Nat.lt_of_lt_of_le HGL.out.1 HB2.out.size) HB47.out)
                have hst7 := HG7.out.stop_
                have hgot := (HB47.out.block w2.heap.size HV.out.lt).trans HV.out
                have hgc := Boxed.cell hgot
                obtain ⟨pg, cg, hvg⟩ : ∃ pg cg, v = .slice pg (cnt f n) cg := by
                  rcases HR.out.2 with ⟨h0, h1⟩ | ⟨gr, cap, cur, e, _⟩
                  · exact ⟨none, 0, by rw [h0, h1]⟩
                  · exact ⟨_, _, e⟩
                rw [hvg] at hgc
                have hsc := hbx.cell
                have HK1' := Lib.hid ((HB47.out.block D1 (block_lt HK1.out)).trans HK1.out)
                have HK2' := Lib.hid (((Below.more HBW.out HB7.out HBW.out.size).block D2 (block_lt HK2.out)).trans HK2.out)
                have HK3' := Lib.hid hK3
                have HD3' := Lib.hid hD3
                have hcz : (cnt f n : Int) ≤ 200 := by have := cnt_le f n; omega
                have hee : ((cnt f n : Int) == (cnt f n : Int)) = true := by simp
                clear hbx hO hK3 hD3 t4 t5 t6 t7 t8 n1 n2 n3 hbx0 hc
                by_cases h1s : (1 : Int) ≤ stop
                · have hds : decide ((1 : Int) ≤ stop) = true := decide_eq_true h1s
                  have hdt : decide (stop < (cnt f n : Int)) = false := decide_eq_false (fun h => hpure stop.toNat (by omega) (by omega) (by omega))
                  clear hpure
                  generalize cnt f n = L at *
                  gi_wp2_with (refine ⟨trivial, ?_⟩; gi_at_call 8; refine (callsIn_wide.2 (lives_any _)).mono ?_; rintro e2 w9 ⟨rfl, hb9⟩)
                  have HB9 := Lib.hid hb9
                  have k3 := (HB9.out.block D3 (block_lt HK3'.out)).trans HK3'.out
                  have k2 := (HB9.out.block D2 (block_lt HK2'.out)).trans HK2'.out
                  have k1 := (HB9.out.block D1 (block_lt HK1'.out)).trans HK1'.out
                  have p3 : Below w8.heap.size w9 (w9.putObj D3 (.deferred none)) := belowK_b (w := w8) (Nat.le_refl _) w9 D3 _ _ HD3'.out k3 rfl rfl
                  have l2 : D2 < w8.heap.size := by have := block_lt HK2.out; have := HBW.out.size; have := HSZ8.out; omega
                  have l1 : D1 < w5.heap.size := by have := block_lt HK1.out; have := HSZ5.out; omega
                  have l18 : D1 < w8.heap.size := by have := block_lt HK1.out; have := HB4.out.size; have := HBW.out.size; have := HSZ8.out; omega
                  have k2b := (p3.block D2 l2).trans k2
                  have k1b := (p3.block D1 l18).trans k1
                  have p2b : Below w5.heap.size (w9.putObj D3 (.deferred none)) ((w9.putObj D3 (.deferred none)).putObj D2 (.deferred none)) := belowK_b (w := w5) (Nat.le_refl _) _ D2 _ _ HD2.out k2b rfl rfl
                  have k1c := (p2b.block D1 l1).trans k1b
                  have p1b : Below w3.heap.size ((w9.putObj D3 (.deferred none)).putObj D2 (.deferred none)) (((w9.putObj D3 (.deferred none)).putObj D2 (.deferred none)).putObj D1 (.deferred none)) := belowK_b (w := w3) (Nat.le_refl _) _ D1 _ _ HD1.out k1c rfl rfl
                  have hw9 : Below w.heap.size w w9 := Below.more HG7.out.below HB9.out HG7.out.below.size
                  have hfin : Below w.heap.size w (((w9.putObj D3 (.deferred none)).putObj D2 (.deferred none)).putObj D1 (.deferred none)) :=
                    ((hw9.trans (p3.mono (by have := HSZ3.out; have := HGL.out; have := hw9.size; have := HSZW.out; omega))).trans (p2b.mono (by have := HSZ5.out; have := HSZW.out; omega))).trans (p1b.mono HSZ3.out)
                  refine ⟨by simp, .inl ⟨_, _, rfl, run_takeDeferred k3, ?_⟩⟩
                  refine ⟨by simp, .inl ⟨_, _, rfl, run_takeDeferred k2b, ?_⟩⟩
                  refine ⟨by simp, .inl ⟨_, _, rfl, run_takeDeferred k1c, ?_⟩⟩
                  refine ⟨.bool true, ?_, rfl, hfin⟩
                  simp [results, Try.f5, go_sem]
                · have hds : decide ((1 : Int) ≤ stop) = false := decide_eq_false h1s
                  clear hpure
                  generalize cnt f n = L at *
                  gi_wp2_with (refine ⟨trivial, ?_⟩; gi_at_call 8; refine (callsIn_wide.2 (lives_any _)).mono ?_; rintro e2 w9 ⟨rfl, hb9⟩)
                  have HB9 := Lib.hid hb9
                  have k3 := (HB9.out.block D3 (block_lt HK3'.out)).trans HK3'.out
                  have k2 := (HB9.out.block D2 (block_lt HK2'.out)).trans HK2'.out
                  have k1 := (HB9.out.block D1 (block_lt HK1'.out)).trans HK1'.out
                  have p3 : Below w8.heap.size w9 (w9.putObj D3 (.deferred none)) := belowK_b (w := w8) (Nat.le_refl _) w9 D3 _ _ HD3'.out k3 rfl rfl
                  have l2 : D2 < w8.heap.size := by have := block_lt HK2.out; have := HBW.out.size; have := HSZ8.out; omega
                  have l1 : D1 < w5.heap.size := by have := block_lt HK1.out; have := HSZ5.out; omega
                  have l18 : D1 < w8.heap.size := by have := block_lt HK1.out; have := HB4.out.size; have := HBW.out.size; have := HSZ8.out; omega
                  have k2b := (p3.block D2 l2).trans k2
                  have k1b := (p3.block D1 l18).trans k1
                  have p2b : Below w5.heap.size (w9.putObj D3 (.deferred none)) ((w9.putObj D3 (.deferred none)).putObj D2 (.deferred none)) := belowK_b (w := w5) (Nat.le_refl _) _ D2 _ _ HD2.out k2b rfl rfl
                  have k1c := (p2b.block D1 l1).trans k1b
                  have p1b : Below w3.heap.size ((w9.putObj D3 (.deferred none)).putObj D2 (.deferred none)) (((w9.putObj D3 (.deferred none)).putObj D2 (.deferred none)).putObj D1 (.deferred none)) := belowK_b (w := w3) (Nat.le_refl _) _ D1 _ _ HD1.out k1c rfl rfl
                  have hw9 : Below w.heap.size w w9 := Below.more HG7.out.below HB9.out HG7.out.below.size
                  have hfin : Below w.heap.size w (((w9.putObj D3 (.deferred none)).putObj D2 (.deferred none)).putObj D1 (.deferred none)) :=
                    ((hw9.trans (p3.mono (by have := HSZ3.out; have := HGL.out; have := hw9.size; have := HSZW.out; omega))).trans (p2b.mono (by have := HSZ5.out; have := HSZW.out; omega))).trans (p1b.mono HSZ3.out)
                  refine ⟨by simp, .inl ⟨_, _, rfl, run_takeDeferred k3, ?_⟩⟩
                  refine ⟨by simp, .inl ⟨_, _, rfl, run_takeDeferred k2b, ?_⟩⟩
                  refine ⟨by simp, .inl ⟨_, _, rfl, run_takeDeferred k1c, ?_⟩⟩
                  refine ⟨.bool true, ?_, rfl, hfin⟩
                  simp [results, Try.f5, go_sem]
              case stop3 =>
                rintro D3 cd pre W7 hD3 ⟨j, hj, hpre⟩ ⟨⟨hbx, hO⟩, hcd, hps, hp1⟩ hK3
                subst hcd
                have hpl : pre.length ≤ cnt f n := by rw [hpre, mems_cnt]; exact cnt_mono hj
                rw [hps] at hbx
                have HB7 : Hid (Below wr.heap.size wr W7) := Lib.hid ⟨hO.os.trans HB58.out.os, hO.tape.trans HB58.out.tape, hO.output.trans HB58.out.output, by have := hO.size; have := HB58.out.size; omega, fun k hk => (hO.block k (by have := HB58.out.size; have := HSZ8.out; omega) (by omega)).trans (HB58.out.block k hk)⟩
                have HB47 : Hid (Below W.heap.size W W7) := Lib.hid (Below.more (Below.more HB4.out HBW.out HB4.out.size) HB7.out (Nat.le_trans HB4.out.size HBW.out.size))
                have HG7 := Lib.hid (HG.out.le (Nat.lt_of_lt_of_le HGL.out.1 HB2.out.size) HB47.out)
                have hst7 := HG7.out.stop_
                have hgot := (HB47.out.block w2.heap.size HV.out.lt).trans HV.out
                have hgc := Boxed.cell hgot
                obtain ⟨pg, cg, hvg⟩ : ∃ pg cg, v = .slice pg (cnt f n) cg := by
                  rcases HR.out.2 with ⟨h0, h1⟩ | ⟨gr, cap, cur, e, _⟩
                  · exact ⟨none, 0, by rw [h0, h1]⟩
                  · exact ⟨_, _, e⟩
                rw [hvg] at hgc
                have hsc := hbx.cell
                have HK1' := Lib.hid ((HB47.out.block D1 (block_lt HK1.out)).trans HK1.out)
                have HK2' := Lib.hid (((Below.more HBW.out HB7.out HBW.out.size).block D2 (block_lt HK2.out)).trans HK2.out)
                have HK3' := Lib.hid hK3
                have HD3' := Lib.hid hD3
                have hcz : (cnt f n : Int) ≤ 200 := by have := cnt_le f n; omega
                have hee : ((cnt f n : Int) == (cnt f n : Int)) = true := by simp
                have hds : decide ((1 : Int) ≤ stop) = true := decide_eq_true (by omega)
                have hss : (stop == stop) = true := by simp
                have hle : stop ≤ (cnt f n : Int) := by omega
                clear hbx hO hK3 hD3 t4 t5 t6 t7 t8 n1 n2 n3 hbx0 hc hpl hps hp1 hpre hj
                generalize cnt f n = L at *
                by_cases hlt2 : stop < (L : Int)
                · have hdt : decide (stop < (L : Int)) = true := decide_eq_true hlt2
                  gi_wp2_with (refine ⟨trivial, ?_⟩; gi_at_call 8; refine (callsIn_wide.2 (lives_any _)).mono ?_; rintro e2 w9 ⟨rfl, hb9⟩)
                  have HB9 := Lib.hid hb9
                  have k3 := (HB9.out.block D3 (block_lt HK3'.out)).trans HK3'.out
                  have k2 := (HB9.out.block D2 (block_lt HK2'.out)).trans HK2'.out
                  have k1 := (HB9.out.block D1 (block_lt HK1'.out)).trans HK1'.out
                  have p3 : Below w8.heap.size w9 (w9.putObj D3 (.deferred none)) := belowK_b (w := w8) (Nat.le_refl _) w9 D3 _ _ HD3'.out k3 rfl rfl
                  have l2 : D2 < w8.heap.size := by have := block_lt HK2.out; have := HBW.out.size; have := HSZ8.out; omega
                  have l1 : D1 < w5.heap.size := by have := block_lt HK1.out; have := HSZ5.out; omega
                  have l18 : D1 < w8.heap.size := by have := block_lt HK1.out; have := HB4.out.size; have := HBW.out.size; have := HSZ8.out; omega
                  have k2b := (p3.block D2 l2).trans k2
                  have k1b := (p3.block D1 l18).trans k1
                  have p2b : Below w5.heap.size (w9.putObj D3 (.deferred none)) ((w9.putObj D3 (.deferred none)).putObj D2 (.deferred none)) := belowK_b (w := w5) (Nat.le_refl _) _ D2 _ _ HD2.out k2b rfl rfl
                  have k1c := (p2b.block D1 l1).trans k1b
                  have p1b : Below w3.heap.size ((w9.putObj D3 (.deferred none)).putObj D2 (.deferred none)) (((w9.putObj D3 (.deferred none)).putObj D2 (.deferred none)).putObj D1 (.deferred none)) := belowK_b (w := w3) (Nat.le_refl _) _ D1 _ _ HD1.out k1c rfl rfl
                  have hw9 : Below w.heap.size w w9 := Below.more HG7.out.below HB9.out HG7.out.below.size
                  have hfin : Below w.heap.size w (((w9.putObj D3 (.deferred none)).putObj D2 (.deferred none)).putObj D1 (.deferred none)) :=
                    ((hw9.trans (p3.mono (by have := HSZ3.out; have := HGL.out; have := hw9.size; have := HSZW.out; omega))).trans (p2b.mono (by have := HSZ5.out; have := HSZW.out; omega))).trans (p1b.mono HSZ3.out)
                  refine ⟨by simp, .inl ⟨_, _, rfl, run_takeDeferred k3, ?_⟩⟩
                  refine ⟨by simp, .inl ⟨_, _, rfl, run_takeDeferred k2b, ?_⟩⟩
                  refine ⟨by simp, .inl ⟨_, _, rfl, run_takeDeferred k1c, ?_⟩⟩
                  refine ⟨.bool true, ?_, rfl, hfin⟩
                  simp [results, Try.f5, go_sem]
                · have hdt : decide (stop < (L : Int)) = false := decide_eq_false hlt2
                  obtain rfl : stop = (L : Int) := by omega
                  gi_wp2_with (refine ⟨trivial, ?_⟩; gi_at_call 8; refine (callsIn_wide.2 (lives_any _)).mono ?_; rintro e2 w9 ⟨rfl, hb9⟩)
                  have HB9 := Lib.hid hb9
                  have k3 := (HB9.out.block D3 (block_lt HK3'.out)).trans HK3'.out
                  have k2 := (HB9.out.block D2 (block_lt HK2'.out)).trans HK2'.out
                  have k1 := (HB9.out.block D1 (block_lt HK1'.out)).trans HK1'.out
                  have p3 : Below w8.heap.size w9 (w9.putObj D3 (.deferred none)) := belowK_b (w := w8) (Nat.le_refl _) w9 D3 _ _ HD3'.out k3 rfl rfl
                  have l2 : D2 < w8.heap.size := by have := block_lt HK2.out; have := HBW.out.size; have := HSZ8.out; omega
                  have l1 : D1 < w5.heap.size := by have := block_lt HK1.out; have := HSZ5.out; omega
                  have l18 : D1 < w8.heap.size := by have := block_lt HK1.out; have := HB4.out.size; have := HBW.out.size; have := HSZ8.out; omega
                  have k2b := (p3.block D2 l2).trans k2
                  have k1b := (p3.block D1 l18).trans k1
                  have p2b : Below w5.heap.size (w9.putObj D3 (.deferred none)) ((w9.putObj D3 (.deferred none)).putObj D2 (.deferred none)) := belowK_b (w := w5) (Nat.le_refl _) _ D2 _ _ HD2.out k2b rfl rfl
                  have k1c := (p2b.block D1 l1).trans k1b
                  have p1b : Below w3.heap.size ((w9.putObj D3 (.deferred none)).putObj D2 (.deferred none)) (((w9.putObj D3 (.deferred none)).putObj D2 (.deferred none)).putObj D1 (.deferred none)) := belowK_b (w := w3) (Nat.le_refl _) _ D1 _ _ HD1.out k1c rfl rfl
                  have hw9 : Below w.heap.size w w9 := Below.more HG7.out.below HB9.out HG7.out.below.size
                  have hfin : Below w.heap.size w (((w9.putObj D3 (.deferred none)).putObj D2 (.deferred none)).putObj D1 (.deferred none)) :=
                    ((hw9.trans (p3.mono (by have := HSZ3.out; have := HGL.out; have := hw9.size; have := HSZW.out; omega))).trans (p2b.mono (by have := HSZ5.out; have := HSZW.out; omega))).trans (p1b.mono HSZ3.out)
                  refine ⟨by simp, .inl ⟨_, _, rfl, run_takeDeferred k3, ?_⟩⟩
                  refine ⟨by simp, .inl ⟨_, _, rfl, run_takeDeferred k2b, ?_⟩⟩
                  refine ⟨by simp, .inl ⟨_, _, rfl, run_takeDeferred k1c, ?_⟩⟩
                  refine ⟨.bool true, ?_, rfl, hfin⟩
                  simp [results, Try.f5, go_sem]
/-- The law's walk. -/
theorem goes_walk (x : Int) (p : Option Addr) (m c : Nat) (z : Nat → Int) (stop : Int) (w : World) (_h1 : -9223372036854775808 ≤ x) (_h2 : x ≤ 9223372036854775807) (hm : m ≤ 9223372036854775807) (hZ : Zs w p m z) (hs1 : -9223372036854775808 ≤ stop) (hs2 : stop ≤ 9223372036854775807) :
    Calls Try.prog 5 #[.int .i64 x, .slice p m c, .int .i64 stop] w fun e w' => e = .returned (.bool true) ∧ Below w.heap.size w w' := by
  by_cases hin : 0 ≤ x ∧ x ≤ 200
  · obtain ⟨n, rfl⟩ := Int.eq_ofNat_of_zero_le hin.1
    exact goes_in n p m c z stop w (by omega) hm hZ hs1 hs2
  · exact goes_out x p m c stop w hin
set_option maxRecDepth 100000 in
theorem goes_lifted (os : Os) (started : os.Started) (H : Type) (enc : TypeId × Value → H) :
    ReturnsInHanded {} Try.checked os 5 .any (fun w args => Rows.bitsGoesSpec.pre enc Try.prog Try.f5 [] false w args ∧ sizedMet enc Try.prog Try.f5 (OpenSpec.ofChange Rows.bitsGoesSpec) false w args)
      (Rows.bitsGoesSpec.post enc Try.prog Try.f5 false true false false) := by
  refine returnsInHanded_of_change_sized (C := Try.checked) own started (by kernel_rfl) Try.func5
    (ChangeSpec.witness6 (enc := enc) (C := Try.checked) false ⟨#[], #[.int .i64 0, .slice none 0 0, .int .i64 0], []⟩ 8 (by kernel_rfl) (by kernel_rfl) (by kernel_rfl) (by kernel_rfl)) ?_
  intro W base args ds gs before hval0 hW _ hsz0 _
  have hval : ∀ (j : Nat) t v, Try.f5.params[j]? = some t → args[j]? = some v → Value.okWide Try.prog W .any base t v := hval0
  have hlt := fun x hx => hW.lt (p := x) hx
  have hW' := hW
  obtain ⟨p, q, hA0, hV, rfl, hfz, hnd⟩ := hW
  have hA : DataW.TrodAll enc Try.prog W 0 (fun _ => true) true Try.f5.params.toList args.toList ds p := hA0
  have hsz : (DataW.weightsEach Try.prog (Try.f5.params.toList ++ Rows.bitsGoesSpec.plain.varTypes Try.prog) (ds ++ gs)).all (· ≤ reachBytes) = true := hsz0
  rw [Try.params5] at hA hval hsz
  obtain ⟨v0, vs0, d0, ds0, p0, q0, hargs, rfl, rfl, h0, r0⟩ := trodAll_cons hA
  obtain ⟨v1, vs1, d1, ds1, p1, q1, rfl, rfl, rfl, h1, r1⟩ := trodAll_cons r0
  obtain ⟨v2, vs2, d2, ds2, p2, q2, rfl, rfl, rfl, h2, r2⟩ := trodAll_cons r1
  obtain ⟨rfl, rfl, rfl⟩ := trodAll_nil r2
  obtain rfl : args = #[v0, v1, v2] := by cases args; simp_all
  obtain ⟨rfl, rfl⟩ := trodVars_none hV
  obtain ⟨a0, rfl, rfl, rfl, w0⟩ := open_int Try.underlying3 (hval 0 3 v0 rfl rfl) h0
  obtain ⟨a1, n1, c1, b1, rfl, hb1, hn1⟩ := open_zs (hval 1 22 v1 rfl rfl) h1
  obtain ⟨a2, rfl, rfl, rfl, w2⟩ := open_int Try.underlying3 (hval 2 3 v2 rfl rfl) h2
  clear hA0 hval0
  simp only [List.append_nil] at hW'
  refine (goes_walk a0 a1 n1 c1 b1 a2 W (i64_of w0).1 (i64_of w0).2 hn1 hb1 (i64_of w2).1 (i64_of w2).2).mono fun e W' ⟨he, hg⟩ => ?_
  subst he
  exact ⟨_, rfl, law_post hW' (fun _ _ _ => (trodAll_cons_mk (shut_bool Try.underlying4 _) trodAll_mk0)) (trodAll_cons_mk (shut_int Try.underlying3 w0) (trodAll_cons_mk (Below.trod laidOut (by kernel_rfl) (by decide +kernel) h1 hg (fun x hx => hlt x (by simp [hx]))) (trodAll_cons_mk (shut_int Try.underlying3 w2) trodAll_mk0))) rfl (by simp) hg⟩

theorem goes_holds : Rows.BitsGoesSaid :=
  OpenClaim.holds_of_wide 5 Try.f5 rfl rfl rfl rfl rfl rfl rfl ⟨rfl, rfl, rfl, rfl, rfl⟩ rfl rfl rfl rfl rfl (by kernel_rfl) Try.func5 (by kernel_rfl)
    (of_decide_eq_true (by kernel_rfl)) (by unfold Func.isWrapper; first | (rw [if_pos (by decide +kernel)]; kernel_rfl) | (rw [if_neg (by decide +kernel)]; exact ⟨rfl, rfl⟩))
    (fun os started H enc _ => goes_lifted os started H enc)
#print axioms goes_holds

end Go.Proofs.Ytipiblaoogneaaa
