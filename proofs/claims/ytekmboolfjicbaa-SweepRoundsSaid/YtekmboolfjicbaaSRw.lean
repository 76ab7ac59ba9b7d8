/- SweepRounds' walk. -/
import Derived.Test.YtekmboolfjicbaaSRj
import Derived.Test.YtekmboolfjicbaaLLives15
import Derived.Test.YtekmboolfjicbaaIn
import Derived.Deep.RegionHeld3
import Derived.Sort.CutIn
section
/-! SweepRounds' walk. -/
set_option maxRecDepth 20000
set_option linter.unusedSimpArgs false
set_option linter.unusedVariables false
namespace Go.Proofs.Ytekmboolfjicbaa
open Go.RowKit Go.Shelf
attribute [local go_sem] Oper.semAt_some

/-- A cell beside what a call makes. -/
theorem below_cell {w W : World} (h : Below w.heap.size w W) (b : Nat) (v : Value) (hb : w.heap.size ≤ b) : Below w.heap.size w (W.setCell ⟨b, 0, none⟩ v) := h.setCell hb v
theorem two_below {w : World} {qb : Option Addr} {nb cb : Nat} {w2 : World} (hb : Below ((w.alloc (.cells #[.slice qb nb cb] 38)).alloc (.cells #[.bool false] 4)).heap.size ((w.alloc (.cells #[.slice qb nb cb] 38)).alloc (.cells #[.bool false] 4)) w2) :
    w2.cell? ⟨w.heap.size + 1, 0, none⟩ = some (.bool false) ∧ w2.frozen? ⟨w.heap.size + 1, 0, none⟩ = false ∧ (w2.setCell ⟨w.heap.size + 1, 0, none⟩ (.bool true)).cell? ⟨w.heap.size + 1, 0, none⟩ = some (.bool true) ∧ Below w.heap.size w (w2.setCell ⟨w.heap.size + 1, 0, none⟩ (.bool true)) := by
  have hB : Below w.heap.size w ((w.alloc (.cells #[.slice qb nb cb] 38)).alloc (.cells #[.bool false] 4)) := ((Below.refl _ _).alloc (Nat.le_refl _) _).alloc (by simp) _
  have h1 : ((w.alloc (.cells #[.slice qb nb cb] 38)).alloc (.cells #[.bool false] 4)).heap[w.heap.size + 1]? = some (.cells #[.bool false] 4 (0, 0)) := by
    have := World.alloc_heap_new (w.alloc (.cells #[.slice qb nb cb] 38)) (.cells #[.bool false] 4); rwa [World.size_alloc] at this
  have h2 := (hb.block _ (lt_of_some h1)).trans h1
  have h3 := heap_setCell_same w2 (w.heap.size + 1) 0 _ _ (.bool true) h2
  refine ⟨by rw [cell_of_row _ _ 0 _ _ _ h2]; rfl, frozen_of_row _ _ 0 _ _ h2, by rw [cell_of_row _ _ 0 _ _ _ h3]; rfl, ?_⟩
  exact (hB.trans (hb.mono hB.size)).setCell (by show w.heap.size ≤ w.heap.size + 1; omega) _
set_option maxHeartbeats 6400000 in
theorem rounds_long (qa qb : Option Addr) (na ca nb cb : Nat) (w : World) (hna : na ≤ 9223372036854775807) (hnb : nb ≤ 9223372036854775807) (hlong : 200 < na ∨ 200 < nb) :
    Calls Try.prog 4 #[.slice qa na ca, .slice qb nb cb] w fun ex w' => ex = .returned (.bool true) ∧ Below w.heap.size w w' := by
  have HLV : Hid (∀ w1, Below w.heap.size w w1 → Calls Try.prog 6 #[] w1 fun e w' => e = .returned (.bool true) ∧ Below w1.heap.size w1 w') := Lib.hid fun w1 hb => lives14_any w1
  have HB2 : Hid (Below w.heap.size w ((w.alloc (.cells #[.slice qb nb cb] 38)).alloc (.cells #[.bool false] 4))) := Lib.hid (((Below.refl _ _).alloc (Nat.le_refl _) _).alloc (by simp) _)
  have x3 : ((w.alloc (.cells #[.slice qb nb cb] 38)).alloc (.cells #[.bool false] 4)).cell? ⟨w.heap.size, 0, none⟩ = some (.slice qb nb cb) := by
    rw [cell_of_row _ _ 0 _ _ _ ((heap_alloc_old _ _ (by simp)).trans (heap_alloc_new w _))]; rfl
  refine (callsIn_wide (n := 5)).1 ?_
  refine callsIn_of_wp_marks Try.func4 rfl trivial ?_ rfl
  simp only [Try.ntmps4, List.size_toArray, List.length_cons, List.length_nil, Nat.reduceAdd, Nat.reduceSub, Array.replicate_succ, Array.replicate_zero, List.push_toArray, List.append_toArray, List.nil_append, List.cons_append]
  refine wpIn_wide.2 ?_
  by_cases h1 : 200 < na
  · have d0 : decide (200 < na) = true := decide_eq_true h1
    have d1 : decide ((200 : Int) < (na : Int)) = true := by simp; omega
    clear hlong
    go_wp2_with (first | (go_at_call 6; with_reducible refine (HLV.out _ HB2.out).mono ?_; rintro ex w2 ⟨rfl, hb⟩; obtain ⟨c4, f4, t4, hbb⟩ := two_below hb; have HBB := Lib.hid hbb; clear hb hbb))
    refine ⟨.bool true, ?_, rfl, HBB.out⟩
    simp [results, Try.f4, go_sem, t4]
  · have h2 : 200 < nb := hlong.resolve_left h1
    have d0 : decide (200 < na) = false := decide_eq_false h1
    have d1 : decide ((200 : Int) < (na : Int)) = false := by simp; omega
    have e0 : decide (200 < nb) = true := decide_eq_true h2
    have e1 : decide ((200 : Int) < (nb : Int)) = true := by simp; omega
    clear hlong
    go_wp2_with (first | (go_at_call 6; with_reducible refine (HLV.out _ HB2.out).mono ?_; rintro ex w2 ⟨rfl, hb⟩; obtain ⟨c4, f4, t4, hbb⟩ := two_below hb; have HBB := Lib.hid hbb; clear hb hbb))
    refine ⟨.bool true, ?_, rfl, HBB.out⟩
    simp [results, Try.f4, go_sem, t4]
end Go.Proofs.Ytekmboolfjicbaa
end
section
/-! SweepRounds' walk where both lists are short. -/
set_option maxRecDepth 20000
set_option linter.unusedSimpArgs false
set_option linter.unusedVariables false
namespace Go.Proofs.Ytekmboolfjicbaa
open Go.RowKit Go.Shelf
attribute [local go_sem] Oper.semAt_some

theorem rj_start (w : World) (vb : Value) : RJ w (((((w.alloc (.cells #[vb] 38)).alloc (.cells #[.bool false] 4)).alloc (.cells #[.pointer (some ⟨w.heap.size + 1 + 1 + 1, 0, none⟩)] 39)).alloc (.cells #[.slice none 0 0, .map none] 42)).alloc (.cells #[.slice none 0 0] 38)) vb (.slice none 0 0) (.slice none 0 0) (.map none) [] [] [] := by
  have hB : ∀ (o1 o2 o3 o4 o5 : Obj), Below w.heap.size w (((((w.alloc o1).alloc o2).alloc o3).alloc o4).alloc o5) := fun o1 o2 o3 o4 o5 => (((((Below.refl _ _).alloc (Nat.le_refl _) _).alloc (by simp) _).alloc (by simp; omega) _).alloc (by simp; omega) _).alloc (by simp; omega) _
  have hh : ∀ (o1 o2 o3 o4 o5 : Obj), (((((w.alloc o1).alloc o2).alloc o3).alloc o4).alloc o5).heap = ((((w.heap.push o1).push o2).push o3).push o4).push o5 := fun _ _ _ _ _ => rfl
  refine ⟨hB _ _ _ _ _, ?_, ?_, ?_, ?_, ⟨?_, World.ownsRow_nil _ _ _ _, .inl ⟨rfl, rfl⟩, List.nodup_nil, fun x hx => by cases hx⟩, World.ownsRow_nil _ _ _ _, fun k hk => (by cases hk), ?_, fun b o hm => by cases hm⟩
  · rw [hh]; simp only [Array.getElem?_push, Array.size_push]; repeat (first | rw [if_pos (by omega)] | rw [if_neg (by omega)] | rw [if_pos trivial])
  · rw [hh]; simp only [Array.getElem?_push, Array.size_push]; repeat (first | rw [if_pos (by omega)] | rw [if_neg (by omega)] | rw [if_pos trivial])
  · rw [hh]; simp only [Array.getElem?_push, Array.size_push]; repeat (first | rw [if_pos (by omega)] | rw [if_neg (by omega)] | rw [if_pos trivial])
  · rw [hh]; simp only [Array.getElem?_push, Array.size_push]; repeat (first | rw [if_pos (by omega)] | rw [if_neg (by omega)] | rw [if_pos trivial])
  · rw [hh]; simp only [Array.getElem?_push, Array.size_push]; repeat (first | rw [if_pos (by omega)] | rw [if_neg (by omega)] | rw [if_pos trivial])
  · rintro k (rfl | e | e)
    · exact .inl rfl
    · cases e
    · cases e
set_option maxRecDepth 100000 in
set_option maxHeartbeats 25600000 in
theorem rounds_short (qa qb : Option Addr) (na ca nb cb : Nat) (a b : List Int) (w : World) (hna : na ≤ 200) (hnb : nb ≤ 200) (ha : Ints w qa na a) (hb : Ints w qb nb b) (hfa : ∀ x ∈ a, I64 x) (hfb : ∀ x ∈ b, I64 x) :
    Calls Try.prog 4 #[.slice qa na ca, .slice qb nb cb] w fun ex w' => ex = .returned (.bool true) ∧ Below w.heap.size w w' := by
  have x3 : ((w.alloc (.cells #[.slice qb nb cb] 38)).alloc (.cells #[.bool false] 4)).cell? ⟨w.heap.size, 0, none⟩ = some (.slice qb nb cb) := by
    rw [cell_of_row _ _ 0 _ _ _ ((heap_alloc_old _ _ (by simp)).trans (heap_alloc_new w _))]; rfl
  have d0 : decide (200 < na) = false := decide_eq_false (by omega)
  have d1 : decide ((200 : Int) < (na : Int)) = false := by simp; omega
  have e0 : decide (200 < nb) = false := decide_eq_false (by omega)
  have e1 : decide ((200 : Int) < (nb : Int)) = false := by simp; omega
  have HNA := Lib.hid hna
  have HNB := Lib.hid hnb
  have HA := Lib.hid ha
  have HB := Lib.hid hb
  have HFA := Lib.hid hfa
  have HFB := Lib.hid hfb
  clear hna hnb ha hb hfa hfb
  refine (callsIn_wide (n := 5)).1 ?_
  refine callsIn_of_wp_marks Try.func4 rfl trivial ?_ rfl
  simp only [Try.ntmps4, List.size_toArray, List.length_cons, List.length_nil, Nat.reduceAdd, Nat.reduceSub, Array.replicate_succ, Array.replicate_zero, List.push_toArray, List.append_toArray, List.nil_append, List.cons_append]
  refine wpIn_wide.2 ?_
  go_upto_region 6 with fail
  have HJ0 := Lib.hid (rj_start w (.slice qb nb cb))
  clear x3
  generalize ((((w.alloc (.cells #[.slice qb nb cb] 38)).alloc (.cells #[.bool false] 4)).alloc (.cells #[.pointer (some ⟨w.heap.size + 1 + 1 + 1, 0, none⟩)] 39)).alloc (.cells #[.slice none 0 0, .map none] 42)).alloc (.cells #[.slice none 0 0] 38) = W0 at *
  simp only [Nat.add_assoc, Nat.reduceAdd]
  go_upto_region 7 with fail
  go_loopw [8] (fun iv wr => ∃ (i : Nat) (vw vt mv : Value) (T : List Int), i ≤ na ∧ iv = .int .i64 (i : Int) ∧ Hid (RJ w wr (.slice qb nb cb) vw vt mv T T [] ∧ T.length ≤ i ∧ (∀ x ∈ a.take i, x ∈ T))) (fun iv _ => na - (intOf iv).toNat)
  case atStart => exact ⟨0, _, _, _, [], by omega, by go_num, Lib.hid ⟨HJ0.out, Nat.le_refl _, fun x hx => by cases hx⟩⟩
  case round =>
    obtain ⟨i, vw, vt, mv, T, hi, rfl, HJ⟩ := hrel
    clear HJ0
    by_cases hlt : i < na
    · obtain ⟨B, o, rfl, hat⟩ := (HA.out.below HJ.out.1.below).2 (by omega)
      have z := hat i hlt
      have hin : (i : Int) < (na : Int) := by omega
      have hi200 : (i : Int) ≤ 200 := by have := HNA.out; omega
      have HLT : Hid (i + 1 ≤ na) := Lib.hid hlt
      obtain ⟨x, HX⟩ : ∃ x, Hid (a.getD i 0 = x) := ⟨_, Lib.hid rfl⟩
      rw [HX.out] at z
      have HXM : Hid (x ∈ a) := Lib.hid (by rw [← HX.out, List.getD_eq_getElem?_getD, List.getElem?_eq_getElem (by have := HA.out.1; omega)]; exact List.getElem_mem _)
      obtain ⟨qw, cw, rfl⟩ := own_form HJ.out.1.ow
      have y5 := cell_of_row _ _ 0 _ _ _ HJ.out.1.b5
      have y7 := cell_of_row _ _ 0 _ _ _ HJ.out.1.b7
      simp at y5 y7
      have HIX : Hid (∀ u, Below wr.heap.size wr u → Calls Try.prog 10 #[.slice qw T.length cw, .int .i64 x] u fun e w' => e = .returned (.int .i64 (idxI T x)) ∧ w' = u) := Lib.hid fun u hb => index_any qw T.length cw T u (Ints.own (HJ.out.1.up hb).ow) (by have := HJ.out.2.1; have := HNA.out; omega) x
      have HC : Hid (∀ u, Below wr.heap.size wr u → u.cell? ⟨w.heap.size + 4, 0, none⟩ = some (.slice qw T.length cw) ∧ u.cell? ⟨B, o + i, none⟩ = some (.int .i64 x) ∧ u.cell? ⟨w.heap.size + 2, 0, none⟩ = some (.pointer (some ⟨w.heap.size + 3, 0, none⟩))) := Lib.hid fun u hb => ⟨(hb.cell (World.block_lt_of_cell? wr _ y7)).trans y7, (hb.cell (World.block_lt_of_cell? wr _ z)).trans z, (hb.cell (World.block_lt_of_cell? wr _ y5)).trans y5⟩
      clear hat z y5 y7
      go_upto_region 9 with fail
      obtain ⟨y7, z, y5⟩ := HC.out _ (Below.refl _ _)
      have y0 : ∀ s : In wr, s.1.cell? ⟨w.heap.size + 4, 0, none⟩ = some (.slice qw T.length cw) := fun s => (HC.out _ s.2).1
      have y1 : ∀ s : In wr, s.1.cell? ⟨B, o + i, none⟩ = some (.int .i64 x) := fun s => (HC.out _ s.2).2.1
      have hne := In.some wr
      refine region_in wr (by kernel_rfl) (by kernel_rfl) (Below.refl _ _) ?_
      repeat (go_big_quiet_step ((first | (go_at_call 10; exact Calls.quiet_in_same ((HIX.out _ (by exact Subtype.property _)).mono fun _ _ h => ⟨h.1, h.2.symm⟩)))))
      refine wpQuiet_nil ?_
      rintro wb ⟨s, rfl⟩
      clear y0 y1 hne y7 z y5
      obtain ⟨wb, hwb⟩ := s
      dsimp only
      have HCC : Hid (∀ (u : World) vw vt mv T2 U X, RJ w u (.slice qb nb cb) vw vt mv T2 U X → u.cell? ⟨B, o + i, none⟩ = some (.int .i64 x) ∧ u.cell? ⟨w.heap.size + 2, 0, none⟩ = some (.pointer (some ⟨w.heap.size + 3, 0, none⟩)) ∧ u.cell? ⟨w.heap.size + 4, 0, none⟩ = some vw) := Lib.hid fun u vw vt mv T2 U X h => by
        obtain ⟨B', o', e, hat⟩ := (HA.out.below h.below).2 (by omega)
        cases e
        have z := hat i hlt
        rw [HX.out] at z
        exact ⟨z, by rw [cell_of_row _ _ 0 _ _ _ h.b5]; rfl, by rw [cell_of_row _ _ 0 _ _ _ h.b7]; rfl⟩
      have HBL : Hid (B ≠ w.heap.size + 4) := Lib.hid (by
        have h0 := (HA.out.2 (by omega))
        obtain ⟨B', o', e, h1⟩ := h0
        cases e
        have := World.block_lt_of_cell? w _ (h1 i hlt)
        dsimp only at this
        omega)
      have HJ1 := Lib.hid (HJ.out.1.up hwb)
      have HTK : Hid (∀ y ∈ a.take (i + 1), y ∈ addK T x) := Lib.hid fun y hy => addK_mem.2 (by
        rw [show a.take (i + 1) = a.take i ++ [x] by rw [List.take_add_one, List.getElem?_eq_getElem (by have := HA.out.1; omega), ← HX.out, List.getD_eq_getElem?_getD, List.getElem?_eq_getElem (by have := HA.out.1; omega)]; rfl] at hy
        rcases List.mem_append.1 hy with h | h
        · exact .inl (HJ.out.2.2 y h)
        · exact .inr (by simpa using h))
      have HTL : Hid (T.length ≤ i) := Lib.hid HJ.out.2.1
      have hTN : (T.length : Int) ≤ 200 := by have := HTL.out; omega
      have HSEE : Hid (∀ u, Below wb.heap.size wb u → Calls Try.prog 11 #[.pointer (some ⟨w.heap.size + 3, 0, none⟩), .int .i64 x] u fun e w' => e = .returned (.bool (!hasK T x)) ∧ ∃ vt' mv', RJ w w' (.slice qb nb cb) (.slice qw T.length cw) vt' mv' (addK T x) T []) := Lib.hid fun u hb => by
        have h := HJ1.out.up hb
        refine (rnI_see h.rn (by decide) (by have := HTL.out; have := HNA.out; omega) x (HFA.out x HXM.out)).mono ?_
        rintro e w' ⟨rfl, hs⟩
        obtain ⟨vt', mv', h2, _⟩ := h.see hs
        exact ⟨rfl, vt', mv', h2⟩
      obtain ⟨z, y5, y7⟩ := HCC.out _ _ _ _ _ _ _ HJ1.out
      clear HC HIX hwb HJ HA HFA HX
      cases hT : hasK T x with
      | true =>
        obtain ⟨p, HP⟩ : ∃ p : Nat, idxI T x = (p : Int) := ⟨T.idxOf x, by unfold idxI; rw [if_pos (hasK_iff.1 hT)]⟩
        rw [HP]
        have hp0 : decide ((p : Int) < 0) = false := decide_eq_false (by omega)
        rw [hT] at HSEE
        have HAD := Lib.hid (addK_yes (hasK_iff.1 hT))
        rw [HAD.out] at HTK HSEE
        clear HP HAD
        go_upto_region 10 with fail
        go_region_held3 (fun u : World => u.cell? ⟨B, o + i, none⟩ = some (.int .i64 x) ∧ u.cell? ⟨w.heap.size + 2, 0, none⟩ = some (.pointer (some ⟨w.heap.size + 3, 0, none⟩))) ((first
            | with_reducible exact ⟨z, y5⟩
            | go_keep)) (first
          | (go_at_call 11
             with_reducible refine (HSEE.out _ ?hyp).mono ?_
             case hyp => first | exact (Below.refl _ _).drew | exact Below.refl _ _
             rintro ex wc ⟨rfl, vt2, mv2, hJ2⟩
             have HJ2 := Lib.hid hJ2
             clear hJ2
             obtain ⟨z, y5, -⟩ := HCC.out _ _ _ _ _ _ _ HJ2.out))
        go_wp2_with fail
        go_roundw
        case rel => exact ⟨i + 1, _, vt2, mv2, T, HLT.out, by go_num, Lib.hid ⟨HJ2.out, by have := HTL.out; omega, HTK.out⟩⟩
        case measure => simp [intOf]; omega
      | false =>
        have hno : x ∉ T := fun h => absurd (hasK_yes h) (by rw [hT]; decide)
        have HP : idxI T x = -1 := by unfold idxI; rw [if_neg hno]
        rw [HP]
        rw [hT] at HSEE
        have HAD := Lib.hid (addK_no hno)
        rw [HAD.out] at HTK HSEE
        clear HP HAD
        go_upto_region 10 with fail
        go_region_held3 (fun u : World => u.cell? ⟨B, o + i, none⟩ = some (.int .i64 x) ∧ u.cell? ⟨w.heap.size + 2, 0, none⟩ = some (.pointer (some ⟨w.heap.size + 3, 0, none⟩))) ((first
            | with_reducible exact ⟨z, y5⟩
            | go_keep)) (first
          | (go_at_call 11
             with_reducible refine (HSEE.out _ ?hyp).mono ?_
             case hyp => first | exact (Below.refl _ _).drew | exact Below.refl _ _
             rintro ex wc ⟨rfl, vt2, mv2, hJ2⟩
             have HJ2 := Lib.hid hJ2
             clear hJ2
             obtain ⟨z, y5, -⟩ := HCC.out _ _ _ _ _ _ _ HJ2.out))
        go_upto_region 13 with fail
        obtain ⟨i0, hi0, hz0, hz1, hz2⟩ := info_parts info_rnI
        have HI0 := Lib.hid hi0
        have HZ0 := Lib.hid hz0
        have HZ1 := Lib.hid hz1
        have HZ2 := Lib.hid hz2
        clear hi0 hz0 hz1 hz2
        obtain ⟨z, -, y7⟩ := HCC.out _ _ _ _ _ _ _ HJ2.out
        have HJ3 := Lib.hid (HJ2.out.up ((Below.refl _ _).drew.alloc (Nat.le_refl _) (.cells #[.int .i64 x] 3)))
        have HRA := Lib.hid HJ3.out.ow
        have HNB : Hid (∀ j u, [Value.int .i64 x][j]? = some u → (wc.drew.alloc (.cells #[.int .i64 x] 3)).cell? ((⟨wc.heap.size, 0, none⟩ : Addr).add j) = some u) := Lib.hid (cell_one_new wc.drew _ _)
        have HTM : Hid (T.length ≤ 200) := Lib.hid (by omega)
        have HSZ : Hid (w.heap.size + 5 ≤ (wc.drew.alloc (.cells #[.int .i64 x] 3)).heap.size) := Lib.hid HJ3.out.size
        have HAL : Hid ((wc.drew.alloc (.cells #[.int .i64 x] 3)).cell? ⟨B, o + i, none⟩ = some (.int .i64 x) ∧ True) := Lib.hid ⟨(HCC.out _ _ _ _ _ _ _ HJ3.out).1, trivial⟩
        have HPU : Hid (∀ w4 gN cap, w4.ownsRow (w.heap.size + 5) 3 1 (.slice (some ⟨gN, 0, none⟩) (T.length + 1) cap) (T.length + 1) (encI T ++ [.int .i64 x]) → (wc.drew.alloc (.cells #[.int .i64 x] 3)).grownBy w4 (Value.slice qw T.length cw).ownBlock → ((Value.slice qw T.length cw).ownBlock = some gN ∨ gN = wc.heap.size + 1) →
            w4.cell? ⟨w.heap.size + 4, 0, none⟩ = some (.slice qw T.length cw) ∧ w4.frozen? ⟨w.heap.size + 4, 0, none⟩ = false ∧ RJ w (w4.setCell ⟨w.heap.size + 4, 0, none⟩ (.slice (some ⟨gN, 0, none⟩) (T.length + 1) cap)) (.slice qb nb cb) (.slice (some ⟨gN, 0, none⟩) (T.length + 1) cap) vt2 mv2 (T ++ [x]) (T ++ [x]) []
            ∧ (w4.cell? ⟨B, o + i, none⟩ = some (.int .i64 x) ∧ True) ∧ ((w4.setCell ⟨w.heap.size + 4, 0, none⟩ (.slice (some ⟨gN, 0, none⟩) (T.length + 1) cap)).cell? ⟨B, o + i, none⟩ = some (.int .i64 x) ∧ True)) := Lib.hid fun w4 gN cap hown hgrow hat => by
          obtain ⟨p1, p2, p3, p4⟩ := HJ2.out.push rfl ((Below.refl _ _).drew.alloc (Nat.le_refl _) (.cells #[.int .i64 x] 3)) hown hgrow (hat.imp id fun e => by rw [e]; simp)
          obtain ⟨q1, -, -⟩ := HCC.out _ _ _ _ _ _ _ p3
          refine ⟨p1, p2, p3, ⟨?_, trivial⟩, q1, trivial⟩
          have hB : B ≠ w.heap.size + 4 := HBL.out
          rw [← q1]
          exact (World.cell?_setCell_far _ _ _ _ (by exact fun e => hB e.symm)).symm
        have y7a : (wc.alloc (.cells #[.int .i64 x] 3)).cell? ⟨w.heap.size + 4, 0, none⟩ = some (.slice qw T.length cw) := (HCC.out _ _ _ _ _ _ _ HJ3.out).2.2
        clear HJ3 HSEE HCC y5
        refine region_plain (S := fun u : World => u.cell? ⟨B, o + i, none⟩ = some (.int .i64 x) ∧ True) (by kernel_rfl) (fun KK hKK => ?_)
        have hHeld := (show wc.drew.cell? ⟨B, o + i, none⟩ = some (.int .i64 x) ∧ True from ⟨z, trivial⟩)
        refine wpAnyH_take (i := 1) (v := ?_) rfl (by kernel_rfl) (by kernel_rfl) (by kernel_rfl) (fun _ _ _ h => by cases h.1) (Or.inl ⟨by rfl, ?_⟩) hHeld ?_
        rotate_left
        · intro u hSw
          try dsimp only at hSw
          try obtain ⟨s1, s2, s3⟩ := hSw
          go_simp
          all_goals (with_reducible rfl)
        try simp only [Act.put]
        try simp only [List.setIfInBounds_toArray]
        try simp only [List.set]
        refine wpAnyH_take (i := 2) (v := ?_) rfl (by kernel_rfl) (by kernel_rfl) (by kernel_rfl) (fun _ _ _ h => by cases h.1) (Or.inl ⟨by rfl, ?_⟩) hHeld ?_
        rotate_left
        · intro u hSw
          try dsimp only at hSw
          try obtain ⟨s1, s2, s3⟩ := hSw
          go_simp
          all_goals (with_reducible rfl)
        try simp only [Act.put]
        try simp only [List.setIfInBounds_toArray]
        try simp only [List.set]
        refine wpAnyH_take (i := 3) (v := ?_) rfl (by kernel_rfl) (by kernel_rfl) (by kernel_rfl) (fun _ _ _ h => by cases h.1) (Or.inl ⟨by rfl, ?_⟩) hHeld ?_
        rotate_left
        · intro u hSw
          try dsimp only at hSw
          try obtain ⟨s1, s2, s3⟩ := hSw
          go_simp
          all_goals (with_reducible rfl)
        try simp only [Act.put]
        try simp only [List.setIfInBounds_toArray]
        try simp only [List.set]
        refine wpAnyH_take (i := 4) (v := ?_) rfl (by kernel_rfl) (by kernel_rfl) (by kernel_rfl) (fun _ _ _ h => by cases h.1) (Or.inl ⟨by rfl, ?_⟩) hHeld ?_
        rotate_left
        · intro u hSw
          try dsimp only at hSw
          try obtain ⟨s1, s2, s3⟩ := hSw
          go_simp
          all_goals (with_reducible rfl)
        try simp only [Act.put]
        try simp only [List.setIfInBounds_toArray]
        try simp only [List.set]
        refine wpAnyH_ready (rs := [0, 5]) (by kernel_rfl) (by simp) ?_
        refine AllReadyH.cons rfl (fun K hK => ?_) (AllReadyH.cons rfl (fun K hK => ?_) AllReadyH.nil)
        · go_simp
          refine hK.out _ _ ?_ (fun hHeld => ?_)
          · exact hHeld
          clear hK K
          try simp only [Act.put]
          try simp only [List.setIfInBounds_toArray]
          try simp only [List.set]
          refine wpAnyH_ready (rs := [5]) (by kernel_rfl) (by simp) ?_
          refine AllReadyH.cons rfl (fun K hK => ?_) AllReadyH.nil
          go_simp
          refine hK.out _ _ ?_ (fun hHeld => ?_)
          · exact HAL.out
          clear hK K
          try simp only [Act.put]
          try simp only [List.setIfInBounds_toArray]
          try simp only [List.set]
          refine wpAnyH_ready (rs := [6]) (by kernel_rfl) (by simp) ?_
          refine AllReadyH.cons rfl (fun K hK => ?_) AllReadyH.nil
          refine step_append_lies _ rfl (.tmp 60) (.tmp 65) 38 rfl (w.heap.size + 5) 3 i0 (.int .i64 0) 1 8 Try.underlying38 HI0.out HZ0.out HZ1.out HZ2.out rfl (by decide) (.slice qw T.length cw) T.length (encI T) (by rfl) HRA.out ⟨wc.heap.size, 0, none⟩ 1 1 [.int .i64 x] (by rfl) rfl HNB.out (by intro u hu; simp at hu; subst hu; rfl) (by decide) (by have := HTM.out; unfold maxLen; omega) (by have := HTM.out; omega) HSZ.out (wc.heap.size + 1) (by simp) ?_
          intro gN cap w4 hown hgrow hat hlt4
          obtain ⟨c7, f7, hpp, hss⟩ := HPU.out w4 gN cap hown hgrow hat
          have HPP := Lib.hid hpp
          clear hpp hown hgrow hat hlt4
          refine hK.out _ _ ?_ (fun hHeld => ?_)
          · exact hss.1
          clear hK K
          try simp only [Act.put]
          try simp only [List.setIfInBounds_toArray]
          try simp only [List.set]
          refine wpAnyH_ready (rs := [7]) (by kernel_rfl) (by simp) ?_
          refine AllReadyH.cons rfl (fun K hK => ?_) AllReadyH.nil
          go_simp
          refine hK.out _ _ ?_ (fun hHeld => ?_)
          · exact hss.2
          clear hK K
          try simp only [Act.put]
          try simp only [List.setIfInBounds_toArray]
          try simp only [List.set]
          refine wpAnyH_done (by kernel_rfl) ⟨rfl, hKK _ _ ?_⟩ _
          clear hKK hHeld hss c7 f7
          go_wp2_with fail
          go_roundw
          case rel => exact ⟨i + 1, _, vt2, mv2, T ++ [x], HLT.out, by go_num, Lib.hid ⟨HPP.out, by have := HTL.out; simp; omega, HTK.out⟩⟩
          case measure => simp [intOf]; omega
        · go_simp
          refine hK.out _ _ ?_ (fun hHeld => ?_)
          · exact HAL.out
          clear hK K
          try simp only [Act.put]
          try simp only [List.setIfInBounds_toArray]
          try simp only [List.set]
          refine wpAnyH_ready (rs := [0]) (by kernel_rfl) (by simp) ?_
          refine AllReadyH.cons rfl (fun K hK => ?_) AllReadyH.nil
          go_simp
          refine hK.out _ _ ?_ (fun hHeld => ?_)
          · exact hHeld
          clear hK K
          try simp only [Act.put]
          try simp only [List.setIfInBounds_toArray]
          try simp only [List.set]
          refine wpAnyH_ready (rs := [6]) (by kernel_rfl) (by simp) ?_
          refine AllReadyH.cons rfl (fun K hK => ?_) AllReadyH.nil
          refine step_append_lies _ rfl (.tmp 60) (.tmp 65) 38 rfl (w.heap.size + 5) 3 i0 (.int .i64 0) 1 8 Try.underlying38 HI0.out HZ0.out HZ1.out HZ2.out rfl (by decide) (.slice qw T.length cw) T.length (encI T) (by rfl) HRA.out ⟨wc.heap.size, 0, none⟩ 1 1 [.int .i64 x] (by rfl) rfl HNB.out (by intro u hu; simp at hu; subst hu; rfl) (by decide) (by have := HTM.out; unfold maxLen; omega) (by have := HTM.out; omega) HSZ.out (wc.heap.size + 1) (by simp) ?_
          intro gN cap w4 hown hgrow hat hlt4
          obtain ⟨c7, f7, hpp, hss⟩ := HPU.out w4 gN cap hown hgrow hat
          have HPP := Lib.hid hpp
          clear hpp hown hgrow hat hlt4
          refine hK.out _ _ ?_ (fun hHeld => ?_)
          · exact hss.1
          clear hK K
          try simp only [Act.put]
          try simp only [List.setIfInBounds_toArray]
          try simp only [List.set]
          refine wpAnyH_ready (rs := [7]) (by kernel_rfl) (by simp) ?_
          refine AllReadyH.cons rfl (fun K hK => ?_) AllReadyH.nil
          go_simp
          refine hK.out _ _ ?_ (fun hHeld => ?_)
          · exact hss.2
          clear hK K
          try simp only [Act.put]
          try simp only [List.setIfInBounds_toArray]
          try simp only [List.set]
          refine wpAnyH_done (by kernel_rfl) ⟨rfl, hKK _ _ ?_⟩ _
          clear hKK hHeld hss c7 f7
          go_wp2_with fail
          go_roundw
          case rel => exact ⟨i + 1, _, vt2, mv2, T ++ [x], HLT.out, by go_num, Lib.hid ⟨HPP.out, by have := HTL.out; simp; omega, HTK.out⟩⟩
          case measure => simp [intOf]; omega
    · obtain rfl : i = na := by omega
      have HTA : Hid (∀ x ∈ a, x ∈ T) := Lib.hid fun x hx => HJ.out.2.2 x (by rw [List.take_of_length_le (by have := HA.out.1; omega)]; exact hx)
      have HT2 : Hid (T.length ≤ 200) := Lib.hid (by have := HJ.out.2.1; have := HNA.out; omega)
      have HR1 := Lib.hid (HJ.out.1.more (.cells #[.int .i64 0] 3))
      have HR2 : Hid (RJ w ((wr.alloc (.cells #[.int .i64 0] 3)).alloc (.cells #[.pointer (some ⟨w.heap.size + 3, 0, none⟩)] 39)) (.slice qb nb cb) vw vt mv T T [((wr.alloc (.cells #[.int .i64 0] 3)).heap.size, .cells #[.pointer (some ⟨w.heap.size + 3, 0, none⟩)] 39 (0, 0)), (wr.heap.size, .cells #[.int .i64 0] 3 (0, 0))]) := Lib.hid (HR1.out.more _)
      have y5 : (wr.alloc (.cells #[.int .i64 0] 3)).cell? ⟨w.heap.size + 2, 0, none⟩ = some (.pointer (some ⟨w.heap.size + 3, 0, none⟩)) := by rw [cell_of_row _ _ 0 _ _ _ HR1.out.b5]; rfl
      clear HJ
      go_upto_region 16 with (go_at_call 12; with_reducible refine (allI_any _ _).mono ?_; rintro e w1 ⟨rfl, rfl⟩)
      clear HR1 y5
      have HZN : Hid ((wr.alloc (.cells #[.int .i64 0] 3)).heap.size = wr.heap.size + 1) := Lib.hid (by simp)
      rw [HZN.out] at HR2
      generalize hW1 : (wr.alloc (.cells #[.int .i64 0] 3)).alloc (.cells #[.pointer (some ⟨w.heap.size + 3, 0, none⟩)] 39) = W1 at *
      have HZ1 : Hid (W1.heap.size = wr.heap.size + 2) := Lib.hid (by rw [← hW1]; simp)
      have HZR : Hid (w.heap.size + 5 ≤ wr.heap.size) := Lib.hid (by exact (HR2.out.kp wr.heap.size (.cells #[.int .i64 0] 3 (0, 0)) (by simp)).2.2.2)
      clear hW1 HZN
      have hnf : ∀ (v : Array Value) (u : World), (binOp .eql 46 (.func (.func 28) #[] v) .nilFunc).run Try.prog u = .ok (.bool false) u := fun _ _ => rfl
      go_upto_region 18 with fail
      clear hnf
      have HJR : Hid (JR w (.slice qb nb cb) mv a nb wr.heap.size (wr.heap.size + 1) 0 W1) := Lib.hid ⟨vw, vt, T, HR2.out.sub (by intro p hp; simp [xs] at hp; rcases hp with rfl | rfl <;> simp), by omega, by have := HT2.out; omega, by have := HT2.out; omega, HTA.out⟩
      have HMB : Hid (∀ mb, mv = .map (some mb) → mb < W1.heap.size) := Lib.hid fun mb e => HR2.out.rn.lt mb (.inr (.inr e))
      have HLW : Hid (w.heap.size ≤ W1.heap.size) := Lib.hid HR2.out.below.size
      clear HR2 HTA HT2 d0 d1 e0 e1 hi hlt
      go_wp2_with fail
      refine (wpIn_wide (n := 5)).1 (gen_act ?_)
      intro A0 hA0
      refine wpIn_rangeJ rfl (by omega) (gf := 28) (lb := #[.pointer (some ⟨wr.heap.size + 1, 0, none⟩)]) (by rw [hA0]; rfl) trivial (enters_of Try.func28 (by kernel_rfl) rfl) (allI_seq 4 (by omega) (wr.heap.size + 1) (w.heap.size + 3)) (fun _ => rfl)
        (fun j W => JR w (.slice qb nb cb) mv a nb wr.heap.size (wr.heap.size + 1) j W) (JR.own HLW.out HMB.out)
        (fun j W h => h.good HNB.out) (fun j => EndI.own j) HJR.out
        (fun j x a' W => a' = setF A0 x ∧ JR w (.slice qb nb cb) mv a nb wr.heap.size (wr.heap.size + 1) j W ∧ ItemI (w.heap.size + 3) j x W)
        ?ax ?assign ?body ?done
      case ax =>
        rintro j x a' u W W' row ⟨h1, h2, h3⟩ hg hr
        exact ⟨h1, JR.own HLW.out HMB.out j W W' row h2 hg hr, ItemI.own j x () W W' row h3 hg hr⟩
      case assign =>
        rintro l j ⟨j2, x⟩ W K h hx hKK
        have HKK := Lib.hid hKK
        have HH := Lib.hid h
        have HXX := Lib.hid hx
        clear h hx hKK
        subst hA0
        gi_wp2
        exact HKK.out _ _ (KeepsFrom.refl _ _) ⟨rfl, HH.out, HXX.out⟩
      case body =>
        rintro l j ⟨j2, x⟩ a' W hl ⟨rfl, h, hx⟩
        subst hA0
        simp only [setF, List.setIfInBounds_toArray, List.set]
        have e1 : j2 = j := hx.1
        subst e1
        obtain ⟨vw, vt, T, hJ, hjT, hT1, hT2, hTa⟩ := h
        obtain ⟨_, T', hat', hT'⟩ := hx
        have hTj := rnI_same hJ.rn hat' hT'
        have hjl : j2 < T.length := by
          rcases Nat.lt_or_ge j2 T.length with h | h
          · exact h
          · rw [List.getElem?_eq_none h] at hTj; cases hTj
        obtain ⟨gw, cw, e⟩ := own_some hJ.ow (by omega)
        subst e
        have y7 : W.cell? ⟨gw, j2, none⟩ = some (.int .i64 x) := by
          have := hJ.ow.cellAt j2 (by omega)
          rw [this]; exact flat1_get (fun x : Int => Value.int .i64 x) T j2 x hTj
        have hkn := (hJ.kp wr.heap.size (.cells #[.int .i64 (j2 : Int)] 3 (0, 0)) (by simp [xs])).1
        have yn := cell_of_row _ _ 0 _ _ _ hkn
        have yw := cell_of_row _ _ 0 _ _ _ hJ.b7
        have y3 := cell_of_row _ _ 0 _ _ _ hJ.b3
        simp at yn yw y3
        have hd1 : decide ((T.length : Int) ≤ (j2 : Int)) = false := decide_eq_false (by omega)
        have hlI : (j2 : Int) < (T.length : Int) := by omega
        have hj4 : (j2 : Int) ≤ 400 := by have := HNB.out; omega
        have HJ := Lib.hid hJ
        have HJL : Hid (j2 < T.length ∧ T.length ≤ 200 + j2 ∧ T.length ≤ 200 + nb) := Lib.hid ⟨hjl, hT1, hT2⟩
        have HTA := Lib.hid hTa
        clear hJ hjT hT1 hT2 hTa hat' hT' hTj hkn hjl
        have hmix : Try.prog.follows .mixedOrders = true := by kernel_rfl
        gi_upto_region 23 with fail
        by_cases hmore : j2 < nb
        · have hmI : (j2 : Int) < (nb : Int) := by omega
          obtain ⟨Bm, om, eq, hat⟩ := (HB.out).2 (by omega)
          subst eq
          obtain ⟨y, HY⟩ : ∃ y, Hid (b.getD j2 0 = y) := ⟨_, Lib.hid rfl⟩
          have HYF : Hid (I64 y) := Lib.hid (HFB.out y (by rw [← HY.out, List.getD_eq_getElem?_getD, List.getElem?_eq_getElem (by have := HB.out.1; omega)]; exact List.getElem_mem _))
          have hym := hat j2 hmore
          rw [HY.out] at hym
          have HYM := Lib.hid hym
          have HSS : Hid (∀ (u : World) vt mv T2 X2, RJ w u (.slice (some ⟨Bm, om, none⟩) nb cb) (.slice (some ⟨gw, 0, none⟩) T.length cw) vt mv T2 X2 (xs wr.heap.size (wr.heap.size + 1) w.heap.size j2) → u.cell? ⟨w.heap.size + 2, 0, none⟩ = some (.pointer (some ⟨w.heap.size + 3, 0, none⟩)) ∧ u.cell? ⟨w.heap.size, 0, none⟩ = some (.slice (some ⟨Bm, om, none⟩) nb cb) ∧ u.cell? ⟨wr.heap.size, 0, none⟩ = some (.int .i64 (j2 : Int)) ∧ u.cell? ⟨Bm, om + j2, none⟩ = some (.int .i64 y) ∧ u.cell? ⟨w.heap.size + 4, 0, none⟩ = some (.slice (some ⟨gw, 0, none⟩) T.length cw)) := Lib.hid fun u vt mv T2 X2 h => by
            have hk := (h.kp wr.heap.size (.cells #[.int .i64 (j2 : Int)] 3 (0, 0)) (by simp [xs])).1
            exact ⟨by rw [cell_of_row _ _ 0 _ _ _ h.b5]; rfl, by rw [cell_of_row _ _ 0 _ _ _ h.b3]; rfl, by rw [cell_of_row _ _ 0 _ _ _ hk]; rfl, (h.below.cell (World.block_lt_of_cell? w _ HYM.out)).trans HYM.out, by rw [cell_of_row _ _ 0 _ _ _ h.b7]; rfl⟩
          have HS24 : Hid (∀ u, Below W.heap.size W u → u.cell? ⟨w.heap.size + 2, 0, none⟩ = some (.pointer (some ⟨w.heap.size + 3, 0, none⟩)) ∧ u.cell? ⟨w.heap.size, 0, none⟩ = some (.slice (some ⟨Bm, om, none⟩) nb cb) ∧ u.cell? ⟨wr.heap.size, 0, none⟩ = some (.int .i64 (j2 : Int)) ∧ u.cell? ⟨Bm, om + j2, none⟩ = some (.int .i64 y) ∧ u.cell? ⟨w.heap.size + 4, 0, none⟩ = some (.slice (some ⟨gw, 0, none⟩) T.length cw)) := Lib.hid fun u hb => HSS.out u _ _ _ _ (HJ.out.up hb)
          have HSEE : Hid (∀ u, Below W.heap.size W u → Calls Try.prog 11 #[.pointer (some ⟨w.heap.size + 3, 0, none⟩), .int .i64 y] u fun e w' => e = .returned (.bool (!hasK T y)) ∧ ∃ vt', RJ w w' (.slice (some ⟨Bm, om, none⟩) nb cb) (.slice (some ⟨gw, 0, none⟩) T.length cw) vt' mv (addK T y) T (xs wr.heap.size (wr.heap.size + 1) w.heap.size j2) ∧ KeepsFrom W1.heap.size W w') := Lib.hid fun u hb => rj_see HJ.out (by have := HJL.out.1; omega) (by have := HJL.out.2.2; have := HNB.out; omega) HMB.out y HYF.out u hb
          have HIX : Hid (∀ (u : World) vt mv T2, RJ w u (.slice (some ⟨Bm, om, none⟩) nb cb) (.slice (some ⟨gw, 0, none⟩) T.length cw) vt mv T2 T (xs wr.heap.size (wr.heap.size + 1) w.heap.size j2) → Calls Try.prog 10 #[.slice (some ⟨gw, 0, none⟩) T.length cw, .int .i64 y] u fun e w' => e = .returned (.int .i64 (idxI T y)) ∧ w' = u) := Lib.hid fun u vt mv T2 h => index_any _ _ cw T u (Ints.own h.ow) (by have := HJL.out.2.2; have := HNB.out; omega) y
          clear hat hym y7 yn yw y3 hd1 HY
          obtain ⟨y5, y3, yn, ym, yw⟩ := HS24.out W (Below.refl _ _)
          gi_upto_region 24 with fail
          clear y5 y3 yn ym yw
          cases hT : hasK T y with
          | true =>
            obtain ⟨p, HP⟩ : ∃ p : Nat, Hid (idxI T y = (p : Int)) := ⟨T.idxOf y, Lib.hid (by unfold idxI; rw [if_pos (hasK_iff.1 hT)])⟩
            have hp0 : decide ((p : Int) < 0) = false := decide_eq_false (by omega)
            rw [hT, addK_yes (hasK_iff.1 hT)] at HSEE
            refine region_round (S := fun u : World => u.cell? ⟨w.heap.size + 2, 0, none⟩ = some (.pointer (some ⟨w.heap.size + 3, 0, none⟩)) ∧ u.cell? ⟨w.heap.size, 0, none⟩ = some (.slice (some ⟨Bm, om, none⟩) nb cb) ∧ u.cell? ⟨wr.heap.size, 0, none⟩ = some (.int .i64 (j2 : Int)) ∧ u.cell? ⟨Bm, om + j2, none⟩ = some (.int .i64 y) ∧ u.cell? ⟨w.heap.size + 4, 0, none⟩ = some (.slice (some ⟨gw, 0, none⟩) T.length cw)) hmix (by kernel_rfl) (fun KK hKK => ?_)
            have hHeld := HS24.out W.drew (Below.refl _ _).drew
            refine wpAnyH_take (i := 0) (v := ?_) rfl (by kernel_rfl) (by kernel_rfl) (by kernel_rfl) (fun _ _ _ h => by cases h.1) (Or.inl ⟨by rfl, ?_⟩) hHeld ?_
            rotate_left
            · intro u hSw
              try dsimp only at hSw
              obtain ⟨s1, s2, s3, s4, s5⟩ := hSw
              go_simp
              all_goals (with_reducible rfl)
            try simp only [List.getElem_toArray, List.getElem_cons_succ, List.getElem_cons_zero]
            try simp only [Act.put]
            try simp only [List.setIfInBounds_toArray]
            try simp only [List.set]
            refine wpAnyH_take (i := 1) (v := ?_) rfl (by kernel_rfl) (by kernel_rfl) (by kernel_rfl) (fun _ _ _ h => by cases h.1) (Or.inl ⟨by rfl, ?_⟩) hHeld ?_
            rotate_left
            · intro u hSw
              try dsimp only at hSw
              obtain ⟨s1, s2, s3, s4, s5⟩ := hSw
              go_simp
              all_goals (with_reducible rfl)
            try simp only [List.getElem_toArray, List.getElem_cons_succ, List.getElem_cons_zero]
            try simp only [Act.put]
            try simp only [List.setIfInBounds_toArray]
            try simp only [List.set]
            refine wpAnyH_take (i := 2) (v := ?_) rfl (by kernel_rfl) (by kernel_rfl) (by kernel_rfl) (fun _ _ _ h => by cases h.1) (Or.inl ⟨by rfl, ?_⟩) hHeld ?_
            rotate_left
            · intro u hSw
              try dsimp only at hSw
              obtain ⟨s1, s2, s3, s4, s5⟩ := hSw
              go_simp
              all_goals (with_reducible rfl)
            try simp only [List.getElem_toArray, List.getElem_cons_succ, List.getElem_cons_zero]
            try simp only [Act.put]
            try simp only [List.setIfInBounds_toArray]
            try simp only [List.set]
            refine wpAnyH_take (i := 3) (v := ?_) rfl (by kernel_rfl) (by kernel_rfl) (by kernel_rfl) (fun _ _ _ h => by cases h.1) (Or.inl ⟨by rfl, ?_⟩) hHeld ?_
            rotate_left
            · intro u hSw
              try dsimp only at hSw
              obtain ⟨s1, s2, s3, s4, s5⟩ := hSw
              go_simp
              all_goals (with_reducible rfl)
            try simp only [List.getElem_toArray, List.getElem_cons_succ, List.getElem_cons_zero]
            try simp only [Act.put]
            try simp only [List.setIfInBounds_toArray]
            try simp only [List.set]
            refine wpAnyH_take (i := 4) (v := ?_) rfl (by kernel_rfl) (by kernel_rfl) (by kernel_rfl) (fun _ _ _ h => by cases h.1) (Or.inl ⟨by rfl, ?_⟩) hHeld ?_
            rotate_left
            · intro u hSw
              try dsimp only at hSw
              obtain ⟨s1, s2, s3, s4, s5⟩ := hSw
              go_simp
              all_goals (with_reducible rfl)
            try simp only [List.getElem_toArray, List.getElem_cons_succ, List.getElem_cons_zero]
            try simp only [Act.put]
            try simp only [List.setIfInBounds_toArray]
            try simp only [List.set]
            refine wpAnyH_take (i := 6) (v := ?_) rfl (by kernel_rfl) (by kernel_rfl) (by kernel_rfl) (fun _ _ _ h => by cases h.1) (Or.inl ⟨by rfl, ?_⟩) hHeld ?_
            rotate_left
            · intro u hSw
              try dsimp only at hSw
              obtain ⟨s1, s2, s3, s4, s5⟩ := hSw
              go_simp
              all_goals (with_reducible rfl)
            try simp only [List.getElem_toArray, List.getElem_cons_succ, List.getElem_cons_zero]
            try simp only [Act.put]
            try simp only [List.setIfInBounds_toArray]
            try simp only [List.set]
            refine wpAnyH_take (i := 7) (v := ?_) rfl (by kernel_rfl) (by kernel_rfl) (by kernel_rfl) (fun _ _ _ h => by cases h.1) (Or.inl ⟨by rfl, ?_⟩) hHeld ?_
            rotate_left
            · intro u hSw
              try dsimp only at hSw
              obtain ⟨s1, s2, s3, s4, s5⟩ := hSw
              go_simp
              all_goals (with_reducible rfl)
            try simp only [List.getElem_toArray, List.getElem_cons_succ, List.getElem_cons_zero]
            try simp only [Act.put]
            try simp only [List.setIfInBounds_toArray]
            try simp only [List.set]
            refine wpAnyH_take (i := 8) (v := ?_) rfl (by kernel_rfl) (by kernel_rfl) (by kernel_rfl) (fun _ _ _ h => by cases h.1) (Or.inl ⟨by rfl, ?_⟩) hHeld ?_
            rotate_left
            · intro u hSw
              try dsimp only at hSw
              obtain ⟨s1, s2, s3, s4, s5⟩ := hSw
              go_simp
              all_goals (with_reducible rfl)
            try simp only [List.getElem_toArray, List.getElem_cons_succ, List.getElem_cons_zero]
            try simp only [Act.put]
            try simp only [List.setIfInBounds_toArray]
            try simp only [List.set]
            refine wpAnyH_take (i := 9) (v := ?_) rfl (by kernel_rfl) (by kernel_rfl) (by kernel_rfl) (fun _ _ _ h => by cases h.1) (Or.inl ⟨by rfl, ?_⟩) hHeld ?_
            rotate_left
            · intro u hSw
              try dsimp only at hSw
              obtain ⟨s1, s2, s3, s4, s5⟩ := hSw
              go_simp
              all_goals (with_reducible rfl)
            try simp only [List.getElem_toArray, List.getElem_cons_succ, List.getElem_cons_zero]
            try simp only [Act.put]
            try simp only [List.setIfInBounds_toArray]
            try simp only [List.set]
            refine wpAnyH_take (i := 10) (v := ?_) rfl (by kernel_rfl) (by kernel_rfl) (by kernel_rfl) (fun _ _ _ h => by cases h.1) (Or.inl ⟨by rfl, ?_⟩) hHeld ?_
            rotate_left
            · intro u hSw
              try dsimp only at hSw
              obtain ⟨s1, s2, s3, s4, s5⟩ := hSw
              go_simp
              all_goals (with_reducible rfl)
            try simp only [List.getElem_toArray, List.getElem_cons_succ, List.getElem_cons_zero]
            try simp only [Act.put]
            try simp only [List.setIfInBounds_toArray]
            try simp only [List.set]
            refine wpAnyH_ready (rs := [5]) (by kernel_rfl) (by simp) ?_
            refine AllReadyH.cons rfl (fun K hK => ?_) AllReadyH.nil
            go_simp
            go_at_call 11
            with_reducible refine (HSEE.out _ (Below.refl _ _).drew).mono ?_
            rintro ex w3 ⟨rfl, vt2, hJ3, hk3⟩
            have HJ3 := Lib.hid hJ3
            have HK3 := Lib.hid hk3
            clear hJ3 hk3
            refine hK.out _ _ ?_ (fun hHeld => ?_)
            · exact HSS.out _ _ _ _ _ HJ3.out
            clear hK K
            try simp only [List.getElem_toArray, List.getElem_cons_succ, List.getElem_cons_zero]
            try simp only [Act.put]
            try simp only [List.setIfInBounds_toArray]
            try simp only [List.set]
            refine wpAnyH_ready (rs := [11]) (by kernel_rfl) (by simp) ?_
            refine AllReadyH.cons rfl (fun K hK => ?_) AllReadyH.nil
            go_simp
            go_at_call 10
            with_reducible refine (HIX.out _ _ _ _ HJ3.out).mono ?_
            rintro ex w4 ⟨rfl, rfl⟩
            rw [HP.out]
            refine hK.out _ _ ?_ (fun hHeld => ?_)
            · exact hHeld
            clear hK K
            try simp only [List.getElem_toArray, List.getElem_cons_succ, List.getElem_cons_zero]
            try simp only [Act.put]
            try simp only [List.setIfInBounds_toArray]
            try simp only [List.set]
            refine wpAnyH_take (i := 12) (v := ?_) rfl (by kernel_rfl) (by kernel_rfl) (by kernel_rfl) (fun _ _ _ h => by cases h.1) (Or.inl ⟨by rfl, ?_⟩) hHeld ?_
            rotate_left
            · intro u hSw
              try dsimp only at hSw
              obtain ⟨s1, s2, s3, s4, s5⟩ := hSw
              go_simp
              all_goals (with_reducible rfl)
            try simp only [List.getElem_toArray, List.getElem_cons_succ, List.getElem_cons_zero]
            try simp only [Act.put]
            try simp only [List.setIfInBounds_toArray]
            try simp only [List.set]
            refine wpAnyH_take (i := 13) (v := ?_) rfl (by kernel_rfl) (by kernel_rfl) (by kernel_rfl) (fun _ _ _ h => by cases h.1) (Or.inl ⟨by rfl, ?_⟩) hHeld ?_
            rotate_left
            · intro u hSw
              try dsimp only at hSw
              obtain ⟨s1, s2, s3, s4, s5⟩ := hSw
              go_simp
              all_goals (with_reducible rfl)
            try simp only [List.getElem_toArray, List.getElem_cons_succ, List.getElem_cons_zero]
            try simp only [Act.put]
            try simp only [List.setIfInBounds_toArray]
            try simp only [List.set]
            refine wpAnyH_done (by kernel_rfl) ⟨rfl, hKK _ _ ?_⟩ _
            clear hKK hHeld
            gi_upto_region 26 with fail
            refine region_round (S := fun u : World => u.cell? ⟨w.heap.size + 2, 0, none⟩ = some (.pointer (some ⟨w.heap.size + 3, 0, none⟩)) ∧ u.cell? ⟨w.heap.size, 0, none⟩ = some (.slice (some ⟨Bm, om, none⟩) nb cb) ∧ u.cell? ⟨wr.heap.size, 0, none⟩ = some (.int .i64 (j2 : Int)) ∧ u.cell? ⟨Bm, om + j2, none⟩ = some (.int .i64 y) ∧ u.cell? ⟨w.heap.size + 4, 0, none⟩ = some (.slice (some ⟨gw, 0, none⟩) T.length cw)) hmix (by kernel_rfl) (fun KK hKK => ?_)
            have hHeld := HSS.out _ _ _ _ _ (HJ3.out.up (Below.refl _ _).drew)
            refine wpAnyH_take (i := 0) (v := ?_) rfl (by kernel_rfl) (by kernel_rfl) (by kernel_rfl) (fun _ _ _ h => by cases h.1) (Or.inl ⟨by rfl, ?_⟩) hHeld ?_
            rotate_left
            · intro u hSw
              try dsimp only at hSw
              obtain ⟨s1, s2, s3, s4, s5⟩ := hSw
              go_simp
              all_goals (with_reducible rfl)
            try simp only [List.getElem_toArray, List.getElem_cons_succ, List.getElem_cons_zero]
            try simp only [Act.put]
            try simp only [List.setIfInBounds_toArray]
            try simp only [List.set]
            refine wpAnyH_take (i := 1) (v := ?_) rfl (by kernel_rfl) (by kernel_rfl) (by kernel_rfl) (fun _ _ _ h => by cases h.1) (Or.inl ⟨by rfl, ?_⟩) hHeld ?_
            rotate_left
            · intro u hSw
              try dsimp only at hSw
              obtain ⟨s1, s2, s3, s4, s5⟩ := hSw
              go_simp
              all_goals (with_reducible rfl)
            try simp only [List.getElem_toArray, List.getElem_cons_succ, List.getElem_cons_zero]
            try simp only [Act.put]
            try simp only [List.setIfInBounds_toArray]
            try simp only [List.set]
            refine wpAnyH_take (i := 2) (v := ?_) rfl (by kernel_rfl) (by kernel_rfl) (by kernel_rfl) (fun _ _ _ h => by cases h.1) (Or.inl ⟨by rfl, ?_⟩) hHeld ?_
            rotate_left
            · intro u hSw
              try dsimp only at hSw
              obtain ⟨s1, s2, s3, s4, s5⟩ := hSw
              go_simp
              all_goals (with_reducible rfl)
            try simp only [List.getElem_toArray, List.getElem_cons_succ, List.getElem_cons_zero]
            try simp only [Act.put]
            try simp only [List.setIfInBounds_toArray]
            try simp only [List.set]
            refine wpAnyH_take (i := 3) (v := ?_) rfl (by kernel_rfl) (by kernel_rfl) (by kernel_rfl) (fun _ _ _ h => by cases h.1) (Or.inl ⟨by rfl, ?_⟩) hHeld ?_
            rotate_left
            · intro u hSw
              try dsimp only at hSw
              obtain ⟨s1, s2, s3, s4, s5⟩ := hSw
              go_simp
              all_goals (with_reducible rfl)
            try simp only [List.getElem_toArray, List.getElem_cons_succ, List.getElem_cons_zero]
            try simp only [Act.put]
            try simp only [List.setIfInBounds_toArray]
            try simp only [List.set]
            refine wpAnyH_take (i := 4) (v := ?_) rfl (by kernel_rfl) (by kernel_rfl) (by kernel_rfl) (fun _ _ _ h => by cases h.1) (Or.inl ⟨by rfl, ?_⟩) hHeld ?_
            rotate_left
            · intro u hSw
              try dsimp only at hSw
              obtain ⟨s1, s2, s3, s4, s5⟩ := hSw
              go_simp
              all_goals (with_reducible rfl)
            try simp only [List.getElem_toArray, List.getElem_cons_succ, List.getElem_cons_zero]
            try simp only [Act.put]
            try simp only [List.setIfInBounds_toArray]
            try simp only [List.set]
            refine wpAnyH_ready (rs := [5]) (by kernel_rfl) (by simp) ?_
            refine AllReadyH.cons rfl (fun K hK => ?_) AllReadyH.nil
            go_simp
            go_at_call 10
            with_reducible refine (HIX.out _ _ _ _ (HJ3.out.up (Below.refl _ _).drew)).mono ?_
            rintro ex w4 ⟨rfl, rfl⟩
            rw [HP.out]
            refine hK.out _ _ ?_ (fun hHeld => ?_)
            · exact hHeld
            clear hK K
            try simp only [List.getElem_toArray, List.getElem_cons_succ, List.getElem_cons_zero]
            try simp only [Act.put]
            try simp only [List.setIfInBounds_toArray]
            try simp only [List.set]
            refine wpAnyH_take (i := 6) (v := ?_) rfl (by kernel_rfl) (by kernel_rfl) (by kernel_rfl) (fun _ _ _ h => by cases h.1) (Or.inl ⟨by rfl, ?_⟩) hHeld ?_
            rotate_left
            · intro u hSw
              try dsimp only at hSw
              obtain ⟨s1, s2, s3, s4, s5⟩ := hSw
              go_simp
              all_goals (with_reducible rfl)
            try simp only [List.getElem_toArray, List.getElem_cons_succ, List.getElem_cons_zero]
            try simp only [Act.put]
            try simp only [List.setIfInBounds_toArray]
            try simp only [List.set]
            refine wpAnyH_done (by kernel_rfl) ⟨rfl, hKK _ _ ?_⟩ _
            clear hKK hHeld
            clear HSEE HIX HS24 HSS
            obtain ⟨k1, k2, k3, k4⟩ := jr_next (nb := nb) (HJ3.out.up (Below.refl _ _).drew) (by have := HJL.out.1; omega) (by have := HJL.out.2.1; omega) HJL.out.2.2 HTA.out
            have HK5 := Lib.hid k3
            have HK4 : Hid (KeepsFrom W1.heap.size W (w4.drew.setCell ⟨wr.heap.size, 0, none⟩ (.int .i64 ((j2 : Int) + 1)))) := Lib.hid ((HK3.out.trans (keeps_below (Below.refl _ _).drew)).trans (k4 _))
            clear k3 k4
            gi_wp2_with fail
            exact ⟨HK4.out, HK5.out⟩
          | false =>
            have hno : y ∉ T := fun h => absurd (hasK_yes h) (by rw [hT]; decide)
            have HP : Hid (idxI T y = -1) := Lib.hid (by unfold idxI; rw [if_neg hno])
            rw [hT, addK_no hno] at HSEE
            refine region_round (S := fun u : World => u.cell? ⟨w.heap.size + 2, 0, none⟩ = some (.pointer (some ⟨w.heap.size + 3, 0, none⟩)) ∧ u.cell? ⟨w.heap.size, 0, none⟩ = some (.slice (some ⟨Bm, om, none⟩) nb cb) ∧ u.cell? ⟨wr.heap.size, 0, none⟩ = some (.int .i64 (j2 : Int)) ∧ u.cell? ⟨Bm, om + j2, none⟩ = some (.int .i64 y) ∧ u.cell? ⟨w.heap.size + 4, 0, none⟩ = some (.slice (some ⟨gw, 0, none⟩) T.length cw)) hmix (by kernel_rfl) (fun KK hKK => ?_)
            have hHeld := HS24.out W.drew (Below.refl _ _).drew
            refine wpAnyH_take (i := 0) (v := ?_) rfl (by kernel_rfl) (by kernel_rfl) (by kernel_rfl) (fun _ _ _ h => by cases h.1) (Or.inl ⟨by rfl, ?_⟩) hHeld ?_
            rotate_left
            · intro u hSw
              try dsimp only at hSw
              obtain ⟨s1, s2, s3, s4, s5⟩ := hSw
              go_simp
              all_goals (with_reducible rfl)
            try simp only [List.getElem_toArray, List.getElem_cons_succ, List.getElem_cons_zero]
            try simp only [Act.put]
            try simp only [List.setIfInBounds_toArray]
            try simp only [List.set]
            refine wpAnyH_take (i := 1) (v := ?_) rfl (by kernel_rfl) (by kernel_rfl) (by kernel_rfl) (fun _ _ _ h => by cases h.1) (Or.inl ⟨by rfl, ?_⟩) hHeld ?_
            rotate_left
            · intro u hSw
              try dsimp only at hSw
              obtain ⟨s1, s2, s3, s4, s5⟩ := hSw
              go_simp
              all_goals (with_reducible rfl)
            try simp only [List.getElem_toArray, List.getElem_cons_succ, List.getElem_cons_zero]
            try simp only [Act.put]
            try simp only [List.setIfInBounds_toArray]
            try simp only [List.set]
            refine wpAnyH_take (i := 2) (v := ?_) rfl (by kernel_rfl) (by kernel_rfl) (by kernel_rfl) (fun _ _ _ h => by cases h.1) (Or.inl ⟨by rfl, ?_⟩) hHeld ?_
            rotate_left
            · intro u hSw
              try dsimp only at hSw
              obtain ⟨s1, s2, s3, s4, s5⟩ := hSw
              go_simp
              all_goals (with_reducible rfl)
            try simp only [List.getElem_toArray, List.getElem_cons_succ, List.getElem_cons_zero]
            try simp only [Act.put]
            try simp only [List.setIfInBounds_toArray]
            try simp only [List.set]
            refine wpAnyH_take (i := 3) (v := ?_) rfl (by kernel_rfl) (by kernel_rfl) (by kernel_rfl) (fun _ _ _ h => by cases h.1) (Or.inl ⟨by rfl, ?_⟩) hHeld ?_
            rotate_left
            · intro u hSw
              try dsimp only at hSw
              obtain ⟨s1, s2, s3, s4, s5⟩ := hSw
              go_simp
              all_goals (with_reducible rfl)
            try simp only [List.getElem_toArray, List.getElem_cons_succ, List.getElem_cons_zero]
            try simp only [Act.put]
            try simp only [List.setIfInBounds_toArray]
            try simp only [List.set]
            refine wpAnyH_take (i := 4) (v := ?_) rfl (by kernel_rfl) (by kernel_rfl) (by kernel_rfl) (fun _ _ _ h => by cases h.1) (Or.inl ⟨by rfl, ?_⟩) hHeld ?_
            rotate_left
            · intro u hSw
              try dsimp only at hSw
              obtain ⟨s1, s2, s3, s4, s5⟩ := hSw
              go_simp
              all_goals (with_reducible rfl)
            try simp only [List.getElem_toArray, List.getElem_cons_succ, List.getElem_cons_zero]
            try simp only [Act.put]
            try simp only [List.setIfInBounds_toArray]
            try simp only [List.set]
            refine wpAnyH_take (i := 6) (v := ?_) rfl (by kernel_rfl) (by kernel_rfl) (by kernel_rfl) (fun _ _ _ h => by cases h.1) (Or.inl ⟨by rfl, ?_⟩) hHeld ?_
            rotate_left
            · intro u hSw
              try dsimp only at hSw
              obtain ⟨s1, s2, s3, s4, s5⟩ := hSw
              go_simp
              all_goals (with_reducible rfl)
            try simp only [List.getElem_toArray, List.getElem_cons_succ, List.getElem_cons_zero]
            try simp only [Act.put]
            try simp only [List.setIfInBounds_toArray]
            try simp only [List.set]
            refine wpAnyH_take (i := 7) (v := ?_) rfl (by kernel_rfl) (by kernel_rfl) (by kernel_rfl) (fun _ _ _ h => by cases h.1) (Or.inl ⟨by rfl, ?_⟩) hHeld ?_
            rotate_left
            · intro u hSw
              try dsimp only at hSw
              obtain ⟨s1, s2, s3, s4, s5⟩ := hSw
              go_simp
              all_goals (with_reducible rfl)
            try simp only [List.getElem_toArray, List.getElem_cons_succ, List.getElem_cons_zero]
            try simp only [Act.put]
            try simp only [List.setIfInBounds_toArray]
            try simp only [List.set]
            refine wpAnyH_take (i := 8) (v := ?_) rfl (by kernel_rfl) (by kernel_rfl) (by kernel_rfl) (fun _ _ _ h => by cases h.1) (Or.inl ⟨by rfl, ?_⟩) hHeld ?_
            rotate_left
            · intro u hSw
              try dsimp only at hSw
              obtain ⟨s1, s2, s3, s4, s5⟩ := hSw
              go_simp
              all_goals (with_reducible rfl)
            try simp only [List.getElem_toArray, List.getElem_cons_succ, List.getElem_cons_zero]
            try simp only [Act.put]
            try simp only [List.setIfInBounds_toArray]
            try simp only [List.set]
            refine wpAnyH_take (i := 9) (v := ?_) rfl (by kernel_rfl) (by kernel_rfl) (by kernel_rfl) (fun _ _ _ h => by cases h.1) (Or.inl ⟨by rfl, ?_⟩) hHeld ?_
            rotate_left
            · intro u hSw
              try dsimp only at hSw
              obtain ⟨s1, s2, s3, s4, s5⟩ := hSw
              go_simp
              all_goals (with_reducible rfl)
            try simp only [List.getElem_toArray, List.getElem_cons_succ, List.getElem_cons_zero]
            try simp only [Act.put]
            try simp only [List.setIfInBounds_toArray]
            try simp only [List.set]
            refine wpAnyH_take (i := 10) (v := ?_) rfl (by kernel_rfl) (by kernel_rfl) (by kernel_rfl) (fun _ _ _ h => by cases h.1) (Or.inl ⟨by rfl, ?_⟩) hHeld ?_
            rotate_left
            · intro u hSw
              try dsimp only at hSw
              obtain ⟨s1, s2, s3, s4, s5⟩ := hSw
              go_simp
              all_goals (with_reducible rfl)
            try simp only [List.getElem_toArray, List.getElem_cons_succ, List.getElem_cons_zero]
            try simp only [Act.put]
            try simp only [List.setIfInBounds_toArray]
            try simp only [List.set]
            refine wpAnyH_ready (rs := [5]) (by kernel_rfl) (by simp) ?_
            refine AllReadyH.cons rfl (fun K hK => ?_) AllReadyH.nil
            go_simp
            go_at_call 11
            with_reducible refine (HSEE.out _ (Below.refl _ _).drew).mono ?_
            rintro ex w3 ⟨rfl, vt2, hJ3, hk3⟩
            have HJ3 := Lib.hid hJ3
            have HK3 := Lib.hid hk3
            clear hJ3 hk3
            refine hK.out _ _ ?_ (fun hHeld => ?_)
            · exact HSS.out _ _ _ _ _ HJ3.out
            clear hK K
            try simp only [List.getElem_toArray, List.getElem_cons_succ, List.getElem_cons_zero]
            try simp only [Act.put]
            try simp only [List.setIfInBounds_toArray]
            try simp only [List.set]
            refine wpAnyH_ready (rs := [11]) (by kernel_rfl) (by simp) ?_
            refine AllReadyH.cons rfl (fun K hK => ?_) AllReadyH.nil
            go_simp
            go_at_call 10
            with_reducible refine (HIX.out _ _ _ _ HJ3.out).mono ?_
            rintro ex w4 ⟨rfl, rfl⟩
            rw [HP.out]
            refine hK.out _ _ ?_ (fun hHeld => ?_)
            · exact hHeld
            clear hK K
            try simp only [List.getElem_toArray, List.getElem_cons_succ, List.getElem_cons_zero]
            try simp only [Act.put]
            try simp only [List.setIfInBounds_toArray]
            try simp only [List.set]
            refine wpAnyH_take (i := 12) (v := ?_) rfl (by kernel_rfl) (by kernel_rfl) (by kernel_rfl) (fun _ _ _ h => by cases h.1) (Or.inl ⟨by rfl, ?_⟩) hHeld ?_
            rotate_left
            · intro u hSw
              try dsimp only at hSw
              obtain ⟨s1, s2, s3, s4, s5⟩ := hSw
              go_simp
              all_goals (with_reducible rfl)
            try simp only [List.getElem_toArray, List.getElem_cons_succ, List.getElem_cons_zero]
            try simp only [Act.put]
            try simp only [List.setIfInBounds_toArray]
            try simp only [List.set]
            refine wpAnyH_take (i := 13) (v := ?_) rfl (by kernel_rfl) (by kernel_rfl) (by kernel_rfl) (fun _ _ _ h => by cases h.1) (Or.inl ⟨by rfl, ?_⟩) hHeld ?_
            rotate_left
            · intro u hSw
              try dsimp only at hSw
              obtain ⟨s1, s2, s3, s4, s5⟩ := hSw
              go_simp
              all_goals (with_reducible rfl)
            try simp only [List.getElem_toArray, List.getElem_cons_succ, List.getElem_cons_zero]
            try simp only [Act.put]
            try simp only [List.setIfInBounds_toArray]
            try simp only [List.set]
            refine wpAnyH_done (by kernel_rfl) ⟨rfl, hKK _ _ ?_⟩ _
            clear hKK hHeld
            gi_upto_region 26 with fail
            refine region_round (S := fun u : World => u.cell? ⟨w.heap.size + 2, 0, none⟩ = some (.pointer (some ⟨w.heap.size + 3, 0, none⟩)) ∧ u.cell? ⟨w.heap.size, 0, none⟩ = some (.slice (some ⟨Bm, om, none⟩) nb cb) ∧ u.cell? ⟨wr.heap.size, 0, none⟩ = some (.int .i64 (j2 : Int)) ∧ u.cell? ⟨Bm, om + j2, none⟩ = some (.int .i64 y) ∧ u.cell? ⟨w.heap.size + 4, 0, none⟩ = some (.slice (some ⟨gw, 0, none⟩) T.length cw)) hmix (by kernel_rfl) (fun KK hKK => ?_)
            have hHeld := HSS.out _ _ _ _ _ (HJ3.out.up (Below.refl _ _).drew)
            refine wpAnyH_take (i := 0) (v := ?_) rfl (by kernel_rfl) (by kernel_rfl) (by kernel_rfl) (fun _ _ _ h => by cases h.1) (Or.inl ⟨by rfl, ?_⟩) hHeld ?_
            rotate_left
            · intro u hSw
              try dsimp only at hSw
              obtain ⟨s1, s2, s3, s4, s5⟩ := hSw
              go_simp
              all_goals (with_reducible rfl)
            try simp only [List.getElem_toArray, List.getElem_cons_succ, List.getElem_cons_zero]
            try simp only [Act.put]
            try simp only [List.setIfInBounds_toArray]
            try simp only [List.set]
            refine wpAnyH_take (i := 1) (v := ?_) rfl (by kernel_rfl) (by kernel_rfl) (by kernel_rfl) (fun _ _ _ h => by cases h.1) (Or.inl ⟨by rfl, ?_⟩) hHeld ?_
            rotate_left
            · intro u hSw
              try dsimp only at hSw
              obtain ⟨s1, s2, s3, s4, s5⟩ := hSw
              go_simp
              all_goals (with_reducible rfl)
            try simp only [List.getElem_toArray, List.getElem_cons_succ, List.getElem_cons_zero]
            try simp only [Act.put]
            try simp only [List.setIfInBounds_toArray]
            try simp only [List.set]
            refine wpAnyH_take (i := 2) (v := ?_) rfl (by kernel_rfl) (by kernel_rfl) (by kernel_rfl) (fun _ _ _ h => by cases h.1) (Or.inl ⟨by rfl, ?_⟩) hHeld ?_
            rotate_left
            · intro u hSw
              try dsimp only at hSw
              obtain ⟨s1, s2, s3, s4, s5⟩ := hSw
              go_simp
              all_goals (with_reducible rfl)
            try simp only [List.getElem_toArray, List.getElem_cons_succ, List.getElem_cons_zero]
            try simp only [Act.put]
            try simp only [List.setIfInBounds_toArray]
            try simp only [List.set]
            refine wpAnyH_take (i := 3) (v := ?_) rfl (by kernel_rfl) (by kernel_rfl) (by kernel_rfl) (fun _ _ _ h => by cases h.1) (Or.inl ⟨by rfl, ?_⟩) hHeld ?_
            rotate_left
            · intro u hSw
              try dsimp only at hSw
              obtain ⟨s1, s2, s3, s4, s5⟩ := hSw
              go_simp
              all_goals (with_reducible rfl)
            try simp only [List.getElem_toArray, List.getElem_cons_succ, List.getElem_cons_zero]
            try simp only [Act.put]
            try simp only [List.setIfInBounds_toArray]
            try simp only [List.set]
            refine wpAnyH_take (i := 4) (v := ?_) rfl (by kernel_rfl) (by kernel_rfl) (by kernel_rfl) (fun _ _ _ h => by cases h.1) (Or.inl ⟨by rfl, ?_⟩) hHeld ?_
            rotate_left
            · intro u hSw
              try dsimp only at hSw
              obtain ⟨s1, s2, s3, s4, s5⟩ := hSw
              go_simp
              all_goals (with_reducible rfl)
            try simp only [List.getElem_toArray, List.getElem_cons_succ, List.getElem_cons_zero]
            try simp only [Act.put]
            try simp only [List.setIfInBounds_toArray]
            try simp only [List.set]
            refine wpAnyH_ready (rs := [5]) (by kernel_rfl) (by simp) ?_
            refine AllReadyH.cons rfl (fun K hK => ?_) AllReadyH.nil
            go_simp
            go_at_call 10
            with_reducible refine (HIX.out _ _ _ _ (HJ3.out.up (Below.refl _ _).drew)).mono ?_
            rintro ex w4 ⟨rfl, rfl⟩
            rw [HP.out]
            refine hK.out _ _ ?_ (fun hHeld => ?_)
            · exact hHeld
            clear hK K
            try simp only [List.getElem_toArray, List.getElem_cons_succ, List.getElem_cons_zero]
            try simp only [Act.put]
            try simp only [List.setIfInBounds_toArray]
            try simp only [List.set]
            refine wpAnyH_take (i := 6) (v := ?_) rfl (by kernel_rfl) (by kernel_rfl) (by kernel_rfl) (fun _ _ _ h => by cases h.1) (Or.inl ⟨by rfl, ?_⟩) hHeld ?_
            rotate_left
            · intro u hSw
              try dsimp only at hSw
              obtain ⟨s1, s2, s3, s4, s5⟩ := hSw
              go_simp
              all_goals (with_reducible rfl)
            try simp only [List.getElem_toArray, List.getElem_cons_succ, List.getElem_cons_zero]
            try simp only [Act.put]
            try simp only [List.setIfInBounds_toArray]
            try simp only [List.set]
            refine wpAnyH_done (by kernel_rfl) ⟨rfl, hKK _ _ ?_⟩ _
            clear hKK hHeld
            have HJ5 := Lib.hid (HJ3.out.up (Below.refl _ _).drew)
            have HK5 : Hid (KeepsFrom W1.heap.size W w4.drew) := Lib.hid (HK3.out.trans (keeps_below (Below.refl _ _).drew))
            generalize w4.drew = wc at *
            clear HSEE HIX HS24 HJ3 HK3
            gi_upto_region 27 with fail
            obtain ⟨i0, hi0, hz0, hz1, hz2⟩ := info_parts info_rnI
            have HI0 := Lib.hid hi0
            have HZ0 := Lib.hid hz0
            have HZ1 := Lib.hid hz1
            have HZ2 := Lib.hid hz2
            clear hi0 hz0 hz1 hz2
            have HS27 : Hid (∀ (u : World) vw vt mv T2 X2, RJ w u (.slice (some ⟨Bm, om, none⟩) nb cb) vw vt mv T2 X2 (xs wr.heap.size (wr.heap.size + 1) w.heap.size j2) → (u.cell? ⟨Bm, om + j2, none⟩ = some (.int .i64 y) ∧ u.cell? ⟨w.heap.size, 0, none⟩ = some (.slice (some ⟨Bm, om, none⟩) nb cb) ∧ u.cell? ⟨wr.heap.size, 0, none⟩ = some (.int .i64 (j2 : Int)))) := Lib.hid fun u vw vt mv T2 X2 h => by
              have hk := (h.kp wr.heap.size (.cells #[.int .i64 (j2 : Int)] 3 (0, 0)) (by simp [xs])).1
              exact ⟨(h.below.cell (World.block_lt_of_cell? w _ HYM.out)).trans HYM.out, by rw [cell_of_row _ _ 0 _ _ _ h.b3]; rfl, by rw [cell_of_row _ _ 0 _ _ _ hk]; rfl⟩
            have HJ6 := Lib.hid (HJ5.out.up ((Below.refl _ _).drew.alloc (Nat.le_refl _) (.cells #[.int .i64 y] 3)))
            have HRA := Lib.hid HJ6.out.ow
            have HNB2 : Hid (∀ j u, [Value.int .i64 y][j]? = some u → (wc.drew.alloc (.cells #[.int .i64 y] 3)).cell? ((⟨wc.heap.size, 0, none⟩ : Addr).add j) = some u) := Lib.hid (cell_one_new wc.drew _ _)
            have HTM : Hid (T.length ≤ 400) := Lib.hid (by have := HJL.out.2.2; have := HNB.out; omega)
            have HSZ : Hid (w.heap.size + 5 ≤ (wc.drew.alloc (.cells #[.int .i64 y] 3)).heap.size) := Lib.hid HJ6.out.size
            have HAL : Hid ((wc.drew.alloc (.cells #[.int .i64 y] 3)).cell? ⟨Bm, om + j2, none⟩ = some (.int .i64 y) ∧ (wc.drew.alloc (.cells #[.int .i64 y] 3)).cell? ⟨w.heap.size, 0, none⟩ = some (.slice (some ⟨Bm, om, none⟩) nb cb) ∧ (wc.drew.alloc (.cells #[.int .i64 y] 3)).cell? ⟨wr.heap.size, 0, none⟩ = some (.int .i64 (j2 : Int))) := Lib.hid (HS27.out _ _ _ _ _ _ HJ6.out)
            have HPU : Hid (∀ w9 gN cap, w9.ownsRow (w.heap.size + 5) 3 1 (.slice (some ⟨gN, 0, none⟩) (T.length + 1) cap) (T.length + 1) (encI T ++ [.int .i64 y]) → (wc.drew.alloc (.cells #[.int .i64 y] 3)).grownBy w9 (Value.slice (some ⟨gw, 0, none⟩) T.length cw).ownBlock → ((Value.slice (some ⟨gw, 0, none⟩) T.length cw).ownBlock = some gN ∨ gN = wc.heap.size + 1) →
                w9.cell? ⟨w.heap.size + 4, 0, none⟩ = some (.slice (some ⟨gw, 0, none⟩) T.length cw) ∧ w9.frozen? ⟨w.heap.size + 4, 0, none⟩ = false ∧ (RJ w (w9.setCell ⟨w.heap.size + 4, 0, none⟩ (.slice (some ⟨gN, 0, none⟩) (T.length + 1) cap)) (.slice (some ⟨Bm, om, none⟩) nb cb) (.slice (some ⟨gN, 0, none⟩) (T.length + 1) cap) vt2 mv (T ++ [y]) (T ++ [y]) (xs wr.heap.size (wr.heap.size + 1) w.heap.size j2) ∧ KeepsFrom W1.heap.size W (w9.setCell ⟨w.heap.size + 4, 0, none⟩ (.slice (some ⟨gN, 0, none⟩) (T.length + 1) cap)))
                ∧ (w9.cell? ⟨Bm, om + j2, none⟩ = some (.int .i64 y) ∧ w9.cell? ⟨w.heap.size, 0, none⟩ = some (.slice (some ⟨Bm, om, none⟩) nb cb) ∧ w9.cell? ⟨wr.heap.size, 0, none⟩ = some (.int .i64 (j2 : Int))) ∧ ((w9.setCell ⟨w.heap.size + 4, 0, none⟩ (.slice (some ⟨gN, 0, none⟩) (T.length + 1) cap)).cell? ⟨Bm, om + j2, none⟩ = some (.int .i64 y) ∧ (w9.setCell ⟨w.heap.size + 4, 0, none⟩ (.slice (some ⟨gN, 0, none⟩) (T.length + 1) cap)).cell? ⟨w.heap.size, 0, none⟩ = some (.slice (some ⟨Bm, om, none⟩) nb cb) ∧ (w9.setCell ⟨w.heap.size + 4, 0, none⟩ (.slice (some ⟨gN, 0, none⟩) (T.length + 1) cap)).cell? ⟨wr.heap.size, 0, none⟩ = some (.int .i64 (j2 : Int)))) := Lib.hid fun w9 gN cap hown hgrow hat => by
              obtain ⟨p1, p2, p3, p4⟩ := HJ5.out.push rfl ((Below.refl _ _).drew.alloc (Nat.le_refl _) (.cells #[.int .i64 y] 3)) hown hgrow (hat.imp id fun e => by rw [e]; simp)
              have q := HS27.out _ _ _ _ _ _ p3
              have hB1 : Bm ≠ w.heap.size + 4 := fun e => by have := World.block_lt_of_cell? w _ HYM.out; dsimp only at this; omega
              have hB2 : wr.heap.size ≠ w.heap.size + 4 := fun e => by have := HZR.out; omega
              refine ⟨p1, p2, ⟨p3, HK5.out.trans (p4 _)⟩, ⟨?_, ?_, ?_⟩, q⟩
              · rw [← q.1]; exact (World.cell?_setCell_far _ _ _ _ (by exact fun e => hB1 e.symm)).symm
              · rw [← q.2.1]; exact (World.cell?_setCell_far _ _ _ _ (by show w.heap.size + 4 ≠ w.heap.size; omega)).symm
              · rw [← q.2.2]; exact (World.cell?_setCell_far _ _ _ _ (by exact fun e => hB2 e.symm)).symm
            have y7a : (wc.alloc (.cells #[.int .i64 y] 3)).cell? ⟨w.heap.size + 4, 0, none⟩ = some (.slice (some ⟨gw, 0, none⟩) T.length cw) := by rw [show (wc.alloc (.cells #[.int .i64 y] 3)).cell? ⟨w.heap.size + 4, 0, none⟩ = (wc.drew.alloc (.cells #[.int .i64 y] 3)).cell? ⟨w.heap.size + 4, 0, none⟩ from rfl, cell_of_row _ _ 0 _ _ _ HJ6.out.b7]; rfl
            have y7 : wc.cell? ⟨w.heap.size + 4, 0, none⟩ = some (.slice (some ⟨gw, 0, none⟩) T.length cw) := by rw [cell_of_row _ _ 0 _ _ _ HJ5.out.b7]; rfl
            have HH0 := Lib.hid (HS27.out _ _ _ _ _ _ (HJ5.out.up (Below.refl _ _).drew))
            clear HJ6 HS27
            refine region_round (S := fun u : World => u.cell? ⟨Bm, om + j2, none⟩ = some (.int .i64 y) ∧ u.cell? ⟨w.heap.size, 0, none⟩ = some (.slice (some ⟨Bm, om, none⟩) nb cb) ∧ u.cell? ⟨wr.heap.size, 0, none⟩ = some (.int .i64 (j2 : Int))) hmix (by kernel_rfl) (fun KK hKK => ?_)
            have hHeld := HH0.out
            refine wpAnyH_take (i := 1) (v := ?_) rfl (by kernel_rfl) (by kernel_rfl) (by kernel_rfl) (fun _ _ _ h => by cases h.1) (Or.inl ⟨by rfl, ?_⟩) hHeld ?_
            rotate_left
            · intro u hSw
              try dsimp only at hSw
              try obtain ⟨s1, s2, s3⟩ := hSw
              go_simp
              all_goals (with_reducible rfl)
            try simp only [List.getElem_toArray, List.getElem_cons_succ, List.getElem_cons_zero]
            try simp only [Act.put]
            try simp only [List.setIfInBounds_toArray]
            try simp only [List.set]
            refine wpAnyH_take (i := 2) (v := ?_) rfl (by kernel_rfl) (by kernel_rfl) (by kernel_rfl) (fun _ _ _ h => by cases h.1) (Or.inl ⟨by rfl, ?_⟩) hHeld ?_
            rotate_left
            · intro u hSw
              try dsimp only at hSw
              try obtain ⟨s1, s2, s3⟩ := hSw
              go_simp
              all_goals (with_reducible rfl)
            try simp only [List.getElem_toArray, List.getElem_cons_succ, List.getElem_cons_zero]
            try simp only [Act.put]
            try simp only [List.setIfInBounds_toArray]
            try simp only [List.set]
            refine wpAnyH_take (i := 3) (v := ?_) rfl (by kernel_rfl) (by kernel_rfl) (by kernel_rfl) (fun _ _ _ h => by cases h.1) (Or.inl ⟨by rfl, ?_⟩) hHeld ?_
            rotate_left
            · intro u hSw
              try dsimp only at hSw
              try obtain ⟨s1, s2, s3⟩ := hSw
              go_simp
              all_goals (with_reducible rfl)
            try simp only [List.getElem_toArray, List.getElem_cons_succ, List.getElem_cons_zero]
            try simp only [Act.put]
            try simp only [List.setIfInBounds_toArray]
            try simp only [List.set]
            refine wpAnyH_take (i := 4) (v := ?_) rfl (by kernel_rfl) (by kernel_rfl) (by kernel_rfl) (fun _ _ _ h => by cases h.1) (Or.inl ⟨by rfl, ?_⟩) hHeld ?_
            rotate_left
            · intro u hSw
              try dsimp only at hSw
              try obtain ⟨s1, s2, s3⟩ := hSw
              go_simp
              all_goals (with_reducible rfl)
            try simp only [List.getElem_toArray, List.getElem_cons_succ, List.getElem_cons_zero]
            try simp only [Act.put]
            try simp only [List.setIfInBounds_toArray]
            try simp only [List.set]
            refine wpAnyH_ready (rs := [0, 5]) (by kernel_rfl) (by simp) ?_
            refine AllReadyH.cons rfl (fun K hK => ?_) (AllReadyH.cons rfl (fun K hK => ?_) AllReadyH.nil)
            · go_simp
              refine hK.out _ _ ?_ (fun hHeld => ?_)
              · exact hHeld
              clear hK K
              try simp only [List.getElem_toArray, List.getElem_cons_succ, List.getElem_cons_zero]
              try simp only [Act.put]
              try simp only [List.setIfInBounds_toArray]
              try simp only [List.set]
              refine wpAnyH_ready (rs := [5]) (by kernel_rfl) (by simp) ?_
              refine AllReadyH.cons rfl (fun K hK => ?_) AllReadyH.nil
              go_simp
              refine hK.out _ _ ?_ (fun hHeld => ?_)
              · exact HAL.out
              clear hK K
              try simp only [List.getElem_toArray, List.getElem_cons_succ, List.getElem_cons_zero]
              try simp only [Act.put]
              try simp only [List.setIfInBounds_toArray]
              try simp only [List.set]
              refine wpAnyH_ready (rs := [6]) (by kernel_rfl) (by simp) ?_
              refine AllReadyH.cons rfl (fun K hK => ?_) AllReadyH.nil
              refine step_append_lies _ rfl (.tmp 116) (.tmp 121) 38 rfl (w.heap.size + 5) 3 i0 (.int .i64 0) 1 8 Try.underlying38 HI0.out HZ0.out HZ1.out HZ2.out rfl (by decide) (.slice (some ⟨gw, 0, none⟩) T.length cw) T.length (encI T) (by rfl) HRA.out ⟨wc.heap.size, 0, none⟩ 1 1 [.int .i64 y] (by rfl) rfl HNB2.out (by intro u hu; simp at hu; subst hu; rfl) (by decide) (by have := HTM.out; unfold maxLen; omega) (by have := HTM.out; omega) HSZ.out (wc.heap.size + 1) (by simp) ?_
              intro gN cap w9 hown hgrow hat hlt4
              obtain ⟨c7, f7, hpp, hss⟩ := HPU.out w9 gN cap hown hgrow hat
              have HPP := Lib.hid hpp
              clear hpp hown hgrow hat hlt4
              refine hK.out _ _ ?_ (fun hHeld => ?_)
              · exact hss.1
              clear hK K
              try simp only [List.getElem_toArray, List.getElem_cons_succ, List.getElem_cons_zero]
              try simp only [Act.put]
              try simp only [List.setIfInBounds_toArray]
              try simp only [List.set]
              refine wpAnyH_ready (rs := [7]) (by kernel_rfl) (by simp) ?_
              refine AllReadyH.cons rfl (fun K hK => ?_) AllReadyH.nil
              go_simp
              refine hK.out _ _ ?_ (fun hHeld => ?_)
              · exact hss.2
              clear hK K
              try simp only [List.getElem_toArray, List.getElem_cons_succ, List.getElem_cons_zero]
              try simp only [Act.put]
              try simp only [List.setIfInBounds_toArray]
              try simp only [List.set]
              refine wpAnyH_done (by kernel_rfl) ⟨rfl, hKK _ _ ?_⟩ _
              clear hKK hHeld hss c7 f7
              obtain ⟨k1, k2, k3, k4⟩ := jr_next (nb := nb) HPP.out.1 (by have := HJL.out.1; simp; omega) (by have := HJL.out.2.1; simp; omega) (by have := HJL.out.2.1; simp; omega) (fun z hz => List.mem_append_left _ (HTA.out z hz))
              have HK6 := Lib.hid k3
              have HK4 := Lib.hid (HPP.out.2.trans (k4 W1.heap.size))
              clear k3 k4
              gi_wp2_with fail
              exact ⟨HK4.out, HK6.out⟩
            · go_simp
              refine hK.out _ _ ?_ (fun hHeld => ?_)
              · exact HAL.out
              clear hK K
              try simp only [List.getElem_toArray, List.getElem_cons_succ, List.getElem_cons_zero]
              try simp only [Act.put]
              try simp only [List.setIfInBounds_toArray]
              try simp only [List.set]
              refine wpAnyH_ready (rs := [0]) (by kernel_rfl) (by simp) ?_
              refine AllReadyH.cons rfl (fun K hK => ?_) AllReadyH.nil
              go_simp
              refine hK.out _ _ ?_ (fun hHeld => ?_)
              · exact hHeld
              clear hK K
              try simp only [List.getElem_toArray, List.getElem_cons_succ, List.getElem_cons_zero]
              try simp only [Act.put]
              try simp only [List.setIfInBounds_toArray]
              try simp only [List.set]
              refine wpAnyH_ready (rs := [6]) (by kernel_rfl) (by simp) ?_
              refine AllReadyH.cons rfl (fun K hK => ?_) AllReadyH.nil
              refine step_append_lies _ rfl (.tmp 116) (.tmp 121) 38 rfl (w.heap.size + 5) 3 i0 (.int .i64 0) 1 8 Try.underlying38 HI0.out HZ0.out HZ1.out HZ2.out rfl (by decide) (.slice (some ⟨gw, 0, none⟩) T.length cw) T.length (encI T) (by rfl) HRA.out ⟨wc.heap.size, 0, none⟩ 1 1 [.int .i64 y] (by rfl) rfl HNB2.out (by intro u hu; simp at hu; subst hu; rfl) (by decide) (by have := HTM.out; unfold maxLen; omega) (by have := HTM.out; omega) HSZ.out (wc.heap.size + 1) (by simp) ?_
              intro gN cap w9 hown hgrow hat hlt4
              obtain ⟨c7, f7, hpp, hss⟩ := HPU.out w9 gN cap hown hgrow hat
              have HPP := Lib.hid hpp
              clear hpp hown hgrow hat hlt4
              refine hK.out _ _ ?_ (fun hHeld => ?_)
              · exact hss.1
              clear hK K
              try simp only [List.getElem_toArray, List.getElem_cons_succ, List.getElem_cons_zero]
              try simp only [Act.put]
              try simp only [List.setIfInBounds_toArray]
              try simp only [List.set]
              refine wpAnyH_ready (rs := [7]) (by kernel_rfl) (by simp) ?_
              refine AllReadyH.cons rfl (fun K hK => ?_) AllReadyH.nil
              go_simp
              refine hK.out _ _ ?_ (fun hHeld => ?_)
              · exact hss.2
              clear hK K
              try simp only [List.getElem_toArray, List.getElem_cons_succ, List.getElem_cons_zero]
              try simp only [Act.put]
              try simp only [List.setIfInBounds_toArray]
              try simp only [List.set]
              refine wpAnyH_done (by kernel_rfl) ⟨rfl, hKK _ _ ?_⟩ _
              clear hKK hHeld hss c7 f7
              obtain ⟨k1, k2, k3, k4⟩ := jr_next (nb := nb) HPP.out.1 (by have := HJL.out.1; simp; omega) (by have := HJL.out.2.1; simp; omega) (by have := HJL.out.2.1; simp; omega) (fun z hz => List.mem_append_left _ (HTA.out z hz))
              have HK6 := Lib.hid k3
              have HK4 := Lib.hid (HPP.out.2.trans (k4 W1.heap.size))
              clear k3 k4
              gi_wp2_with fail
              exact ⟨HK4.out, HK6.out⟩
        · have hmI : ¬ (j2 : Int) < (nb : Int) := by omega
          have hmd : decide ((j2 : Int) < (nb : Int)) = false := decide_eq_false hmI
          obtain ⟨k1, k2, k3, k4⟩ := jr_next (nb := nb) HJ.out (by have := HJL.out.1; omega) (by have := HJL.out.2.1; omega) HJL.out.2.2 HTA.out
          have HK3 := Lib.hid k3
          have HK4 := Lib.hid k4
          clear k3 k4
          gi_wp2_with fail
          exact ⟨HK4.out _, HK3.out⟩
      case done =>
        rintro D j W hD h hle hDD
        obtain ⟨vw2, vt2, T2, hJ, h1, h2, h3, h4⟩ := h
        have hjT : j = T2.length := by
          obtain ⟨T', ha', hl'⟩ := hle
          have := hJ.rn.thg_len ha'
          omega
        subst hjT
        have HJ := Lib.hid hJ
        have HTA := Lib.hid h4
        have HT4 : Hid (T2.length ≤ 400) := Lib.hid (by have := HNB.out; omega)
        have HDD := Lib.hid hDD
        have hT4 : (T2.length : Int) ≤ 400 := by have := HT4.out; omega
        clear hJ h1 h2 h3 h4 hle hDD HMB HJR
        obtain ⟨qw, cw, e⟩ := own_form HJ.out.ow
        subst e
        subst hA0
        generalize wr.heap.size = bn at *
        go_upto_region 30 with fail
        go_loopw [14] (fun iv wx => ∃ k : Nat, k ≤ i ∧ iv = .int .i64 (k : Int) ∧ Hid (Below W.heap.size W wx)) (fun iv _ => i - (intOf iv).toNat)
        case atStart => exact ⟨0, by omega, by go_num, Lib.hid (Below.refl _ _)⟩
        case round =>
          obtain ⟨k, hk, rfl, HBZ⟩ := hrel
          have HJZ := Lib.hid (HJ.out.up HBZ.out)
          by_cases hlt : k < i
          · obtain ⟨B, o, rfl, hat⟩ := (HA.out.below HJZ.out.below).2 (by omega)
            have z := hat k hlt
            have hin : (k : Int) < (i : Int) := by omega
            have hk2 : (k : Int) ≤ 200 := by have := HNA.out; omega
            have HLT : Hid (k + 1 ≤ i) := Lib.hid hlt
            obtain ⟨x, HX⟩ : ∃ x, Hid (a.getD k 0 = x) := ⟨_, Lib.hid rfl⟩
            rw [HX.out] at z
            have hxm : x ∈ a := by rw [← HX.out, List.getD_eq_getElem?_getD, List.getElem?_eq_getElem (by have := HA.out.1; omega)]; exact List.getElem_mem _
            have hxT := HTA.out x hxm
            obtain ⟨p, HP, HP2⟩ : ∃ p : Nat, Hid (idxI T2 x = (p : Int)) ∧ Hid ((posF T2 x).getD 0 = p) := ⟨T2.idxOf x, Lib.hid (by unfold idxI; rw [if_pos hxT]), Lib.hid (by unfold posF; rw [if_pos hxT]; rfl)⟩
            have HPL : Hid (∀ u, Below wr.heap.size wr u → Calls Try.prog 13 #[.pointer (some ⟨w.heap.size + 3, 0, none⟩), .int .i64 x] u fun e w' => e = .returned (.tuple #[.int .i64 (p : Int), .bool true]) ∧ u = w') := Lib.hid fun u hb => by
              have h := rnI_place (HJZ.out.up hb).rn x (HFA.out x hxm)
              rw [HP2.out, hasK_yes hxT] at h
              exact h.mono fun _ _ h => ⟨h.1, h.2.symm⟩
            have HIX : Hid (∀ u, Below wr.heap.size wr u → Calls Try.prog 10 #[.slice qw T2.length cw, .int .i64 x] u fun e w' => e = .returned (.int .i64 (p : Int)) ∧ u = w') := Lib.hid fun u hb => by
              have h := index_any qw T2.length cw T2 u (Ints.own (HJZ.out.up hb).ow) (by have := HT4.out; omega) x
              rw [HP.out] at h
              exact h.mono fun _ _ h => ⟨h.1, h.2.symm⟩
            have HC : Hid (∀ u, Below wr.heap.size wr u → u.cell? ⟨w.heap.size + 2, 0, none⟩ = some (.pointer (some ⟨w.heap.size + 3, 0, none⟩)) ∧ u.cell? ⟨B, o + k, none⟩ = some (.int .i64 x) ∧ u.cell? ⟨w.heap.size + 4, 0, none⟩ = some (.slice qw T2.length cw)) := Lib.hid fun u hb => ⟨by rw [cell_of_row _ _ 0 _ _ _ (HJZ.out.up hb).b5]; rfl, (hb.cell (World.block_lt_of_cell? wr _ z)).trans z, by rw [cell_of_row _ _ 0 _ _ _ (HJZ.out.up hb).b7]; rfl⟩
            clear hat z hxm hxT HP HP2 HX
            have y0 : ∀ s : In wr, s.1.cell? ⟨w.heap.size + 2, 0, none⟩ = some (.pointer (some ⟨w.heap.size + 3, 0, none⟩)) := fun s => (HC.out _ s.2).1
            have y1 : ∀ s : In wr, s.1.cell? ⟨B, o + k, none⟩ = some (.int .i64 x) := fun s => (HC.out _ s.2).2.1
            have y2 : ∀ s : In wr, s.1.cell? ⟨w.heap.size + 4, 0, none⟩ = some (.slice qw T2.length cw) := fun s => (HC.out _ s.2).2.2
            have hne := In.some wr
            go_upto_region 32 with fail
            refine region_in wr (by kernel_rfl) (by kernel_rfl) (Below.refl _ _) ?_
            repeat (go_big_quiet_step ((first | (go_at_call 13; exact Calls.quiet_in_same (HPL.out _ (by exact Subtype.property _))))))
            refine wpQuiet_nil ?_
            rintro w32 ⟨s, rfl⟩
            go_upto_region 33 with fail
            refine region_in wr (by kernel_rfl) (by kernel_rfl) s.2 ?_
            repeat (go_big_quiet_step ((first | (go_at_call 10; exact Calls.quiet_in_same (HIX.out _ (by exact Subtype.property _))))))
            refine wpQuiet_nil ?_
            rintro w33 ⟨s2, rfl⟩
            have HS2 := Lib.hid s2.2
            clear y0 y1 y2 hne
            go_wp2_with fail
            go_roundw
            case rel => exact ⟨k + 1, HLT.out, by go_num, Lib.hid (HBZ.out.trans (HS2.out.mono HBZ.out.size))⟩
            case measure => simp [intOf]; omega
          · obtain rfl : k = i := by omega
            have HDV : Hid (wr.heap[D]? = some (.deferred (some []))) := Lib.hid ((HBZ.out.block D (lt_of_some HDD.out)).trans HDD.out)
            have HS1 : Hid (Calls Try.prog 14 #[.pointer (some ⟨wr.heap.size, 0, none⟩), .string ⟨#[97]⟩] (wr.alloc (.cells #[.slice none 0 0, .map none] 53)) fun e w' => e = .returned (.bool true) ∧ WordsJ wr w' [[97]]) := Lib.hid (words_new wr)
            have HS2 : Hid (∀ u, WordsJ wr u [[97]] → Calls Try.prog 14 #[.pointer (some ⟨wr.heap.size, 0, none⟩), .string ⟨#[97]⟩] u fun e w' => e = .returned (.bool false) ∧ WordsJ wr w' [[97]]) := Lib.hid fun u h => h.again
            have HS3 : Hid (∀ u, WordsJ wr u [[97]] → Calls Try.prog 15 #[.pointer (some ⟨wr.heap.size, 0, none⟩), .string ⟨#[98]⟩] u fun e w' => e = .returned (.tuple #[.int .i64 0, .bool false]) ∧ w' = u) := Lib.hid fun u h => h.place
            have hnf : ∀ (v : Array Value) (u : World), (binOp .eql 46 (.func (.func 28) #[] v) .nilFunc).run Try.prog u = .ok (.bool false) u := fun _ _ => rfl
            clear HJ HBZ HDD HTA hk hlt
            go_upto_region 36 with fail
            go_upto_region 37 with (go_at_call 14; first
              | (with_reducible refine HS1.out.mono ?_; rintro ex w1 ⟨rfl, hw1⟩; have HW1 := Lib.hid hw1; clear hw1 HS1)
              | (with_reducible refine (HS2.out _ HW1.out).mono ?_; rintro ex w2 ⟨rfl, hw2⟩; have HW2 := Lib.hid hw2; clear hw2))
            go_upto_region 39 with (first
              | (go_at_call 15; with_reducible refine (HS3.out _ HW2.out).mono ?_; rintro ex w3 ⟨rfl, rfl⟩)
              | (go_at_call 13; with_reducible refine (nilI_place _ _).mono ?_; rintro ex w3 ⟨rfl, rfl⟩))
            go_upto_region 41 with (go_at_call 12; with_reducible refine (allI_any _ _).mono ?_; rintro ex w3 ⟨rfl, rfl⟩)
            go_upto_region 43 with fail
            clear hnf HS2 HS3
            have HB3 : Hid (Below wr.heap.size wr ((w3.alloc (.cells #[.int .i64 0] 3)).alloc (.cells #[.pointer none] 39))) := Lib.hid ((HW2.out.1.alloc HW2.out.1.size _).alloc (by have := HW2.out.1.size; simp; omega) _)
            have HCN : Hid (((w3.alloc (.cells #[.int .i64 0] 3)).alloc (.cells #[.pointer none] 39)).heap[w3.heap.size]? = some (.cells #[.int .i64 0] 3 (0, 0))) := Lib.hid ((heap_alloc_old _ _ (by simp)).trans (heap_alloc_new _ _))
            have HCP : Hid (((w3.alloc (.cells #[.int .i64 0] 3)).alloc (.cells #[.pointer none] 39)).heap[w3.heap.size + 1]? = some (.cells #[.pointer none] 39 (0, 0))) := Lib.hid (by
              have := heap_alloc_new (w3.alloc (.cells #[.int .i64 0] 3)) (.cells #[.pointer none] 39); rwa [World.size_alloc] at this)
            have HZ3 : Hid (wr.heap.size ≤ w3.heap.size) := Lib.hid HW2.out.1.size
            clear HW1 HW2
            generalize (w3.alloc (.cells #[.int .i64 0] 3)).alloc (.cells #[.pointer none] 39) = V at *
            generalize w3.heap.size = b24 at *
            go_wp2_with fail
            refine (wpIn_wide (n := 5)).1 (gen_act ?_)
            intro A2 hA2
            refine wpIn_rangeJ rfl (by omega) (gf := 28) (lb := #[.pointer (some ⟨b24 + 1, 0, none⟩)]) (by rw [hA2]; rfl) trivial (enters_of Try.func28 (by kernel_rfl) rfl) (allN_seq 4 (by omega) (b24 + 1)) (fun _ => rfl)
              (fun j W => j = 0 ∧ Below V.heap.size V W) (below_own V)
              (fun j W h => by show W.cell? _ = _; rw [(h.2.cell (p := ⟨b24 + 1, 0, none⟩) (lt_of_some HCP.out)), cell_of_row _ _ 0 _ _ _ HCP.out]; rfl) (fun j u W W' row _ _ _ => trivial) ⟨rfl, Below.refl _ _⟩
              (fun j x a' W => False)
              (fun _ _ _ u W W' row h _ _ => h) (fun _ _ _ _ _ _ hx _ => hx.elim) (fun _ _ _ _ _ _ h => h.elim) ?done2
            case done2 =>
              rintro D2 j2 U hD2 ⟨_, hBU⟩ _ hDD2
              have HBU := Lib.hid hBU
              have HD2 := Lib.hid hDD2
              clear hBU hDD2
              subst hA2
              have HUW : Hid (Below wr.heap.size wr U) := Lib.hid (HB3.out.trans (HBU.out.mono HB3.out.size))
              have HJU := Lib.hid (HJZ.out.up HUW.out)
              have HCU : Hid (U.heap[b24]? = some (.cells #[.int .i64 0] 3 (0, 0))) := Lib.hid ((HBU.out.block _ (lt_of_some HCN.out)).trans HCN.out)
              have HDU : Hid (U.heap[D]? = some (.deferred (some []))) := Lib.hid ((HUW.out.block _ (lt_of_some HDV.out)).trans HDV.out)
              have HZB : Hid (w.heap.size + 5 ≤ b24 ∧ w.heap.size + 5 ≤ D ∧ w.heap.size + 5 ≤ D2 ∧ D ≠ D2) := Lib.hid (by
                have h1 := HJZ.out.size
                have h2 := HZ3.out
                have h3 := lt_of_some HDV.out
                have h4 := HB3.out.size
                have h5 := HZ1.out
                have h6 := HZR.out
                exact ⟨by omega, by omega, by omega, by omega⟩)
              have HC : Hid (∀ u, Below U.heap.size U u → u.cell? ⟨bn, 0, none⟩ = some (.int .i64 (T2.length : Int)) ∧ u.cell? ⟨w.heap.size + 4, 0, none⟩ = some (.slice qw T2.length cw) ∧ u.cell? ⟨w.heap.size + 2, 0, none⟩ = some (.pointer (some ⟨w.heap.size + 3, 0, none⟩)) ∧ u.cell? ⟨b24, 0, none⟩ = some (.int .i64 0)) := Lib.hid fun u hb => by
                have h := HJU.out.up hb
                have hk := (h.kp bn (.cells #[.int .i64 (T2.length : Int)] 3 (0, 0)) (by simp [xs])).1
                exact ⟨by rw [cell_of_row _ _ 0 _ _ _ hk]; rfl, by rw [cell_of_row _ _ 0 _ _ _ h.b7]; rfl, by rw [cell_of_row _ _ 0 _ _ _ h.b5]; rfl, by rw [cell_of_row _ _ 0 _ _ _ ((hb.block _ (lt_of_some HCU.out)).trans HCU.out)]; rfl⟩
              have HLEN : Hid (∀ u, Below U.heap.size U u → Calls Try.prog 16 #[.pointer (some ⟨w.heap.size + 3, 0, none⟩)] u fun e w' => e = .returned (.int .i64 (T2.length : Int)) ∧ w' = u) := Lib.hid fun u hb => rnI_len (HJU.out.up hb).rn.thg
              have HFIN : Hid (∀ u, Below U.heap.size U u → u.cell? ⟨w.heap.size + 1, 0, none⟩ = some (.bool false) ∧ u.frozen? ⟨w.heap.size + 1, 0, none⟩ = false ∧
                  ((u.setCell ⟨w.heap.size + 1, 0, none⟩ (.bool true)).cell? ⟨bn, 0, none⟩ = some (.int .i64 (T2.length : Int)) ∧ (u.setCell ⟨w.heap.size + 1, 0, none⟩ (.bool true)).cell? ⟨w.heap.size + 4, 0, none⟩ = some (.slice qw T2.length cw) ∧ (u.setCell ⟨w.heap.size + 1, 0, none⟩ (.bool true)).cell? ⟨w.heap.size + 2, 0, none⟩ = some (.pointer (some ⟨w.heap.size + 3, 0, none⟩)) ∧ (u.setCell ⟨w.heap.size + 1, 0, none⟩ (.bool true)).cell? ⟨b24, 0, none⟩ = some (.int .i64 0)) ∧
                  (u.setCell ⟨w.heap.size + 1, 0, none⟩ (.bool true)).heap[D2]? = some (.deferred (some [])) ∧ ((u.setCell ⟨w.heap.size + 1, 0, none⟩ (.bool true)).putObj D2 (.deferred none)).heap[D]? = some (.deferred (some [])) ∧
                  (((u.setCell ⟨w.heap.size + 1, 0, none⟩ (.bool true)).putObj D2 (.deferred none)).putObj D (.deferred none)).cell? ⟨w.heap.size + 1, 0, none⟩ = some (.bool true) ∧
                  Below w.heap.size w (((u.setCell ⟨w.heap.size + 1, 0, none⟩ (.bool true)).putObj D2 (.deferred none)).putObj D (.deferred none))) := Lib.hid fun u hb => by
                have h := HJU.out.up hb
                obtain ⟨c1, c2, c3, c4⟩ := HC.out u hb
                obtain ⟨z1, z2, z3, z4⟩ := HZB.out
                have h6 := HZR.out
                have hs := heap_setCell_same u (w.heap.size + 1) 0 _ _ (.bool true) h.b4
                have ho : ∀ k, k ≠ w.heap.size + 1 → (u.setCell ⟨w.heap.size + 1, 0, none⟩ (.bool true)).heap[k]? = u.heap[k]? := fun k hk => heap_setCell_other _ _ _ _ hk
                have far : ∀ k, w.heap.size + 1 ≠ k → ∀ v, u.cell? ⟨k, 0, none⟩ = some v → (u.setCell ⟨w.heap.size + 1, 0, none⟩ (.bool true)).cell? ⟨k, 0, none⟩ = some v := fun k hk v hv => (World.cell?_setCell_far _ _ _ _ (by exact hk)).trans hv
                have d2 : (u.setCell ⟨w.heap.size + 1, 0, none⟩ (.bool true)).heap[D2]? = some (.deferred (some [])) := (ho D2 (by omega)).trans ((hb.block _ (lt_of_some HD2.out)).trans HD2.out)
                have d1 : (u.setCell ⟨w.heap.size + 1, 0, none⟩ (.bool true)).heap[D]? = some (.deferred (some [])) := (ho D (by omega)).trans ((hb.block _ (lt_of_some HDU.out)).trans HDU.out)
                have p1 : ((u.setCell ⟨w.heap.size + 1, 0, none⟩ (.bool true)).putObj D2 (.deferred none)).heap[D]? = some (.deferred (some [])) := (World.putObj_heap_other (by omega)).trans d1
                have pp : ∀ k, k ≠ D → k ≠ D2 → (((u.setCell ⟨w.heap.size + 1, 0, none⟩ (.bool true)).putObj D2 (.deferred none)).putObj D (.deferred none)).heap[k]? = (u.setCell ⟨w.heap.size + 1, 0, none⟩ (.bool true)).heap[k]? := fun k h1 h2 => (World.putObj_heap_other (by omega)).trans (World.putObj_heap_other (by omega))
                refine ⟨by rw [cell_of_row _ _ 0 _ _ _ h.b4]; rfl, frozen_of_row _ _ 0 _ _ h.b4, ⟨far _ (by omega) _ c1, far _ (by omega) _ c2, far _ (by omega) _ c3, far _ (by omega) _ c4⟩, d2, p1, ?_, ?_⟩
                · rw [cell_of_row _ _ 0 _ _ _ ((pp _ (by omega) (by omega)).trans hs)]; rfl
                · have h1 : Below w.heap.size w (u.setCell ⟨w.heap.size + 1, 0, none⟩ (.bool true)) := h.below.setCell (by show w.heap.size ≤ w.heap.size + 1; omega) _
                  exact h1.trans ⟨rfl, rfl, rfl, by simp [World.putObj], fun k hk => pp k (by omega) (by omega)⟩
              clear HDV HB3 HCN HCP HBU HD2 HUW HJZ HCU HDU HZB HJU HNA HA HB HFA HFB HZ3
              obtain ⟨z1, z2, z3, z4⟩ := HC.out _ (Below.refl _ _)
              go_upto_region 45 with fail
              go_region_held3 (fun u : World => u.cell? ⟨bn, 0, none⟩ = some (.int .i64 (T2.length : Int)) ∧ u.cell? ⟨w.heap.size + 4, 0, none⟩ = some (.slice qw T2.length cw) ∧ u.cell? ⟨w.heap.size + 2, 0, none⟩ = some (.pointer (some ⟨w.heap.size + 3, 0, none⟩)) ∧ u.cell? ⟨b24, 0, none⟩ = some (.int .i64 0)) ((first
                  | with_reducible exact ⟨z1, z2, z3, z4⟩
                  | with_reducible exact ⟨q1, q2, q3, q4⟩
                  | go_keep)) (first
                | (go_at_call 16
                   with_reducible refine (HLEN.out _ ?hyp).mono ?_
                   case hyp => exact (Below.refl _ _).drew
                   rintro ex wa ⟨rfl, rfl⟩)
                | (go_at_call 16
                   with_reducible refine (nilI_len _).mono ?_
                   rintro ex wa ⟨rfl, rfl⟩)
                | (go_at_call 11
                   with_reducible refine (nilI_see _ _).mono ?_
                   rintro ex wa ⟨rfl, rfl⟩)
                | (go_at_call 6
                   with_reducible refine (lives14_any _).mono ?_
                   rintro ex wL ⟨rfl, hbL⟩
                   have HBL : Hid (Below U.heap.size U wL) := Lib.hid ((Below.refl _ _).drew.trans hbL)
                   obtain ⟨c4, f4, ⟨q1, q2, q3, q4⟩, hrest⟩ := HFIN.out _ HBL.out
                   have HREST := Lib.hid hrest
                   clear hrest hbL
                   obtain ⟨z1, z2, z3, z4⟩ := HC.out _ HBL.out))
              obtain ⟨d2, d1, t4, hbw⟩ := HREST.out
              have HBW := Lib.hid hbw
              clear hbw
              go_wp2_with fail
              refine ⟨by simp, .inl ⟨_, _, rfl, run_takeDeferred d2, ?_⟩⟩
              refine ⟨by simp, .inl ⟨_, _, rfl, run_takeDeferred d1, ?_⟩⟩
              refine ⟨.bool true, ?_, rfl, HBW.out⟩
              simp [results, Try.f4, go_sem, t4]
end Go.Proofs.Ytekmboolfjicbaa
end
