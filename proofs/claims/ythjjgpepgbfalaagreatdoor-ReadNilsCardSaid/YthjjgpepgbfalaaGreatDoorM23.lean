/- Texts RdL3 to RngF of this seat, laid into one. -/
import Derived.Test.YthjjgpepgbfalaaGreatDoorM02
import Derived.Test.YthjjgpepgbfalaaGreatDoorM21
import Derived.Test.YthjjgpepgbfalaaGreatDoorM22
set_option linter.unusedVariables false
set_option linter.unusedSimpArgs false
set_option linter.constructorNameAsVariable false
section
/-! A datum's value made. -/
set_option maxRecDepth 20000
set_option linter.unusedSimpArgs false
set_option linter.unusedVariables false
namespace Go.Proofs.YthjjgpepgbfalaaGreatDoor
open Go.RowKit Go.Shelf

theorem buildB (q : Option Addr) (n c : Nat) : ∀ u : World, (Instr.build 103 #[(0, .int .i64 3), (2, .slice q n c)]).run Tryz.prog u = .ok (.agg #[.int .i64 3, .slice none 0 0, .slice q n c]) u := fun u => run_build u _ _ _ (by kernel_rfl)
section
variable {w w1 w2 w3 w' : World} {g gt : Nat} {F : Nat → Prop} {Ft : List Nat} {m m' : Hm} {N N' : List ByteArray} {S : Nat → Nat} {V : Nat → Value} {A : List Nd}
/-- Behind what makes the value: both boxes, and the end. -/
structure BareE (w w5 : World) (g gt : Nat) (F : Nat → Prop) (Ft : List Nat) (m' : Hm) (N' : List ByteArray) (x y : Int) : Prop where
  b6 : Bx2 w5 w.heap.size (.int .i64 0) (.int .i64 0)
  b7 : Bx2 w5 (w.heap.size + 1) (.int .i64 0) (.int .i64 0)
  row : ((((w5.setCell ⟨w.heap.size + 1, 0, none⟩ (.int .i64 x)).setCell ⟨w.heap.size + 1, 1, none⟩ (.int .i64 y)).setCell ⟨w.heap.size, 0, none⟩ (.int .i64 x)).setCell ⟨w.heap.size, 1, none⟩ (.int .i64 y)).heap[w.heap.size]? = some (.cells #[.int .i64 x, .int .i64 y] 36 (0, 0))
  went : WentB F Ft g gt m' N' w ((((w5.setCell ⟨w.heap.size + 1, 0, none⟩ (.int .i64 x)).setCell ⟨w.heap.size + 1, 1, none⟩ (.int .i64 y)).setCell ⟨w.heap.size, 0, none⟩ (.int .i64 x)).setCell ⟨w.heap.size, 1, none⟩ (.int .i64 y))
theorem BareE.of {W2 w5 : World} (h : Bth w g gt F Ft m N) (hb : Below w.heap.size w W2) (hs : W2.heap.size = w.heap.size + 2) (h6 : Bx2 W2 w.heap.size (.int .i64 0) (.int .i64 0)) (h7 : Bx2 W2 (w.heap.size + 1) (.int .i64 0) (.int .i64 0)) (hw : WentB F Ft g gt m' N' W2 w5) (x y : Int) :
    BareE w w5 g gt F Ft m' N' x y := by
  have hw2 := hw
  obtain ⟨F', Ft', h3, hc⟩ := hw
  have n6 : ¬ bthF F Ft w.heap.size := fun e => by have := h.lt _ e; omega
  have n7 : ¬ bthF F Ft (w.heap.size + 1) := fun e => by have := h.lt _ e; omega
  have k6 := Bx2.of ((hc.block _ (by omega) n6).trans h6.row)
  have k7 := Bx2.of ((hc.block _ (by omega) n7).trans h7.row)
  have hr := Bx2.four k7 k6 (by omega) (.int .i64 x) (.int .i64 y) (.int .i64 x) (.int .i64 y)
  have o1 := two_only w5 (w.heap.size + 1) (.int .i64 x) (.int .i64 y)
  have o2 := two_only ((w5.setCell ⟨w.heap.size + 1, 0, none⟩ (.int .i64 x)).setCell ⟨w.heap.size + 1, 1, none⟩ (.int .i64 y)) w.heap.size (.int .i64 x) (.int .i64 y)
  refine ⟨k6, k7, hr.2, WentB.own h hb hw2 (fun k => k = w.heap.size ∨ k = w.heap.size + 1) (fun k hk => by omega) ⟨o2.os.trans o1.os, o2.tape.trans o1.tape, o2.output.trans o1.output, Nat.le_trans o1.size o2.size⟩ fun k hk hn => ?_⟩
  exact (o2.block k (Nat.lt_of_lt_of_le hk o1.size) (fun e => hn (.inl e))).trans (o1.block k hk (fun e => hn (.inr e)))
set_option maxHeartbeats 3200000 in
theorem bare_any (h : Bth w g gt F Ft m N) (hn : Nds w S V A) (hap : ∀ k, footN S V A.length k → ¬ bthF F Ft k) (hA : A.length ≤ 20000) (hN : N.length ≤ 16383) {i : Nat} (hi : i < A.length)
    (hroom : 0 ≤ pairsZ (ndAt A i) ∧ (pairsZ (ndAt A i)).toNat + liveN m.L ≤ m.lim) :
    Calls Tryz.prog 31 #[.pointer (some ⟨g, 0, none⟩), .pointer (some ⟨gt, 0, none⟩), .pointer (some ⟨S i, 0, none⟩)] w fun e w' => e = .returned (valV (bareM m N A i).1) ∧ WentB F Ft g gt (bareM m N A i).2.1 (bareM m N A i).2.2 w w' := by
  obtain ⟨⟨c0, c1, c2, -⟩, ⟨c4, -, -⟩, -, -, -⟩ := hn.cells hi
  have htk := (hn.tk i hi).1
  obtain ⟨W2, hW2⟩ : ∃ W2, (w.alloc (.cells #[.int .i64 0, .int .i64 0] 36)).alloc (.cells #[.int .i64 0, .int .i64 0] 36) = W2 := ⟨_, rfl⟩
  have hb : Below w.heap.size w W2 := by rw [← hW2]; exact ((Below.refl _ _).alloc (Nat.le_refl _) _).alloc (by simp) _
  have hs : W2.heap.size = w.heap.size + 2 := by rw [← hW2]; simp
  have h12 := alloc3 w (.cells #[.int .i64 0, .int .i64 0] 36) (.cells #[.int .i64 0, .int .i64 0] 36) (.cells #[.int .i64 0, .int .i64 0] 36)
  have h6 : Bx2 W2 w.heap.size (.int .i64 0) (.int .i64 0) := Bx2.of (by
    rw [← hW2]
    exact (Below.heap_alloc _ _ _ (by simp)).trans (heap_alloc_new w _))
  have h7 : Bx2 W2 (w.heap.size + 1) (.int .i64 0) (.int .i64 0) := Bx2.of (by
    rw [← hW2]
    have := heap_alloc_new (w.alloc (.cells #[.int .i64 0, .int .i64 0] 36)) (.cells #[.int .i64 0, .int .i64 0] 36)
    rw [World.size_alloc] at this; exact this)
  have HE : Hid (∀ w5 m' N' x y, WentB F Ft g gt m' N' W2 w5 → BareE w w5 g gt F Ft m' N' x y) := Lib.hid fun w5 m' N' x y hw => BareE.of h hb hs h6 h7 hw x y
  have hl2 := lt_of_block (hn.hd i hi)
  have d0 := (hb.cell (p := ⟨S i, 0, none⟩) hl2).trans c0
  have d1 := (hb.cell (p := ⟨S i, 1, none⟩) hl2).trans c1
  have d2 := (hb.cell (p := ⟨S i, 2, none⟩) hl2).trans c2
  have d4 := (hb.cell (p := ⟨S i, 4, none⟩) hl2).trans c4
  have hk6 := htk.k
  have HSV := Lib.hid sizeVal
  have HB2 := Lib.hid (h.below hb)
  have HN2 := Lib.hid (hn.below hb)
  have e0 := h6.c0; have e1 := h6.c1; have e2 := h6.f0; have e3 := h6.f1; have e4 := h7.c0; have e5 := h7.c1; have e6 := h7.f0; have e7 := h7.f1
  have HRF : Hid (WentB F Ft g gt m N W2 W2) := Lib.hid (WentB.refl HB2.out (Below.refl _ _))
  have HI := Lib.hid hi
  have HAA := Lib.hid hA
  have HNN := Lib.hid hN
  have HAP := Lib.hid hap
  have HRM := Lib.hid hroom
  have HTS := Lib.hid htk.s
  clear h hb h6 h7 hn hap hroom htk h12 c0 c1 c2 c4 hs
  unfold bareM
  generalize hk : (ndAt A i).t.k = k at *
  by_cases k10 : k = 10
  · subst k10
    simp only [if_true]
    have HF := Lib.hid (HE.out _ _ _ 2 (ndAt A i).t.n HRF.out)
    generalize (ndAt A i).t.n = n at *
    clear HE HB2 HN2 hk
    go_enter Tryz.func31, Tryz.ntmps31
    go_wp2_with fail
    exact bodyPost_ret (results_cell_row Tryz.results31 _ _ w.heap.size 36 _ (0, 0) _ rfl HF.out.row Tryz.underlying36 rfl HSV.out) rfl ⟨rfl, HF.out.went⟩
  by_cases k11 : k = 11
  · subst k11
    simp only [if_true, Nat.reduceEqDiff, if_false]
    have HF := Lib.hid (HE.out _ _ _ 1 (ndAt A i).t.n HRF.out)
    generalize (ndAt A i).t.n = n at *
    clear HE HB2 HN2 hk
    go_enter Tryz.func31, Tryz.ntmps31
    go_wp2_with fail
    exact bodyPost_ret (results_cell_row Tryz.results31 _ _ w.heap.size 36 _ (0, 0) _ rfl HF.out.row Tryz.underlying36 rfl HSV.out) rfl ⟨rfl, HF.out.went⟩
  by_cases k12 : k = 12
  · subst k12
    simp only [if_true, Nat.reduceEqDiff, if_false]
    have HF := Lib.hid (HE.out _ _ _ 3 (ndAt A i).t.n HRF.out)
    generalize (ndAt A i).t.n = n at *
    clear HE HB2 HN2 hk
    go_enter Tryz.func31, Tryz.ntmps31
    go_wp2_with fail
    exact bodyPost_ret (results_cell_row Tryz.results31 _ _ w.heap.size 36 _ (0, 0) _ rfl HF.out.row Tryz.underlying36 rfl HSV.out) rfl ⟨rfl, HF.out.went⟩
  by_cases k14 : k = 14
  · subst k14
    simp only [if_true, Nat.reduceEqDiff, if_false]
    have HC := Lib.hid (Sy.number_any HB2.out.tb ⟨(ndAt A i).t.s.toArray⟩ HNN.out)
    have HE2 : Hid (∀ w5, Sy.Went Ft gt (Sy.numM N ⟨(ndAt A i).t.s.toArray⟩) W2 w5 → BareE w w5 g gt F Ft m (Sy.numM N ⟨(ndAt A i).t.s.toArray⟩) 4 (Sy.numA N ⟨(ndAt A i).t.s.toArray⟩)) := Lib.hid fun w5 hw => HE.out _ _ _ _ _ (HB2.out.names hw)
    generalize (⟨(ndAt A i).t.s.toArray⟩ : ByteArray) = T at *
    generalize Sy.numA N T = na at *
    generalize Sy.numM N T = nm at *
    generalize Sy.errA T = ea at *
    clear HE HB2 HN2 hk e0 e1 e2 e3 e4 e5 e6 e7
    go_enter Tryz.func31, Tryz.ntmps31
    go_wp2_with (go_at_call 48; with_reducible refine HC.out.mono ?_; rintro e w5 ⟨rfl, hw⟩; have BE := HE2.out w5 hw; have e0 := BE.b6.c0; have e1 := BE.b6.c1; have e2 := BE.b6.f0; have e3 := BE.b6.f1; have e4 := BE.b7.c0; have e5 := BE.b7.c1; have e6 := BE.b7.f0; have e7 := BE.b7.f1; have HBE := Lib.hid BE; clear BE)
    exact bodyPost_ret (results_cell_row Tryz.results31 _ _ w.heap.size 36 _ (0, 0) _ rfl HBE.out.row Tryz.underlying36 rfl HSV.out) rfl ⟨rfl, HBE.out.went⟩
  by_cases k13 : k = 13
  · subst k13
    simp only [if_true, Nat.reduceEqDiff, if_false]
    have hsz : (⟨(ndAt A i).t.s.toArray⟩ : ByteArray).size ≤ 100000 := by
      have := HTS.out
      show (ndAt A i).t.s.toArray.size ≤ 100000
      rw [List.size_toArray]; omega
    have HC := Lib.hid (string_any HB2.out.hp ⟨(ndAt A i).t.s.toArray⟩ hsz)
    have HE2 : Hid (∀ w5, WentH F g (addM m (obS ⟨(ndAt A i).t.s.toArray⟩)) W2 w5 → BareE w w5 g gt F Ft (addM m (obS ⟨(ndAt A i).t.s.toArray⟩)) N (addV m (obS ⟨(ndAt A i).t.s.toArray⟩)).1 (addV m (obS ⟨(ndAt A i).t.s.toArray⟩)).2) := Lib.hid fun w5 hw => HE.out _ _ _ _ _ (HB2.out.heap hw)
    clear hsz
    generalize (⟨(ndAt A i).t.s.toArray⟩ : ByteArray) = T at *
    generalize addV m (obS T) = av at *
    generalize addM m (obS T) = am at *
    generalize addE m (obS T) = ae at *
    obtain ⟨a1, a2⟩ := av
    clear HE HB2 HN2 hk e0 e1 e2 e3 e4 e5 e6 e7
    go_enter Tryz.func31, Tryz.ntmps31
    go_wp2_with (go_at_call 49; with_reducible refine HC.out.mono ?_; rintro e w5 ⟨rfl, hw⟩; have BE := HE2.out w5 hw; have e0 := BE.b6.c0; have e1 := BE.b6.c1; have e2 := BE.b6.f0; have e3 := BE.b6.f1; have e4 := BE.b7.c0; have e5 := BE.b7.c1; have e6 := BE.b7.f0; have e7 := BE.b7.f1; have HBE := Lib.hid BE; clear BE)
    exact bodyPost_ret (results_cell_row Tryz.results31 _ _ w.heap.size 36 _ (0, 0) _ rfl HBE.out.row Tryz.underlying36 rfl HSV.out) rfl ⟨rfl, HBE.out.went⟩
  by_cases k3 : k = 3
  · subst k3
    simp only [if_true, Nat.reduceEqDiff, if_false]
    have HC := Lib.hid (HN2.out.bytesOf (by have := HAA.out; omega) HI.out)
    have HDG : Hid (∀ x ∈ bytM A (ndAt A i).is, x < 256) := Lib.hid fun x hx => by
      unfold bytM at hx
      obtain ⟨j, _, rfl⟩ := List.mem_map.1 hx
      have h1 := Int.emod_lt_of_pos (ndAt A j).t.n (show (0 : Int) < 256 by decide)
      have h2 := Int.emod_nonneg (ndAt A j).t.n (show (256 : Int) ≠ 0 by decide)
      omega
    have HLN : Hid ((ndAt A i).is.length ≤ 100000) := Lib.hid (by have := HN2.out.len i HI.out; have := HAA.out; omega)
    generalize bytM A (ndAt A i).is = bs at *
    generalize (ndAt A i).is.length = nn at *
    have HADD : Hid (∀ w4 q c, Below W2.heap.size W2 w4 → w4.ownsRow W2.heap.size 5 1 (.slice q nn c) nn (u8s bs) → Calls Tryz.prog 50 #[.pointer (some ⟨g, 0, none⟩), .agg #[.int .i64 3, .slice none 0 0, .slice q nn c]] w4 fun e w5 => e = .returned (.tuple #[.agg #[.int .i64 (addV m ⟨3, [], bs⟩).1, .int .i64 (addV m ⟨3, [], bs⟩).2], .int .i64 (addE m ⟨3, [], bs⟩)]) ∧ BareE w w5 g gt F Ft (addM m ⟨3, [], bs⟩) N (addV m ⟨3, [], bs⟩).1 (addV m ⟨3, [], bs⟩).2) := Lib.hid fun w4 q c hb4 ho => by
      have hB4 := HB2.out.below hb4
      have hy := Bys.own ho HDG.out
      have hl := hy.len
      refine (hB4.hp.add ⟨3, [], bs⟩ none q 0 0 nn c ⟨⟨rfl, fun h0 => by omega⟩, hy, fun x hx => (by cases hx), by decide, by have := HLN.out; omega⟩ (by omega) HLN.out).mono ?_
      rintro e w5 ⟨rfl, hw⟩
      exact ⟨rfl, HE.out _ _ _ _ _ (WentB.pre hb4 (hB4.heap hw))⟩
    generalize addV m ⟨3, [], bs⟩ = av at *
    generalize addM m ⟨3, [], bs⟩ = am at *
    generalize addE m ⟨3, [], bs⟩ = ae at *
    obtain ⟨a1, a2⟩ := av
    clear HE HB2 HN2 hk e0 e1 e2 e3 e4 e5 e6 e7
    go_enter Tryz.func31, Tryz.ntmps31
    go_wp2_with (first | (go_at_call 50; with_reducible refine (HADD.out w4 q c hb4 ho.out).mono ?_; rintro e w5 ⟨rfl, BE⟩; have e0 := BE.b6.c0; have e1 := BE.b6.c1; have e2 := BE.b6.f0; have e3 := BE.b6.f1; have e4 := BE.b7.c0; have e5 := BE.b7.c1; have e6 := BE.b7.f0; have e7 := BE.b7.f1; have HBE := Lib.hid BE; clear BE) | (go_at_call 51; with_reducible refine HC.out.mono ?_; rintro e w4 ⟨v, rfl, ho, hb4⟩; have ho := Lib.hid ho; obtain ⟨q, c, rfl⟩ := own_form ho.out; have hbo := buildB q nn c))
    exact bodyPost_ret (results_cell_row Tryz.results31 _ _ w.heap.size 36 _ (0, 0) _ rfl HBE.out.row Tryz.underlying36 rfl HSV.out) rfl ⟨rfl, HBE.out.went⟩
  by_cases k2 : k = 2
  · subst k2
    simp only [if_true, Nat.reduceEqDiff, if_false]
    obtain ⟨q, cp, eV⟩ := HN2.out.form HI.out
    rw [eV] at d4
    have hln : (ndAt A i).is.length ≤ 100000 := by have := HN2.out.len i HI.out; have := HAA.out; omega
    generalize (ndAt A i).is.length = nn at *
    have hmk := run_makeV nn hln
    have hb3 := alloc_below W2 (.cells (madeCells #[.int .i64 0, .int .i64 0] (nn * 2)) 36)
    have hB3 := HB2.out.below hb3
    have HC : Hid (Calls Tryz.prog 52 #[.pointer (some ⟨g, 0, none⟩), .slice (some ⟨W2.heap.size, 0, none⟩) nn nn] (W2.alloc (.cells (madeCells #[.int .i64 0, .int .i64 0] (nn * 2)) 36)) fun e w5 => e = .returned (.tuple #[.agg #[.int .i64 (addV m (obL (List.replicate nn (0, 0)))).1, .int .i64 (addV m (obL (List.replicate nn (0, 0)))).2], .int .i64 (addE m (obL (List.replicate nn (0, 0))))]) ∧ BareE w w5 g gt F Ft (addM m (obL (List.replicate nn (0, 0)))) N (addV m (obL (List.replicate nn (0, 0)))).1 (addV m (obL (List.replicate nn (0, 0)))).2) := Lib.hid ((vector_any hB3.hp (some ⟨W2.heap.size, 0, none⟩) nn nn (List.replicate nn (0, 0)) (madeV nn W2) (fitV_rep nn) hln).mono fun e w5 ⟨h1, hw⟩ => ⟨h1, HE.out _ _ _ _ _ (WentB.pre hb3 (hB3.heap hw))⟩)
    clear hb3 hB3
    generalize madeCells #[.int .i64 0, .int .i64 0] (nn * 2) = Z at *
    generalize addV m (obL (List.replicate nn (0, 0))) = av at *
    generalize addM m (obL (List.replicate nn (0, 0))) = am at *
    generalize addE m (obL (List.replicate nn (0, 0))) = ae at *
    obtain ⟨a1, a2⟩ := av
    clear HE HB2 HN2 hk e0 e1 e2 e3 e4 e5 e6 e7
    go_enter Tryz.func31, Tryz.ntmps31
    go_wp2_with (go_at_call 52; with_reducible refine HC.out.mono ?_; rintro e w5 ⟨rfl, BE⟩; have e0 := BE.b6.c0; have e1 := BE.b6.c1; have e2 := BE.b6.f0; have e3 := BE.b6.f1; have e4 := BE.b7.c0; have e5 := BE.b7.c1; have e6 := BE.b7.f0; have e7 := BE.b7.f1; have HBE := Lib.hid BE; clear BE)
    exact bodyPost_ret (results_cell_row Tryz.results31 _ _ w.heap.size 36 _ (0, 0) _ rfl HBE.out.row Tryz.underlying36 rfl HSV.out) rfl ⟨rfl, HBE.out.went⟩
  have HC := Lib.hid (HN2.out.pairs (by have := HAA.out; omega) HI.out)
  have hpl := pairsZ_le (ndAt A i)
  have hln : (ndAt A i).is.length ≤ 20000 := by have := HN2.out.len i HI.out; have := HAA.out; omega
  obtain ⟨nn, hnn⟩ : ∃ nn : Nat, pairsZ (ndAt A i) = (nn : Int) := ⟨(pairsZ (ndAt A i)).toNat, by have := HRM.out.1; omega⟩
  have hrm := HRM.out.2
  rw [hnn] at HC hpl hrm
  rw [Int.toNat_natCast] at hrm
  have hn2 : nn ≤ 100000 := by omega
  have hmk := run_makeV nn hn2
  have hb3 := alloc_below W2 (.cells (madeCells #[.int .i64 0, .int .i64 0] (nn * 2)) 36)
  have hB3 := HB2.out.below hb3
  have HC2 : Hid (Calls Tryz.prog 53 #[.pointer (some ⟨g, 0, none⟩), .slice (some ⟨W2.heap.size, 0, none⟩) nn nn, .agg #[.int .i64 0, .int .i64 0]] (W2.alloc (.cells (madeCells #[.int .i64 0, .int .i64 0] (nn * 2)) 36)) fun e w5 => e = .returned (.tuple #[.agg #[.int .i64 (bzS m nn).2.1, .int .i64 (bzS m nn).2.2], .int .i64 0]) ∧ BareE w w5 g gt F Ft (bzS m nn).1 N (bzS m nn).2.1 (bzS m nn).2.2) := Lib.hid ((build_any hB3.hp (some ⟨W2.heap.size, 0, none⟩) nn nn (madeV nn W2) (fun b o e => by
    cases e
    exact ⟨by simp, fun hF => by have := HB2.out.hp.lt _ hF; omega⟩) hn2 hrm).mono fun e w5 hR => by
    unfold BldR at hR
    exact ⟨hR.1, HE.out _ _ _ _ _ (WentB.pre hb3 (hB3.heap hR.2))⟩)
  have g10 : ((k : Int) == 10) = false := by simp; omega
  have g11 : ((k : Int) == 11) = false := by simp; omega
  have g12 : ((k : Int) == 12) = false := by simp; omega
  have g14 : ((k : Int) == 14) = false := by simp; omega
  have g13 : ((k : Int) == 13) = false := by simp; omega
  have g3 : ((k : Int) == 3) = false := by simp; omega
  have g2 : ((k : Int) == 2) = false := by simp; omega
  rw [if_neg k10, if_neg k11, if_neg k12, if_neg k14, if_neg k13, if_neg k3, if_neg k2, hnn, Int.toNat_natCast]
  clear hb3 hB3 hnn hpl hrm
  generalize madeCells #[.int .i64 0, .int .i64 0] (nn * 2) = Z at *
  generalize bzS m nn = bz at *
  obtain ⟨bm, b1, b2⟩ := bz
  clear HE HB2 HN2 hk e0 e1 e2 e3 e4 e5 e6 e7
  go_enter Tryz.func31, Tryz.ntmps31
  go_wp2_with (first | (go_at_call 53; with_reducible refine HC2.out.mono ?_; rintro e w5 ⟨rfl, BE⟩; have e0 := BE.b6.c0; have e1 := BE.b6.c1; have e2 := BE.b6.f0; have e3 := BE.b6.f1; have e4 := BE.b7.c0; have e5 := BE.b7.c1; have e6 := BE.b7.f0; have e7 := BE.b7.f1; have HBE := Lib.hid BE; clear BE) | (go_at_call 45; with_reducible refine HC.out.mono ?_; rintro e w4 ⟨rfl, rfl⟩))
  exact bodyPost_ret (results_cell_row Tryz.results31 _ _ w.heap.size 36 _ (0, 0) _ rfl HBE.out.row Tryz.underlying36 rfl HSV.out) rfl ⟨rfl, HBE.out.went⟩
end
end Go.Proofs.YthjjgpepgbfalaaGreatDoor
end
section
/-! A range over a function that has blocks of its own: the caller's invariant names its footprint. -/
set_option linter.unusedVariables false
namespace Go.Proofs.YthjjgpepgbfalaaGreatDoor
open Go.RowKit

/-- What the caller says stays while blocks from B on that aren't its own change. -/
def StayF {β : Type} (B : Nat) (J : β → World → (Nat → Prop) → Prop) : Prop :=
  ∀ i W W' Q, J i W Q → W'.os = W.os → W'.tape = W.tape → W'.output = W.output → W.heap.size ≤ W'.heap.size → (∀ k, k < W.heap.size → k < B ∨ Q k → W'.heap[k]? = W.heap[k]?) → J i W' Q
def InF {β : Type} (J : β → World → (Nat → Prop) → Prop) : Prop := ∀ i W Q, J i W Q → ∀ k, Q k → k < W.heap.size
def orF (Q : Nat → Prop) (a b : Nat) : Nat → Prop := fun k => Q k ∨ k = a ∨ k = b
theorem Chp.orF {Q Q' : Nat → Prop} {w w' : World} (h : Chp Q Q' w w') (a b : Nat) : Chp (orF Q a b) (orF Q' a b) w w' :=
  ⟨h.os, h.tape, h.output, h.size, fun k hk hf => h.block k hk fun e => hf (.inl e), fun k hk => hk.elim (fun e => (h.fresh k e).imp .inl id) fun e => .inl (.inr e)⟩
theorem Chp.putObj {Q : Nat → Prop} {w : World} (l : Nat) (o : Obj) (hl : Q l) : Chp Q Q w (w.putObj l o) := by
  have hg := grownBy_putObj' w l o
  exact ⟨hg.os, hg.tape, hg.output, hg.size, fun k hk hf => World.putObj_heap_other (fun e => hf (e ▸ hl)), fun k hk => .inl hk⟩
theorem StayF.putObj {β : Type} {B : Nat} {J : β → World → (Nat → Prop) → Prop} (h : StayF B J) {i : β} {W : World} {Q : Nat → Prop} (hj : J i W Q) {l : Nat} (o : Obj) (hl : B ≤ l) (hq : ¬ Q l) : J i (W.putObj l o) Q := by
  have hg := grownBy_putObj' W l o
  exact h i W _ Q hj hg.os hg.tape hg.output hg.size fun k hk hq2 => World.putObj_heap_other (fun e => by subst e; rcases hq2 with h1 | h1; omega; exact hq h1)
theorem StayF.alloc {β : Type} {B : Nat} {J : β → World → (Nat → Prop) → Prop} (h : StayF B J) {i : β} {W : World} {Q : Nat → Prop} (hj : J i W Q) (o : Obj) : J i (W.alloc o) Q := by
  have hb : Below W.heap.size W (W.alloc o) := (Below.refl _ _).alloc (Nat.le_refl _) _
  exact h i W _ Q hj hb.os hb.tape hb.output hb.size fun k hk _ => hb.block k hk
section
variable {F : Fence} {n : Nat} {P : Program}
def SeqF {α : Type} (F : Fence) (n : Nat) (P : Program) (gf : Nat) (lb : Array Value) (encs : α → Array Value) (Good : Nat → World → (Nat → Prop) → Prop) (Item : Nat → α → Prop) (End : Nat → Prop) : Prop :=
  ∀ (l B : Nat) (J : Nat → World → (Nat → Prop) → Prop) (W : World) (Q : Nat → Prop), StayF B J → InF J → B ≤ W.heap.size → (∀ i W1 Q1, J i W1 Q1 → Good i W1 Q1) →
    (∀ i x W1 Q1, J i W1 Q1 → Item i x → YieldAt F (n - 1) P l (encs x) W1 fun e W' => e = .returned (.bool true) ∧ ∃ Q2, J (i + 1) W' Q2 ∧ Chp Q1 Q2 W1 W') →
    J 0 W Q → CallsIn F n P gf (#[.func (.yield l) #[] #[]] ++ lb) W fun e W' => (∃ v, e = .returned v) ∧ ∃ i Q2, J i W' Q2 ∧ End i
theorem wpIn_rangeF {α : Type} {g : Operand} {ps : Array Tmp} {assign body : Code} {Q : Exit → Act → World → Prop} {a : Act} {w : World}
    (hro : F.round = none) (h1 : 1 ≤ n) {gf : Nat} {lb : Array Value} (hg : a.eval g = .func (.func gf) #[] lb) (hFg : F.fn gf) (eg : ∀ args w, (callFunc gf args).run P w = .ok (.enter gf args) w)
    {encs : α → Array Value} {Good : Nat → World → (Nat → Prop) → Prop} {Item : Nat → α → Prop} {End : Nat → Prop} (hseq : SeqF F (n - 1) P gf lb encs Good Item End) (hps : ∀ x, (encs x).size = ps.size)
    (I : Nat → World → (Nat → Prop) → Prop) (hI : StayF w.heap.size I) (hIn : InF I) (hG : ∀ i W Q1 a b, I i W Q1 → Good i W (orF Q1 a b)) (Q0 : Nat → Prop) (h0 : I 0 w Q0)
    (Ax : Nat → α → Act → World → (Nat → Prop) → Prop) (hAx : ∀ i x a', StayF w.heap.size (fun (_ : Unit) W Q1 => Ax i x a' W Q1))
    (hassign : ∀ (l i : Nat) (x : α) (W : World) (Q1 : Nat → Prop) (K : Act → World → Prop), I i W Q1 → Item i x → (∀ a' W' Q2, Chp Q1 Q2 W W' → Ax i x a' W' Q2 → K a' W') →
      assign.wpIn (F.inRound l) (n - 1 - 1) P (Exit.then K (fun _ _ _ => False)) { tmps := (ps.zip (encs x)).foldl (fun t (p, v) => t.setIfInBounds p v) a.tmps, defers := [] } W)
    (hbody : ∀ (l i : Nat) (x : α) (a' : Act) (W : World) (Q1 : Nat → Prop), w.heap.size ≤ l → Ax i x a' W Q1 → body.wpIn (F.inRound l) (n - 1 - 1) P (fun e _ W' => e = .normal ∧ ∃ Q2, I (i + 1) W' Q2 ∧ Chp Q1 Q2 W W') a' W)
    (hdone : ∀ (D i : Nat) (W : World) (Q1 : Nat → Prop), w.heap.size ≤ D → I i W Q1 → ¬ Q1 D → End i → W.heap[D]? = some (.deferred (some [])) → Q .normal { a with defers := { target := .collected D, args := #[] } :: a.defers } W) :
    (Code.rangeFunc g ps assign body).wpIn F n P Q a w := by
  refine wpIn_rangeFunc fun fn hfn => ?_
  rw [hro]
  obtain ⟨rec, hrec⟩ : ∃ rec : LoopState → Loop, rec = fun st => { state := st, pending := none, fn, tmps := a.tmps, params := ps, assign, body, defers := w.heap.size } := ⟨_, rfl⟩
  have hps2 : ∀ st x, (encs x).size = (rec st).params.size := fun st x => by rw [hrec]; exact hps x
  have hst : ∀ st, (rec st).state = st := fun st => by rw [hrec]
  have hpe : ∀ st, (rec st).pending = none := fun st => by rw [hrec]
  have hup : ∀ s t, { rec s with state := t } = rec t := fun s t => by rw [hrec]
  have hup2 : ∀ s t, { rec s with state := t, pending := none } = rec t := fun s t => by rw [hrec]
  let W1 := (w.alloc (.deferred (some []))).alloc (.loop (rec .ready))
  have hL1 : W1.heap[w.heap.size + 1]? = some (.loop (rec .ready)) := by
    have := World.alloc_heap_new (w.alloc (.deferred (some []))) (.loop (rec .ready)); rwa [World.size_alloc] at this
  have hK1 : W1.heap[w.heap.size]? = some (.deferred (some [])) := (Below.heap_alloc _ _ _ (by simp)).trans (World.alloc_heap_new w _)
  have hz1 : W1.heap.size = w.heap.size + 2 := by show ((w.alloc _).alloc _).heap.size = _; simp
  refine ⟨w.heap.size + 1, [{ target := .collected w.heap.size, args := #[] }], W1, { target := .fn (.func gf) lb, args := #[.func (.yield (w.heap.size + 1)) #[] #[]] }, W1, gf,
    #[.func (.yield (w.heap.size + 1)) #[] #[]] ++ lb, W1, ?_, ?_, ?_, ?_, fun _ => h1, ?_⟩
  · show _ = Result.ok _ ((w.alloc (.deferred (some []))).alloc (.loop (rec .ready)))
    rw [hrec]; exact run_enterLoop_outer _ _ _ _ _
  · simp only [resolve, hg]
    simp [go_sem]
  · intro f' hf'; simp [Target.leads] at hf'; subst hf'; exact hFg
  · simp [invoke, go_sem, eg]
  · have hb1 : Below w.heap.size w W1 := ((Below.refl _ _).alloc (Nat.le_refl _) _).alloc (by simp) _
    have hlt0 := hIn 0 w Q0 h0
    refine (hseq (w.heap.size + 1) w.heap.size (fun i W QQ => ∃ Q1, QQ = orF Q1 w.heap.size (w.heap.size + 1) ∧ I i W Q1 ∧ ¬ Q1 w.heap.size ∧ ¬ Q1 (w.heap.size + 1) ∧ W.heap[w.heap.size + 1]? = some (.loop (rec .ready)) ∧ W.heap[w.heap.size]? = some (.deferred (some []))) W1 (orF Q0 w.heap.size (w.heap.size + 1)) ?_ ?_ (by omega) ?_ ?_ ⟨Q0, rfl, hI.alloc (hI.alloc h0 _) _, fun e => by have := hlt0 _ e; omega, fun e => by have := hlt0 _ e; omega, hL1, hK1⟩).mono ?_
    · rintro i A B QQ ⟨Q1, rfl, hi, n1, n2, hl, hk⟩ e1 e2 e3 e4 hs
      exact ⟨Q1, rfl, hI i A B Q1 hi e1 e2 e3 e4 fun k hk hq => hs k hk (hq.imp id .inl), n1, n2, (hs _ (Array.getElem?_eq_some_iff.1 hl).1 (.inr (.inr (.inr rfl)))).trans hl, (hs _ (Array.getElem?_eq_some_iff.1 hk).1 (.inr (.inr (.inl rfl)))).trans hk⟩
    · rintro i A QQ ⟨Q1, rfl, hi, n1, n2, hl, hk⟩ k (h | rfl | rfl)
      · exact hIn i A Q1 hi k h
      · exact (Array.getElem?_eq_some_iff.1 hk).1
      · exact (Array.getElem?_eq_some_iff.1 hl).1
    · rintro i A QQ ⟨Q1, rfl, hi, -⟩
      exact hG i A Q1 _ _ hi
    · rintro i x W QQ ⟨Q1, rfl, hi, n1, n2, hl, hk⟩ hit
      refine ⟨_, _, _, _, run_yield (P := P) (args := encs x) hl (hps2 _ x), ?_⟩
      have hrt : (rec .ready).fn = fn ∧ (rec .ready).tmps = a.tmps ∧ (rec .ready).params = ps ∧ (rec .ready).assign = assign ∧ (rec .ready).body = body := by rw [hrec]; exact ⟨rfl, rfl, rfl, rfl, rfl⟩
      obtain ⟨t1, t2, t3, t4, t5⟩ := hrt
      rw [t1, t2, t3, t4, t5]
      refine roundIn_of_wpIn hfn (hassign _ i x W _ _ hi hit ?_)
      intro a' Wa Q2 hca hax
      have m1 : ¬ Q2 w.heap.size := hca.out (Array.getElem?_eq_some_iff.1 hk).1 n1
      have m2 : ¬ Q2 (w.heap.size + 1) := hca.out (Array.getElem?_eq_some_iff.1 hl).1 n2
      replace hl := (hca.block _ (Array.getElem?_eq_some_iff.1 hl).1 n2).trans hl
      replace hk := (hca.block _ (Array.getElem?_eq_some_iff.1 hk).1 n1).trans hk
      have hlt : w.heap.size + 1 < Wa.heap.size := (Array.getElem?_eq_some_iff.1 hl).1
      refine ⟨_, run_beginRound hl (hst _), ?_⟩
      rw [hup]
      have hl2 : (Wa.putObj (w.heap.size + 1) (.loop (rec .busy))).heap[w.heap.size + 1]? = some (.loop (rec .busy)) := World.putObj_heap_same hlt
      have hk2 : (Wa.putObj (w.heap.size + 1) (.loop (rec .busy))).heap[w.heap.size]? = some (.deferred (some [])) := (World.putObj_heap_other (by omega)).trans hk
      refine wpIn_mono (hbody _ i x a' _ Q2 (by omega) ((hAx i x a').putObj (i := ()) hax _ (by omega) m2)) ?_
      rintro e a3 W3 ⟨rfl, Q3, hi3, hc3⟩
      have r1 : ¬ Q3 w.heap.size := hc3.out (Array.getElem?_eq_some_iff.1 hk2).1 m1
      have r2 : ¬ Q3 (w.heap.size + 1) := hc3.out (Array.getElem?_eq_some_iff.1 hl2).1 m2
      have hl3 := (hc3.block _ (Array.getElem?_eq_some_iff.1 hl2).1 m2).trans hl2
      have hk3 := (hc3.block _ (Array.getElem?_eq_some_iff.1 hk2).1 m1).trans hk2
      have hr := run_endRound (P := P) none hl3
      rw [show (if (none : Option Code).isNone = true then LoopState.ready else LoopState.done) = LoopState.ready from rfl, hup2] at hr
      refine ⟨_, _, hr, rfl, orF Q3 w.heap.size (w.heap.size + 1), ⟨Q3, rfl, hI.putObj hi3 _ (by omega) r2, r1, r2, World.putObj_heap_same (Array.getElem?_eq_some_iff.1 hl3).1, (World.putObj_heap_other (by omega)).trans hk3⟩, ?_⟩
      exact (((hca.orF _ _).trans (Chp.putObj _ _ (.inr (.inr rfl)))).trans (hc3.orF _ _)).trans (Chp.putObj _ _ (.inr (.inr rfl)))
    · rintro e W2 ⟨⟨v, rfl⟩, i, QQ, ⟨Q1, rfl, hi, n1, n2, hl, hk⟩, hend⟩
      have hr := run_endLoop (P := P) hl (by rw [hst]; simp)
      rw [hpe] at hr
      exact ⟨none, _, hr, hdone _ i _ Q1 (Nat.le_refl _) (hI.putObj hi _ (by omega) n2) n1 hend ((World.putObj_heap_other (by omega)).trans hk)⟩
end
end Go.Proofs.YthjjgpepgbfalaaGreatDoor
end
