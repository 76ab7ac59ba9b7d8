/- Collect's walk. -/
import Derived.Test.YtekmboolfjicbaaSCol2
set_option maxRecDepth 20000
set_option linter.unusedSimpArgs false
set_option linter.unusedVariables false
namespace Go.Proofs.Ytekmboolfjicbaa
open Go.RowKit Go.Shelf
attribute [local go_sem] Oper.semAt_some

/-- What Collect leaves. -/
def ColR (w w' : World) (gh : Nat) (F : Nat → Prop) (m : Hm) (roots : List (Int × Int)) (e : Ending) : Prop := ∃ T F', e = .returned (.int .i64 (colN T (refsL m.L m.L.length) : Int)) ∧ T.Nodup ∧ (∀ v, v ∈ T ↔ Rch m.L roots v) ∧ Hep w' gh F' (colM T m (refsL m.L m.L.length)) ∧ (∀ k, F' k → F k) ∧ Chp F F w w'
set_option maxRecDepth 100000 in
set_option maxHeartbeats 4000000 in
theorem collect_any {w : World} {gh : Nat} {F : Nat → Prop} {m : Hm} (h : Hep w gh F m) (hh : Here m.L) (hsm : Sm m.L) (hft : Ft m.L) (q : Option Addr) (n c : Nat) (roots : List (Int × Int)) (hr : Vls w q n roots) (hrf : FitV roots) (hn : n ≤ 60000) :
    Calls Try.prog 19 #[.pointer (some ⟨gh, 0, none⟩), .slice q n c] w (fun e w' => ColR w w' gh F m roots e) := by
  have HF : Hid (∀ k, F k → k < w.heap.size) := Lib.hid h.lt
  have HLM : Hid (m.L.length ≤ 16384) := Lib.hid (Nat.le_trans h.ok.len h.ok.l1)
  have HLE : Hid ((refsL m.L m.L.length).length ≤ 16384) := Lib.hid (Nat.le_trans (refsL_len _ _) (Nat.le_trans h.ok.len h.ok.l1))
  obtain ⟨wa, hwa⟩ : ∃ wa, w.alloc (.cells #[.pointer (some ⟨gh, 0, none⟩)] 26) = wa := ⟨_, rfl⟩
  have HBA : Hid (Below w.heap.size w wa) := Lib.hid (by rw [← hwa]; exact alloc_below _ _)
  have HX0 : Hid (wa.heap[w.heap.size]? = some (.cells #[.pointer (some ⟨gh, 0, none⟩)] 26 (0, 0))) := Lib.hid (by rw [← hwa]; exact heap_alloc_new w _)
  have HZA : Hid (wa.heap.size = w.heap.size + 1) := Lib.hid (by rw [← hwa]; simp)
  have HG : Hid (Calls Try.prog 26 #[.pointer (some ⟨gh, 0, none⟩), .slice q n c] wa (fun e w' => GraphOf wa w' gh F m roots e)) := Lib.hid (graphOf_any (h.below HBA.out) hh hsm hft q n c roots (hr.below HBA.out) hrf hn)
  have HAL : Hid (∀ w1, Hep w1 gh F m → Calls Try.prog 35 #[.pointer (some ⟨gh, 0, none⟩)] w1 fun e w' => e = .returned (.func (.func 56) #[] #[.pointer (some ⟨w1.heap.size, 0, none⟩)]) ∧ BoxV w' w1.heap.size w1.heap.size (refsL m.L m.L.length) ∧ Below w1.heap.size w1 w') := Lib.hid fun w1 ⟨vr, mb, S, hP, _⟩ => hP.all
  have y0 := cell_of_row _ _ 0 _ _ _ HX0.out
  simp at y0
  clear h hr hrf hn
  refine (callsIn_wide (n := 5)).1 ?_
  refine callsIn_of_wp_marks Try.func19 rfl trivial ?_ rfl
  simp only [Try.ntmps19, List.size_toArray, List.length_cons, List.length_nil, Nat.reduceAdd, Nat.reduceSub, Array.replicate_succ, Array.replicate_zero, List.push_toArray, List.append_toArray, List.nil_append, List.cons_append]
  gi_wp2_with (refine ⟨trivial, ?_⟩; gi_at_call 26; refine (callsIn_wide.2 HG.out).mono ?_; rintro e w1 hGG; unfold GraphOf at hGG; obtain ⟨g, vt, mv, vf, T, fs, rfl, hg1, hlo1, hT, hh1, hb1⟩ := hGG; have HG1 := Lib.hid hg1; have HH1 := Lib.hid hh1; have HB1 := Lib.hid hb1; have HT := Lib.hid hT; have HLO := Lib.hid hlo1; have HX1 := Lib.hid ((hb1.block _ (lt_of_block HX0.out)).trans HX0.out); clear hg1 hh1 hb1 hT hlo1; have y2 : ((w1.alloc (.cells #[.pointer (some ⟨g, 0, none⟩)] 84)).alloc (.cells #[.int .i64 0] 3)).cell? ⟨w.heap.size, 0, none⟩ = some (.pointer (some ⟨gh, 0, none⟩)) := by rw [cell_of_row _ _ 0 _ _ _ ((heap_alloc_old _ _ (by have := lt_of_block HX1.out; simp; omega)).trans ((heap_alloc_old _ _ (lt_of_block HX1.out)).trans HX1.out))]; rfl)
  clear y0 y2 HG hwa
  refine ⟨trivial, ?_⟩
  have HB2 : Hid (Below w1.heap.size w1 ((w1.alloc (.cells #[.pointer (some ⟨g, 0, none⟩)] 84)).alloc (.cells #[.int .i64 0] 3))) := Lib.hid (((Below.refl _ _).alloc (Nat.le_refl _) _).alloc (by simp) _)
  have HY5 : Hid (((w1.alloc (.cells #[.pointer (some ⟨g, 0, none⟩)] 84)).alloc (.cells #[.int .i64 0] 3)).heap[w1.heap.size]? = some (.cells #[.pointer (some ⟨g, 0, none⟩)] 84 (0, 0))) := Lib.hid ((heap_alloc_old _ _ (by simp)).trans (heap_alloc_new w1 _))
  have HY6 : Hid (((w1.alloc (.cells #[.pointer (some ⟨g, 0, none⟩)] 84)).alloc (.cells #[.int .i64 0] 3)).heap[w1.heap.size + 1]? = some (.cells #[.int .i64 0] 3 (0, 0))) := Lib.hid (by have := heap_alloc_new (w1.alloc (.cells #[.pointer (some ⟨g, 0, none⟩)] 84)) (.cells #[.int .i64 0] 3); rwa [World.size_alloc] at this)
  have HZ2 : Hid (((w1.alloc (.cells #[.pointer (some ⟨g, 0, none⟩)] 84)).alloc (.cells #[.int .i64 0] 3)).heap.size = w1.heap.size + 2) := Lib.hid (by simp)
  generalize (w1.alloc (.cells #[.pointer (some ⟨g, 0, none⟩)] 84)).alloc (.cells #[.int .i64 0] 3) = w2 at *
  refine (callsIn_wide.2 (HAL.out w2 (HH1.out.below HB2.out))).mono ?_
  rintro e w3 ⟨rfl, ⟨va, ha1, ha2⟩, hb3⟩
  have HX2 := Lib.hid ((HB2.out.block _ (lt_of_block HX1.out)).trans HX1.out)
  have HZ1 := Lib.hid HB1.out.size
  have HZW := Lib.hid HZA.out
  have hzw := HZA.out
  have hz1 := HB1.out.size
  have hz2 := HZ2.out
  have hz3 := hb3.size
  have hJ : ColJ w w3 gh F m T (refsL m.L m.L.length) 0 w.heap.size w1.heap.size (w1.heap.size + 1) w2.heap.size g vt mv vf va fs :=
    ⟨⟨F, (HH1.out.below HB2.out).below hb3, fun _ h => h⟩, (HG1.out.below HB2.out).below hb3, (hb3.block _ (lt_of_block HX2.out)).trans HX2.out, (hb3.block _ (lt_of_block HY5.out)).trans HY5.out, (hb3.block _ (lt_of_block HY6.out)).trans HY6.out, ha1, base0 ha2,
     (((Chp.of_below HBA.out).trans (Chp.of_below HB1.out)).trans (Chp.of_below HB2.out)).trans (Chp.of_below hb3),
     fun k hk => by have := HLO.out k hk; omega, fun k hk => by have := own_lo ha2 hk; omega, Nat.le_refl _, by omega, by omega, by omega⟩
  have HMB : Hid (∀ mb, mv = .map (some mb) → mb < w3.heap.size) := Lib.hid fun mb e => by
    rcases hJ.gra.r.map with ⟨_, e3⟩ | ⟨mb2, e3, hm⟩
    · rw [e] at e3; cases e3
    · rw [e] at e3; cases e3
      exact hm.lt
  have HOWN : Hid (OwnFrom w3.heap.size (fun (j : Nat) W => ColJ w W gh F m T (refsL m.L m.L.length) j w.heap.size w1.heap.size (w1.heap.size + 1) w2.heap.size g vt mv vf va fs)) := Lib.hid (ColJ.own (fun k hk => by have := HF.out k hk; omega) HMB.out (by omega))
  have HJ := Lib.hid hJ
  have HND := Lib.hid HG1.out.r.nd
  have HDM := Lib.hid HG1.out.r.dm
  have HNE : Hid (w.heap.size ≤ w3.heap.size ∧ w1.heap.size + 1 ≠ w.heap.size ∧ w1.heap.size + 1 ≠ w1.heap.size ∧ w1.heap.size + 1 ≠ w2.heap.size) := Lib.hid ⟨by omega, by omega, by omega, by omega⟩
  clear hJ ha1 ha2 hb3 HAL HX1 HX2 HX0 HY5 HY6 HG1 HH1 hzw hz1 hz2 hz3 HLO HB1 HB2 HBA
  simp only
  gi_wp2
  have HFIT : Hid (∀ (j : Nat) (x : Int × Int), (refsL m.L m.L.length)[j]? = some x → I64 x.1 ∧ I64 x.2) := Lib.hid fun j x hx => by
    obtain ⟨i, hi, rfl, hs⟩ := refsL_mem.1 (List.mem_of_getElem? hx)
    have hl := HLE.out
    have h3 := HLM.out
    exact ⟨⟨by show (-9223372036854775808 : Int) ≤ 8; decide, by show (8 : Int) ≤ 9223372036854775807; decide⟩, ⟨by show (-9223372036854775808 : Int) ≤ (i : Int); omega, by show (i : Int) ≤ 9223372036854775807; omega⟩⟩
  have HHAS : Hid (∀ (j : Nat) (x : Int × Int), (refsL m.L m.L.length)[j]? = some x → hasP (colM T m ((refsL m.L m.L.length).take j)).L x = true) := Lib.hid fun j x hx => colM_has T m hx
  have HEQ : Hid (∀ k, (refsL m.L m.L.length).length ≤ k → (refsL m.L m.L.length).take k = refsL m.L m.L.length) := Lib.hid fun k hk => List.take_of_length_le hk
  generalize hRF : refsL m.L m.L.length = refs at *
  refine wpIn_rangeJ rfl (by omega) (gf := 56) (lb := #[.pointer (some ⟨w2.heap.size, 0, none⟩)]) rfl trivial (enters_of Try.func56 (by kernel_rfl) rfl) (hall_seq 4 (by omega) w2.heap.size va refs (by have := HLE.out; omega)) (fun _ => rfl)
    (fun j W => ColJ w W gh F m T refs j w.heap.size w1.heap.size (w1.heap.size + 1) w2.heap.size g vt mv vf va fs) HOWN.out
    ?good ?ende HJ.out
    (fun j x a' W => ∃ B7, a' = { tmps := #[.pointer (some ⟨gh, 0, none⟩), .slice q n c, .pointer (some ⟨w.heap.size, 0, none⟩), undef, .int .i64 0, .pointer (some ⟨w1.heap.size, 0, none⟩), .pointer (some ⟨w1.heap.size + 1, 0, none⟩), .pointer (some ⟨B7, 0, none⟩), undef, undef, .pointer (some ⟨gh, 0, none⟩), .slice q n c, .pointer (some ⟨g, 0, none⟩), .pointer (some ⟨gh, 0, none⟩), .func (.func 56) #[] #[.pointer (some ⟨w2.heap.size, 0, none⟩)], .agg #[.int .i64 x.1, .int .i64 x.2], undef, undef, undef, undef, undef, undef, undef, undef, undef, undef, undef, undef, undef, undef, undef, undef, undef, undef], defers := [] } ∧ W.heap[B7]? = some (.cells #[.int .i64 x.1, .int .i64 x.2] 36 (0, 0)) ∧ w.heap.size ≤ B7 ∧ refs[j]? = some x ∧ ColJ w W gh F m T refs j w.heap.size w1.heap.size (w1.heap.size + 1) w2.heap.size g vt mv vf va fs)
    ?ax ?assign ?body ?done
  case good =>
    intro j W h
    exact ⟨by rw [cell_of_row _ _ 0 _ _ _ h.ba]; rfl, h.row⟩
  case ende => exact fun j u W W' row h hg hr => h
  case ax =>
    rintro j x a' u W W' row ⟨B7, h1, h2, h3, h4, h5⟩ hg hr
    refine ⟨B7, h1, (hg.block B7 (lt_of_block h2) fun e => ?_).trans h2, h3, h4, HOWN.out j W W' row h5 hg hr⟩
    obtain ⟨_, o, ho, hcell⟩ := hr B7 e.symm
    rw [h2] at ho; cases ho; cases hcell
  case assign =>
    rintro l j ⟨a1, b1⟩ W K h hx hKK
    have HKK := Lib.hid hKK
    have HOW2 := Lib.hid (HOWN.out j W (W.alloc (.cells #[.int .i64 a1, .int .i64 b1] 36)) none h (World.grownBy_alloc W _ none) (fun r e => by cases e))
    have HXX := Lib.hid hx
    have HZL := Lib.hid h.fr.size
    clear h hx hKK
    gi_wp2
    exact HKK.out _ _ ((KeepsOthers.alloc _ _).from _) ⟨W.heap.size, rfl, heap_alloc_new W _, HZL.out, HXX.out, HOW2.out⟩
  case body =>
    rintro l j ⟨a1, b1⟩ a' W hl ⟨B7, rfl, h7, hB7, hx, h⟩
    have hfit := HFIT.out j (a1, b1) hx
    have HPL : Hid (∀ W', Below W.heap.size W W' → Calls Try.prog 36 #[.pointer (some ⟨g, 0, none⟩), .agg #[.int .i64 a1, .int .i64 b1]] W' fun e w' => e = .returned (.tuple #[.int .i64 (((posF T (a1, b1)).getD 0 : Nat) : Int), .bool (hasK T (a1, b1))]) ∧ Below W'.heap.size W' w') := Lib.hid fun W' hb => rnV_place (h.gra.below hb).r a1 b1 hfit
    have HJJ := Lib.hid h
    have HXX := Lib.hid hx
    have H7 := Lib.hid h7
    have HB7 := Lib.hid hB7
    have HFT := Lib.hid hfit
    have y0 := cell_of_row _ _ 0 _ _ _ h7
    have y1 := cell_of_row _ _ 1 _ _ _ h7
    have y5 := cell_of_row _ _ 0 _ _ _ h.b5
    simp at y0 y1 y5
    clear h hx h7 hB7 hfit
    generalize (posF T (a1, b1)).getD 0 = pp at *
    have hmix : Try.prog.follows .mixedOrders = true := by kernel_rfl
    cases hT : hasK T (a1, b1) with
    | true =>
      rw [hT] at HPL
      have HEND : Hid (∀ W', Below W.heap.size W W' → KeepsFrom w3.heap.size W W' ∧ ColJ w W' gh F m T refs (j + 1) w.heap.size w1.heap.size (w1.heap.size + 1) w2.heap.size g vt mv vf va fs) := Lib.hid fun W' hb => ⟨⟨hb.size, fun k o _ ho _ => (hb.block k (Array.getElem?_eq_some_iff.1 ho).1).trans ho⟩, (HJJ.out.below hb).kept HXX.out hT⟩
      gi_wp2_with (fail)
      gi_region_with_o (refine ⟨trivial, ?_⟩; gi_at_call 36; refine (CallsIn.inRound l (callsIn_wide.2 (HPL.out _ (by exact (Below.refl _ _).drew)))).mono ?_; rintro e w4 ⟨rfl, hb4⟩)
      all_goals (
        have HE := Lib.hid (HEND.out w4 (by first | exact (Below.refl _ _).drew.trans hb4 | exact hb4))
        clear hb4
        gi_wp2
        refine ⟨trivial, ?_⟩
        gi_wp2
        exact HE.out)
    | false =>
      rw [hT] at HPL
      have HDP : Hid (∀ W', Below W.heap.size W W' → Calls Try.prog 24 #[.pointer (some ⟨gh, 0, none⟩), .agg #[.int .i64 a1, .int .i64 b1]] W' fun e w' => e = .returned (.bool true) ∧ (w'.cell? ⟨w1.heap.size + 1, 0, none⟩ = some (.int .i64 (colN T (refs.take j) : Int)) ∧ w'.frozen? ⟨w1.heap.size + 1, 0, none⟩ = false ∧ KeepsFrom w3.heap.size W (w'.setCell ⟨w1.heap.size + 1, 0, none⟩ (.int .i64 ((colN T (refs.take j) : Int) + 1))) ∧ ColJ w (w'.setCell ⟨w1.heap.size + 1, 0, none⟩ (.int .i64 ((colN T (refs.take j) : Int) + 1))) gh F m T refs (j + 1) w.heap.size w1.heap.size (w1.heap.size + 1) w2.heap.size g vt mv vf va fs)) := Lib.hid fun W' hb => by
        have h1 := HJJ.out.below hb
        obtain ⟨F', ⟨vr, mb, S, hP, rfl⟩, hFF⟩ := h1.hep
        have hh1 := hP.dropW a1 b1 HFT.out.2.1 HFT.out.2.2
        rw [HHAS.out j (a1, b1) HXX.out] at hh1
        refine hh1.mono ?_
        rintro e w' ⟨rfl, hD⟩
        obtain ⟨q1, q2, q3, q4, q5, q6⟩ := h1.drop HF.out HXX.out hT hFF hD ⟨HNE.out.2.1, HNE.out.2.2.1, HNE.out.2.2.2⟩
        refine ⟨rfl, q2, q3, ⟨Nat.le_trans hb.size q6, fun k o hk ho hcell => q5 w3.heap.size k o HNE.out.1 hk ((hb.block k (Array.getElem?_eq_some_iff.1 ho).1).trans ho) hcell⟩, q4⟩
      have hnb := colN_le T (refs.take j)
      have hnl : colN T (refs.take j) ≤ 16384 := by have := HLE.out; simp at hnb; omega
      have HX0 : Hid (∀ W', Below W.heap.size W W' → W'.cell? ⟨w.heap.size, 0, none⟩ = some (.pointer (some ⟨gh, 0, none⟩)) ∧ W'.cell? ⟨B7, 0, none⟩ = some (.int .i64 a1) ∧ W'.cell? ⟨B7, 1, none⟩ = some (.int .i64 b1)) := Lib.hid fun W' hb => ⟨by rw [cell_of_row _ _ 0 _ _ _ ((hb.block _ (lt_of_block HJJ.out.b0)).trans HJJ.out.b0)]; rfl, by rw [cell_of_row _ _ 0 _ _ _ ((hb.block _ (lt_of_block H7.out)).trans H7.out)]; rfl, by rw [cell_of_row _ _ 1 _ _ _ ((hb.block _ (lt_of_block H7.out)).trans H7.out)]; rfl⟩
      clear hnb
      generalize colN T (refs.take j) = nn at *
      gi_wp2_with (fail)
      gi_region_with_o (refine ⟨trivial, ?_⟩; gi_at_call 36; refine (CallsIn.inRound l (callsIn_wide.2 (HPL.out _ (by exact (Below.refl _ _).drew)))).mono ?_; rintro e w4 ⟨rfl, hb4⟩)
      all_goals (
        have HB4 : Hid (Below W.heap.size W w4) := Lib.hid (by first | exact (Below.refl _ _).drew.trans hb4 | exact hb4)
        obtain ⟨z0, z1, z2⟩ := HX0.out w4 HB4.out
        clear hb4
        gi_wp2_with (refine ⟨trivial, ?_⟩; gi_at_call 24; refine (CallsIn.inRound l (callsIn_wide.2 (HDP.out w4 HB4.out))).mono ?_; rintro e w5 ⟨rfl, q1, q2, q3, q4⟩; have HQ := Lib.hid (And.intro q3 q4); clear q3 q4)
        exact HQ.out)
  case done =>
    rintro D j W hD h hle hDD
    have HDD := Lib.hid hDD
    have hh2 := HOWN.out j W (W.putObj D (.deferred none)) (some D) h (grownBy_putObj' W D _) (fun r e => by cases e; exact ⟨hD, _, hDD, rfl⟩)
    have b6 := h.b6
    rw [HEQ.out j hle] at b6
    have y6 := cell_of_row _ _ 0 _ _ _ b6
    simp at y6
    have HFIN : Hid (∃ T_1 F', (Ending.returned (Value.int .i64 (colN T refs : Int)) = .returned (.int .i64 (colN T_1 refs : Int))) ∧ T_1.Nodup ∧ (∀ v, v ∈ T_1 ↔ Rch m.L roots v) ∧ Hep (W.putObj D (.deferred none)) gh F' (colM T_1 m refs) ∧ (∀ k, F' k → F k) ∧ Chp F F w (W.putObj D (.deferred none))) := Lib.hid (by
      obtain ⟨F', d1, d2⟩ := hh2.hep
      rw [HEQ.out j hle] at d1
      exact ⟨T, F', rfl, HND.out, HT.out, d1, d2, hh2.fr⟩)
    clear h hh2 hDD b6
    generalize colN T refs = nn at *
    gi_wp2
    refine ⟨by simp, .inl ⟨_, _, rfl, run_takeDeferred HDD.out, ?_⟩⟩
    refine ⟨.int .i64 (nn : Int), ?_, by show ColR _ _ _ _ _ _ _; unfold ColR; rw [hRF]; exact HFIN.out⟩
    simp [results, Try.f19, go_sem]
end Go.Proofs.Ytekmboolfjicbaa
