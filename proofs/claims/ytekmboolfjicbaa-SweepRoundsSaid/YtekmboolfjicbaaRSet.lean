/- The document's Set. -/
import Derived.Test.YtekmboolfjicbaaRDrop
set_option maxRecDepth 20000
set_option linter.unusedSimpArgs false
namespace Go.Proofs.Ytekmboolfjicbaa
open Go.RowKit

def rSetL (L : Pls) (v : Int × Int) (i : Int) (y : Int × Int) : Pls := if setE L v i y = 0 then setR L v.2.toNat ((clAt L v.2.toNat).map fun c => setC c i y) else L
theorem six_row (W : World) (g t : Nat) (a0 a1 a2 a3 a4 a5 b2 b3 b4 : Value) (h : W.heap[g]? = some (.cells #[a0, a1, a2, a3, a4, a5] t (0, 0))) :
    (((W.setCell ⟨g, 2, none⟩ b2).setCell ⟨g, 3, none⟩ b3).setCell ⟨g, 4, none⟩ b4).heap[g]? = some (.cells #[a0, a1, b2, b3, b4, a5] t (0, 0)) :=
  heap_setCell_same _ _ 4 _ _ _ (heap_setCell_same _ _ 3 _ _ _ (heap_setCell_same _ _ 2 _ _ _ h))
section
variable {w w' : World} {F F' : Nat → Prop} {vl : Value} {W : Nat → Value × Value} {L : Pls}
set_option maxHeartbeats 12800000 in
theorem RHp.set (h : RHp w F vl W L) (hl : L.length ≤ 16000) (hsm : Sm L) (hF : ∀ k, F k → k < w.heap.size) (lim K N i yk yn : Int) :
    Calls Try.prog 23 #[.agg #[vl, .int .i64 lim], .agg #[.int .i64 K, .int .i64 N], .int .i64 i, .agg #[.int .i64 yk, .int .i64 yn]] w fun ex w' => ∃ v, ex = .returned (.tuple #[v, .int .i64 (setE L (K, N) i (yk, yn))]) ∧ RGoes w w' F lim (rSetL L (K, N) i (yk, yn)) v := by
  have HP := Lib.hid h
  have HH : Hid (∀ w1, Below w.heap.size w w1 → Calls Try.prog 43 #[.agg #[vl, .int .i64 lim], .agg #[.int .i64 K, .int .i64 N]] w1 fun ex w' => ex = .returned (.bool (hasP L (K, N))) ∧ Below w1.heap.size w1 w') := Lib.hid fun w1 hb => (h.below hb).has (by omega) lim K N
  have HVA : Hid (∀ w1, Below w.heap.size w w1 → Calls Try.prog 44 #[.agg #[vl, .int .i64 lim], .agg #[.int .i64 yk, .int .i64 yn]] w1 fun ex w' => ex = .returned (.bool (mayV L (yk, yn))) ∧ Below w1.heap.size w1 w') := Lib.hid fun w1 hb => (h.below hb).value (by omega) lim yk yn
  obtain ⟨q0, c0, hvl, -⟩ := own_formq h.row
  subst hvl
  obtain ⟨NL, HN⟩ : ∃ NL, Hid (L.length = NL) := ⟨_, Lib.hid rfl⟩
  have h4 := four_alloc w (.cells #[.slice q0 L.length c0, .int .i64 lim] 29) (.cells #[.int .i64 K, .int .i64 N] 36) (.cells #[.int .i64 yk, .int .i64 yn] 36) (.cells #[.slice none 0 0, .int .i64 0] 29)
  have H4 := Lib.hid h4
  clear h4
  cases hv : hasP L (K, N) with
  | false =>
    have HE : Hid (setE L (K, N) i (yk, yn) = 5) := Lib.hid (if_pos hv)
    have HL : Hid (rSetL L (K, N) i (yk, yn) = L) := Lib.hid (if_neg (by rw [HE.out]; decide))
    rw [HE.out, HL.out]
    rw [hv] at HH
    rw [HN.out] at hl HH HP H4 ⊢
    clear h hF hv HVA hsm
    go_enter Try.func23, Try.ntmps23
    go_upto_region 1 with fail
    generalize (((w.alloc (.cells #[.slice q0 NL c0, .int .i64 lim] 29)).alloc (.cells #[.int .i64 K, .int .i64 N] 36)).alloc (.cells #[.int .i64 yk, .int .i64 yn] 36)).alloc (.cells #[.slice none 0 0, .int .i64 0] 29) = W1 at *
    obtain ⟨hx0, hx1, hx2, hx3, hsz, hb1⟩ := H4.out
    have x0 := cell_of_row _ _ 0 _ _ _ hx0
    have x1 := cell_of_row _ _ 1 _ _ _ hx0
    have y0 := cell_of_row _ _ 0 _ _ _ hx1
    have y1 := cell_of_row _ _ 1 _ _ _ hx1
    simp at x0 x1 y0 y1
    go_upto_region 2 with (go_at_call 43; with_reducible refine (HH.out _ hb1).mono ?_; rintro ex w2 ⟨rfl, hb2⟩)
    have HB2 := Lib.hid (hb1.trans (Below.mono hb2 (by omega)))
    have hz0 := (hb2.block _ (by omega)).trans hx0
    have hz3 := (hb2.block _ (by omega)).trans hx3
    have p0 := cell_of_row _ _ 0 _ _ _ hz0
    have p1 := cell_of_row _ _ 1 _ _ _ hz0
    have q20 := cell_of_row _ _ 0 _ _ _ hz3
    have q21 := cell_of_row _ _ 1 _ _ _ hz3
    have f20 := frozen_of_row _ _ 0 _ _ hz3
    have f21 := frozen_of_row _ _ 1 _ _ hz3
    simp at p0 p1 q20 q21
    obtain ⟨u2, hbf, -⟩ := fill2 w2 (w.heap.size + 1 + 1 + 1) _ _ _ (.slice q0 NL c0) (.int .i64 lim) hz3
    have HBF := Lib.hid (hbf w.heap.size (by omega) w HB2.out)
    clear x0 x1 y0 y1 hb2 hbf
    go_wp2_with fail
    generalize (w2.setCell ⟨w.heap.size + 1 + 1 + 1, 0, none⟩ (.slice q0 NL c0)).setCell ⟨w.heap.size + 1 + 1 + 1, 1, none⟩ (.int .i64 lim) = V at *
    have v0 := cell_of_row _ _ 0 _ _ _ u2
    have v1 := cell_of_row _ _ 1 _ _ _ u2
    simp at v0 v1
    exact bodyPost_ret (v := .tuple #[.agg #[.slice q0 NL c0, .int .i64 lim], .int .i64 5]) (by simp [results, Try.results23, go_sem, v0, v1]) rfl ⟨_, rfl, _, _, rfl, HP.out.below HBF.out, HBF.out⟩
  | true =>
    obtain ⟨hK, hN, c, hc⟩ := hasP_iff.1 hv
    obtain ⟨n, rfl⟩ : ∃ n : Nat, N = (n : Int) := ⟨N.toNat, by have : (0 : Int) ≤ N := hN; omega⟩
    rw [show ((K, (n : Int)).2).toNat = n from Int.toNat_natCast n] at hc
    have hob : obAt L (K, (n : Int)) = c.o := obAt_some hv (by rw [show ((K, (n : Int)).2).toNat = n from Int.toNat_natCast n]; exact hc)
    have hnl := clAt_some hc
    obtain ⟨bR, cR, e, hcap, r0, r1, r2, r3, r4, r5⟩ := h.cells hnl
    cases e
    rw [hc] at r0 r1 r2
    obtain ⟨⟨qv, cv, ev, hvs, ov, mv⟩, ⟨pb, eb, ee, hbs, ob, mb⟩⟩ := h.at_ n c hc
    rw [ev] at r3
    rw [ee] at r4
    obtain ⟨s1, s2⟩ := hsm n c hc
    have HVS := Lib.hid hvs
    have HBS := Lib.hid hbs
    have HMV := Lib.hid mv
    have HMB := Lib.hid mb
    have hG := h.gx 4
    have HWI : Hid (∀ w1 (c' : Cl) q2 p2 n2 c2 d2 e2, c'.ch = true → Below w.heap.size w w1 → w.heap.size + 4 ≤ w1.heap.size → ObR w1 (Gx F w.heap.size 4) (.slice q2 n2 c2, .slice p2 d2 e2) c'.o → Calls Try.prog 39 #[.agg #[.slice (some ⟨bR, 0, none⟩) L.length c0, .int .i64 lim], .int .i64 (n : Int), .agg #[.bool true, .bool true, .int .i64 c'.o.k, .slice q2 n2 c2, .slice p2 d2 e2, .int .i64 0]] w1 fun ex w' =>
        ∃ vl', ex = .returned (.agg #[vl', .int .i64 lim]) ∧ RHp w' (Gx F w.heap.size 4) vl' (putW W n (.slice q2 n2 c2, .slice p2 d2 e2)) (setR L n (some c')) ∧ Below w1.heap.size w1 w') := Lib.hid fun w1 c' q2 p2 n2 c2 d2 e2 hch hb hs4 hob => by
      have hw := (hG.below hb).with_ (by omega) (fun k hk => hk.elim (fun hk => Nat.lt_of_lt_of_le (hF k hk) hb.size) (fun hk => by omega)) lim n (by omega) (some c') q2 p2 n2 c2 d2 e2 hob (fun e => by cases e)
      rw [show chOf (some c') = true from hch] at hw
      exact hw
    have HR : Hid (∀ w1, Below w.heap.size w w1 → w1.cell? ⟨bR, n * 6, none⟩ = some (.bool true) ∧ w1.cell? ⟨bR, n * 6 + 1, none⟩ = some (.bool c.ch) ∧ w1.cell? ⟨bR, n * 6 + 2, none⟩ = some (.int .i64 c.o.k) ∧ w1.cell? ⟨bR, n * 6 + 3, none⟩ = some (.slice qv c.o.vs.length cv) ∧ w1.cell? ⟨bR, n * 6 + 4, none⟩ = some (.slice pb c.o.bs.length eb) ∧ w1.cell? ⟨bR, n * 6 + 5, none⟩ = some (.int .i64 0)) := Lib.hid fun w1 hb =>
      ⟨(hb.cell (World.block_lt_of_cell? w _ r0)).trans r0, (hb.cell (World.block_lt_of_cell? w _ r1)).trans r1, (hb.cell (World.block_lt_of_cell? w _ r2)).trans r2, (hb.cell (World.block_lt_of_cell? w _ r3)).trans r3, (hb.cell (World.block_lt_of_cell? w _ r4)).trans r4, (hb.cell (World.block_lt_of_cell? w _ r5)).trans r5⟩
    have HFF := Lib.hid hF
    have HDG := Lib.hid hbs.dig
    rw [hv] at HH
    have hni : (n : Int) < (NL : Int) := by have := HN.out; omega
    rw [HN.out] at hl HH HVA HP H4 HWI hcap ⊢
    have HSE : Hid (setE L (K, (n : Int)) i (yk, yn) = if i < 0 ∨ (c.o.vs.length : Int) ≤ i then 7 else if mayV L (yk, yn) = false then 1 else 0) := Lib.hid (by unfold setE; rw [if_neg (by rw [hv]; decide), hob])
    have HSL : Hid (setE L (K, (n : Int)) i (yk, yn) = 0 → rSetL L (K, (n : Int)) i (yk, yn) = setR L n (some (setC c i (yk, yn)))) := Lib.hid fun h0 => by unfold rSetL; rw [if_pos h0, show ((K, (n : Int)).2).toNat = n from Int.toNat_natCast n, hc]; rfl
    have HSL0 : Hid (setE L (K, (n : Int)) i (yk, yn) ≠ 0 → rSetL L (K, (n : Int)) i (yk, yn) = L) := Lib.hid fun h0 => if_neg h0
    clear h hG hF hv hK hN hc r0 r1 r2 r3 r4 r5 hob ev ee hvs hbs mv mb ov ob hsm hnl
    obtain ⟨vn, HVN⟩ : ∃ vn, Hid (c.o.vs.length = vn) := ⟨_, Lib.hid rfl⟩
    obtain ⟨bn, HBN⟩ : ∃ bn, Hid (c.o.bs.length = bn) := ⟨_, Lib.hid rfl⟩
    obtain ⟨k, HK⟩ : ∃ k, Hid (c.o.k = k) := ⟨_, Lib.hid rfl⟩
    obtain ⟨ch, HCH⟩ : ∃ ch, Hid (c.ch = ch) := ⟨_, Lib.hid rfl⟩
    rw [HVN.out] at s1 HSE HR HVS
    rw [HBN.out] at s2 HR HBS
    rw [HK.out, HCH.out] at HR
    go_enter Try.func23, Try.ntmps23
    go_upto_region 1 with fail
    generalize (((w.alloc (.cells #[.slice (some ⟨bR, 0, none⟩) NL c0, .int .i64 lim] 29)).alloc (.cells #[.int .i64 K, .int .i64 (n : Int)] 36)).alloc (.cells #[.int .i64 yk, .int .i64 yn] 36)).alloc (.cells #[.slice none 0 0, .int .i64 0] 29) = W1 at *
    obtain ⟨hx0, hx1, hx2, hx3, hsz, hb1⟩ := H4.out
    have x0 := cell_of_row _ _ 0 _ _ _ hx0
    have x1 := cell_of_row _ _ 1 _ _ _ hx0
    have y0 := cell_of_row _ _ 0 _ _ _ hx1
    have y1 := cell_of_row _ _ 1 _ _ _ hx1
    simp at x0 x1 y0 y1
    go_upto_region 3 with (go_at_call 43; with_reducible refine (HH.out _ hb1).mono ?_; rintro ex w2 ⟨rfl, hb2⟩)
    have HB2 := Lib.hid (hb1.trans (Below.mono hb2 (by omega)))
    have hs2 : w.heap.size + 4 ≤ w2.heap.size := by have := hb2.size; omega
    have HX : Hid (∀ u, Below (w.heap.size + 4) w2 u → u.heap[w.heap.size]? = some (.cells #[.slice (some ⟨bR, 0, none⟩) NL c0, .int .i64 lim] 29 (0, 0)) ∧ u.heap[w.heap.size + 1]? = some (.cells #[.int .i64 K, .int .i64 (n : Int)] 36 (0, 0)) ∧ u.heap[w.heap.size + 1 + 1]? = some (.cells #[.int .i64 yk, .int .i64 yn] 36 (0, 0)) ∧ u.heap[w.heap.size + 1 + 1 + 1]? = some (.cells #[.slice none 0 0, .int .i64 0] 29 (0, 0)) ∧ Below w.heap.size w u) := Lib.hid fun u hu =>
      ⟨(hu.block _ (by omega)).trans ((hb2.block _ (by omega)).trans hx0), (hu.block _ (by omega)).trans ((hb2.block _ (by omega)).trans hx1), (hu.block _ (by omega)).trans ((hb2.block _ (by omega)).trans hx2), (hu.block _ (by omega)).trans ((hb2.block _ (by omega)).trans hx3), HB2.out.trans (hu.mono (by omega))⟩
    clear x0 x1 y0 y1 hx0 hx1 hx2 hx3 hb2 hb1 hsz H4 HH
    obtain ⟨hz0, hz1, hz2, hz3, hbz⟩ := HX.out _ (Below.refl _ _)
    have p0 := cell_of_row _ _ 0 _ _ _ hz0
    have p1 := cell_of_row _ _ 1 _ _ _ hz1
    simp at p0 p1
    obtain ⟨r0, r1, r2, r3, r4, r5⟩ := HR.out _ hbz
    go_upto_region 4 with fail
    have hx10 := heap_alloc_new w2 (.cells #[.bool true, .bool ch, .int .i64 k, .slice qv vn cv, .slice pb bn eb, .int .i64 0] 109)
    have hL : Below (w.heap.size + 4) w2 (w2.alloc (.cells #[.bool true, .bool ch, .int .i64 k, .slice qv vn cv, .slice pb bn eb, .int .i64 0] 109)) := (Below.refl _ _).alloc hs2 _
    have hs3 : (w2.alloc (.cells #[.bool true, .bool ch, .int .i64 k, .slice qv vn cv, .slice pb bn eb, .int .i64 0] 109)).heap.size = w2.heap.size + 1 := by simp
    generalize w2.alloc (.cells #[.bool true, .bool ch, .int .i64 k, .slice qv vn cv, .slice pb bn eb, .int .i64 0] 109) = w3 at *
    have m3 := cell_of_row _ _ 3 _ _ _ hx10
    have m2 := cell_of_row _ _ 2 _ _ _ hx10
    simp at m3 m2
    have HE7 : Hid (i < 0 ∨ (vn : Int) ≤ i → setE L (K, (n : Int)) i (yk, yn) = 7) := Lib.hid fun hr => by rw [HSE.out, if_pos hr]
    clear p0 p1 r0 r1 r2 r3 r4 r5 hz0 hz1 hz2 hz3 hbz
    by_cases hneg : i < 0
    · have d1 : decide (i < 0) = true := decide_eq_true hneg
      have HE := Lib.hid (HE7.out (.inl hneg))
      clear hneg
      obtain ⟨hz0, -, -, hz3, hbz⟩ := HX.out _ hL
      have q20 := cell_of_row _ _ 0 _ _ _ hz3
      have q21 := cell_of_row _ _ 1 _ _ _ hz3
      have f20 := frozen_of_row _ _ 0 _ _ hz3
      have f21 := frozen_of_row _ _ 1 _ _ hz3
      have p0 := cell_of_row _ _ 0 _ _ _ hz0
      have p1 := cell_of_row _ _ 1 _ _ _ hz0
      simp at p0 p1 q20 q21
      obtain ⟨u2, hbf, -⟩ := fill2 w3 (w.heap.size + 1 + 1 + 1) _ _ _ (.slice (some ⟨bR, 0, none⟩) NL c0) (.int .i64 lim) hz3
      have HBF := Lib.hid (hbf w.heap.size (by omega) w hbz)
      clear hbf
      go_wp2_with fail
      generalize (w3.setCell ⟨w.heap.size + 1 + 1 + 1, 0, none⟩ (.slice (some ⟨bR, 0, none⟩) NL c0)).setCell ⟨w.heap.size + 1 + 1 + 1, 1, none⟩ (.int .i64 lim) = V at *
      have v0 := cell_of_row _ _ 0 _ _ _ u2
      have v1 := cell_of_row _ _ 1 _ _ _ u2
      simp at v0 v1
      exact bodyPost_ret (v := .tuple #[.agg #[.slice (some ⟨bR, 0, none⟩) NL c0, .int .i64 lim], .int .i64 7]) (by simp [results, Try.results23, go_sem, v0, v1]) rfl (by rw [HE.out, HSL0.out (by rw [HE.out]; decide)]; exact ⟨_, rfl, _, _, rfl, HP.out.below HBF.out, HBF.out⟩)
    have d1 : decide (i < 0) = false := decide_eq_false hneg
    by_cases hbig : (vn : Int) ≤ i
    · have d2 : decide ((vn : Int) ≤ i) = true := decide_eq_true hbig
      have HE := Lib.hid (HE7.out (.inr hbig))
      clear hneg hbig
      obtain ⟨hz0, -, -, hz3, hbz⟩ := HX.out _ hL
      have q20 := cell_of_row _ _ 0 _ _ _ hz3
      have q21 := cell_of_row _ _ 1 _ _ _ hz3
      have f20 := frozen_of_row _ _ 0 _ _ hz3
      have f21 := frozen_of_row _ _ 1 _ _ hz3
      have p0 := cell_of_row _ _ 0 _ _ _ hz0
      have p1 := cell_of_row _ _ 1 _ _ _ hz0
      simp at p0 p1 q20 q21
      obtain ⟨u2, hbf, -⟩ := fill2 w3 (w.heap.size + 1 + 1 + 1) _ _ _ (.slice (some ⟨bR, 0, none⟩) NL c0) (.int .i64 lim) hz3
      have HBF := Lib.hid (hbf w.heap.size (by omega) w hbz)
      clear hbf
      go_wp2_with fail
      generalize (w3.setCell ⟨w.heap.size + 1 + 1 + 1, 0, none⟩ (.slice (some ⟨bR, 0, none⟩) NL c0)).setCell ⟨w.heap.size + 1 + 1 + 1, 1, none⟩ (.int .i64 lim) = V at *
      have v0 := cell_of_row _ _ 0 _ _ _ u2
      have v1 := cell_of_row _ _ 1 _ _ _ u2
      simp at v0 v1
      exact bodyPost_ret (v := .tuple #[.agg #[.slice (some ⟨bR, 0, none⟩) NL c0, .int .i64 lim], .int .i64 7]) (by simp [results, Try.results23, go_sem, v0, v1]) rfl (by rw [HE.out, HSL0.out (by rw [HE.out]; decide)]; exact ⟨_, rfl, _, _, rfl, HP.out.below HBF.out, HBF.out⟩)
    have d2 : decide ((vn : Int) ≤ i) = false := decide_eq_false hbig
    obtain ⟨j, rfl⟩ : ∃ j : Nat, i = (j : Int) := ⟨i.toNat, by omega⟩
    have hj : j < vn := by omega
    have d3 : decide (vn ≤ j) = false := by simp; omega
    have hjn : (j : Int) < (vn : Int) := by omega
    have HNR : Hid (¬ ((j : Int) < 0 ∨ (vn : Int) ≤ (j : Int))) := Lib.hid (by omega)
    have HCO : Hid (∀ w1, Below w.heap.size w w1 → Calls Try.prog 40 #[.agg #[.int .i64 k, .slice qv vn cv, .slice pb bn eb]] w1 fun ex w' => ∃ vv vb, ex = .returned (.agg #[.int .i64 k, vv, vb]) ∧ Cpy w1 w' c.o vv vb) := Lib.hid fun w1 hb => by
      have hco := copied_any c.o qv pb vn cv bn eb w1 ⟨HVS.out.below hb, HBS.out.below hb⟩ HMV.out HMB.out (by omega) (by omega)
      rw [HK.out] at hco
      exact hco
    obtain ⟨hz0, -, hz2, -, hbz⟩ := HX.out _ hL
    have p0 := cell_of_row _ _ 0 _ _ _ hz0
    have p1 := cell_of_row _ _ 1 _ _ _ hz0
    have p2 := cell_of_row _ _ 0 _ _ _ hz2
    have p3 := cell_of_row _ _ 1 _ _ _ hz2
    simp at p0 p1 p2 p3
    cases hm : mayV L (yk, yn) with
    | false =>
      rw [hm] at HVA
      have HE : Hid (setE L (K, (n : Int)) (j : Int) (yk, yn) = 1) := Lib.hid (by rw [HSE.out, if_neg HNR.out, if_pos hm])
      clear hm HWI
      go_upto_region 7 with (go_at_call 44; with_reducible refine (HVA.out _ hbz).mono ?_; rintro ex w4 ⟨rfl, hb4⟩)
      have hL := hL.trans (hb4.mono (Nat.le_trans hs2 hL.size))
      clear p0 p1 p2 p3 hz0 hz2 hbz
      obtain ⟨hz0, -, -, hz3, hbz⟩ := HX.out _ hL
      have q20 := cell_of_row _ _ 0 _ _ _ hz3
      have q21 := cell_of_row _ _ 1 _ _ _ hz3
      have f20 := frozen_of_row _ _ 0 _ _ hz3
      have f21 := frozen_of_row _ _ 1 _ _ hz3
      have p0 := cell_of_row _ _ 0 _ _ _ hz0
      have p1 := cell_of_row _ _ 1 _ _ _ hz0
      simp at p0 p1 q20 q21
      obtain ⟨u2, hbf, -⟩ := fill2 w4 (w.heap.size + 1 + 1 + 1) _ _ _ (.slice (some ⟨bR, 0, none⟩) NL c0) (.int .i64 lim) hz3
      have HBF := Lib.hid (hbf w.heap.size (by omega) w hbz)
      clear hbf
      go_wp2_with fail
      generalize (w4.setCell ⟨w.heap.size + 1 + 1 + 1, 0, none⟩ (.slice (some ⟨bR, 0, none⟩) NL c0)).setCell ⟨w.heap.size + 1 + 1 + 1, 1, none⟩ (.int .i64 lim) = V at *
      have v0 := cell_of_row _ _ 0 _ _ _ u2
      have v1 := cell_of_row _ _ 1 _ _ _ u2
      simp at v0 v1
      exact bodyPost_ret (v := .tuple #[.agg #[.slice (some ⟨bR, 0, none⟩) NL c0, .int .i64 lim], .int .i64 1]) (by simp [results, Try.results23, go_sem, v0, v1]) rfl (by rw [HE.out, HSL0.out (by rw [HE.out]; decide)]; exact ⟨_, rfl, _, _, rfl, HP.out.below HBF.out, HBF.out⟩)
    | true =>
      rw [hm] at HVA
      have HE : Hid (setE L (K, (n : Int)) (j : Int) (yk, yn) = 0) := Lib.hid (by rw [HSE.out, if_neg HNR.out, if_neg (by rw [hm]; decide)])
      clear hm
      go_upto_region 8 with (go_at_call 44; with_reducible refine (HVA.out _ hbz).mono ?_; rintro ex w4 ⟨rfl, hb4⟩)
      have hx4 := (hb4.block _ (by omega)).trans hx10
      have hL := hL.trans (hb4.mono (Nat.le_trans hs2 hL.size))
      have hs4 : w2.heap.size < w4.heap.size := by have := hb4.size; omega
      have e2 := cell_of_row _ _ 2 _ _ _ hx4
      have e3 := cell_of_row _ _ 3 _ _ _ hx4
      have e4 := cell_of_row _ _ 4 _ _ _ hx4
      simp at e2 e3 e4
      have hUP := (HX.out _ hL).2.2.2.2
      clear p0 p1 p2 p3 hz0 hz2 hbz m2 m3 hb4
      go_upto_region 9 with (go_at_call 40; with_reducible refine (HCO.out _ hUP).mono ?_; rintro ex w5 ⟨vv, vb, rfl, hcp⟩; obtain ⟨qa, ca, rfl, hqa⟩ := own_formq hcp.vs; obtain ⟨qb, cb, rfl, hqb⟩ := own_formq hcp.bs; have hx5 := (hcp.below.block _ hs4).trans hx4; have g2 := cell_of_row _ _ 2 _ _ _ hx5; have g3 := cell_of_row _ _ 3 _ _ _ hx5; have g4 := cell_of_row _ _ 4 _ _ _ hx5; have h2 := frozen_of_row _ _ 2 _ _ hx5; have h3 := frozen_of_row _ _ 3 _ _ hx5; have h4 := frozen_of_row _ _ 4 _ _ hx5; simp at g2 g3 g4)
      have hvs5 := hcp.vs
      have hbs5 := hcp.bs
      have hb5 := hcp.below
      rw [HVN.out] at hvs5
      rw [HBN.out] at hbs5
      rw [HVN.out, HBN.out]
      obtain ⟨bv, cv', ev⟩ := own_some hvs5 (by omega)
      cases ev
      have hbv : w4.heap.size ≤ bv := own_ge hvs5 rfl
      have hcap5 := own_cap hvs5
      have hx6 := six_row w5 w2.heap.size _ _ _ _ _ _ _ (.int .i64 k) (.slice (some ⟨bv, 0, none⟩) vn ca) (.slice qb bn cb) hx5
      have hoth6 : ∀ b, b ≠ w2.heap.size → (((w5.setCell ⟨w2.heap.size, 2, none⟩ (.int .i64 k)).setCell ⟨w2.heap.size, 3, none⟩ (.slice (some ⟨bv, 0, none⟩) vn ca)).setCell ⟨w2.heap.size, 4, none⟩ (.slice qb bn cb)).heap[b]? = w5.heap[b]? := fun b hb => by
        rw [Below.heap_setCell _ _ _ _ hb, Below.heap_setCell _ _ _ _ hb, Below.heap_setCell _ _ _ _ hb]
      have hL6 : Below (w.heap.size + 4) w2 (((w5.setCell ⟨w2.heap.size, 2, none⟩ (.int .i64 k)).setCell ⟨w2.heap.size, 3, none⟩ (.slice (some ⟨bv, 0, none⟩) vn ca)).setCell ⟨w2.heap.size, 4, none⟩ (.slice qb bn cb)) := (((hL.trans (hb5.mono (Nat.le_trans hs2 hL.size))).setCell hs2 _).setCell hs2 _).setCell hs2 _
      have hsz6 : w5.heap.size ≤ (((w5.setCell ⟨w2.heap.size, 2, none⟩ (.int .i64 k)).setCell ⟨w2.heap.size, 3, none⟩ (.slice (some ⟨bv, 0, none⟩) vn ca)).setCell ⟨w2.heap.size, 4, none⟩ (.slice qb bn cb)).heap.size := by simp
      have hvs6 := own_other hvs5 (w' := ((w5.setCell ⟨w2.heap.size, 2, none⟩ (.int .i64 k)).setCell ⟨w2.heap.size, 3, none⟩ (.slice (some ⟨bv, 0, none⟩) vn ca)).setCell ⟨w2.heap.size, 4, none⟩ (.slice qb bn cb)) fun b hb => hoth6 b (by have := own_ge hvs5 hb; omega)
      have hbs6 := own_other hbs5 (w' := ((w5.setCell ⟨w2.heap.size, 2, none⟩ (.int .i64 k)).setCell ⟨w2.heap.size, 3, none⟩ (.slice (some ⟨bv, 0, none⟩) vn ca)).setCell ⟨w2.heap.size, 4, none⟩ (.slice qb bn cb)) fun b hb => hoth6 b (by have := own_ge hbs5 hb; omega)
      have hbl5 := hb5.size
      clear e2 e3 e4 g2 g3 g4 h2 h3 h4 hx5 hoth6 hvs5 hbs5 hx4 hL
      generalize ((w5.setCell ⟨w2.heap.size, 2, none⟩ (.int .i64 k)).setCell ⟨w2.heap.size, 3, none⟩ (.slice (some ⟨bv, 0, none⟩) vn ca)).setCell ⟨w2.heap.size, 4, none⟩ (.slice qb bn cb) = w6 at *
      obtain ⟨-, -, hz2, -, -⟩ := HX.out _ hL6
      have p2 := cell_of_row _ _ 0 _ _ _ hz2
      have p3 := cell_of_row _ _ 1 _ _ _ hz2
      have e3 := cell_of_row _ _ 3 _ _ _ hx6
      simp at p2 p3 e3
      obtain ⟨fg0, fg1⟩ := flatV_get c.o.vs j (by rw [HVN.out]; exact hj)
      have g0 := (hvs6.cellAt (j * 2) (by omega)).trans fg0
      have g1 := (hvs6.cellAt (j * 2 + 1) (by omega)).trans fg1
      have f0 := hvs6.frozenAt (j * 2)
      have f1 := hvs6.frozenAt (j * 2 + 1)
      have hvs7 := (((hvs6.stored (j * 2) (.int .i64 yk)).1).stored (j * 2 + 1) (.int .i64 yn)).1
      have hfs := flatV_set c.o.vs j (yk, yn) (by rw [HVN.out]; exact hj)
      simp only at hfs
      rw [hfs] at hvs7
      have nbt : w2.heap.size ≠ bv := by omega
      have hx7 := (Below.heap_setCell ((w6.setCell ⟨bv, j * 2, none⟩ (.int .i64 yk))) ⟨bv, j * 2 + 1, none⟩ (.int .i64 yn) w2.heap.size nbt).trans ((Below.heap_setCell w6 ⟨bv, j * 2, none⟩ (.int .i64 yk) w2.heap.size nbt).trans hx6)
      have hL7 : Below (w.heap.size + 4) w2 ((w6.setCell ⟨bv, j * 2, none⟩ (.int .i64 yk)).setCell ⟨bv, j * 2 + 1, none⟩ (.int .i64 yn)) := (hL6.setCell (by show w.heap.size + 4 ≤ bv; omega) _).setCell (by show w.heap.size + 4 ≤ bv; omega) _
      have hbs7 := own_other hbs6 (w' := (w6.setCell ⟨bv, j * 2, none⟩ (.int .i64 yk)).setCell ⟨bv, j * 2 + 1, none⟩ (.int .i64 yn)) fun b hb => by
        have h1 : b ≠ bv := by
          rintro rfl
          obtain ⟨cur, hc1⟩ := own_head hbs6 hb
          obtain ⟨cur2, hc2⟩ := own_head hvs6 (g := b) rfl
          exact ne_of_ty hc1 hc2 (by decide) rfl
        rw [Below.heap_setCell _ _ _ _ h1, Below.heap_setCell _ _ _ _ h1]
      have hsz7 : w6.heap.size ≤ ((w6.setCell ⟨bv, j * 2, none⟩ (.int .i64 yk)).setCell ⟨bv, j * 2 + 1, none⟩ (.int .i64 yn)).heap.size := by simp
      go_upto_region 10 with fail
      clear g0 g1 f0 f1 p2 p3 e3 hvs6 hbs6 hx6 fg0 fg1 hz2
      generalize (w6.setCell ⟨bv, j * 2, none⟩ (.int .i64 yk)).setCell ⟨bv, j * 2 + 1, none⟩ (.int .i64 yn) = w7 at *
      have e1 := cell_of_row _ _ 1 _ _ _ hx7
      have f1 := frozen_of_row _ _ 1 _ _ hx7
      simp at e1
      have hx8 := heap_setCell_same w7 w2.heap.size 1 _ _ (.bool true) hx7
      have hL8 : Below (w.heap.size + 4) w2 (w7.setCell ⟨w2.heap.size, 1, none⟩ (.bool true)) := hL7.setCell (by show w.heap.size + 4 ≤ w2.heap.size; omega) _
      have hvs8 := own_other hvs7 (w' := w7.setCell ⟨w2.heap.size, 1, none⟩ (.bool true)) fun b hb => Below.heap_setCell _ _ _ _ (by have := own_ge hvs7 hb; show b ≠ w2.heap.size; omega)
      have hbs8 := own_other hbs7 (w' := w7.setCell ⟨w2.heap.size, 1, none⟩ (.bool true)) fun b hb => Below.heap_setCell _ _ _ _ (by have := own_ge hbs7 hb; show b ≠ w2.heap.size; omega)
      have hsz8 : w7.heap.size ≤ (w7.setCell ⟨w2.heap.size, 1, none⟩ (.bool true)).heap.size := by simp
      go_upto_region 11 with fail
      clear e1 f1 hvs7 hbs7 hx7
      generalize w7.setCell ⟨w2.heap.size, 1, none⟩ (.bool true) = w8 at *
      obtain ⟨hz0, hz1, -, hz3, hbz⟩ := HX.out _ hL8
      have p0 := cell_of_row _ _ 0 _ _ _ hz0
      have p1 := cell_of_row _ _ 1 _ _ _ hz0
      have p2 := cell_of_row _ _ 1 _ _ _ hz1
      have t0 := cell_of_row _ _ 0 _ _ _ hx8
      have t1 := cell_of_row _ _ 1 _ _ _ hx8
      have t2 := cell_of_row _ _ 2 _ _ _ hx8
      have t3 := cell_of_row _ _ 3 _ _ _ hx8
      have t4 := cell_of_row _ _ 4 _ _ _ hx8
      have t5 := cell_of_row _ _ 5 _ _ _ hx8
      simp at p0 p1 p2 t0 t1 t2 t3 t4 t5
      have HOB : Hid (ObR w8 (Gx F w.heap.size 4) (.slice (some ⟨bv, 0, none⟩) vn ca, .slice qb bn cb) (setC c (j : Int) (yk, yn)).o) := Lib.hid (by
        have hlen : (setC c (j : Int) (yk, yn)).o.vs.length = vn := by unfold setC; simp [HVN.out]
        have hvs9 : (setC c (j : Int) (yk, yn)).o.vs = c.o.vs.set j (yk, yn) := by unfold setC; rw [Int.toNat_natCast]
        have hbs9 : (setC c (j : Int) (yk, yn)).o.bs = c.o.bs := rfl
        refine ⟨⟨_, ca, by rw [hlen], ?_, ?_, fun h => by cases h⟩, ⟨qb, cb, by rw [hbs9, HBN.out], ?_, ?_, hqb⟩⟩
        · rw [hlen, hvs9]; exact Vls.own hvs8
        · intro _ b o' e hf
          cases e
          rcases hf with hf | hf
          · have := HFF.out _ hf; omega
          · omega
        · rw [hbs9, HBN.out]; exact Bys.own hbs8 HDG.out
        · rw [hbs9, HBN.out]
          intro hn0 b o' e hf
          subst e
          obtain ⟨b3, c3, e3⟩ := own_some hbs8 hn0
          cases e3
          have h9 := own_ge hbs8 (b := b) rfl
          rcases hf with hf | hf
          · have := HFF.out _ hf; omega
          · omega)
      have HW9 := Lib.hid (HWI.out w8 (setC c (j : Int) (yk, yn)) _ _ _ _ _ _ rfl hbz (by omega) HOB.out)
      rw [show (setC c (j : Int) (yk, yn)).o.k = k from HK.out] at HW9
      clear HWI HOB
      go_wp2_with (go_at_call 39; with_reducible refine HW9.out.mono ?_; rintro ex w9 ⟨vl9, rfl, hr9, hb9⟩; obtain ⟨q9, c9, rfl, -⟩ := own_formq hr9.row; have hz9 := (hb9.block _ (by omega)).trans hz3; have q20 := cell_of_row _ _ 0 _ _ _ hz9; have q21 := cell_of_row _ _ 1 _ _ _ hz9; have f20 := frozen_of_row _ _ 0 _ _ hz9; have f21 := frozen_of_row _ _ 1 _ _ hz9; simp at q20 q21)
      have HB9 := Lib.hid (hbz.trans (hb9.mono hbz.size))
      obtain ⟨u2, hbf, hoth⟩ := fill2 w9 (w.heap.size + 1 + 1 + 1) _ _ _ (.slice q9 (setR L n (some (setC c (j : Int) (yk, yn)))).length c9) (.int .i64 lim) hz9
      have HBF := Lib.hid (hbf w.heap.size (by omega) w HB9.out)
      have HRV := Lib.hid (hr9.keep (w' := (w9.setCell ⟨w.heap.size + 1 + 1 + 1, 0, none⟩ (.slice q9 (setR L n (some (setC c (j : Int) (yk, yn)))).length c9)).setCell ⟨w.heap.size + 1 + 1 + 1, 1, none⟩ (.int .i64 lim)) (F' := F) (fun b2 hb2 hf2 => ⟨hoth b2 (fun e2 => hf2 (.inr (by omega))), fun hf3 => hf2 (.inl hf3)⟩))
      clear hbf hoth hr9
      generalize (setR L n (some (setC c (j : Int) (yk, yn)))).length = n9 at *
      generalize (w9.setCell ⟨w.heap.size + 1 + 1 + 1, 0, none⟩ (.slice q9 n9 c9)).setCell ⟨w.heap.size + 1 + 1 + 1, 1, none⟩ (.int .i64 lim) = V at *
      have v0 := cell_of_row _ _ 0 _ _ _ u2
      have v1 := cell_of_row _ _ 1 _ _ _ u2
      simp at v0 v1
      go_wp2_with fail
      exact bodyPost_ret (v := .tuple #[.agg #[.slice q9 n9 c9, .int .i64 lim], .int .i64 0]) (by simp [results, Try.results23, go_sem, v0, v1]) rfl (by rw [HE.out, HSL.out HE.out]; exact ⟨_, rfl, _, _, rfl, HRV.out, HBF.out⟩)
end
end Go.Proofs.Ytekmboolfjicbaa
