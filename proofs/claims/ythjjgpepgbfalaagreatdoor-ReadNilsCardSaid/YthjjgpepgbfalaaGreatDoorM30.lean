/- Texts RdY4 to RdK2 of this seat, laid into one. -/
import Derived.Test.YthjjgpepgbfalaaGreatDoorM24
import Derived.Test.YthjjgpepgbfalaaGreatDoorM26
import Derived.Test.YthjjgpepgbfalaaGreatDoorM29
set_option linter.unusedVariables false
set_option linter.unusedSimpArgs false
set_option linter.constructorNameAsVariable false
section
/-! One: the one datum of a text. -/
set_option maxRecDepth 20000
set_option linter.unusedSimpArgs false
set_option linter.unusedVariables false
namespace Go.Proofs.YthjjgpepgbfalaaGreatDoor
open Go.RowKit Go.Shelf

theorem results_row_tmp2 {P : Program} {fn : Func} {p u x : Tmp} {ty : TypeId} (h : fn.results = #[.cell p ty, .tmp u, .tmp x]) (tmps : Array Value) (w : World) (g : Nat) (t : TypeId) (cs : Array Value) (fr : Nat × Nat) (d : TypeDesc)
    (hp : tmps.getD p undef = .pointer (some ⟨g, 0, none⟩)) (hg : w.heap[g]? = some (.cells cs t fr))
    (hu : P.underlying ty = some d) (hd : (match d with | .struct _ | .array _ _ => true | _ => false) = true) (hi : (P.info? ty).map (·.size) = some cs.size) :
    (results fn tmps).run P w = .ok (.tuple #[.agg cs, tmps.getD u undef, tmps.getD x undef]) w := by
  have hp' : tmps[p]?.getD undef = .pointer (some ⟨g, 0, none⟩) := by simpa using hp
  have e1 := run_loadVar_row w g t ty cs fr d hg hu hd hi
  simp [results, h, hp', asAddr, e1, Sem.run_bind, Result.andThen]
/-- What One tells. -/
def OneR (w w' : World) (g gt : Nat) (F : Nat → Prop) (Ft : List Nat) (m : Hm) (N : List ByteArray) (L : List UInt8) (e : Ending) : Prop := match parseT L with
  | (none, n, x) => e = .returned (.tuple #[.agg #[.int .i64 0, .int .i64 0], .int .i64 (n : Int), .int .i64 x]) ∧ x ≠ 0 ∧ Below w.heap.size w w'
  | (some A, _, _) => if (m.lim : Int) - (liveN m.L : Int) < objsZ A (pre A 0) then e = .returned (.tuple #[.agg #[.int .i64 0, .int .i64 0], .int .i64 (L.length : Int), .int .i64 8]) ∧ Below w.heap.size w w'
    else if (ndAt A 0).is.length = 0 then e = .returned (.tuple #[.agg #[.int .i64 0, .int .i64 0], .int .i64 (L.length : Int), .int .i64 5]) ∧ Below w.heap.size w w'
    else if 1 < (ndAt A 0).is.length then e = .returned (.tuple #[.agg #[.int .i64 0, .int .i64 0], .int .i64 (L.length : Int), .int .i64 2]) ∧ Below w.heap.size w w'
    else e = .returned (.tuple #[.agg #[.int .i64 ((bldV m N A).getD 0 (0, 0)).1, .int .i64 ((bldV m N A).getD 0 (0, 0)).2], .int .i64 (L.length : Int), .int .i64 0]) ∧ MadeW w w' g gt F Ft m N A
section
variable {w w2 w3 : World} {g gt : Nat} {F : Nat → Prop} {Ft : List Nat} {m : Hm} {N : List ByteArray} {A : List Nd} {S : Nat → Nat} {V : Nat → Value}
theorem built0 : ∀ u : World, (Instr.build 36 #[]).run Tryz.prog u = .ok (.agg #[.int .i64 0, .int .i64 0]) u := fun u => run_build u _ _ _ (by kernel_rfl)
/-- The result's box, two stores behind. -/
theorem two_end {w w3 : World} (hb : Below w.heap.size w w3) (h6 : Bx2 w3 w.heap.size (.int .i64 0) (.int .i64 0)) (x y : Int) :
    ((w3.setCell ⟨w.heap.size, 0, none⟩ (.int .i64 x)).setCell ⟨w.heap.size, 1, none⟩ (.int .i64 y)).heap[w.heap.size]? = some (.cells #[.int .i64 x, .int .i64 y] 36 (0, 0)) ∧ Below w.heap.size w ((w3.setCell ⟨w.heap.size, 0, none⟩ (.int .i64 x)).setCell ⟨w.heap.size, 1, none⟩ (.int .i64 y)) :=
  ⟨heap_setCell_same _ _ 1 _ _ _ (heap_setCell_same _ _ 0 _ _ _ h6.row), below_two hb (Nat.le_refl _) _ _⟩
set_option maxHeartbeats 3200000 in
theorem one_any (hE : Lx.Env w) (h : Bth w g gt F Ft m N) (hr : RdyH m N) (T : ByteArray) (hS : T.size ≤ 9223372036854775807) (hN : T.size ≤ 4096 → N.length + 2 * T.size ≤ 16383) :
    Calls Tryz.prog 12 #[.pointer (some ⟨g, 0, none⟩), .pointer (some ⟨gt, 0, none⟩), .string T] w fun e w' => OneR w w' g gt F Ft m N (Lx.tl T) e := by
  have hlen : (Lx.tl T).length = T.size := Lx.tl_len T
  obtain ⟨w1, hw1⟩ : ∃ w1, w.alloc (.cells #[.int .i64 0, .int .i64 0] 36) = w1 := ⟨_, rfl⟩
  have hb1 : Below w.heap.size w w1 := by rw [← hw1]; exact alloc_below w _
  have h61 : w1.heap[w.heap.size]? = some (.cells #[.int .i64 0, .int .i64 0] 36 (0, 0)) := by rw [← hw1]; exact heap_alloc_new w _
  have hz1 : w1.heap.size = w.heap.size + 1 := by rw [← hw1]; simp
  have hl := h.lt
  have HB1 := Lib.hid hb1
  have HZ1 := Lib.hid hz1
  have HBX : Hid (∀ w3, Below w1.heap.size w1 w3 → Bx2 w3 w.heap.size (.int .i64 0) (.int .i64 0) ∧ Below w.heap.size w w3) := Lib.hid fun w3 hb => ⟨Bx2.of ((hb.block _ (by omega)).trans h61), hb1.trans (hb.mono hb1.size)⟩
  have HSV := Lib.hid sizeVal
  have hb0 := built0
  have HF := Lib.hid (fitting_any (hE.below hb1) (h.below hb1) T hS (fun A n x hp => by
    obtain ⟨hP, h1, -⟩ := parsed hp
    obtain ⟨h2, h3, h4⟩ := hP.objs
    have h5 := hP.short
    have h6 := hN (by omega)
    exact ⟨by omega, ⟨by omega, by omega⟩, h1⟩))
  unfold OneR
  unfold FitR at HF
  cases hp : parseT (Lx.tl T) with
  | mk r nx =>
  obtain ⟨n, x⟩ := nx
  rw [hp] at HF
  cases r with
  | none =>
    have HF2 : Hid (Calls Tryz.prog 17 #[.pointer (some ⟨g, 0, none⟩), .pointer (some ⟨gt, 0, none⟩), .string T] w1 fun e w' => Below w1.heap.size w1 w' ∧ e = .returned (.tuple #[.pointer none, .int .i64 (n : Int), .int .i64 x]) ∧ x ≠ 0) := HF
    simp only
    clear h hN hp HF hlen hE hr h61 hz1 hl hb1
    go_enter Tryz.func12, Tryz.ntmps12
    go_upto_region 2 with (go_at_call 17; with_reducible refine HF2.out.mono ?_; rintro e w3 ⟨hb, rfl, hx⟩)
    obtain ⟨h6, h7⟩ := HBX.out _ hb
    have c0 := h6.c0; have c1 := h6.c1; have c2 := h6.f0; have c3 := h6.f1
    have HT := Lib.hid (two_end h7 h6 0 0)
    have dx : (x != 0) = true := by simp [hx]
    have HX := Lib.hid hx
    clear hx hb h6 h7
    go_wp2_with fail
    exact bodyPost_ret (results_row_tmp2 Tryz.results12 _ _ w.heap.size 36 _ (0, 0) _ rfl HT.out.1 Tryz.underlying36 rfl HSV.out) rfl ⟨rfl, HX.out, HT.out.2⟩
  | some A =>
    obtain ⟨hP, h1, -⟩ := parsed hp
    have hsz : (T.size : Int) ≤ 1000000 := by have := hP.short; omega
    simp only
    by_cases hfull : (m.lim : Int) - (liveN m.L : Int) < objsZ A (pre A 0)
    · have HF2 : Hid (Calls Tryz.prog 17 #[.pointer (some ⟨g, 0, none⟩), .pointer (some ⟨gt, 0, none⟩), .string T] w1 fun e w' => Below w1.heap.size w1 w' ∧ e = .returned (.tuple #[.pointer none, .int .i64 (T.size : Int), .int .i64 8])) := Lib.hid (HF.out.mono fun e w' ⟨hb, he⟩ => ⟨hb, by
        have he2 : (if (m.lim : Int) - (liveN m.L : Int) < objsZ A (pre A 0) then e = .returned (.tuple #[.pointer none, .int .i64 ((Lx.tl T).length : Int), .int .i64 8]) else _) := he
        rw [if_pos hfull, hlen] at he2
        exact he2⟩)
      simp only [if_pos hfull]
      rw [hlen]
      clear h hN hp HF hlen hE hr hP hfull h61 hz1 hl hb1
      go_enter Tryz.func12, Tryz.ntmps12
      go_upto_region 2 with (go_at_call 17; with_reducible refine HF2.out.mono ?_; rintro e w3 ⟨hb, rfl⟩)
      obtain ⟨h6, h7⟩ := HBX.out _ hb
      have c0 := h6.c0; have c1 := h6.c1; have c2 := h6.f0; have c3 := h6.f1
      have HT := Lib.hid (two_end h7 h6 0 0)
      clear hb h6 h7
      go_wp2_with fail
      exact bodyPost_ret (results_row_tmp2 Tryz.results12 _ _ w.heap.size 36 _ (0, 0) _ rfl HT.out.1 Tryz.underlying36 rfl HSV.out) rfl ⟨rfl, HT.out.2⟩
    · have HF2 : Hid (Calls Tryz.prog 17 #[.pointer (some ⟨g, 0, none⟩), .pointer (some ⟨gt, 0, none⟩), .string T] w1 fun e w' => ∃ S V, e = .returned (.tuple #[.pointer (some ⟨S 0, 0, none⟩), .int .i64 (T.size : Int), .int .i64 0]) ∧ Below w1.heap.size w1 w' ∧ Nds w' S V A ∧ 0 < A.length ∧ A.length ≤ 20000 ∧ ∀ k, footN S V A.length k → w1.heap.size ≤ k) := Lib.hid (HF.out.mono fun e w' ⟨hb, he⟩ => by
        have he2 : (if (m.lim : Int) - (liveN m.L : Int) < objsZ A (pre A 0) then _ else ∃ S V, e = .returned (.tuple #[.pointer (some ⟨S 0, 0, none⟩), .int .i64 ((Lx.tl T).length : Int), .int .i64 0]) ∧ Nds w' S V A ∧ 0 < A.length ∧ A.length ≤ 20000 ∧ ∀ k, footN S V A.length k → w1.heap.size ≤ k) := he
        rw [if_neg hfull, hlen] at he2
        obtain ⟨S, V, h1, h2⟩ := he2
        exact ⟨S, V, h1, hb, h2⟩)
      have H := hP.built hr h.hp.ok.l1 (by omega) (by rw [hlen]; exact hN (by have := hP.short; omega))
      have hPL := hP.len
      have HB : Hid (∀ w2 S V, Below w1.heap.size w1 w2 → Nds w2 S V A → A.length ≤ 20000 → (∀ k, footN S V A.length k → w1.heap.size ≤ k) → Calls Tryz.prog 18 #[.pointer (some ⟨g, 0, none⟩), .pointer (some ⟨gt, 0, none⟩), .pointer (some ⟨S 0, 0, none⟩)] w2 fun e w' => ∃ q c, e = .returned (.slice q (ndAt A 0).is.length c) ∧ w'.ownsRow w1.heap.size 36 2 (.slice q (ndAt A 0).is.length c) (ndAt A 0).is.length (flatV (bldV m N A)) ∧ MadeW w1 w' g gt F Ft m N A) := Lib.hid fun w2 S V hb hn hA hf =>
        (rbuild_any H hP.done hA ((h.below hb1).below hb) hn (fun k hk e => by have h1 := hf k hk; have h2 := h.lt k e; omega)).mono fun e w' hx => made_of (h.below hb1) hb hn hf hx
      have HIS : Hid (∀ w3 S V, Nds w3 S V A → 0 < A.length → ∃ q c, w3.cell? ⟨S 0, 4, none⟩ = some (.slice q (ndAt A 0).is.length c) ∧ (ndAt A 0).is.length ≤ A.length) := Lib.hid fun w3 S V hn h0 => by
        obtain ⟨q, c, e⟩ := hn.form h0
        obtain ⟨-, ⟨c4, -⟩, -⟩ := hn.cells h0
        rw [e] at c4
        exact ⟨q, c, c4, hn.len 0 h0⟩
      have HMW : Hid (∀ w4, MadeW w1 w4 g gt F Ft m N A → Bx2 w4 w.heap.size (.int .i64 0) (.int .i64 0) ∧ ∀ x y, ((w4.setCell ⟨w.heap.size, 0, none⟩ (.int .i64 x)).setCell ⟨w.heap.size, 1, none⟩ (.int .i64 y)).heap[w.heap.size]? = some (.cells #[.int .i64 x, .int .i64 y] 36 (0, 0)) ∧ MadeW w ((w4.setCell ⟨w.heap.size, 0, none⟩ (.int .i64 x)).setCell ⟨w.heap.size, 1, none⟩ (.int .i64 y)) g gt F Ft m N A) := Lib.hid fun w4 ⟨F', Ft', k1, k2⟩ => by
        have nF : ¬ bthF F' Ft' w.heap.size := k2.out (by omega) fun e => by have := hl _ e; omega
        have hrow := (k2.block _ (by omega) (fun e => by have := hl _ e; omega)).trans h61
        refine ⟨Bx2.of hrow, fun x y => ⟨heap_setCell_same _ _ 1 _ _ _ (heap_setCell_same _ _ 0 _ _ _ hrow), F', Ft', ?_, ?_⟩⟩
        · have o := two_only w4 w.heap.size (.int .i64 x) (.int .i64 y)
          exact k1.keep fun k hk => o.block k (k1.lt k hk) fun e => nF (e ▸ hk)
        · have o := two_only w4 w.heap.size (.int .i64 x) (.int .i64 y)
          exact ⟨o.os.trans (k2.os.trans hb1.os), o.tape.trans (k2.tape.trans hb1.tape), o.output.trans (k2.output.trans hb1.output), Nat.le_trans hb1.size (Nat.le_trans k2.size o.size), fun k hk hf => (o.block k (Nat.lt_of_lt_of_le hk (Nat.le_trans hb1.size k2.size)) (fun e => by omega)).trans ((k2.block k (by omega) hf).trans (hb1.block k hk)), fun k hk => (k2.fresh k hk).imp id fun e => by omega⟩
      have hbl : (bldV m N A).length = (ndAt A 0).is.length := by unfold bldV; simp
      have HLN : Hid ((ndAt A 0).is.length ≤ 20000) := Lib.hid (by
        have h5 := hP.short
        have h6 := sum_is hP.inv.ord A.length 0 hP.pos (by omega)
        have h7 := hP.objs.2.2
        omega)
      simp only [if_neg hfull]
      rw [hlen]
      clear h hN hp HF hlen hE hr hP hfull H h61 hz1 hl hb1
      obtain ⟨l, hll⟩ : ∃ l, (ndAt A 0).is.length = l := ⟨_, rfl⟩
      rw [hll] at HB HIS HLN hbl ⊢
      have HBV : Hid (l = 1 → flatV (bldV m N A) = [.int .i64 ((bldV m N A).getD 0 (0, 0)).1, .int .i64 ((bldV m N A).getD 0 (0, 0)).2]) := Lib.hid fun e => by
        generalize bldV m N A = B at *
        match B, hbl with
        | [x], _ => rfl
        | [], h => simp at h; omega
        | _ :: _ :: _, h => simp at h; omega
      clear hll hbl
      by_cases hl0 : l = 0
      · subst hl0
        simp only [if_true]
        go_enter Tryz.func12, Tryz.ntmps12
        go_upto_region 2 with (go_at_call 17; with_reducible refine HF2.out.mono ?_; rintro e w3 ⟨S, V, rfl, hb, hn, h0, -⟩)
        obtain ⟨q, c, c4, -⟩ := HIS.out _ S V hn h0
        obtain ⟨h6, h7⟩ := HBX.out _ hb
        have c0 := h6.c0; have c1 := h6.c1; have c2 := h6.f0; have c3 := h6.f1
        have HT := Lib.hid (two_end h7 h6 0 0)
        clear hb h6 h7 hn h0
        go_wp2_with fail
        exact bodyPost_ret (results_row_tmp2 Tryz.results12 _ _ w.heap.size 36 _ (0, 0) _ rfl HT.out.1 Tryz.underlying36 rfl HSV.out) rfl ⟨rfl, HT.out.2⟩
      · have d0 : ((l : Int) == 0) = false := by simp; omega
        have d02 : decide ((l : Int) = 0) = false := decide_eq_false (by omega)
        simp only [if_neg hl0]
        have hlI : (l : Int) ≤ 20000 := by have := HLN.out; omega
        by_cases hl1 : 1 < l
        · have d1 : decide ((1 : Int) < (l : Int)) = true := decide_eq_true (by omega)
          have d2 : decide (1 < l) = true := decide_eq_true hl1
          simp only [if_pos hl1]
          go_enter Tryz.func12, Tryz.ntmps12
          go_upto_region 2 with (go_at_call 17; with_reducible refine HF2.out.mono ?_; rintro e w3 ⟨S, V, rfl, hb, hn, h0, -⟩)
          obtain ⟨q, c, c4, -⟩ := HIS.out _ S V hn h0
          obtain ⟨h6, h7⟩ := HBX.out _ hb
          have c0 := h6.c0; have c1 := h6.c1; have c2 := h6.f0; have c3 := h6.f1
          have HT := Lib.hid (two_end h7 h6 0 0)
          clear hb h6 h7 hn h0
          go_wp2_with fail
          exact bodyPost_ret (results_row_tmp2 Tryz.results12 _ _ w.heap.size 36 _ (0, 0) _ rfl HT.out.1 Tryz.underlying36 rfl HSV.out) rfl ⟨rfl, HT.out.2⟩
        · have d1 : decide ((1 : Int) < (l : Int)) = false := decide_eq_false (by omega)
          have d2 : decide (1 < l) = false := decide_eq_false hl1
          have hle1 : l = 1 := by omega
          have hbv := HBV.out hle1
          simp only [if_neg hl1]
          rw [hbv] at HB
          obtain ⟨⟨x1, x2⟩, hx⟩ : ∃ x, (bldV m N A).getD 0 (0, 0) = x := ⟨_, rfl⟩
          rw [hx] at HB ⊢
          clear hbv HBV hx
          have d5 : decide ((0 : Int) < (l : Int)) = true := decide_eq_true (by omega)
          have d6 : decide (0 < l) = true := decide_eq_true (by omega)
          have HL1 := Lib.hid hle1
          clear hle1
          go_enter Tryz.func12, Tryz.ntmps12
          go_upto_region 2 with (go_at_call 17; with_reducible refine HF2.out.mono ?_; rintro e w3 ⟨S, V, rfl, hb, hn, h0, hA, hf⟩)
          obtain ⟨q, c, c4, -⟩ := HIS.out _ S V hn h0
          have HB2 : Hid (Calls Tryz.prog 18 #[.pointer (some ⟨g, 0, none⟩), .pointer (some ⟨gt, 0, none⟩), .pointer (some ⟨S 0, 0, none⟩)] w3 fun e w' => ∃ b c, e = .returned (.slice (some ⟨b, 0, none⟩) l c) ∧ (w'.cell? ⟨b, 0, none⟩ = some (.int .i64 x1) ∧ w'.cell? ⟨b, 1, none⟩ = some (.int .i64 x2)) ∧ Bx2 w' w.heap.size (.int .i64 0) (.int .i64 0) ∧ ((w'.setCell ⟨w.heap.size, 0, none⟩ (.int .i64 x1)).setCell ⟨w.heap.size, 1, none⟩ (.int .i64 x2)).heap[w.heap.size]? = some (.cells #[.int .i64 x1, .int .i64 x2] 36 (0, 0)) ∧ MadeW w ((w'.setCell ⟨w.heap.size, 0, none⟩ (.int .i64 x1)).setCell ⟨w.heap.size, 1, none⟩ (.int .i64 x2)) g gt F Ft m N A) := Lib.hid ((HB.out _ S V hb hn hA hf).mono fun e w' ⟨q, c, he, ho, hm⟩ => by
            obtain ⟨b, cc, e4⟩ := own_some ho (by have := HL1.out; omega)
            rw [e4] at he ho
            obtain ⟨k1, k2⟩ := HMW.out w' hm
            obtain ⟨k3, k4⟩ := k2 x1 x2
            exact ⟨b, cc, he, ⟨ho.cellAt 0 (by have := HL1.out; omega), ho.cellAt 1 (by have := HL1.out; omega)⟩, k1, k3, k4⟩)
          clear hb hn h0 hA hf HB HMW HIS
          go_wp2_with (go_at_call 18; with_reducible refine HB2.out.mono ?_; rintro e w4 ⟨b, c', rfl, ⟨y0, y1⟩, h6, hrow, hm⟩; have c0 := h6.c0; have c1 := h6.c1; have c2 := h6.f0; have c3 := h6.f1; have HM := Lib.hid (And.intro hrow hm); clear h6 hrow hm)
          exact bodyPost_ret (results_row_tmp2 Tryz.results12 _ _ w.heap.size 36 _ (0, 0) _ rfl HM.out.1 Tryz.underlying36 rfl HSV.out) rfl ⟨rfl, HM.out.2⟩
/-- One of a nil table. -/
theorem one_nil (ga : Option Addr) (T : ByteArray) (w : World) (hg : ga = none ∨ ∃ g, ga = some ⟨g, 0, none⟩) : Calls Tryz.prog 12 #[.pointer ga, .pointer none, .string T] w fun e w' => e = .returned (.tuple #[.agg #[.int .i64 0, .int .i64 0], .int .i64 0, .int .i64 1]) ∧ Below w.heap.size w w' := by
  have HF : Hid (∀ u, Calls Tryz.prog 17 #[.pointer ga, .pointer none, .string T] u fun e w' => e = .returned (.tuple #[.pointer none, .int .i64 0, .int .i64 1]) ∧ w' = u) := Lib.hid fun u => by
    rcases hg with rfl | ⟨g, rfl⟩
    · go_enter Tryz.func17, Tryz.ntmps17
      go_wp2_with fail
      go_ret3
      exact ⟨rfl, rfl⟩
    · go_enter Tryz.func17, Tryz.ntmps17
      go_wp2_with fail
      go_ret3
      exact ⟨rfl, rfl⟩
  obtain ⟨w1, hw1⟩ : ∃ w1, w.alloc (.cells #[.int .i64 0, .int .i64 0] 36) = w1 := ⟨_, rfl⟩
  have hb1 : Below w.heap.size w w1 := by rw [← hw1]; exact alloc_below w _
  have h61 : w1.heap[w.heap.size]? = some (.cells #[.int .i64 0, .int .i64 0] 36 (0, 0)) := by rw [← hw1]; exact heap_alloc_new w _
  have h6 := Bx2.of h61
  have c0 := h6.c0; have c1 := h6.c1; have c2 := h6.f0; have c3 := h6.f1
  have HT := Lib.hid (two_end hb1 h6 0 0)
  have HSV := Lib.hid sizeVal
  have hb0 := built0
  clear h6 hb1 h61
  go_enter Tryz.func12, Tryz.ntmps12
  go_wp2_with (go_at_call 17; with_reducible refine (HF.out _).mono ?_; rintro e w3 ⟨rfl, rfl⟩)
  exact bodyPost_ret (results_row_tmp2 Tryz.results12 _ _ w.heap.size 36 _ (0, 0) _ rfl HT.out.1 Tryz.underlying36 rfl HSV.out) rfl ⟨rfl, HT.out.2⟩
end
end Go.Proofs.YthjjgpepgbfalaaGreatDoor
end
section
/-! Chain: the parts of its loop; slices.Contains over values. -/
set_option maxRecDepth 20000
set_option linter.unusedSimpArgs false
set_option linter.unusedVariables false
namespace Go.Proofs.YthjjgpepgbfalaaGreatDoor
open Go.RowKit Go.Shelf

section
variable {w : World}
set_option maxHeartbeats 1600000 in
theorem indexV (v : Value) (n : Nat) (l : List (Int × Int)) (base : Nat) (hn : n ≤ 100000) (hl : l.length = n) (ho : w.ownsRow base 36 2 v n (flatV l)) (x : Int × Int) :
    Calls Tryz.prog 58 #[v, .agg #[.int .i64 x.1, .int .i64 x.2]] w fun e w' => (∃ z : Int, e = .returned (.int .i64 z) ∧ -1 ≤ z ∧ z ≤ 100000 ∧ (0 ≤ z ↔ x ∈ l)) ∧ Below w.heap.size w w' := by
  obtain ⟨w1, hw1⟩ : ∃ w1, w.alloc (.cells #[.int .i64 x.1, .int .i64 x.2] 36) = w1 := ⟨_, rfl⟩
  have hb1 : Below w.heap.size w w1 := by rw [← hw1]; exact alloc_below w _
  have h31 : w1.heap[w.heap.size]? = some (.cells #[.int .i64 x.1, .int .i64 x.2] 36 (0, 0)) := by rw [← hw1]; exact heap_alloc_new w _
  have HB1 := Lib.hid hb1
  have H31 := Lib.hid h31
  have HO := Lib.hid (own_below ho hb1)
  have HL := Lib.hid hl
  have hnI : (n : Int) ≤ 100000 := by omega
  obtain ⟨q, c, rfl⟩ := own_form ho
  obtain ⟨x1, x2⟩ := x
  simp only at HB1 H31 ⊢
  have hmix : Tryz.prog.follows .mixedOrders = true := by kernel_rfl
  clear hb1 h31 ho hl hn
  go_enter Tryz.func58, Tryz.ntmps58
  simp only at hw1
  go_wp2_with fail
  clear hw1
  go_loopw [8] (fun iv wr => ∃ k : Nat, k ≤ n ∧ iv = .int .i64 (k : Int) ∧ Hid (Below w1.heap.size w1 wr) ∧ Hid (∀ j, j < k → l.getD j (0, 0) ≠ (x1, x2))) (fun iv _ => n - (RowKit.intOf iv).toNat)
  case atStart => exact ⟨0, by omega, by go_num, Lib.hid (Below.refl _ _), Lib.hid fun j hj => by omega⟩
  case round =>
    obtain ⟨k, hk, rfl, HB, HNO⟩ := hrel
    by_cases hlt : k < n
    · have d1 : decide ((k : Int) < (n : Int)) = true := decide_eq_true (by omega)
      have d2 : decide (k < n) = true := decide_eq_true hlt
      have hkI : (k : Int) < (n : Int) := by omega
      obtain ⟨b, c2, e2⟩ := own_some HO.out (by omega)
      cases e2
      have hO2 := own_below HO.out HB.out
      obtain ⟨f0, f1⟩ := flatV_get l k (by rw [HL.out]; exact hlt)
      have x0 := (hO2.cellAt (k * 2) (by omega)).trans f0
      have x1' := (hO2.cellAt (k * 2 + 1) (by omega)).trans f1
      have h3 := (HB.out.block _ (lt_of_block H31.out)).trans H31.out
      have y0 := cell_of_row _ _ 0 _ _ _ h3
      have y1 := cell_of_row _ _ 1 _ _ _ h3
      simp at y0 y1
      have heq := eqlV (x1, x2) (l.getD k (0, 0))
      have HNN : Hid ((x1, x2) ≠ l.getD k (0, 0) → ∀ j, j < k + 1 → l.getD j (0, 0) ≠ (x1, x2)) := Lib.hid fun hne j hj => by
        rcases Nat.lt_or_ge j k with h1 | h1
        · exact HNO.out j h1
        · have : j = k := by omega
          rw [this]; exact fun e => hne e.symm
      have HYY : Hid ((x1, x2) = l.getD k (0, 0) → (x1, x2) ∈ l) := Lib.hid fun e => by
        rw [e, List.getD_eq_getElem?_getD, List.getElem?_eq_getElem (by rw [HL.out]; exact hlt)]
        exact List.getElem_mem _
      clear hO2 f0 f1 h3
      generalize l.getD k (0, 0) = y at *
      obtain ⟨z1, z2⟩ := y
      simp only at x0 x1' heq
      have HBD := Lib.hid HB.out.drew
      by_cases he : (x1, x2) = (z1, z2)
      · have hd : decide ((x1, x2) = (z1, z2)) = true := decide_eq_true he
        rw [hd] at heq
        have HM := Lib.hid (HYY.out he)
        clear hd he HYY HNN
        go_upto_region 4 with fail
        go_quiet (fail)
        go_wp2_with fail
        go_ret
        exact ⟨⟨k, rfl, by omega, by omega, fun _ => HM.out, fun _ => by omega⟩, HB1.out.trans ((Lx.below_drewN HB.out nq).mono HB1.out.size)⟩
      · have hd : decide ((x1, x2) = (z1, z2)) = false := decide_eq_false he
        rw [hd] at heq
        have HM := Lib.hid (HNN.out he)
        clear hd he HYY HNN
        go_upto_region 4 with fail
        go_quiet (fail)
        have HBQ := Lib.hid (Lx.below_drewN HB.out nq)
        generalize wr.drewN nq = wq at *
        go_wp2_with fail
        go_roundw
        case rel => exact ⟨k + 1, by omega, by go_num, HBQ, HM⟩
        case measure => simp [RowKit.intOf]; omega
    · obtain rfl : k = n := by omega
      have d1 : decide ((k : Int) < (k : Int)) = false := decide_eq_false (by omega)
      have d2 : decide (k < k) = false := decide_eq_false (by omega)
      go_wp2_with fail
      go_ret
      refine ⟨⟨-1, rfl, by omega, by omega, fun h => by omega, fun h => ?_⟩, HB1.out.trans (HB.out.mono HB1.out.size)⟩
      obtain ⟨j, hj, e⟩ := List.getElem_of_mem h
      have := HNO.out j (by rw [← HL.out]; exact hj)
      rw [List.getD_eq_getElem?_getD, List.getElem?_eq_getElem hj] at this
      exact absurd e this
theorem containsV (v : Value) (n : Nat) (l : List (Int × Int)) (base : Nat) (hn : n ≤ 100000) (hl : l.length = n) (ho : w.ownsRow base 36 2 v n (flatV l)) (x : Int × Int) :
    Calls Tryz.prog 39 #[v, .agg #[.int .i64 x.1, .int .i64 x.2]] w fun e w' => e = .returned (.bool (decide (x ∈ l))) ∧ Below w.heap.size w w' := by
  obtain ⟨w1, hw1⟩ : ∃ w1, w.alloc (.cells #[.int .i64 x.1, .int .i64 x.2] 36) = w1 := ⟨_, rfl⟩
  have hb1 : Below w.heap.size w w1 := by rw [← hw1]; exact alloc_below w _
  have h31 : w1.heap[w.heap.size]? = some (.cells #[.int .i64 x.1, .int .i64 x.2] 36 (0, 0)) := by rw [← hw1]; exact heap_alloc_new w _
  have y0 := cell_of_row _ _ 0 _ _ _ h31
  have y1 := cell_of_row _ _ 1 _ _ _ h31
  simp at y0 y1
  have HI := Lib.hid (indexV v n l base hn hl (own_below ho hb1) x)
  have HB1 := Lib.hid hb1
  obtain ⟨x1, x2⟩ := x
  simp only at hw1 y0 y1 HI ⊢
  clear h31 ho hb1 hl hn
  cases hm : decide ((x1, x2) ∈ l) with
  | true =>
    have HM : Hid ((x1, x2) ∈ l) := Lib.hid (by simpa using hm)
    have HI2 : Hid (Calls Tryz.prog 58 #[v, .agg #[.int .i64 x1, .int .i64 x2]] w1 fun e w' => ∃ z : Int, e = .returned (.int .i64 z) ∧ 0 ≤ z ∧ z ≤ 100000 ∧ Below w1.heap.size w1 w') := Lib.hid (HI.out.mono fun e w' ⟨⟨z, h1, h2, h3, h4⟩, h5⟩ => ⟨z, h1, h4.2 HM.out, h3, h5⟩)
    clear HI hm
    go_enter Tryz.func39, Tryz.ntmps39
    go_wp2_with (go_at_call 58; with_reducible refine HI2.out.mono ?_; rintro e w2 ⟨z, rfl, hz, hz2, hb⟩; have hdz : decide ((0 : Int) ≤ z) = true := decide_eq_true hz)
    go_ret
    exact ⟨rfl, HB1.out.trans (hb.mono HB1.out.size)⟩
  | false =>
    have HM : Hid ((x1, x2) ∉ l) := Lib.hid (by simpa using hm)
    have HI2 : Hid (Calls Tryz.prog 58 #[v, .agg #[.int .i64 x1, .int .i64 x2]] w1 fun e w' => ∃ z : Int, e = .returned (.int .i64 z) ∧ ¬ 0 ≤ z ∧ z ≤ 100000 ∧ Below w1.heap.size w1 w') := Lib.hid (HI.out.mono fun e w' ⟨⟨z, h1, h2, h3, h4⟩, h5⟩ => ⟨z, h1, fun h => HM.out (h4.1 h), h3, h5⟩)
    clear HI hm
    go_enter Tryz.func39, Tryz.ntmps39
    go_wp2_with (go_at_call 58; with_reducible refine HI2.out.mono ?_; rintro e w2 ⟨z, rfl, hz, hz2, hb⟩; have hdz : decide ((0 : Int) ≤ z) = false := decide_eq_false hz)
    go_ret
    exact ⟨rfl, HB1.out.trans (hb.mono HB1.out.size)⟩
end
/-- A row in a box. -/
structure BxRow (base B5 : Nat) (vs : Value) (n : Nat) (l : List (Int × Int)) (W : World) : Prop where
  b5 : W.heap[B5]? = some (.cells #[vs] 30 (0, 0))
  row : W.ownsRow base 36 2 vs n (flatV l)
section
variable {W w2 : World} {base B5 : Nat} {vs : Value} {n : Nat} {l : List (Int × Int)}
theorem BxRow.keep (h : BxRow base B5 vs n l W) (hk : ∀ k, k < W.heap.size → k = B5 ∨ vs.ownBlock = some k → w2.heap[k]? = W.heap[k]?) : BxRow base B5 vs n l w2 :=
  ⟨(hk _ (lt_of_block h.b5) (.inl rfl)).trans h.b5, own_other h.row fun k e => hk k (h.row.lt k e).2 (.inr e)⟩
theorem BxRow.ne (h : BxRow base B5 vs n l W) : vs.ownBlock ≠ some B5 := fun e => by
  obtain ⟨cur, hc⟩ := own_head h.row e
  exact ne_of_ty h.b5 hc (by decide) rfl
/-- One value more. -/
theorem BxRow.more (h : BxRow base B5 vs n l W) {nb : Obj} {gn cap : Nat} {x : Int × Int}
    (ho : w2.ownsRow base 36 2 (.slice (some ⟨gn, 0, none⟩) (n + 1) cap) (n + 1) (flatV (l ++ [x]))) (hg : (W.alloc nb).grownBy w2 vs.ownBlock) (hat : vs.ownBlock = some gn ∨ gn = W.heap.size + 1) :
    (w2.cell? ⟨B5, 0, none⟩ = some vs ∧ w2.frozen? ⟨B5, 0, none⟩ = false) ∧ BxRow base B5 (.slice (some ⟨gn, 0, none⟩) (n + 1) cap) (n + 1) (l ++ [x]) (w2.setCell ⟨B5, 0, none⟩ (.slice (some ⟨gn, 0, none⟩) (n + 1) cap)) ∧
    ((w2.setCell ⟨B5, 0, none⟩ (.slice (some ⟨gn, 0, none⟩) (n + 1) cap)).os = W.os ∧ (w2.setCell ⟨B5, 0, none⟩ (.slice (some ⟨gn, 0, none⟩) (n + 1) cap)).tape = W.tape ∧ (w2.setCell ⟨B5, 0, none⟩ (.slice (some ⟨gn, 0, none⟩) (n + 1) cap)).output = W.output ∧ W.heap.size + 1 ≤ (w2.setCell ⟨B5, 0, none⟩ (.slice (some ⟨gn, 0, none⟩) (n + 1) cap)).heap.size) ∧
    ∀ k, k < W.heap.size → k ≠ B5 → vs.ownBlock ≠ some k → (w2.setCell ⟨B5, 0, none⟩ (.slice (some ⟨gn, 0, none⟩) (n + 1) cap)).heap[k]? = W.heap[k]? := by
  have hb := alloc_below W nb
  have hz : (W.alloc nb).heap.size = W.heap.size + 1 := World.size_alloc ..
  have hk : ∀ k, k < W.heap.size → vs.ownBlock ≠ some k → w2.heap[k]? = W.heap[k]? := fun k hk hne => (hg.block k (Nat.lt_of_lt_of_le hk hb.size) (fun e => hne e.symm)).trans (hb.block k hk)
  have r5 := (hk B5 (lt_of_block h.b5) h.ne).trans h.b5
  have ngn : gn ≠ B5 := fun e => by
    obtain ⟨cur, hc⟩ := own_head ho (by rfl : (Value.slice (some ⟨gn, 0, none⟩) (n + 1) cap).ownBlock = some gn)
    rw [e] at hc
    exact ne_of_ty r5 hc (by decide) rfl
  have o := Only.setCell B5 0 (.slice (some ⟨gn, 0, none⟩) (n + 1) cap) w2
  have hz2 := hg.size
  have hz3 := o.size
  refine ⟨⟨cell_of_row _ _ 0 _ _ _ r5, frozen_of_row _ _ 0 _ _ r5⟩, ⟨heap_setCell_same _ _ 0 _ _ _ r5, own_other ho fun k e => ?_⟩, ⟨o.os.trans (hg.os.trans hb.os), o.tape.trans (hg.tape.trans hb.tape), o.output.trans (hg.output.trans hb.output), by omega⟩, fun k hkk h5 hne => (heap_setCell_other _ _ _ _ h5).trans (hk k hkk hne)⟩
  have : k = gn := by simpa [Value.ownBlock] using e.symm
  subst this
  exact heap_setCell_other _ _ _ _ ngn
end
end Go.Proofs.YthjjgpepgbfalaaGreatDoor
end
section
/-! Chain: amid its loop. -/
set_option maxRecDepth 20000
set_option linter.unusedSimpArgs false
set_option linter.unusedVariables false
namespace Go.Proofs.YthjjgpepgbfalaaGreatDoor
open Go.RowKit Go.Shelf

theorem results_tmp_row_tmp {P : Program} {fn : Func} {p u x : Tmp} {ty : TypeId} (h : fn.results = #[.tmp u, .cell p ty, .tmp x]) (tmps : Array Value) (w : World) (g : Nat) (t : TypeId) (cs : Array Value) (fr : Nat × Nat) (d : TypeDesc)
    (hp : tmps.getD p undef = .pointer (some ⟨g, 0, none⟩)) (hg : w.heap[g]? = some (.cells cs t fr))
    (hu : P.underlying ty = some d) (hd : (match d with | .struct _ | .array _ _ => true | _ => false) = true) (hi : (P.info? ty).map (·.size) = some cs.size) :
    (results fn tmps).run P w = .ok (.tuple #[tmps.getD u undef, .agg cs, tmps.getD x undef]) w := by
  have hp' : tmps[p]?.getD undef = .pointer (some ⟨g, 0, none⟩) := by simpa using hp
  have e1 := run_loadVar_row w g t ty cs fr d hg hu hd hi
  simp [results, h, hp', asAddr, e1, Sem.run_bind, Result.andThen]
def curL (L : Pls) (v : Int × Int) (n : Nat) : List (Int × Int) := (List.range n).map (curM L v)
def itmL (L : Pls) (v : Int × Int) (n : Nat) : List (Int × Int) := (List.range n).map fun j => atV L (curM L v j) 0
theorem curL_succ (L : Pls) (v : Int × Int) (n : Nat) : curL L v (n + 1) = curL L v n ++ [curM L v n] := by unfold curL; rw [List.range_succ, List.map_append]; rfl
theorem itmL_succ (L : Pls) (v : Int × Int) (n : Nat) : itmL L v (n + 1) = itmL L v n ++ [atV L (curM L v n) 0] := by unfold itmL; rw [List.range_succ, List.map_append]; rfl
theorem curL_len (L : Pls) (v : Int × Int) (n : Nat) : (curL L v n).length = n := by unfold curL; simp
/-- Amid Chain. -/
structure ChJ (w : World) (g : Nat) (L : Pls) (v : Int × Int) (vs us : Value) (ib ii ie : Nat) (W : World) : Prop where
  goes : ∀ j, j < ie → goesM L v j
  bn : BxRow (w.heap.size + 7) (w.heap.size + 2) vs ib (curL L v ib) W
  it : BxRow (w.heap.size + 7) (w.heap.size + 3) us ii (itmL L v ii) W
  en : Bx2 W (w.heap.size + 4) (.int .i64 (curM L v ie).1) (.int .i64 (curM L v ie).2)
  rs : W.heap[w.heap.size + 1]? = some (.cells #[.int .i64 0, .int .i64 0] 36 (0, 0))
  b1 : Bx2 W (w.heap.size + 6) (.int .i64 v.1) (.int .i64 v.2)
  b2 : W.heap[w.heap.size + 5]? = some (.cells #[.pointer (some ⟨g, 0, none⟩)] 24 (0, 0))
  sep : ∀ k, vs.ownBlock = some k → us.ownBlock ≠ some k
  below : Below w.heap.size w W
def chQ (w : World) (vs us : Value) : Nat → Prop := fun k => k = w.heap.size + 2 ∨ k = w.heap.size + 3 ∨ k = w.heap.size + 4 ∨ vs.ownBlock = some k ∨ us.ownBlock = some k
def ChI (w : World) (g : Nat) (L : Pls) (v : Int × Int) (i : Nat) (W : World) (Q : Nat → Prop) : Prop := ∃ vs us, Q = chQ w vs us ∧ ChJ w g L v vs us i i i W
section
variable {w W w2 : World} {g B : Nat} {L : Pls} {v : Int × Int} {vs us : Value} {ib ii ie i : Nat}
theorem ChJ.keep (h : ChJ w g L v vs us ib ii ie W) (hB : w.heap.size + 7 ≤ B) {W2 : World} (e1 : W2.os = W.os) (e2 : W2.tape = W.tape) (e3 : W2.output = W.output) (e4 : W.heap.size ≤ W2.heap.size) (hk : ∀ k, k < W.heap.size → k < B ∨ chQ w vs us k → W2.heap[k]? = W.heap[k]?) : ChJ w g L v vs us ib ii ie W2 :=
  ⟨h.goes, h.bn.keep fun k hk1 hk2 => hk k hk1 (.inr (hk2.elim .inl fun e => .inr (.inr (.inr (.inl e))))), h.it.keep fun k hk1 hk2 => hk k hk1 (.inr (hk2.elim (fun e => .inr (.inl e)) fun e => .inr (.inr (.inr (.inr e))))), Bx2.of ((hk _ h.en.lt (.inl (by omega))).trans h.en.row), (hk _ (lt_of_block h.rs) (.inl (by omega))).trans h.rs, Bx2.of ((hk _ h.b1.lt (.inl (by omega))).trans h.b1.row), (hk _ (lt_of_block h.b2) (.inl (by omega))).trans h.b2, h.sep, ⟨e1.trans h.below.os, e2.trans h.below.tape, e3.trans h.below.output, Nat.le_trans h.below.size e4, fun k hk1 => (hk k (Nat.lt_of_lt_of_le hk1 h.below.size) (.inl (by omega))).trans (h.below.block k hk1)⟩⟩
theorem ChI.stay (hB : w.heap.size + 7 ≤ B) : StayF B (ChI w g L v) := by
  rintro i W W' Q ⟨vs, us, rfl, h⟩ e1 e2 e3 e4 hk
  exact ⟨vs, us, rfl, h.keep hB e1 e2 e3 e4 hk⟩
theorem ChI.inF : InF (ChI w g L v) := by
  rintro i W Q ⟨vs, us, rfl, h⟩ k (rfl | rfl | rfl | e | e)
  · exact lt_of_block h.bn.b5
  · exact lt_of_block h.it.b5
  · exact h.en.lt
  · exact (h.bn.row.lt k e).2
  · exact (h.it.row.lt k e).2
/-- One pair more. -/
theorem ChJ.been (h : ChJ w g L v vs us i i i W) {nb : Obj} {gn cap : Nat}
    (ho : w2.ownsRow (w.heap.size + 7) 36 2 (.slice (some ⟨gn, 0, none⟩) (i + 1) cap) (i + 1) (flatV (curL L v (i + 1)))) (hg : (W.alloc nb).grownBy w2 vs.ownBlock) (hat : vs.ownBlock = some gn ∨ gn = W.heap.size + 1) (hz : w.heap.size + 7 ≤ W.heap.size) :
    (w2.cell? ⟨w.heap.size + 2, 0, none⟩ = some vs ∧ w2.frozen? ⟨w.heap.size + 2, 0, none⟩ = false) ∧ ChJ w g L v (.slice (some ⟨gn, 0, none⟩) (i + 1) cap) us (i + 1) i i (w2.setCell ⟨w.heap.size + 2, 0, none⟩ (.slice (some ⟨gn, 0, none⟩) (i + 1) cap)) ∧
    (∀ k, k < W.heap.size → ¬ chQ w vs us k → (w2.setCell ⟨w.heap.size + 2, 0, none⟩ (.slice (some ⟨gn, 0, none⟩) (i + 1) cap)).heap[k]? = W.heap[k]?) ∧
    Chp (chQ w vs us) (chQ w (.slice (some ⟨gn, 0, none⟩) (i + 1) cap) us) W (w2.setCell ⟨w.heap.size + 2, 0, none⟩ (.slice (some ⟨gn, 0, none⟩) (i + 1) cap)) := by
  rw [curL_succ] at ho
  obtain ⟨k1, k2, ⟨k3, k4, k5, k6⟩, k7⟩ := h.bn.more ho hg hat
  have hlow : ∀ k, vs.ownBlock = some k → w.heap.size + 7 ≤ k := fun k e => (h.bn.row.lt k e).1
  have kb : ∀ k, k < w.heap.size + 7 → k ≠ w.heap.size + 2 → (w2.setCell ⟨w.heap.size + 2, 0, none⟩ (.slice (some ⟨gn, 0, none⟩) (i + 1) cap)).heap[k]? = W.heap[k]? := fun k hk hne => k7 k (by omega) hne fun e => by have := hlow k e; omega
  have kq : ∀ k, k < W.heap.size → ¬ chQ w vs us k → (w2.setCell ⟨w.heap.size + 2, 0, none⟩ (.slice (some ⟨gn, 0, none⟩) (i + 1) cap)).heap[k]? = W.heap[k]? := fun k hk hne => k7 k hk (fun e => hne (.inl e)) fun e => hne (.inr (.inr (.inr (.inl e))))
  refine ⟨k1, ⟨h.goes, ?_, h.it.keep fun k hk1 hk2 => ?_, Bx2.of ((kb _ (by omega) (by omega)).trans h.en.row), (kb _ (by omega) (by omega)).trans h.rs, Bx2.of ((kb _ (by omega) (by omega)).trans h.b1.row), (kb _ (by omega) (by omega)).trans h.b2, fun k e => ?_, ⟨k3.trans h.below.os, k4.trans h.below.tape, k5.trans h.below.output, by have := h.below.size; omega, fun k hk => (kb k (by omega) (by omega)).trans (h.below.block k hk)⟩⟩, kq, ⟨k3, k4, k5, by omega, kq, fun k hk => ?_⟩⟩
  · rw [curL_succ]; exact k2
  · rcases hk2 with rfl | e
    · exact kb _ (by omega) (by omega)
    · refine k7 k hk1 (fun e2 => ?_) fun e2 => h.sep k e2 e
      have := (h.it.row.lt k e).1; omega
  · have : k = gn := by simpa [Value.ownBlock] using e.symm
    subst this
    rcases hat with e2 | e2
    · exact h.sep k e2
    · exact fun e3 => by have := (h.it.row.lt k e3).2; omega
  · rcases hk with e | e | e | e | e
    · exact .inl (.inl e)
    · exact .inl (.inr (.inl e))
    · exact .inl (.inr (.inr (.inl e)))
    · have : k = gn := by simpa [Value.ownBlock] using e.symm
      subst this
      exact hat.elim (fun e2 => .inl (.inr (.inr (.inr (.inl e2))))) fun e2 => .inr (by omega)
    · exact .inl (.inr (.inr (.inr (.inr e))))
/-- One item more. -/
theorem ChJ.item (h : ChJ w g L v vs us ib i ie W) {nb : Obj} {gn cap : Nat}
    (ho : w2.ownsRow (w.heap.size + 7) 36 2 (.slice (some ⟨gn, 0, none⟩) (i + 1) cap) (i + 1) (flatV (itmL L v (i + 1)))) (hg : (W.alloc nb).grownBy w2 us.ownBlock) (hat : us.ownBlock = some gn ∨ gn = W.heap.size + 1) (hz : w.heap.size + 7 ≤ W.heap.size) :
    (w2.cell? ⟨w.heap.size + 3, 0, none⟩ = some us ∧ w2.frozen? ⟨w.heap.size + 3, 0, none⟩ = false) ∧ ChJ w g L v vs (.slice (some ⟨gn, 0, none⟩) (i + 1) cap) ib (i + 1) ie (w2.setCell ⟨w.heap.size + 3, 0, none⟩ (.slice (some ⟨gn, 0, none⟩) (i + 1) cap)) ∧
    (∀ k, k < W.heap.size → ¬ chQ w vs us k → (w2.setCell ⟨w.heap.size + 3, 0, none⟩ (.slice (some ⟨gn, 0, none⟩) (i + 1) cap)).heap[k]? = W.heap[k]?) ∧
    Chp (chQ w vs us) (chQ w vs (.slice (some ⟨gn, 0, none⟩) (i + 1) cap)) W (w2.setCell ⟨w.heap.size + 3, 0, none⟩ (.slice (some ⟨gn, 0, none⟩) (i + 1) cap)) := by
  rw [itmL_succ] at ho
  obtain ⟨k1, k2, ⟨k3, k4, k5, k6⟩, k7⟩ := h.it.more ho hg hat
  have hlow : ∀ k, us.ownBlock = some k → w.heap.size + 7 ≤ k := fun k e => (h.it.row.lt k e).1
  have kb : ∀ k, k < w.heap.size + 7 → k ≠ w.heap.size + 3 → (w2.setCell ⟨w.heap.size + 3, 0, none⟩ (.slice (some ⟨gn, 0, none⟩) (i + 1) cap)).heap[k]? = W.heap[k]? := fun k hk hne => k7 k (by omega) hne fun e => by have := hlow k e; omega
  have kq : ∀ k, k < W.heap.size → ¬ chQ w vs us k → (w2.setCell ⟨w.heap.size + 3, 0, none⟩ (.slice (some ⟨gn, 0, none⟩) (i + 1) cap)).heap[k]? = W.heap[k]? := fun k hk hne => k7 k hk (fun e => hne (.inr (.inl e))) fun e => hne (.inr (.inr (.inr (.inr e))))
  refine ⟨k1, ⟨h.goes, h.bn.keep fun k hk1 hk2 => ?_, ?_, Bx2.of ((kb _ (by omega) (by omega)).trans h.en.row), (kb _ (by omega) (by omega)).trans h.rs, Bx2.of ((kb _ (by omega) (by omega)).trans h.b1.row), (kb _ (by omega) (by omega)).trans h.b2, fun k e => ?_, ⟨k3.trans h.below.os, k4.trans h.below.tape, k5.trans h.below.output, by have := h.below.size; omega, fun k hk => (kb k (by omega) (by omega)).trans (h.below.block k hk)⟩⟩, kq, ⟨k3, k4, k5, by omega, kq, fun k hk => ?_⟩⟩
  · rcases hk2 with rfl | e
    · exact kb _ (by omega) (by omega)
    · refine k7 k hk1 (fun e2 => ?_) fun e2 => h.sep k e e2
      have := (h.bn.row.lt k e).1; omega
  · rw [itmL_succ]; exact k2
  · intro e3
    have : k = gn := by simpa [Value.ownBlock] using e3.symm
    subst this
    rcases hat with e2 | e2
    · exact h.sep k e e2
    · have := (h.bn.row.lt k e).2; omega
  · rcases hk with e | e | e | e | e
    · exact .inl (.inl e)
    · exact .inl (.inr (.inl e))
    · exact .inl (.inr (.inr (.inl e)))
    · exact .inl (.inr (.inr (.inr (.inl e))))
    · have : k = gn := by simpa [Value.ownBlock] using e.symm
      subst this
      exact hat.elim (fun e2 => .inl (.inr (.inr (.inr (.inr e2))))) fun e2 => .inr (by omega)
/-- What the chain goes on with. -/
theorem ChJ.step (h : ChJ w g L v vs us (i + 1) (i + 1) i W) (hgo : goesM L v i) :
    ChJ w g L v vs us (i + 1) (i + 1) (i + 1) ((W.setCell ⟨w.heap.size + 4, 0, none⟩ (.int .i64 (curM L v (i + 1)).1)).setCell ⟨w.heap.size + 4, 1, none⟩ (.int .i64 (curM L v (i + 1)).2)) ∧
    Chp (chQ w vs us) (chQ w vs us) W ((W.setCell ⟨w.heap.size + 4, 0, none⟩ (.int .i64 (curM L v (i + 1)).1)).setCell ⟨w.heap.size + 4, 1, none⟩ (.int .i64 (curM L v (i + 1)).2)) := by
  have o := two_only W (w.heap.size + 4) (.int .i64 (curM L v (i + 1)).1) (.int .i64 (curM L v (i + 1)).2)
  have ho : ∀ k, k < W.heap.size → k ≠ w.heap.size + 4 → ((W.setCell ⟨w.heap.size + 4, 0, none⟩ (.int .i64 (curM L v (i + 1)).1)).setCell ⟨w.heap.size + 4, 1, none⟩ (.int .i64 (curM L v (i + 1)).2)).heap[k]? = W.heap[k]? := fun k hk hne => o.block k hk hne
  refine ⟨⟨fun j hj => ?_, h.bn.keep fun k hk1 hk2 => ho k hk1 ?_, h.it.keep fun k hk1 hk2 => ho k hk1 ?_, Bx2.of (heap_setCell_same _ _ 1 _ _ _ (heap_setCell_same _ _ 0 _ _ _ h.en.row)), (ho _ (lt_of_block h.rs) (by omega)).trans h.rs, Bx2.of ((ho _ h.b1.lt (by omega)).trans h.b1.row), (ho _ (lt_of_block h.b2) (by omega)).trans h.b2, h.sep, ⟨o.os.trans h.below.os, o.tape.trans h.below.tape, o.output.trans h.below.output, Nat.le_trans h.below.size o.size, fun k hk => (ho k (Nat.lt_of_lt_of_le hk h.below.size) (by omega)).trans (h.below.block k hk)⟩⟩, ⟨o.os, o.tape, o.output, o.size, fun k hk hf => ho k hk fun e => hf (.inr (.inr (.inl e))), fun k hk => .inl hk⟩⟩
  · rcases Nat.lt_or_ge j i with h1 | h1
    · exact h.goes j h1
    · have : j = i := by omega
      subst this; exact hgo
  · rcases hk2 with rfl | e
    · omega
    · have := (h.bn.row.lt k e).1; omega
  · rcases hk2 with rfl | e
    · omega
    · have := (h.it.row.lt k e).1; omega
end
end Go.Proofs.YthjjgpepgbfalaaGreatDoor
end
