/- The graph of what is reached, in memory; one object come to. -/
import Derived.Test.YtekmboolfjicbaaGMdl
import Derived.Test.YtekmboolfjicbaaHSet
import Derived.Test.YtekmboolfjicbaaIn
set_option maxRecDepth 20000
set_option linter.unusedSimpArgs false
namespace Go.Proofs.Ytekmboolfjicbaa
open Go.RowKit

/-- What is known of an object: by which it was come to, whether it is away, its kind. -/
abbrev Fct := Int × Bool × Int
abbrev fctV (x : Fct) : List Value := [.int .i64 x.1, .bool x.2.1, .int .i64 x.2.2]
theorem flat3_get (T : List Fct) (i : Nat) (x : Fct) (h : T[i]? = some x) : (T.flatMap fctV)[i * 3 + 1]? = some (.bool x.2.1) := by
  induction T generalizing i with
  | nil => simp at h
  | cons y T ih =>
    cases i with
    | zero => have : y = x := by simpa using h
              subst this; rfl
    | succ i =>
      have := ih i (by simpa using h)
      rw [show (i + 1) * 3 + 1 = i * 3 + 1 + 3 by omega]
      exact this
/-- The graph in block g. -/
structure Gra (w : World) (g : Nat) (vt mv vf : Value) (T : List (Int × Int)) (fs : List Fct) : Prop where
  r : RnV w g 83 [vf] vt mv T
  f : w.ownsRow 0 129 3 vf fs.length (fs.flatMap fctV)
  len : fs.length = T.length
  aw : ∀ x ∈ fs, x.2.1 = false
def footG (g : Nat) (vt mv vf : Value) : Nat → Prop := fun k => footR g vt mv k ∨ vf.ownBlock = some k
section
variable {w w' : World} {g : Nat} {vt mv vf : Value} {T : List (Int × Int)} {fs : List Fct}
theorem Gra.keep (h : Gra w g vt mv vf T fs) (hb : ∀ b, footG g vt mv vf b → w'.heap[b]? = w.heap[b]?) : Gra w' g vt mv vf T fs :=
  ⟨h.r.keep fun b hk => hb b (.inl hk), own_other h.f fun b e => hb b (.inr e), h.len, h.aw⟩
theorem Gra.lt (h : Gra w g vt mv vf T fs) : ∀ b, footG g vt mv vf b → b < w.heap.size := fun b hk => hk.elim (h.r.lt b) fun e => own_lt h.f e
theorem Gra.below (h : Gra w g vt mv vf T fs) (hb : Below w.heap.size w w') : Gra w' g vt mv vf T fs := h.keep fun b hk => hb.block b (h.lt b hk)
theorem Gra.c2 (h : Gra w g vt mv vf T fs) : w.cell? ⟨g, 2, none⟩ = some vf := by rw [cell_of_row w _ 2 _ _ _ h.r.hd]; rfl
/-- The facts' row is none of the rounds' blocks. -/
theorem far_of {rest : List Value} {n : Nat} {xs : List Value} (h : RnV w g 83 rest vt mv T) (f : w.ownsRow 0 129 3 vf n xs) : ∀ b, vf.ownBlock = some b → ¬ footR g vt mv b := by
  intro b e
  obtain ⟨cur, hcur⟩ := own_head f e
  rintro (rfl | e2 | e2)
  · rw [h.hd] at hcur; cases hcur
  · obtain ⟨cur2, hcur2⟩ := own_head h.row e2
    rw [hcur2] at hcur; cases hcur
  · rcases h.map with ⟨_, e3⟩ | ⟨mb, e3, hm⟩
    · rw [e2] at e3; cases e3
    · rw [e2] at e3; cases e3
      obtain ⟨es, c, hb⟩ := hm.isMap
      rw [hb] at hcur; cases hcur
theorem Gra.far (h : Gra w g vt mv vf T fs) : ∀ b, vf.ownBlock = some b → ¬ footR g vt mv b := far_of h.r h.f
/-- One fact more. -/
theorem fact_grow {w3 w4 : World} (h : RnV w g 83 [vf] vt mv T) (f : w.ownsRow 0 129 3 vf fs.length (fs.flatMap fctV)) (hb : Below w.heap.size w w3) {gN cap : Nat} {tmp : Obj} {x : Fct}
    (hown : w4.ownsRow 0 129 3 (.slice (some ⟨gN, 0, none⟩) (fs.length + 1) cap) (fs.length + 1) (fs.flatMap fctV ++ fctV x)) (hgrow : (w3.alloc tmp).grownBy w4 vf.ownBlock) (hat : vf.ownBlock = some gN ∨ gN = w3.heap.size + 1) :
    w4.cell? ⟨g, 2, none⟩ = some vf ∧ w4.frozen? ⟨g, 2, none⟩ = false ∧ RnV (w4.setCell ⟨g, 2, none⟩ (.slice (some ⟨gN, 0, none⟩) (fs.length + 1) cap)) g 83 [.slice (some ⟨gN, 0, none⟩) (fs.length + 1) cap] vt mv T
      ∧ (w4.setCell ⟨g, 2, none⟩ (.slice (some ⟨gN, 0, none⟩) (fs.length + 1) cap)).ownsRow 0 129 3 (.slice (some ⟨gN, 0, none⟩) (fs.length + 1) cap) (fs ++ [x]).length ((fs ++ [x]).flatMap fctV)
      ∧ Chp (footG g vt mv vf) (footG g vt mv (.slice (some ⟨gN, 0, none⟩) (fs.length + 1) cap)) w (w4.setCell ⟨g, 2, none⟩ (.slice (some ⟨gN, 0, none⟩) (fs.length + 1) cap)) := by
  have hfar := far_of h f
  have hlt := h.lt
  have hsz : w3.heap.size ≤ w4.heap.size := Nat.le_trans (by simp) hgrow.size
  have hz := hb.size
  have hblk : ∀ b, b < w.heap.size → vf.ownBlock ≠ some b → w4.heap[b]? = w.heap[b]? := fun b hbl he =>
    (hgrow.block b (by simp; omega) (fun e => he e.symm)).trans ((Below.heap_alloc w3 _ b (by omega)).trans (hb.block b hbl))
  have hF : ∀ b, footR g vt mv b → w4.heap[b]? = w.heap[b]? := fun b hk => hblk b (hlt b hk) fun e => hfar b e hk
  have hgl := hlt g (.inl rfl)
  have hN : ¬ footR g vt mv gN := by
    rcases hat with e | e
    · exact hfar gN e
    · intro hk; have := hlt gN hk; omega
  have h4 := h.keep hF
  have hset : ∀ b, b ≠ g → (w4.setCell ⟨g, 2, none⟩ (.slice (some ⟨gN, 0, none⟩) (fs.length + 1) cap)).heap[b]? = w4.heap[b]? := fun b hbg => heap_setCell_other _ _ _ _ hbg
  have hgt : vt.ownBlock ≠ some g := fun e => by
    obtain ⟨cur, hcur⟩ := own_head h.row e
    rw [h.hd] at hcur; cases hcur
  have hgm : mv ≠ .map (some g) := fun e => by
    rcases h.map with ⟨_, e3⟩ | ⟨mb, e3, hm⟩
    · rw [e] at e3; cases e3
    · rw [e] at e3; cases e3
      obtain ⟨es, c, hbb⟩ := hm.isMap
      rw [h.hd] at hbb; cases hbb
  refine ⟨?_, frozen_of_row _ _ 2 _ _ h4.hd, ⟨heap_setCell_same _ g 2 _ _ _ h4.hd, own_other h4.row fun b e => hset b (fun e2 => hgt (by rw [← e2]; exact e)), h4.map.same fun b e => hset b (fun e2 => hgm (by rw [← e2]; exact e)), h.nd, h.dm⟩, ?_, ?_⟩
  · rw [cell_of_row _ _ 2 _ _ _ h4.hd]; rfl
  · rw [List.length_append, List.flatMap_append]
    have e1 : [x].flatMap fctV = fctV x := by simp
    rw [e1]
    exact own_other hown fun b e => by
      have e2 : gN = b := by simpa [Value.ownBlock] using e
      exact hset b (fun e3 => hN (by rw [e2, e3]; exact .inl rfl))
  · refine ⟨hgrow.os.trans hb.os, hgrow.tape.trans hb.tape, hgrow.output.trans hb.output, by simp; omega, fun b hbl hk => ?_, ?_⟩
    · exact (hset b (fun e => hk (.inl (.inl e)))).trans (hblk b hbl (fun e => hk (.inr e)))
    · rintro b (hk | e)
      · exact .inl (.inl hk)
      · have e2 : gN = b := by simpa [Value.ownBlock] using e
        subst e2
        rcases hat with e3 | e3
        · exact .inl (.inr e3)
        · exact .inr (by omega)
end
set_option maxHeartbeats 800000 in
theorem factOf_any {w : World} {gh mb : Nat} {vr : Value} {S : Nat → Option Pos} {m : Hm} (h : Hp w gh vr mb S m) (hh : Here m.L) (a b : Int) (ha : I64 a ∧ I64 b) (p : Int) :
    Calls Try.prog 61 #[.pointer (some ⟨gh, 0, none⟩), .agg #[.int .i64 a, .int .i64 b], .int .i64 p] w fun e w' => e = .returned (.agg #[.int .i64 p, .bool false, .int .i64 (obAt m.L (a, b)).k]) ∧ Below w.heap.size w w' := by
  have HA : Hid (∀ w1, Below w.heap.size w w1 → Calls Try.prog 67 #[.pointer (some ⟨gh, 0, none⟩), .agg #[.int .i64 a, .int .i64 b]] w1 fun e w' => e = .returned (.bool false) ∧ Below w1.heap.size w1 w') := Lib.hid fun w1 hb => (h.below hb).isAway hh a b ha.2.1 ha.2.2
  have HK : Hid (∀ w1, Below w.heap.size w w1 → Calls Try.prog 68 #[.pointer (some ⟨gh, 0, none⟩), .agg #[.int .i64 a, .int .i64 b]] w1 fun e w' => e = .returned (.tuple #[.int .i64 (obAt m.L (a, b)).k, .int .i64 (hasE m.L (a, b))]) ∧ Below w1.heap.size w1 w') := Lib.hid fun w1 hb => (h.below hb).kind hh a b ha.2.1 ha.2.2
  generalize (obAt m.L (a, b)).k = k at *
  generalize hasE m.L (a, b) = er at *
  have HB : Hid (Below w.heap.size w ((w.alloc (.cells #[.int .i64 a, .int .i64 b] 36)).alloc (.cells #[.int .i64 0, .bool false, .int .i64 0] 129))) := Lib.hid (((Below.refl _ _).alloc (Nat.le_refl _) _).alloc (by simp) _)
  have HX : Hid (((w.alloc (.cells #[.int .i64 a, .int .i64 b] 36)).alloc (.cells #[.int .i64 0, .bool false, .int .i64 0] 129)).heap[w.heap.size]? = some (.cells #[.int .i64 a, .int .i64 b] 36 (0, 0))) := Lib.hid ((heap_alloc_old _ _ (by simp)).trans (heap_alloc_new w _))
  have HY : Hid (((w.alloc (.cells #[.int .i64 a, .int .i64 b] 36)).alloc (.cells #[.int .i64 0, .bool false, .int .i64 0] 129)).heap[w.heap.size + 1]? = some (.cells #[.int .i64 0, .bool false, .int .i64 0] 129 (0, 0))) := Lib.hid (by have := heap_alloc_new (w.alloc (.cells #[.int .i64 a, .int .i64 b] 36)) (.cells #[.int .i64 0, .bool false, .int .i64 0] 129); rwa [World.size_alloc] at this)
  clear h
  go_enter Try.func61, Try.ntmps61
  go_upto_region 1 with fail
  generalize hWa : (w.alloc (.cells #[.int .i64 a, .int .i64 b] 36)).alloc (.cells #[.int .i64 0, .bool false, .int .i64 0] 129) = wa at *
  clear hWa
  have x0 := cell_of_row _ _ 0 _ _ _ HX.out
  have x1 := cell_of_row _ _ 1 _ _ _ HX.out
  simp at x0 x1
  go_upto_region 3 with (go_at_call 67; with_reducible refine (HA.out _ HB.out).mono ?_; rintro e w1 ⟨rfl, hb1⟩)
  have HB1 := Lib.hid (HB.out.trans (hb1.mono HB.out.size))
  have hx1 := (hb1.block _ (lt_of_block HX.out)).trans HX.out
  have hy1 := (hb1.block _ (lt_of_block HY.out)).trans HY.out
  clear x0 x1
  have x0 := cell_of_row _ _ 0 _ _ _ hx1
  have x1 := cell_of_row _ _ 1 _ _ _ hx1
  simp at x0 x1
  have HY1 := Lib.hid hy1
  clear hb1 hx1 hy1
  go_upto_region 4 with (go_at_call 68; with_reducible refine (HK.out _ HB1.out).mono ?_; rintro e w2 ⟨rfl, hb2⟩)
  have HB2 := Lib.hid (HB1.out.trans (hb2.mono HB1.out.size))
  have hy2 := (hb2.block _ (lt_of_block HY1.out)).trans HY1.out
  clear hb2
  have y0 := cell_of_row _ _ 0 _ _ _ hy2
  have y1 := cell_of_row _ _ 1 _ _ _ hy2
  have y2 := cell_of_row _ _ 2 _ _ _ hy2
  have f0 := frozen_of_row _ _ 0 _ _ hy2
  have f1 := frozen_of_row _ _ 1 _ _ hy2
  have f2 := frozen_of_row _ _ 2 _ _ hy2
  simp at y0 y1 y2
  have HF : Hid (∀ v0 v1 v2, Below w.heap.size w (((w2.setCell ⟨w.heap.size + 1, 0, none⟩ v0).setCell ⟨w.heap.size + 1, 1, none⟩ v1).setCell ⟨w.heap.size + 1, 2, none⟩ v2)) := Lib.hid fun v0 v1 v2 => ((HB2.out.setCell (Nat.le_succ _) _).setCell (Nat.le_succ _) _).setCell (Nat.le_succ _) _
  clear hy2
  go_wp2_with fail
  exact bodyPost_ret (v := .agg #[.int .i64 p, .bool false, .int .i64 k]) (by simp [results, Try.results61, go_sem, y0, y1, y2]) rfl ⟨rfl, HF.out _ _ _⟩
/-- What a call on a graph leaves. -/
def GraR (w w' : World) (g : Nat) (vt mv vf : Value) (T' : List (Int × Int)) : Prop := ∃ vt' mv' vf' fs', Gra w' g vt' mv' vf' T' fs' ∧ Chp (footG g vt mv vf) (footG g vt' mv' vf') w w' ∧ (mv = .map none ∨ mv' = mv)
theorem GraR.of_below {w w' : World} {g : Nat} {vt mv vf : Value} {T : List (Int × Int)} {fs : List Fct} (h : Gra w g vt mv vf T fs) (hb : Below w.heap.size w w') : GraR w w' g vt mv vf T := ⟨_, _, _, _, h.below hb, Chp.of_below hb, .inr rfl⟩
theorem info_fct : (Try.prog.info? 129).map (fun i => (i.zero, i.size, i.bytes)) = some (some (.agg #[.int .i64 0, .bool false, .int .i64 0]), 3, 24) := by kernel_rfl
set_option maxHeartbeats 1600000 in
theorem come_any {w : World} {gh : Nat} {F : Nat → Prop} {m : Hm} (h : Hep w gh F m) (hh : Here m.L) {g : Nat} {vt mv vf : Value} {T : List (Int × Int)} {fs : List Fct} (hg : Gra w g vt mv vf T fs) (hsep : ∀ k, F k → ¬ footG g vt mv vf k)
    (hT : T.length ≤ 90000) (a b : Int) (ha : I64 a ∧ I64 b) (p : Int) :
    Calls Try.prog 47 #[.pointer (some ⟨g, 0, none⟩), .pointer (some ⟨gh, 0, none⟩), .agg #[.int .i64 a, .int .i64 b], .int .i64 p] w fun e w' => e = .returned (.tuple #[]) ∧ GraR w w' g vt mv vf (comeT m.L T (a, b)) := by
  obtain ⟨vr, mb, S, hp, rfl⟩ := h
  have HH : Hid (∀ w1, Below w.heap.size w w1 → Calls Try.prog 45 #[.pointer (some ⟨gh, 0, none⟩), .agg #[.int .i64 a, .int .i64 b]] w1 fun e w' => e = .returned (.bool (hasP m.L (a, b))) ∧ Below w1.heap.size w1 w') := Lib.hid fun w1 hb => (hp.below hb).has a b ha.2.1 ha.2.2
  have HB : Hid (Below w.heap.size w (w.alloc (.cells #[.int .i64 a, .int .i64 b] 36))) := Lib.hid (alloc_below _ _)
  have hx := heap_alloc_new w (.cells #[.int .i64 a, .int .i64 b] 36)
  cases hv : hasP m.L (a, b) with
  | false =>
    rw [comeT_no hv]
    rw [hv] at HH
    have HR : Hid (∀ w1, Below w.heap.size w w1 → GraR w w1 g vt mv vf T) := Lib.hid fun w1 hb => GraR.of_below hg hb
    clear hp hg hv
    go_enter Try.func47, Try.ntmps47
    go_upto_region 1 with fail
    generalize w.alloc (.cells #[.int .i64 a, .int .i64 b] 36) = wa at *
    have x0 := cell_of_row _ _ 0 _ _ _ hx
    have x1 := cell_of_row _ _ 1 _ _ _ hx
    simp at x0 x1
    have hz : w.heap.size < wa.heap.size := lt_of_block hx
    have y0 : ∀ s : In wa, s.1.cell? ⟨w.heap.size, 0, none⟩ = some (.int .i64 a) := fun s => (s.2.cell (p := ⟨w.heap.size, 0, none⟩) hz).trans x0
    have y1 : ∀ s : In wa, s.1.cell? ⟨w.heap.size, 1, none⟩ = some (.int .i64 b) := fun s => (s.2.cell (p := ⟨w.heap.size, 1, none⟩) hz).trans x1
    have HUP : Hid (∀ s : In wa, Below w.heap.size w s.1) := Lib.hid fun s => HB.out.trans (s.2.mono HB.out.size)
    have hne := In.some wa
    clear hx x0 x1 hz
    refine region_in wa (by kernel_rfl) (by kernel_rfl) (Below.refl _ _) ?_
    repeat (go_big_quiet_step ((first | (go_at_call 45; exact Calls.quiet_in (HH.out _ (HUP.out _))))))
    refine wpQuiet_nil ?_
    rintro w12 ⟨s, rfl⟩
    have HS := Lib.hid (HUP.out s)
    go_wp2_with fail
    go_end0
    exact ⟨rfl, HR.out _ HS.out⟩
  | true =>
    rw [comeT_yes hv]
    rw [hv] at HH
    have HSE : Hid (∀ w1, Below w.heap.size w w1 → Calls Try.prog 60 #[.pointer (some ⟨g, 0, none⟩), .agg #[.int .i64 a, .int .i64 b]] w1 fun e w' => e = .returned (.bool (!hasK T (a, b))) ∧ SeeV w1 w' g 83 [vf] vt mv T (a, b)) := Lib.hid fun w1 hb => rnV_see (hg.below hb).r (by decide) (by omega) a b ha
    have HG := Lib.hid hg
    have HP := Lib.hid hp
    have HSEP := Lib.hid hsep
    clear hg hp hsep hv
    by_cases hm : (a, b) ∈ T
    · rw [hasK_yes hm] at HSE
      have HR : Hid (∀ w1 w2, Below w.heap.size w w1 → SeeV w1 w2 g 83 [vf] vt mv T (a, b) → GraR w w2 g vt mv vf (addK T (a, b))) := Lib.hid fun w1 w2 hb hs => by
        obtain ⟨vt', mv', hr, hc, hmv⟩ := hs
        rw [addK_yes hm] at hr ⊢
        have h1 := HG.out.below hb
        refine ⟨vt', mv', vf, fs, ⟨hr, own_other h1.f fun b e => hc.block b (own_lt h1.f e) (h1.far b e), h1.len, h1.aw⟩, (Chp.of_below hb).trans (hc.congr (fun k hk => .inl hk) fun k hk => hk.elim .inl (fun e => .inr (.inl (.inr e)))), hmv⟩
      clear HG HP HSEP hm
      go_enter Try.func47, Try.ntmps47
      go_upto_region 1 with fail
      generalize w.alloc (.cells #[.int .i64 a, .int .i64 b] 36) = wa at *
      have x0 := cell_of_row _ _ 0 _ _ _ hx
      have x1 := cell_of_row _ _ 1 _ _ _ hx
      simp at x0 x1
      have HX := Lib.hid hx
      clear hx
      go_region_law (first
        | (go_simp; go_at_call 45; refine (HH.out _ (by exact HB.out.drew)).mono ?_; rintro e w1 ⟨rfl, hb1⟩; have HB1 : Hid (Below w.heap.size w w1) := Lib.hid (HB.out.drew.trans (by exact hb1.mono HB.out.size)); have hx1 := (hb1.block _ (lt_of_block HX.out)).trans HX.out; have y0 := cell_of_row _ _ 0 _ _ _ hx1; have y1 := cell_of_row _ _ 1 _ _ _ hx1; simp at y0 y1; clear hb1 hx1)
        | (go_simp; go_at_call 60; refine (HSE.out _ (by exact HB1.out)).mono ?_; rintro e w2 ⟨rfl, hs⟩))
      all_goals (
        have HS := Lib.hid (HR.out _ _ (by exact HB1.out) (by exact hs))
        go_wp2_with fail
        go_end0
        exact ⟨rfl, HS.out⟩)
    · rw [hasK_no hm] at HSE
      have HFIN : Hid (∀ w1 w2 vt' mv', (mv = .map none ∨ mv' = mv) → w.heap.size < w1.heap.size → Below w.heap.size w w1 → RnV w2 g 83 [vf] vt' mv' (addK T (a, b)) → Chp (footR g vt mv) (footR g vt' mv') w1 w2 → Hp w2 gh vr mb S m ∧ w2.ownsRow 0 129 3 vf fs.length (fs.flatMap fctV) ∧ w2.heap[w.heap.size]? = w1.heap[w.heap.size]? ∧
          ∀ w3, Below w2.heap.size w2 w3 → ∀ w4 gN cap k, w4.ownsRow 0 129 3 (.slice (some ⟨gN, 0, none⟩) (fs.length + 1) cap) (fs.length + 1) (fs.flatMap fctV ++ [.int .i64 p, .bool false, .int .i64 k]) → ((w3.alloc (.cells #[.int .i64 p, .bool false, .int .i64 k] 129)).drew).grownBy w4 vf.ownBlock → (vf.ownBlock = some gN ∨ gN = w3.heap.size + 1) →
            w4.cell? ⟨g, 2, none⟩ = some vf ∧ w4.frozen? ⟨g, 2, none⟩ = false ∧ GraR w (w4.setCell ⟨g, 2, none⟩ (.slice (some ⟨gN, 0, none⟩) (fs.length + 1) cap)) g vt mv vf (addK T (a, b))) := Lib.hid fun w1 w2 vt' mv' hmv hz1 hb hr hc => by
        have h1 := HG.out.below hb
        have hP1 := HP.out.below hb
        have hf2 : w2.ownsRow 0 129 3 vf fs.length (fs.flatMap fctV) := own_other h1.f fun b e => hc.block b (own_lt h1.f e) (h1.far b e)
        refine ⟨hP1.keep fun k hk => hc.block k (hP1.lt k hk) fun e => HSEP.out k hk (.inl e), hf2, ?_, fun w3 hb3 w4 gN cap k hown hgrow0 hat => ?_⟩
        · exact hc.block _ hz1 fun e => by have := HG.out.r.lt _ e; omega
        · have hgrow : (w3.alloc (.cells #[.int .i64 p, .bool false, .int .i64 k] 129)).grownBy w4 vf.ownBlock := ⟨hgrow0.os, hgrow0.tape, hgrow0.output, hgrow0.size, hgrow0.block⟩
          obtain ⟨q1, q2, q3, q4, q5⟩ := fact_grow (x := (p, false, k)) hr hf2 hb3 hown hgrow hat
          refine ⟨q1, q2, vt', mv', _, fs ++ [(p, false, k)], ⟨q3, q4, ?_, ?_⟩, ?_, hmv⟩
          · rw [addK_no hm, List.length_append, List.length_append, h1.len]; rfl
          · intro x hx
            rcases List.mem_append.1 hx with hx | hx
            · exact h1.aw x hx
            · simp at hx; subst hx; rfl
          · exact (Chp.of_below hb).trans ((hc.congr (fun k hk => .inl hk) fun k hk => hk.elim .inl (fun e => .inr (.inl (.inr e)))).trans q5)
      have HFO : Hid (∀ w2, Hp w2 gh vr mb S m → ∀ w3, Below w2.heap.size w2 w3 → Calls Try.prog 61 #[.pointer (some ⟨gh, 0, none⟩), .agg #[.int .i64 a, .int .i64 b], .int .i64 p] w3 fun e w' => e = .returned (.agg #[.int .i64 p, .bool false, .int .i64 (obAt m.L (a, b)).k]) ∧ Below w3.heap.size w3 w') := Lib.hid fun w2 hP w3 hb => factOf_any (hP.below hb) hh a b ha p
      obtain ⟨q, cp, e⟩ := own_form HG.out.f
      subst e
      have HLEN : Hid (fs.length ≤ 90000) := Lib.hid (by rw [HG.out.len]; exact hT)
      obtain ⟨i0, hi0, hz0, hz1, hz2⟩ := info_parts info_fct
      have HI0 := Lib.hid hi0
      have HZ0 := Lib.hid hz0
      have HZ1 := Lib.hid hz1
      have HZ2 := Lib.hid hz2
      clear HG HP HSEP hm hi0 hz0 hz1 hz2
      generalize (obAt m.L (a, b)).k = kk at *
      go_enter Try.func47, Try.ntmps47
      go_upto_region 1 with fail
      generalize w.alloc (.cells #[.int .i64 a, .int .i64 b] 36) = wa at *
      have x0 := cell_of_row _ _ 0 _ _ _ hx
      have x1 := cell_of_row _ _ 1 _ _ _ hx
      simp at x0 x1
      have HX := Lib.hid hx
      clear hx
      go_region_law (first
        | (go_simp; go_at_call 45; refine (HH.out _ (by exact HB.out.drew)).mono ?_; rintro e w1 ⟨rfl, hb1⟩; have HB1 : Hid (Below w.heap.size w w1) := Lib.hid (HB.out.drew.trans (by exact hb1.mono HB.out.size)); have hx1 := (hb1.block _ (lt_of_block HX.out)).trans HX.out; have HX1 := Lib.hid hx1; have y0 := cell_of_row _ _ 0 _ _ _ hx1; have y1 := cell_of_row _ _ 1 _ _ _ hx1; simp at y0 y1; clear hb1 hx1)
        | (go_simp; go_at_call 60; refine (HSE.out _ (by exact HB1.out)).mono ?_; rintro e w2 ⟨rfl, vt2, mv2, hr2, hc2, hmv2⟩))
      all_goals (
        obtain ⟨hP2, hf2, hx2, hfin⟩ := HFIN.out _ _ _ _ (by exact hmv2) (by exact lt_of_block HX1.out) (by exact HB1.out) (by exact hr2) (by exact hc2)
        have hx2 : w2.heap[w.heap.size]? = _ := hx2.trans HX1.out
        have HF := Lib.hid hfin
        have HFA := Lib.hid (HFO.out _ hP2)
        have y2 : w2.cell? ⟨g, 2, none⟩ = some (.slice q fs.length cp) := by rw [cell_of_row _ _ 2 _ _ _ hr2.hd]; rfl
        have z0 := cell_of_row _ _ 0 _ _ _ hx2
        have z1 := cell_of_row _ _ 1 _ _ _ hx2
        simp at z0 z1
        have HGL := Lib.hid (lt_of_block hr2.hd)
        have HXL := Lib.hid (lt_of_block hx2)
        have HOWN : Hid (∀ W, Below w2.heap.size w2 W → W.ownsRow 0 129 3 (.slice q fs.length cp) fs.length (fs.flatMap fctV)) := Lib.hid fun W hb => own_other hf2 fun b e => hb.block b (own_lt hf2 e)
        clear hP2 hf2 hx2 hfin hr2 hc2 y0 y1 x0 x1 HFIN HFO HX HX1 HB1 HSE HH HB
        generalize hNN : fs.length = N at *
        go_upto_region 2 with fail
        have HN0 : Hid (0 < 1) := Lib.hid (by decide)
        have H63 : Hid (N + 1 ≤ maxLen) := Lib.hid (by have := HLEN.out; unfold maxLen; omega)
        have HBY : Hid ((N + 1) * 24 ≤ 140737488355328) := Lib.hid (by have := HLEN.out; omega)
        have HONE : Hid (∀ u ∈ [Value.int .i64 p, .bool false, .int .i64 kk], u.oneCell' = true) := Lib.hid (by intro u hu; simp at hu; rcases hu with rfl | rfl | rfl <;> rfl)
        go_region_law (first
          | (go_simp; go_at_call 61; refine (HFA.out _ (by exact (Below.refl _ _).drew)).mono ?_; rintro e w3 ⟨rfl, hb3⟩; have HB3 : Hid (Below w2.heap.size w2 w3) := Lib.hid ((Below.refl _ _).drew.trans (by exact hb3)); have y2 := (HB3.out.cell (p := ⟨g, 2, none⟩) HGL.out).trans y2; have y2a := ((HB3.out.alloc HB3.out.size (.cells #[.int .i64 p, .bool false, .int .i64 kk] 129)).cell (p := ⟨g, 2, none⟩) HGL.out).trans ‹w2.cell? ⟨g, 2, none⟩ = _›)
          | (refine step_append_lies _ rfl (.tmp 22) (.tmp 27) 81 rfl 0 129 i0 (.agg #[.int .i64 0, .bool false, .int .i64 0]) 3 24 Try.underlying81 HI0.out HZ0.out HZ1.out HZ2.out rfl (by decide) (.slice q N cp) N (fs.flatMap fctV) (by rfl) (HOWN.out _ (by first | exact (HB3.out.alloc HB3.out.size _).drew | exact (HB3.out.alloc HB3.out.size _))) ⟨_, 0, none⟩ 1 1 [.int .i64 p, .bool false, .int .i64 kk] (by rfl) rfl (World.news_of_block (heap_alloc_new _ _)) HONE.out HN0.out H63.out HBY.out (Nat.zero_le _) _ rfl ?_; intro gN cap w4 hown hgrow hat hlt4; obtain ⟨u0, u1, HZ⟩ := HF.out _ HB3.out w4 gN cap kk hown (by first | exact hgrow | exact ⟨hgrow.os, hgrow.tape, hgrow.output, hgrow.size, hgrow.block⟩) (by simpa using hat); have HZF := Lib.hid HZ; clear HZ hown hgrow hat hlt4))
        all_goals (
          go_wp2_with fail
          go_end0
          exact ⟨rfl, by rw [hNN]; exact HZF.out⟩))
end Go.Proofs.Ytekmboolfjicbaa
