/- The document's with: places with another cell. -/
import Derived.Test.YtekmboolfjicbaaRCopy
set_option maxRecDepth 20000
set_option linter.unusedSimpArgs false
namespace Go.Proofs.Ytekmboolfjicbaa
open Go.RowKit

theorem Try.infoR : (Try.prog.info? 109).map (fun i => (i.zero, i.size, i.bytes)) = some (some (.agg #[.bool false, .bool false, .int .i64 0, .slice none 0 0, .slice none 0 0, .int .i64 0]), 6, 72) := by kernel_rfl
/-- A place put in. -/
def setR (L : Pls) (i : Nat) (c : Option Cl) : Pls := if i = L.length then L ++ [c] else L.set i c
def putW (W : Nat → Value × Value) (i : Nat) (V : Value × Value) : Nat → Value × Value := fun j => if j = i then V else W j
theorem clAt_setR {L : Pls} {i j : Nat} {c : Option Cl} (h : i ≤ L.length) : clAt (setR L i c) j = if j = i then c else clAt L j := by
  unfold setR
  split
  · rename_i e; rw [clAt_snoc, e]
  · rw [clAt_set (by omega)]
theorem setR_len {L : Pls} {i : Nat} {c : Option Cl} (h : i ≤ L.length) : (setR L i c).length = max L.length (i + 1) := by
  unfold setR
  split
  · rename_i e; rw [List.length_append]; simp; omega
  · rw [List.length_set]; omega
theorem cellR_len (c : Option Cl) (W : Value × Value) : (cellR c W).length = 6 := rfl
theorem rowR_snoc (L : Pls) (W : Nat → Value × Value) (c : Option Cl) (V : Value × Value) : rowR (setR L L.length c) (putW W L.length V) (L.length + 1) = rowR L W L.length ++ cellR c V := by
  show rowR (setR L L.length c) (putW W L.length V) L.length ++ cellR (clAt (setR L L.length c) L.length) (putW W L.length V L.length) = _
  rw [clAt_setR (Nat.le_refl _), if_pos rfl, show putW W L.length V L.length = V from if_pos rfl]
  congr 1
  refine rowR_congr fun i hi => ⟨?_, ?_⟩
  · rw [clAt_setR (i := L.length) (Nat.le_refl _), if_neg (by omega)]
  · unfold putW; rw [if_neg (by omega)]
theorem rowR_set (L : Pls) (W : Nat → Value × Value) (c : Option Cl) (V : Value × Value) (i : Nat) (hi : i < L.length) :
    ((((((rowR L W L.length).set (i * 6) (.bool c.isSome)).set (i * 6 + 1) (.bool (chOf c))).set (i * 6 + 2) (.int .i64 (obOf c).k)).set (i * 6 + 3) V.1).set (i * 6 + 4) V.2).set (i * 6 + 5) (.int .i64 0) = rowR (setR L i c) (putW W i V) L.length := by
  apply List.ext_getElem?
  intro j
  rcases Nat.lt_or_ge j (L.length * 6) with h | h
  · have hq : j / 6 < L.length := by omega
    have hr : j % 6 < 6 := Nat.mod_lt _ (by decide)
    have hj : j = j / 6 * 6 + j % 6 := by omega
    have e2 := rowR_get (setR L i c) (putW W i V) L.length (j / 6) (j % 6) hq hr
    rw [← hj] at e2
    have e1 := rowR_get L W L.length (j / 6) (j % 6) hq hr
    rw [← hj] at e1
    rw [e2]
    simp only [List.getElem?_set, List.length_set, rowR_len]
    by_cases hji : j / 6 = i
    · rw [clAt_setR (by omega), if_pos hji, show putW W i V (j / 6) = V from if_pos hji]
      have h6 : j % 6 = 0 ∨ j % 6 = 1 ∨ j % 6 = 2 ∨ j % 6 = 3 ∨ j % 6 = 4 ∨ j % 6 = 5 := by omega
      rcases h6 with h6 | h6 | h6 | h6 | h6 | h6
      · rw [if_neg (by omega), if_neg (by omega), if_neg (by omega), if_neg (by omega), if_neg (by omega), if_pos (by omega), if_pos (by omega), h6]; rfl
      · rw [if_neg (by omega), if_neg (by omega), if_neg (by omega), if_neg (by omega), if_pos (by omega), if_pos (by omega), h6]; rfl
      · rw [if_neg (by omega), if_neg (by omega), if_neg (by omega), if_pos (by omega), if_pos (by omega), h6]; rfl
      · rw [if_neg (by omega), if_neg (by omega), if_pos (by omega), if_pos (by omega), h6]; rfl
      · rw [if_neg (by omega), if_pos (by omega), if_pos (by omega), h6]; rfl
      · rw [if_pos (by omega), if_pos (by omega), h6]; rfl
    · rw [clAt_setR (by omega), if_neg hji, show putW W i V (j / 6) = W (j / 6) from if_neg hji]
      rw [if_neg (by omega), if_neg (by omega), if_neg (by omega), if_neg (by omega), if_neg (by omega), if_neg (by omega)]
      exact e1
  · rw [List.getElem?_eq_none (by simp only [List.length_set, rowR_len]; exact h), List.getElem?_eq_none (by rw [rowR_len]; exact h)]
theorem rowR_one {w : World} {F : Nat → Prop} {vl : Value} {W : Nat → Value × Value} {L : Pls} (h : RHp w F vl W L) (n : Nat) : ∀ v ∈ rowR L W n, v.oneCell' = true := by
  induction n with
  | zero => intro v hv; cases hv
  | succ n ih =>
    intro v hv
    unfold rowR at hv
    rcases List.mem_append.1 hv with hv | hv
    · exact ih v hv
    · obtain ⟨⟨q, c, e1, _⟩, ⟨p, d, e2, _⟩⟩ := h.ob n
      unfold cellR at hv
      rw [e1, e2] at hv
      simp only [List.mem_cons, List.not_mem_nil, or_false] at hv
      rcases hv with rfl | rfl | rfl | rfl | rfl | rfl <;> rfl
section
variable {w w' : World} {F F' : Nat → Prop} {vl : Value} {W : Nat → Value × Value} {L : Pls}
/-- The row with another place. -/
theorem RHp.put (h : RHp w F vl W L) (hb : ∀ b, b < w.heap.size → ¬ F b → w'.heap[b]? = w.heap[b]?) (hF : ∀ k, F k → k < w.heap.size) {i : Nat} (hi : i ≤ L.length) {c : Option Cl} {V : Value × Value} (hV : ObR w F V (obOf c)) (hN : c = none → V = (.slice none 0 0, .slice none 0 0))
    {vl' : Value} (hrow : w'.ownsRow w.heap.size 109 6 vl' (setR L i c).length (rowR (setR L i c) (putW W i V) (setR L i c).length)) : RHp w' F vl' (putW W i V) (setR L i c) := by
  refine ⟨base0 hrow, fun k e hf => ?_, ?_, ?_⟩
  · have h1 := own_ge hrow e
    have h2 := hF k hf
    omega
  · intro j d hd
    rw [clAt_setR hi] at hd
    unfold putW
    split at hd
    · rename_i e
      rw [if_pos e]
      have : obOf c = d.o := by rw [hd]; rfl
      rw [← this]
      exact hV.keep fun b hb1 hb2 => ⟨hb b hb1 hb2, hb2⟩
    · rename_i e
      rw [if_neg e]
      exact (h.at_ j d hd).keep fun b hb1 hb2 => ⟨hb b hb1 hb2, hb2⟩
  · intro j hd
    rw [clAt_setR hi] at hd
    unfold putW
    split at hd
    · rename_i e; rw [if_pos e]; exact hN hd
    · rename_i e; rw [if_neg e]; exact h.none_ j hd
set_option maxHeartbeats 6400000 in
theorem RHp.with_ (h : RHp w F vl W L) (hl : L.length ≤ 16384) (hF : ∀ k, F k → k < w.heap.size) (lim : Int) (i : Nat) (hi : i ≤ L.length) (c : Option Cl) (q p : Option Addr) (n c1 d e1 : Nat)
    (hV : ObR w F (.slice q n c1, .slice p d e1) (obOf c)) (hN : c = none → (Value.slice q n c1, Value.slice p d e1) = (.slice none 0 0, .slice none 0 0)) :
    Calls Try.prog 39 #[.agg #[vl, .int .i64 lim], .int .i64 (i : Int), .agg #[.bool c.isSome, .bool (chOf c), .int .i64 (obOf c).k, .slice q n c1, .slice p d e1, .int .i64 0]] w fun ex w' =>
      ∃ vl', ex = .returned (.agg #[vl', .int .i64 lim]) ∧ RHp w' F vl' (putW W i (.slice q n c1, .slice p d e1)) (setR L i c) ∧ Below w.heap.size w w' := by
  have HP := Lib.hid h
  have HFN : Hid (∀ (w' : World) (vl' : Value), (∀ b, b < w.heap.size → ¬ F b → w'.heap[b]? = w.heap[b]?) → w'.ownsRow w.heap.size 109 6 vl' (setR L i c).length (rowR (setR L i c) (putW W i (.slice q n c1, .slice p d e1)) (setR L i c).length) → RHp w' F vl' (putW W i (.slice q n c1, .slice p d e1)) (setR L i c)) := Lib.hid fun _ _ hb hrow => h.put hb hF hi hV hN hrow
  have HSL := Lib.hid (setR_len (c := c) hi)
  have HONE := Lib.hid (rowR_one h L.length)
  have HRL := Lib.hid (rowR_len L W L.length)
  have HSET := Lib.hid (rowR_set L W c (.slice q n c1, .slice p d e1))
  have HSNOC := Lib.hid (rowR_snoc L W c (.slice q n c1, .slice p d e1))
  have HCELL : Hid (∀ u, Below w.heap.size w u → 0 < L.length → ∀ q0 c0, vl = .slice q0 L.length c0 → ∃ ad, q0 = some ad ∧ ∀ j v, (rowR L W L.length)[j]? = some v → u.cell? (ad.add j) = some v) := Lib.hid fun u hu hpos q0 c0 e => by
    obtain ⟨b, c2, e2⟩ := own_some h.row hpos
    rw [e2] at e
    cases e
    have hr := own_below h.row hu
    rw [e2] at hr
    refine ⟨_, rfl, fun j v hv => ?_⟩
    have hj : j < L.length * 6 := by rw [← rowR_len L W L.length]; exact (List.getElem?_eq_some_iff.1 hv).1
    rw [Go.WideShapes.add_plain, Nat.zero_add]
    exact (hr.cellAt j (by omega)).trans hv
  obtain ⟨q0, c0, rfl, hq0⟩ := own_formq h.row
  have HQ0 := Lib.hid hq0
  have HNEW : Hid ((cellR c (.slice q n c1, .slice p d e1)) = [.bool c.isSome, .bool (chOf c), .int .i64 (obOf c).k, .slice q n c1, .slice p d e1, .int .i64 0]) := Lib.hid rfl
  obtain ⟨N, HNN⟩ : ∃ N, Hid (L.length = N) := ⟨_, Lib.hid rfl⟩
  rw [HNN.out] at hl hi HSL HONE HRL HSET HSNOC HCELL HP
  clear h hV hN hq0 hF
  generalize c.isSome = live at *
  generalize chOf c = ch at *
  generalize (obOf c).k = k at *
  have hx0 : (((w.alloc (.cells #[.slice q0 L.length c0, .int .i64 lim] 29)).alloc (.cells #[.bool live, .bool ch, .int .i64 k, .slice q n c1, .slice p d e1, .int .i64 0] 109)).alloc (.cells #[.slice none 0 0, .int .i64 0] 29)).heap[w.heap.size]? = some (.cells #[.slice q0 L.length c0, .int .i64 lim] 29 (0, 0)) := (heap_alloc_old _ _ (by simp <;> omega)).trans (heap_alloc2_old w _ _)
  have hx1 : (((w.alloc (.cells #[.slice q0 L.length c0, .int .i64 lim] 29)).alloc (.cells #[.bool live, .bool ch, .int .i64 k, .slice q n c1, .slice p d e1, .int .i64 0] 109)).alloc (.cells #[.slice none 0 0, .int .i64 0] 29)).heap[w.heap.size + 1]? = some (.cells #[.bool live, .bool ch, .int .i64 k, .slice q n c1, .slice p d e1, .int .i64 0] 109 (0, 0)) := (heap_alloc_old _ _ (by simp <;> omega)).trans (heap_alloc2_new w _ _)
  have hx2 : (((w.alloc (.cells #[.slice q0 L.length c0, .int .i64 lim] 29)).alloc (.cells #[.bool live, .bool ch, .int .i64 k, .slice q n c1, .slice p d e1, .int .i64 0] 109)).alloc (.cells #[.slice none 0 0, .int .i64 0] 29)).heap[w.heap.size + 1 + 1]? = some (.cells #[.slice none 0 0, .int .i64 0] 29 (0, 0)) := by
    have h := heap_alloc_new ((w.alloc (.cells #[.slice q0 L.length c0, .int .i64 lim] 29)).alloc (.cells #[.bool live, .bool ch, .int .i64 k, .slice q n c1, .slice p d e1, .int .i64 0] 109)) (.cells #[.slice none 0 0, .int .i64 0] 29)
    simpa using h
  have hsz : (((w.alloc (.cells #[.slice q0 L.length c0, .int .i64 lim] 29)).alloc (.cells #[.bool live, .bool ch, .int .i64 k, .slice q n c1, .slice p d e1, .int .i64 0] 109)).alloc (.cells #[.slice none 0 0, .int .i64 0] 29)).heap.size = w.heap.size + 3 := by simp
  have hb0 : Below w.heap.size w (((w.alloc (.cells #[.slice q0 L.length c0, .int .i64 lim] 29)).alloc (.cells #[.bool live, .bool ch, .int .i64 k, .slice q n c1, .slice p d e1, .int .i64 0] 109)).alloc (.cells #[.slice none 0 0, .int .i64 0] 29)) := (b2 w _ _).alloc (by simp; omega) _
  have HX0 := Lib.hid hx0
  have HX1 := Lib.hid hx1
  have HX2 := Lib.hid hx2
  have HSZ := Lib.hid hsz
  have HB := Lib.hid hb0
  rw [HNN.out] at HX0 HX1 HX2 HSZ HB
  clear hx0 hx1 hx2 hsz hb0
  go_enter Try.func39, Try.ntmps39
  rw [HNN.out]
  go_upto_region 2 with fail
  generalize ((w.alloc (.cells #[.slice q0 N c0, .int .i64 lim] 29)).alloc (.cells #[.bool live, .bool ch, .int .i64 k, .slice q n c1, .slice p d e1, .int .i64 0] 109)).alloc (.cells #[.slice none 0 0, .int .i64 0] 29) = W1 at *
  have hsz := HSZ.out
  have x0 := cell_of_row _ _ 0 _ _ _ HX0.out
  simp at x0
  have HCE := Lib.hid (fun hn => HCELL.out _ HB.out hn q0 c0 rfl)
  have HN16 := Lib.hid hl
  go_upto_region 3 with (at_builtin; refine wpList_app0 _ rfl (.tmp 8) (.tmp 10) 27 109 rfl Try.underlying27 _ 6 72 Try.infoR rfl (by decide) (by rfl) q0 N c0 (rowR L W N) (by rfl) HQ0.out HRL.out HCE.out HONE.out (by have := HN16.out; unfold maxLen; omega) (by have := HN16.out; omega) ?_; intro v4 w4 hr4 hb4; obtain ⟨q4, c4, rfl, hq4⟩ := own_formq hr4)
  have hy0 := (hb4.block _ (by omega)).trans HX0.out
  have hy1 := (hb4.block _ (by omega)).trans HX1.out
  have hy2 := (hb4.block _ (by omega)).trans HX2.out
  have HB4 := Lib.hid (HB.out.trans (Below.mono hb4 (by omega)))
  have hs4 : W1.heap.size ≤ w4.heap.size := hb4.size
  have HR4 := Lib.hid hr4
  clear x0 HCE hb4
  by_cases hin : i = N
  · subst hin
    have he : ((i : Int) == (i : Int)) = true := by simp
    obtain ⟨i0, hi0, hz0, hz1, hz2⟩ := info_parts Try.infoR
    have HI0 := Lib.hid hi0
    have HZ0 := Lib.hid hz0
    have HZ1 := Lib.hid hz1
    have HZ2 := Lib.hid hz2
    have y1a := cell_of_row _ _ 0 _ _ _ hy1
    have y1b := cell_of_row _ _ 1 _ _ _ hy1
    have y1c := cell_of_row _ _ 2 _ _ _ hy1
    have y1d := cell_of_row _ _ 3 _ _ _ hy1
    have y1e := cell_of_row _ _ 4 _ _ _ hy1
    have y1f := cell_of_row _ _ 5 _ _ _ hy1
    simp at y1a y1b y1c y1d y1e y1f
    have HRA : Hid ((w4.alloc (.cells #[.bool live, .bool ch, .int .i64 k, .slice q n c1, .slice p d e1, .int .i64 0] 109)).ownsRow W1.heap.size 109 6 (.slice q4 i c4) i (rowR L W i)) := Lib.hid (hr4.alloc _)
    have HNB : Hid (∀ j u, [Value.bool live, .bool ch, .int .i64 k, .slice q n c1, .slice p d e1, .int .i64 0][j]? = some u → (w4.alloc (.cells #[.bool live, .bool ch, .int .i64 k, .slice q n c1, .slice p d e1, .int .i64 0] 109)).cell? ((⟨w4.heap.size, 0, none⟩ : Addr).add j) = some u) := Lib.hid (World.news_of_block (heap_alloc_new w4 (.cells #[.bool live, .bool ch, .int .i64 k, .slice q n c1, .slice p d e1, .int .i64 0] 109)))
    clear hi0 hz0 hz1 hz2 hr4
    go_upto_region 6 with (at_builtin; refine wpList_append_lies _ rfl (.tmp 16) (.tmp 18) 27 rfl W1.heap.size 109 i0 (.agg #[.bool false, .bool false, .int .i64 0, .slice none 0 0, .slice none 0 0, .int .i64 0]) 6 72 Try.underlying27 HI0.out HZ0.out HZ1.out HZ2.out rfl (by decide) (.slice q4 i c4) i (rowR L W i) (by rfl) HRA.out ⟨w4.heap.size, 0, none⟩ 1 1 [.bool live, .bool ch, .int .i64 k, .slice q n c1, .slice p d e1, .int .i64 0] (by rfl) rfl HNB.out (by intro u hu; simp at hu; rcases hu with rfl | rfl | rfl | rfl | rfl | rfl <;> rfl) (by decide) (by have := HN16.out; unfold maxLen; omega) (by have := HN16.out; omega) (by simp; omega) (w4.heap.size + 1) (by simp) ?_; intro gN cap w5 hown hgrow hat hlt5)
    have hB4 : Below w4.heap.size w4 (w4.alloc (.cells #[.bool live, .bool ch, .int .i64 k, .slice q n c1, .slice p d e1, .int .i64 0] 109)) := (Below.refl _ _).alloc (Nat.le_refl _) _
    have HB5 : Hid (Below w.heap.size w w5) := Lib.hid ((HB4.out.trans (hB4.mono HB4.out.size)).grown hgrow (by simp; omega) (fun k2 e2 => by have := own_ge HR4.out e2; omega))
    have h5 : ∀ k2, k2 < W1.heap.size → w5.heap[k2]? = w4.heap[k2]? := fun k2 hk => (hgrow.block k2 (by simp; omega) (fun e2 => by have := own_ge HR4.out e2.symm; omega)).trans (hB4.block k2 (by omega))
    have ha0 := (h5 w.heap.size (by omega)).trans hy0
    have ha2 := (h5 (w.heap.size + 1 + 1) (by omega)).trans hy2
    have a0 := cell_of_row _ _ 1 _ _ _ ha0
    have b0 := cell_of_row _ _ 0 _ _ _ ha2
    have b1 := cell_of_row _ _ 1 _ _ _ ha2
    have g0 := frozen_of_row _ _ 0 _ _ ha2
    have g1 := frozen_of_row _ _ 1 _ _ ha2
    simp at a0 b0 b1
    have hF := two_row w5 (w.heap.size + 1 + 1) _ _ _ (.slice (some ⟨gN, 0, none⟩) (i + 1) cap) (.int .i64 lim) ha2
    have HBV : Hid (Below w.heap.size w ((w5.setCell ⟨w.heap.size + 1 + 1, 0, none⟩ (.slice (some ⟨gN, 0, none⟩) (i + 1) cap)).setCell ⟨w.heap.size + 1 + 1, 1, none⟩ (.int .i64 lim))) := Lib.hid ((HB5.out.setCell (by show w.heap.size ≤ w.heap.size + 1 + 1; omega) _).setCell (by show w.heap.size ≤ w.heap.size + 1 + 1; omega) _)
    have hgN : W1.heap.size ≤ gN := by have := own_ge hown (b := gN) rfl; omega
    have HRV : Hid (RHp ((w5.setCell ⟨w.heap.size + 1 + 1, 0, none⟩ (.slice (some ⟨gN, 0, none⟩) (i + 1) cap)).setCell ⟨w.heap.size + 1 + 1, 1, none⟩ (.int .i64 lim)) F (.slice (some ⟨gN, 0, none⟩) (i + 1) cap) (putW W i (.slice q n c1, .slice p d e1)) (setR L i c)) := Lib.hid (by
      refine HFN.out _ _ (fun b hb _ => HBV.out.block b hb) ?_
      rw [HSL.out, Nat.max_eq_right (by omega), HSNOC.out, HNEW.out]
      refine own_low (own_other hown fun b hb => ?_) (by omega)
      have hb2 : gN = b := by simpa [Value.ownBlock] using hb
      have h1 : b ≠ w.heap.size + 1 + 1 := by omega
      rw [Below.heap_setCell _ _ _ _ h1, Below.heap_setCell _ _ _ _ h1])
    clear hown hgrow hat hlt5 h5 hy0 hy1 hy2 HFN y1a y1b y1c y1d y1e y1f
    go_wp2_with fail
    generalize (w5.setCell ⟨w.heap.size + 1 + 1, 0, none⟩ (.slice (some ⟨gN, 0, none⟩) (i + 1) cap)).setCell ⟨w.heap.size + 1 + 1, 1, none⟩ (.int .i64 lim) = V at *
    have v0 := cell_of_row _ _ 0 _ _ _ hF
    have v1 := cell_of_row _ _ 1 _ _ _ hF
    simp at v0 v1
    exact bodyPost_ret (v := .agg #[.slice (some ⟨gN, 0, none⟩) (i + 1) cap, .int .i64 lim]) (by simp [results, Try.results39, go_sem, v0, v1]) rfl ⟨_, rfl, HRV.out, HBV.out⟩
  · have hiN : i < N := by omega
    have he : ((i : Int) == (N : Int)) = false := by simp; omega
    have hil : (i : Int) < (N : Int) := by omega
    obtain ⟨g4, c5, e5⟩ := own_some hr4 (by omega)
    cases e5
    have hcap := own_cap hr4
    have hg4 : W1.heap.size ≤ g4 := own_ge hr4 rfl
    have hg4lt : g4 < w4.heap.size := own_lt hr4 rfl
    have HGT := Lib.hid (rowR_get L W N i)
    have y1a := cell_of_row _ _ 0 _ _ _ hy1
    have y1b := cell_of_row _ _ 1 _ _ _ hy1
    have y1c := cell_of_row _ _ 2 _ _ _ hy1
    have y1d := cell_of_row _ _ 3 _ _ _ hy1
    have y1e := cell_of_row _ _ 4 _ _ _ hy1
    have y1f := cell_of_row _ _ 5 _ _ _ hy1
    simp at y1a y1b y1c y1d y1e y1f
    obtain ⟨r0, hr0⟩ : ∃ v, w4.cell? ⟨g4, i * 6, none⟩ = some v := ⟨_, (hr4.cellAt (i * 6) (by omega)).trans (HGT.out 0 hiN (by omega))⟩
    obtain ⟨r1, hr1⟩ : ∃ v, w4.cell? ⟨g4, i * 6 + 1, none⟩ = some v := ⟨_, (hr4.cellAt (i * 6 + 1) (by omega)).trans (HGT.out 1 hiN (by omega))⟩
    obtain ⟨r2, hr2⟩ : ∃ v, w4.cell? ⟨g4, i * 6 + 2, none⟩ = some v := ⟨_, (hr4.cellAt (i * 6 + 2) (by omega)).trans (HGT.out 2 hiN (by omega))⟩
    obtain ⟨r3, hr3⟩ : ∃ v, w4.cell? ⟨g4, i * 6 + 3, none⟩ = some v := ⟨_, (hr4.cellAt (i * 6 + 3) (by omega)).trans (HGT.out 3 hiN (by omega))⟩
    obtain ⟨r4, hr4'⟩ : ∃ v, w4.cell? ⟨g4, i * 6 + 4, none⟩ = some v := ⟨_, (hr4.cellAt (i * 6 + 4) (by omega)).trans (HGT.out 4 hiN (by omega))⟩
    obtain ⟨r5, hr5⟩ : ∃ v, w4.cell? ⟨g4, i * 6 + 5, none⟩ = some v := ⟨_, (hr4.cellAt (i * 6 + 5) (by omega)).trans (HGT.out 5 hiN (by omega))⟩
    have z0 := hr4.frozenAt (i * 6)
    have z1 := hr4.frozenAt (i * 6 + 1)
    have z2 := hr4.frozenAt (i * 6 + 2)
    have z3 := hr4.frozenAt (i * 6 + 3)
    have z4 := hr4.frozenAt (i * 6 + 4)
    have z5 := hr4.frozenAt (i * 6 + 5)
    have HRS : Hid (World.ownsRow ((((((w4.setCell ⟨g4, i * 6, none⟩ (.bool live)).setCell ⟨g4, i * 6 + 1, none⟩ (.bool ch)).setCell ⟨g4, i * 6 + 2, none⟩ (.int .i64 k)).setCell ⟨g4, i * 6 + 3, none⟩ (.slice q n c1)).setCell ⟨g4, i * 6 + 4, none⟩ (.slice p d e1)).setCell ⟨g4, i * 6 + 5, none⟩ (.int .i64 0)) W1.heap.size 109 6 (.slice (some ⟨g4, 0, none⟩) N c4) N (rowR (setR L i c) (putW W i (.slice q n c1, .slice p d e1)) N)) := Lib.hid (by
      have h6 := ((((((hr4.stored (i * 6) (.bool live)).1).stored (i * 6 + 1) (.bool ch)).1.stored (i * 6 + 2) (.int .i64 k)).1.stored (i * 6 + 3) (.slice q n c1)).1.stored (i * 6 + 4) (.slice p d e1)).1.stored (i * 6 + 5) (.int .i64 0) |>.1
      have h7 := HSET.out i hiN
      simp only at h7
      rw [h7] at h6
      exact h6)
    have HO6 : Hid (∀ b, b ≠ g4 → (World.heap ((((((w4.setCell ⟨g4, i * 6, none⟩ (.bool live)).setCell ⟨g4, i * 6 + 1, none⟩ (.bool ch)).setCell ⟨g4, i * 6 + 2, none⟩ (.int .i64 k)).setCell ⟨g4, i * 6 + 3, none⟩ (.slice q n c1)).setCell ⟨g4, i * 6 + 4, none⟩ (.slice p d e1)).setCell ⟨g4, i * 6 + 5, none⟩ (.int .i64 0)))[b]? = w4.heap[b]?) := Lib.hid fun b hb => by
      rw [Below.heap_setCell _ _ _ _ hb, Below.heap_setCell _ _ _ _ hb, Below.heap_setCell _ _ _ _ hb, Below.heap_setCell _ _ _ _ hb, Below.heap_setCell _ _ _ _ hb, Below.heap_setCell _ _ _ _ hb]
    have hg4w : w.heap.size ≤ g4 := by omega
    have HB6 : Hid (Below w.heap.size w ((((((w4.setCell ⟨g4, i * 6, none⟩ (.bool live)).setCell ⟨g4, i * 6 + 1, none⟩ (.bool ch)).setCell ⟨g4, i * 6 + 2, none⟩ (.int .i64 k)).setCell ⟨g4, i * 6 + 3, none⟩ (.slice q n c1)).setCell ⟨g4, i * 6 + 4, none⟩ (.slice p d e1)).setCell ⟨g4, i * 6 + 5, none⟩ (.int .i64 0))) := Lib.hid ((((((HB4.out.setCell hg4w _).setCell hg4w _).setCell hg4w _).setCell hg4w _).setCell hg4w _).setCell hg4w _)
    go_upto_region 6 with fail
    generalize (((((w4.setCell ⟨g4, i * 6, none⟩ (.bool live)).setCell ⟨g4, i * 6 + 1, none⟩ (.bool ch)).setCell ⟨g4, i * 6 + 2, none⟩ (.int .i64 k)).setCell ⟨g4, i * 6 + 3, none⟩ (.slice q n c1)).setCell ⟨g4, i * 6 + 4, none⟩ (.slice p d e1)).setCell ⟨g4, i * 6 + 5, none⟩ (.int .i64 0) = W6 at *
    have ha0 := (HO6.out w.heap.size (by omega)).trans hy0
    have ha2 := (HO6.out (w.heap.size + 1 + 1) (by omega)).trans hy2
    have a0 := cell_of_row _ _ 1 _ _ _ ha0
    have b0 := cell_of_row _ _ 0 _ _ _ ha2
    have b1 := cell_of_row _ _ 1 _ _ _ ha2
    have g0 := frozen_of_row _ _ 0 _ _ ha2
    have g1 := frozen_of_row _ _ 1 _ _ ha2
    simp at a0 b0 b1
    have hF := two_row W6 (w.heap.size + 1 + 1) _ _ _ (.slice (some ⟨g4, 0, none⟩) N c4) (.int .i64 lim) ha2
    have HBV : Hid (Below w.heap.size w ((W6.setCell ⟨w.heap.size + 1 + 1, 0, none⟩ (.slice (some ⟨g4, 0, none⟩) N c4)).setCell ⟨w.heap.size + 1 + 1, 1, none⟩ (.int .i64 lim))) := Lib.hid ((HB6.out.setCell (by show w.heap.size ≤ w.heap.size + 1 + 1; omega) _).setCell (by show w.heap.size ≤ w.heap.size + 1 + 1; omega) _)
    have HRV : Hid (RHp ((W6.setCell ⟨w.heap.size + 1 + 1, 0, none⟩ (.slice (some ⟨g4, 0, none⟩) N c4)).setCell ⟨w.heap.size + 1 + 1, 1, none⟩ (.int .i64 lim)) F (.slice (some ⟨g4, 0, none⟩) N c4) (putW W i (.slice q n c1, .slice p d e1)) (setR L i c)) := Lib.hid (by
      refine HFN.out _ _ (fun b hb _ => HBV.out.block b hb) ?_
      rw [HSL.out, Nat.max_eq_left (by omega)]
      refine own_low (own_other HRS.out fun b hb => ?_) (by omega)
      have hb2 : g4 = b := by simpa [Value.ownBlock] using hb
      have h1 : b ≠ w.heap.size + 1 + 1 := by omega
      rw [Below.heap_setCell _ _ _ _ h1, Below.heap_setCell _ _ _ _ h1])
    clear hy0 hy1 hy2 HFN y1a y1b y1c y1d y1e y1f hr0 hr1 hr2 hr3 hr4' hr5 z0 z1 z2 z3 z4 z5 hr4 HR4
    go_wp2_with fail
    generalize (W6.setCell ⟨w.heap.size + 1 + 1, 0, none⟩ (.slice (some ⟨g4, 0, none⟩) N c4)).setCell ⟨w.heap.size + 1 + 1, 1, none⟩ (.int .i64 lim) = V at *
    have v0 := cell_of_row _ _ 0 _ _ _ hF
    have v1 := cell_of_row _ _ 1 _ _ _ hF
    simp at v0 v1
    exact bodyPost_ret (v := .agg #[.slice (some ⟨g4, 0, none⟩) N c4, .int .i64 lim]) (by simp [results, Try.results39, go_sem, v0, v1]) rfl ⟨_, rfl, HRV.out, HBV.out⟩
end
end Go.Proofs.Ytekmboolfjicbaa
