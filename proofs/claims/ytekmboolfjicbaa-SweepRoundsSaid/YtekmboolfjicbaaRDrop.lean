/- The document's Drop. -/
import Derived.Test.YtekmboolfjicbaaRAdd
set_option maxRecDepth 20000
set_option linter.unusedSimpArgs false
namespace Go.Proofs.Ytekmboolfjicbaa
open Go.RowKit

def rDropL (L : Pls) (v : Int × Int) : Pls := if hasP L v = true then setR L v.2.toNat none else L
/-- The blocks that a row may not lie in, and the call's boxes. -/
abbrev Gx (F : Nat → Prop) (a n : Nat) : Nat → Prop := fun k => F k ∨ (a ≤ k ∧ k < a + n)
theorem three_alloc (w : World) (a b c : Obj) : (((w.alloc a).alloc b).alloc c).heap[w.heap.size]? = some a ∧ (((w.alloc a).alloc b).alloc c).heap[w.heap.size + 1]? = some b ∧ (((w.alloc a).alloc b).alloc c).heap[w.heap.size + 1 + 1]? = some c ∧
    (((w.alloc a).alloc b).alloc c).heap.size = w.heap.size + 3 ∧ Below w.heap.size w (((w.alloc a).alloc b).alloc c) := by
  refine ⟨?_, ?_, ?_, by simp, (b2 w a b).alloc (by simp; omega) _⟩
  · exact (heap_alloc_old _ _ (by simp <;> omega)).trans (heap_alloc2_old w a b)
  · exact (heap_alloc_old _ _ (by simp <;> omega)).trans (heap_alloc2_new w a b)
  · have h := heap_alloc_new ((w.alloc a).alloc b) c
    simpa using h
section
variable {w w' : World} {F F' : Nat → Prop} {vl : Value} {W : Nat → Value × Value} {L : Pls}
theorem RHp.gx (h : RHp w F vl W L) (n : Nat) : RHp w (Gx F w.heap.size n) vl W L := h.keep fun b hb hf => ⟨rfl, fun h => h.elim hf (fun h => by omega)⟩
theorem fill2 (w2 : World) (A tA : Nat) (a0 a1 v0 v1 : Value) (hA : w2.heap[A]? = some (.cells #[a0, a1] tA (0, 0))) :
    ((w2.setCell ⟨A, 0, none⟩ v0).setCell ⟨A, 1, none⟩ v1).heap[A]? = some (.cells #[v0, v1] tA (0, 0)) ∧
    (∀ n, n ≤ A → ∀ w, Below n w w2 → Below n w ((w2.setCell ⟨A, 0, none⟩ v0).setCell ⟨A, 1, none⟩ v1)) ∧
    (∀ k, k ≠ A → ((w2.setCell ⟨A, 0, none⟩ v0).setCell ⟨A, 1, none⟩ v1).heap[k]? = w2.heap[k]?) :=
  ⟨two_row w2 A tA _ _ v0 v1 hA, fun _ hn _ hb => (hb.setCell hn _).setCell hn _, fun _ h1 => by rw [Below.heap_setCell _ _ _ _ h1, Below.heap_setCell _ _ _ _ h1]⟩
set_option maxHeartbeats 6400000 in
theorem RHp.drop (h : RHp w F vl W L) (hl : L.length ≤ 16000) (hF : ∀ k, F k → k < w.heap.size) (lim K N : Int) :
    Calls Try.prog 25 #[.agg #[vl, .int .i64 lim], .agg #[.int .i64 K, .int .i64 N]] w fun ex w' => ∃ v, ex = .returned (.tuple #[v, .bool (hasP L (K, N))]) ∧ RGoes w w' F lim (rDropL L (K, N)) v := by
  have HP := Lib.hid h
  have HH : Hid (∀ w1, Below w.heap.size w w1 → Calls Try.prog 43 #[.agg #[vl, .int .i64 lim], .agg #[.int .i64 K, .int .i64 N]] w1 fun ex w' => ex = .returned (.bool (hasP L (K, N))) ∧ Below w1.heap.size w1 w') := Lib.hid fun w1 hb => (h.below hb).has (by omega) lim K N
  have hG := h.gx 3
  have HWI : Hid (∀ w1 (i : Nat), i ≤ L.length → Below w.heap.size w w1 → w.heap.size + 3 ≤ w1.heap.size → Calls Try.prog 39 #[.agg #[vl, .int .i64 lim], .int .i64 (i : Int), .agg #[.bool false, .bool false, .int .i64 0, .slice none 0 0, .slice none 0 0, .int .i64 0]] w1 fun ex w' =>
      ∃ vl', ex = .returned (.agg #[vl', .int .i64 lim]) ∧ RHp w' (Gx F w.heap.size 3) vl' (putW W i (.slice none 0 0, .slice none 0 0)) (setR L i none) ∧ Below w1.heap.size w1 w') := Lib.hid fun w1 i hi hb hs4 =>
    (hG.below hb).with_ (by omega) (fun k hk => hk.elim (fun hk => Nat.lt_of_lt_of_le (hF k hk) hb.size) (fun hk => by omega)) lim i hi none none none 0 0 0 0 ⟨⟨none, 0, rfl, ⟨rfl, fun hn => absurd hn (Nat.lt_irrefl 0)⟩, fun hn => absurd hn (Nat.lt_irrefl 0), fun _ => rfl⟩, ⟨none, 0, rfl, Bys.zero _ _, fun hn => absurd hn (Nat.lt_irrefl 0), fun _ => rfl⟩⟩ (fun _ => rfl)
  obtain ⟨q0, c0, rfl, -⟩ := own_formq h.row
  obtain ⟨NL, HN⟩ : ∃ NL, Hid (L.length = NL) := ⟨_, Lib.hid rfl⟩
  rw [HN.out] at hl HH HP HWI ⊢
  have h3 := three_alloc w (.cells #[.slice q0 NL c0, .int .i64 lim] 29) (.cells #[.int .i64 K, .int .i64 N] 36) (.cells #[.slice none 0 0, .int .i64 0] 29)
  have H3 := Lib.hid h3
  clear h hG hF h3
  cases hv : hasP L (K, N) with
  | false =>
    have HL : Hid (rDropL L (K, N) = L) := Lib.hid (if_neg (by rw [hv]; decide))
    rw [HL.out]
    rw [hv] at HH
    clear hv HWI
    go_enter Try.func25, Try.ntmps25
    go_upto_region 1 with fail
    generalize ((w.alloc (.cells #[.slice q0 NL c0, .int .i64 lim] 29)).alloc (.cells #[.int .i64 K, .int .i64 N] 36)).alloc (.cells #[.slice none 0 0, .int .i64 0] 29) = W1 at *
    obtain ⟨hx0, hx1, hx2, hsz, hb1⟩ := H3.out
    have x0 := cell_of_row _ _ 0 _ _ _ hx0
    have x1 := cell_of_row _ _ 1 _ _ _ hx0
    have y0 := cell_of_row _ _ 0 _ _ _ hx1
    have y1 := cell_of_row _ _ 1 _ _ _ hx1
    simp at x0 x1 y0 y1
    go_upto_region 2 with (go_at_call 43; with_reducible refine (HH.out _ hb1).mono ?_; rintro ex w2 ⟨rfl, hb2⟩)
    have HB2 := Lib.hid (hb1.trans (Below.mono hb2 (by omega)))
    have hz0 := (hb2.block _ (by omega)).trans hx0
    have hz2 := (hb2.block _ (by omega)).trans hx2
    have p0 := cell_of_row _ _ 0 _ _ _ hz0
    have p1 := cell_of_row _ _ 1 _ _ _ hz0
    have q20 := cell_of_row _ _ 0 _ _ _ hz2
    have q21 := cell_of_row _ _ 1 _ _ _ hz2
    have f20 := frozen_of_row _ _ 0 _ _ hz2
    have f21 := frozen_of_row _ _ 1 _ _ hz2
    simp at p0 p1 q20 q21
    obtain ⟨u2, hbf, -⟩ := fill2 w2 (w.heap.size + 1 + 1) _ _ _ (.slice q0 NL c0) (.int .i64 lim) hz2
    have HBF := Lib.hid (hbf w.heap.size (by omega) w HB2.out)
    clear x0 x1 y0 y1 hb2 hbf
    go_wp2_with fail
    generalize (w2.setCell ⟨w.heap.size + 1 + 1, 0, none⟩ (.slice q0 NL c0)).setCell ⟨w.heap.size + 1 + 1, 1, none⟩ (.int .i64 lim) = V at *
    have v0 := cell_of_row _ _ 0 _ _ _ u2
    have v1 := cell_of_row _ _ 1 _ _ _ u2
    simp at v0 v1
    exact bodyPost_ret (v := .tuple #[.agg #[.slice q0 NL c0, .int .i64 lim], .bool false]) (by simp [results, Try.results25, go_sem, v0, v1]) rfl ⟨_, rfl, _, _, rfl, HP.out.below HBF.out, HBF.out⟩
  | true =>
    obtain ⟨hK, hN, d, hd⟩ := hasP_iff.1 hv
    obtain ⟨i, rfl⟩ : ∃ i : Nat, N = (i : Int) := ⟨N.toNat, by have : (0 : Int) ≤ N := hN; omega⟩
    rw [show ((K, (i : Int)).2).toNat = i from Int.toNat_natCast i] at hd
    have HL : Hid (rDropL L (K, (i : Int)) = setR L i none) := Lib.hid (by unfold rDropL; rw [if_pos hv, show ((K, (i : Int)).2).toNat = i from Int.toNat_natCast i])
    have HIL : Hid (i ≤ NL) := Lib.hid (by have := clAt_some hd; have := HN.out; omega)
    rw [HL.out]
    rw [hv] at HH
    clear hv hK hN hd
    go_enter Try.func25, Try.ntmps25
    go_upto_region 1 with fail
    generalize ((w.alloc (.cells #[.slice q0 NL c0, .int .i64 lim] 29)).alloc (.cells #[.int .i64 K, .int .i64 (i : Int)] 36)).alloc (.cells #[.slice none 0 0, .int .i64 0] 29) = W1 at *
    obtain ⟨hx0, hx1, hx2, hsz, hb1⟩ := H3.out
    have x0 := cell_of_row _ _ 0 _ _ _ hx0
    have x1 := cell_of_row _ _ 1 _ _ _ hx0
    have y0 := cell_of_row _ _ 0 _ _ _ hx1
    have y1 := cell_of_row _ _ 1 _ _ _ hx1
    simp at x0 x1 y0 y1
    go_upto_region 3 with (go_at_call 43; with_reducible refine (HH.out _ hb1).mono ?_; rintro ex w2 ⟨rfl, hb2⟩)
    have HB2 := Lib.hid (hb1.trans (Below.mono hb2 (by omega)))
    have hz0 := (hb2.block _ (by omega)).trans hx0
    have hz1 := (hb2.block _ (by omega)).trans hx1
    have hz2 := (hb2.block _ (by omega)).trans hx2
    have hs2 : w.heap.size + 3 ≤ w2.heap.size := by have := hb2.size; omega
    have p0 := cell_of_row _ _ 0 _ _ _ hz0
    have p1 := cell_of_row _ _ 1 _ _ _ hz0
    have p2 := cell_of_row _ _ 1 _ _ _ hz1
    simp at p0 p1 p2
    clear x0 x1 y0 y1 hb2
    go_wp2_with (go_at_call 39; with_reducible refine (HWI.out _ i HIL.out HB2.out hs2).mono ?_; rintro ex w3 ⟨vl9, rfl, hr9, hb3⟩; obtain ⟨q9, c9, rfl, -⟩ := own_formq hr9.row; have hz3 := (hb3.block _ (by omega)).trans hz2; have q20 := cell_of_row _ _ 0 _ _ _ hz3; have q21 := cell_of_row _ _ 1 _ _ _ hz3; have f20 := frozen_of_row _ _ 0 _ _ hz3; have f21 := frozen_of_row _ _ 1 _ _ hz3; simp at q20 q21)
    have HB3 := Lib.hid (HB2.out.trans (hb3.mono HB2.out.size))
    obtain ⟨u2, hbf, hoth⟩ := fill2 w3 (w.heap.size + 1 + 1) _ _ _ (.slice q9 (setR L i none).length c9) (.int .i64 lim) hz3
    have HBF := Lib.hid (hbf w.heap.size (by omega) w HB3.out)
    have HRV := Lib.hid (hr9.keep (w' := (w3.setCell ⟨w.heap.size + 1 + 1, 0, none⟩ (.slice q9 (setR L i none).length c9)).setCell ⟨w.heap.size + 1 + 1, 1, none⟩ (.int .i64 lim)) (F' := F) (fun b2 hb2 hf2 => ⟨hoth b2 (fun e2 => hf2 (.inr (by omega))), fun hf3 => hf2 (.inl hf3)⟩))
    clear hbf hoth hr9
    generalize (setR L i none).length = n9 at *
    generalize (w3.setCell ⟨w.heap.size + 1 + 1, 0, none⟩ (.slice q9 n9 c9)).setCell ⟨w.heap.size + 1 + 1, 1, none⟩ (.int .i64 lim) = V at *
    have v0 := cell_of_row _ _ 0 _ _ _ u2
    have v1 := cell_of_row _ _ 1 _ _ _ u2
    simp at v0 v1
    go_wp2_with fail
    exact bodyPost_ret (v := .tuple #[.agg #[.slice q9 n9 c9, .int .i64 lim], .bool true]) (by simp [results, Try.results25, go_sem, v0, v1]) rfl ⟨_, rfl, _, _, rfl, HRV.out, HBF.out⟩
end
end Go.Proofs.Ytekmboolfjicbaa
