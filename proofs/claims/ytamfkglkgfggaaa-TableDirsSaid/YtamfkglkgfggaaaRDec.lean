/- The document's own: what Decode returns. -/
import Derived.Test.YtamfkglkgfggaaaDec2
set_option linter.unusedSimpArgs false
namespace Go.Proofs.Ytamfkglkgfggaaa
open Go.RowKit
theorem info48z : (Try.prog.info? 48).map (fun i => (i.zero, i.size)) = some (some (.agg (rowA (fun _ => 0) 4)), 4) := by kernel_rfl
theorem size48z : (Try.prog.info? 48).map (·.size) = some 4 := by kernel_rfl
theorem results_row_tmps {P : Program} {fn : Func} {p u v : Tmp} {ty : TypeId} (h : fn.results = #[.cell p ty, .tmp u, .tmp v]) (tmps : Array Value) (w : World) (g : Nat) (t : TypeId) (cs : Array Value) (fr : Nat × Nat) (d : TypeDesc)
    (hp : tmps.getD p undef = .pointer (some ⟨g, 0, none⟩)) (hg : w.heap[g]? = some (.cells cs t fr))
    (hu : P.underlying ty = some d) (hd : (match d with | .struct _ | .array _ _ => true | _ => false) = true) (hi : (P.info? ty).map (·.size) = some cs.size) :
    (results fn tmps).run P w = .ok (.tuple #[.agg cs, tmps.getD u undef, tmps.getD v undef]) w := by
  have h1 : (results fn tmps).run P w =
      ((asAddr (tmps.getD p undef)).run P w).andThen fun a w₁ => ((loadVar ty a).run P w₁).andThen fun x w₂ => .ok (.tuple #[x, tmps.getD u undef, tmps.getD v undef]) w₂ := by
    simp only [results, h]
    simp [Sem.run_bind, Result.andThen]
  rw [h1, hp]
  simp [asAddr, run_loadVar_row w g t ty cs fr d hg hu hd hi]
/-- What it tells. -/
def RDecR (w' : World) (n : Nat) (bs : List Nat) (e : Ending) : Prop :=
  (dirE n bs = 0 ∧ ∃ p c, e = .returned (.tuple #[.agg (rowA (valB bs) 4), .slice p 512 c, .int .i64 0]) ∧ Bls w' p 512 (trs (dsB bs))) ∨
  (dirE n bs ≠ 0 ∧ e = .returned (.tuple #[.agg (rowA (fun _ => 0) 4), .slice none 0 0, .int .i64 (dirE n bs)]))
theorem three (w : World) (o : Obj) : ((w.alloc o).alloc o).alloc o = ((w.alloc o).alloc o).alloc o ∧ (((w.alloc o).alloc o).alloc o).heap[w.heap.size]? = some o ∧ (((w.alloc o).alloc o).alloc o).heap[w.heap.size + 1]? = some o ∧ (((w.alloc o).alloc o).alloc o).heap[w.heap.size + 2]? = some o ∧ Below w.heap.size w (((w.alloc o).alloc o).alloc o) := by
  refine ⟨rfl, ?_, ?_, ?_, (((Below.refl _ _).alloc (Nat.le_refl _) _).alloc (by simp) _).alloc (by simp; omega) _⟩
  · show ((((w.heap.push o).push o).push o) : Array Obj)[w.heap.size]? = some o
    simp [Array.getElem?_push, Array.getElem_push]
  · show ((((w.heap.push o).push o).push o) : Array Obj)[w.heap.size + 1]? = some o
    simp [Array.getElem?_push, Array.getElem_push]
  · show ((((w.heap.push o).push o).push o) : Array Obj)[w.heap.size + 2]? = some o
    simp [Array.getElem?_push, Array.getElem_push]
theorem over_one (V : Nat → Nat) (k l : Nat) : updN (over (fun _ => 0) 0 V 0 k) k (V k) l = over (fun _ => 0) 0 V 0 (k + 1) l := by
  have h := over_snoc (fun _ => 0) 0 V k l
  rwa [Nat.zero_add] at h
theorem over_last (V : Nat → Nat) (k : Nat) : over (fun _ => 0) 0 V 0 (k + 1) k = V k := by
  unfold over; rw [if_pos (by omega)]; simp
theorem over_all (V : Nat → Nat) (n i : Nat) (h : i < n) : over (fun _ => 0) 0 V 0 n i = V i := by
  unfold over; rw [if_pos (by omega)]; simp
theorem drop_getD (bs : List Nat) (k j : Nat) : (bs.drop k).getD j 0 = bs.getD (k + j) 0 := by
  rw [List.getD_eq_getElem?_getD, List.getD_eq_getElem?_getD, List.getElem?_drop]
/-- Amid the loop. -/
structure Rd (w wr : World) (V : Nat → Nat) (k : Nat) : Prop where
  out : IsT wr w.heap.size 48 (fun _ => 0) 4
  none : IsT wr (w.heap.size + 1) 48 (fun _ => 0) 4
  new : IsT wr (w.heap.size + 2) 48 (over (fun _ => 0) 0 V 0 k) 4
  bel : Below w.heap.size w wr
theorem Rd.below {w wr wc : World} {V : Nat → Nat} {k : Nat} (h : Rd w wr V k) (hb : Below wr.heap.size wr wc) : Rd w wc V k :=
  ⟨h.out.below hb, h.none.below hb, h.new.below hb, h.bel.trans (hb.mono h.bel.size)⟩
theorem Rd.start (w : World) (V : Nat → Nat) : Rd w (((w.alloc (.cells (rowA (fun _ => 0) 4) 48)).alloc (.cells (rowA (fun _ => 0) 4) 48)).alloc (.cells (rowA (fun _ => 0) 4) 48)) V 0 := by
  obtain ⟨-, h0, h1, h2, hb⟩ := three w (.cells (rowA (fun _ => 0) 4) 48)
  have h3 : IsT _ (w.heap.size + 2) 48 (fun _ => 0) 4 := h2
  exact ⟨h0, h1, h3.ext fun l _ => (over_out (fun _ => 0) 0 V 0 0 l (by omega)).symm, hb⟩
set_option maxRecDepth 100000 in
set_option maxHeartbeats 1600000 in
theorem rdec_len (p : Option Addr) (n c : Nat) (bs : List Nat) (w : World) (hn : n ≤ 1099511627776) (hw : wholeE n ≠ 0) :
    Calls Try.prog 25 #[.slice p n c] w fun e w' => RDecR w' n bs e ∧ Below w.heap.size w w' := by
  obtain ⟨hz, -⟩ := zero_of_info (P := Try.prog) info48z
  have HE : Hid (dirE n bs = wholeE n ∧ wholeE n ≠ 0) := Lib.hid ⟨by unfold dirE; rw [if_pos hw], hw⟩
  have HR := Lib.hid (Rd.start w (fun _ => 0))
  have KX : Hid ((Try.prog.info? 48).map (·.size) = some (rowA (fun _ => 0) 4).size) := Lib.hid (by rw [size48z, rowA_size])
  have K1 : Hid ((rowA (fun _ => 0) 4).size = (rowA (fun _ => 0) 4).size ∧ (rowA (fun _ => 0) 4).all (·.oneCell') = true) := Lib.hid ⟨rfl, rowA_one _ _⟩
  have HUR : Hid ((((w.alloc (.cells (rowA (fun _ => 0) 4) 48)).alloc (.cells (rowA (fun _ => 0) 4) 48)).alloc (.cells (rowA (fun _ => 0) 4) 48)).heap[w.heap.size]? = some (.cells (rowA (fun _ => 0) 4) 48 (0, 0))) := Lib.hid HR.out.out
  have HXR : Hid ((((w.alloc (.cells (rowA (fun _ => 0) 4) 48)).alloc (.cells (rowA (fun _ => 0) 4) 48)).alloc (.cells (rowA (fun _ => 0) 4) 48)).heap[w.heap.size + 1]? = some (.cells (rowA (fun _ => 0) 4) 48 (0, 0))) := Lib.hid HR.out.none
  have HB := Lib.hid HR.out.bel
  have hnz : (n : Int) ≤ 1099511627776 := by omega
  have HRR : Hid (∀ w' e, e = .returned (.tuple #[.agg (rowA (fun _ => 0) 4), .slice none 0 0, .int .i64 (wholeE n)]) → RDecR w' n bs e) := Lib.hid fun w' e h => .inr ⟨by rw [HE.out.1]; exact HE.out.2, by rw [HE.out.1]; exact h⟩
  clear HR
  generalize rowA (fun _ => 0) 4 = Z at *
  go_enter Try.func25, Try.ntmps25
  go_upto_region 2 with fail
  generalize World.alloc (World.alloc (World.alloc _ _) _) _ = W at *
  by_cases h : n < 512
  · have he : decide ((n : Int) < 512) = true := decide_eq_true (by omega)
    have he' : decide (n < 512) = true := decide_eq_true h
    have HWE : Hid (wholeE n = 3) := Lib.hid (if_pos h)
    clear hw h hn
    go_wp2_with (first
      | (refine wpList_load_row rfl 48 (.tmp 5) rfl (w.heap.size + 1) rfl 48 Z (0, 0) _ HXR.out Try.underlying48 rfl KX.out ?_)
      | (refine wpList_store_row rfl 48 (.tmp 2) (.tmp 14) rfl w.heap.size Z rfl rfl 48 Z HUR.out KX.out K1.out.1 K1.out.2 ?_))
    refine bodyPost_ret (results_row_tmps Try.results25 _ _ w.heap.size 48 Z (0, 0) _ rfl (setRow_heap _ _ _ _ _ _ HUR.out) Try.underlying48 rfl KX.out) rfl ?_
    exact ⟨HRR.out _ _ (by rw [HWE.out]; rfl), below_row HB.out (Nat.le_refl _) _⟩
  · have he : decide ((n : Int) < 512) = false := decide_eq_false (by omega)
    have he' : decide (n < 512) = false := decide_eq_false h
    have h2 : 512 < n := by
      unfold wholeE at hw
      rw [if_neg h] at hw
      by_cases h2 : 512 < n
      · exact h2
      · rw [if_neg h2] at hw; exact absurd rfl hw
    have he2 : decide ((512 : Int) < (n : Int)) = true := decide_eq_true (by omega)
    have he2' : decide (512 < n) = true := decide_eq_true h2
    have HWE : Hid (wholeE n = 2) := Lib.hid (by unfold wholeE; rw [if_neg h, if_pos h2])
    clear hw h h2 hn
    go_wp2_with (first
      | (refine wpList_load_row rfl 48 (.tmp 5) rfl (w.heap.size + 1) rfl 48 Z (0, 0) _ HXR.out Try.underlying48 rfl KX.out ?_)
      | (refine wpList_store_row rfl 48 (.tmp 2) (.tmp 18) rfl w.heap.size Z rfl rfl 48 Z HUR.out KX.out K1.out.1 K1.out.2 ?_))
    refine bodyPost_ret (results_row_tmps Try.results25 _ _ w.heap.size 48 Z (0, 0) _ rfl (setRow_heap _ _ _ _ _ _ HUR.out) Try.underlying48 rfl KX.out) rfl ?_
    exact ⟨HRR.out _ _ (by rw [HWE.out]; rfl), below_row HB.out (Nat.le_refl _) _⟩
end Go.Proofs.Ytamfkglkgfggaaa
