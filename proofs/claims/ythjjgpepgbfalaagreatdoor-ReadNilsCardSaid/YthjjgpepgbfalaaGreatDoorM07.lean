/- Texts RdA to RdW of this seat, laid into one. -/
import Derived.Deep.AppendLies
import Derived.Deep.RegionHeldLaw
import Derived.Shelf.SlMaps.Clone
import Derived.Lib.SliceRun
import Derived.Test.YthjjgpepgbfalaaGreatDoorM06
set_option linter.unusedVariables false
set_option linter.unusedSimpArgs false
set_option linter.constructorNameAsVariable false
section
/-! One more in a node. -/
set_option maxRecDepth 20000
set_option linter.unusedSimpArgs false
set_option linter.unusedVariables false
namespace Go.Proofs.YthjjgpepgbfalaaGreatDoor
open Go.RowKit

theorem Tryz.infoN : (Tryz.prog.info? 56).map (fun i => (i.zero, i.size, i.bytes)) = some (some (.pointer none), 1, 8) := by kernel_rfl
theorem buildNd (t : Lx.Tk) (a : Int) (w : World) : (Instr.build 74 #[(0, .agg (Lx.tkC t a))]).run Tryz.prog w = .ok (.agg #[.int .i64 (t.k : Int), .int .i64 t.n, .string ⟨t.s.toArray⟩, .int .i64 a, .slice none 0 0, .bool false, .pointer none, .int .i64 0, .int .i64 0]) w := run_build w _ _ _ (by kernel_rfl)
/-- What add tells, and what it makes of the nodes. -/
def AddR (w w' : World) (S : Nat → Nat) (V : Nat → Value) (A : List Nd) (i : Nat) (t : Lx.Tk) (a : Nat) (e : Ending) : Prop :=
  ∃ b V', e = .returned (.pointer (some ⟨b, 0, none⟩)) ∧ Nds w' (upd S A.length b) V' (addN A i t a) ∧ Chp (footN S V A.length) (footN (upd S A.length b) V' (A.length + 1)) w w' ∧ w.heap.size ≤ b
section
variable {w w' : World} {S : Nat → Nat} {V : Nat → Value} {A : List Nd}
/-- The new node and the longer row, in memory. -/
theorem Nds.added {w3 w4 : World} (h : Nds w S V A) (hA : A.length ≤ 30000) {i : Nat} (hi : i < A.length) {t : Lx.Tk} {a b : Nat} (ht : TkOk t) (ha : a ≤ 100000) {v' : Value}
    (hb : w.heap.size ≤ b) (h3 : Below w.heap.size w w3) (hx : w3.heap[b]? = some (.cells (ndC S { nd0 with t := t, a := a } (.slice none 0 0)) 74 (0, 0)))
    (hg : w3.grownBy w4 (V i).ownBlock) (hv : ∀ k, v'.ownBlock = some k → (V i).ownBlock = some k ∨ w.heap.size ≤ k) (hvb : ∀ k, v'.ownBlock = some k → k ≠ b)
    (hr : w4.ownsRow 0 56 1 v' ((ndAt A i).is.length + 1) (ptrsN S (ndAt A i).is ++ [.pointer (some ⟨b, 0, none⟩)])) :
    Nds (w4.setCell ⟨S i, 4, none⟩ v') (upd S A.length b) (upd (upd V A.length (.slice none 0 0)) i v') (addN A i t a) ∧
    Chp (footN S V A.length) (footN (upd S A.length b) (upd (upd V A.length (.slice none 0 0)) i v') (A.length + 1)) w (w4.setCell ⟨S i, 4, none⟩ v') := by
  have hsi := lt_of_block (h.hd i hi)
  have h3k : ∀ k, k < w.heap.size → (V i).ownBlock ≠ some k → w4.heap[k]? = w.heap[k]? := fun k hk hne =>
    (hg.block k (Nat.lt_of_lt_of_le hk h3.size) (fun e => hne e.symm)).trans (h3.block k hk)
  have hn3 := h.below (h3.mono (Nat.le_refl _))
  have hnb : ¬ footN S V A.length b := fun e => by have := h.lt _ e; omega
  have hs1 := h.snoc { nd0 with t := t, a := a } b rfl rfl hx hnb (fun k hk => h3.block k (h.lt k hk)) ⟨ht, ha, (by unfold I64; decide : I64 0), (by unfold I64; decide : I64 0)⟩
  have hat1 : ndAt (A ++ [{ nd0 with t := t, a := a }]) i = ndAt A i := by
    unfold ndAt; rw [List.getD_eq_getElem?_getD, List.getD_eq_getElem?_getD, List.getElem?_append_left hi]
  have hui : upd S A.length b i = S i := upd_other _ _ (by omega)
  have huv : upd V A.length (.slice none 0 0) i = V i := upd_other _ _ (by omega)
  have hor := h.ord i hi
  have hdn : w4.heap[S i]? = some (.cells (ndC S (ndAt A i) (V i)) 74 (0, 0)) := (h3k _ hsi fun e => h.ne hi hi e rfl).trans (h.hd i hi)
  have hvs : ∀ k, v'.ownBlock = some k → k ≠ S i := fun k hk e => by
    obtain ⟨cur, hc⟩ := own_head hr hk
    subst e
    exact ne_of_ty hdn hc (by decide) rfl
  have hpt : ptrsN (upd S A.length b) ((ndAt A i).is ++ [A.length]) = ptrsN S (ndAt A i).is ++ [.pointer (some ⟨b, 0, none⟩)] := by
    rw [ptrsN_append, ptrsN_congr (S := upd S A.length b) (T := S) fun j hj => upd_other _ _ (by have := (hor.1 j hj).2; omega)]
    show _ ++ [ptrN _ _] = _
    unfold ptrN; rw [upd_same]
  have hput := hs1.put (w' := w4.setCell ⟨S i, 4, none⟩ v') (i := i) (by simp; omega) { ndAt A i with is := (ndAt A i).is ++ [A.length] } v' ?_ ?_ ?_ ?_ ?_ ?_ ?_
  · refine ⟨?_, ?_⟩
    · unfold addN
      rw [List.set_append_left _ _ hi] at hput
      exact hput
    · refine ⟨hg.os.trans h3.os, hg.tape.trans h3.tape, hg.output.trans h3.output, by simpa using Nat.le_trans h3.size hg.size, fun k hk hf => ?_, fun k hk => ?_⟩
      · have n1 : k ≠ S i := fun e => hf ⟨i, hi, .inl e⟩
        exact (heap_setCell_other _ _ _ _ n1).trans (h3k k hk fun e => hf ⟨i, hi, .inr e⟩)
      · have h1 := footN_upd (w := w) (S := upd S A.length b) (V := upd V A.length (.slice none 0 0)) (v := v') (i := i) (n := A.length + 1) (by rw [huv]; exact hv) k hk
        rcases h1 with h1 | h1
        · exact footN_snoc (w := w) hb k h1
        · exact .inr h1
  · rw [hui]
    have := heap_setCell_same w4 _ 4 _ _ v' hdn
    rw [this]
    have e1 : ndC (upd S A.length b) { ndAt A i with is := (ndAt A i).is ++ [A.length] } v' = ndC S { ndAt A i with is := (ndAt A i).is ++ [A.length] } v' := ndC_congr fun j hj => upd_other _ _ (by have := hor.2 j hj; omega)
    rw [e1]; rfl
  · show World.ownsRow _ 0 56 1 v' ((ndAt A i).is ++ [A.length]).length (ptrsN (upd S A.length b) ((ndAt A i).is ++ [A.length]))
    rw [hpt, List.length_append]
    exact own_other hr fun k hk => heap_setCell_other _ _ _ _ (hvs k hk)
  · intro k hk n1 n2
    rw [hui] at n1
    rw [huv] at n2
    rw [List.length_append] at hk
    refine (heap_setCell_other _ _ _ _ n1).trans (hg.block k (hs1.lt k (by rw [List.length_append]; exact hk)) fun e => n2 e.symm)
  · intro k hk
    rw [huv]
    rcases hv k hk with h1 | h1
    · exact .inl h1
    · refine .inr fun hf => ?_
      rw [List.length_append] at hf
      rcases footN_snoc (w := w) (S := S) (V := V) hb k hf with h2 | h2
      · have := h.lt k h2; omega
      · obtain ⟨j, hj, e | e⟩ := hf
        · by_cases e2 : j = A.length
          · subst e2; rw [upd_same] at e; exact hvb k hk e
          · rw [upd_other _ _ e2] at e
            have := lt_of_block (h.hd j (by simp at hj; omega)); omega
        · by_cases e2 : j = A.length
          · subst e2; rw [upd_same] at e; simp [Value.ownBlock] at e
          · rw [upd_other _ _ e2] at e
            have := own_lt (h.row j (by simp at hj; omega)) e; omega
  · refine ⟨fun j hj => ?_, fun j hj => ?_⟩
    · rw [List.length_append]
      rcases List.mem_append.1 hj with hj | hj
      · have := hor.1 j hj; simp; omega
      · simp at hj; subst hj; simp; omega
    · have := hor.2 j hj; rw [List.length_append]; omega
  · have := h.len i hi; simp; omega
  · exact h.tk i hi
set_option maxHeartbeats 1600000 in
theorem Nds.addItem (h : Nds w S V A) (hA : A.length ≤ 30000) {i : Nat} (hi : i < A.length) (t : Lx.Tk) (a : Nat) (ht : TkOk t) (ha : a ≤ 100000) :
    Calls Tryz.prog 69 #[.pointer (some ⟨S i, 0, none⟩), .agg (Lx.tkC t (a : Int))] w fun e w' => AddR w w' S V A i t a e := by
  obtain ⟨⟨c0, c1, c2, c3⟩, ⟨c4, c5, c6⟩, c7, c8, fz⟩ := h.cells hi
  have hf4 := fz 4
  have hsi := lt_of_block (h.hd i hi)
  have hlen := h.len i hi
  have HROW := Lib.hid (h.row i hi)
  have HNE := Lib.hid (fun k e => h.ne hi (j := i) (k := k) hi e)
  have HADD := Lib.hid (fun w3 w4 b v' h1 h2 h3 h4 h5 h6 h7 => h.added (w3 := w3) (w4 := w4) hA hi (t := t) (a := a) (b := b) ht ha (v' := v') h1 h2 h3 h4 h5 h6 h7)
  obtain ⟨i0, hi0, hz0, hz1, hz2⟩ := info_parts Tryz.infoN
  have HI0 := Lib.hid hi0
  have HZ0 := Lib.hid hz0
  have HZ1 := Lib.hid hz1
  have HZ2 := Lib.hid hz2
  obtain ⟨q, cp, e⟩ := h.form hi
  rw [e] at c4 HROW HNE HADD
  have hbn := buildNd t (a : Int)
  obtain ⟨k, n, s⟩ := t
  unfold Lx.tkC at hbn ⊢
  obtain ⟨N, hN⟩ : ∃ N, (ndAt A i).is.length = N := ⟨_, rfl⟩
  rw [hN] at c4 HROW HNE HADD hlen
  obtain ⟨W3, hW3⟩ : ∃ W3, W3 = ((w.alloc (.cells #[.int .i64 (k : Int), .int .i64 n, .string ⟨s.toArray⟩, .int .i64 (a : Int)] 71)).alloc (.cells #[.int .i64 (k : Int), .int .i64 n, .string ⟨s.toArray⟩, .int .i64 (a : Int), .slice none 0 0, .bool false, .pointer none, .int .i64 0, .int .i64 0] 74)).alloc (.cells #[.pointer (some ⟨w.heap.size + 1, 0, none⟩)] 56) := ⟨_, rfl⟩
  have hB3 : Below w.heap.size w W3 := by rw [hW3]; exact (((Below.refl _ _).alloc (Nat.le_refl _) _).alloc (by simp) _).alloc (by simp; omega) _
  have hs3 : W3.heap.size = w.heap.size + 3 := by rw [hW3]; simp
  have hx3 : W3.heap[w.heap.size + 1]? = some (.cells #[.int .i64 (k : Int), .int .i64 n, .string ⟨s.toArray⟩, .int .i64 (a : Int), .slice none 0 0, .bool false, .pointer none, .int .i64 0, .int .i64 0] 74 (0, 0)) := by
    rw [hW3]
    refine (Below.heap_alloc _ _ _ (by simp)).trans ?_
    have := heap_alloc_new (w.alloc (.cells #[.int .i64 (k : Int), .int .i64 n, .string ⟨s.toArray⟩, .int .i64 (a : Int)] 71)) (.cells #[.int .i64 (k : Int), .int .i64 n, .string ⟨s.toArray⟩, .int .i64 (a : Int), .slice none 0 0, .bool false, .pointer none, .int .i64 0, .int .i64 0] 74)
    rw [World.size_alloc] at this; exact this
  have hc3 : ∀ j u, [Value.pointer (some ⟨w.heap.size + 1, 0, none⟩)][j]? = some u → W3.cell? ((⟨w.heap.size + 2, 0, none⟩ : Addr).add j) = some u := by
    have h2 : ((w.alloc (.cells #[.int .i64 (k : Int), .int .i64 n, .string ⟨s.toArray⟩, .int .i64 (a : Int)] 71)).alloc (.cells #[.int .i64 (k : Int), .int .i64 n, .string ⟨s.toArray⟩, .int .i64 (a : Int), .slice none 0 0, .bool false, .pointer none, .int .i64 0, .int .i64 0] 74)).heap.size = w.heap.size + 2 := by simp
    have := cell_one_new ((w.alloc (.cells #[.int .i64 (k : Int), .int .i64 n, .string ⟨s.toArray⟩, .int .i64 (a : Int)] 71)).alloc (.cells #[.int .i64 (k : Int), .int .i64 n, .string ⟨s.toArray⟩, .int .i64 (a : Int), .slice none 0 0, .bool false, .pointer none, .int .i64 0, .int .i64 0] 74)) (.pointer (some ⟨w.heap.size + 1, 0, none⟩)) 56
    rw [h2] at this
    rw [hW3]; exact this
  have HR3 := Lib.hid (own_other HROW.out fun k hk => hB3.block k (own_lt HROW.out hk))
  have H1S : Hid (∀ u ∈ [Value.pointer (some ⟨w.heap.size + 1, 0, none⟩)], u.oneCell' = true) := Lib.hid (by simp [Value.oneCell'])
  have H63 : Hid (N + 1 ≤ maxLen) := Lib.hid (by unfold maxLen; omega)
  have HB3 := Lib.hid hB3
  have HX3 := Lib.hid hx3
  have HC3 := Lib.hid hc3
  have hz3 : w.heap.size + 2 < W3.heap.size := by omega
  clear h hi0 hz0 hz1 hz2 fz e hN c0 c1 c2 c3 c5 c6 c7 c8 hB3 hx3 hc3
  go_enter Tryz.func69, Tryz.ntmps69
  go_upto_region 2 with fail
  go_wp2_with (at_builtin; go_loud (rw [← hW3]; refine wpList_append_lies _ rfl (.tmp 13) (.tmp 15) 72 rfl 0 56 i0 (.pointer none) 1 8 Tryz.underlying72 HI0.out HZ0.out HZ1.out HZ2.out rfl (by decide) (.slice q N cp) N (ptrsN S (ndAt A i).is) (by rfl) HR3.out ⟨w.heap.size + 2, 0, none⟩ 1 1 [.pointer (some ⟨w.heap.size + 1, 0, none⟩)] (by rfl) rfl HC3.out H1S.out (by omega) H63.out (by omega) (Nat.zero_le _) (w.heap.size + 3) hs3 ?_; intro gN cap w4 hown hgrow hat hlt4; have y0 := (hgrow.cell_far ⟨S i, 4, none⟩ (by show S i < _; omega) (fun e => HNE.out _ e.symm rfl)).trans ((HB3.out.cell hsi).trans c4); have z0 := (hgrow.frozen_far ⟨S i, 4, none⟩ (by show S i < _; omega) (fun e => HNE.out _ e.symm rfl)).trans ((HB3.out.frozen hsi).trans hf4)))
  go_ret
  have hv1 : ∀ k2, (Value.slice (some ⟨gN, 0, none⟩) (N + 1) cap).ownBlock = some k2 → (Value.slice q N cp).ownBlock = some k2 ∨ w.heap.size ≤ k2 := by
    intro k2 hk2
    cases hk2
    rcases hat with e | e
    · exact .inl e
    · exact .inr (by show w.heap.size ≤ gN; omega)
  have hv2 : ∀ k2, (Value.slice (some ⟨gN, 0, none⟩) (N + 1) cap).ownBlock = some k2 → k2 ≠ w.heap.size + 1 := by
    intro k2 hk2
    cases hk2
    rcases hat with e | e
    · have := own_lt HROW.out e
      show gN ≠ _; omega
    · show gN ≠ _; omega
  obtain ⟨h1, h2⟩ := HADD.out W3 w4 (w.heap.size + 1) (.slice (some ⟨gN, 0, none⟩) (N + 1) cap) (by omega) HB3.out HX3.out hgrow hv1 hv2 hown
  exact ⟨_, _, rfl, h1, h2, by omega⟩
end
end Go.Proofs.YthjjgpepgbfalaaGreatDoor
end
section
/-! What is wrong with the next token. -/
set_option maxRecDepth 20000
set_option linter.unusedSimpArgs false
set_option linter.unusedVariables false
namespace Go.Proofs.YthjjgpepgbfalaaGreatDoor
open Go.RowKit

theorem castEq (a b : Nat) : ((a : Int) == (b : Int)) = decide (a = b) := by
  by_cases e : a = b
  · rw [decide_eq_true e, e]; exact beq_self_eq_true _
  · rw [decide_eq_false e]; exact beq_eq_false_iff_ne.2 (by omega)
theorem castLe (a b : Nat) : decide ((a : Int) ≤ (b : Int)) = decide (a ≤ b) := by
  by_cases e : a ≤ b
  · rw [decide_eq_true e]; exact decide_eq_true (by omega)
  · rw [decide_eq_false e]; exact decide_eq_false (by omega)
theorem faultCases : ∀ (bBeg b3 bBy b16 los sos b15 bFull b64 bHol : Bool), (b16 = true → b15 = false) → (sos = true → los = true) → ((bBeg = false) ∨ (bBeg = true ∧ b3 = true ∧ bBy = false) ∨ (bBeg = true ∧ b3 = false ∧ b16 = true ∧ los = false) ∨ (bBeg = true ∧ b3 = false ∧ b16 = true ∧ los = true ∧ sos = false) ∨ (bBeg = true ∧ b3 = false ∧ b16 = false ∧ b15 = true ∧ los = true) ∨ (bBeg = true ∧ b3 = false ∧ b16 = true ∧ los = true ∧ sos = true ∧ b15 = false ∧ bFull = true) ∨ (bBeg = true ∧ b3 = false ∧ b16 = true ∧ los = true ∧ sos = true ∧ b15 = false ∧ bFull = false ∧ b64 = true ∧ bHol = true) ∨ (bBeg = true ∧ b3 = false ∧ b16 = true ∧ los = true ∧ sos = true ∧ b15 = false ∧ bFull = false ∧ b64 = true ∧ bHol = false) ∨ (bBeg = true ∧ b3 = false ∧ b16 = true ∧ los = true ∧ sos = true ∧ b15 = false ∧ bFull = false ∧ b64 = false) ∨ (bBeg = true ∧ b3 = false ∧ b16 = false ∧ b15 = true ∧ los = false ∧ bFull = true) ∨ (bBeg = true ∧ b3 = false ∧ b16 = false ∧ b15 = true ∧ los = false ∧ bFull = false ∧ b64 = true ∧ bHol = true) ∨ (bBeg = true ∧ b3 = false ∧ b16 = false ∧ b15 = true ∧ los = false ∧ bFull = false ∧ b64 = true ∧ bHol = false) ∨ (bBeg = true ∧ b3 = false ∧ b16 = false ∧ b15 = true ∧ los = false ∧ bFull = false ∧ b64 = false) ∨ (bBeg = true ∧ b3 = false ∧ b16 = false ∧ b15 = false ∧ bFull = true) ∨ (bBeg = true ∧ b3 = false ∧ b16 = false ∧ b15 = false ∧ bFull = false ∧ b64 = true ∧ bHol = true) ∨ (bBeg = true ∧ b3 = false ∧ b16 = false ∧ b15 = false ∧ bFull = false ∧ b64 = true ∧ bHol = false) ∨ (bBeg = true ∧ b3 = false ∧ b16 = false ∧ b15 = false ∧ bFull = false ∧ b64 = false) ∨ (bBeg = true ∧ b3 = true ∧ bBy = true ∧ b16 = true ∧ los = false) ∨ (bBeg = true ∧ b3 = true ∧ bBy = true ∧ b16 = true ∧ los = true ∧ sos = false) ∨ (bBeg = true ∧ b3 = true ∧ bBy = true ∧ b16 = false ∧ b15 = true ∧ los = true) ∨ (bBeg = true ∧ b3 = true ∧ bBy = true ∧ b16 = true ∧ los = true ∧ sos = true ∧ b15 = false ∧ bFull = true) ∨ (bBeg = true ∧ b3 = true ∧ bBy = true ∧ b16 = true ∧ los = true ∧ sos = true ∧ b15 = false ∧ bFull = false ∧ b64 = true ∧ bHol = true) ∨ (bBeg = true ∧ b3 = true ∧ bBy = true ∧ b16 = true ∧ los = true ∧ sos = true ∧ b15 = false ∧ bFull = false ∧ b64 = true ∧ bHol = false) ∨ (bBeg = true ∧ b3 = true ∧ bBy = true ∧ b16 = true ∧ los = true ∧ sos = true ∧ b15 = false ∧ bFull = false ∧ b64 = false) ∨ (bBeg = true ∧ b3 = true ∧ bBy = true ∧ b16 = false ∧ b15 = true ∧ los = false ∧ bFull = true) ∨ (bBeg = true ∧ b3 = true ∧ bBy = true ∧ b16 = false ∧ b15 = true ∧ los = false ∧ bFull = false ∧ b64 = true ∧ bHol = true) ∨ (bBeg = true ∧ b3 = true ∧ bBy = true ∧ b16 = false ∧ b15 = true ∧ los = false ∧ bFull = false ∧ b64 = true ∧ bHol = false) ∨ (bBeg = true ∧ b3 = true ∧ bBy = true ∧ b16 = false ∧ b15 = true ∧ los = false ∧ bFull = false ∧ b64 = false) ∨ (bBeg = true ∧ b3 = true ∧ bBy = true ∧ b16 = false ∧ b15 = false ∧ bFull = true) ∨ (bBeg = true ∧ b3 = true ∧ bBy = true ∧ b16 = false ∧ b15 = false ∧ bFull = false ∧ b64 = true ∧ bHol = true) ∨ (bBeg = true ∧ b3 = true ∧ bBy = true ∧ b16 = false ∧ b15 = false ∧ bFull = false ∧ b64 = true ∧ bHol = false) ∨ (bBeg = true ∧ b3 = true ∧ bBy = true ∧ b16 = false ∧ b15 = false ∧ bFull = false ∧ b64 = false)) := by
  intro bBeg b3 bBy b16 los sos b15 bFull b64 bHol h1 h2
  cases bBeg <;> try simp
  cases b3 <;> try simp
  all_goals cases b16 <;> (try simp at h1) <;> (try subst h1) <;> try simp
  all_goals (try cases bBy) <;> try simp
  all_goals (try cases los) <;> (try simp at h2) <;> (try subst h2) <;> try simp
  all_goals (try cases sos) <;> try simp
  all_goals (try cases b15) <;> try simp
  all_goals (try cases bFull) <;> try simp
  all_goals (try cases b64) <;> try simp
  all_goals (try cases bHol) <;> try simp
section
variable {w w' w2 : World} {p sz tb dp lb : Nat} {S : Nat → Nat} {V : Nat → Value} {σ σ' σ2 : Ps} {A : List Nd}
/-- What a fault is, by its conditions. -/
def faultB (beg c3 by_ k16 some_ st k15 full d64 hol : Bool) : Int :=
  if (!beg || (c3 && !by_)) = true then 4 else if (k16 && !some_) = true then 5 else if (k16 && !st) = true then 4 else if (k15 && some_) = true then 6 else if (full || (d64 && hol)) = true then 2 else 0
/-- What is looked into. -/
structure FltX (w : World) (p i : Nat) (S : Nat → Nat) (V : Nat → Value) (dp lb tb o nn cc : Nat) (x : Lx.Tk × Nat) (nk : Nat) (lo so : Option Nat) (by_ full hol : Bool) : Prop where
  c0 : w.cell? ⟨p, 0, none⟩ = some (.slice (some ⟨tb, o, none⟩) nn cc)
  c2 : w.cell? ⟨p, 2, none⟩ = some (.map (some lb))
  c3 : w.cell? ⟨p, 3, none⟩ = some (.int .i64 (dp : Int))
  tk : TkAt w tb o x
  nk : w.cell? ⟨S i, 0, none⟩ = some (.int .i64 (nk : Int))
  look : (Instr.lookup 109 (.map (some lb)) (.int .i64 x.1.n) true).run Tryz.prog w = .ok (.tuple #[ptrO S lo, .bool lo.isSome]) w
  st : ∀ j, lo = some j → Calls Tryz.prog 34 #[.pointer (some ⟨S j, 0, none⟩)] w fun e w' => e = .returned (ptrO S so) ∧ w = w'
  full : Calls Tryz.prog 98 #[.pointer (some ⟨S i, 0, none⟩)] w fun e w' => e = .returned (.bool full) ∧ w = w'
theorem Pm.fltX (h : Pm w p sz tb dp S V lb σ) {i : Nat} (hi : i < σ.A.length) {x : Lx.Tk × Nat} {l : List (Lx.Tk × Nat)} (hts : σ.ts = x :: l) :
    ∃ o cc, ∀ u, Below w.heap.size w u → FltX u p i S V dp lb tb o (l.length + 1) cc x (ndAt σ.A i).t.k (σ.lab x.1.n) ((σ.lab x.1.n).bind (stands σ.A)) (isByteM x.1) (fullM (ndAt σ.A i)) (holds x.1.k) := by
  obtain ⟨v, ht, ⟨c0, c1, c2⟩, ⟨c3, c4, c5⟩, fz, hrow⟩ := h.cells
  have hrm := h.room
  rw [hts] at ht
  obtain ⟨o, c, rfl, hc, hx, _⟩ := ht.head
  obtain ⟨⟨n0, n1, n2, n3⟩, -⟩ := h.nds.cells hi
  refine ⟨o, c + 1, fun u hu => ?_⟩
  have hcl : ∀ (a : Addr) (v : Value), w.cell? a = some v → u.cell? a = some v := fun a v hv => (hu.cell (World.block_lt_of_cell? w a hv)).trans hv
  have hh := h.below hu
  refine ⟨hcl _ _ c0, hcl _ _ c2, hcl _ _ c3, ⟨hcl _ _ hx.k, hcl _ _ hx.n, hcl _ _ hx.s, hcl _ _ hx.a⟩, hcl _ _ n0, ?_, fun j hj => ?_, hh.nds.full (by omega) hi⟩
  · have := hh.lab.look (labT S) x.1.n (h.tks x (by rw [hts]; exact List.mem_cons_self ..)).1.n
    unfold intV at this
    rw [this]
    cases σ.lab x.1.n <;> rfl
  · have := hh.nds.stands (by omega) (σ.A.length) j (h.labIn _ _ hj) (by omega)
    rw [hj]
    exact this
set_option maxHeartbeats 4000000 in
theorem Pm.fault (h : Pm w p sz tb dp S V lb σ) {i : Nat} (hi : i < σ.A.length) :
    Calls Tryz.prog 67 #[.pointer (some ⟨p, 0, none⟩), .pointer (some ⟨S i, 0, none⟩)] w fun e w' => e = .returned (.int .i64 (faultM dp σ i)) ∧ Below w.heap.size w w' := by
  obtain ⟨R, hR⟩ : ∃ R, faultM dp σ i = R := ⟨_, rfl⟩
  rw [hR]
  unfold faultM at hR
  cases hts : σ.ts with
  | nil =>
    obtain ⟨v, ht, ⟨c0, c1, c2⟩, _⟩ := h.cells
    rw [hts] at ht hR
    subst hR
    obtain ⟨q, c, rfl⟩ := ht.nil_
    clear h hts ht
    go_enter Tryz.func67, Tryz.ntmps67
    go_wp2_with fail
    go_ret
    exact ⟨rfl, Below.refl _ _⟩
  | cons x l =>
    rw [hts] at hR
    obtain ⟨o, cc, hX⟩ := h.fltX hi hts
    have hrm := h.room
    have hdp := h.dpl
    have hl : l.length ≤ 20000 := by rw [hts] at hrm; simp at hrm; omega
    have htk := (h.tks x (by rw [hts]; exact List.mem_cons_self ..)).1.k
    have d0 : (((l.length + 1 : Nat) : Int) == 0) = false := by simp; omega
    have hlI : (0 : Int) < ((l.length + 1 : Nat) : Int) := by omega
    have hR2 : faultB (begins x.1.k) (decide ((ndAt σ.A i).t.k = 3)) (isByteM x.1) (decide (x.1.k = 16)) (σ.lab x.1.n).isSome ((σ.lab x.1.n).bind (stands σ.A)).isSome (decide (x.1.k = 15)) (fullM (ndAt σ.A i)) (decide (64 ≤ dp)) (holds x.1.k) = R := hR
    have HX := Lib.hid hX
    have HBG : Hid (∀ u, Calls Tryz.prog 96 #[.int .i64 (x.1.k : Int)] u fun e w' => e = .returned (.bool (begins x.1.k)) ∧ u = w') := Lib.hid (begins_any _ htk)
    have HHO : Hid (∀ u, Calls Tryz.prog 99 #[.int .i64 (x.1.k : Int)] u fun e w' => e = .returned (.bool (holds x.1.k)) ∧ u = w') := Lib.hid (holds_any _ htk)
    have HBY : Hid (∀ u, Calls Tryz.prog 97 #[.agg (Lx.tkC x.1 (x.2 : Int))] u fun e w' => e = .returned (.bool (isByteM x.1)) ∧ Below u.heap.size u w') := Lib.hid (isByte_any _ _)
    generalize σ.lab x.1.n = lo at *
    have hso : lo = none → lo.bind (stands σ.A) = none := fun e => by rw [e]; rfl
    generalize lo.bind (stands σ.A) = so at *
    have d16 : ((x.1.k : Int) == 16) = decide (x.1.k = 16) := castEq _ 16
    have d15 : ((x.1.k : Int) == 15) = decide (x.1.k = 15) := castEq _ 15
    have d3 : (((ndAt σ.A i).t.k : Int) == 3) = decide ((ndAt σ.A i).t.k = 3) := castEq _ 3
    have d64 : decide ((64 : Int) ≤ (dp : Int)) = decide (64 ≤ dp) := castLe 64 _
    generalize begins x.1.k = bBeg at *
    generalize holds x.1.k = bHol at *
    generalize isByteM x.1 = bBy at *
    generalize fullM (ndAt σ.A i) = bFull at *
    generalize (ndAt σ.A i).t.k = nk at *
    generalize hd16 : decide (x.1.k = 16) = b16 at *
    generalize hd15 : decide (x.1.k = 15) = b15 at *
    generalize hd3 : decide (nk = 3) = b3 at *
    generalize hd64 : decide (64 ≤ dp) = b64 at *
    obtain ⟨⟨k, n, s⟩, a⟩ := x
    unfold Lx.tkC at HBY
    simp only at *
    generalize hN : l.length + 1 = N at *
    clear h hi hts hrm hdp hl htk hX hR hN hd3
    have hB0 : Below w.heap.size w (w.alloc (.cells #[.int .i64 (k : Int), .int .i64 n, .string ⟨s.toArray⟩, .int .i64 (a : Int)] 71)) := (Below.refl _ _).alloc (Nat.le_refl _) _
    have hx0 : (w.alloc (.cells #[.int .i64 (k : Int), .int .i64 n, .string ⟨s.toArray⟩, .int .i64 (a : Int)] 71)).heap[w.heap.size]? = some (.cells #[.int .i64 (k : Int), .int .i64 n, .string ⟨s.toArray⟩, .int .i64 (a : Int)] 71 (0, 0)) := heap_alloc_new _ _
    have HB0 := Lib.hid hB0
    have HX0 := Lib.hid hx0
    clear hB0 hx0
    obtain ⟨f0, f2, f3, ⟨f4, f5, f6, f7⟩, f8, f9, f10, f11⟩ := HX.out w (Below.refl _ _)
    simp only at f4 f5 f6 f7 f9
    go_enter Tryz.func67, Tryz.ntmps67
    go_upto_region 4 with fail
    generalize w.alloc (.cells #[.int .i64 (k : Int), .int .i64 n, .string ⟨s.toArray⟩, .int .i64 (a : Int)] 71) = w1 at *
    clear f0 f2 f3 f4 f5 f6 f7 f8 f9 f10 f11
    have x0 := cell_of_row _ _ 0 _ _ _ HX0.out
    have x1 := cell_of_row _ _ 1 _ _ _ HX0.out
    simp at x0 x1
    obtain ⟨f0, f2, f3, ⟨f4, f5, f6, f7⟩, f8, f9, f10, f11⟩ := HX.out w1 HB0.out
    have f9d := (HX.out w1.drew HB0.out.drew).look
    simp only at f9 f9d
    go_region
    have HB2 : Hid (Below w.heap.size w w1.drew) := Lib.hid HB0.out.drew
    have HX2 : Hid (w1.drew.heap[w.heap.size]? = some (.cells #[.int .i64 (k : Int), .int .i64 n, .string ⟨s.toArray⟩, .int .i64 (a : Int)] 71 (0, 0))) := Lib.hid HX0.out
    clear f0 f2 f3 f4 f5 f6 f7 f8 f9 f9d f10 f11 x0 x1
    generalize w1.drew = w2 at *
    have x0 := cell_of_row _ _ 0 _ _ _ HX2.out
    have x1 := cell_of_row _ _ 1 _ _ _ HX2.out
    have x2 := cell_of_row _ _ 2 _ _ _ HX2.out
    have x3 := cell_of_row _ _ 3 _ _ _ HX2.out
    simp at x0 x1 x2 x3
    obtain ⟨f0, f2, f3, f4, f8, f9, f10, f11⟩ := HX.out w2 HB2.out
    clear HX0 HB0 f4 f9
    have HNN : Hid (b16 = true → b15 = false) := Lib.hid (fun e => by rw [← hd16] at e; rw [← hd15]; have := of_decide_eq_true e; exact decide_eq_false (by omega))
    clear hd15 hd16 hd64
    cases lo with
    | none =>
      obtain rfl := hso rfl
      clear hso
      simp only [ptrO, Option.map_none, Option.isSome_none] at *
      rcases faultCases bBeg b3 bBy b16 false false b15 bFull b64 bHol HNN.out (by simp) with rfl | ⟨rfl, rfl, rfl⟩ | ⟨rfl, rfl, rfl, -⟩ | ⟨rfl, rfl, rfl, ⟨⟩, -⟩ | ⟨rfl, rfl, rfl, rfl, ⟨⟩⟩ | ⟨rfl, rfl, rfl, ⟨⟩, ⟨⟩, rfl, rfl⟩ | ⟨rfl, rfl, rfl, ⟨⟩, ⟨⟩, rfl, rfl, rfl, rfl⟩ | ⟨rfl, rfl, rfl, ⟨⟩, ⟨⟩, rfl, rfl, rfl, rfl⟩ | ⟨rfl, rfl, rfl, ⟨⟩, ⟨⟩, rfl, rfl, rfl⟩ | ⟨rfl, rfl, rfl, rfl, -, rfl⟩ | ⟨rfl, rfl, rfl, rfl, -, rfl, rfl, rfl⟩ | ⟨rfl, rfl, rfl, rfl, -, rfl, rfl, rfl⟩ | ⟨rfl, rfl, rfl, rfl, -, rfl, rfl⟩ | ⟨rfl, rfl, rfl, rfl, rfl⟩ | ⟨rfl, rfl, rfl, rfl, rfl, rfl, rfl⟩ | ⟨rfl, rfl, rfl, rfl, rfl, rfl, rfl⟩ | ⟨rfl, rfl, rfl, rfl, rfl, rfl⟩ | ⟨rfl, rfl, rfl, rfl, -⟩ | ⟨rfl, rfl, rfl, rfl, ⟨⟩, -⟩ | ⟨rfl, rfl, rfl, rfl, rfl, ⟨⟩⟩ | ⟨rfl, rfl, rfl, rfl, ⟨⟩, ⟨⟩, rfl, rfl⟩ | ⟨rfl, rfl, rfl, rfl, ⟨⟩, ⟨⟩, rfl, rfl, rfl, rfl⟩ | ⟨rfl, rfl, rfl, rfl, ⟨⟩, ⟨⟩, rfl, rfl, rfl, rfl⟩ | ⟨rfl, rfl, rfl, rfl, ⟨⟩, ⟨⟩, rfl, rfl, rfl⟩ | ⟨rfl, rfl, rfl, rfl, rfl, -, rfl⟩ | ⟨rfl, rfl, rfl, rfl, rfl, -, rfl, rfl, rfl⟩ | ⟨rfl, rfl, rfl, rfl, rfl, -, rfl, rfl, rfl⟩ | ⟨rfl, rfl, rfl, rfl, rfl, -, rfl, rfl⟩ | ⟨rfl, rfl, rfl, rfl, rfl, rfl⟩ | ⟨rfl, rfl, rfl, rfl, rfl, rfl, rfl, rfl⟩ | ⟨rfl, rfl, rfl, rfl, rfl, rfl, rfl, rfl⟩ | ⟨rfl, rfl, rfl, rfl, rfl, rfl, rfl⟩
      all_goals
        simp [faultB] at hR2
        subst hR2
        go_wp2_with (first
            | (go_at_call 96; with_reducible refine (HBG.out _).mono ?_; rintro e w3 ⟨rfl, rfl⟩)
            | (go_at_call 97; with_reducible refine (HBY.out _).mono ?_; rintro e w3 ⟨rfl, hb3⟩; have HB3 := Lib.hid (HB2.out.trans (hb3.mono HB2.out.size)); have hx3 := (hb3.block _ (lt_of_block HX2.out)).trans HX2.out; have y0 := cell_of_row _ _ 0 _ _ _ hx3; have y1 := cell_of_row _ _ 1 _ _ _ hx3; simp at y0 y1; obtain ⟨g0, g2, g3, g4, g8, g9, g10, g11⟩ := HX.out w3 HB3.out; (try simp only [ptrO, Option.map_some, Option.map_none] at g10))
            | (go_at_call 34; first | (with_reducible refine (g10 _ rfl).mono ?_; rintro e w4 ⟨rfl, rfl⟩) | (with_reducible refine (f10 _ rfl).mono ?_; rintro e w4 ⟨rfl, rfl⟩))
            | (go_at_call 98; first | (with_reducible refine g11.mono ?_; rintro e w4 ⟨rfl, rfl⟩) | (with_reducible refine f11.mono ?_; rintro e w4 ⟨rfl, rfl⟩))
            | (go_at_call 99; with_reducible refine (HHO.out _).mono ?_; rintro e w4 ⟨rfl, rfl⟩))
        go_ret
        first | exact ⟨rfl, HB3.out⟩ | exact ⟨rfl, HB2.out⟩
    | some j =>
      clear hso
      cases so with
      | none =>
        simp only [ptrO, Option.map_some, Option.map_none, Option.isSome_none, Option.isSome_some] at *
        rcases faultCases bBeg b3 bBy b16 true false b15 bFull b64 bHol HNN.out (by simp) with rfl | ⟨rfl, rfl, rfl⟩ | ⟨rfl, rfl, rfl, ⟨⟩⟩ | ⟨rfl, rfl, rfl, -, -⟩ | ⟨rfl, rfl, rfl, rfl, -⟩ | ⟨rfl, rfl, rfl, -, ⟨⟩, rfl, rfl⟩ | ⟨rfl, rfl, rfl, -, ⟨⟩, rfl, rfl, rfl, rfl⟩ | ⟨rfl, rfl, rfl, -, ⟨⟩, rfl, rfl, rfl, rfl⟩ | ⟨rfl, rfl, rfl, -, ⟨⟩, rfl, rfl, rfl⟩ | ⟨rfl, rfl, rfl, rfl, ⟨⟩, rfl⟩ | ⟨rfl, rfl, rfl, rfl, ⟨⟩, rfl, rfl, rfl⟩ | ⟨rfl, rfl, rfl, rfl, ⟨⟩, rfl, rfl, rfl⟩ | ⟨rfl, rfl, rfl, rfl, ⟨⟩, rfl, rfl⟩ | ⟨rfl, rfl, rfl, rfl, rfl⟩ | ⟨rfl, rfl, rfl, rfl, rfl, rfl, rfl⟩ | ⟨rfl, rfl, rfl, rfl, rfl, rfl, rfl⟩ | ⟨rfl, rfl, rfl, rfl, rfl, rfl⟩ | ⟨rfl, rfl, rfl, rfl, ⟨⟩⟩ | ⟨rfl, rfl, rfl, rfl, -, -⟩ | ⟨rfl, rfl, rfl, rfl, rfl, -⟩ | ⟨rfl, rfl, rfl, rfl, -, ⟨⟩, rfl, rfl⟩ | ⟨rfl, rfl, rfl, rfl, -, ⟨⟩, rfl, rfl, rfl, rfl⟩ | ⟨rfl, rfl, rfl, rfl, -, ⟨⟩, rfl, rfl, rfl, rfl⟩ | ⟨rfl, rfl, rfl, rfl, -, ⟨⟩, rfl, rfl, rfl⟩ | ⟨rfl, rfl, rfl, rfl, rfl, ⟨⟩, rfl⟩ | ⟨rfl, rfl, rfl, rfl, rfl, ⟨⟩, rfl, rfl, rfl⟩ | ⟨rfl, rfl, rfl, rfl, rfl, ⟨⟩, rfl, rfl, rfl⟩ | ⟨rfl, rfl, rfl, rfl, rfl, ⟨⟩, rfl, rfl⟩ | ⟨rfl, rfl, rfl, rfl, rfl, rfl⟩ | ⟨rfl, rfl, rfl, rfl, rfl, rfl, rfl, rfl⟩ | ⟨rfl, rfl, rfl, rfl, rfl, rfl, rfl, rfl⟩ | ⟨rfl, rfl, rfl, rfl, rfl, rfl, rfl⟩
        all_goals
          simp [faultB] at hR2
          subst hR2
          go_wp2_with (first
              | (go_at_call 96; with_reducible refine (HBG.out _).mono ?_; rintro e w3 ⟨rfl, rfl⟩)
              | (go_at_call 97; with_reducible refine (HBY.out _).mono ?_; rintro e w3 ⟨rfl, hb3⟩; have HB3 := Lib.hid (HB2.out.trans (hb3.mono HB2.out.size)); have hx3 := (hb3.block _ (lt_of_block HX2.out)).trans HX2.out; have y0 := cell_of_row _ _ 0 _ _ _ hx3; have y1 := cell_of_row _ _ 1 _ _ _ hx3; simp at y0 y1; obtain ⟨g0, g2, g3, g4, g8, g9, g10, g11⟩ := HX.out w3 HB3.out; (try simp only [ptrO, Option.map_some, Option.map_none] at g10))
              | (go_at_call 34; first | (with_reducible refine (g10 _ rfl).mono ?_; rintro e w4 ⟨rfl, rfl⟩) | (with_reducible refine (f10 _ rfl).mono ?_; rintro e w4 ⟨rfl, rfl⟩))
              | (go_at_call 98; first | (with_reducible refine g11.mono ?_; rintro e w4 ⟨rfl, rfl⟩) | (with_reducible refine f11.mono ?_; rintro e w4 ⟨rfl, rfl⟩))
              | (go_at_call 99; with_reducible refine (HHO.out _).mono ?_; rintro e w4 ⟨rfl, rfl⟩))
          go_ret
          first | exact ⟨rfl, HB3.out⟩ | exact ⟨rfl, HB2.out⟩
      | some q =>
        simp only [ptrO, Option.map_some, Option.isSome_some] at *
        rcases faultCases bBeg b3 bBy b16 true true b15 bFull b64 bHol HNN.out (by simp) with rfl | ⟨rfl, rfl, rfl⟩ | ⟨rfl, rfl, rfl, ⟨⟩⟩ | ⟨rfl, rfl, rfl, -, ⟨⟩⟩ | ⟨rfl, rfl, rfl, rfl, -⟩ | ⟨rfl, rfl, rfl, -, -, rfl, rfl⟩ | ⟨rfl, rfl, rfl, -, -, rfl, rfl, rfl, rfl⟩ | ⟨rfl, rfl, rfl, -, -, rfl, rfl, rfl, rfl⟩ | ⟨rfl, rfl, rfl, -, -, rfl, rfl, rfl⟩ | ⟨rfl, rfl, rfl, rfl, ⟨⟩, rfl⟩ | ⟨rfl, rfl, rfl, rfl, ⟨⟩, rfl, rfl, rfl⟩ | ⟨rfl, rfl, rfl, rfl, ⟨⟩, rfl, rfl, rfl⟩ | ⟨rfl, rfl, rfl, rfl, ⟨⟩, rfl, rfl⟩ | ⟨rfl, rfl, rfl, rfl, rfl⟩ | ⟨rfl, rfl, rfl, rfl, rfl, rfl, rfl⟩ | ⟨rfl, rfl, rfl, rfl, rfl, rfl, rfl⟩ | ⟨rfl, rfl, rfl, rfl, rfl, rfl⟩ | ⟨rfl, rfl, rfl, rfl, ⟨⟩⟩ | ⟨rfl, rfl, rfl, rfl, -, ⟨⟩⟩ | ⟨rfl, rfl, rfl, rfl, rfl, -⟩ | ⟨rfl, rfl, rfl, rfl, -, -, rfl, rfl⟩ | ⟨rfl, rfl, rfl, rfl, -, -, rfl, rfl, rfl, rfl⟩ | ⟨rfl, rfl, rfl, rfl, -, -, rfl, rfl, rfl, rfl⟩ | ⟨rfl, rfl, rfl, rfl, -, -, rfl, rfl, rfl⟩ | ⟨rfl, rfl, rfl, rfl, rfl, ⟨⟩, rfl⟩ | ⟨rfl, rfl, rfl, rfl, rfl, ⟨⟩, rfl, rfl, rfl⟩ | ⟨rfl, rfl, rfl, rfl, rfl, ⟨⟩, rfl, rfl, rfl⟩ | ⟨rfl, rfl, rfl, rfl, rfl, ⟨⟩, rfl, rfl⟩ | ⟨rfl, rfl, rfl, rfl, rfl, rfl⟩ | ⟨rfl, rfl, rfl, rfl, rfl, rfl, rfl, rfl⟩ | ⟨rfl, rfl, rfl, rfl, rfl, rfl, rfl, rfl⟩ | ⟨rfl, rfl, rfl, rfl, rfl, rfl, rfl⟩
        all_goals
          simp [faultB] at hR2
          subst hR2
          go_wp2_with (first
              | (go_at_call 96; with_reducible refine (HBG.out _).mono ?_; rintro e w3 ⟨rfl, rfl⟩)
              | (go_at_call 97; with_reducible refine (HBY.out _).mono ?_; rintro e w3 ⟨rfl, hb3⟩; have HB3 := Lib.hid (HB2.out.trans (hb3.mono HB2.out.size)); have hx3 := (hb3.block _ (lt_of_block HX2.out)).trans HX2.out; have y0 := cell_of_row _ _ 0 _ _ _ hx3; have y1 := cell_of_row _ _ 1 _ _ _ hx3; simp at y0 y1; obtain ⟨g0, g2, g3, g4, g8, g9, g10, g11⟩ := HX.out w3 HB3.out; (try simp only [ptrO, Option.map_some, Option.map_none] at g10))
              | (go_at_call 34; first | (with_reducible refine (g10 _ rfl).mono ?_; rintro e w4 ⟨rfl, rfl⟩) | (with_reducible refine (f10 _ rfl).mono ?_; rintro e w4 ⟨rfl, rfl⟩))
              | (go_at_call 98; first | (with_reducible refine g11.mono ?_; rintro e w4 ⟨rfl, rfl⟩) | (with_reducible refine f11.mono ?_; rintro e w4 ⟨rfl, rfl⟩))
              | (go_at_call 99; with_reducible refine (HHO.out _).mono ?_; rintro e w4 ⟨rfl, rfl⟩))
          go_ret
          first | exact ⟨rfl, HB3.out⟩ | exact ⟨rfl, HB2.out⟩
end
end Go.Proofs.YthjjgpepgbfalaaGreatDoor
end
section
/-! The parser's skips, behind, datum, rest and row: what each makes of the parser, from what the others make of it. -/
set_option maxRecDepth 20000
set_option linter.unusedSimpArgs false
set_option linter.unusedVariables false
namespace Go.Proofs.YthjjgpepgbfalaaGreatDoor
open Go.RowKit

set_option maxHeartbeats 800000 in
/-- A copy of a map of labels. -/
theorem labClone {w : World} {b n : Nat} {S : Nat → Nat} {f : Int → Option Nat} (h : GMap 3 I64 intV (ptrN S) w b n f) : Calls Tryz.prog 65 #[.map (some b)] w fun e w' => (∃ b', e = .returned (.map (some b')) ∧ w.heap.size ≤ b' ∧ GMap 3 I64 intV (ptrN S) w' b' n f) ∧ Below w.heap.size w w' := by
  obtain ⟨es, clock, h⟩ := h
  have hb := h.hb
  have HB : Hid (Below w.heap.size w (w.alloc (.map es clock))) := Lib.hid ((Below.refl _ _).alloc (Nat.le_refl _) _)
  have hq := fun w => run_eql_map_nil_sl (P := Tryz.prog) w 109 _ _ (some b) Tryz.underlying109
  have HF : Hid (GMap 3 I64 intV (ptrN S) (w.alloc (.map es clock)) w.heap.size n f) := Lib.hid (GMap.copy h (MapKept.heap_alloc w _).1)
  clear h
  go_enter Tryz.func65, Tryz.ntmps65
  go_wp2
  rw [run_callFunc_extern Tryz.func95 (by kernel_rfl) (by kernel_rfl) (by kernel_rfl) (e := Extern.MapsClone.clone) (by kernel_rfl), run_maps_clone_sl w 109 hb]
  simp only [Result.andThen]
  rw [Oper.upon_value]
  go_wp2
  rw [run_typeAssert_map_sl _ 109 20 _ _ _ Tryz.underlying109]
  simp only [Result.andThen]
  rw [Oper.upon_value]
  go_wp2
  go_ret
  exact ⟨⟨_, rfl, Nat.le_refl _, HF.out⟩, HB.out⟩
/-- From one state of the parser to another one. -/
structure Mid (p sz tb dp1 : Nat) (S : Nat → Nat) (V : Nat → Value) (lb n : Nat) (w : World) (S1 : Nat → Nat) (V1 : Nat → Value) (lb1 : Nat) (σ1 : Ps) (w1 : World) : Prop where
  pm : Pm w1 p sz tb dp1 S1 V1 lb1 σ1
  chp : Chp (footM p S V lb n) (footM p S1 V1 lb1 σ1.A.length) w w1
  sx : ∀ j, j < n → S1 j = S j
  len : n ≤ σ1.A.length
section
variable {w w1 w2 : World} {p sz tb dp dp1 dp2 lb lb1 lb2 n : Nat} {S S1 S2 : Nat → Nat} {V V1 V2 : Nat → Value} {σ σ1 σ2 : Ps}
theorem Mid.refl (h : Pm w p sz tb dp S V lb σ) : Mid p sz tb dp S V lb σ.A.length w S V lb σ w := ⟨h, Chp.refl _ _, fun _ _ => rfl, Nat.le_refl _⟩
theorem Mid.trans (h : Mid p sz tb dp1 S V lb n w S1 V1 lb1 σ1 w1) (k : Mid p sz tb dp2 S1 V1 lb1 σ1.A.length w1 S2 V2 lb2 σ2 w2) : Mid p sz tb dp2 S V lb n w S2 V2 lb2 σ2 w2 :=
  ⟨k.pm, h.chp.trans k.chp, fun j hj => (k.sx j (Nat.lt_of_lt_of_le hj h.len)).trans (h.sx j hj), Nat.le_trans h.len k.len⟩
theorem Mid.below (h : Mid p sz tb dp1 S V lb n w S1 V1 lb1 σ1 w1) (hb : Below w1.heap.size w1 w2) : Mid p sz tb dp1 S V lb n w S1 V1 lb1 σ1 w2 := ⟨h.pm.below hb, h.chp.trans (Chp.of_below hb), h.sx, h.len⟩
theorem Mid.went (h : Mid p sz tb dp S V lb σ.A.length w S1 V1 lb1 σ1 w1) : WentM p sz tb dp S V lb σ σ1 w w1 := ⟨S1, V1, lb1, h.pm, h.chp, h.sx, h.len⟩
theorem WentM.mid (h : WentM p sz tb dp S V lb σ σ1 w w1) : ∃ S1 V1 lb1, Mid p sz tb dp S V lb σ.A.length w S1 V1 lb1 σ1 w1 := by
  obtain ⟨S1, V1, lb1, h1, h2, h3, h4⟩ := h
  exact ⟨S1, V1, lb1, h1, h2, h3, h4⟩
/-- A call that leaves the nodes. -/
theorem Mid.of (h : Pm w1 p sz tb dp1 S V lb σ1) (hc : Chp (footM p S V lb σ.A.length) (footM p S V lb σ.A.length) w w1) (hA : σ1.A = σ.A) : Mid p sz tb dp1 S V lb σ.A.length w S V lb σ1 w1 :=
  ⟨h, by rw [hA]; exact hc, fun _ _ => rfl, by rw [hA]; exact Nat.le_refl _⟩
/-- How deep it is, set. -/
theorem Pm.setDeep (h : Pm w p sz tb dp S V lb σ) {dp' : Nat} (hd : dp' ≤ σ.A.length) {x : Int} (hx : x = (dp' : Int)) : Mid p sz tb dp' S V lb σ.A.length w S V lb σ (w.setCell ⟨p, 3, none⟩ (.int .i64 x)) := by
  obtain ⟨v, ht, _, _, _, hrow⟩ := h.cells
  subst hx
  exact Mid.of (h.setP (fun k _ hk => heap_setCell_other _ _ _ _ hk) (heap_setCell_same w _ 3 _ _ _ hrow) ht rfl rfl hd h.tks (Nat.le_refl _) h.pll) (Chp.setCell (.inl rfl) _ w) rfl
/-- The labels' map, set. -/
theorem Pm.setLab (h : Pm w p sz tb dp S V lb σ) {lb' : Nat} {f : Int → Option Nat} (hm : GMap 3 I64 intV (ptrN S) w lb' σ.A.length f) (hin : ∀ x j, f x = some j → j < σ.A.length) :
    Pm (w.setCell ⟨p, 2, none⟩ (.map (some lb'))) p sz tb dp S V lb' { σ with lab := f } := by
  obtain ⟨v, ht, _, _, _, hrow⟩ := h.cells
  have hw : ∀ k, k ≠ p → (w.setCell ⟨p, 2, none⟩ (.map (some lb'))).heap[k]? = w.heap[k]? := fun k hk => heap_setCell_other _ _ _ _ hk
  obtain ⟨n1, n2, n3⟩ := h.pne
  have hlp : lb' ≠ p := fun e => by
    obtain ⟨es, c, hm2⟩ := hm.isMap
    subst e; rw [hm2] at hrow; cases hrow
  refine ⟨⟨v, heap_setCell_same w _ 2 _ _ _ hrow, ht.keep fun hh => hw tb fun e => h.tbn hh (.inl e)⟩, hm.same (hw lb' hlp), h.nds.keep fun k hk => hw k fun e => n2 (e ▸ hk), hin, h.tks, h.dpl, h.room, h.szl, h.pll⟩
/-- One node more. -/
theorem Pm.addN (h : Pm w p sz tb dp S V lb σ) {i : Nat} {t : Lx.Tk} {a : Nat} {e : Ending} (hr : σ.A.length + 1 + 2 * σ.ts.length ≤ 20000) (ha : AddR w w1 S V σ.A i t a e) :
    ∃ S1 V1, e = .returned (.pointer (some ⟨S1 σ.A.length, 0, none⟩)) ∧ Mid p sz tb dp S V lb σ.A.length w S1 V1 lb { σ with A := Go.Proofs.YthjjgpepgbfalaaGreatDoor.addN σ.A i t a } w1 ∧ GMap 3 I64 intV (ptrN S1) w1 lb σ.A.length σ.lab := by
  obtain ⟨b, V', rfl, hn, hc, hb⟩ := ha
  have hlen := addN_len σ.A i t a
  obtain ⟨n1, n2, n3⟩ := h.pne
  obtain ⟨v, hrow, ht⟩ := h.hd
  have hk : ∀ k, k < w.heap.size → ¬ footN S V σ.A.length k → w1.heap[k]? = w.heap[k]? := fun k h1 h2 => hc.block k h1 h2
  have hsx : ∀ j, j < σ.A.length → upd S σ.A.length b j = S j := fun j hj => upd_other _ _ (by omega)
  have hgm : GMap 3 I64 intV (ptrN (upd S σ.A.length b)) w1 lb σ.A.length σ.lab := by
    refine (h.lab.same (hk lb h.lab.lt n3)).congr (fun x hx => ⟨fun s hs => ⟨s, hs, ?_⟩, id⟩) (fun x s hs => h.lab.inDom hs)
    unfold ptrN
    rw [hsx s (h.labIn x s hs)]
  refine ⟨upd S σ.A.length b, V', by rw [upd_same], ⟨⟨⟨v, (hk p h.plt n2).trans hrow, ht.keep fun hh => ?_⟩, ?_, hn, fun x j hj => ?_, h.tks, ?_, ?_, h.szl, h.pll⟩, ?_, hsx, ?_⟩, hgm⟩
  · have hnb := h.tbn hh
    obtain ⟨cs, fr, hh⟩ := hh
    exact hk tb (lt_of_block hh) fun e => hnb (.inr (.inr e))
  · show GMap 3 I64 intV _ w1 lb (Go.Proofs.YthjjgpepgbfalaaGreatDoor.addN σ.A i t a).length σ.lab
    rw [hlen]
    exact hgm.more (Nat.le_succ _)
  · show j < (Go.Proofs.YthjjgpepgbfalaaGreatDoor.addN σ.A i t a).length
    rw [hlen]; have := h.labIn x j hj; omega
  · show dp ≤ (Go.Proofs.YthjjgpepgbfalaaGreatDoor.addN σ.A i t a).length
    rw [hlen]; have := h.dpl; omega
  · show (Go.Proofs.YthjjgpepgbfalaaGreatDoor.addN σ.A i t a).length + 2 * σ.ts.length ≤ 20000
    rw [hlen]; exact hr
  · show Chp _ (footM p _ V' lb (Go.Proofs.YthjjgpepgbfalaaGreatDoor.addN σ.A i t a).length) w w1
    rw [hlen]
    refine hc.congr (fun k hk => .inr (.inr hk)) fun k hk => ?_
    rcases hk with e | e | hk
    · exact .inr (.inl (.inl e))
    · exact .inr (.inl (.inr (.inl e)))
    · exact .inl hk
  · show _ ≤ (Go.Proofs.YthjjgpepgbfalaaGreatDoor.addN σ.A i t a).length
    rw [hlen]; omega
end
def SkipsC (p sz tb f : Nat) : Prop := ∀ (w : World) (dp : Nat) (S : Nat → Nat) (V : Nat → Value) (lb : Nat) (σ : Ps) (r : Bool × Ps), Pm w p sz tb dp S V lb σ → skipsM sz f dp σ = some r →
  Calls Tryz.prog 42 #[.pointer (some ⟨p, 0, none⟩)] w fun e w' => e = .returned (.bool r.1) ∧ WentM p sz tb dp S V lb σ r.2 w w'
def BehindC (p sz tb f : Nat) : Prop := ∀ (w : World) (dp : Nat) (S : Nat → Nat) (V : Nat → Value) (lb : Nat) (σ : Ps) (r : Bool × Ps) (i : Nat), Pm w p sz tb dp S V lb σ → i < σ.A.length → behindM sz f dp i σ = some r →
  Calls Tryz.prog 66 #[.pointer (some ⟨p, 0, none⟩), .pointer (some ⟨S i, 0, none⟩)] w fun e w' => e = .returned (.bool r.1) ∧ WentM p sz tb dp S V lb σ r.2 w w'
def DatumC (p sz tb f : Nat) : Prop := ∀ (w : World) (dp : Nat) (S : Nat → Nat) (V : Nat → Value) (lb : Nat) (σ : Ps) (r : Bool × Ps) (i : Nat), Pm w p sz tb dp S V lb σ → i < σ.A.length → datumM sz f dp i σ = some r →
  Calls Tryz.prog 43 #[.pointer (some ⟨p, 0, none⟩), .pointer (some ⟨S i, 0, none⟩)] w fun e w' => e = .returned (.bool r.1) ∧ WentM p sz tb dp S V lb σ r.2 w w'
def RestC (p sz tb f : Nat) : Prop := ∀ (w : World) (dp : Nat) (S : Nat → Nat) (V : Nat → Value) (lb : Nat) (σ : Ps) (r : Bool × Ps) (i : Nat), Pm w p sz tb dp S V lb σ → i < σ.A.length → σ.A.length + 1 + 2 * σ.ts.length ≤ 20000 → GMap 3 I64 intV (ptrN S) w lb (σ.A.length - 1) σ.lab → restM sz f dp i σ = some r →
  Calls Tryz.prog 70 #[.pointer (some ⟨p, 0, none⟩), .pointer (some ⟨S i, 0, none⟩)] w fun e w' => e = .returned (.bool r.1) ∧ WentM p sz tb dp S V lb σ r.2 w w'
def RowC (p sz tb f : Nat) : Prop := ∀ (w : World) (dp : Nat) (S : Nat → Nat) (V : Nat → Value) (lb : Nat) (σ : Ps) (r : Bool × Ps) (i : Nat), Pm w p sz tb dp S V lb σ → i < σ.A.length → rowM sz f dp i σ = some r →
  Calls Tryz.prog 100 #[.pointer (some ⟨p, 0, none⟩), .pointer (some ⟨S i, 0, none⟩)] w fun e w' => e = .returned (.bool r.1) ∧ WentM p sz tb dp S V lb σ r.2 w w'
end Go.Proofs.YthjjgpepgbfalaaGreatDoor
end
