/- An object laid at the least place. -/
import Derived.Test.YtekmboolfjicbaaHCopy
import Derived.Deep.DeepCutAuto
set_option maxRecDepth 20000
set_option linter.unusedSimpArgs false
namespace Go.Proofs.Ytekmboolfjicbaa
open Go.RowKit

theorem Try.infoP : (Try.prog.info? 98).map (fun i => (i.zero, i.size, i.bytes)) = some (some (.pointer none), 1, 8) := by kernel_rfl
theorem ptrs_one (S : Nat → Option Pos) (n : Nat) : ∀ v ∈ ptrs S n, v.oneCell' = true := by
  intro v hv
  unfold ptrs at hv
  obtain ⟨i, _, rfl⟩ := List.mem_map.1 hv
  rfl
section
variable {w w' : World} {g mb : Nat} {vr vr' : Value} {S : Nat → Option Pos} {m : Hm}
/-- What is told of a memory in which an object was laid. -/
theorem Hp.laid (h : Hp w g vr mb S m) {x : Pos} {c : Cl} (hc : CelAt w x c) (hx : ∀ k, blkP x k → ¬ footH g vr mb S k) (hn : c.num = 0) (hr : liveN m.L < m.lim)
    (hd : w'.heap[g]? = some (.cells #[.int .i64 (m.lim : Int), vr', .int .i64 ((liveN m.L : Int) + 1), .int .i64 ((gapH m.L : Int) + 1), .map (some mb), m.by_, .int .i64 (m.fet : Int)] 94 (0, 0)))
    (hrow : w'.ownsRow 0 98 1 vr' (putH m.L (gapH m.L) c).length (ptrs (putS S (gapH m.L) (some x)) (putH m.L (gapH m.L) c).length))
    (hk : ∀ k, k < w.heap.size → k ≠ g → vr.ownBlock ≠ some k → w'.heap[k]? = w.heap[k]?) :
    Hp w' g vr' mb (putS S (gapH m.L) (some x)) (m.lay c) := by
  obtain ⟨n0, n1, n2⟩ := h.ne
  have hg := gapH_le m.L
  have hat : ∀ j, clAt (m.lay c).L j = if j = gapH m.L then some c else clAt m.L j := fun j => clAt_put hg
  have hlive : liveN (m.lay c).L = liveN m.L + 1 := liveN_put c hg (gapH_none _)
  refine ⟨?_, hrow, ?_, ?_, ?_, ?_, h.ok.lay hn hr⟩
  · rw [hlive, hd]; rfl
  · intro j e he
    rw [hat] at he
    split at he
    · rename_i ej
      cases he
      refine ⟨x, by unfold putS; rw [if_pos ej], hc.keep fun k hkx => hk k (hc.lt k hkx) (fun e => hx k hkx (.inl e)) (fun e => hx k hkx (.inr (.inl e)))⟩
    · rename_i hj
      obtain ⟨y, hy, hca⟩ := h.at_ j e he
      refine ⟨y, by unfold putS; rw [if_neg hj]; exact hy, hca.keep fun k hky => ?_⟩
      obtain ⟨a1, _, a3⟩ := n2 j y hy k hky
      exact hk k (hca.lt k hky) a1 a3
  · intro j hj
    rw [hat] at hj
    split at hj
    · cases hj
    · rename_i hj2
      unfold putS; rw [if_neg hj2]; exact h.none_ j hj
  · exact h.nums.same (hk mb h.nums.lt (Ne.symm n0) (fun e => (n1 mb e).2 rfl))
  · intro i j y z hij hy hz k hky hkz
    unfold putS at hy hz
    split at hy
    · cases hy
      split at hz
      · omega
      · exact hx k hky (.inr (.inr (.inr ⟨j, z, hz, hkz⟩)))
    · split at hz
      · cases hz
        exact hx k hkz (.inr (.inr (.inr ⟨i, y, hy, hky⟩)))
      · exact h.sep i j y z hij hy hz k hky hkz
/-- .. and which blocks it has changed. -/
theorem foot_laid {x : Pos} {i : Nat} (hv : ∀ k, vr'.ownBlock = some k → vr.ownBlock = some k ∨ w.heap.size ≤ k) :
    ∀ k, footH g vr' mb (putS S i (some x)) k → (footH g vr mb S k ∨ blkP x k) ∨ w.heap.size ≤ k := by
  rintro k (rfl | e | rfl | ⟨j, y, hy, hk⟩)
  · exact .inl (.inl (.inl rfl))
  · rcases hv k e with h | h
    · exact .inl (.inl (.inr (.inl h)))
    · exact .inr h
  · exact .inl (.inl (.inr (.inr (.inl rfl))))
  · unfold putS at hy
    split at hy
    · cases hy; exact .inl (.inr hk)
    · exact .inl (.inl (.inr (.inr (.inr ⟨j, y, hy, hk⟩))))
/-- What lay leaves. -/
def LaidX (w w' : World) (g : Nat) (vr : Value) (mb : Nat) (S : Nat → Option Pos) (m : Hm) (x : Pos) (c : Cl) (i : Nat) : Prop :=
  ∃ vr', Hp w' g vr' mb (putS S i (some x)) (m.lay c) ∧ Chp (fun k => footH g vr mb S k ∨ blkP x k) (footH g vr' mb (putS S i (some x))) w w'
def LaidR (w w' : World) (g : Nat) (vr : Value) (mb : Nat) (S : Nat → Option Pos) (m : Hm) (x : Pos) (c : Cl) : Prop := LaidX w w' g vr mb S m x c (gapH m.L)
set_option maxHeartbeats 3200000 in
theorem Hp.lay (h : Hp w g vr mb S m) {x : Pos} {c : Cl} (hc : CelAt w x c) (hx : ∀ k, blkP x k → ¬ footH g vr mb S k) (hn : c.num = 0) (hr : liveN m.L < m.lim) :
    Calls Try.prog 33 #[.pointer (some ⟨g, 0, none⟩), .pointer (some ⟨x.1, 0, none⟩)] w fun e w' => e = .returned (.int .i64 (gapH m.L : Int)) ∧ LaidR w w' g vr mb S m x c := by
  have HP := Lib.hid h
  have HLD := Lib.hid (fun (w' : World) (vr' : Value) => h.laid (w' := w') (vr' := vr') hc hx hn hr)
  have HFT := Lib.hid (fun (vr' : Value) => foot_laid (w := w) (g := g) (vr := vr) (vr' := vr') (mb := mb) (S := S) (x := x) (i := gapH m.L))
  obtain ⟨n0, n1, -⟩ := h.ne
  have HN1 := Lib.hid n1
  have c1 := h.c1
  have c2 := h.c2
  have c3 := h.c3
  have cf1 := h.fz 1
  have cf2 := h.fz 2
  have cf3 := h.fz 3
  have hs := h.short
  have hgap := gapH_le m.L
  have hlg := h.ok.least_gap
  have hlv := liveN_le m.L
  have HG : Hid (∀ j, j < gapH m.L → ∃ y, ptrV S j = .pointer (some ⟨y, 0, none⟩)) := Lib.hid fun j hj => by
    obtain ⟨d, hd⟩ := gapH_live hj
    obtain ⟨y, hy, _⟩ := h.at_ j d hd
    exact ⟨y.1, by unfold ptrV; rw [hy]; rfl⟩
  have HG0 : Hid (ptrV S (gapH m.L) = .pointer none) := Lib.hid (by unfold ptrV; rw [h.none_ _ (gapH_none _)]; rfl)
  have HAT : Hid (∀ k, k < m.L.length → ∃ b c, vr = .slice (some ⟨b, 0, none⟩) m.L.length c ∧ m.L.length ≤ c ∧ w.cell? ⟨b, k, none⟩ = some (ptrV S k) ∧ w.frozen? ⟨b, k, none⟩ = false) := Lib.hid fun k hk => h.at' hk
  have HROW := Lib.hid h.row
  have HPL : Hid ((putH m.L (gapH m.L) c).length = max m.L.length (gapH m.L + 1)) := Lib.hid (putH_len hgap)
  have hglt := h.glt
  have HD := Lib.hid h.hd
  obtain ⟨q, cp, e⟩ := h.form
  subst e
  obtain ⟨l0, HL0⟩ : ∃ l0, Hid (m.least = l0) := ⟨_, Lib.hid rfl⟩
  obtain ⟨G, HGG⟩ : ∃ G, Hid (gapH m.L = G) := ⟨_, Lib.hid rfl⟩
  obtain ⟨N, HNN⟩ : ∃ N, Hid (m.L.length = N) := ⟨_, Lib.hid rfl⟩
  obtain ⟨lv, HLV⟩ : ∃ lv, Hid (liveN m.L = lv) := ⟨_, Lib.hid rfl⟩
  unfold LaidR
  rw [HGG.out] at hgap hlg HG HG0 HLD HFT HPL ⊢
  rw [HL0.out] at c3 hlg HD
  rw [HNN.out] at hs hgap hlv HAT HROW HPL c1 HD HLD HFT HN1 HP ⊢
  rw [HLV.out] at c2 hlv HD HLD
  clear h hc hx hn hr n1
  go_enter Try.func33, Try.ntmps33
  go_wp2_with fail
  go_loopw [5] (fun iv wr => ∃ i : Nat, i ≤ G ∧ iv = .int .i64 (i : Int) ∧ wr = w) (fun iv _ => G - (intOf iv).toNat)
  case atStart => exact ⟨l0, hlg, by go_num, rfl⟩
  case round =>
    obtain ⟨i, hi, rfl, rfl⟩ := hrel
    by_cases hlt : i < G
    · obtain ⟨y, hy⟩ := HG.out i hlt
      obtain ⟨b, c', e, hcc, a1, _⟩ := HAT.out i (by omega)
      cases e
      rw [hy] at a1
      have hil : (i : Int) < (N : Int) := by omega
      go_wp2_with fail
      go_roundw
      case rel => exact ⟨i + 1, by omega, by go_num, trivial⟩
      case measure => simp [intOf]; omega
    · obtain rfl : i = G := by omega
      have hPN := HG0.out
      by_cases hiN : i < N
      · obtain ⟨b, c', e, hcc, a1, f1⟩ := HAT.out i hiN
        cases e
        rw [hPN] at a1
        have hil : (i : Int) < (N : Int) := by omega
        have hne : ((i : Int) == (N : Int)) = false := by simp; omega
        obtain ⟨nb, -⟩ := HN1.out b rfl
        have HNB := Lib.hid nb
        have HX : Hid (LaidX wr (((wr.setCell ⟨b, i, none⟩ (.pointer (some ⟨x.1, 0, none⟩))).setCell ⟨g, 2, none⟩ (.int .i64 ((lv : Int) + 1))).setCell ⟨g, 3, none⟩ (.int .i64 ((i : Int) + 1))) g (.slice (some ⟨b, 0, none⟩) N cp) mb S m x c i) := Lib.hid (by
          refine ⟨.slice (some ⟨b, 0, none⟩) N cp, HLD.out _ _ ?_ ?_ ?_, ?_⟩
          · exact heap_setCell_same _ _ 3 _ _ _ (heap_setCell_same _ _ 2 _ _ _ ((heap_setCell_other _ _ _ _ (Ne.symm nb)).trans HD.out))
          · rw [HPL.out, Nat.max_eq_left (by omega), ← ptrs_set]
            exact own_other (HROW.out.stored i _).1 fun k e => by
              cases e
              exact (heap_setCell_other _ _ _ _ nb).trans (heap_setCell_other _ _ _ _ nb)
          · intro k _ h1 h2
            have h3 : k ≠ b := fun e => h2 (by rw [e]; rfl)
            exact (heap_setCell_other _ _ _ _ h1).trans ((heap_setCell_other _ _ _ _ h1).trans (heap_setCell_other _ _ _ _ h3))
          · have hc0 : Chp (fun k => footH g (.slice (some ⟨b, 0, none⟩) N cp) mb S k ∨ blkP x k) (fun k => footH g (.slice (some ⟨b, 0, none⟩) N cp) mb S k ∨ blkP x k) wr (((wr.setCell ⟨b, i, none⟩ (.pointer (some ⟨x.1, 0, none⟩))).setCell ⟨g, 2, none⟩ (.int .i64 ((lv : Int) + 1))).setCell ⟨g, 3, none⟩ (.int .i64 ((i : Int) + 1))) :=
              ((Chp.setCell (.inl (.inr (.inl rfl))) _ _).trans (Chp.setCell (.inl (.inl rfl)) _ _)).trans (Chp.setCell (.inl (.inl rfl)) _ _)
            exact hc0.congr (fun k h => h) (fun k h => (HFT.out (.slice (some ⟨b, 0, none⟩) N cp) (fun k h => .inl h) k h).elim .inl (fun h => .inr (.inr h))))
        go_wp2_with fail
        go_ret
        exact ⟨rfl, HX.out⟩
      · obtain rfl : i = N := by omega
        obtain ⟨i0, hi0, hz0, hz1, hz2⟩ := info_parts Try.infoP
        have HI0 := Lib.hid hi0
        have HZ0 := Lib.hid hz0
        have HZ1 := Lib.hid hz1
        have HZ2 := Lib.hid hz2
        have he : ((i : Int) == (i : Int)) = true := by simp
        have hrow : Hid ((wr.alloc (.cells #[.pointer none] 98)).ownsRow 0 98 1 (.slice q i cp) i (ptrs S i)) := Lib.hid (HROW.out.alloc _)
        have HPW : Hid (Hp wr g (.slice q i cp) mb S m) := HP
        have hgne : some g ≠ (Value.slice q i cp).ownBlock := fun e => (HN1.out g e.symm).1 rfl
        have HGN := Lib.hid hgne
        clear hi0 hz0 hz1 hz2 hgne HAT HG
        go_wp2_with (at_builtin; refine wpList_append_lies _ rfl (.tmp 40) (.tmp 41) 91 rfl 0 98 i0 (.pointer none) 1 8 Try.underlying91 HI0.out HZ0.out HZ1.out HZ2.out rfl (by decide) (.slice q i cp) i (ptrs S i) (by rfl) hrow.out ⟨wr.heap.size, 0, none⟩ 1 1 [.pointer none] (by rfl) rfl (cell_one_new wr _ _) (by decide) (by omega) (by unfold maxLen; omega) (by omega) (Nat.zero_le _) (wr.heap.size + 1) (by simp) ?_)
        intro gN cap w3 hown hgrow hat hlt3
        have hsz3 : wr.heap.size ≤ w3.heap.size := Nat.le_trans (by simp) hgrow.size
        have h3 : ∀ k, k < wr.heap.size → (Value.slice q i cp).ownBlock ≠ some k → w3.heap[k]? = wr.heap[k]? := fun k hk hne =>
          (hgrow.block k (by simp; omega) (fun e => hne e.symm)).trans (Below.heap_alloc wr _ k hk)
        have hgN : gN ≠ g := by
          rcases hat with e | e
          · exact (HN1.out _ e).1
          · omega
        have hHD3 := (h3 g hglt (fun e => HGN.out e.symm)).trans HD.out
        have hown1 : w3.ownsRow 0 98 1 (.slice (some ⟨gN, 0, none⟩) (i + 1) cap) (i + 1) (ptrs S (i + 1)) := by rw [ptrs_succ, HG0.out]; exact hown
        have a1 := hown1.cellAt i (by omega)
        rw [ptrs_get _ _ _ (by omega), HG0.out] at a1
        have f1 := hown1.frozenAt i
        have k1 := cell_of_row _ _ 1 _ _ _ hHD3
        have k2 := cell_of_row _ _ 2 _ _ _ hHD3
        have k3 := cell_of_row _ _ 3 _ _ _ hHD3
        have g1 := frozen_of_row _ _ 1 _ _ hHD3
        have g2 := frozen_of_row _ _ 2 _ _ hHD3
        have g3 := frozen_of_row _ _ 3 _ _ hHD3
        simp at k1 k2 k3
        have HX : Hid (LaidX wr ((((w3.setCell ⟨g, 1, none⟩ (.slice (some ⟨gN, 0, none⟩) (i + 1) cap)).setCell ⟨gN, i, none⟩ (.pointer (some ⟨x.1, 0, none⟩))).setCell ⟨g, 2, none⟩ (.int .i64 ((lv : Int) + 1))).setCell ⟨g, 3, none⟩ (.int .i64 ((i : Int) + 1))) g (.slice q i cp) mb S m x c i) := Lib.hid (by
          refine ⟨.slice (some ⟨gN, 0, none⟩) (i + 1) cap, HLD.out _ _ ?_ ?_ ?_, ?_⟩
          · exact heap_setCell_same _ _ 3 _ _ _ (heap_setCell_same _ _ 2 _ _ _ ((heap_setCell_other _ _ _ _ (Ne.symm hgN)).trans (heap_setCell_same _ _ 1 _ _ _ hHD3)))
          · rw [HPL.out, Nat.max_eq_right (by omega), ← ptrs_set]
            have hr4 : (w3.setCell ⟨g, 1, none⟩ (.slice (some ⟨gN, 0, none⟩) (i + 1) cap)).ownsRow 0 98 1 (.slice (some ⟨gN, 0, none⟩) (i + 1) cap) (i + 1) (ptrs S (i + 1)) := own_other hown1 fun k e => by
              cases e; exact heap_setCell_other _ _ _ _ hgN
            exact own_other (hr4.stored i _).1 fun k e => by
              cases e
              exact (heap_setCell_other _ _ _ _ hgN).trans (heap_setCell_other _ _ _ _ hgN)
          · intro k hk h1 h2
            have h4 : k ≠ gN := by
              rcases hat with e | e
              · intro e2; rw [e2] at h2; exact h2 e
              · omega
            exact (heap_setCell_other _ _ _ _ h1).trans ((heap_setCell_other _ _ _ _ h1).trans ((heap_setCell_other _ _ _ _ h4).trans ((heap_setCell_other _ _ _ _ h1).trans (h3 k hk h2))))
          · refine ⟨hgrow.os, hgrow.tape, hgrow.output, by simpa using hsz3, fun k hk hF => ?_, fun k h => HFT.out (.slice (some ⟨gN, 0, none⟩) (i + 1) cap) (fun k e => ?_) k h⟩
            · have h1 : k ≠ g := fun e => hF (.inl (.inl e))
              have h2 : (Value.slice q i cp).ownBlock ≠ some k := fun e => hF (.inl (.inr (.inl e)))
              have h4 : k ≠ gN := by
                rcases hat with e | e
                · intro e2; rw [e2] at h2; exact h2 e
                · omega
              exact (heap_setCell_other _ _ _ _ h1).trans ((heap_setCell_other _ _ _ _ h1).trans ((heap_setCell_other _ _ _ _ h4).trans ((heap_setCell_other _ _ _ _ h1).trans (h3 k hk h2))))
            · have e2 : gN = k := by simpa [Value.ownBlock] using e
              subst e2
              rcases hat with e3 | e3
              · exact .inl e3
              · exact .inr (by omega))
        have hii : (i : Int) < (i : Int) + 1 := by omega
        clear hown hgrow hat hlt3 hown1 hHD3 c1 c2 c3 cf1 cf2 cf3 HLD HFT
        go_wp2_with fail
        go_ret
        exact ⟨rfl, HX.out⟩
end
end Go.Proofs.Ytekmboolfjicbaa
