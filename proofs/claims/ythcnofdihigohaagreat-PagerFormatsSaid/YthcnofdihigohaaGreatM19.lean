/- Texts QFmt to XNeed of this seat, laid into one. -/
import Derived.Deep.QuietTactic
import Derived.BigQuiet
import Derived.Test.YthcnofdihigohaaGreatM02
import Derived.Test.YthcnofdihigohaaGreatM11
import Derived.Test.YthcnofdihigohaaGreatM18
section
/- A space that Format makes, and its first commit: without memory. -/
set_option maxRecDepth 20000
set_option linter.unusedSimpArgs false
namespace Go.Proofs.YthcnofdihigohaaGreat
open Go.RowKit

theorem Base.comm {s : Sp} {pg : Nat} {L : List (List Nat)} (hB : Base s pg) (hO : OldLv L s) (hn : 4 * pg ≤ L.length) (hN : needS s ≤ (freeL s).length) {r : Rt} (hr : r.pg = (pg : Int)) (hm : may r = true) {L' : List (List Nat)} (hL : L'.length = L.length) (hs : ∀ p, 2 ≤ p → pageB L' p = pageB (wrP L (plW s r)) p) : SpGood (commS s r) L' pg := by
  have hg := plan_good hB hN hr hm
  have hl := plan_lies hB hN hr hm hn hO
  refine ⟨hg, hr, hl.stay hg (by rw [hL, wrP_len]) (fun p hp => hs p ?_), fun l => .inr rfl, fun l b e => by cases e⟩
  obtain ⟨h0, n, hn, e⟩ := usF_iff.1 hp
  have e : lab (planRt s r) (plL s) (plT s) n = p := e
  have h1 := lab_src hB r n hn
  rw [e] at h1
  rcases h1 with h1 | h1 | ⟨j, hj, h1⟩
  · omega
  · have h2 := hB.okl
    have h3 := hB.okk
    rw [h1] at h0 ⊢
    unfold lab at h0 ⊢
    by_cases e0 : n = 0
    · rw [if_pos e0] at h0; exact absurd rfl h0
    · rw [if_neg e0] at h0 ⊢
      by_cases e5 : n < 5
      · rw [if_pos e5] at h0 ⊢
        have := h2 (n - 1) (by omega)
        unfold Tb.pgN at this
        simp at this; omega
      · rw [if_neg e5] at h0 ⊢
        have := h3 (n - 5)
        unfold Tb.pgN at this
        simp at this; omega
  · rw [h1]; exact (free_two hB (idx_lt hN hj)).1
/-- A space with nothing, over pages that are held. -/
def bareS (e : Int) (pg : Nat) (u o : Option (Nat → Bool)) : Sp := ⟨⟨⟨e, (pg : Int), 0, 0⟩, fun _ => 0, fun _ => 0, u⟩, o, fun _ => 0, fun _ => none, false⟩
theorem fmt_bare (m : Dsk) : fmtS m = bareS (ldA m).ep (pgOf m) (usedM m (ldA m)) (usedM m (ldB m)) := rfl
section
variable (e : Int) (pg : Nat) (u o : Option (Nat → Bool))
theorem bare_lab (n : Nat) : lab ⟨0, 0, 0, 0⟩ (bareS e pg u o).g.lv (bareS e pg u o).kp n = 0 := by
  unfold lab
  split
  · rfl
  · split <;> rfl
theorem bareB_zero (i : Nat) : Tb.bareB (fun _ => 0) i = true := by
  unfold Tb.bareB Tb.leafF
  simp [Tb.sameN]
theorem bare_base (h4 : 4 ≤ pg) (h5 : pg ≤ 512) : Base (bareS e pg u o) pg := by
  refine ⟨rfl, h4, h5, ⟨fun n _ h0 => absurd (bare_lab e pg u o n) h0, fun n _ k _ h0 => absurd (bare_lab e pg u o n) h0⟩, fun n _ h0 => absurd (bare_lab e pg u o n) h0, fun l => rfl, fun i _ => rfl, fun i _ hb => ?_, fun l b h => (by cases h), fun _ _ => rfl⟩
  have : Tb.bareB (fun _ => 0) i = false := hb
  rw [bareB_zero] at this; cases this
theorem bare_keys : (bareS e pg u o).fr.keys = [] := by
  show Pgs.keys (fun _ => none) = []
  unfold Pgs.keys
  simp
theorem bare_mov0 (i : Nat) : movB (bareS e pg u o) i = false := by
  unfold movB
  show (freshB (fun _ => none) i || (Tb.difB (fun _ => 0) (fun _ => 0) i && !Tb.bareB (fun _ => 0) i)) = false
  rw [bareB_zero]
  have hk : Pgs.keys (fun _ => none) = [] := bare_keys e pg u o
  unfold freshB
  rw [hk]; simp
theorem bare_movL : movL (bareS e pg u o) = [] := by
  unfold movL Tb.mems
  rw [List.filter_eq_nil_iff]
  intro i _
  rw [bare_mov0]; simp
theorem bare_need : needS (bareS e pg u o) = 1 := by
  unfold needS
  rw [bare_keys, bare_movL]; rfl
theorem bare_plT (l : Nat) : plT (bareS e pg u o) l = 0 := by
  rw [plT_not _ (by rw [bare_keys]; simp)]; rfl
theorem bare_old (L : List (List Nat)) : OldLv L (bareS e pg u o) := fun _ _ h => absurd rfl h
end
/-- A new disk. -/
theorem new_sec {n : Nat} (i : Nat) (hi : i < n) : sec (newM n).last i = zs128 := by
  show (List.replicate n (List.replicate 128 0)).getD i [] = _
  rw [List.getD_eq_getElem?_getD, List.getElem?_replicate, if_pos hi]; rfl
theorem plE_zs (k : Int) : plE zs128 k = 5 := by
  have h : decE zs128 = 5 := by
    unfold decE
    rw [if_neg (by decide), if_pos rfl]
  unfold plE
  rw [h, if_neg (by omega)]
theorem nw_zs : nwE zs128 zs128 = 5 ∧ nwA zs128 zs128 = Rt.none_ ∧ nwB zs128 zs128 = Rt.none_ := by
  have h : nwE zs128 zs128 = 5 := by
    unfold nwE
    rw [plE_zs, plE_zs]; rfl
  unfold nwA nwB
  rw [h]
  exact ⟨rfl, rfl, rfl⟩
theorem new_ld {n : Nat} (hn : 16 ≤ n) : ldE (newM n) = 5 ∧ ldA (newM n) = Rt.none_ ∧ ldB (newM n) = Rt.none_ := by
  have hl : (newM n).out.length = n := by show (List.replicate n _).length = n; rw [List.length_replicate]
  have e0 : readS (newM n) ((0 : Nat) : Int) = zs128 := (readS_up (m := newM n) (i := 0) rfl (by omega)).trans (new_sec 0 (by omega))
  have e4 : readS (newM n) ((4 : Nat) : Int) = zs128 := (readS_up (m := newM n) (i := 4) rfl (by omega)).trans (new_sec 4 (by omega))
  have h := ld_nw (m := newM n) rfl (by omega) e0 e4
  rw [nw_zs.1, nw_zs.2.1, nw_zs.2.2] at h
  exact h
theorem used_none (m : Dsk) : usedM m Rt.none_ = none := by
  have h : loadEr m Rt.none_ = 13 := by
    unfold loadEr
    rw [if_pos (.inl (by decide))]
  unfold usedM
  rw [h]; rfl
theorem new_fmt {pg : Nat} (h4 : 4 ≤ pg) (h5 : pg ≤ 512) : fmtS (newM (4 * pg)) = bareS 0 pg none none := by
  have h := new_ld (n := 4 * pg) (by omega)
  have hp : pgOf (newM (4 * pg)) = pg := by
    unfold pgOf
    rw [show (newM (4 * pg)).out.length = 4 * pg by show (List.replicate _ _).length = _; rw [List.length_replicate]]
    omega
  rw [fmt_bare, h.2.1, h.2.2, used_none, hp]; rfl
end Go.Proofs.YthcnofdihigohaaGreat
end
section
/- Commits that aren't cut: what they leave, and how much was done. -/
set_option maxRecDepth 20000
set_option linter.unusedSimpArgs false
namespace Go.Proofs.YthcnofdihigohaaGreat
open Go.RowKit

theorem bar_done (m : Dsk) : (barM m).done ≤ m.done + 1 := by
  unfold barM burns burnt
  split
  · exact Nat.le_succ _
  · split
    · exact Nat.le_succ _
    · exact Nat.le_refl _
theorem wpE_done (m : Dsk) (p : Nat) (b : List Nat) : ∀ i, (wpE m p b i).1.done ≤ m.done + i
  | 0 => Nat.le_refl _
  | i + 1 => by
    have ih := wpE_done m p b i
    unfold wpE
    split
    · omega
    · have := (put_bounds (wpE m p b i).1 ((4 * p + i : Nat) : Int) ((b.drop (i * 128)).take 128)).1
      show (putM _ _ _).done ≤ _
      omega
theorem layW_done (m : Dsk) (ps : List (Nat × List Nat)) : ∀ k, (layW m ps k).1.done ≤ m.done + 4 * k
  | 0 => Nat.le_refl _
  | k + 1 => by
    have ih := layW_done m ps k
    unfold layW
    split
    · omega
    · have := wpE_done (layW m ps k).1 (ps.getD k (0, [])).1 (ps.getD k (0, [])).2 4
      omega
theorem layM_done (m : Dsk) (ps : List (Nat × List Nat)) (r : Rt) : (layM m ps r).1.done ≤ m.done + 4 * ps.length + 3 := by
  have h1 := layW_done m ps ps.length
  have h2 := bar_done (layW m ps ps.length).1
  have h3 := (put_bounds (barM (layW m ps ps.length).1) (place r.ep) (block r)).1
  have h4 := bar_done (putM (barM (layW m ps ps.length).1) (place r.ep) (block r))
  unfold layM
  split
  · omega
  · split
    · show (barM _).done ≤ _; omega
    · split
      · show (putM _ _ _).done ≤ _; omega
      · show (barM _).done ≤ _; omega
theorem need_le (s : Sp) : needS s ≤ 517 := by
  have h1 := movL_len s
  have h2 : s.fr.keys.length ≤ 512 := by
    unfold Pgs.keys
    exact Nat.le_trans (List.length_filter_le _ _) (by simp)
  unfold needS
  omega
theorem Inv.comm2 {m : Dsk} {s : Sp} {pg : Nat} (h : Inv m s pg) (hN : needS s ≤ (freeL s).length) (word : Int) (hm : may (nextR s word) = true) :
    (layM m (plW s (nextR s word)) (planRt s (nextR s word))).2 = 0 ∧ ∀ p, 2 ≤ p → pageB (layM m (plW s (nextR s word)) (planRt s (nextR s word))).1.out p = pageB (wrP m.out (plW s (nextR s word))) p := by
  have hB := h.sp.base
  have hM : Mays (planRt s (nextR s word)) := plan_mays hB hN h.sp.pgE hm
  have hlen := h.len
  have hp4 := hB.p4
  have hpl : place (planRt s (nextR s word)).ep = ((if (s.g.r.ep + 1) % 2 = 1 then 4 else 0 : Nat) : Int) := place_nat hM.e0 hM.e1
  have hlt : (if (s.g.r.ep + 1) % 2 = 1 then 4 else 0 : Nat) < m.out.length := by split <;> omega
  have hL := lay_laid h.up h.row (psOk hB hN (nextR s word) (by omega)) hpl hlt
  generalize layM m (plW s (nextR s word)) (planRt s (nextR s word)) = M at *
  cases hL with
  | all e d r o f =>
    refine ⟨e, fun p hp => ?_⟩
    rw [o]
    exact pageB_set (wrP m.out (plW s (nextR s word))) (pl := if (s.g.r.ep + 1) % 2 = 1 then 4 else 0) (block (planRt s (nextR s word))) (by split <;> omega)
  | cut _ _ f => exact absurd h.fuse f
  | half _ _ f => exact absurd h.fuse f
/-- The document's space, new. -/
def Xv.new : Xv := ⟨fun _ => [], fun _ => [], fun _ => false, 0, 1⟩
theorem new_len (n : Nat) : (newM n).out.length = n := by show (List.replicate n _).length = n; rw [List.length_replicate]
theorem first_free {pg : Nat} (h4 : 4 ≤ pg) (h5 : pg ≤ 512) : needS (bareS 0 pg none none) ≤ (freeL (bareS 0 pg none none)).length := by
  rw [bare_need]
  have h : 2 ∈ freeL (bareS 0 pg none none) := (free_mem (bare_base 0 pg none none h4 h5)).2 ⟨by omega, Nat.le_refl _, rfl⟩
  exact List.length_pos_of_mem h
theorem first_may {pg : Nat} (h4 : 4 ≤ pg) (h5 : pg ≤ 512) : may (nextR (bareS 0 pg none none) 0) = true := by
  refine Mays.may (r := ⟨0 + 1, (pg : Int), 2, 0⟩) ⟨by show (1 : Int) ≤ 0 + 1; omega, by show (0 : Int) + 1 ≤ 4611686018427387904; omega, by show (4 : Int) ≤ (pg : Int); omega, by show (pg : Int) ≤ 512; omega, by show (2 : Int) ≤ 2; omega, by show (2 : Int) < (pg : Int); omega, by show (0 : Int) ≤ 0; omega, by show (0 : Int) ≤ 2147483647; omega⟩
theorem first_inv {pg : Nat} (h4 : 4 ≤ pg) (h5 : pg ≤ 512) (hok : Ok (layM (newM (4 * pg)) (plW (bareS 0 pg none none) (nextR (bareS 0 pg none none) 0)) (planRt (bareS 0 pg none none) (nextR (bareS 0 pg none none) 0))).1) :
    (layM (newM (4 * pg)) (plW (bareS 0 pg none none) (nextR (bareS 0 pg none none) 0)) (planRt (bareS 0 pg none none) (nextR (bareS 0 pg none none) 0))).2 = 0 ∧ Inv (layM (newM (4 * pg)) (plW (bareS 0 pg none none) (nextR (bareS 0 pg none none) 0)) (planRt (bareS 0 pg none none) (nextR (bareS 0 pg none none) 0))).1 (commS (bareS 0 pg none none) (nextR (bareS 0 pg none none) 0)) pg ∧
      Sim (commS (bareS 0 pg none none) (nextR (bareS 0 pg none none) 0)) (layM (newM (4 * pg)) (plW (bareS 0 pg none none) (nextR (bareS 0 pg none none) 0)) (planRt (bareS 0 pg none none) (nextR (bareS 0 pg none none) 0))).1.out Xv.new ∧ sec (layM (newM (4 * pg)) (plW (bareS 0 pg none none) (nextR (bareS 0 pg none none) 0)) (planRt (bareS 0 pg none none) (nextR (bareS 0 pg none none) 0))).1.out 0 = zs128 := by
  have hB := bare_base 0 pg none none h4 h5
  have hN := first_free h4 h5
  have hm := first_may h4 h5
  have hT : ∀ l, plT (bareS 0 pg none none) l = 0 := bare_plT 0 pg none none
  have hO := bare_old 0 pg none none (newM (4 * pg)).out
  have hpgE : (bareS 0 pg none none).g.r.pg = (pg : Int) := rfl
  have hep : (bareS 0 pg none none).g.r.ep = 0 := rfl
  generalize bareS 0 pg none none = s at *
  have hM : Mays (planRt s (nextR s 0)) := plan_mays hB hN hpgE hm
  have hlen := new_len (4 * pg)
  have hpe : (planRt s (nextR s 0)).ep = 1 := by show s.g.r.ep + 1 = 1; rw [hep]; rfl
  have hpl : place (planRt s (nextR s 0)).ep = ((4 : Nat) : Int) := by rw [hpe]; rfl
  have hL := lay_laid (m := newM (4 * pg)) rfl rfl (psOk hB hN (nextR s 0) (by omega)) hpl (by omega)
  have hlow := low_stay (L := (newM (4 * pg)).out) hB hN (nextR s 0)
  generalize hMM : layM (newM (4 * pg)) (plW s (nextR s 0)) (planRt s (nextR s 0)) = M at *
  have hwl := wrP_len (newM (4 * pg)).out (plW s (nextR s 0))
  cases hL with
  | all e d r o f =>
    have hsec : ∀ k, sec M.1.out k = if k = 4 then block (planRt s (nextR s 0)) else sec (wrP (newM (4 * pg)).out (plW s (nextR s 0))) k := fun k => by
      rw [o, sec_set _ (by omega)]
      by_cases e : k = 4
      · subst e; rw [if_pos rfl]
      · rw [if_neg (fun h => e h.symm), if_neg e]
    have hz : sec M.1.out 0 = zs128 := by
      rw [hsec 0, if_neg (by omega), hlow 0 (by omega)]
      exact new_sec 0 (by omega)
    have h44 : sec M.1.out 4 = block (planRt s (nextR s 0)) := by rw [hsec 4, if_pos rfl]
    refine ⟨e, ⟨d, r, f rfl, by rw [o, List.length_set, hwl]; exact hlen, hok, ?_, ?_⟩, ?_, hz⟩
    · exact Base.comm (r := nextR s 0) hB hO (by omega) hN hpgE hm (by rw [o, List.length_set, hwl]) (fun p hp => by rw [o]; exact pageB_set _ _ (by omega))
    · refine ⟨hM, by rw [hz]; decide, by rw [h44]; exact block_len _, ?_, fun k hk => ?_⟩
      · show sec M.1.out (if (planRt s (nextR s 0)).ep % 2 = 1 then 4 else 0) = _
        rw [hpe]; exact h44
      · have hk : k = (if (planRt s (nextR s 0)).ep % 2 = 1 then 0 else 4) := hk
        rw [hpe] at hk
        have hk : k = 0 := hk
        subst hk
        rw [hz, plE_zs]; exact .inl (by omega)
    · have hc : ∀ l, comS (commS s (nextR s 0)) M.1.out l = [] := fun l => by
        unfold comS
        show (if plT s l = 0 then [] else _) = []
        rw [if_pos (hT l)]
      refine ⟨fun l _ => (hc l).symm, fun l _ => ?_, fun _ _ => rfl, rfl, ?_⟩
      · exact (hc l).symm
      · show (1 : Int) = s.g.r.ep + 1; rw [hep]; rfl
  | cut _ _ f => exact absurd rfl f
  | half _ _ f => exact absurd rfl f
end Go.Proofs.YthcnofdihigohaaGreat
end
section
/- The pages that the state ahead of the last one needs: they are pages of the disk: without memory. -/
set_option maxRecDepth 20000
set_option linter.unusedSimpArgs false
namespace Go.Proofs.YthcnofdihigohaaGreat
open Go.RowKit

theorem loadF_ok {f : Nat → Nat} (h : Tb.Ok f) (i : Int) (bs : List Nat) : Tb.Ok (Tb.loadF f i bs) := by
  unfold Tb.loadF
  split
  · rename_i h0
    refine h.over _ 0 128 (fun j hj => ?_)
    rw [Nat.zero_add]
    have h1 : Tb.okV (Tb.valB bs) 128 = true := by
      unfold Tb.loadE at h0
      split at h0
      · cases h0
      · split at h0
        · rename_i h2; exact absurd h0 h2
        · split at h0
          · assumption
          · cases h0
    unfold Tb.okV at h1
    exact of_decide_eq_true h1 j hj
  · exact h
theorem leafM_ok2 (m : Dsk) (r : Rt) (lv : Nat → Nat) {tb : Nat → Nat} (h : Tb.Ok tb) (i : Nat) : Tb.Ok (leafM m r lv tb i).2 := by
  unfold leafM
  split
  · exact h
  · split
    · exact h
    · split
      · exact h
      · split
        · exact loadF_ok h _ _
        · exact loadF_ok h _ _
theorem lfM_ok2 (m : Dsk) (r : Rt) (lv : Nat → Nat) : ∀ i, Tb.Ok (lfM m r lv i).2
  | 0 => fun _ => rfl
  | i + 1 => by
    have ih := lfM_ok2 m r lv i
    unfold lfM
    split
    · exact ih
    · exact leafM_ok2 m r lv ih i
theorem usF_two {r : Rt} {lv tb : Nat → Nat} (hd : 2 ≤ r.dr) (hl : ∀ i, i < 4 → Tb.pgN (lv i) = true) (ht : Tb.Ok tb) (hA : ApartS r lv tb) {p : Nat} (hp : usF r lv tb p = true) : 2 ≤ p ∧ (p : Int) < r.pg := by
  obtain ⟨h0, n, hn, rfl⟩ := usF_iff.1 hp
  refine ⟨?_, hA.lt n (List.mem_range.2 hn) h0⟩
  unfold lab at h0 ⊢
  by_cases e0 : n = 0
  · rw [if_pos e0] at h0 ⊢; omega
  · rw [if_neg e0] at h0 ⊢
    by_cases e5 : n < 5
    · rw [if_pos e5] at h0 ⊢
      have := hl (n - 1) (by omega)
      unfold Tb.pgN at this
      simp at this; omega
    · rw [if_neg e5] at h0 ⊢
      have := ht (n - 5)
      unfold Tb.pgN at this
      simp at this; omega
theorem usedM_in {m : Dsk} {r : Rt} {f : Nat → Bool} (h : usedM m r = some f) {p : Nat} (hp : f p = true) : 2 ≤ p ∧ p < pgOf m := by
  unfold usedM at h
  split at h
  · rename_i h0
    have hus : (loadSt m r).us = some (pgsM r (Tb.valB (dirBs m r)) (lfM m r (Tb.valB (dirBs m r)) 4).2).1 := rfl
    rw [hus] at h
    unfold loadEr at h0
    split at h0
    · cases h0
    · rename_i h1
      rw [not_or] at h1
      split at h0
      · cases h0
      · rename_i h2
        split at h0
        · rename_i h3; exact absurd h0 h3
        · split at h0
          · cases h0
          · rename_i h4
            rw [not_or] at h4
            have hm := may_yes (show may r = true by simpa using h1.1)
            have hd := hm.d0
            have hpg := hm.p1
            have hA := pgsM_apart hd hpg (show (pgsM r (Tb.valB (dirBs m r)) (lfM m r (Tb.valB (dirBs m r)) 4).2).2 = true by simpa using h4.1)
            rw [pgsM_yes hd hpg hA] at h
            cases h
            have hv : ∀ i, i < 4 → Tb.pgN (Tb.valB (dirBs m r) i) = true := by
              have h5 : Tb.dirE 512 (dirBs m r) = 0 := Decidable.not_not.1 h2
              unfold Tb.dirE at h5
              split at h5
              · rename_i h6; exact absurd h5 h6
              · split at h5
                · rename_i h7
                  rw [Bool.and_eq_true] at h7
                  have h8 := h7.1
                  unfold Tb.okV at h8
                  exact of_decide_eq_true h8
                · cases h5
            have := usF_two hd hv (lfM_ok2 m r _ 4) hA hp
            omega
  · cases h
/-- The pages of the state ahead of the last one are pages of the disk. -/
def OdOk (s : Sp) (pg : Nat) : Prop := ∀ f, s.od = some f → ∀ p, f p = true → 2 ≤ p ∧ p < pg
theorem us_in {s : Sp} {L : List (List Nat)} {pg : Nat} (h : SpGood s L pg) {p : Nat} (hp : usF s.g.r s.g.lv s.g.tb p = true) : 2 ≤ p ∧ p < pg := by
  have h1 := usF_two h.g.mays.d0 h.g.okl h.g.okt h.g.ap hp
  have h2 := h.pgE
  omega
theorem held_in {s : Sp} {L : List (List Nat)} {pg : Nat} (h : SpGood s L pg) (ho : OdOk s pg) {p : Nat} (hp : heldS s p = true) : 2 ≤ p ∧ p < pg := by
  unfold heldS orB at hp
  rw [h.g.us] at hp
  cases e : s.od with
  | none =>
    rw [e] at hp
    exact us_in h (by simpa using hp)
  | some f =>
    rw [e] at hp
    simp only [Bool.false_or, Bool.or_eq_true] at hp
    rcases hp with hp | hp
    · exact us_in h hp
    · exact ho f e p hp
theorem od_comm {s : Sp} {L : List (List Nat)} {pg : Nat} (h : SpGood s L pg) (r : Rt) : OdOk (commS s r) pg := fun f e p hp => by
  have e : s.g.us = some f := e
  rw [h.g.us] at e
  cases e
  exact us_in h hp
theorem od_open {m : Dsk} {pg : Nat} (hl : m.out.length = 4 * pg) : OdOk (openS m) pg := fun f e p hp => by
  have e : usedM m (ldB m) = some f := e
  have h := usedM_in e hp
  unfold pgOf at h
  omega
theorem fil_cnt (f : Nat → Bool) (h : ∀ p, f p = true → 2 ≤ p) : ∀ n, ((List.range n).filter (frB f)).length + Bi.cnt f n = n - 2
  | 0 => rfl
  | n + 1 => by
    have ih := fil_cnt f h n
    rw [List.range_succ, List.filter_append, List.length_append]
    show _ + (Bi.cnt f n + (f n).toNat) = _
    have e : ((List.filter (frB f) [n]).length : Nat) = (frB f n).toNat := by
      cases e : frB f n <;> simp [e]
    rw [e]
    unfold frB
    cases e2 : f n
    · by_cases h2 : 2 ≤ n
      · rw [decide_eq_true h2]
        show _ + 1 + (_ + 0) = _
        unfold frB at ih
        omega
      · rw [decide_eq_false h2]
        show _ + 0 + (_ + 0) = _
        unfold frB at ih
        omega
    · have h2 := h n e2
      rw [decide_eq_true h2]
      show _ + 0 + (_ + 1) = _
      unfold frB at ih
      omega
theorem free_len {s : Sp} {L : List (List Nat)} {pg : Nat} (h : SpGood s L pg) (ho : OdOk s pg) : (freeL s).length + Bi.cnt (heldS s) 512 = pg - 2 := by
  have h1 := fil_cnt (heldS s) (fun p hp => (held_in h ho hp).1) pg
  have hp := h.pgs.2.1
  rw [Bi.cnt_skip (f := heldS s) (i := pg) (j := 512) hp (fun x hx _ => by
    cases e : heldS s x
    · rfl
    · have := (held_in h ho e).2; omega)]
  unfold freeL
  rw [h.pgE, Int.toNat_natCast]
  exact h1
end Go.Proofs.YthcnofdihigohaaGreat
end
section
/- What lies at the other place of a disk: without memory. -/
set_option maxRecDepth 20000
set_option linter.unusedSimpArgs false
namespace Go.Proofs.YthcnofdihigohaaGreat
open Go.RowKit

theorem sec_set_ne {L : List (List Nat)} {i j : Nat} (x : List Nat) (h : i ≠ j) : sec (L.set i x) j = sec L j := by
  unfold sec
  rw [List.getD_eq_getElem?_getD, List.getD_eq_getElem?_getD, List.getElem?_set_ne h]
/-- What lies at the other place: nothing yet, or the block of a root ahead. -/
def RootO (L : List (List Nat)) (r : Rt) : Prop := ∀ k, k = (if r.ep % 2 = 1 then 0 else 4) → ∃ was, (was = Rt.none_ ∨ Mays was) ∧ was.ep < r.ep ∧ sec L k = oldB was
theorem oldB_mays {r : Rt} (h : Mays r) : oldB r = block r := by
  have := h.e0
  unfold oldB; rw [if_neg (by omega)]
theorem RootO.next {L L' : List (List Nat)} {r r' : Rt} (h : RootIs L r) (he : r'.ep = r.ep + 1) (hs : ∀ j, j < 8 → sec L' j = sec L j) {pl : Nat} (hp : pl = (if r'.ep % 2 = 1 then 4 else 0)) : RootO (L'.set pl (block r')) r' := fun k hk => by
  have hne : pl ≠ k := by rw [hp, hk]; split <;> omega
  have hk8 : k < 8 := by rw [hk]; split <;> omega
  have hko : k = (if r.ep % 2 = 1 then 4 else 0) := by
    rw [hk, he]
    by_cases ho : r.ep % 2 = 1
    · rw [if_pos ho, if_neg (by omega)]
    · rw [if_neg ho, if_pos (by omega)]
  refine ⟨r, .inr h.mays, by omega, ?_⟩
  rw [sec_set_ne _ hne, hs k hk8, hko, h.at_, oldB_mays h.mays]
/-- Behind a commit that isn't cut the other place has the block of the state ahead. -/
theorem Inv.comm3 {m : Dsk} {s : Sp} {pg : Nat} (h : Inv m s pg) (hN : needS s ≤ (freeL s).length) (word : Int) (hm : may (nextR s word) = true) :
    RootO (layM m (plW s (nextR s word)) (planRt s (nextR s word))).1.out (planRt s (nextR s word)) := by
  have hB := h.sp.base
  have hM : Mays (planRt s (nextR s word)) := plan_mays hB hN h.sp.pgE hm
  have hlen := h.len
  have hp4 := hB.p4
  have hpl : place (planRt s (nextR s word)).ep = ((if (s.g.r.ep + 1) % 2 = 1 then 4 else 0 : Nat) : Int) := place_nat hM.e0 hM.e1
  have hlt : (if (s.g.r.ep + 1) % 2 = 1 then 4 else 0 : Nat) < m.out.length := by split <;> omega
  have hL := lay_laid h.up h.row (psOk hB hN (nextR s word) (by omega)) hpl hlt
  generalize layM m (plW s (nextR s word)) (planRt s (nextR s word)) = M at *
  cases hL with
  | all e d r o f =>
    rw [o]
    exact RootO.next h.rt rfl (fun j hj => low_stay hB hN _ j hj) rfl
  | cut _ _ f => exact absurd h.fuse f
  | half _ _ f => exact absurd h.fuse f
end Go.Proofs.YthcnofdihigohaaGreat
end
section
/- Commit over a space at rest; a new disk's space. -/
set_option maxRecDepth 20000
set_option linter.unusedSimpArgs false
namespace Go.Proofs.YthcnofdihigohaaGreat
open Go.RowKit

theorem Chg.of_below2 {w w' : World} (F : List Nat) (h : Below w.heap.size w w') : Chg F F w w' :=
  ⟨h.os, h.tape, h.output, h.size, fun k hk _ => h.block k hk, fun _ hk => .inl hk⟩
/-- A space and a disk in memory, at rest. -/
structure Rest (w : World) (d g : Nat) (F G : List Nat) (m : Dsk) (s : Sp) (pg : Nat) : Prop where
  dk : Dk w d F m
  sp : Spc w g G d s
  inv : Inv m s pg
  dn : m.done ≤ 2305843009213693951
  ep : 0 ≤ s.g.r.ep ∧ s.g.r.ep ≤ 2305843009213693951
theorem Inv.pgle {m : Dsk} {s : Sp} {pg : Nat} (h : Inv m s pg) : 4 ≤ pg ∧ pg ≤ 512 := ⟨h.sp.pgs.1, h.sp.pgs.2.1⟩
theorem getD_memP {l : List (Nat × List Nat)} {i : Nat} (h : i < l.length) : l.getD i (0, []) ∈ l := by rw [List.getD_eq_getElem?_getD, List.getElem?_eq_getElem h]; exact List.getElem_mem _
section
variable {w : World} {d g : Nat} {F G : List Nat} {m : Dsk} {s : Sp} {pg : Nat}
theorem may_word (h : Inv m s pg) (he : 0 ≤ s.g.r.ep ∧ s.g.r.ep ≤ 4611686018427387903) (word : Int) : may (nextR s word) = (decide (0 ≤ word) && decide (word ≤ 2147483647)) := by
  have h1 := h.pgle
  have h2 := h.sp.pgE
  have h3 := he.1
  have h4 := he.2
  rw [Bool.eq_iff_iff]
  constructor
  · intro hm
    have := may_yes hm
    have a := this.w0
    have b := this.w1
    have a : 0 ≤ word := a
    have b : word ≤ 2147483647 := b
    simp [a, b]
  · intro hm
    simp only [Bool.and_eq_true, decide_eq_true_eq] at hm
    exact Mays.may (r := ⟨s.g.r.ep + 1, s.g.r.pg, 2, word⟩) ⟨by show 1 ≤ s.g.r.ep + 1; omega, by show s.g.r.ep + 1 ≤ _; omega, by show 4 ≤ s.g.r.pg; omega, by show s.g.r.pg ≤ 512; omega, by show (2 : Int) ≤ 2; omega, by show 2 < s.g.r.pg; omega, hm.1, hm.2⟩
/-- What a commit leaves. -/
def CmtR (s : Sp) (m : Dsk) (word : Int) (d g : Nat) (F G : List Nat) (pg : Nat) (w w' : World) : Prop :=
  ∃ m' F' G', Dk w' d F' m' ∧ Spc w' g G' d (commS s (nextR s word)) ∧ Chg (F ++ G) (F' ++ G') w w' ∧ Inv m' (commS s (nextR s word)) pg ∧ m'.done ≤ m.done + 3000 ∧ (∀ x, Sim s m.out x → Sim (commS s (nextR s word)) m'.out (x.commit word)) ∧ RootO m'.out (planRt s (nextR s word))
theorem commit_sp (h : Rest w d g F G m s pg) (word : Int) :
    Calls Tryz.prog 24 #[.pointer (some ⟨g, 0, none⟩), .int .i64 word] w fun e w' =>
      ((0 ≤ word ∧ word ≤ 2147483647) = False ∧ e = .returned (.int .i64 7) ∧ Below w.heap.size w w') ∨
      ((0 ≤ word ∧ word ≤ 2147483647) ∧ (freeL s).length < needS s ∧ e = .returned (.int .i64 8) ∧ Below w.heap.size w w') ∨
      ((0 ≤ word ∧ word ≤ 2147483647) ∧ needS s ≤ (freeL s).length ∧ e = .returned (.int .i64 0) ∧ CmtR s m word d g F G pg w w') := by
  obtain ⟨pt, pk, mb, pu, po, hS, rfl⟩ := h.sp
  have hI := h.inv
  have hep := h.ep
  have hdn := h.dn
  have hmw := may_word hI ⟨hep.1, by have := hep.2; omega⟩ word
  have hpg := hI.pgle
  have hpgE := hI.sp.pgE
  have he1 : -9223372036854775808 ≤ s.g.r.ep ∧ s.g.r.ep ≤ 4611686018427387904 := ⟨by have := hep.1; omega, by have := hep.2; omega⟩
  cases hm : may (nextR s word)
  · refine (commit_range hS word he1 hm).mono ?_
    rintro e w' ⟨rfl, hb⟩
    refine .inl ⟨?_, rfl, hb⟩
    rw [hm] at hmw
    refine eq_false fun hh => ?_
    rw [decide_eq_true hh.1, decide_eq_true hh.2] at hmw
    cases hmw
  · have hw : 0 ≤ word ∧ word ≤ 2147483647 := by
      rw [hm] at hmw
      have := hmw.symm
      simpa [Bool.and_eq_true] using this
    by_cases hf : (freeL s).length < needS s
    · refine (commit_full hS word he1 hm pg hpgE hpg.2 hf).mono ?_
      rintro e w' ⟨rfl, hb⟩
      exact .inr (.inl ⟨hw, hf, rfl, hb⟩)
    · have hN : needS s ≤ (freeL s).length := Nat.le_of_not_lt hf
      have hB := hI.sp.base
      have hnl := need_le s
      have hpl := plW_len s (nextR s word)
      have hC2 := hI.comm2 hN word hm
      have hln := hI.len
      refine (commit_go hS h.dk word he1 hm pg hpgE hpg.2 hN (fun k hk => ?_) (by omega) (plan_mays hB hN hpgE hm) (by omega) (by omega) (by rw [hI.row]; exact Nat.zero_le _)).mono ?_
      · have h1 := plW_ok hB hN (nextR s word) (getD_memP hk)
        exact ⟨h1.1, h1.2.1, by have := h1.2.2; omega⟩
      · rintro e w' ⟨rfl, F', G', hD, hC, hR⟩
        have hcm := hI.comm hN word hm hD.ok
        rcases hR with ⟨h0, _⟩ | ⟨h0, hsp⟩
        · exact absurd hcm.1 h0
        · refine .inr (.inr ⟨hw, hN, by rw [h0], _, F', G', hD, hsp, hC, hcm.2, ?_, fun x hx => hx.comm hI.sp hN word hC2.2, hI.comm3 hN word hm⟩)
          have := layM_done m (plW s (nextR s word)) (planRt s (nextR s word))
          omega
/-- The space that Format makes of a new disk. -/
def newS (pg : Nat) : Sp := commS (bareS 0 pg none none) (nextR (bareS 0 pg none none) 0)
theorem chg_more {w u w' : World} {F F' G G' : List Nat} (hb : Below w.heap.size w u) (hc : Chg (F ++ G) (F' ++ G') u w') (hF : ∀ k ∈ G, w.heap.size ≤ k) : Chg F (F' ++ G') w w' :=
  ⟨hc.os.trans hb.os, hc.tape.trans hb.tape, hc.output.trans hb.output, Nat.le_trans hb.size hc.size, fun k hk hn => (hc.block k (Nat.lt_of_lt_of_le hk hb.size) (fun h => (List.mem_append.1 h).elim hn (fun h2 => absurd hk (Nat.not_lt.2 (hF k h2))))).trans (hb.block k hk), fun k hk => (hc.fresh k hk).elim (fun h => (List.mem_append.1 h).imp id (hF k)) (fun h => .inr (Nat.le_trans hb.size h))⟩
theorem format_new {pg : Nat} (h4 : 4 ≤ pg) (h5 : pg ≤ 512) (hD : Dk w d F (newM (4 * pg))) :
    Calls Tryz.prog 9 #[.pointer (some ⟨d, 0, none⟩)] w fun e w' => ∃ g F' G m, e = .returned (.tuple #[.pointer (some ⟨g, 0, none⟩), .int .i64 0]) ∧ Rest w' d g F' G m (newS pg) pg ∧ Chg F (F' ++ G) w w' ∧ Sim (newS pg) m.out Xv.new ∧ m.done ≤ 100 ∧ RootO m.out (newS pg).g.r := by
  have hl := new_len (4 * pg)
  have hld := new_ld (n := 4 * pg) (by omega)
  refine (format_go hD rfl (by omega) (.inr (.inl hld.1)) (fun g E w' => E = 0 ∧ ∃ F' G m, Rest w' d g F' G m (newS pg) pg ∧ Chg F (F' ++ G) w w' ∧ Sim (newS pg) m.out Xv.new ∧ m.done ≤ 100 ∧ RootO m.out (newS pg).g.r) ?_).mono ?_
  · intro u g pt pk mb pu po hS hb k1 k2 k3 k4
    rw [new_fmt h4 h5] at hS
    have hB := bare_base 0 pg none none h4 h5
    have hN := first_free h4 h5
    have hm := first_may h4 h5
    have hnd := bare_need 0 pg none none
    have hpl := plW_len (bareS 0 pg none none) (nextR (bareS 0 pg none none) 0)
    refine (commit_go hS (hD.below hb) 0 ⟨by show -9223372036854775808 ≤ (0 : Int); omega, by show (0 : Int) ≤ 4611686018427387904; omega⟩ hm pg rfl h5 hN (fun k hk => ?_) (by omega) (plan_mays hB hN rfl hm) (by show (pg : Int) * 4 ≤ _; rw [hl]; omega) (by show (0 : Nat) ≤ _; omega) (by show (0 : Nat) ≤ _; omega)).mono ?_
    · have h1 := plW_ok hB hN (nextR (bareS 0 pg none none) 0) (getD_memP hk)
      exact ⟨h1.1, h1.2.1, by have := h1.2.2; omega⟩
    · rintro e w' ⟨rfl, F', G', hD', hC, hR⟩
      have hf := first_inv h4 h5 hD'.ok
      have hdn := layM_done (newM (4 * pg)) (plW (bareS 0 pg none none) (nextR (bareS 0 pg none none) 0)) (planRt (bareS 0 pg none none) (nextR (bareS 0 pg none none) 0))
      have hd0 : (newM (4 * pg)).done = 0 := rfl
      rcases hR with ⟨h0, _⟩ | ⟨h0, hsp⟩
      · exact absurd hf.1 h0
      · refine ⟨_, rfl, h0, F', G', _, ⟨hD', hsp, hf.2.1, by omega, by show (0 : Int) ≤ 0 + 1 ∧ (0 : Int) + 1 ≤ _; omega⟩, chg_more hb hC (fun k hk => ?_), hf.2.2.1, by omega, fun k hk => ⟨Rt.none_, .inl rfl, (by show (0 : Int) < 0 + 1; omega), by
          have hk : k = (if ((0 : Int) + 1) % 2 = 1 then 0 else 4) := hk
          rw [hk, oldB_none]; exact hf.2.2.2⟩⟩
        simp only [List.mem_cons, List.not_mem_nil, or_false] at hk
        rcases hk with rfl | rfl | rfl | rfl <;> assumption
  · rintro e w' ⟨g, E, rfl, h0, F', G, m, h1, h2, h3, h6⟩
    subst h0
    exact ⟨g, F', G, m, rfl, h1, h2, h3, h6⟩
end
end Go.Proofs.YthcnofdihigohaaGreat
end
section
/- lives. -/
set_option maxRecDepth 20000
set_option linter.unusedSimpArgs false
namespace Go.Proofs.YthcnofdihigohaaGreat
open Go.RowKit

theorem bare_plF {pg : Nat} : plD (bareS 0 pg none none) = (freeL (bareS 0 pg none none)).getD 0 0 := by
  rw [plD_eq, bare_keys, bare_movL]; rfl
theorem new_held : heldS (newS 16) = fun p => p == 2 := by
  have hB := bare_base 0 16 none none (by omega) (by omega)
  have hN := first_free (pg := 16) (by omega) (by omega)
  have hm := first_may (pg := 16) (by omega) (by omega)
  have hU : plU (bareS 0 16 none none) (nextR (bareS 0 16 none none) 0) = usF (planRt (bareS 0 16 none none) (nextR (bareS 0 16 none none) 0)) (plL (bareS 0 16 none none)) (plT (bareS 0 16 none none)) := plU_eq hB hN rfl hm
  have hd : plD (bareS 0 16 none none) = 2 := by rw [bare_plF]; decide
  have hL : ∀ i, i < 4 → plL (bareS 0 16 none none) i = 0 := fun i hi => by
    rw [plL_not _ hi (bare_mov0 0 16 none none i), if_pos]
    rw [show plT (bareS 0 16 none none) = fun _ => 0 from funext (bare_plT 0 16 none none)]
    exact bareB_zero i
  have hT := bare_plT 0 16 none none
  funext p
  have e : heldS (newS 16) p = plU (bareS 0 16 none none) (nextR (bareS 0 16 none none) 0) p := by
    show ((false || plU (bareS 0 16 none none) (nextR (bareS 0 16 none none) 0) p) || false) = _
    simp
  rw [e, hU, Bool.eq_iff_iff, usF_iff]
  have l0 : lab (planRt (bareS 0 16 none none) (nextR (bareS 0 16 none none) 0)) (plL (bareS 0 16 none none)) (plT (bareS 0 16 none none)) 0 = 2 := by
    unfold lab
    rw [if_pos rfl]
    show ((plD (bareS 0 16 none none) : Nat) : Int).toNat = 2
    rw [hd]; rfl
  constructor
  · rintro ⟨h0, n, hn, rfl⟩
    by_cases e0 : n = 0
    · subst e0; rw [l0]; rfl
    · exfalso
      apply h0
      unfold lab
      rw [if_neg e0]
      split
      · exact hL _ (by omega)
      · exact hT _
  · intro h
    have h : p = 2 := by simpa using h
    subst h
    exact ⟨by omega, 0, by omega, l0⟩
theorem cnt_two : Bi.cnt (fun p => p == 2) 512 = 1 := by
  rw [Bi.cnt_skip (f := fun p => p == 2) (i := 3) (j := 512) (by omega) (fun x h1 h2 => by simp; omega)]
  rfl
theorem new_free : (freeL (newS 16)).length = 13 := by
  unfold freeL
  rw [new_held]
  rfl
set_option maxHeartbeats 1600000 in
theorem lives_any (w : World) : Calls Tryz.prog 10 #[] w fun e w' => e = .returned (.bool true) ∧ Below w.heap.size w w' := by
  have HN := Lib.hid (new_any 64 w (by omega) (by omega))
  go_enter Tryz.func10, Tryz.ntmps10
  go_upto_region 2 with (go_at_call 39; refine HN.out.mono ?_; rintro e w1 ⟨d, F, rfl, hD, hF, hb⟩)
  have HF := Lib.hid (format_new (pg := 16) (by omega) (by omega) hD)
  have HB := Lib.hid hb
  have HK := Lib.hid hF
  clear hD hb hF HN
  go_upto_region 3 with (go_at_call 9; refine HF.out.mono ?_; rintro e w2 ⟨g, F', G, m, rfl, hR, hC, _, _⟩)
  have HR := Lib.hid hR
  have HB2 : Hid (Below w.heap.size w w2) := Lib.hid ⟨hC.os.trans HB.out.os, hC.tape.trans HB.out.tape, hC.output.trans HB.out.output, Nat.le_trans HB.out.size hC.size, fun k hk => (hC.block k (Nat.lt_of_lt_of_le hk HB.out.size) (fun h => absurd hk (Nat.not_lt.2 (HK.out k h)))).trans (HB.out.block k hk)⟩
  clear hR hC HF
  obtain ⟨pt, pk, mb, pu, po, hS, rfl⟩ := HR.out.sp
  have HS := Lib.hid hS
  clear hS
  have HP : Hid (∀ u, Below w2.heap.size w2 u → Calls Tryz.prog 16 #[.pointer (some ⟨g, 0, none⟩)] u fun e w' => e = .returned (.int .i64 16) ∧ Below u.heap.size u w') := Lib.hid fun u hu => pages_any (HS.out.below hu)
  have HH : Hid (∀ u, Below w2.heap.size w2 u → Calls Tryz.prog 12 #[.pointer (some ⟨g, 0, none⟩)] u fun e w' => (∃ g' b', e = .returned (.pointer (some ⟨g', 0, none⟩)) ∧ Bi.Sat w' g' b' 512 (fun p => p == 2)) ∧ Below u.heap.size u w') := Lib.hid fun u hu => (held_any (HS.out.below hu)).mono fun e w' ⟨⟨g', b', he, _, _, hs⟩, hb⟩ => ⟨⟨g', b', he, by rw [new_held] at hs; exact hs⟩, hb⟩
  have HFR : Hid (∀ u, Below w2.heap.size w2 u → Calls Tryz.prog 20 #[.pointer (some ⟨g, 0, none⟩)] u fun e w' => e = .returned (.int .i64 13) ∧ Below u.heap.size u w') := Lib.hid fun u hu => by
    have := Free_any (HS.out.below hu) 16 rfl (by omega)
    rw [new_free] at this
    exact this
  go_wp2_with (first
    | (go_at_call 16; refine (HP.out _ (Below.refl _ _)).mono ?_; rintro e w3 ⟨rfl, hb3⟩; have HB3 := Lib.hid hb3; clear hb3)
    | (go_at_call 12; refine (HH.out _ HB3.out).mono ?_; rintro e w4 ⟨⟨g', b', rfl, hs⟩, hb4⟩; have HS4 := Lib.hid hs; have HB4 := Lib.hid (Below.more HB3.out hb4 HB3.out.size); clear hs hb4)
    | (go_at_call 21; refine (Bi.count_any HS4.out).mono ?_; rw [cnt_two]; rintro e w5 ⟨rfl, hb5⟩; have HB5 := Lib.hid (Below.more HB4.out hb5 HB4.out.size); clear hb5)
    | (go_at_call 20; refine (HFR.out _ HB5.out).mono ?_; rintro e w6 ⟨rfl, hb6⟩; have HB6 := Lib.hid (Below.more HB5.out hb6 HB5.out.size); clear hb6))
  go_ret
  exact ⟨rfl, Below.more HB2.out HB6.out HB2.out.size⟩
end Go.Proofs.YthcnofdihigohaaGreat
end
section
/- The document's space in memory; what the document's functions on it return. -/
set_option maxRecDepth 20000
set_option linter.unusedSimpArgs false
namespace Go.Proofs.YthcnofdihigohaaGreat
open Go.RowKit

/-- From this address on these texts lie. -/
def Txt (w : World) (g o : Nat) (f : Nat → List Nat) : Prop := ∀ l, l < 512 → w.cell? ⟨g, o + l, none⟩ = some (.string (strB (f l)))
theorem txt_empty (b : List Nat) : (strB b).toList.isEmpty = b.isEmpty := by
  have h : (strB b).size = b.length := strB_size b
  cases b with
  | nil => rw [strB_nil]; decide +kernel
  | cons x b =>
    cases e : (strB (x :: b)).toList with
    | nil =>
      rw [ByteArray.toList_eq] at e
      have : (strB (x :: b)).size = 0 := by
        show (strB (x :: b)).data.size = 0
        rw [← Array.length_toList, e]; rfl
      rw [h] at this; cases this
    | cons y c => rfl
set_option maxHeartbeats 800000 in
theorem count_any {w : World} {g o : Nat} {f : Nat → List Nat} (h : Txt w g o f) : Calls Tryz.prog 35 #[.pointer (some ⟨g, o, none⟩)] w fun e w' => e = .returned (.int .i64 (Bi.cnt (nn f) 512 : Int)) ∧ w = w' := by
  have HT := Lib.hid h
  clear h
  go_enter Tryz.func35, Tryz.ntmps35
  go_wp2_with fail
  go_loop [3, 4] (fun nv iv => ∃ i : Nat, i ≤ 512 ∧ iv = .int .i64 (i : Int) ∧ nv = .int .i64 ((Bi.cnt (nn f) i : Nat) : Int)) (fun _ iv => 512 - (RowKit.intOf iv).toNat)
  case atStart => exact ⟨0, by omega, by go_num, rfl⟩
  case round =>
    obtain ⟨i, hi, rfl, rfl⟩ := hrel
    by_cases hlt : i < 512
    · have hiN : (i : Int) < 512 := by omega
      have hc := HT.out i hlt
      have hn : Bi.cnt (nn f) i ≤ i := Bi.cnt_le _ _
      have he := txt_empty (f i)
      obtain ⟨N, hN⟩ : ∃ N, Hid (Bi.cnt (nn f) i = N) := ⟨_, Lib.hid rfl⟩
      have hS : Bi.cnt (nn f) (i + 1) = N + (!(f i).isEmpty).toNat := by rw [← hN.out]; rfl
      have HS := Lib.hid hS
      clear hS
      rw [hN.out] at hn ⊢
      generalize strB (f i) = S at *
      cases e : (f i).isEmpty with
      | true =>
        rw [e] at he
        have HE : Hid ((!true).toNat = 0) := Lib.hid rfl
        rw [e] at HS
        clear e
        go_wp2_with fail
        go_round
        case rel => exact ⟨i + 1, by omega, by go_num, by rw [HS.out]; rfl⟩
        case measure => simp [RowKit.intOf]; omega
      | false =>
        rw [e] at he HS
        clear e
        go_wp2_with fail
        go_round
        case rel => exact ⟨i + 1, by omega, by go_num, by rw [HS.out]; go_num⟩
        case measure => simp [RowKit.intOf]; omega
    · obtain rfl : i = 512 := by omega
      go_wp2_with fail
      go_ret
      exact ⟨rfl, rfl⟩
/-- The least page that isn't there. -/
def gapI (f : Nat → List Nat) : Int := Bi.num (gapF (nn f) 512 0)
set_option maxHeartbeats 800000 in
theorem gap_any {w : World} {g o : Nat} {f : Nat → List Nat} (h : Txt w g o f) : Calls Tryz.prog 73 #[.pointer (some ⟨g, o, none⟩)] w fun e w' => e = .returned (.int .i64 (gapI f)) ∧ w = w' := by
  have HT := Lib.hid h
  clear h
  go_enter Tryz.func73, Tryz.ntmps73
  go_wp2_with fail
  go_loop [3] (fun iv => ∃ i : Nat, i ≤ 512 ∧ iv = .int .i64 (i : Int) ∧ Hid (gapF (nn f) 512 0 = gapF (nn f) (512 - i) i)) (fun iv => 512 - (RowKit.intOf iv).toNat)
  case atStart => exact ⟨0, by omega, by go_num, Lib.hid rfl⟩
  case round =>
    obtain ⟨i, hi, rfl, HG⟩ := hrel
    by_cases hlt : i < 512
    · have hiN : (i : Int) < 512 := by omega
      have hc := HT.out i hlt
      have he := txt_empty (f i)
      have hS : gapF (nn f) (512 - i) i = if !(f i).isEmpty then gapF (nn f) (512 - (i + 1)) (i + 1) else some i := by
        rw [show 512 - i = (512 - (i + 1)) + 1 by omega]; rfl
      have HS := Lib.hid (HG.out.trans hS)
      clear hS
      generalize strB (f i) = S at *
      cases e : (f i).isEmpty with
      | true =>
        rw [e] at he HS
        clear e
        have HE : Hid (gapI f = (i : Int)) := Lib.hid (by unfold gapI; rw [HS.out]; rfl)
        clear HS
        go_wp2_with fail
        go_ret
        exact ⟨by rw [HE.out]; rfl, rfl⟩
      | false =>
        rw [e] at he HS
        clear e
        have HE : Hid (gapF (nn f) 512 0 = gapF (nn f) (512 - (i + 1)) (i + 1)) := Lib.hid HS.out
        clear HS
        go_wp2_with fail
        go_round
        case rel => exact ⟨i + 1, by omega, by go_num, HE⟩
        case measure => simp [RowKit.intOf]; omega
    · obtain rfl : i = 512 := by omega
      have HE : Hid (gapI f = -1) := Lib.hid (by unfold gapI; rw [HG.out]; rfl)
      clear HG
      go_wp2_with fail
      go_ret
      exact ⟨by rw [HE.out]; rfl, rfl⟩
/-- The document's space lies in block g. -/
structure Xb (w : World) (g : Nat) (x : Xv) : Prop where
  com : Txt w g 0 x.com
  now : Txt w g 512 x.now
  dirty : ∀ l, l < 512 → w.cell? ⟨g, 1024 + l, none⟩ = some (.bool (x.dirty l))
  word : w.cell? ⟨g, 1536, none⟩ = some (.int .i64 x.word)
  ep : w.cell? ⟨g, 1537, none⟩ = some (.int .i64 x.ep)
  box : ∃ cs, w.heap[g]? = some (.cells cs 41 (0, 0)) ∧ cs.size = 1538
theorem Xb.same {w w' : World} {g : Nat} {x : Xv} (h : Xb w g x) (hb : w'.heap[g]? = w.heap[g]?) : Xb w' g x := by
  have hc : ∀ i, w'.cell? ⟨g, i, none⟩ = w.cell? ⟨g, i, none⟩ := fun i => World.cell?_of_block hb
  exact ⟨fun l hl => (hc _).trans (h.com l hl), fun l hl => (hc _).trans (h.now l hl), fun l hl => (hc _).trans (h.dirty l hl), (hc _).trans h.word, (hc _).trans h.ep, by rw [hb]; exact h.box⟩
theorem Xb.lt {w : World} {g : Nat} {x : Xv} (h : Xb w g x) : g < w.heap.size := by obtain ⟨cs, hc, _⟩ := h.box; exact lt_of_block hc
theorem Xb.below {w w' : World} {g : Nat} {x : Xv} (h : Xb w g x) (hb : Below w.heap.size w w') : Xb w' g x := h.same (hb.block g h.lt)
theorem Xb.fz {w : World} {g : Nat} {x : Xv} (h : Xb w g x) (i : Nat) : w.frozen? ⟨g, i, none⟩ = false := by obtain ⟨cs, hc, _⟩ := h.box; exact frozen_of_row w g i _ _ hc
/-- Is this page there, by the document? -/
def thX (f : Nat → List Nat) (y : Int) : Bool := decide (0 ≤ y) && decide (y < 512) && nn f y.toNat
set_option maxHeartbeats 800000 in
theorem there_any {w : World} {g : Nat} {x : Xv} (h : Xb w g x) (y : Int) (h0 : -9223372036854775808 ≤ y) (h1 : y ≤ 9223372036854775807) : Calls Tryz.prog 37 #[.pointer (some ⟨g, 0, none⟩), .int .i64 y] w fun e w' => e = .returned (.bool (thX x.now y)) ∧ w = w' := by
  by_cases hy : 0 ≤ y
  · obtain ⟨l, rfl⟩ : ∃ l : Nat, y = (l : Int) := ⟨y.toNat, by omega⟩
    by_cases hl : l < 512
    · have hc := h.now l hl
      have he := txt_empty (x.now l)
      have HE : Hid (thX x.now (l : Int) = !(x.now l).isEmpty) := Lib.hid (by unfold thX; rw [decide_eq_true (by omega : (0 : Int) ≤ (l : Int)), decide_eq_true (by omega : (l : Int) < 512), Int.toNat_natCast]; rfl)
      rw [HE.out]
      generalize strB (x.now l) = S at *
      generalize (x.now l).isEmpty = b at *
      have hd : decide ((l : Int) < 512) = true := decide_eq_true (by omega)
      have hlN : (l : Int) < 512 := by omega
      clear h HE
      go_enter Tryz.func37, Tryz.ntmps37
      go_wp2_with fail
      go_ret
      exact ⟨rfl, rfl⟩
    · have HE : Hid (thX x.now (l : Int) = false) := Lib.hid (by unfold thX; rw [decide_eq_false (by omega : ¬ (l : Int) < 512)]; simp)
      rw [HE.out]
      have hd : decide ((l : Int) < 512) = false := decide_eq_false (by omega)
      clear h HE
      go_enter Tryz.func37, Tryz.ntmps37
      go_wp2_with fail
      go_ret
      exact ⟨rfl, rfl⟩
  · have HE : Hid (thX x.now y = false) := Lib.hid (by unfold thX; rw [decide_eq_false hy]; simp)
    rw [HE.out]
    have hd : decide (0 ≤ y) = false := decide_eq_false hy
    clear h HE
    go_enter Tryz.func37, Tryz.ntmps37
    go_wp2_with fail
    go_ret
    exact ⟨rfl, rfl⟩
end Go.Proofs.YthcnofdihigohaaGreat
end
section
/- A page full of one byte, by the document; its leaves. -/
set_option maxRecDepth 20000
set_option linter.unusedSimpArgs false
namespace Go.Proofs.YthcnofdihigohaaGreat
open Go.RowKit

/-- A page's first bytes filled. -/
def fil (c i : Nat) : List Nat := List.replicate i c ++ List.replicate (512 - i) 0
theorem fil_len (c : Nat) {i : Nat} (h : i ≤ 512) : (fil c i).length = 512 := by unfold fil; rw [List.length_append, List.length_replicate, List.length_replicate]; omega
theorem fil_set (c : Nat) {i : Nat} (h : i < 512) : (fil c i).set i c = fil c (i + 1) := by
  unfold fil
  apply List.ext_getElem?
  intro j
  rw [List.getElem?_set]
  by_cases e : i = j
  · subst e
    rw [if_pos rfl, if_pos (by rw [List.length_append, List.length_replicate, List.length_replicate]; omega), List.getElem?_append_left (by rw [List.length_replicate]; omega), List.getElem?_replicate, if_pos (by omega)]
  · rw [if_neg e]
    by_cases h1 : j < i
    · rw [List.getElem?_append_left (by rw [List.length_replicate]; omega), List.getElem?_append_left (by rw [List.length_replicate]; omega), List.getElem?_replicate, List.getElem?_replicate, if_pos h1, if_pos (by omega)]
    · rw [List.getElem?_append_right (by rw [List.length_replicate]; omega), List.getElem?_append_right (by rw [List.length_replicate]; omega), List.getElem?_replicate, List.getElem?_replicate, List.length_replicate, List.length_replicate]
      by_cases h2 : j < 512
      · rw [if_pos (by omega), if_pos (by omega)]
      · rw [if_neg (by omega), if_neg (by omega)]
theorem fil_all (c : Nat) : fil c 512 = List.replicate 512 c := by unfold fil; simp
def fulL (c : Nat) : List Nat := List.replicate 512 c
theorem fulL_ok {c : Nat} (h : c < 256) : (fulL c).length = 512 ∧ ∀ x ∈ fulL c, x < 256 := ⟨List.length_replicate, fun x hx => by rw [(List.mem_replicate.1 hx).2]; exact h⟩
theorem u8s_set (l : List Nat) (i c : Nat) : (u8s l).toArray.setIfInBounds i (.int .u8 (c : Int)) = (u8s (l.set i c)).toArray := by
  unfold u8s
  apply Array.ext'
  simp [List.map_set]
set_option maxHeartbeats 1600000 in
theorem filled_any (c : Nat) (hc : c < 256) (w : World) : Calls Tryz.prog 32 #[.int .u8 (c : Int)] w fun e w' => e = .returned (.string (strB (fulL c))) ∧ Below w.heap.size w w' := by
  obtain ⟨i0, hi, hz0, hz1, hz2⟩ := info_parts Tryz.info5
  have hmk : ∀ w : World, (Instr.makeSlice 94 (.int .i64 512) (.int .i64 512)).run Tryz.prog w = .ok (.slice (some ⟨w.heap.size, 0, none⟩) 512 512) (w.alloc (.cells (u8s (fil c 0)).toArray 5)) := fun w => by
    have h := run_make (P := Tryz.prog) w 94 5 i0 _ Tryz.underlying94 hi hz0 .i64 .i64 ((512 : Nat) : Int) ((512 : Nat) : Int) (by omega) (by omega) (by rw [hz2]; omega) (by omega)
    rw [hz1, Int.toNat_natCast, Nat.mul_one] at h
    have e : fil c 0 = List.replicate 512 0 := by unfold fil; rfl
    rw [e, ← Bi.zeros_of 512, Array.toArray_toList]
    exact h
  have hcv : ∀ w : World, w.heap[w.heap.size - 1]? = w.heap[w.heap.size - 1]? := fun _ => rfl
  have HCV : Hid (∀ (w : World) (b : Nat), w.heap[b]? = some (.cells (u8s (fil c 512)).toArray 5 (0, 0)) → (convert 94 9 (.slice (some ⟨b, 0, none⟩) 512 512)).run Tryz.prog w = .ok (.string (strB (fulL c))) w) := Lib.hid fun w b hb => by
    have hr : Row5 w b 512 (fulL c) := ⟨by rw [u8s_len]; exact (fulL_ok hc).1, .inr ⟨b, 512, (u8s (fil c 512)).toArray, rfl, Nat.zero_le _, hb, Nat.le_refl _, by decide, by rw [List.size_toArray, u8s_len, fil_len c (Nat.le_refl _)], by
      rw [fil_all, List.take_of_length_le (by rw [u8s_len, List.length_replicate]; omega)]; rfl⟩⟩
    exact (hr.bys (fulL_ok hc).2).conv 512
  have hci : (0 : Int) ≤ (c : Int) ∧ (c : Int) < 256 := by omega
  clear hcv
  go_enter Tryz.func32, Tryz.ntmps32
  go_wp2_with fail
  go_loopw [4] (fun iv wr => ∃ i : Nat, i ≤ 512 ∧ iv = .int .i64 (i : Int) ∧ Hid (wr.heap[w.heap.size]? = some (.cells (u8s (fil c i)).toArray 5 (0, 0)) ∧ Below w.heap.size w wr)) (fun iv _ => 512 - (RowKit.intOf iv).toNat)
  case atStart => exact ⟨0, by omega, by go_num, Lib.hid ⟨heap_alloc_new w _, (Below.refl _ _).alloc (Nat.le_refl _) _⟩⟩
  case round =>
    obtain ⟨i, hi5, rfl, HR⟩ := hrel
    by_cases hlt : i < 512
    · have hiN : (i : Int) < 512 := by omega
      have hcell : wr.cell? ⟨w.heap.size, i, none⟩ = some (.int .u8 (((fil c i).getD i 0 : Nat) : Int)) := by
        rw [cell_of_row _ _ _ _ _ _ HR.out.1]
        unfold u8s
        rw [List.getElem?_toArray, List.getElem?_map, List.getD_eq_getElem?_getD, List.getElem?_eq_getElem (by rw [fil_len c hi5]; exact hlt)]; rfl
      have hfz : wr.frozen? ⟨w.heap.size, i, none⟩ = false := frozen_of_row _ _ _ _ _ HR.out.1
      have HN : Hid ((wr.setCell ⟨w.heap.size, i, none⟩ (.int .u8 (c : Int))).heap[w.heap.size]? = some (.cells (u8s (fil c (i + 1))).toArray 5 (0, 0)) ∧ Below w.heap.size w (wr.setCell ⟨w.heap.size, i, none⟩ (.int .u8 (c : Int)))) := Lib.hid ⟨by
        have := heap_setCell_same wr w.heap.size i _ 5 (.int .u8 (c : Int)) HR.out.1
        rw [u8s_set, fil_set c hlt] at this
        exact this, HR.out.2.trans ⟨rfl, rfl, rfl, by simp, fun k hk => Below.heap_setCell wr _ _ k (by show k ≠ w.heap.size; omega)⟩⟩
      clear hmk
      go_wp2_with fail
      go_round
      case rel => exact ⟨i + 1, by omega, by go_num, HN⟩
      case measure => simp [RowKit.intOf]; omega
    · obtain rfl : i = 512 := by omega
      have hcv := HCV.out wr w.heap.size HR.out.1
      have HB := Lib.hid HR.out.2
      clear hmk HR
      go_wp2_with fail
      go_ret
      exact ⟨rfl, HB.out⟩
end Go.Proofs.YthcnofdihigohaaGreat
end
section
/- How many pages a commit needs, by the document, in memory. -/
set_option maxRecDepth 20000
set_option linter.unusedSimpArgs false
namespace Go.Proofs.YthcnofdihigohaaGreat
open Go.RowKit

theorem below_drewN {B : Nat} {a w : World} (h : Below B a w) (n : Nat) : Below B a (w.drewN n) := h.trans ⟨rfl, rfl, rfl, Nat.le_refl _, fun _ _ => rfl⟩
theorem needX_le (x : Xv) : ∀ i, needX x i ≤ 1 + 129 * i
  | 0 => by show 1 ≤ _; omega
  | i + 1 => by
    show needX x i + Bi.cnt _ 128 + _ ≤ _
    have h1 := needX_le x i
    have h2 := Bi.cnt_le (fun j => wrX x (128 * i + j)) 128
    have h3 : (chgX x i 128 && !bareX x.now i 128).toNat ≤ 1 := by cases (chgX x i 128 && !bareX x.now i 128) <;> simp
    omega
/-- Amid a leaf. -/
structure Ned (x : Xv) (i k n : Nat) (c b : Bool) : Prop where
  n : n = needX x i + Bi.cnt (fun j => wrX x (128 * i + j)) k
  c : c = chgX x i k
  b : b = bareX x.now i k
theorem Ned.next {x : Xv} {i k n : Nat} {c b p q r : Bool} (h : Ned x i k n c b) (hp : (x.now (128 * i + k)).isEmpty = p) (hq : x.dirty (128 * i + k) = q) (hr : (x.com (128 * i + k)).isEmpty = r) :
    Ned x i (k + 1) (n + (!p && q).toNat) (c || ((!p && q) || ((!p) != (!r)))) (b && p) := by
  have e1 : wrX x (128 * i + k) = (!p && q) := by unfold wrX nn; rw [hp, hq]
  have e2 : chX x (128 * i + k) = ((!p && q) || ((!p) != (!r))) := by unfold chX; rw [e1]; unfold nn; rw [hp, hr]
  refine ⟨?_, ?_, ?_⟩
  · show _ = needX x i + (Bi.cnt _ k + (wrX x (128 * i + k)).toNat)
    rw [e1, h.n]; omega
  · show _ = (chgX x i k || chX x (128 * i + k))
    rw [e2, h.c]
  · show _ = (bareX x.now i k && !nn x.now (128 * i + k))
    unfold nn
    rw [hp, h.b]; simp
theorem Ned.le {x : Xv} {i k n : Nat} {c b : Bool} (h : Ned x i k n c b) (hi : i ≤ 4) (hk : k ≤ 128) : n ≤ 1000 := by
  have h1 := needX_le x i
  have h2 := Bi.cnt_le (fun j => wrX x (128 * i + j)) k
  have := h.n
  omega
set_option maxHeartbeats 6400000 in
theorem rneed_any {w : World} {g : Nat} {x : Xv} (h : Xb w g x) : Calls Tryz.prog 18 #[.pointer (some ⟨g, 0, none⟩)] w fun e w' => e = .returned (.int .i64 (needX x 4 : Int)) ∧ Below w.heap.size w w' := by
  have HX := Lib.hid h
  clear h
  go_enter Tryz.func18, Tryz.ntmps18
  go_wp2_with fail
  go_loopw [3, 4, 5, 6, 7] (fun nv iv _ _ _ wr => ∃ i : Nat, i ≤ 4 ∧ iv = .int .i64 (i : Int) ∧ nv = .int .i64 ((needX x i : Nat) : Int) ∧ Hid (Below w.heap.size w wr)) (fun _ iv _ _ _ _ => 4 - (RowKit.intOf iv).toNat)
  case atStart => exact ⟨0, by omega, by go_num, rfl, Lib.hid (Below.refl _ _)⟩
  case round =>
    obtain ⟨i, hi, rfl, rfl, HB⟩ := hrel
    have hle := needX_le x i
    by_cases hlt : i < 4
    · have hiN : (i : Int) < 4 := by omega
      obtain ⟨wo, rfl⟩ : ∃ wo, wo = wr := ⟨_, rfl⟩
      have H0 : Hid (Ned x i 0 (needX x i) false true) := Lib.hid ⟨rfl, rfl, rfl⟩
      generalize needX x i = n0 at *
      go_wp2_with fail
      go_loopw [3, 5, 6, 7] (fun nv cv bv lv wr' => ∃ (k n l : Nat) (c b : Bool), k ≤ 128 ∧ Hid (l = 128 * i + k) ∧ n ≤ 1000 ∧ nv = .int .i64 (n : Int) ∧ cv = .bool c ∧ bv = .bool b ∧ lv = .int .i64 (l : Int) ∧ Hid (Ned x i k n c b) ∧ Hid (Below w.heap.size w wr')) (fun _ _ _ lv _ => 128 * i + 128 - (RowKit.intOf lv).toNat)
      case atStart => exact ⟨0, n0, 128 * i, false, true, by omega, Lib.hid rfl, by omega, rfl, rfl, rfl, by go_num, H0, HB⟩
      case round =>
        obtain ⟨k, n, l, c, b, hk, HLK, hn, rfl, rfl, rfl, rfl, HN, HBr⟩ := hrel
        have HXr := Lib.hid (HX.out.below HBr.out)
        by_cases hlk : k < 128
        · have hl := HLK.out
          have hlN : (l : Int) < 128 * (i : Int) + 128 := by omega
          have hl5 : l < 512 := by omega
          have hl5N : (l : Int) < 512 := by omega
          have c1 := HXr.out.now l hl5
          have c2 := HXr.out.dirty l hl5
          have c0 := HXr.out.com l hl5
          have e1 := txt_empty (x.now l)
          have e0 := txt_empty (x.com l)
          rw [Nat.zero_add] at c0
          obtain ⟨p, hp⟩ : ∃ p, (x.now l).isEmpty = p := ⟨_, rfl⟩
          obtain ⟨q, hq⟩ : ∃ q, x.dirty l = q := ⟨_, rfl⟩
          obtain ⟨r, hr⟩ : ∃ r, (x.com l).isEmpty = r := ⟨_, rfl⟩
          have HN2 := Lib.hid (HN.out.next (p := p) (q := q) (r := r) (by rw [← hl]; exact hp) (by rw [← hl]; exact hq) (by rw [← hl]; exact hr))
          have HLE := Lib.hid (HN2.out.le (by omega) (by omega))
          rw [hp] at e1
          rw [hq] at c2
          rw [hr] at e0
          have HL2 : Hid (l + 1 = 128 * i + (k + 1)) := Lib.hid (by omega)
          clear hp hq hr HN hl
          generalize strB (x.now l) = S at *
          generalize strB (x.com l) = T at *
          cases c with
          | true =>
            cases p with
            | true =>
              go_wp2_with fail
              go_quiet (fail)
              go_wp2_with fail
              go_roundw
              case rel => exact ⟨k + 1, _, l + 1, _, _, by omega, HL2, HLE.out, by first | rfl | go_num, by first | rfl | (cases r <;> rfl), by first | rfl | (cases b <;> rfl), by go_num, HN2, Lib.hid (below_drewN HBr.out _)⟩
              case measure => simp [RowKit.intOf]; have := HLK.out; omega
            | false =>
              cases q with
              | true =>
                go_wp2_with fail
                go_quiet (fail)
                go_wp2_with fail
                go_roundw
                case rel => exact ⟨k + 1, _, l + 1, _, _, by omega, HL2, HLE.out, by first | rfl | go_num, by first | rfl | (cases r <;> rfl), by first | rfl | (cases b <;> rfl), by go_num, HN2, Lib.hid (below_drewN HBr.out _)⟩
                case measure => simp [RowKit.intOf]; have := HLK.out; omega
              | false =>
                go_wp2_with fail
                go_quiet (fail)
                go_wp2_with fail
                go_roundw
                case rel => exact ⟨k + 1, _, l + 1, _, _, by omega, HL2, HLE.out, by first | rfl | go_num, by first | rfl | (cases r <;> rfl), by first | rfl | (cases b <;> rfl), by go_num, HN2, Lib.hid (below_drewN HBr.out _)⟩
                case measure => simp [RowKit.intOf]; have := HLK.out; omega
          | false =>
            cases p with
            | true =>
              go_wp2_with fail
              go_quiet (fail)
              go_wp2_with fail
              go_roundw
              case rel => exact ⟨k + 1, _, l + 1, _, _, by omega, HL2, HLE.out, by first | rfl | go_num, by first | rfl | (cases r <;> rfl), by first | rfl | (cases b <;> rfl), by go_num, HN2, Lib.hid (below_drewN HBr.out _)⟩
              case measure => simp [RowKit.intOf]; have := HLK.out; omega
            | false =>
              cases q with
              | true =>
                go_wp2_with fail
                go_quiet (fail)
                go_wp2_with fail
                go_roundw
                case rel => exact ⟨k + 1, _, l + 1, _, _, by omega, HL2, HLE.out, by first | rfl | go_num, by first | rfl | (cases r <;> rfl), by first | rfl | (cases b <;> rfl), by go_num, HN2, Lib.hid (below_drewN HBr.out _)⟩
                case measure => simp [RowKit.intOf]; have := HLK.out; omega
              | false =>
                go_wp2_with fail
                go_quiet (fail)
                go_wp2_with fail
                go_roundw
                case rel => exact ⟨k + 1, _, l + 1, _, _, by omega, HL2, HLE.out, by first | rfl | go_num, by first | rfl | (cases r <;> rfl), by first | rfl | (cases b <;> rfl), by go_num, HN2, Lib.hid (below_drewN HBr.out _)⟩
                case measure => simp [RowKit.intOf]; have := HLK.out; omega
        · obtain rfl : k = 128 := by omega
          have hlN : decide ((l : Int) < 128 * (i : Int) + 128) = false := decide_eq_false (by have := HLK.out; omega)
          have HE : Hid (needX x (i + 1) = n + (c && !b).toNat) := Lib.hid (by
            show needX x i + Bi.cnt _ 128 + (chgX x i 128 && !bareX x.now i 128).toNat = _
            rw [HN.out.n, HN.out.c, HN.out.b])
          have hi2 : i + 1 ≤ 4 := by omega
          cases c with
          | true =>
            cases b with
            | true =>
              go_wp2_with fail
              go_roundw
              case rel => exact ⟨i + 1, hi2, by go_num, by rw [HE.out]; first | rfl | go_num, HBr⟩
              case measure => simp [RowKit.intOf]; omega
            | false =>
              go_wp2_with fail
              go_roundw
              case rel => exact ⟨i + 1, hi2, by go_num, by rw [HE.out]; first | rfl | go_num, HBr⟩
              case measure => simp [RowKit.intOf]; omega
          | false =>
            go_wp2_with fail
            go_roundw
            case rel => exact ⟨i + 1, hi2, by go_num, by rw [HE.out]; first | rfl | go_num, HBr⟩
            case measure => simp [RowKit.intOf]; omega
    · obtain rfl : i = 4 := by omega
      go_wp2_with fail
      go_ret
      exact ⟨rfl, HB.out⟩
end Go.Proofs.YthcnofdihigohaaGreat
end
