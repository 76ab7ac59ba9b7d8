/- A record put in a slot's place; one dropped. -/
import Derived.Test.YtldkmkgkllgckaaDoorRoom
set_option linter.unusedSimpArgs false
namespace Go.Proofs.YtldkmkgkllgckaaDoor
open Go.RowKit

/-- Block g holds a page, or what may become one. -/
structure Pgr (w : World) (g : Nat) (v : Value) (l : List Sl) : Prop where
  hd : w.heap[g]? = some (.cells #[v] 54 (0, 0))
  row : w.ownsRow 0 56 2 v l.length (flat l)
theorem flat_rec (l : List Sl) (k : Nat) (r : ByteArray) (h : k < l.length) (hs : (slot l k).isSome = true) : (flat l).set (k * 2 + 1) (.string r) = flat (l.set k (some r)) := by
  rw [← flat_set l k (some r) h]
  have h1 := (flat_get l k h).1
  rw [hs] at h1
  have : (flat l).set (k * 2) (.bool (some r : Sl).isSome) = flat l := by
    apply List.ext_getElem?
    intro j
    rw [List.getElem?_set]
    split
    · rename_i e; subst e; rw [if_pos (by rw [flat_len]; omega), h1]; rfl
    · rfl
  rw [this]; rfl
section
variable {w : World} {g : Nat} {v : Value} {l : List Sl}
theorem Pg0.raw (h : Pg0 w g v l) : Pgr w g v l := ⟨h.hd, h.row⟩
theorem Pgr.pg0 (h : Pgr w g v l) (ho : Okp l) : Pg0 w g v l := ⟨h.hd, h.row, ho⟩
theorem Pgr.c0 (h : Pgr w g v l) : w.cell? ⟨g, 0, none⟩ = some v := by rw [cell_of_row w g 0 _ _ _ h.hd]; rfl
theorem Pgr.fz (h : Pgr w g v l) : w.frozen? ⟨g, 0, none⟩ = false := frozen_of_row w g 0 _ _ h.hd
theorem Pgr.ne (h : Pgr w g v l) : ∀ k, v.ownBlock = some k → k ≠ g := fun k hk => by obtain ⟨cur, hc⟩ := own_head h.row hk; exact Ne.symm (ne_of_ty h.hd hc (by decide))
theorem Pgr.at (h : Pgr w g v l) {k : Nat} (hk : k < l.length) : ∃ b c, v = .slice (some ⟨b, 0, none⟩) l.length c ∧ l.length ≤ c ∧ w.cell? ⟨b, k * 2, none⟩ = some (.bool (slot l k).isSome) ∧ w.cell? ⟨b, k * 2 + 1, none⟩ = some (.string (recOf (slot l k))) ∧
    w.frozen? ⟨b, k * 2, none⟩ = false ∧ w.frozen? ⟨b, k * 2 + 1, none⟩ = false := by
  obtain ⟨b, c, e⟩ := own_some h.row (by omega)
  subst e
  have hr := h.row
  have hc : l.length ≤ c := by
    rcases hr.2 with ⟨e, _⟩ | ⟨g', cap, cur, e, _, _, h1, _⟩
    · cases e
    · cases e; exact h1
  obtain ⟨f1, f2⟩ := flat_get l k hk
  have a1 := hr.cellAt (k * 2) (by omega)
  have a2 := hr.cellAt (k * 2 + 1) (by omega)
  rw [f1] at a1
  rw [f2] at a2
  exact ⟨b, c, rfl, hc, a1, a2, hr.frozenAt _, hr.frozenAt _⟩
/-- A store into a page's row. -/
theorem Pgr.set {b n c j : Nat} (h : Pgr w g (.slice (some ⟨b, 0, none⟩) n c) l) (u : Value) {l' : List Sl} (hl : l'.length = l.length) (hf : (flat l).set j u = flat l') :
    Pgr (w.setCell ⟨b, j, none⟩ u) g (.slice (some ⟨b, 0, none⟩) n c) l' ∧ Chg (foot g (.slice (some ⟨b, 0, none⟩) n c)) (foot g (.slice (some ⟨b, 0, none⟩) n c)) w (w.setCell ⟨b, j, none⟩ u) := by
  have hr := h.row
  obtain ⟨q, c', e⟩ := own_form hr
  cases e
  refine ⟨⟨(heap_setCell_other _ _ _ _ (Ne.symm (h.ne b rfl))).trans h.hd, ?_⟩, Chg.setCell (by simp [foot, Value.ownBlock]) u w⟩
  have h2 := (hr.stored j u).1
  rw [hf] at h2
  rw [hl]
  exact h2
theorem Pgr.set2 {b n c k : Nat} (h : Pgr w g (.slice (some ⟨b, 0, none⟩) n c) l) (hk : k < l.length) (o : Sl) :
    Pgr ((w.setCell ⟨b, k * 2, none⟩ (.bool o.isSome)).setCell ⟨b, k * 2 + 1, none⟩ (.string (recOf o))) g (.slice (some ⟨b, 0, none⟩) n c) (l.set k o) ∧
      Chg (foot g (.slice (some ⟨b, 0, none⟩) n c)) (foot g (.slice (some ⟨b, 0, none⟩) n c)) w ((w.setCell ⟨b, k * 2, none⟩ (.bool o.isSome)).setCell ⟨b, k * 2 + 1, none⟩ (.string (recOf o))) := by
  have hr := h.row
  obtain ⟨q, c', e⟩ := own_form hr
  cases e
  have n1 := Ne.symm (h.ne b rfl)
  refine ⟨⟨(heap_setCell_other _ _ _ _ n1).trans ((heap_setCell_other _ _ _ _ n1).trans h.hd), ?_⟩, (Chg.setCell (by simp [foot, Value.ownBlock]) _ w).trans (Chg.setCell (by simp [foot, Value.ownBlock]) _ _)⟩
  have h2 := (((hr.stored (k * 2) (.bool o.isSome)).1).stored (k * 2 + 1) (.string (recOf o))).1
  rw [flat_set l k o hk] at h2
  rw [show (l.set k o).length = l.length by simp]
  exact h2
/-- The last slot is cut off. -/
theorem Pgr.pop {b n c : Nat} {o : Sl} (h : Pgr w g (.slice (some ⟨b, 0, none⟩) n c) (l ++ [o])) :
    Pgr (w.setCell ⟨g, 0, none⟩ (.slice (some ⟨b, 0, none⟩) l.length c)) g (.slice (some ⟨b, 0, none⟩) l.length c) l ∧
      Chg (foot g (.slice (some ⟨b, 0, none⟩) l.length c)) (foot g (.slice (some ⟨b, 0, none⟩) l.length c)) w (w.setCell ⟨g, 0, none⟩ (.slice (some ⟨b, 0, none⟩) l.length c)) := by
  have hr := h.row
  obtain ⟨q, c', e⟩ := own_form hr
  cases e
  have n1 := h.ne b rfl
  refine ⟨⟨heap_setCell_same w g 0 _ _ _ h.hd, ?_⟩, Chg.setCell (by simp [foot]) _ w⟩
  rw [List.length_append, flat_append] at hr
  exact own_other (ownsRow_pop (flat_len l) hr) (fun k hk => by cases hk; exact heap_setCell_other _ _ _ _ n1)
end
section
variable {w : World} {g : Nat} {v : Value} {l : List Sl}
theorem put_nil (i : Int) (r : ByteArray) (w : World) : Calls Tryd.prog 13 #[.pointer none, .int .i64 i, .string r] w fun e w' => e = .returned (.int .i64 1) ∧ Below w.heap.size w w' := by
  go_enter Tryd.func13, Tryd.ntmps13
  go_wp2_with fail
  go_ret
  exact ⟨rfl, Below.refl _ _⟩
set_option maxHeartbeats 1600000 in
theorem put_any (h : Pg0 w g v l) (i : Int) (r : ByteArray) (hr : r.size ≤ 9223372036854775807) : Calls Tryd.prog 13 #[.pointer (some ⟨g, 0, none⟩), .int .i64 i, .string r] w fun e w' => e = .returned (.int .i64 (putE l i r : Int)) ∧ Went (foot g v) g (putL l i r) w w' := by
  have HP := Lib.hid h
  have HG := Lib.hid (get_any h i)
  by_cases hf : fullI l i = false
  · rw [show putE l i r = 5 by unfold putE; rw [if_pos hf], show putL l i r = l by unfold putL; rw [if_pos hf]]
    rw [hf] at HG
    clear h hf
    go_enter Tryd.func13, Tryd.ntmps13
    go_wp2_with (go_at_call 15; refine HG.out.mono ?_; rintro e w1 ⟨rfl, hb⟩)
    go_ret
    exact ⟨rfl, Went.below HP.out.pg hb⟩
  · have hf2 : fullI l i = true := by simpa using hf
    obtain ⟨k, rfl, hk, hs⟩ := fullI_lt hf2
    rw [hf2, getS_nat] at HG
    by_cases h4 : 480 < r.size
    · have hd : decide ((480 : Int) < (r.size : Int)) = true := by simp; omega
      rw [show putE l (k : Int) r = 2 by unfold putE; rw [if_neg hf, if_pos h4], show putL l (k : Int) r = l by unfold putL; rw [if_neg hf, if_pos h4]]
      clear h hf hf2 hk hs h4
      go_enter Tryd.func13, Tryd.ntmps13
      go_wp2_with (go_at_call 15; refine HG.out.mono ?_; rintro e w1 ⟨rfl, hb⟩)
      go_ret
      exact ⟨rfl, Went.below HP.out.pg hb⟩
    · have hd : decide ((480 : Int) < (r.size : Int)) = false := by simp; omega
      have HL : Hid (∀ w1, Below w.heap.size w w1 → Calls Tryd.prog 24 #[.pointer (some ⟨g, 0, none⟩)] w1 fun e w' => e = .returned (.int .i64 (left l)) ∧ Below w1.heap.size w1 w') := Lib.hid (fun w1 hb => left_any (h.below hb))
      have hpf : putFull l (k : Int) r = decide (left l + (sz (slot l k) : Int) < (r.size : Int)) := by unfold putFull; rw [Int.toNat_natCast]; exact put_full hk r
      have hsz : sz (slot l k) ≤ 480 := h.ok.szs k
      have HSZ : Hid (sz (slot l k) = (recOf (slot l k)).size) := Lib.hid rfl
      rw [HSZ.out] at hpf hsz
      have hl1 := left_le l
      have hl0 := h.ok.left
      by_cases hfu : putFull l (k : Int) r = true
      · rw [show putE l (k : Int) r = 8 by unfold putE; rw [if_neg hf, if_neg h4, if_pos hfu], show putL l (k : Int) r = l by unfold putL; rw [if_neg hf, if_neg h4, if_pos hfu]]
        have hd2 : decide (left l + ((recOf (slot l k)).size : Int) < (r.size : Int)) = true := by rw [← hpf]; exact hfu
        clear h hf hf2 hk hs h4 hpf hfu HSZ
        generalize recOf (slot l k) = r0 at *
        generalize left l = x at *
        go_enter Tryd.func13, Tryd.ntmps13
        go_wp2_with (go_at_call 15; refine HG.out.mono ?_; rintro e w1 ⟨rfl, hb⟩)
        have HB := Lib.hid hb
        clear hb
        go_wp2_with (go_at_call 24; refine (HL.out _ HB.out).mono ?_; rintro e w2 ⟨rfl, hb⟩)
        go_ret
        exact ⟨rfl, Went.below HP.out.pg (HB.out.trans (hb.mono HB.out.size))⟩
      · rw [show putE l (k : Int) r = 0 by unfold putE; rw [if_neg hf, if_neg h4, if_neg hfu], show putL l (k : Int) r = l.set k (some r) by unfold putL; rw [if_neg hf, if_neg h4, if_neg hfu, Int.toNat_natCast]]
        have hd2 : decide (left l + ((recOf (slot l k)).size : Int) < (r.size : Int)) = false := by rw [← hpf]; simpa using hfu
        have HOK : Hid (Okp (l.set k (some r))) := Lib.hid (by
          have := h.ok.put (k : Int) r
          unfold putL at this
          rwa [if_neg hf, if_neg h4, if_neg hfu, Int.toNat_natCast] at this)
        have HFR := Lib.hid (flat_rec l k r hk hs)
        have HK := Lib.hid hk
        have hN := h.ok.len
        obtain ⟨b, c, e, hc, _⟩ := h.raw.at hk
        subst e
        obtain ⟨N, HN⟩ : ∃ N, Hid (l.length = N) := ⟨_, Lib.hid rfl⟩
        have hkN : (k : Int) < (N : Int) := by have := HN.out; omega
        rw [HN.out] at HP hN hc hk ⊢
        clear h hf hf2 hs h4 hpf hfu HSZ
        generalize recOf (slot l k) = r0 at *
        generalize left l = x at *
        go_enter Tryd.func13, Tryd.ntmps13
        go_wp2_with (go_at_call 15; refine HG.out.mono ?_; rintro e w1 ⟨rfl, hb⟩)
        have HB := Lib.hid hb
        clear hb
        go_wp2_with (go_at_call 24; refine (HL.out _ HB.out).mono ?_; rintro e w2 ⟨rfl, hb⟩; have HB2 := Lib.hid (HB.out.trans (hb.mono HB.out.size)); clear hb; have HP2 := Lib.hid (HP.out.below HB2.out); have c0 := HP2.out.c0; obtain ⟨b', c', e', _, x1, x2, f1, f2⟩ := HP2.out.raw.at HK.out; cases e')
        go_ret
        have h2 := HP2.out.raw.set (.string r) (l' := l.set k (some r)) (by simp) HFR.out
        exact ⟨rfl, _, (h2.1.pg0 HOK.out).pg, (Chg.of_below HB2.out).trans h2.2⟩
end
end Go.Proofs.YtldkmkgkllgckaaDoor
