/- The document's list of slots: its small calls. -/
import Derived.Test.YtldkmkgkllgckaaDoorAdd
import Derived.Laws.AppendOwnNone
set_option linter.unusedSimpArgs false
namespace Go.Proofs.YtldkmkgkllgckaaDoor
open Go.RowKit

/-- A value that reads as this list of slots. -/
def Rf (w : World) (v : Value) (l : List Sl) : Prop := w.ownsRow 0 59 2 v l.length (flat l)
theorem Rf.below {w w' : World} {v : Value} {l : List Sl} (h : Rf w v l) (hb : Below w.heap.size w w') : Rf w' v l := own_below h hb
theorem Rf.chg {F F' : List Nat} {w w' : World} {v : Value} {l : List Sl} (h : Rf w v l) (hc : Chg F F' w w') (hT : Typed w F) : Rf w' v l := own_chg h hc hT (by decide)
theorem Rf.form {w : World} {v : Value} {l : List Sl} (h : Rf w v l) : ∃ q c, v = .slice q l.length c := own_form h
theorem Rf.nil_ (w : World) : Rf w (.slice none 0 0) [] := World.ownsRow_nil _ _ _ _
theorem Rf.at {w : World} {v : Value} {l : List Sl} (h : Rf w v l) {k : Nat} (hk : k < l.length) : ∃ b c, v = .slice (some ⟨b, 0, none⟩) l.length c ∧ l.length ≤ c ∧ w.cell? ⟨b, k * 2, none⟩ = some (.bool (slot l k).isSome) ∧ w.cell? ⟨b, k * 2 + 1, none⟩ = some (.string (recOf (slot l k))) := by
  obtain ⟨b, c, e⟩ := own_some h (by omega)
  subst e
  have hr : w.ownsRow 0 59 2 (.slice (some ⟨b, 0, none⟩) l.length c) l.length (flat l) := h
  have hc : l.length ≤ c := by
    rcases hr.2 with ⟨e, _⟩ | ⟨g', cap, cur, e, _, _, h1, _⟩
    · cases e
    · cases e; exact h1
  obtain ⟨f1, f2⟩ := flat_get l k hk
  have a1 := hr.cellAt (k * 2) (by omega)
  have a2 := hr.cellAt (k * 2 + 1) (by omega)
  rw [f1] at a1
  rw [f2] at a2
  exact ⟨b, c, rfl, hc, a1, a2⟩
theorem infoR : (Tryd.prog.info? 59).map (fun i => (i.zero, i.size, i.bytes)) = some (some (.agg #[.bool false, .string ⟨#[]⟩]), 2, 24) := by kernel_rfl
/-- One that holds some cells is not nil. -/
theorem Rf.some_ {w : World} {v : Value} {l : List Sl} (h : Rf w v l) : (v = .slice none 0 0 ∧ l = []) ∨ ∃ b c, v = .slice (some ⟨b, 0, none⟩) l.length c ∧ l.length ≤ c := by
  rcases h.2 with ⟨e, hx⟩ | ⟨g', cap, cur, e, _, _, h1, _⟩
  · exact .inl ⟨e, List.length_eq_zero_iff.1 hx⟩
  · exact .inr ⟨g', cap, e, h1⟩
section
variable {w : World} {v : Value} {l : List Sl}
set_option maxHeartbeats 1600000 in
theorem bare_any (h : Rf w v l) (hl : l.length ≤ 65) : Calls Tryd.prog 41 #[v] w fun e w' => e = .returned (.int .i64 (bareI l : Int)) ∧ w = w' := by
  have HP := Lib.hid h
  obtain ⟨q, c, rfl⟩ := h.form
  clear h
  obtain ⟨N, HN⟩ : ∃ N, Hid (l.length = N) := ⟨_, Lib.hid rfl⟩
  rw [HN.out] at hl ⊢
  go_enter Tryd.func41, Tryd.ntmps41
  go_wp2_with fail
  go_loop [3] (fun iv => ∃ i : Nat, i ≤ N ∧ iv = .int .i64 (i : Int) ∧ (∀ j, j < i → (slot l j).isSome = true)) (fun iv => N - (intOf iv).toNat)
  case atStart => exact ⟨0, by omega, by go_num, fun j hj => absurd hj (Nat.not_lt_zero j)⟩
  case round =>
    obtain ⟨i, hi, rfl, hj⟩ := hrel
    have HJ := Lib.hid hj
    clear hj
    by_cases hlt : i < N
    · obtain ⟨b, c', e, hc, x1, x2⟩ := HP.out.at (k := i) (by rw [HN.out]; exact hlt)
      rw [HN.out] at e hc
      cases e
      have hiN : (i : Int) < (N : Int) := by omega
      cases hs : (slot l i).isSome with
      | true =>
        rw [hs] at x1
        have HS := Lib.hid hs
        clear hs
        go_wp2_with fail
        go_round
        case rel => exact ⟨i + 1, by omega, by go_num, fun j hj => (Nat.lt_succ_iff_lt_or_eq.1 hj).elim (HJ.out j) (fun e => by rw [e]; exact HS.out)⟩
        case measure => simp [intOf]; omega
      | false =>
        rw [hs] at x1
        have HS := Lib.hid hs
        clear hs
        go_wp2_with fail
        go_ret
        have := bareI_eq (l := l) (i := i) (by rw [HN.out]; omega) HJ.out (fun _ => by have := HS.out; simpa using this)
        rw [this]
        exact ⟨rfl, rfl⟩
    · obtain rfl : i = N := by omega
      go_wp2_with fail
      go_ret
      have := bareI_eq (l := l) (i := i) (by rw [HN.out]; omega) HJ.out (fun h => by have := HN.out; omega)
      rw [this]
      exact ⟨rfl, rfl⟩
set_option maxHeartbeats 1600000 in
theorem need_any (h : Rf w v l) (hl : l.length ≤ 65) (ht : tot l ≤ 100000) : Calls Tryd.prog 43 #[v] w fun e w' => e = .returned (.int .i64 (need l : Int)) ∧ w = w' := by
  have HP := Lib.hid h
  obtain ⟨q, c, rfl⟩ := h.form
  have HT : Hid (∀ i, i ≤ l.length → tot (l.take i) ≤ 100000) := Lib.hid (fun i _ => Nat.le_trans (tot_take_le l i) ht)
  clear h ht
  obtain ⟨N, HN⟩ : ∃ N, Hid (l.length = N) := ⟨_, Lib.hid rfl⟩
  rw [HN.out] at hl ⊢
  go_enter Tryd.func43, Tryd.ntmps43
  go_wp2_with fail
  go_loop [3, 4] (fun sv iv => ∃ i s : Nat, i ≤ N ∧ iv = .int .i64 (i : Int) ∧ sv = .int .i64 (1 + 2 * (N : Int) + (s : Int)) ∧ s ≤ 100000 ∧ Hid (tot (l.take i) = s)) (fun _ iv => N - (intOf iv).toNat)
  case atStart => exact ⟨0, 0, by omega, by go_num, by simp, by omega, Lib.hid rfl⟩
  case round =>
    obtain ⟨i, s, hi, rfl, rfl, hs, HS⟩ := hrel
    by_cases hlt : i < N
    · obtain ⟨b, c', e, hc, x1, x2⟩ := HP.out.at (k := i) (by rw [HN.out]; exact hlt)
      rw [HN.out] at e hc
      cases e
      have hiN : (i : Int) < (N : Int) := by omega
      have HS2 : Hid (tot (l.take (i + 1)) = s + sz (slot l i)) := Lib.hid (by rw [tot_take_succ (by rw [HN.out]; exact hlt), HS.out])
      have hs2 : s + (recOf (slot l i)).size ≤ 100000 := by have := HT.out (i + 1) (by rw [HN.out]; omega); rw [HS2.out] at this; exact this
      have HSZ : Hid (sz (slot l i) = (recOf (slot l i)).size) := Lib.hid rfl
      rw [HSZ.out] at HS2
      clear HSZ
      generalize (slot l i).isSome = bb at *
      generalize recOf (slot l i) = rr at *
      obtain ⟨z, HZ⟩ : ∃ z, Hid (rr.size = z) := ⟨_, Lib.hid rfl⟩
      rw [HZ.out] at hs2 HS2
      have hz := HZ.out
      go_wp2_with fail
      go_round
      case rel => exact ⟨i + 1, s + z, by omega, by go_num, by congr 1; omega, hs2, HS2⟩
      case measure => simp [intOf]; omega
    · obtain rfl : i = N := by omega
      go_wp2_with fail
      go_ret
      refine ⟨?_, rfl⟩
      have h1 := HS.out
      have h2 := HN.out
      rw [List.take_of_length_le (by omega)] at h1
      have h3 : (1 + 2 * (i : Int) + (s : Int)) = (need l : Int) := by unfold need; omega
      rw [h3]
      rfl
set_option maxHeartbeats 1600000 in
theorem with_any (h : Rf w v l) (i : Nat) (hi : i ≤ l.length) (o : Sl) (hl : l.length ≤ 65) : Calls Tryd.prog 42 #[v, .int .i64 (i : Int), .agg #[.bool o.isSome, .string (recOf o)]] w fun e w' => (∃ v', e = .returned v' ∧ Rf w' v' (withL l i o)) ∧ Below w.heap.size w w' := by
  obtain ⟨i0, hi0, hz0, hz1, hz2⟩ := info_parts infoR
  have HI0 := Lib.hid hi0
  have HZ0 := Lib.hid hz0
  have HZ1 := Lib.hid hz1
  have HZ2 := Lib.hid hz2
  clear hi0 hz0 hz1 hz2
  have HP := Lib.hid h
  have HB0 : Hid (Below w.heap.size w (w.alloc (.cells #[.bool o.isSome, .string (recOf o)] 59))) := Lib.hid ((Below.refl _ _).alloc (Nat.le_refl _) _)
  rcases h.some_ with ⟨rfl, rfl⟩ | ⟨b, c, rfl, hc⟩
  · obtain rfl : i = 0 := Nat.le_zero.1 hi
    rw [show withL [] 0 o = [o] from rfl]
    have HF : Hid (flat [o] = [.bool o.isSome, .string (recOf o)]) := Lib.hid rfl
    clear h hi hl
    generalize o.isSome = bb at *
    generalize recOf o = rr at *
    have HNEW : Hid (∀ j u, [Value.bool bb, .string rr][j]? = some u → ((w.alloc (.cells #[.bool bb, .string rr] 59)).alloc (.cells #[.bool bb, .string rr] 59)).cell? ((⟨w.heap.size + 1, 0, none⟩ : Addr).add j) = some u) := Lib.hid (by
      have h1 := cell_two_new (w.alloc (.cells #[.bool bb, .string rr] 59)) (.bool bb) (.string rr) 59
      rwa [show (w.alloc (.cells #[.bool bb, .string rr] 59)).heap.size = w.heap.size + 1 by simp] at h1)
    have HONE : Hid (∀ u ∈ [Value.bool bb, .string rr], u.oneCell' = true) := Lib.hid (by simp [Value.oneCell'])
    have HSZ : Hid (w.heap.size ≤ ((w.alloc (.cells #[.bool bb, .string rr] 59)).alloc (.cells #[.bool bb, .string rr] 59)).heap.size) := Lib.hid (by simp; omega)
    have H63 : Hid (0 + 1 ≤ maxLen) := Lib.hid (by decide)
    go_enter Tryd.func42, Tryd.ntmps42
    go_wp2_with (first
      | (at_builtin; refine wpList_append_own_none rfl (.tmp 8) (.tmp 9) 27 rfl w.heap.size 59 i0 2 Tryd.underlying27 HI0.out _ 0 _ rfl (World.ownsRow_nil _ _ _ _) rfl ?_)
      | (at_builtin; refine wpList_append_lies _ rfl (.tmp 15) (.tmp 17) 27 rfl w.heap.size 59 i0 (.agg #[.bool false, .string ⟨#[]⟩]) 2 24 Tryd.underlying27 HI0.out HZ0.out HZ1.out HZ2.out rfl (by decide) (.slice none 0 0) 0 [] (by rfl) (World.ownsRow_nil _ _ _ _) ⟨w.heap.size + 1, 0, none⟩ 1 1 [.bool bb, .string rr] (by rfl) rfl HNEW.out HONE.out (by omega) H63.out (by omega) HSZ.out _ rfl ?_; intro gN cap w3 hown hgrow hat hlt3))
    have HB : Hid (Below w.heap.size w w3) := Lib.hid ((HB0.out.alloc HB0.out.size _).grown hgrow (by simp; omega) (fun k e => by cases e))
    have HO : Hid (Rf w3 (.slice (some ⟨gN, 0, none⟩) 1 cap) [o]) := Lib.hid (by unfold Rf; rw [HF.out]; exact base0 hown)
    clear hown hgrow hat hlt3
    go_ret
    exact ⟨⟨_, rfl, HO.out⟩, HB.out⟩
  · have HB1 : Hid (Below w.heap.size w (w.alloc (.cells #[.bool o.isSome, .string (recOf o)] 59))) := HB0
    have HC : Hid ((flat l).length = l.length * 2) := Lib.hid (flat_len l)
    have HNEW : Hid (∀ j u, (flat l)[j]? = some u → (w.alloc (.cells #[.bool o.isSome, .string (recOf o)] 59)).cell? ((⟨b, 0, none⟩ : Addr).add j) = some u) := Lib.hid (World.ownsRow.cells (h.below HB0.out) rfl)
    have HONE := Lib.hid (flat_one_cell l)
    have H63 : Hid (0 + l.length ≤ maxLen) := Lib.hid (by unfold maxLen; omega)
    have HSZ : Hid (w.heap.size ≤ (w.alloc (.cells #[.bool o.isSome, .string (recOf o)] 59)).heap.size) := Lib.hid (by simp)
    have HF1 : Hid (flat [o] = [.bool o.isSome, .string (recOf o)]) := Lib.hid rfl
    have HFS : Hid (i < l.length → (((flat l).set (i * 2) (.bool o.isSome)).set (i * 2 + 1) (.string (recOf o))) = flat (l.set i o)) := Lib.hid (fun h => flat_set l i o h)
    obtain ⟨N, HN⟩ : ∃ N, Hid (l.length = N) := ⟨_, Lib.hid rfl⟩
    have HW : Hid (withL l i o = if i = N then l ++ [o] else l.set i o) := Lib.hid (by unfold withL; rw [HN.out])
    rw [HN.out] at hi hl hc H63 HC HFS ⊢
    rw [HW.out]
    clear h HW
    generalize o.isSome = bb at *
    generalize recOf o = rr at *
    by_cases hiN : i = N
    · subst hiN
      rw [if_pos rfl]
      have he : ((i : Int) == (i : Int)) = true := by simp
      have H64 : Hid (i + 1 ≤ maxLen) := Lib.hid (by unfold maxLen; omega)
      have HO2 : Hid (∀ u ∈ [Value.bool bb, .string rr], u.oneCell' = true) := Lib.hid (by simp [Value.oneCell'])
      go_enter Tryd.func42, Tryd.ntmps42
      go_wp2_with (first
        | (at_builtin; refine wpList_append_own _ rfl (.tmp 8) (.tmp 9) 27 rfl w.heap.size 59 i0 (.agg #[.bool false, .string ⟨#[]⟩]) 2 24 Tryd.underlying27 HI0.out HZ0.out HZ1.out HZ2.out rfl (by decide) (.slice none 0 0) 0 [] (by rfl) (World.ownsRow_nil _ _ _ _) ⟨b, 0, none⟩ i c (flat l) (by rfl) HC.out HNEW.out HONE.out H63.out (by omega) HSZ.out ?_; intro v1 w1 hown1 hgrow1 _; have HB2 : Hid (Below w.heap.size w w1) := Lib.hid (HB0.out.grown hgrow1 (by simp) (fun k e => by cases e)); have hbox := hgrow1.cell_far ⟨w.heap.size, 0, none⟩ (by simp) (by simp [Value.ownBlock]); have hbox2 := hgrow1.cell_far ⟨w.heap.size, 1, none⟩ (by simp) (by simp [Value.ownBlock]); have y0 := hbox.trans (World.cell?_alloc_new w _ _ 0); have y1 := hbox2.trans (World.cell?_alloc_new w _ _ 1); simp only [Nat.zero_add, List.nil_append] at hown1; have HOW := Lib.hid (hown1.alloc (.cells #[.bool bb, .string rr] 59)); have HLT := Lib.hid hown1.lt; clear hown1 hgrow1 hbox hbox2)
        | (at_builtin; refine wpList_append_own _ rfl (.tmp 15) (.tmp 17) 27 rfl w.heap.size 59 i0 (.agg #[.bool false, .string ⟨#[]⟩]) 2 24 Tryd.underlying27 HI0.out HZ0.out HZ1.out HZ2.out rfl (by decide) v1 i (flat l) (by rfl) HOW.out ⟨w1.heap.size, 0, none⟩ 1 1 [.bool bb, .string rr] (by rfl) rfl (cell_two_new w1 _ _ _) HO2.out H64.out (by omega) (HB2.out.alloc HB2.out.size _).size ?_; intro v2 w2 hown2 hgrow2 _))
      have HB3 : Hid (Below w.heap.size w w2) := Lib.hid ((HB2.out.alloc HB2.out.size _).grown hgrow2 (by have := HB2.out.size; simp; omega) (fun k e => (HLT.out k e).1))
      have HO : Hid (Rf w2 v2 (l ++ [o])) := Lib.hid (by unfold Rf; rw [flat_append, HF1.out, List.length_append, HN.out]; exact base0 hown2)
      clear hown2 hgrow2
      go_ret
      exact ⟨⟨_, rfl, HO.out⟩, HB3.out⟩
    · rw [if_neg hiN]
      have he : ((i : Int) == (N : Int)) = false := by simp; omega
      have hiN2 : (i : Int) < (N : Int) := by omega
      have hiN3 : i < N := by omega
      go_enter Tryd.func42, Tryd.ntmps42
      go_wp2_with (at_builtin; refine wpList_append_lies _ rfl (.tmp 8) (.tmp 9) 27 rfl w.heap.size 59 i0 (.agg #[.bool false, .string ⟨#[]⟩]) 2 24 Tryd.underlying27 HI0.out HZ0.out HZ1.out HZ2.out rfl (by decide) (.slice none 0 0) 0 [] (by rfl) (World.ownsRow_nil _ _ _ _) ⟨b, 0, none⟩ N c (flat l) (by rfl) HC.out HNEW.out HONE.out (by omega) H63.out (by omega) HSZ.out _ rfl ?_; intro gN cap w1 hown1 hgrow1 _ _; have HB2 : Hid (Below w.heap.size w w1) := Lib.hid (HB0.out.grown hgrow1 (by simp) (fun k e => by cases e)); have hbox := hgrow1.cell_far ⟨w.heap.size, 0, none⟩ (by simp) (by simp [Value.ownBlock]); have hbox2 := hgrow1.cell_far ⟨w.heap.size, 1, none⟩ (by simp) (by simp [Value.ownBlock]); have y0 := hbox.trans (World.cell?_alloc_new w _ _ 0); have y1 := hbox2.trans (World.cell?_alloc_new w _ _ 1); simp only [Nat.zero_add, List.nil_append] at hown1; have HOW := Lib.hid hown1; have HLT := Lib.hid hown1.lt; obtain ⟨f1, f2⟩ := And.intro (hown1.frozenAt (i * 2)) (hown1.frozenAt (i * 2 + 1)); have x1 := hown1.cellAt (i * 2) (by omega); have x2 := hown1.cellAt (i * 2 + 1) (by omega); rw [(flat_get l i (by rw [HN.out]; exact hiN3)).1] at x1; rw [(flat_get l i (by rw [HN.out]; exact hiN3)).2] at x2; clear hown1 hgrow1 hbox hbox2)
      have hst := (((HOW.out.stored (i * 2) (.bool bb)).1).stored (i * 2 + 1) (.string rr)).1
      rw [HFS.out hiN3] at hst
      have HST : Hid (Rf ((w1.setCell ⟨gN, i * 2, none⟩ (.bool bb)).setCell ⟨gN, i * 2 + 1, none⟩ (.string rr)) (.slice (some ⟨gN, 0, none⟩) N cap) (l.set i o)) := Lib.hid (by unfold Rf; rw [List.length_set, HN.out]; exact base0 hst)
      have hgN := (HLT.out gN rfl).1
      go_ret
      exact ⟨⟨_, rfl, HST.out⟩, (HB2.out.setCell (p := ⟨gN, i * 2, none⟩) hgN _).setCell (p := ⟨gN, i * 2 + 1, none⟩) hgN _⟩
end
end Go.Proofs.YtldkmkgkllgckaaDoor
