/- A step of the law, on both. -/
import Derived.Test.YtnagdjgicphknaaDoorCopy
import Derived.Deep.Cut
import Derived.Deep.CutBlock
import Derived.Deep.DeepCutAuto
set_option linter.unusedSimpArgs false
set_option maxRecDepth 20000
namespace Go.Proofs.YtnagdjgicphknaaDoor
open Go.RowKit

/-- A table and a row of the same names, apart. -/
structure Pair (w : World) (g : Nat) (F : List Nat) (v : Value) (L : List ByteArray) : Prop where
  tb : Tb w g F L
  rf : Rf w v L
  ap : ∀ k, v.ownBlock = some k → k ∉ F
def Pair.foot (F : List Nat) (v : Value) : List Nat := F ++ v.ownBlock.toList
theorem Pair.below {w w' : World} {g : Nat} {F : List Nat} {v : Value} {L : List ByteArray} (h : Pair w g F v L) (hb : Below w.heap.size w w') : Pair w' g F v L := ⟨h.tb.below hb, h.rf.below hb, h.ap⟩
theorem Pair.stay {w w' : World} {g : Nat} {F F1 F2 : List Nat} {v : Value} {L : List ByteArray} (h : Pair w g F v L) (hc : Chg F1 F2 w w') (hd : ∀ k ∈ Pair.foot F v, k ∉ F1) : Pair w' g F v L :=
  ⟨h.tb.stay hc (fun k hk => hd k (by unfold Pair.foot; simp [hk])), h.rf.other (fun k hk => hc.block k (h.rf.lt k hk) (hd k (by unfold Pair.foot; simp [hk]))), h.ap⟩
/-- What a step leaves. -/
def Ends (w : World) (g : Nat) (F : List Nat) (v : Value) (L : List ByteArray) (e : Ending) (w' : World) : Prop :=
  ∃ y F', e = .returned (.tuple #[y, .bool true]) ∧ Pair w' g F' y L ∧ Chg (Pair.foot F v) (Pair.foot F' y) w w'
theorem Ends.same {w w' : World} {g : Nat} {F : List Nat} {v : Value} {L : List ByteArray} (h : Pair w g F v L) (hb : Below w.heap.size w w') : Ends w g F v L (.returned (.tuple #[v, .bool true])) w' :=
  ⟨v, F, rfl, h.below hb, Chg.of_below hb⟩
/-- The table has changed, the row hasn't. -/
theorem Pair.row {w w1 : World} {g : Nat} {F F1 : List Nat} {v : Value} {L : List ByteArray} (h : Pair w g F v L) (hc : Chg F F1 w w1) : Rf w1 v L ∧ ∀ k, v.ownBlock = some k → k ∉ F1 :=
  ⟨h.rf.other (fun k hk => hc.block k (h.rf.lt k hk) (h.ap k hk)), fun k hk hF => (hc.fresh k hF).elim (h.ap k hk) (fun h2 => by have := h.rf.lt k hk; omega)⟩
theorem Ends.keep {w w1 w2 : World} {g : Nat} {F F1 : List Nat} {v : Value} {L : List ByteArray} (h : Pair w g F v L) (hT : Tb w1 g F1 L) (hc : Chg F F1 w w1) (hb : Below w1.heap.size w1 w2) : Ends w g F v L (.returned (.tuple #[v, .bool true])) w2 :=
  ⟨v, F1, rfl, ⟨hT.below hb, (h.row hc).1.below hb, (h.row hc).2⟩, (hc.left _).trans (Chg.of_below hb)⟩
theorem Ends.put {w w1 w2 w3 : World} {g gN cap : Nat} {F F1 : List Nat} {v : Value} {L : List ByteArray} {S : ByteArray} (h : Pair w g F v L) (hT : Tb w1 g F1 (L ++ [S])) (hc : Chg F F1 w w1) (hb : Below w1.heap.size w1 w2)
    (hown : w3.ownsRow 0 9 1 (.slice (some ⟨gN, 0, none⟩) (L.length + 1) cap) (L.length + 1) (strs L ++ [.string S]))
    (hgrow : (w2.alloc (.cells #[.string S] 9)).grownBy w3 v.ownBlock) (hat : v.ownBlock = some gN ∨ gN = w2.heap.size + 1) :
    Ends w g F v (L ++ [S]) (.returned (.tuple #[.slice (some ⟨gN, 0, none⟩) (L.length + 1) cap, .bool true])) w3 := by
  obtain ⟨hR, hap⟩ := h.row hc
  have hs12 := hb.size
  have hs := hgrow.size
  simp at hs
  have hF1 := hT.lt
  have h3 : ∀ k, k < w1.heap.size → v.ownBlock ≠ some k → w3.heap[k]? = w1.heap[k]? := fun k hk hne =>
    ((hgrow.block k (by simp; omega) (fun e => hne e.symm)).trans (Below.heap_alloc w2 _ k (by omega))).trans (hb.block k hk)
  have hc3 : Chg (Pair.foot F1 v) (Pair.foot F1 (.slice (some ⟨gN, 0, none⟩) (L.length + 1) cap)) w1 w3 := by
    refine ⟨hgrow.os.trans hb.os, hgrow.tape.trans hb.tape, hgrow.output.trans hb.output, by omega, fun k hk hn => ?_, fun k hk => ?_⟩
    · exact h3 k hk (fun e => hn (by unfold Pair.foot; simp [e]))
    · unfold Pair.foot at hk ⊢
      rcases List.mem_append.1 hk with h1 | h1
      · exact .inl (List.mem_append.2 (.inl h1))
      · have e2 : k = gN := by simpa [Value.ownBlock] using h1
        subst e2
        rcases hat with e | e
        · exact .inl (List.mem_append.2 (.inr (by simp [e])))
        · exact .inr (by omega)
  refine ⟨_, F1, rfl, ⟨?_, ?_, ?_⟩, (hc.left _).trans hc3⟩
  · obtain ⟨v1, mb, hT0, e⟩ := hT
    exact ⟨v1, mb, hT0.same (fun k hk => h3 k (hT0.lts k hk) (fun e2 => hap k e2 (by rw [e]; exact hk))), e⟩
  · unfold Rf
    rw [List.length_append, strs_snoc]; exact hown
  · intro k hk hkF
    have e2 : gN = k := by simpa [Value.ownBlock] using hk
    subst e2
    rcases hat with e | e
    · exact hap gN e hkF
    · have := hF1 gN hkF; omega
section
variable {w : World} {g : Nat} {F : List Nat} {v : Value} {L : List ByteArray}
theorem step_find (h : Pair w g F v L) (hl : L.length ≤ 990) (o : Opv) (ho : o.name.size ≤ 200) (h0 : o.kind ≠ 0) (h1 : o.kind ≠ 1) : Calls Tryd.prog 10 #[.pointer (some ⟨g, 0, none⟩), v, o.val] w (Ends w g F v L) := by
  have HB0 : Hid (Below w.heap.size w (w.alloc (.cells #[.int .i64 o.kind, .string o.name] 31))) := Lib.hid ((Below.refl _ _).alloc (Nat.le_refl _) _)
  have a0 := World.cell?_alloc_new w #[.int .i64 o.kind, .string o.name] 31 0
  have a1 := World.cell?_alloc_new w #[.int .i64 o.kind, .string o.name] 31 1
  have HP := Lib.hid h
  have HF := Lib.hid (find_any (h.tb.below HB0.out) o.name (by omega))
  have HA := Lib.hid (rat_any (h.rf.below HB0.out) (by omega) o.name)
  show Calls Tryd.prog 10 #[.pointer (some ⟨g, 0, none⟩), v, .agg #[.int .i64 o.kind, .string o.name]] w _
  have e0 : (o.kind == 0) = false := by simpa using h0
  have e1 : (o.kind == 1) = false := by simpa using h1
  have f0 : (o.kind != 0) = true := by simpa using h0
  have f1 : (o.kind != 1) = true := by simpa using h1
  obtain ⟨q, c, rfl⟩ := h.rf.form
  clear h h0 h1
  generalize o.kind = kind at *
  generalize o.name = S at *
  by_cases hm : S ∈ L
  · rw [show numI L S = (atN L S : Int) by unfold numI; rw [if_pos hm], decide_eq_true hm] at HF
    rw [show atI L S = (atN L S : Int) by unfold atI; rw [if_pos hm]] at HA
    generalize atN L S = x at *
    have hd : decide ((0 : Int) ≤ (x : Int)) = true := by simp
    have hmx : max (x : Int) 0 = (x : Int) := by omega
    go_enter Tryd.func10, Tryd.ntmps10
    go_wp2_with (first
      | (go_at_call 15; refine HF.out.mono ?_; rintro e w1 ⟨rfl, rfl⟩)
      | (go_at_call 18; refine HA.out.mono ?_; rintro e w1 ⟨rfl, rfl⟩))
    go_ret2
    exact Ends.same HP.out HB0.out
  · rw [show numI L S = 0 by unfold numI; rw [if_neg hm], decide_eq_false hm] at HF
    rw [show atI L S = -1 by unfold atI; rw [if_neg hm]] at HA
    go_enter Tryd.func10, Tryd.ntmps10
    go_wp2_with (first
      | (go_at_call 15; refine HF.out.mono ?_; rintro e w1 ⟨rfl, rfl⟩)
      | (go_at_call 18; refine HA.out.mono ?_; rintro e w1 ⟨rfl, rfl⟩))
    go_ret2
    exact Ends.same HP.out HB0.out
set_option maxHeartbeats 1600000 in
theorem step_num (h : Pair w g F v L) (hl : L.length ≤ 990) (o : Opv) (h0 : o.kind = 0) : Calls Tryd.prog 10 #[.pointer (some ⟨g, 0, none⟩), v, o.val] w (Ends w g F v (numM L o.name)) := by
  have HB0 : Hid (Below w.heap.size w (w.alloc (.cells #[.int .i64 o.kind, .string o.name] 31))) := Lib.hid ((Below.refl _ _).alloc (Nat.le_refl _) _)
  have a0 := World.cell?_alloc_new w #[.int .i64 o.kind, .string o.name] 31 0
  have a1 := World.cell?_alloc_new w #[.int .i64 o.kind, .string o.name] 31 1
  have HP := Lib.hid h
  have HN := Lib.hid (number_any (h.tb.below HB0.out) o.name (by omega))
  have HM := Lib.hid (rmay_any o.name)
  show Calls Tryd.prog 10 #[.pointer (some ⟨g, 0, none⟩), v, .agg #[.int .i64 o.kind, .string o.name]] w _
  rw [h0] at HB0 a0 a1 HN ⊢
  obtain ⟨q, c, rfl⟩ := h.rf.form
  clear h h0
  generalize o.name = S at *
  have f0 : ((0 : Int) != 0) = false := rfl
  have f1 : ((0 : Int) == 1) = false := rfl
  by_cases hS : okB S = true
  · rw [hS] at HM
    rw [show errA S = 0 by unfold errA; rw [if_pos hS]] at HN
    by_cases hm : S ∈ L
    · rw [show numM L S = L by unfold numM; rw [if_pos hS, if_pos hm]] at HN ⊢
      rw [show numA L S = (atN L S : Int) by unfold numA; rw [if_pos hS, if_pos hm]] at HN
      have HA : Hid (∀ w1, Rf w1 (.slice q L.length c) L → Calls Tryd.prog 18 #[.slice q L.length c, .string S] w1 fun e w' => e = .returned (.int .i64 (atN L S : Int)) ∧ w1 = w') := Lib.hid (fun w1 h => by have := rat_any h (by omega) S; rwa [show atI L S = (atN L S : Int) by unfold atI; rw [if_pos hm]] at this)
      generalize atN L S = x at *
      have hd : decide ((x : Int) < 0) = false := by simp
      have he : ((x : Int) == (x : Int)) = true := by simp
      go_enter Tryd.func10, Tryd.ntmps10
      go_wp2_with (first
        | (go_at_call 14; refine HN.out.mono ?_; rintro e w1 ⟨rfl, F1, hT1, hC1⟩; have HC1 := Lib.hid ((Chg.of_below HB0.out).trans hC1); have HR1 := Lib.hid (HP.out.row HC1.out).1)
        | (go_at_call 12; refine (HM.out _).mono ?_; rintro e w2 ⟨rfl, rfl⟩)
        | (go_at_call 18; refine (HA.out _ HR1.out).mono ?_; rintro e w2 ⟨rfl, rfl⟩))
      go_ret2
      exact Ends.keep HP.out hT1 HC1.out (Below.refl _ _)
    · rw [show numM L S = L ++ [S] by unfold numM; rw [if_pos hS, if_neg hm]] at HN ⊢
      rw [show numA L S = (L.length : Int) by unfold numA; rw [if_pos hS, if_neg hm]] at HN
      have HA : Hid (∀ w1, Rf w1 (.slice q L.length c) L → Calls Tryd.prog 18 #[.slice q L.length c, .string S] w1 fun e w' => e = .returned (.int .i64 (-1)) ∧ w1 = w') := Lib.hid (fun w1 h => by have := rat_any h (by omega) S; rwa [show atI L S = -1 by unfold atI; rw [if_neg hm]] at this)
      obtain ⟨i0, hi0, hz0, hz1, hz2⟩ := info_parts info9
      have HI0 := Lib.hid hi0
      have HZ0 := Lib.hid hz0
      have HZ1 := Lib.hid hz1
      have HZ2 := Lib.hid hz2
      clear hi0 hz0 hz1 hz2
      have H1S : Hid (∀ u ∈ [Value.string S], u.oneCell' = true) := Lib.hid (by simp [Value.oneCell'])
      have H63 : Hid (L.length + 1 ≤ maxLen) := Lib.hid (by unfold maxLen; omega)
      have he : ((L.length : Int) == (L.length : Int)) = true := by simp
      go_enter Tryd.func10, Tryd.ntmps10
      go_upto_region 16 with (first
        | (go_at_call 14; refine HN.out.mono ?_; rintro e w1 ⟨rfl, F1, hT1, hC1⟩; have HC1 := Lib.hid ((Chg.of_below HB0.out).trans hC1); have HR1 := Lib.hid (HP.out.row HC1.out).1)
        | (go_at_call 12; refine (HM.out _).mono ?_; rintro e w2 ⟨rfl, rfl⟩)
        | (go_at_call 18; refine (HA.out _ HR1.out).mono ?_; rintro e w2 ⟨rfl, rfl⟩))
      have HR0 : Hid ((w1.alloc (.cells #[.string S] 9)).ownsRow 0 9 1 (.slice q L.length c) L.length (strs L)) := Lib.hid (HR1.out.below ((Below.refl _ _).alloc (Nat.le_refl _) _))
      go_wp2_with (at_builtin; refine wpList_append_lies _ rfl (.tmp 103) (.tmp 105) 27 rfl 0 9 i0 (.string ⟨#[]⟩) 1 16 Tryd.underlying27 HI0.out HZ0.out HZ1.out HZ2.out rfl (by decide) (.slice q L.length c) L.length (strs L) (by rfl) HR0.out ⟨w1.heap.size, 0, none⟩ 1 1 [.string S] (by rfl) rfl (cell_one_new w1 (.string S) 9) H1S.out (by omega) H63.out (by omega) (Nat.zero_le _) _ rfl ?_; intro gN cap w3 hown hgrow hat _)
      go_ret2
      exact Ends.put HP.out hT1 HC1.out (Below.refl _ _) hown hgrow (by simpa using hat)
  · have hS2 : okB S = false := by simpa using hS
    rw [hS2] at HM
    rw [show numM L S = L by unfold numM; rw [if_neg hS]] at HN ⊢
    rw [show errA S = 1 by unfold errA; rw [if_neg hS], show numA L S = 0 by unfold numA; rw [if_neg hS]] at HN
    go_enter Tryd.func10, Tryd.ntmps10
    go_wp2_with (first
      | (go_at_call 14; refine HN.out.mono ?_; rintro e w1 ⟨rfl, F1, hT1, hC1⟩; have HC1 := Lib.hid ((Chg.of_below HB0.out).trans hC1))
      | (go_at_call 12; refine (HM.out _).mono ?_; rintro e w2 ⟨rfl, rfl⟩))
    go_ret2
    exact Ends.keep HP.out hT1 HC1.out (Below.refl _ _)
set_option maxHeartbeats 1600000 in
theorem step_fr (h : Pair w g F v L) (hr : Room w L) (o : Opv) (h1 : o.kind = 1) : Calls Tryd.prog 10 #[.pointer (some ⟨g, 0, none⟩), v, o.val] w (Ends w g F v (frM L o.name)) := by
  have HB0 : Hid (Below w.heap.size w (w.alloc (.cells #[.int .i64 o.kind, .string o.name] 31))) := Lib.hid ((Below.refl _ _).alloc (Nat.le_refl _) _)
  have a0 := World.cell?_alloc_new w #[.int .i64 o.kind, .string o.name] 31 0
  have a1 := World.cell?_alloc_new w #[.int .i64 o.kind, .string o.name] 31 1
  have HP := Lib.hid h
  have hl : L.length ≤ 990 := by have := hr.le; omega
  have HN := Lib.hid (fresh_any (h.tb.below HB0.out) o.name (hr.below HB0.out))
  have HM := Lib.hid (rmay_any o.name)
  show Calls Tryd.prog 10 #[.pointer (some ⟨g, 0, none⟩), v, .agg #[.int .i64 o.kind, .string o.name]] w _
  rw [h1] at HB0 a0 a1 HN ⊢
  obtain ⟨q, c, rfl⟩ := h.rf.form
  clear h h1
  generalize o.name = S at *
  have f0 : ((1 : Int) != 1) = false := rfl
  have f1 : ((1 : Int) == 1) = true := rfl
  by_cases hS : okB S = true
  · rw [hS] at HM
    rw [show errA S = 0 by unfold errA; rw [if_pos hS], show frA L S = (L.length : Int) by unfold frA; rw [if_pos hS]] at HN
    rw [show frM L S = L ++ [fr L S] by unfold frM; rw [if_pos hS]] at HN ⊢
    have HA : Hid (∀ w1, Rf w1 (.slice q L.length c) L → Calls Tryd.prog 22 #[.slice q L.length c, .string S] w1 fun e w' => e = .returned (.string (fr L S)) ∧ Below w1.heap.size w1 w') := Lib.hid (fun w1 h => rfresh_any h hl S hS)
    generalize fr L S = T at *
    obtain ⟨i0, hi0, hz0, hz1, hz2⟩ := info_parts info9
    have HI0 := Lib.hid hi0
    have HZ0 := Lib.hid hz0
    have HZ1 := Lib.hid hz1
    have HZ2 := Lib.hid hz2
    clear hi0 hz0 hz1 hz2
    have H1S : Hid (∀ u ∈ [Value.string T], u.oneCell' = true) := Lib.hid (by simp [Value.oneCell'])
    have H63 : Hid (L.length + 1 ≤ maxLen) := Lib.hid (by unfold maxLen; omega)
    have he : ((L.length : Int) == (L.length : Int)) = true := by simp
    go_enter Tryd.func10, Tryd.ntmps10
    go_wp2_with (first
      | (go_at_call 17; refine HN.out.mono ?_; rintro e w1 ⟨rfl, F1, hT1, hC1⟩; have HC1 := Lib.hid ((Chg.of_below HB0.out).trans hC1); have HR1 := Lib.hid (HP.out.row HC1.out).1)
      | (go_at_call 12; refine (HM.out _).mono ?_; rintro e w2 ⟨rfl, rfl⟩)
      | (go_at_call 22; refine (HA.out _ HR1.out).mono ?_; rintro e w2 ⟨rfl, hb2⟩; have HR0 : Hid ((w2.alloc (.cells #[.string T] 9)).ownsRow 0 9 1 (.slice q L.length c) L.length (strs L)) := Lib.hid ((HR1.out.below hb2).below ((Below.refl _ _).alloc (Nat.le_refl _) _)))
      | (at_builtin; refine wpList_append_lies _ rfl (.tmp 68) (.tmp 72) 27 rfl 0 9 i0 (.string ⟨#[]⟩) 1 16 Tryd.underlying27 HI0.out HZ0.out HZ1.out HZ2.out rfl (by decide) (.slice q L.length c) L.length (strs L) (by rfl) HR0.out ⟨w2.heap.size, 0, none⟩ 1 1 [.string T] (by rfl) rfl (cell_one_new w2 (.string T) 9) H1S.out (by omega) H63.out (by omega) (Nat.zero_le _) _ rfl ?_; intro gN cap w3 hown hgrow hat _))
    go_ret2
    exact Ends.put HP.out hT1 HC1.out hb2 hown hgrow (by simpa using hat)
  · have hS2 : okB S = false := by simpa using hS
    rw [hS2] at HM
    rw [show frM L S = L by unfold frM; rw [if_neg hS]] at HN ⊢
    rw [show errA S = 1 by unfold errA; rw [if_neg hS], show frA L S = 0 by unfold frA; rw [if_neg hS]] at HN
    go_enter Tryd.func10, Tryd.ntmps10
    go_wp2_with (first
      | (go_at_call 17; refine HN.out.mono ?_; rintro e w1 ⟨rfl, F1, hT1, hC1⟩; have HC1 := Lib.hid ((Chg.of_below HB0.out).trans hC1))
      | (go_at_call 12; refine (HM.out _).mono ?_; rintro e w2 ⟨rfl, rfl⟩))
    go_ret2
    exact Ends.keep HP.out hT1 HC1.out (Below.refl _ _)
theorem step_any (h : Pair w g F v L) (hr : Room w L) (o : Opv) (ho : o.name.size ≤ 200) : Calls Tryd.prog 10 #[.pointer (some ⟨g, 0, none⟩), v, o.val] w (Ends w g F v (opM L o)) := by
  unfold opM
  by_cases h0 : o.kind = 0
  · rw [if_pos h0]; exact step_num h (by have := hr.le; omega) o h0
  · rw [if_neg h0]
    by_cases h1 : o.kind = 1
    · rw [if_pos h1]; exact step_fr h hr o h1
    · rw [if_neg h1]; exact step_find h (by have := hr.le; omega) o ho h0 h1
end
end Go.Proofs.YtnagdjgicphknaaDoor
