/- A name behind the others; a name's number. -/
import Derived.Test.YtnagdjgicphknaaDoorSmall
import Derived.Test.YtnagdjgicphknaaDoorSClone
import Derived.Deep.Cut
import Derived.Deep.CutBlock
import Derived.Deep.DeepCutAuto
import Derived.Deep.AppendLies
set_option linter.unusedSimpArgs false
namespace Go.Proofs.YtnagdjgicphknaaDoor
open Go.RowKit

section
variable {w : World} {g mb : Nat} {v : Value} {L : List ByteArray}
/-- The row is put in, the map isn't yet. -/
theorem Tb0.put {w3 : World} {gN cap : Nat} {S : ByteArray} (h : Tb0 w g v mb L)
    (hown : w3.ownsRow 0 9 1 (.slice (some ⟨gN, 0, none⟩) (L.length + 1) cap) (L.length + 1) (strs L ++ [.string S]))
    (hgrow : (w.alloc (.cells #[.string S] 9)).grownBy w3 v.ownBlock) (hat : v.ownBlock = some gN ∨ gN = w.heap.size + 1) :
    (w3.setCell ⟨g, 0, none⟩ (.slice (some ⟨gN, 0, none⟩) (L.length + 1) cap)).heap[g]? = some (.cells #[.slice (some ⟨gN, 0, none⟩) (L.length + 1) cap, .map (some mb)] 49 (0, 0)) ∧
    Rf (w3.setCell ⟨g, 0, none⟩ (.slice (some ⟨gN, 0, none⟩) (L.length + 1) cap)) (.slice (some ⟨gN, 0, none⟩) (L.length + 1) cap) (L ++ [S]) ∧
    Frs (w3.setCell ⟨g, 0, none⟩ (.slice (some ⟨gN, 0, none⟩) (L.length + 1) cap)) mb L ∧
    Chg (foot g v mb) (foot g (.slice (some ⟨gN, 0, none⟩) (L.length + 1) cap) mb) w (w3.setCell ⟨g, 0, none⟩ (.slice (some ⟨gN, 0, none⟩) (L.length + 1) cap)) ∧ gN ≠ mb ∧ g ≠ mb := by
  have hglt : g < w.heap.size := h.lt
  have hmlt : mb < w.heap.size := h.map.lt
  have hgN : gN ≠ g := by
    rcases hat with e | e
    · exact fun e2 => h.ne _ e e2.symm
    · omega
  have hgm : gN ≠ mb := by
    rcases hat with e | e
    · exact h.nev _ e
    · omega
  have hsz : w.heap.size ≤ w3.heap.size := Nat.le_trans (by simp) hgrow.size
  have h3 : ∀ k, k < w.heap.size → v.ownBlock ≠ some k → w3.heap[k]? = w.heap[k]? := fun k hk hne =>
    (hgrow.block k (by simp; omega) (fun e => hne e.symm)).trans (Below.heap_alloc w _ k hk)
  refine ⟨heap_setCell_same w3 g 0 _ _ _ ((h3 g hglt (fun e => h.ne g e rfl)).trans h.hd), ?_, ?_, ⟨hgrow.os, hgrow.tape, hgrow.output, by simpa using hsz, fun k hk hne => ?_, fun k hk => ?_⟩, hgm, h.nem⟩
  · unfold Rf
    rw [List.length_append, strs_snoc]
    exact own_other hown (fun k hk => by cases hk; exact heap_setCell_other _ _ _ _ hgN)
  · refine h.map.same ((heap_setCell_other _ _ _ _ (Ne.symm h.nem)).trans (h3 mb hmlt (fun e => h.nev mb e rfl)))
  · have h1 : k ≠ g := fun e => hne (by simp [foot, e])
    have h2 : v.ownBlock ≠ some k := fun e => hne (by simp [foot, e])
    exact (heap_setCell_other _ _ _ _ h1).trans (h3 k hk h2)
  · simp only [foot, List.mem_cons, Option.mem_toList] at hk ⊢
    rcases hk with e | e | e
    · exact .inl (.inl e)
    · exact .inl (.inr (.inl e))
    · have e2 : gN = k := by simpa [Value.ownBlock] using e
      subst e2
      rcases hat with e3 | e3
      · exact .inl (.inr (.inr e3))
      · exact .inr (by omega)
set_option maxHeartbeats 1600000 in
theorem add_any {F : List Nat} (h : Tb w g F L) (S : ByteArray) (hS : okB S = true) (hn : S ∉ L) (hl : L.length ≤ 1000) : Calls Tryd.prog 24 #[.pointer (some ⟨g, 0, none⟩), .string S] w fun e w' => e = .returned (.int .i64 (L.length : Int)) ∧ Went F g (L ++ [S]) w w' := by
  obtain ⟨v, mb, h, rfl⟩ := h
  have HH := Lib.hid h
  have c0 := h.c0
  have c1 := h.c1
  have fz := h.fz
  have HR := Lib.hid h.row
  obtain ⟨q, c, rfl⟩ := h.form
  obtain ⟨i0, hi0, hz0, hz1, hz2⟩ := info_parts info9
  have HI0 := Lib.hid hi0
  have HZ0 := Lib.hid hz0
  have HZ1 := Lib.hid hz1
  have HZ2 := Lib.hid hz2
  have HB0 : Hid (Below w.heap.size w (w.alloc (.cells #[.string S] 9))) := Lib.hid ((Below.refl _ _).alloc (Nat.le_refl _) _)
  have HR0 : Hid ((w.alloc (.cells #[.string S] 9)).ownsRow 0 9 1 (.slice q L.length c) L.length (strs L)) := Lib.hid (h.row.below HB0.out)
  have hne : ∀ k, (Value.slice q L.length c).ownBlock = some k → k ≠ g := fun k hk e => h.ne k hk e.symm
  have HNE := Lib.hid hne
  have hlt := h.lt
  have HN := Lib.hid hn
  have HSS : S.size ≤ 140737488355328 := by have := ((okB_iff S).1 hS).2.1; omega
  have HOK := Lib.hid hS
  have H1S : Hid (∀ u ∈ [Value.string S], u.oneCell' = true) := Lib.hid (by simp [Value.oneCell'])
  have H63 : Hid (L.length + 1 ≤ maxLen) := Lib.hid (by unfold maxLen; omega)
  clear h hi0 hz0 hz1 hz2 hne hn hS
  go_enter Tryd.func24, Tryd.ntmps24
  go_upto_region 3 with (at_builtin; refine wpList_append_lies _ rfl (.tmp 15) (.tmp 17) 27 rfl 0 9 i0 (.string ⟨#[]⟩) 1 16 Tryd.underlying27 HI0.out HZ0.out HZ1.out HZ2.out rfl (by decide) (.slice q L.length c) L.length (strs L) (by rfl) HR0.out ⟨w.heap.size, 0, none⟩ 1 1 [.string S] (by rfl) rfl (cell_one_new w (.string S) 9) H1S.out (by omega) H63.out (by omega) (Nat.zero_le _) _ rfl ?_; intro gN cap w1 hown hgrow hat _; have y0 := (hgrow.cell_far ⟨g, 0, none⟩ (by simp; omega) (fun e => HNE.out g e.symm rfl)).trans (HB0.out.cell hlt); have z0 := (hgrow.frozen_far ⟨g, 0, none⟩ (by simp; omega) (fun e => HNE.out g e.symm rfl)).trans (HB0.out.frozen hlt))
  obtain ⟨p1, p2, p3, p4, n1, n2⟩ := HH.out.put hown hgrow (by simpa using hat)
  generalize w1.setCell ⟨g, 0, none⟩ (.slice (some ⟨gN, 0, none⟩) (L.length + 1) cap) = w2 at *
  have d1 : w2.cell? ⟨g, 1, none⟩ = some (.map (some mb)) := by rw [cell_of_row w2 g 1 _ _ _ p1]; rfl
  have HM := Lib.hid p3
  have HP1 := Lib.hid p1
  have HP2 := Lib.hid p2
  have HC := Lib.hid p4
  have HNS := HN.out
  have hl6 : L.length ≤ 1000000 := by omega
  clear hown hgrow hat y0 z0 c0 c1 fz p1 p2 p3 p4 HR0 HR HB0
  go_upto_region 4 with (refine wpList_store_frs _ rfl _ _ _ rfl mb L S rfl HM.out HSS HNS hl6 rfl rfl ?_; intro w3 hM3 hO3)
  have HM3 := Lib.hid hM3
  have HO3 := Lib.hid hO3
  clear hM3 hO3
  go_wp2_with fail
  go_ret
  refine ⟨rfl, foot g (.slice (some ⟨gN, 0, none⟩) (L.length + 1) cap) mb, ⟨_, mb, ⟨?_, ?_, HM3.out, HH.out.ok.snoc HOK.out HN.out⟩, rfl⟩, ?_⟩
  · exact (HO3.out.block g (lt_block HP1.out) n2).trans HP1.out
  · exact HP2.out.other (fun k hk => HO3.out.block k (HP2.out.lt k hk) (by cases hk; exact n1))
  · exact HC.out.trans ⟨HO3.out.os, HO3.out.tape, HO3.out.output, HO3.out.size, fun k hk hn => HO3.out.block k hk (fun e => hn (by simp [foot, e])), fun _ h => .inl h⟩
theorem number_nil (S : ByteArray) (w : World) : Calls Tryd.prog 14 #[.pointer none, .string S] w fun e w' => e = .returned (.tuple #[.int .i64 0, .int .i64 1]) ∧ w = w' := by
  go_enter Tryd.func14, Tryd.ntmps14
  go_wp2_with fail
  go_ret2
  exact ⟨rfl, rfl⟩
/-- What Number answers. -/
def numA (L : List ByteArray) (S : ByteArray) : Int := if okB S = true then (if S ∈ L then (atN L S : Int) else (L.length : Int)) else 0
def errA (S : ByteArray) : Int := if okB S = true then 0 else 1
set_option maxHeartbeats 800000 in
theorem number_any {F : List Nat} (h : Tb w g F L) (S : ByteArray) (hl : L.length ≤ 1000) : Calls Tryd.prog 14 #[.pointer (some ⟨g, 0, none⟩), .string S] w fun e w' => e = .returned (.tuple #[.int .i64 (numA L S), .int .i64 (errA S)]) ∧ Went F g (numM L S) w w' := by
  have HT := Lib.hid h
  have HMay := Lib.hid (may_any S w)
  by_cases hS : okB S = true
  · rw [hS] at HMay
    have hsz : S.size ≤ 140737488355328 := by have := ((okB_iff S).1 hS).2.1; omega
    have hpos := ((okB_iff S).1 hS).1
    obtain ⟨v, mb, h0, hF⟩ := h
    have c1 := h0.c1
    have hlk := h0.map.look S hsz
    clear hF
    by_cases hm : S ∈ L
    · rw [show numA L S = (atN L S : Int) by unfold numA; rw [if_pos hS, if_pos hm], show errA S = 0 by unfold errA; rw [if_pos hS], show numM L S = L by unfold numM; rw [if_pos hS, if_pos hm]]
      rw [show numI L S = (atN L S : Int) by unfold numI; rw [if_pos hm], decide_eq_true hm] at hlk
      clear h0
      go_enter Tryd.func14, Tryd.ntmps14
      go_wp2_with (refine HMay.out.mono ?_; rintro e w1 ⟨rfl, rfl⟩)
      go_ret2
      exact ⟨rfl, Went.refl HT.out⟩
    · rw [show numA L S = (L.length : Int) by unfold numA; rw [if_pos hS, if_neg hm], show errA S = 0 by unfold errA; rw [if_pos hS], show numM L S = L ++ [S] by unfold numM; rw [if_pos hS, if_neg hm]]
      rw [show numI L S = 0 by unfold numI; rw [if_neg hm], decide_eq_false hm] at hlk
      have HFull := Lib.hid (full_any HT.out hl)
      have HCl := Lib.hid (sclone_any S w hpos hsz)
      have HA : Hid (∀ w1, Below w.heap.size w w1 → Calls Tryd.prog 24 #[.pointer (some ⟨g, 0, none⟩), .string S] w1 fun e w' => e = .returned (.int .i64 (L.length : Int)) ∧ Went F g (L ++ [S]) w1 w') := Lib.hid (fun w1 hb => add_any (HT.out.below hb) S hS hm hl)
      clear h0
      go_enter Tryd.func14, Tryd.ntmps14
      go_wp2_with (first
        | (go_at_call 11; refine HMay.out.mono ?_; rintro e w1 ⟨rfl, rfl⟩)
        | (go_at_call 23; refine HFull.out.mono ?_; rintro e w1 ⟨rfl, rfl⟩)
        | (go_at_call 25; refine HCl.out.mono ?_; rintro e w1 ⟨rfl, hb1⟩)
        | (go_at_call 24; refine (HA.out _ hb1).mono ?_; rintro e w2 ⟨rfl, hw2⟩))
      go_ret2
      exact ⟨rfl, hw2.pre hb1⟩
  · have hS2 : okB S = false := by simpa using hS
    rw [hS2] at HMay
    rw [show numA L S = 0 by unfold numA; rw [if_neg hS], show errA S = 1 by unfold errA; rw [if_neg hS], show numM L S = L by unfold numM; rw [if_neg hS]]
    go_enter Tryd.func14, Tryd.ntmps14
    go_wp2_with (refine HMay.out.mono ?_; rintro e w1 ⟨rfl, rfl⟩)
    go_ret2
    exact ⟨rfl, Went.refl HT.out⟩
end
end Go.Proofs.YtnagdjgicphknaaDoor
