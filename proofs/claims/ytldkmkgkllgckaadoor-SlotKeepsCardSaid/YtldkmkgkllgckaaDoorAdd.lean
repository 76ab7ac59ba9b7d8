/- A record added. -/
import Derived.Test.YtldkmkgkllgckaaDoorDrop
import Derived.Deep.AppendLies
set_option linter.unusedSimpArgs false
namespace Go.Proofs.YtldkmkgkllgckaaDoor
open Go.RowKit

theorem infoS : (Tryd.prog.info? 56).map (fun i => (i.zero, i.size, i.bytes)) = some (some (.agg #[.bool false, .string ⟨#[]⟩]), 2, 24) := by kernel_rfl
section
variable {w : World} {g : Nat} {v : Value} {l : List Sl}
theorem add_nil (r : ByteArray) (w : World) : Calls Tryd.prog 11 #[.pointer none, .string r] w fun e w' => e = .returned (.tuple #[.int .i64 0, .int .i64 1]) ∧ Below w.heap.size w w' := by
  go_enter Tryd.func11, Tryd.ntmps11
  go_wp2_with fail
  go_ret2
  exact ⟨rfl, Below.refl _ _⟩
/-- A bare slot behind the last one. -/
theorem Pgr.snoc {w w3 : World} {g gN cap : Nat} {v : Value} {l : List Sl} {o : Obj} (h : Pgr w g v l)
    (hown : w3.ownsRow 0 56 2 (.slice (some ⟨gN, 0, none⟩) (l.length + 1) cap) (l.length + 1) (flat l ++ [.bool false, .string ⟨#[]⟩]))
    (hgrow : (w.alloc o).grownBy w3 v.ownBlock) (hat : v.ownBlock = some gN ∨ gN = w.heap.size + 1) :
    Pgr (w3.setCell ⟨g, 0, none⟩ (.slice (some ⟨gN, 0, none⟩) (l.length + 1) cap)) g (.slice (some ⟨gN, 0, none⟩) (l.length + 1) cap) (l ++ [none]) ∧
      Chg (foot g v) (foot g (.slice (some ⟨gN, 0, none⟩) (l.length + 1) cap)) w (w3.setCell ⟨g, 0, none⟩ (.slice (some ⟨gN, 0, none⟩) (l.length + 1) cap)) := by
  have hglt : g < w.heap.size := lt_of_block h.hd
  have hgN : gN ≠ g := by
    rcases hat with e | e
    · exact h.ne _ e
    · omega
  have hsz : w.heap.size ≤ w3.heap.size := Nat.le_trans (by simp) hgrow.size
  have h3 : ∀ k, k < w.heap.size → v.ownBlock ≠ some k → w3.heap[k]? = w.heap[k]? := fun k hk hne =>
    (hgrow.block k (by simp; omega) (fun e => hne e.symm)).trans (Below.heap_alloc w o k hk)
  refine ⟨⟨heap_setCell_same w3 g 0 _ _ _ ((h3 g hglt (fun e => h.ne g e rfl)).trans h.hd), ?_⟩, ⟨hgrow.os, hgrow.tape, hgrow.output, by simpa using hsz, fun k hk hne => ?_, fun k hk => ?_⟩⟩
  · rw [List.length_append, flat_append, flat_one]
    exact own_other hown (fun k hk => by cases hk; exact heap_setCell_other _ _ _ _ hgN)
  · have h1 : k ≠ g := fun e => hne (by simp [foot, e])
    have h2 : v.ownBlock ≠ some k := fun e => hne (by simp [foot, e])
    exact (heap_setCell_other _ _ _ _ h1).trans (h3 k hk h2)
  · simp only [foot, List.mem_cons, Option.mem_toList] at hk ⊢
    rcases hk with e | e
    · exact .inl (.inl e)
    · have e2 : gN = k := by simpa [Value.ownBlock] using e
      subst e2
      rcases hat with e3 | e3
      · exact .inl (.inr e3)
      · exact .inr (by omega)
/-- What the region behind Add's tests leaves. -/
theorem Pgr.done {w w' : World} {g : Nat} {v : Value} {l' : List Sl} {F : List Nat} (h : Pgr w' g v l') (hc : Chg F (foot g v) w w') (ho : Okp l') : Went F g l' w w' := ⟨_, (h.pg0 ho).pg, hc⟩
set_option maxHeartbeats 3200000 in
theorem add_any (h : Pg0 w g v l) (r : ByteArray) (hr : r.size ≤ 9223372036854775807) : Calls Tryd.prog 11 #[.pointer (some ⟨g, 0, none⟩), .string r] w fun e w' => e = .returned (.tuple #[.int .i64 (addN l r : Int), .int .i64 (addE l r : Int)]) ∧ Went (foot g v) g (addL l r) w w' := by
  have HP := Lib.hid h
  by_cases h4 : 480 < r.size
  · have hd : decide ((480 : Int) < (r.size : Int)) = true := by simp; omega
    rw [show addE l r = 2 by unfold addE; rw [if_pos h4], show addL l r = l by unfold addL; rw [if_pos h4], show addN l r = 0 by unfold addN; rw [if_pos h4]]
    clear h h4
    go_enter Tryd.func11, Tryd.ntmps11
    go_wp2_with fail
    go_ret2
    exact ⟨rfl, Went.refl HP.out.pg⟩
  · have hd : decide ((480 : Int) < (r.size : Int)) = false := by simp; omega
    have HR : Hid (∀ w1, Below w.heap.size w w1 → Calls Tryd.prog 18 #[.pointer (some ⟨g, 0, none⟩)] w1 fun e w' => e = .returned (.int .i64 (room l)) ∧ Below w1.heap.size w1 w') := Lib.hid (fun w1 hb => room_any (h.below hb))
    have hrf := room_full h.ok.len r (by omega)
    by_cases hf : addFull l r = true
    · have hd2 : decide (room l < (r.size : Int)) = true := by rw [← hrf]; exact hf
      rw [show addE l r = 8 by unfold addE; rw [if_neg h4, if_pos hf], show addL l r = l by unfold addL; rw [if_neg h4, if_pos hf], show addN l r = 0 by unfold addN; rw [if_neg h4, if_pos hf]]
      clear h h4 hrf hf
      generalize room l = x at *
      go_enter Tryd.func11, Tryd.ntmps11
      go_wp2_with (go_at_call 18; refine (HR.out _ (Below.refl _ _)).mono ?_; rintro e w1 ⟨rfl, hb⟩)
      go_ret2
      exact ⟨rfl, Went.below HP.out.pg hb⟩
    · have hd2 : decide (room l < (r.size : Int)) = false := by rw [← hrf]; simpa using hf
      have HN : Hid (∀ w1, Below w.heap.size w w1 → Calls Tryd.prog 26 #[.pointer (some ⟨g, 0, none⟩)] w1 fun e w' => e = .returned (.int .i64 (bareI l : Int)) ∧ Below w1.heap.size w1 w') := Lib.hid (fun w1 hb => next_any (h.below hb))
      have HOK : Hid (Okp (addL l r)) := Lib.hid (h.ok.add r)
      have hE : addL l r = withL l (bareI l) (some r) := by unfold addL; rw [if_neg h4, if_neg hf]
      rw [show addE l r = 0 by unfold addE; rw [if_neg h4, if_neg hf], show addN l r = bareI l by unfold addN; rw [if_neg h4, if_neg hf]]
      have hbl := bareI_le l
      have hN := h.ok.len
      obtain ⟨i, HI⟩ : ∃ i, Hid (bareI l = i) := ⟨_, Lib.hid rfl⟩
      rw [HI.out] at hE hbl HN ⊢
      obtain ⟨i0, hi0, hz0, hz1, hz2⟩ := info_parts infoS
      have HI0 := Lib.hid hi0
      have HZ0 := Lib.hid hz0
      have HZ1 := Lib.hid hz1
      have HZ2 := Lib.hid hz2
      by_cases hlt : i < l.length
      · rw [show addL l r = l.set i (some r) by rw [hE]; unfold withL; rw [if_neg (by omega)]] at HOK ⊢
        have HK := Lib.hid hlt
        obtain ⟨b, c, e, hc, _⟩ := h.raw.at hlt
        subst e
        obtain ⟨N, HNN⟩ : ∃ N, Hid (l.length = N) := ⟨_, Lib.hid rfl⟩
        rw [HNN.out] at hlt hN hc hbl HP ⊢
        have he : ((i : Int) == (N : Int)) = false := by simp; omega
        have hiN : (i : Int) < (N : Int) := by omega
        clear h h4 hrf hf hE hi0 hz0 hz1 hz2
        generalize room l = x at *
        go_enter Tryd.func11, Tryd.ntmps11
        go_wp2_with (go_at_call 18; refine (HR.out _ (Below.refl _ _)).mono ?_; rintro e w1 ⟨rfl, hb⟩; have HB := Lib.hid hb; clear hb)
        refine (HN.out _ HB.out).mono ?_
        rintro e w2 ⟨rfl, hb⟩
        have HB2 := Lib.hid (HB.out.trans (hb.mono HB.out.size))
        clear hb
        have HP2 := Lib.hid (HP.out.below HB2.out)
        have c0 := HP2.out.c0
        obtain ⟨b', c', e', _, x1, x2, f1, f2⟩ := HP2.out.raw.at HK.out
        rw [HNN.out] at e'
        cases e'
        go_wp2_with fail
        go_ret2
        have h2 := HP2.out.raw.set2 HK.out (some r)
        exact ⟨rfl, h2.1.done ((Chg.of_below HB2.out).trans h2.2) HOK.out⟩
      · obtain rfl : i = l.length := by omega
        rw [show addL l r = l ++ [some r] by rw [hE]; unfold withL; rw [if_pos rfl]] at HOK ⊢
        obtain ⟨q, c, e⟩ := h.form
        subst e
        obtain ⟨N, HNN⟩ : ∃ N, Hid (l.length = N) := ⟨_, Lib.hid rfl⟩
        rw [HNN.out] at hN HN HP ⊢
        have he : ((N : Int) == (N : Int)) = true := by simp
        have hiN : (N : Int) < (N : Int) + 1 := by omega
        clear h h4 hrf hf hE hi0 hz0 hz1 hz2 hbl hlt
        generalize room l = x at *
        go_enter Tryd.func11, Tryd.ntmps11
        go_wp2_with (go_at_call 18; refine (HR.out _ (Below.refl _ _)).mono ?_; rintro e w1 ⟨rfl, hb⟩; have HB := Lib.hid hb; clear hb)
        refine (HN.out _ HB.out).mono ?_
        rintro e w2 ⟨rfl, hb⟩
        have HB2 := Lib.hid (HB.out.trans (hb.mono HB.out.size))
        clear hb
        have HP2 := Lib.hid (HP.out.below HB2.out)
        have c0 := HP2.out.c0
        have cf := HP2.out.fz
        have hglt := HP2.out.lt
        have hrow : (w2.alloc (.cells #[.bool false, .string ⟨#[]⟩] 56)).ownsRow 0 56 2 (.slice q N c) N (flat l) := by have := HP2.out.row.alloc (.cells #[.bool false, .string ⟨#[]⟩] 56); rwa [HNN.out] at this
        have HROW := Lib.hid hrow
        clear hrow
        go_wp2_with (at_builtin; refine wpList_append_lies _ rfl (.tmp 33) (.tmp 35) 52 rfl 0 56 i0 (.agg #[.bool false, .string ⟨#[]⟩]) 2 24 Tryd.underlying52 HI0.out HZ0.out HZ1.out HZ2.out rfl (by decide) (.slice q N c) N (flat l) (by rfl) HROW.out ⟨w2.heap.size, 0, none⟩ 1 1 [.bool false, .string ⟨#[]⟩] (by rfl) rfl (cell_two_new w2 _ _ _) (by decide) (by omega) (by unfold maxLen; omega) (by omega) (Nat.zero_le _) (w2.heap.size + 1) (by simp) ?_)
        intro gN cap w3 hown hgrow hat hlt3
        rw [← HNN.out] at hown
        have hs := HP2.out.raw.snoc hown hgrow hat
        rw [HNN.out] at hs
        have HS := Lib.hid hs
        have c3 : w3.cell? ⟨g, 0, none⟩ = some (.slice q N c) := by
          have hne : some g ≠ (Value.slice q N c).ownBlock := fun e => HP2.out.raw.ne g e.symm rfl
          exact (hgrow.cell_far ⟨g, 0, none⟩ (by simp; omega) hne).trans (((Below.refl w2.heap.size w2).alloc (Nat.le_refl _) _).cell (p := ⟨g, 0, none⟩) hglt |>.trans c0)
        have f3 : w3.frozen? ⟨g, 0, none⟩ = false := by
          have hne : some g ≠ (Value.slice q N c).ownBlock := fun e => HP2.out.raw.ne g e.symm rfl
          exact (hgrow.frozen_far ⟨g, 0, none⟩ (by simp; omega) hne).trans (((Below.refl w2.heap.size w2).alloc (Nat.le_refl _) _).frozen (p := ⟨g, 0, none⟩) hglt |>.trans cf)
        obtain ⟨b', c', e', hcc, x1, x2, y1, y2⟩ := hs.1.at (k := N) (by simp [HNN.out])
        rw [List.length_append, HNN.out] at e'
        cases e'
        clear hs hown hgrow hat hlt3 c0 cf
        go_upto_region 10 with fail
        generalize w3.setCell ⟨g, 0, none⟩ (.slice (some ⟨gN, 0, none⟩) (N + 1) cap) = w4 at *
        have c0 := HS.out.1.c0
        clear c3 f3
        go_wp2_with fail
        go_ret2
        have h2 := HS.out.1.set2 (k := N) (by simp [HNN.out]) (some r)
        have h3 : (l ++ [none]).set N (some r) = l ++ [some r] := by rw [← HNN.out]; simp
        rw [h3] at h2
        exact ⟨rfl, h2.1.done ((Chg.of_below HB2.out).trans (HS.out.2.trans h2.2)) HOK.out⟩
end
end Go.Proofs.YtldkmkgkllgckaaDoor
