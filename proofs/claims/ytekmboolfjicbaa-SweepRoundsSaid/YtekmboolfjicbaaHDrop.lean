/- An object dropped. -/
import Derived.Test.YtekmboolfjicbaaHAdd
import Derived.StillTailTactics
set_option maxRecDepth 20000
set_option linter.unusedSimpArgs false
namespace Go.Proofs.Ytekmboolfjicbaa
open Go.RowKit

theorem drop_un (f : Nat → Option Nat) (n : Nat) : Nmf.drop f (n : Int) = unNum f n := by
  funext k
  unfold Nmf.drop unNum
  by_cases h : k = n
  · rw [if_pos h, if_pos (by omega)]
  · rw [if_neg h, if_neg (by omega)]
section
variable {w w' : World} {g mb : Nat} {vr : Value} {S : Nat → Option Pos} {m : Hm}
/-- A memory of which an object's number is taken away. -/
theorem Hp.bareAt (h : Hp w g vr mb S m) {i : Nat} {x : Pos} {d : Cl} (hx : S i = some x) (hd : clAt m.L i = some d) (hN : Nums w' mb (unNum m.f d.num)) (hO : Only mb w w') :
    Hp (w'.setCell ⟨x.1, 3, none⟩ (.int .i64 0)) g vr mb S (m.bare i d) ∧ Chp (footH g vr mb S) (footH g vr mb S) w (w'.setCell ⟨x.1, 3, none⟩ (.int .i64 0)) := by
  obtain ⟨n0, n1, n2⟩ := h.ne
  have hi := clAt_some hd
  have hat : ∀ j, clAt (m.bare i d).L j = if j = i then some { d with num := 0 } else clAt m.L j := fun j => clAt_set hi
  have hlen : (m.bare i d).L.length = m.L.length := List.length_set ..
  have hlive : liveN (m.bare i d).L = liveN m.L := liveN_set_same _ d hd
  obtain ⟨d', hd', hcx⟩ := h.pos hx
  rw [hd] at hd'; cases hd'
  have hxm : x.1 ≠ mb := (n2 i x hx x.1 (.inl rfl)).2.1
  have hxg : x.1 ≠ g := (n2 i x hx x.1 (.inl rfl)).1
  have hkeep : ∀ k, k < w.heap.size → k ≠ mb → k ≠ x.1 → (w'.setCell ⟨x.1, 3, none⟩ (.int .i64 0)).heap[k]? = w.heap[k]? := fun k hk h1 h2 =>
    (heap_setCell_other _ _ _ _ h2).trans (hO.block k hk h1)
  have hcx2 : CelAt w' x d := hcx.keep fun k hk => hO.block k (hcx.lt k hk) (n2 i x hx k hk).2.1
  refine ⟨⟨?_, ?_, ?_, ?_, ?_, h.sep, h.ok.bare hd⟩, (Chp.only hO (.inr (.inr (.inl rfl)))).trans (Chp.setCell (.inr (.inr (.inr ⟨i, x, hx, .inl rfl⟩))) _ _)⟩
  · rw [hlive]
    exact (hkeep g h.glt n0 (Ne.symm hxg)).trans h.hd
  · rw [hlen]
    exact own_other h.row fun k e => hkeep k (own_lt h.row e) (n1 k e).2 (fun e2 => (n2 i x hx x.1 (.inl rfl)).2.2 (by rw [e, e2]))
  · intro j e he
    rw [hat] at he
    split at he
    · rename_i ej; subst ej; cases he
      exact ⟨x, hx, hcx2.set rfl rfl⟩
    · rename_i hj
      obtain ⟨y, hy, hca⟩ := h.at_ j e he
      exact ⟨y, hy, hca.keep fun k hk => hkeep k (hca.lt k hk) (n2 j y hy k hk).2.1 (fun e2 => h.sep j i y x hj hy hx k hk (.inl e2))⟩
  · intro j hj
    rw [hat] at hj
    split at hj
    · cases hj
    · exact h.none_ j hj
  · exact hN.same (heap_setCell_other _ _ _ _ (Ne.symm hxm))
set_option maxHeartbeats 1600000 in
theorem Hp.renumber0 (h : Hp w g vr mb S m) {i : Nat} {d : Cl} (hd : clAt m.L i = some d) :
    Calls Try.prog 46 #[.pointer (some ⟨g, 0, none⟩), .int .i64 (i : Int), .int .i64 0] w fun e w' => e = .returned (.tuple #[]) ∧ Hp w' g vr mb S (m.bare i d) ∧ Chp (footH g vr mb S) (footH g vr mb S) w w' := by
  have HP := Lib.hid h
  have hi := clAt_some hd
  obtain ⟨x, hx, hca⟩ := h.at_ i d hd
  obtain ⟨b, c, rfl, hc, a1, -⟩ := h.at' hi
  have hs := h.short
  have hnum := h.ok.num i d hd
  have c1 := h.c1
  have c4 := h.c4
  have k3 := hca.c3
  have HX := Lib.hid hx
  have HD := Lib.hid hd
  have HCA := Lib.hid hca
  have hpv : ptrV S i = .pointer (some ⟨x.1, 0, none⟩) := by unfold ptrV; rw [hx]; rfl
  rw [hpv] at a1
  obtain ⟨N, HN⟩ : ∃ N, Hid (m.L.length = N) := ⟨_, Lib.hid rfl⟩
  rw [HN.out] at c1 hs hi hc HP
  obtain ⟨nn, HNN⟩ : ∃ nn, Hid (d.num = nn) := ⟨_, Lib.hid rfl⟩
  rw [HNN.out] at k3 hnum
  have hil : (i : Int) < (N : Int) := by omega
  clear h hd hx hca hpv
  go_enter Try.func46, Try.ntmps46
  go_upto_region 1 with fail
  go_still_tail 8, (by kernel_rfl)
  change wpList _ _ _ _ _ (World.drew _)
  have HNU : Hid (Nums w.drew mb m.f) := Lib.hid (HP.out.nums.same rfl)
  have HPD : Hid (Hp w.drew g (.slice (some ⟨b, 0, none⟩) N c) mb S m) := Lib.hid (HP.out.below (Below.refl _ _).drew)
  have HWD : Hid (Chp (footH g (.slice (some ⟨b, 0, none⟩) N c) mb S) (footH g (.slice (some ⟨b, 0, none⟩) N c) mb S) w w.drew) := Lib.hid (Chp.refl _ _).drew
  generalize w.drew = w1 at *
  have h64 : (-9223372036854775808 : Int) ≤ (nn : Int) ∧ (nn : Int) ≤ 9223372036854775807 := ⟨by omega, by omega⟩
  have H64 := Lib.hid h64
  clear h64
  go_upto_region 2 with (at_delete; refine wpList_del_frs _ rfl _ _ rfl mb _ (nn : Int) rfl HNU.out H64.out.1 H64.out.2 rfl ?_; intro w3 hM3 hO3)
  rw [drop_un, ← HNN.out] at hM3
  have HR := Lib.hid (HPD.out.bareAt HX.out HD.out hM3 hO3)
  have hlt3 : x.1 < w3.heap.size := by
    obtain ⟨d2, _, hc2⟩ := HPD.out.pos HX.out
    exact Nat.lt_of_lt_of_le (hc2.lt _ (.inl rfl)) hO3.size
  obtain ⟨cs, hcs⟩ : ∃ cs, w3.heap[x.1]? = some (.cells cs 101 (0, 0)) ∧ cs[3]? = some (.int .i64 (nn : Int)) := by
    obtain ⟨d2, hd2, hc2⟩ := HPD.out.pos HX.out
    rw [HD.out] at hd2
    cases hd2
    refine ⟨_, (hO3.block x.1 (hc2.lt _ (.inl rfl)) ?_).trans hc2.hd, by rw [← HNN.out]; rfl⟩
    exact (HPD.out.ne.2.2 i x HX.out x.1 (.inl rfl)).2.1
  have y3 := cell_of_row _ _ 3 _ _ _ hcs.1
  rw [hcs.2] at y3
  have f3 := frozen_of_row _ _ 3 _ _ hcs.1
  clear hcs hlt3 hM3 hO3
  go_wp2_with fail
  go_end0
  rw [HN.out]
  exact ⟨rfl, HR.out.1, HWD.out.trans HR.out.2⟩
/-- A memory of which an object was dropped. -/
theorem Hp.dropAt (h : Hp w g vr mb S m) {i : Nat} {d : Cl} (hd : clAt m.L i = some d) (h0 : d.num = 0)
    (hg : w'.heap[g]? = some (.cells #[.int .i64 (m.lim : Int), vr, .int .i64 ((liveN m.L : Int) - 1), .int .i64 ((min m.least i : Nat) : Int), .map (some mb), m.by_, .int .i64 (m.fet : Int)] 94 (0, 0)))
    (hrow : w'.ownsRow 0 98 1 vr m.L.length (ptrs (putS S i none) m.L.length))
    (hk : ∀ k, k < w.heap.size → k ≠ g → vr.ownBlock ≠ some k → w'.heap[k]? = w.heap[k]?) : Hp w' g vr mb (putS S i none) (m.drop i) := by
  obtain ⟨n0, n1, n2⟩ := h.ne
  have hi := clAt_some hd
  have hat : ∀ j, clAt (m.drop i).L j = if j = i then none else clAt m.L j := fun j => clAt_set hi
  have hlen : (m.drop i).L.length = m.L.length := List.length_set ..
  have hlive : liveN (m.drop i).L + 1 = liveN m.L := liveN_set_none hd
  refine ⟨?_, by rw [hlen]; exact hrow, ?_, ?_, ?_, ?_, h.ok.drop hd h0⟩
  · rw [hg]
    have : ((liveN m.L : Int) - 1) = (liveN (m.drop i).L : Int) := by omega
    rw [this]; rfl
  · intro j e he
    rw [hat] at he
    split at he
    · cases he
    · rename_i hj
      obtain ⟨y, hy, hca⟩ := h.at_ j e he
      refine ⟨y, by unfold putS; rw [if_neg hj]; exact hy, hca.keep fun k hky => ?_⟩
      obtain ⟨a1, _, a3⟩ := n2 j y hy k hky
      exact hk k (hca.lt k hky) a1 a3
  · intro j hj
    rw [hat] at hj
    unfold putS
    split at hj
    · rename_i e; rw [if_pos e]
    · rename_i e; rw [if_neg e]; exact h.none_ j hj
  · exact h.nums.same (hk mb h.nums.lt (Ne.symm n0) (fun e => (n1 mb e).2 rfl))
  · intro a c y z hac hy hz k hky hkz
    unfold putS at hy hz
    split at hy
    · cases hy
    · split at hz
      · cases hz
      · exact h.sep a c y z hac hy hz k hky hkz
theorem foot_drop {i : Nat} : ∀ k, footH g vr mb (putS S i none) k → footH g vr mb S k := by
  rintro k (rfl | e | rfl | ⟨j, y, hy, hk⟩)
  · exact .inl rfl
  · exact .inr (.inl e)
  · exact .inr (.inr (.inl rfl))
  · unfold putS at hy
    split at hy
    · cases hy
    · exact .inr (.inr (.inr ⟨j, y, hy, hk⟩))
end
/-- A call that lays no new block of the memory. -/
def WentD (F : Nat → Prop) (g : Nat) (m : Hm) (w w' : World) : Prop := ∃ F', Hep w' g F' m ∧ Chp F F' w w' ∧ ∀ k, F' k → F k
theorem WentD.below {w w' : World} {F : Nat → Prop} {g : Nat} {m : Hm} (h : Hep w g F m) (hb : Below w.heap.size w w') : WentD F g m w w' := ⟨F, h.below hb, Chp.of_below hb, fun _ h => h⟩
/-- What dropping makes of a memory. -/
def dropM (m : Hm) (v : Int × Int) : Hm := if hasP m.L v = true then (match clAt m.L v.2.toNat with | some d => (m.bare v.2.toNat d).drop v.2.toNat | none => m) else m
section
variable {w w' : World} {g mb : Nat} {vr : Value} {S : Nat → Option Pos} {m : Hm}
set_option maxHeartbeats 3200000 in
theorem Hp.dropW (h : Hp w g vr mb S m) (K N : Int) (h0 : -9223372036854775808 ≤ N) (h1 : N ≤ 9223372036854775807) :
    Calls Try.prog 24 #[.pointer (some ⟨g, 0, none⟩), .agg #[.int .i64 K, .int .i64 N]] w fun e w' => e = .returned (.bool (hasP m.L (K, N))) ∧ WentD (footH g vr mb S) g (dropM m (K, N)) w w' := by
  have HP := Lib.hid h
  have HB0 : Hid (Below w.heap.size w (w.alloc (.cells #[.int .i64 K, .int .i64 N] 36))) := Lib.hid ((Below.refl _ _).alloc (Nat.le_refl _) _)
  have HC : Hid (∀ w1, Below w.heap.size w w1 → Calls Try.prog 45 #[.pointer (some ⟨g, 0, none⟩), .agg #[.int .i64 K, .int .i64 N]] w1 fun e w' => e = .returned (.bool (hasP m.L (K, N))) ∧ Below w1.heap.size w1 w') := Lib.hid fun w1 hb => (h.below hb).has K N h0 h1
  cases hv : hasP m.L (K, N) with
  | false =>
    have HD : Hid (dropM m (K, N) = m) := Lib.hid (by unfold dropM; rw [if_neg (by rw [hv]; decide)])
    rw [HD.out]
    rw [hv] at HC
    clear h hv
    go_enter Try.func24, Try.ntmps24
    go_wp2_with (go_at_call 45; with_reducible refine (HC.out _ HB0.out).mono ?_; rintro e w1 ⟨rfl, hb⟩)
    go_ret
    exact ⟨rfl, WentD.below HP.out.hep (HB0.out.trans (hb.mono HB0.out.size))⟩
  | true =>
    obtain ⟨hK, hN, d, hd⟩ := hasP_iff.1 hv
    obtain ⟨i, rfl⟩ : ∃ i : Nat, N = (i : Int) := ⟨N.toNat, by have : (0 : Int) ≤ N := hN; omega⟩
    rw [show ((K, (i : Int)).2).toNat = i from Int.toNat_natCast i] at hd
    have HD : Hid (dropM m (K, (i : Int)) = (m.bare i d).drop i) := Lib.hid (by unfold dropM; rw [if_pos hv, show ((K, (i : Int)).2).toNat = i from Int.toNat_natCast i, hd])
    rw [HD.out]
    rw [hv] at HC
    have hi := clAt_some hd
    have hs := h.short
    have HRN : Hid (∀ w1, Below w.heap.size w w1 → Calls Try.prog 46 #[.pointer (some ⟨g, 0, none⟩), .int .i64 (i : Int), .int .i64 0] w1 fun e w' => e = .returned (.tuple #[]) ∧ Hp w' g vr mb S (m.bare i d) ∧ Chp (footH g vr mb S) (footH g vr mb S) w1 w') := Lib.hid fun w1 hb => (h.below hb).renumber0 hd
    have HDD : Hid (clAt (m.bare i d).L i = some { d with num := 0 }) := Lib.hid ((clAt_set hi).trans (if_pos rfl))
    have HLN : Hid ((m.bare i d).L.length = m.L.length) := Lib.hid (List.length_set ..)
    have HLV : Hid ((m.bare i d).least = m.least) := Lib.hid rfl
    have hlv : 0 < liveN (m.bare i d).L := by have := liveN_set_none HDD.out; omega
    have hlv2 : liveN (m.bare i d).L ≤ 16384 := by have h1 := liveN_le (m.bare i d).L; rw [HLN.out] at h1; omega
    have hls := h.ok.least
    have HLT := Lib.hid h.lt
    clear h hv hK hN hd
    generalize m.bare i d = m2 at *
    go_enter Try.func24, Try.ntmps24
    go_upto_region 4 with (first
      | (go_at_call 45; with_reducible refine (HC.out _ HB0.out).mono ?_; rintro e w1 ⟨rfl, hb⟩; have HB1 := Lib.hid (HB0.out.trans (hb.mono HB0.out.size)); have hx1 := (hb.block w.heap.size (by simp)).trans (heap_alloc_new w (.cells #[.int .i64 K, .int .i64 (i : Int)] 36)); have y0 := cell_of_row _ _ 1 _ _ _ hx1; simp at y0)
      | (go_at_call 46; with_reducible refine (HRN.out _ HB1.out).mono ?_; rintro e w2 ⟨rfl, hp2, hch2⟩))
    have hx2 := (hch2.block w.heap.size (lt_of_block hx1) (fun hf => by have := HLT.out _ hf; omega)).trans hx1
    have hi2 : i < m2.L.length := clAt_some HDD.out
    obtain ⟨b, c, hvr, hcc, a1, f1⟩ := hp2.at' hi2
    subst hvr
    have HPW := Lib.hid hp2
    have HCH := Lib.hid hch2
    obtain ⟨nb, -⟩ := hp2.ne.2.1 b rfl
    obtain ⟨n, HN⟩ : ∃ n, Hid (m2.L.length = n) := ⟨_, Lib.hid rfl⟩
    obtain ⟨lv, HLVV⟩ : ∃ lv, Hid (liveN m2.L = lv) := ⟨_, Lib.hid rfl⟩
    obtain ⟨ls, HLS⟩ : ∃ ls, Hid (m2.least = ls) := ⟨_, Lib.hid rfl⟩
    have c1 := hp2.c1
    have c2 := hp2.c2
    have c3 := hp2.c3
    have g1 := hp2.fz 1
    have g2 := hp2.fz 2
    have g3 := hp2.fz 3
    have hd2 := hp2.hd
    have hrow := hp2.row
    have y1 := cell_of_row _ _ 1 _ _ _ hx2
    simp at y1
    have hls2 : ls ≤ 16384 := by have := HLS.out; have := HLV.out; omega
    rw [HN.out] at hi2 hcc c1 hrow
    rw [HLVV.out] at c2 hlv hlv2
    rw [HLS.out] at c3
    rw [HLVV.out, HLS.out, HN.out] at hd2
    have hil : (i : Int) < (n : Int) := by omega
    have hn16 : n ≤ 16384 := by have := HN.out; have := HLN.out; omega
    have hi16 : i ≤ 16384 := by omega
    have HD2 := Lib.hid hd2
    have HROW := Lib.hid hrow
    have hwb : w.heap.size ≠ b := by
      rintro rfl
      have := HLT.out w.heap.size (.inr (.inl rfl))
      omega
    have hwg : w.heap.size ≠ g := by
      rintro rfl
      have := HLT.out w.heap.size (.inl rfl)
      omega
    have HFIN : Hid (∀ W' : World, W'.heap[g]? = some (.cells #[.int .i64 (m2.lim : Int), .slice (some ⟨b, 0, none⟩) n c, .int .i64 ((lv : Int) - 1), .int .i64 ((min ls i : Nat) : Int), .map (some mb), m2.by_, .int .i64 (m2.fet : Int)] 94 (0, 0)) →
        W'.ownsRow 0 98 1 (.slice (some ⟨b, 0, none⟩) n c) n (ptrs (putS S i none) n) →
        (∀ k, k ≠ g → k ≠ b → W'.heap[k]? = w2.heap[k]?) → W'.os = w2.os → W'.tape = w2.tape → W'.output = w2.output → W'.heap.size = w2.heap.size →
        WentD (footH g (.slice (some ⟨b, 0, none⟩) n c) mb S) g (m2.drop i) w W') := Lib.hid (by
      intro W' q1 q2 q3 q4 q5 q6 q7
      have hdp : Hp W' g (.slice (some ⟨b, 0, none⟩) m2.L.length c) mb (putS S i none) (m2.drop i) := HPW.out.dropAt (d := { d with num := 0 }) HDD.out rfl (by rw [HLVV.out, HLS.out, HN.out]; exact q1) (by rw [HN.out]; exact q2) (fun k _ e1 e2 => q3 k e1 (fun e3 => e2 (by rw [e3]; rfl)))
      have hc0 := (Chp.of_below HB1.out).trans HCH.out
      rw [HN.out] at hdp hc0
      refine ⟨_, hdp.hep, hc0.trans ⟨q4, q5, q6, Nat.le_of_eq q7.symm, fun k _ hf => q3 k (fun e => hf (.inl e)) (fun e => hf (.inr (.inl (by rw [e]; rfl)))), fun k hk => .inl (foot_drop k hk)⟩, fun k hk => foot_drop k hk⟩)
    clear hp2 hch2 hd2 hrow HC HRN hb hs hls hi HP
    go_region
    go_upto_region 6 with fail
    rcases Nat.lt_or_ge i ls with hmin | hmin
    · have e1 : decide (ls < i) = false := by simp; omega
      have e2 : decide (i < ls) = true := decide_eq_true hmin
      have e1i : decide ((ls : Int) < (i : Int)) = false := by simp; omega
      have e2i : decide ((i : Int) < (ls : Int)) = true := by simp; omega
      have e3 : min (ls : Int) (i : Int) = (i : Int) := by omega
      have HM : Hid (min ls i = i) := Lib.hid (by omega)
      have HX := Lib.hid (HFIN.out (((w2.setCell ⟨b, i, none⟩ (.pointer none)).setCell ⟨g, 2, none⟩ (.int .i64 ((lv : Int) - 1))).setCell ⟨g, 3, none⟩ (.int .i64 (i : Int))).drew.drew
        (by rw [HM.out]; exact heap_setCell_same _ _ 3 _ _ _ (heap_setCell_same _ _ 2 _ _ _ ((heap_setCell_other _ _ _ _ (Ne.symm nb)).trans HD2.out)))
        (by rw [← ptrs_set]; exact own_other (HROW.out.stored i _).1 fun k e => by
              cases e
              exact (heap_setCell_other _ _ _ _ nb).trans (heap_setCell_other _ _ _ _ nb))
        (fun k h1 h2 => (heap_setCell_other _ _ _ _ h1).trans ((heap_setCell_other _ _ _ _ h1).trans (heap_setCell_other _ _ _ _ h2))) rfl rfl rfl (by simp))
      go_region
      go_wp2_with fail
      go_ret
      rw [HN.out]
      exact ⟨rfl, HX.out⟩
    · have e2 : decide (i < ls) = false := decide_eq_false (by omega)
      have e2i : decide ((i : Int) < (ls : Int)) = false := by simp; omega
      have e3 : min (ls : Int) (i : Int) = (ls : Int) := by omega
      have HM : Hid (min ls i = ls) := Lib.hid (by omega)
      have HX := Lib.hid (HFIN.out (((w2.setCell ⟨b, i, none⟩ (.pointer none)).setCell ⟨g, 2, none⟩ (.int .i64 ((lv : Int) - 1))).setCell ⟨g, 3, none⟩ (.int .i64 (ls : Int))).drew.drew
        (by rw [HM.out]; exact heap_setCell_same _ _ 3 _ _ _ (heap_setCell_same _ _ 2 _ _ _ ((heap_setCell_other _ _ _ _ (Ne.symm nb)).trans HD2.out)))
        (by rw [← ptrs_set]; exact own_other (HROW.out.stored i _).1 fun k e => by
              cases e
              exact (heap_setCell_other _ _ _ _ nb).trans (heap_setCell_other _ _ _ _ nb))
        (fun k h1 h2 => (heap_setCell_other _ _ _ _ h1).trans ((heap_setCell_other _ _ _ _ h1).trans (heap_setCell_other _ _ _ _ h2))) rfl rfl rfl (by simp))
      go_region
      go_wp2_with fail
      go_ret
      rw [HN.out]
      exact ⟨rfl, HX.out⟩
theorem Hp.dropV (h : Hp w g vr mb S m) (K N : Int) (h0 : -9223372036854775808 ≤ N) (h1 : N ≤ 9223372036854775807) :
    Calls Try.prog 24 #[.pointer (some ⟨g, 0, none⟩), .agg #[.int .i64 K, .int .i64 N]] w fun e w' => e = .returned (.bool (hasP m.L (K, N))) ∧ WentH (footH g vr mb S) g (dropM m (K, N)) w w' :=
  (h.dropW K N h0 h1).mono fun _ _ ⟨he, F', h1, h2, _⟩ => ⟨he, F', h1, h2⟩
end
end Go.Proofs.Ytekmboolfjicbaa
