/- The document's Add, Put and Drop. -/
import Derived.Test.YtldkmkgkllgckaaDoorRef
set_option linter.unusedSimpArgs false
namespace Go.Proofs.YtldkmkgkllgckaaDoor
open Go.RowKit

section
variable {w : World} {v : Value} {l : List Sl}
theorem results_3 {P : Program} {fn : Func} {a b c : Tmp} (h : fn.results = #[.tmp a, .tmp b, .tmp c]) (tmps : Array Value) (w : World) :
    (results fn tmps).run P w = .ok (.tuple #[tmps.getD a undef, tmps.getD b undef, tmps.getD c undef]) w := results_tmp3 h tmps P w
theorem totW {l : List Sl} (h : Okp l) {r : ByteArray} (hr : r.size ≤ 480) : tot (withL l (bareI l) (some r)) ≤ 1000 := by
  have h1 := withL_need (l := l) r
  have h2 := h.need
  unfold need at h1 h2
  split at h1 <;> omega
theorem lenW {l : List Sl} (h : Okp l) {r : ByteArray} : (withL l (bareI l) (some r)).length ≤ 65 := by
  have h1 := withL_len (bareI_le l) (some r)
  have h2 := h.len
  split at h1 <;> omega
set_option maxHeartbeats 1600000 in
theorem radd_any (h : Rf w v l) (ho : Okp l) (r : ByteArray) (hr : r.size ≤ 9223372036854775807) : Calls Tryd.prog 34 #[v, .string r] w fun e w' => (∃ v', e = .returned (.tuple #[v', .int .i64 (addN l r : Int), .int .i64 (addE l r : Int)]) ∧ Rf w' v' (addL l r)) ∧ Below w.heap.size w w' := by
  have HP := Lib.hid h
  by_cases h4 : 480 < r.size
  · have hd : decide ((480 : Int) < (r.size : Int)) = true := by simp; omega
    rw [show addE l r = 2 by unfold addE; rw [if_pos h4], show addL l r = l by unfold addL; rw [if_pos h4], show addN l r = 0 by unfold addN; rw [if_pos h4]]
    clear h h4
    go_enter Tryd.func34, Tryd.ntmps34
    go_wp2_with fail
    go_ret3
    exact ⟨⟨_, rfl, HP.out⟩, Below.refl _ _⟩
  · have hd : decide ((480 : Int) < (r.size : Int)) = false := by simp; omega
    have HBa := Lib.hid (bare_any h (by have := ho.len; omega))
    have HWi : Hid (∀ i : Nat, i = bareI l → Calls Tryd.prog 42 #[v, .int .i64 (i : Int), .agg #[.bool true, .string r]] w fun e w' => (∃ v', e = .returned v' ∧ Rf w' v' (withL l (bareI l) (some r))) ∧ Below w.heap.size w w') := Lib.hid (fun i hi => by subst hi; exact with_any h (bareI l) (bareI_le l) (some r) (by have := ho.len; omega))
    have hlw := lenW (r := r) ho
    have htw := totW (r := r) ho (by omega)
    have hAE : addE l r = if addFull l r = true then 8 else 0 := by unfold addE; rw [if_neg h4]
    have hAL : addL l r = if addFull l r = true then l else withL l (bareI l) (some r) := by unfold addL; rw [if_neg h4]
    have hAN : addN l r = if addFull l r = true then 0 else bareI l := by unfold addN; rw [if_neg h4]
    have hf : addFull l r = (decide (64 < (withL l (bareI l) (some r)).length) || decide (512 < need (withL l (bareI l) (some r)))) := rfl
    rw [hAE, hAL, hAN, hf]
    obtain ⟨m, HM⟩ : ∃ m, Hid (withL l (bareI l) (some r) = m) := ⟨_, Lib.hid rfl⟩
    rw [HM.out] at HWi hlw htw ⊢
    obtain ⟨i, HI⟩ : ∃ i, Hid (bareI l = i) := ⟨_, Lib.hid rfl⟩
    rw [HI.out] at HBa ⊢
    have HWi2 := Lib.hid (HWi.out i HI.out.symm)
    obtain ⟨N, HN⟩ : ∃ N, Hid (m.length = N) := ⟨_, Lib.hid rfl⟩
    have HND : Hid (∀ w1 v1, Rf w1 v1 m → Calls Tryd.prog 43 #[v1] w1 fun e w' => e = .returned (.int .i64 (need m : Int)) ∧ w1 = w') := Lib.hid (fun w1 v1 hm => need_any hm hlw (by omega))
    rw [HN.out] at hlw ⊢
    have hnd : need m ≤ 2000 := by unfold need; have := HN.out; omega
    obtain ⟨z, HZ⟩ : ∃ z, Hid (need m = z) := ⟨_, Lib.hid rfl⟩
    rw [HZ.out] at HND hnd ⊢
    clear h h4 hAE hAL hAN hf HWi htw
    by_cases hl : 64 < N
    · have hd1 : decide ((64 : Int) < (N : Int)) = true := by simp; omega
      rw [decide_eq_true hl, Bool.true_or, if_pos rfl, if_pos rfl, if_pos rfl]
      go_enter Tryd.func34, Tryd.ntmps34
      go_wp2_with (go_at_call 41; refine HBa.out.mono ?_; rintro e w1 ⟨rfl, rfl⟩)
      refine HWi2.out.mono ?_
      rintro e w2 ⟨⟨v', rfl, hm⟩, hb⟩
      obtain ⟨q, c, rfl⟩ := hm.form
      rw [HN.out]
      have HB := Lib.hid hb
      clear hb hm
      go_wp2_with fail
      go_ret3
      exact ⟨⟨_, rfl, HP.out.below HB.out⟩, HB.out⟩
    · have hd1 : decide ((64 : Int) < (N : Int)) = false := by simp; omega
      rw [decide_eq_false hl, Bool.false_or]
      by_cases hz : 512 < z
      · have hd2 : decide ((512 : Int) < (z : Int)) = true := by simp; omega
        rw [decide_eq_true hz, if_pos rfl, if_pos rfl, if_pos rfl]
        go_enter Tryd.func34, Tryd.ntmps34
        go_wp2_with (go_at_call 41; refine HBa.out.mono ?_; rintro e w1 ⟨rfl, rfl⟩)
        refine HWi2.out.mono ?_
        rintro e w2 ⟨⟨v', rfl, hm⟩, hb⟩
        have HND2 := Lib.hid (HND.out _ _ hm)
        obtain ⟨q, c, rfl⟩ := hm.form
        rw [HN.out] at HND2 ⊢
        have HB := Lib.hid hb
        clear hb hm
        go_wp2_with (go_at_call 43; refine HND2.out.mono ?_; rintro e w1 ⟨rfl, rfl⟩)
        go_ret3
        exact ⟨⟨_, rfl, HP.out.below HB.out⟩, HB.out⟩
      · have hd2 : decide ((512 : Int) < (z : Int)) = false := by simp; omega
        rw [decide_eq_false hz, if_neg Bool.false_ne_true, if_neg Bool.false_ne_true, if_neg Bool.false_ne_true]
        go_enter Tryd.func34, Tryd.ntmps34
        go_wp2_with (go_at_call 41; refine HBa.out.mono ?_; rintro e w1 ⟨rfl, rfl⟩)
        refine HWi2.out.mono ?_
        rintro e w2 ⟨⟨v', rfl, hm⟩, hb⟩
        have HND2 := Lib.hid (HND.out _ _ hm)
        have HMM := Lib.hid hm
        obtain ⟨q, c, rfl⟩ := hm.form
        rw [HN.out] at HND2 HMM ⊢
        have HB := Lib.hid hb
        clear hb hm
        go_wp2_with (go_at_call 43; refine HND2.out.mono ?_; rintro e w1 ⟨rfl, rfl⟩)
        go_ret3
        exact ⟨⟨_, rfl, HMM.out⟩, HB.out⟩
set_option maxHeartbeats 1600000 in
theorem rput_any (h : Rf w v l) (ho : Okp l) (i : Int) (r : ByteArray) (hr : r.size ≤ 9223372036854775807) : Calls Tryd.prog 35 #[v, .int .i64 i, .string r] w fun e w' => (∃ v', e = .returned (.tuple #[v', .int .i64 (putE l i r : Int)]) ∧ Rf w' v' (putL l i r)) ∧ Below w.heap.size w w' := by
  have HP := Lib.hid h
  by_cases hi0 : i < 0
  · have hf : fullI l i = false := by unfold fullI; simp; omega
    rw [show putE l i r = 5 by unfold putE; rw [if_pos hf], show putL l i r = l by unfold putL; rw [if_pos hf]]
    have hd : decide (i < 0) = true := decide_eq_true hi0
    clear h hf
    go_enter Tryd.func35, Tryd.ntmps35
    go_wp2_with fail
    go_ret2
    exact ⟨⟨_, rfl, HP.out⟩, Below.refl _ _⟩
  · obtain ⟨k, rfl⟩ : ∃ k : Nat, i = (k : Int) := ⟨i.toNat, by omega⟩
    have hd : decide ((k : Int) < 0) = false := by simp
    by_cases hk : l.length ≤ k
    · have hf : fullI l (k : Int) = false := by rw [fullI_nat, slot_ge hk]; rfl
      rw [show putE l (k : Int) r = 5 by unfold putE; rw [if_pos hf], show putL l (k : Int) r = l by unfold putL; rw [if_pos hf]]
      obtain ⟨q, c, rfl⟩ := h.form
      have hd1 : decide ((l.length : Int) ≤ (k : Int)) = true := by simp; omega
      clear h hf
      go_enter Tryd.func35, Tryd.ntmps35
      go_wp2_with fail
      go_ret2
      exact ⟨⟨_, rfl, HP.out⟩, Below.refl _ _⟩
    · have hkl : k < l.length := by omega
      obtain ⟨b, c, rfl, hc, x1, x2⟩ := h.at hkl
      obtain ⟨N, HN⟩ : ∃ N, Hid (l.length = N) := ⟨_, Lib.hid rfl⟩
      have hlen := ho.len
      have HWi := Lib.hid (with_any h k (by omega) (some r) (by omega))
      have hW : withL l k (some r) = l.set k (some r) := by unfold withL; rw [if_neg (by omega)]
      rw [hW] at HWi
      have HTS := Lib.hid (tot_set hkl (some r))
      have hneed := ho.need
      have hd1 : decide ((l.length : Int) ≤ (k : Int)) = false := by simp; omega
      have hkN : (k : Int) < (l.length : Int) := by omega
      by_cases hs : (slot l k).isSome = true
      · have hf : ¬ fullI l (k : Int) = false := by rw [fullI_nat, hs]; simp
        rw [hs] at x1
        by_cases h4 : 480 < r.size
        · have hd2 : decide ((480 : Int) < (r.size : Int)) = true := by simp; omega
          rw [show putE l (k : Int) r = 2 by unfold putE; rw [if_neg hf, if_pos h4], show putL l (k : Int) r = l by unfold putL; rw [if_neg hf, if_pos h4]]
          rw [HN.out] at hd1 hc hkN HP ⊢
          clear h hf h4 hs hk hkl hneed hW ho
          go_enter Tryd.func35, Tryd.ntmps35
          go_wp2_with fail
          go_ret2
          exact ⟨⟨_, rfl, HP.out⟩, Below.refl _ _⟩
        · have hd2 : decide ((480 : Int) < (r.size : Int)) = false := by simp; omega
          have hputE : putE l (k : Int) r = if decide (512 < need (l.set k (some r))) = true then 8 else 0 := by unfold putE putFull; rw [if_neg hf, if_neg h4, Int.toNat_natCast]
          have hputL : putL l (k : Int) r = if decide (512 < need (l.set k (some r))) = true then l else l.set k (some r) := by unfold putL putFull; rw [if_neg hf, if_neg h4, Int.toNat_natCast]
          rw [hputE, hputL]
          have hnd : need (l.set k (some r)) ≤ 2000 := by
            have := HTS.out
            rw [sz_some] at this
            unfold need at hneed ⊢
            rw [List.length_set]; omega
          have HND : Hid (∀ w1 v1, Rf w1 v1 (l.set k (some r)) → Calls Tryd.prog 43 #[v1] w1 fun e w' => e = .returned (.int .i64 (need (l.set k (some r)) : Int)) ∧ w1 = w') := Lib.hid (fun w1 v1 hm => need_any hm (by rw [List.length_set]; omega) (by unfold need at hnd; omega))
          obtain ⟨m, HM⟩ : ∃ m, Hid (l.set k (some r) = m) := ⟨_, Lib.hid rfl⟩
          have HML : Hid (m.length = N) := Lib.hid (by rw [← HM.out, List.length_set]; exact HN.out)
          rw [HM.out] at HWi hnd HND ⊢
          rw [HN.out] at hd1 hc hkN HP HWi ⊢
          obtain ⟨z, HZ⟩ : ∃ z, Hid (need m = z) := ⟨_, Lib.hid rfl⟩
          rw [HZ.out] at HND hnd ⊢
          clear h hf h4 hs hk hkl hneed hW ho HTS hputE hputL
          generalize recOf (slot l k) = r0 at *
          simp only [Option.isSome_some, recOf, Option.getD_some] at HWi
          by_cases hz : 512 < z
          · have hd3 : decide ((512 : Int) < (z : Int)) = true := by simp; omega
            rw [decide_eq_true hz, if_pos rfl, if_pos rfl]
            go_enter Tryd.func35, Tryd.ntmps35
            go_wp2_with (go_at_call 42; refine HWi.out.mono ?_; rintro e w2 ⟨⟨v', rfl, hm⟩, hb⟩; have HND2 := Lib.hid (HND.out _ _ hm); have HB := Lib.hid hb; clear hb hm)
            refine HND2.out.mono ?_
            rintro e w1 ⟨rfl, rfl⟩
            go_wp2_with fail
            go_ret2
            exact ⟨⟨_, rfl, HP.out.below HB.out⟩, HB.out⟩
          · have hd3 : decide ((512 : Int) < (z : Int)) = false := by simp; omega
            rw [decide_eq_false hz, if_neg Bool.false_ne_true, if_neg Bool.false_ne_true]
            go_enter Tryd.func35, Tryd.ntmps35
            go_wp2_with (go_at_call 42; refine HWi.out.mono ?_; rintro e w2 ⟨⟨v', rfl, hm⟩, hb⟩; have HND2 := Lib.hid (HND.out _ _ hm); have HMM := Lib.hid hm; have HB := Lib.hid hb; clear hb hm)
            refine HND2.out.mono ?_
            rintro e w1 ⟨rfl, rfl⟩
            go_wp2_with fail
            go_ret2
            exact ⟨⟨_, rfl, HMM.out⟩, HB.out⟩
      · have hs2 : (slot l k).isSome = false := by simpa using hs
        have hf : fullI l (k : Int) = false := by rw [fullI_nat, hs2]
        rw [hs2] at x1
        rw [show putE l (k : Int) r = 5 by unfold putE; rw [if_pos hf], show putL l (k : Int) r = l by unfold putL; rw [if_pos hf]]
        rw [HN.out] at hd1 hc hkN HP ⊢
        clear h hf hs hs2 hk hkl hneed hW ho
        go_enter Tryd.func35, Tryd.ntmps35
        go_wp2_with fail
        go_ret2
        exact ⟨⟨_, rfl, HP.out⟩, Below.refl _ _⟩
end
end Go.Proofs.YtldkmkgkllgckaaDoor
