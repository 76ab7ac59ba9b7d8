/- What the document's Newest returns. -/
import Derived.Test.YtnjlhallkgacjaaRDecB
import Derived.Test.YtnjlhallkgacjaaNewest
import Derived.Deep.RegionWith
namespace Go.Proofs.Ytnjlhallkgacjaa
open Go.RowKit

theorem pl_bounds (s : List Nat) (k : Int) : 0 ≤ (plR s k).ep ∧ (plR s k).ep ≤ 4611686018427387904 := by
  by_cases h : plE s k = 0
  · have hm := (pl_ok h).2.2.2
    exact ⟨by have := hm.e0; omega, hm.e1⟩
  · rw [pl_no h]; exact ⟨Int.le_refl 0, by decide⟩
def badPl (s : List Nat) (k : Int) : Bool := decide (decE s = 0) && decide (place (decR s).ep ≠ k)
theorem bad_yes {s : List Nat} {k : Int} (h : badPl s k = true) : plE s k = 13 ∧ plR s k = Rt.none_ := by
  unfold badPl at h
  simp only [Bool.and_eq_true, decide_eq_true_eq] at h
  exact ⟨by unfold plE; rw [if_pos h], by unfold plR; rw [if_pos h]⟩
theorem bad_no {s : List Nat} {k : Int} (h : badPl s k = false) : plE s k = decE s ∧ plR s k = decR s := by
  unfold badPl at h
  have h2 : ¬ (decE s = 0 ∧ place (decR s).ep ≠ k) := fun hc => by simp [hc.1, hc.2] at h
  exact ⟨by unfold plE; rw [if_neg h2], by unfold plR; rw [if_neg h2]⟩
section
variable (A B : ByteArray) (w : World)
set_option maxRecDepth 20000 in
set_option maxHeartbeats 4000000 in
theorem rnewest_any (a b : List Nat) (hA : IsS A a) (hB : IsS B b) (la : a.length = 128) (lb : b.length = 128) :
    Calls Try.prog 20 #[.string A, .string B] w fun e' w' => e' = .returned (.tuple #[(nwA a b).val, (nwB a b).val, .int .i64 (nwE a b)]) ∧ Below w.heap.size w w' := by
  have HA := Lib.hid (fun w => rdecode_any A a w hA)
  have HB := Lib.hid (fun w => rdecode_any B b w hB)
  obtain ⟨XA, hXA⟩ : ∃ X, nwA a b = X := ⟨_, rfl⟩
  obtain ⟨XB, hXB⟩ : ∃ X, nwB a b = X := ⟨_, rfl⟩
  obtain ⟨XE, hXE⟩ : ∃ X, nwE a b = X := ⟨_, rfl⟩
  rw [hXA, hXB, hXE]
  have HXA := Lib.hid hXA
  have HXB := Lib.hid hXB
  have HXE := Lib.hid hXE
  have HLA : Hid (plE a 0 ≠ 1 ∧ plE b 4 ≠ 1) := Lib.hid ⟨fun h => (plE_one a 0).1 h la, fun h => (plE_one b 4).1 h lb⟩
  have HBA : Hid (badPl a 0 = (decide (decE a = 0) && decide (place (decR a).ep ≠ 0))) := Lib.hid rfl
  have HBB : Hid (badPl b 4 = (decide (decE b = 0) && decide (place (decR b).ep ≠ 4))) := Lib.hid rfl
  have HYA : Hid (badPl a 0 = true → plE a 0 = 13 ∧ plR a 0 = Rt.none_) := Lib.hid bad_yes
  have HYB : Hid (badPl b 4 = true → plE b 4 = 13 ∧ plR b 4 = Rt.none_) := Lib.hid bad_yes
  have HNA : Hid (badPl a 0 = false → plE a 0 = decE a ∧ plR a 0 = decR a) := Lib.hid bad_no
  have HNB : Hid (badPl b 4 = false → plE b 4 = decE b ∧ plR b 4 = decR b) := Lib.hid bad_no
  clear hXA hXB hXE la lb hA hB
  generalize decE a = e at *
  generalize decE b = f at *
  generalize decR a = x at *
  generalize decR b = y at *
  have HPX := Lib.hid (fun w => rplace_any x.ep w)
  have HPY := Lib.hid (fun w => rplace_any y.ep w)
  generalize place x.ep = px at *
  generalize place y.ep = py at *
  unfold Rt.val at *
  go_enter Try.func20, Try.ntmps20
  go_wp2_with fail
  refine (HA.out _).mono ?_
  rintro e' w3 ⟨rfl, hb⟩
  go_wp2_with fail
  refine (HB.out _).mono ?_
  rintro e' w5 ⟨rfl, hb2⟩
  have HN : Hid (NB w (w5.alloc (.cells #[.int .i64 y.ep, .int .i64 y.pg, .int .i64 y.dr, .int .i64 y.wd] 23)) 23 w3.heap.size w5.heap.size x y) := Lib.hid (NB.make hb hb2)
  go_upto_region 3 with fail
  clear hb hb2 HA HB
  generalize w5.alloc (.cells #[.int .i64 y.ep, .int .i64 y.pg, .int .i64 y.dr, .int .i64 y.wd] 23) = w6 at *
  generalize w3.heap.size = q7 at *
  generalize w5.heap.size = q9 at *
  go_cut [28] (fun v wx => v = .bool (badPl a 0) ∧ Hid (NB w wx 23 q7 q9 x y))
  case first =>
    by_cases h0 : e = 0
    · have k0 : (e == 0) = true := by rw [beq_iff_eq]; exact h0
      have HE : Hid (badPl a 0 = (px != 0)) := Lib.hid (by
        rw [HBA.out, decide_eq_true h0, Bool.true_and]
        by_cases hq : px = 0 <;> simp [hq])
      have c0 := HN.out.b7.c0
      clear h0
      go_wp2_with (go_at_call 16; refine (HPX.out _).mono ?_; rintro e w7 ⟨rfl, rfl⟩)
      go_meet
      exact ⟨by rw [HE.out], HN⟩
    · have k0 : (e == 0) = false := by rw [beq_eq_false_iff_ne]; exact h0
      have HE : Hid (badPl a 0 = false) := Lib.hid (by rw [HBA.out, decide_eq_false h0, Bool.false_and])
      clear h0
      go_wp2_with fail
      go_meet
      exact ⟨by rw [HE.out], HN⟩
  case rest =>
  obtain ⟨hv, hc⟩ := hcut
  subst hv
  clear HN HBA HPX
  have HN := Lib.hid hc.out
  clear hc
  go_upto_if 28 with fail
  go_cut [8] (fun v wx => v = .int .i64 (plE a 0) ∧ Hid (NB w wx 23 q7 q9 (plR a 0) y))
  case first =>
    cases hbd : badPl a 0 with
    | true =>
      have c0 := HN.out.b7.c0
      have c1 := HN.out.b7.c1
      have c2 := HN.out.b7.c2
      have c3 := HN.out.b7.c3
      have cf := HN.out.b7.fz
      have HD := Lib.hid (HN.out.drop7 Rt.none_)
      have HQ := Lib.hid (HYA.out hbd)
      rw [← HQ.out.2] at HD
      clear HN hbd
      go_wp2_with fail
      go_meet
      refine ⟨by rw [HQ.out.1], ?_⟩
      rw [HQ.out.2] at HD ⊢
      exact HD
    | false =>
      have HQ := Lib.hid (HNA.out hbd)
      clear hbd
      go_wp2_with fail
      go_meet
      refine ⟨by rw [HQ.out.1], ?_⟩
      rw [HQ.out.2]
      exact HN
  case rest =>
  obtain ⟨hv, hc⟩ := hcut
  subst hv
  clear HN HYA HNA
  have HN := Lib.hid hc.out
  clear hc
  go_upto_region 6 with fail
  go_cut [37] (fun v wx => v = .bool (badPl b 4) ∧ Hid (NB w wx 23 q7 q9 (plR a 0) y))
  case first =>
    by_cases h0 : f = 0
    · have k0 : (f == 0) = true := by rw [beq_iff_eq]; exact h0
      have HE : Hid (badPl b 4 = (py != 4)) := Lib.hid (by
        rw [HBB.out, decide_eq_true h0, Bool.true_and]
        by_cases hq : py = 4 <;> simp [hq])
      have c0 := HN.out.b9.c0
      clear h0
      go_wp2_with (go_at_call 16; refine (HPY.out _).mono ?_; rintro e w7 ⟨rfl, rfl⟩)
      go_meet
      exact ⟨by rw [HE.out], HN⟩
    · have k0 : (f == 0) = false := by rw [beq_eq_false_iff_ne]; exact h0
      have HE : Hid (badPl b 4 = false) := Lib.hid (by rw [HBB.out, decide_eq_false h0, Bool.false_and])
      clear h0
      go_wp2_with fail
      go_meet
      exact ⟨by rw [HE.out], HN⟩
  case rest =>
  obtain ⟨hv, hc⟩ := hcut
  subst hv
  clear HN HBB HPY
  have HN := Lib.hid hc.out
  clear hc
  go_upto_if 37 with fail
  go_cut [10] (fun v wx => v = .int .i64 (plE b 4) ∧ Hid (NB w wx 23 q7 q9 (plR a 0) (plR b 4)))
  case first =>
    cases hbd : badPl b 4 with
    | true =>
      have c0 := HN.out.b9.c0
      have c1 := HN.out.b9.c1
      have c2 := HN.out.b9.c2
      have c3 := HN.out.b9.c3
      have cf := HN.out.b9.fz
      have HD := Lib.hid (HN.out.drop9 Rt.none_)
      have HQ := Lib.hid (HYB.out hbd)
      rw [← HQ.out.2] at HD
      clear HN hbd
      go_wp2_with fail
      go_meet
      refine ⟨by rw [HQ.out.1], ?_⟩
      rw [HQ.out.2] at HD ⊢
      exact HD
    | false =>
      have HQ := Lib.hid (HNB.out hbd)
      clear hbd
      go_wp2_with fail
      go_meet
      refine ⟨by rw [HQ.out.1], ?_⟩
      rw [HQ.out.2]
      exact HN
  case rest =>
  obtain ⟨hv, hc⟩ := hcut
  subst hv
  clear HN HYB HNB
  have HN := Lib.hid hc.out
  clear hc
  go_upto_region 9 with fail
  obtain ⟨bx0, bx1⟩ := pl_bounds a 0
  obtain ⟨by0, by1⟩ := pl_bounds b 4
  obtain ⟨n1, n2⟩ := HLA.out
  have hsome := fun h => nw_some (a := a) (b := b) n1 n2 h
  have hnone := fun h3 h4 => nw_none (a := a) (b := b) n1 n2 h3 h4
  have HFI : Hid (first_ a b ↔ (plE a 0 = 0 ∧ (plE b 4 ≠ 0 ∨ (plR b 4).ep < (plR a 0).ep))) := Lib.hid Iff.rfl
  rw [HXA.out, HXB.out, HXE.out] at hsome hnone
  clear HLA n1 n2 HXA HXB HXE
  have HSO := Lib.hid hsome
  have HNO := Lib.hid hnone
  clear hsome hnone
  obtain ⟨fi, hfi⟩ : ∃ fi, first_ a b = fi := ⟨_, rfl⟩
  by_cases hf : first_ a b
  · have h0 := HFI.out.1 hf
    have h1 := HSO.out (Or.inl h0.1)
    rw [if_pos hf, if_pos hf] at h1
    obtain ⟨hE, hA, hB⟩ := h1
    clear HSO HNO HFI hf hfi
    generalize plE a 0 = e1 at *
    generalize plE b 4 = f1 at *
    generalize plR a 0 = x1 at *
    generalize plR b 4 = y1 at *
    subst hE hA
    obtain ⟨he, hor⟩ := h0
    subst he
    go_cut [51] (fun v wx => v = .bool true ∧ Hid (NB w wx 23 q7 q9 XA y1))
    case first =>
      have c7 := HN.out.b7.c0
      have c9 := HN.out.b9.c0
      by_cases hf1 : f1 = 0
      · have hl := hor.resolve_left (fun h => h hf1)
        subst hf1
        clear hor hB
        go_wp2_with fail
        go_meet
        exact ⟨rfl, HN⟩
      · have k1 : (f1 != 0) = true := by simp [hf1]
        clear hf1 hor hB
        go_wp2_with fail
        go_meet
        exact ⟨rfl, HN⟩
    case rest =>
    obtain ⟨hv, hc⟩ := hcut
    subst hv
    clear HN hor
    have HN := Lib.hid hc.out
    clear hc
    by_cases hk : y1.ep = XA.ep - 1
    · have hxb : XB = y1 := by rw [hB]; unfold pre; rw [if_pos hk]
      have hk2 : (y1.ep == XA.ep - 1) = true := by rw [beq_iff_eq]; exact hk
      subst hxb
      have k40 := HN.out.b4.c0
      have k41 := HN.out.b4.c1
      have k42 := HN.out.b4.c2
      have k43 := HN.out.b4.c3
      have k50 := HN.out.b5.c0
      have k51 := HN.out.b5.c1
      have k52 := HN.out.b5.c2
      have k53 := HN.out.b5.c3
      have k70 := HN.out.b7.c0
      have k71 := HN.out.b7.c1
      have k72 := HN.out.b7.c2
      have k73 := HN.out.b7.c3
      have k90 := HN.out.b9.c0
      have k91 := HN.out.b9.c1
      have k92 := HN.out.b9.c2
      have k93 := HN.out.b9.c3
      have f4 := HN.out.b4.fz
      have f5 := HN.out.b5.fz
      have f7 := HN.out.b7.fz
      have f9 := HN.out.b9.fz
      have l7 := HN.out.l7
      have l8 := HN.out.l9
      have n47 : q7 ≠ w.heap.size := by omega
      have n57 : q7 ≠ w.heap.size + 1 := by omega
      have n49 : q9 ≠ w.heap.size := by omega
      have n59 : q9 ≠ w.heap.size + 1 := by omega
      have HF : Hid (Below w.heap.size w (set4 (set4 wc w.heap.size XA) (w.heap.size + 1) XB)) := Lib.hid (below_set4 (below_set4 HN.out.below (Nat.le_refl _) _) (Nat.le_succ _) _)
      unfold set4 at HF
      clear hB hk HN
      go_upto_region 11 with fail
      clear hk2
      go_region_with (fail)
      all_goals
        go_wp2_with fail
        exact bodyPost_ret (v := .tuple #[.agg #[.int .i64 XA.ep, .int .i64 XA.pg, .int .i64 XA.dr, .int .i64 XA.wd], .agg #[.int .i64 XB.ep, .int .i64 XB.pg, .int .i64 XB.dr, .int .i64 XB.wd], .int .i64 0]) (by simp [results, Try.results20, go_sem, k40, k41, k42, k43, k50, k51, k52, k53]) rfl ⟨rfl, HF.out.drew⟩
    · have hxb : XB = Rt.none_ := by rw [hB]; unfold pre; rw [if_neg hk]
      have hk2 : (y1.ep == XA.ep - 1) = false := by rw [beq_eq_false_iff_ne]; exact hk
      subst hxb
      have k40 := HN.out.b4.c0
      have k41 := HN.out.b4.c1
      have k42 := HN.out.b4.c2
      have k43 := HN.out.b4.c3
      have k50 := HN.out.b5.c0
      have k51 := HN.out.b5.c1
      have k52 := HN.out.b5.c2
      have k53 := HN.out.b5.c3
      have k70 := HN.out.b7.c0
      have k71 := HN.out.b7.c1
      have k72 := HN.out.b7.c2
      have k73 := HN.out.b7.c3
      have k90 := HN.out.b9.c0
      have k91 := HN.out.b9.c1
      have k92 := HN.out.b9.c2
      have k93 := HN.out.b9.c3
      have f4 := HN.out.b4.fz
      have f5 := HN.out.b5.fz
      have f7 := HN.out.b7.fz
      have f9 := HN.out.b9.fz
      have l7 := HN.out.l7
      have l8 := HN.out.l9
      have n47 : q7 ≠ w.heap.size := by omega
      have n57 : q7 ≠ w.heap.size + 1 := by omega
      have n49 : q9 ≠ w.heap.size := by omega
      have n59 : q9 ≠ w.heap.size + 1 := by omega
      have HF : Hid (Below w.heap.size w (set4 (set4 wc w.heap.size XA) (w.heap.size + 1) Rt.none_)) := Lib.hid (below_set4 (below_set4 HN.out.below (Nat.le_refl _) _) (Nat.le_succ _) _)
      unfold set4 Rt.none_ at HF
      clear hB hk HN
      all_goals
        go_wp2_with fail
        exact bodyPost_ret (v := .tuple #[.agg #[.int .i64 XA.ep, .int .i64 XA.pg, .int .i64 XA.dr, .int .i64 XA.wd], .agg #[.int .i64 0, .int .i64 0, .int .i64 0, .int .i64 0], .int .i64 0]) (by simp [results, Try.results20, go_sem, k40, k41, k42, k43, k50, k51, k52, k53]) rfl ⟨rfl, HF.out⟩
  · by_cases hf1 : plE b 4 = 0
    · have h1 := HSO.out (Or.inr hf1)
      rw [if_neg hf, if_neg hf] at h1
      obtain ⟨hE, hA, hB⟩ := h1
      have HNF : Hid (¬ (plE a 0 = 0 ∧ (plR b 4).ep < (plR a 0).ep)) := Lib.hid (fun h => hf (HFI.out.2 ⟨h.1, .inr h.2⟩))
      clear HSO HNO HFI hf hfi
      generalize plE a 0 = e1 at *
      generalize plE b 4 = f1 at *
      generalize plR a 0 = x1 at *
      generalize plR b 4 = y1 at *
      subst hE hA hf1
      go_cut [51] (fun v wx => v = .bool false ∧ Hid (NB w wx 23 q7 q9 x1 XA))
      case first =>
        have c7 := HN.out.b7.c0
        have c9 := HN.out.b9.c0
        by_cases he : e1 = 0
        · have hl : ¬ XA.ep < x1.ep := fun h => HNF.out ⟨he, h⟩
          have hd : decide (XA.ep < x1.ep) = false := decide_eq_false hl
          subst he
          clear hl HNF hB
          go_wp2_with fail
          go_meet
          exact ⟨rfl, HN⟩
        · have k1 : (e1 == 0) = false := by simp [he]
          clear he HNF hB
          go_wp2_with fail
          go_meet
          exact ⟨rfl, HN⟩
      case rest =>
      obtain ⟨hv, hc⟩ := hcut
      subst hv
      clear HN HNF
      have HN := Lib.hid hc.out
      clear hc
      by_cases hk : x1.ep = XA.ep - 1
      · have hxb : XB = x1 := by rw [hB]; unfold pre; rw [if_pos hk]
        have hk2 : (x1.ep == XA.ep - 1) = true := by rw [beq_iff_eq]; exact hk
        subst hxb
        have k40 := HN.out.b4.c0
        have k41 := HN.out.b4.c1
        have k42 := HN.out.b4.c2
        have k43 := HN.out.b4.c3
        have k50 := HN.out.b5.c0
        have k51 := HN.out.b5.c1
        have k52 := HN.out.b5.c2
        have k53 := HN.out.b5.c3
        have k70 := HN.out.b7.c0
        have k71 := HN.out.b7.c1
        have k72 := HN.out.b7.c2
        have k73 := HN.out.b7.c3
        have k90 := HN.out.b9.c0
        have k91 := HN.out.b9.c1
        have k92 := HN.out.b9.c2
        have k93 := HN.out.b9.c3
        have f4 := HN.out.b4.fz
        have f5 := HN.out.b5.fz
        have f7 := HN.out.b7.fz
        have f9 := HN.out.b9.fz
        have l7 := HN.out.l7
        have l8 := HN.out.l9
        have n47 : q7 ≠ w.heap.size := by omega
        have n57 : q7 ≠ w.heap.size + 1 := by omega
        have n49 : q9 ≠ w.heap.size := by omega
        have n59 : q9 ≠ w.heap.size + 1 := by omega
        have HF : Hid (Below w.heap.size w (set4 (set4 wc w.heap.size XA) (w.heap.size + 1) XB)) := Lib.hid (below_set4 (below_set4 HN.out.below (Nat.le_refl _) _) (Nat.le_succ _) _)
        unfold set4 at HF
        clear hB hk HN
        go_upto_region 15 with fail
        clear hk2
        go_region_with (fail)
        all_goals
          go_wp2_with fail
          exact bodyPost_ret (v := .tuple #[.agg #[.int .i64 XA.ep, .int .i64 XA.pg, .int .i64 XA.dr, .int .i64 XA.wd], .agg #[.int .i64 XB.ep, .int .i64 XB.pg, .int .i64 XB.dr, .int .i64 XB.wd], .int .i64 0]) (by simp [results, Try.results20, go_sem, k40, k41, k42, k43, k50, k51, k52, k53]) rfl ⟨rfl, HF.out.drew⟩
      · have hxb : XB = Rt.none_ := by rw [hB]; unfold pre; rw [if_neg hk]
        have hk2 : (x1.ep == XA.ep - 1) = false := by rw [beq_eq_false_iff_ne]; exact hk
        subst hxb
        have k40 := HN.out.b4.c0
        have k41 := HN.out.b4.c1
        have k42 := HN.out.b4.c2
        have k43 := HN.out.b4.c3
        have k50 := HN.out.b5.c0
        have k51 := HN.out.b5.c1
        have k52 := HN.out.b5.c2
        have k53 := HN.out.b5.c3
        have k70 := HN.out.b7.c0
        have k71 := HN.out.b7.c1
        have k72 := HN.out.b7.c2
        have k73 := HN.out.b7.c3
        have k90 := HN.out.b9.c0
        have k91 := HN.out.b9.c1
        have k92 := HN.out.b9.c2
        have k93 := HN.out.b9.c3
        have f4 := HN.out.b4.fz
        have f5 := HN.out.b5.fz
        have f7 := HN.out.b7.fz
        have f9 := HN.out.b9.fz
        have l7 := HN.out.l7
        have l8 := HN.out.l9
        have n47 : q7 ≠ w.heap.size := by omega
        have n57 : q7 ≠ w.heap.size + 1 := by omega
        have n49 : q9 ≠ w.heap.size := by omega
        have n59 : q9 ≠ w.heap.size + 1 := by omega
        have HF : Hid (Below w.heap.size w (set4 (set4 wc w.heap.size XA) (w.heap.size + 1) Rt.none_)) := Lib.hid (below_set4 (below_set4 HN.out.below (Nat.le_refl _) _) (Nat.le_succ _) _)
        unfold set4 Rt.none_ at HF
        clear hB hk HN
        all_goals
          go_wp2_with fail
          exact bodyPost_ret (v := .tuple #[.agg #[.int .i64 XA.ep, .int .i64 XA.pg, .int .i64 XA.dr, .int .i64 XA.wd], .agg #[.int .i64 0, .int .i64 0, .int .i64 0, .int .i64 0], .int .i64 0]) (by simp [results, Try.results20, go_sem, k40, k41, k42, k43, k50, k51, k52, k53]) rfl ⟨rfl, HF.out⟩
    · have he1 : plE a 0 ≠ 0 := fun h => hf (HFI.out.2 ⟨h, .inl hf1⟩)
      obtain ⟨hE, hA, hB⟩ := HNO.out he1 hf1
      clear HSO HNO HFI hf hfi
      generalize plE a 0 = e1 at *
      generalize plE b 4 = f1 at *
      generalize plR a 0 = x1 at *
      generalize plR b 4 = y1 at *
      subst hE hA hB
      have k1 : (e1 == 0) = false := by simp [he1]
      have k2 : (f1 == 0) = false := by simp [hf1]
      clear he1 hf1
      go_upto_region 17 with fail
      clear k1 k2
      go_cut [91] (fun v wx => v = .bool (decide (withE e1 f1 = 5)) ∧ Hid (NB w wx 23 q7 q9 x1 y1))
      case first =>
        have HW : Hid (withE e1 f1 = if (e1 = 5 ∧ f1 = 5) ∨ (e1 = 5 ∧ f1 = 4) ∨ (e1 = 4 ∧ f1 = 5) then 5 else 13) := Lib.hid rfl
        by_cases a5 : e1 = 5
        · by_cases b5 : f1 = 5
          · have HE : Hid (withE e1 f1 = 5) := Lib.hid (by rw [HW.out]; simp [a5, b5])
            clear HW 
            subst a5
            subst b5
            go_wp2_with fail
            go_meet
            exact ⟨by rw [HE.out]; rfl, HN⟩
          · by_cases b4 : f1 = 4
            · have HE : Hid (withE e1 f1 = 5) := Lib.hid (by rw [HW.out]; simp [a5, b4, b5])
              have knb5 : (f1 == 5) = false := by rw [beq_eq_false_iff_ne]; exact b5
              clear HW b5
              subst a5
              subst b4
              go_wp2_with fail
              go_meet
              exact ⟨by rw [HE.out]; rfl, HN⟩
            · have HE : Hid (withE e1 f1 = 13) := Lib.hid (by rw [HW.out]; simp [a5, b5, b4])
              have knb5 : (f1 == 5) = false := by rw [beq_eq_false_iff_ne]; exact b5
              have knb4 : (f1 == 4) = false := by rw [beq_eq_false_iff_ne]; exact b4
              clear HW b5 b4
              subst a5
              go_wp2_with fail
              go_meet
              exact ⟨by rw [HE.out]; rfl, HN⟩
        · by_cases a4 : e1 = 4
          · by_cases b5 : f1 = 5
            · have HE : Hid (withE e1 f1 = 5) := Lib.hid (by rw [HW.out]; simp [a4, b5, a5])
              have kna5 : (e1 == 5) = false := by rw [beq_eq_false_iff_ne]; exact a5
              clear HW a5
              subst a4
              subst b5
              go_wp2_with fail
              go_meet
              exact ⟨by rw [HE.out]; rfl, HN⟩
            · have HE : Hid (withE e1 f1 = 13) := Lib.hid (by rw [HW.out]; simp [a4, a5, b5])
              have kna5 : (e1 == 5) = false := by rw [beq_eq_false_iff_ne]; exact a5
              have knb5 : (f1 == 5) = false := by rw [beq_eq_false_iff_ne]; exact b5
              clear HW a5 b5
              subst a4
              go_wp2_with fail
              go_meet
              exact ⟨by rw [HE.out]; rfl, HN⟩
          · have HE : Hid (withE e1 f1 = 13) := Lib.hid (by rw [HW.out]; simp [a5, a4])
            have kna5 : (e1 == 5) = false := by rw [beq_eq_false_iff_ne]; exact a5
            have kna4 : (e1 == 4) = false := by rw [beq_eq_false_iff_ne]; exact a4
            clear HW a5 a4
            go_wp2_with fail
            go_meet
            exact ⟨by rw [HE.out]; rfl, HN⟩
      case rest =>
      obtain ⟨hv, hc⟩ := hcut
      subst hv
      clear HN
      have HN := Lib.hid hc.out
      clear hc
      have hw : withE e1 f1 = 5 ∨ withE e1 f1 = 13 := by unfold withE; split <;> simp
      rcases hw with hw | hw
      · rw [hw]
        have k40 := HN.out.b4.c0
        have k41 := HN.out.b4.c1
        have k42 := HN.out.b4.c2
        have k43 := HN.out.b4.c3
        have k50 := HN.out.b5.c0
        have k51 := HN.out.b5.c1
        have k52 := HN.out.b5.c2
        have k53 := HN.out.b5.c3
        have f4 := HN.out.b4.fz
        have f5 := HN.out.b5.fz
        have HF : Hid (Below w.heap.size w (set4 (set4 wc w.heap.size Rt.none_) (w.heap.size + 1) Rt.none_)) := Lib.hid (below_set4 (below_set4 HN.out.below (Nat.le_refl _) _) (Nat.le_succ _) _)
        unfold set4 Rt.none_ at HF
        have hdw : decide (((5 : Int)) = 5) = true := by decide
        clear HN
        all_goals
          go_wp2_with fail
          exact bodyPost_ret (v := .tuple #[.agg #[.int .i64 0, .int .i64 0, .int .i64 0, .int .i64 0], .agg #[.int .i64 0, .int .i64 0, .int .i64 0, .int .i64 0], .int .i64 5]) (by simp [results, Try.results20, go_sem, k40, k41, k42, k43, k50, k51, k52, k53]) rfl ⟨rfl, HF.out⟩
      · rw [hw]
        have k40 := HN.out.b4.c0
        have k41 := HN.out.b4.c1
        have k42 := HN.out.b4.c2
        have k43 := HN.out.b4.c3
        have k50 := HN.out.b5.c0
        have k51 := HN.out.b5.c1
        have k52 := HN.out.b5.c2
        have k53 := HN.out.b5.c3
        have f4 := HN.out.b4.fz
        have f5 := HN.out.b5.fz
        have HF : Hid (Below w.heap.size w (set4 (set4 wc w.heap.size Rt.none_) (w.heap.size + 1) Rt.none_)) := Lib.hid (below_set4 (below_set4 HN.out.below (Nat.le_refl _) _) (Nat.le_succ _) _)
        unfold set4 Rt.none_ at HF
        have hdw : decide (((13 : Int)) = 5) = false := by decide
        clear HN
        all_goals
          go_wp2_with fail
          exact bodyPost_ret (v := .tuple #[.agg #[.int .i64 0, .int .i64 0, .int .i64 0, .int .i64 0], .agg #[.int .i64 0, .int .i64 0, .int .i64 0, .int .i64 0], .int .i64 13]) (by simp [results, Try.results20, go_sem, k40, k41, k42, k43, k50, k51, k52, k53]) rfl ⟨rfl, HF.out⟩
end
end Go.Proofs.Ytnjlhallkgacjaa
