/- The document's May. -/
import Derived.Test.YtekmboolfjicbaaRSame
set_option maxRecDepth 20000
set_option linter.unusedSimpArgs false
namespace Go.Proofs.Ytekmboolfjicbaa
open Go.RowKit

def lowB (o : Ob) : Bool := o.bs.all fun x => decide (x ≤ 127)
/-- May an object be, as the document's row has it? -/
def rMay (L : Pls) (o : Ob) : Bool :=
  if o.k < 0 ∨ 13 < o.k ∨ 256 < o.vs.length ∨ 4096 < o.bs.length then false
  else if o.vs.all (mayV L) = false then false
  else if o.k = 2 ∨ o.k = 3 then (if o.k = 2 ∧ lowB o = false then false else decide (o.vs.length = 0))
  else if o.k = 0 ∨ o.k = 5 ∨ o.k = 8 then decide (o.vs.length = 2) && decide (o.bs.length = 0)
  else decide (o.bs.length = 0) && (decide (o.k ≠ 4) || decide (o.vs.length = 1))
section
variable {w w' : World} {F F' : Nat → Prop} {vl : Value} {W : Nat → Value × Value} {L : Pls}
set_option maxHeartbeats 6400000 in
theorem RHp.may (h : RHp w F vl W L) (hl : L.length ≤ 16384) (lim : Int) (o : Ob) (q p : Option Addr) (n c d e : Nat) (ho : ObW w q n p d o) (hn : n ≤ 9223372036854775807) (hd : d ≤ 9223372036854775807) :
    Calls Try.prog 37 #[.agg #[vl, .int .i64 lim], .agg #[.int .i64 o.k, .slice q n c, .slice p d e]] w fun ex w' => ex = .returned (.bool (rMay L o)) ∧ Below w.heap.size w w' := by
  have HV : Hid (∀ w1 K N, Below w.heap.size w w1 → Calls Try.prog 44 #[.agg #[vl, .int .i64 lim], .agg #[.int .i64 K, .int .i64 N]] w1 fun ex w' => ex = .returned (.bool (mayV L (K, N))) ∧ Below w1.heap.size w1 w') := Lib.hid fun w1 K N hb => (h.below hb).value hl lim K N
  have HO := Lib.hid ho
  have l1 := ho.vs.len
  have l2 := ho.bs.len
  obtain ⟨q0, c0, rfl⟩ := h.form
  generalize L.length = NL at *
  have HB0 : Hid (Below w.heap.size w ((w.alloc (.cells #[.slice q0 NL c0, .int .i64 lim] 29)).alloc (.cells #[.int .i64 o.k, .slice q n c, .slice p d e] 61))) := Lib.hid (b2 _ _ _)
  have hx1 : ((w.alloc (.cells #[.slice q0 NL c0, .int .i64 lim] 29)).alloc (.cells #[.int .i64 o.k, .slice q n c, .slice p d e] 61)).heap[w.heap.size]? = some (.cells #[.slice q0 NL c0, .int .i64 lim] 29 (0, 0)) := heap_alloc2_old w _ _
  have hx2 : ((w.alloc (.cells #[.slice q0 NL c0, .int .i64 lim] 29)).alloc (.cells #[.int .i64 o.k, .slice q n c, .slice p d e] 61)).heap[w.heap.size + 1]? = some (.cells #[.int .i64 o.k, .slice q n c, .slice p d e] 61 (0, 0)) := heap_alloc2_new w _ _
  have hsz : ((w.alloc (.cells #[.slice q0 NL c0, .int .i64 lim] 29)).alloc (.cells #[.int .i64 o.k, .slice q n c, .slice p d e] 61)).heap.size = w.heap.size + 2 := by simp
  have HX1 := Lib.hid hx1
  have HX2 := Lib.hid hx2
  have HSZ := Lib.hid hsz
  have HR0 : Hid (o.k < 0 ∨ 13 < o.k ∨ 256 < n ∨ 4096 < d → rMay L o = false) := Lib.hid fun hh => by unfold rMay; rw [l1, l2, if_pos hh]
  have HR1 : Hid (¬ (o.k < 0 ∨ 13 < o.k ∨ 256 < n ∨ 4096 < d) → o.vs.all (mayV L) = false → rMay L o = false) := Lib.hid fun hh h2 => by unfold rMay; rw [l1, l2, if_neg hh, if_pos h2]
  have HR2 : Hid (¬ (o.k < 0 ∨ 13 < o.k ∨ 256 < n ∨ 4096 < d) → o.vs.all (mayV L) = true → rMay L o = if o.k = 2 ∨ o.k = 3 then (if o.k = 2 ∧ lowB o = false then false else decide (n = 0)) else if o.k = 0 ∨ o.k = 5 ∨ o.k = 8 then decide (n = 2) && decide (d = 0) else decide (d = 0) && (decide (o.k ≠ 4) || decide (n = 1))) := Lib.hid fun hh h2 => by
    unfold rMay; rw [l1, l2, if_neg hh, if_neg (by rw [h2]; decide)]
  have HSTOP : Hid (∀ i, i < n → mayV L (o.vs.getD i (0, 0)) = false → o.vs.all (mayV L) = false) := Lib.hid fun i hi hm => by
    rw [List.all_eq_false]
    refine ⟨o.vs.getD i (0, 0), ?_, by rw [hm]; decide⟩
    rw [List.getD_eq_getElem?_getD, List.getElem?_eq_getElem (by omega)]
    exact List.getElem_mem _
  have HALL : Hid ((∀ i, i < n → mayV L (o.vs.getD i (0, 0)) = true) → o.vs.all (mayV L) = true) := Lib.hid (fun hm => by
    rw [List.all_eq_true]
    intro x hx
    obtain ⟨i, hi, rfl⟩ := List.getElem_of_mem hx
    have := hm i (by omega)
    rw [List.getD_eq_getElem?_getD, List.getElem?_eq_getElem hi] at this
    exact this)
  have HBSTOP : Hid (∀ i, i < d → 127 < o.bs.getD i 0 → lowB o = false) := Lib.hid fun i hi hm => by
    unfold lowB
    rw [List.all_eq_false]
    refine ⟨o.bs.getD i 0, ?_, fun hh => by have := of_decide_eq_true hh; omega⟩
    rw [List.getD_eq_getElem?_getD, List.getElem?_eq_getElem (by omega)]
    exact List.getElem_mem _
  have HBALL : Hid ((∀ i, i < d → o.bs.getD i 0 ≤ 127) → lowB o = true) := Lib.hid (fun hm => by
    unfold lowB
    rw [List.all_eq_true]
    intro x hx
    obtain ⟨i, hi, rfl⟩ := List.getElem_of_mem hx
    have := hm i (by omega)
    rw [List.getD_eq_getElem?_getD, List.getElem?_eq_getElem hi] at this
    simpa using this)
  have HDG : Hid (∀ i, o.bs.getD i 0 < 256) := Lib.hid fun i => ho.bs.getD i
  clear h ho hx1 hx2 hsz
  obtain ⟨k, HK⟩ : ∃ k, Hid (o.k = k) := ⟨_, Lib.hid rfl⟩
  rw [HK.out] at HB0 HX1 HX2 HSZ HR0 HR1 HR2 ⊢
  generalize rMay L o = ra at *
  generalize lowB o = lb at *
  generalize o.vs.all (mayV L) = va at *
  go_enter Try.func37, Try.ntmps37
  go_upto_region 1 with fail
  generalize (w.alloc (.cells #[.slice q0 NL c0, .int .i64 lim] 29)).alloc (.cells #[.int .i64 k, .slice q n c, .slice p d e] 61) = W1 at *
  have hsz := HSZ.out
  have x0 := cell_of_row _ _ 0 _ _ _ HX1.out
  have x1 := cell_of_row _ _ 1 _ _ _ HX1.out
  have z0 := cell_of_row _ _ 0 _ _ _ HX2.out
  have z1 := cell_of_row _ _ 1 _ _ _ HX2.out
  have z2 := cell_of_row _ _ 2 _ _ _ HX2.out
  simp at x0 x1 z0 z1 z2
  have HC : Hid (∀ u, Below W1.heap.size W1 u → (u.cell? ⟨w.heap.size, 0, none⟩ = some (.slice q0 NL c0) ∧ u.cell? ⟨w.heap.size, 1, none⟩ = some (.int .i64 lim)) ∧ u.cell? ⟨w.heap.size + 1, 0, none⟩ = some (.int .i64 k) ∧ u.cell? ⟨w.heap.size + 1, 1, none⟩ = some (.slice q n c) ∧ u.cell? ⟨w.heap.size + 1, 2, none⟩ = some (.slice p d e)) := Lib.hid fun u hu =>
    ⟨⟨(hu.cell (show w.heap.size < _ by omega)).trans x0, (hu.cell (show w.heap.size < _ by omega)).trans x1⟩, (hu.cell (show w.heap.size + 1 < _ by omega)).trans z0, (hu.cell (show w.heap.size + 1 < _ by omega)).trans z1, (hu.cell (show w.heap.size + 1 < _ by omega)).trans z2⟩
  go_quiet (fail)
  have HB1 := Lib.hid (below_drewN HB0.out nq)
  have HBW := Lib.hid (below_drewN (Below.refl W1.heap.size W1) nq)
  by_cases hA : k < 0
  · have e0 : decide (k < 0) = true := decide_eq_true hA
    have hE := HR0.out (.inl hA)
    subst hE
    clear hA
    go_wp2_with fail
    go_ret
    exact ⟨rfl, HB1.out⟩
  have e0 : decide (k < 0) = false := decide_eq_false hA
  by_cases hA1 : 13 < k
  · have e1 : decide (13 < k) = true := decide_eq_true hA1
    have hE := HR0.out (.inr (.inl hA1))
    subst hE
    clear hA hA1
    go_wp2_with fail
    go_ret
    exact ⟨rfl, HB1.out⟩
  have e1 : decide (13 < k) = false := decide_eq_false hA1
  by_cases hA2 : 256 < n
  · have e2 : decide (256 < n) = true := decide_eq_true hA2
    have e2i : decide ((256 : Int) < (n : Int)) = true := by simp; omega
    have hE := HR0.out (.inr (.inr (.inl hA2)))
    subst hE
    clear hA hA1 hA2
    go_wp2_with fail
    go_ret
    exact ⟨rfl, HB1.out⟩
  have e2 : decide (256 < n) = false := decide_eq_false hA2
  have e2i : decide ((256 : Int) < (n : Int)) = false := by simp; omega
  by_cases hA3 : 4096 < d
  · have e3 : decide (4096 < d) = true := decide_eq_true hA3
    have e3i : decide ((4096 : Int) < (d : Int)) = true := by simp; omega
    have hE := HR0.out (.inr (.inr (.inr hA3)))
    subst hE
    clear hA hA1 hA2 hA3
    go_wp2_with fail
    go_ret
    exact ⟨rfl, HB1.out⟩
  have e3 : decide (4096 < d) = false := decide_eq_false hA3
  have e3i : decide ((4096 : Int) < (d : Int)) = false := by simp; omega
  have HNO : Hid (¬ (k < 0 ∨ 13 < k ∨ 256 < n ∨ 4096 < d)) := Lib.hid (by omega)
  have hn256 : (n : Int) ≤ 256 := by omega
  have hd4096 : (d : Int) ≤ 4096 := by omega
  clear hA hA1 hA2 hA3 x0 x1 z0 z1 z2
  have HBQ : Hid (∀ u, Below W1.heap.size W1 u → Below w.heap.size w u) := Lib.hid fun u hu => HB0.out.trans (hu.mono (by omega))
  generalize W1.drewN nq = W2 at *
  obtain ⟨⟨x0, x1⟩, z0, z1, z2⟩ := HC.out _ HBW.out
  go_wp2_with fail
  clear e0 e1 e2 e2i e3 e3i x0 x1 z0 z1 z2
  go_loopw [7] (fun iv wr => ∃ i : Nat, i ≤ n ∧ iv = .int .i64 (i : Int) ∧ Hid (∀ j, j < i → mayV L (o.vs.getD j (0, 0)) = true) ∧ Hid (Below W1.heap.size W1 wr)) (fun iv _ => n - (intOf iv).toNat)
  case atStart => exact ⟨0, by omega, by go_num, Lib.hid fun j hj => absurd hj (Nat.not_lt_zero j), HBW⟩
  case round =>
    obtain ⟨i, hi, rfl, HJ, HL⟩ := hrel
    obtain ⟨⟨x0, x1⟩, z0, z1, z2⟩ := HC.out _ HL.out
    have HLW := Lib.hid (HBQ.out _ HL.out)
    by_cases hlt : i < n
    · obtain ⟨b, o', rfl, hcell⟩ := HO.out.vs.2 (by omega)
      obtain ⟨a1, a2⟩ := hcell i hlt
      have y1 := (HLW.out.cell (World.block_lt_of_cell? w _ a1)).trans a1
      have y2 := (HLW.out.cell (World.block_lt_of_cell? w _ a2)).trans a2
      have HVC := Lib.hid (fun u hu => HV.out u (o.vs.getD i (0, 0)).1 (o.vs.getD i (0, 0)).2 (HLW.out.trans (Below.mono hu HLW.out.size)))
      have HST : Hid (mayV L (o.vs.getD i (0, 0)) = false → ra = false) := Lib.hid fun hh => HR1.out HNO.out (HSTOP.out i hlt hh)
      have HNX : Hid (mayV L (o.vs.getD i (0, 0)) = true → ∀ j, j < i + 1 → mayV L (o.vs.getD j (0, 0)) = true) := Lib.hid fun hh j hj => (Nat.lt_succ_iff_lt_or_eq.1 hj).elim (HJ.out j) (fun e => by rw [e]; exact hh)
      clear hcell a1 a2
      rw [show ((o.vs.getD i (0, 0)).1, (o.vs.getD i (0, 0)).2) = o.vs.getD i (0, 0) from rfl] at HVC
      generalize o.vs.getD i (0, 0) = y at *
      obtain ⟨K, N⟩ := y
      simp only at HVC y1 y2
      have hll : (i : Int) < (n : Int) := by omega
      cases hm : mayV L (K, N) with
      | true =>
        rw [hm] at HVC
        have HN2 := Lib.hid (HNX.out hm)
        clear HNX HST hm
        go_upto_region 7 with fail
        go_still_tail 6, (by kernel_rfl)
        change wpList _ _ _ _ _ (World.drew _)
        have HLD := Lib.hid (Below.drew (Below.refl wr.heap.size wr))
        generalize wr.drew = w2 at *
        go_wp2_with (go_at_call 44; with_reducible refine (HVC.out _ HLD.out).mono ?_; rintro ex w3 ⟨rfl, hb⟩; have HL3 := Lib.hid (HLD.out.trans (hb.mono HLD.out.size)); clear hb)
        go_roundw
        case rel => exact ⟨i + 1, by omega, by go_num, HN2, Lib.hid (HL.out.trans (HL3.out.mono HL.out.size))⟩
        case measure => simp [intOf]; omega
      | false =>
        rw [hm] at HVC
        have hE := HST.out hm
        subst hE
        clear HNX HST hm
        go_upto_region 7 with fail
        go_still_tail 6, (by kernel_rfl)
        change wpList _ _ _ _ _ (World.drew _)
        have HLD := Lib.hid (Below.drew (Below.refl wr.heap.size wr))
        generalize wr.drew = w2 at *
        go_wp2_with (go_at_call 44; with_reducible refine (HVC.out _ HLD.out).mono ?_; rintro ex w3 ⟨rfl, hb⟩; have HL3 := Lib.hid (HLD.out.trans (hb.mono HLD.out.size)); clear hb)
        go_ret
        exact ⟨rfl, HLW.out.trans (HL3.out.mono HLW.out.size)⟩
    · obtain rfl : i = n := by omega
      have hva := HALL.out HJ.out
      have hE := HR2.out HNO.out hva
      clear HR0 HR1 HR2 HALL HSTOP HJ hi hlt HV hva
      by_cases hk23 : k = 2 ∨ k = 3
      · rw [if_pos hk23] at hE
        have HE := Lib.hid hE
        have d23 : (k == 2) = true ∨ ((k == 2) = false ∧ (k == 3) = true) := by
          rcases hk23 with rfl | rfl
          · exact .inl (by decide)
          · exact .inr ⟨by decide, by decide⟩
        have HK2 : Hid (k = 2 ∨ k = 3) := Lib.hid hk23
        clear hE hk23
        have LOOP : True := trivial
        rcases HK2.out with hkk | hkk
        · subst hkk
          go_wp2_with fail
          clear d23
          go_loopw [8] (fun iv wr2 => ∃ j : Nat, j ≤ d ∧ iv = .int .i64 (j : Int) ∧ Hid (∀ a, a < j → o.bs.getD a 0 ≤ 127) ∧ wr2 = wr) (fun iv _ => d - (intOf iv).toNat)
          case atStart => exact ⟨0, by omega, by go_num, Lib.hid fun a ha => absurd ha (Nat.not_lt_zero a), rfl⟩
          case round =>
            obtain ⟨j, hj, rfl, HJB, rfl⟩ := hrel
            by_cases hlt : j < d
            · obtain ⟨b, o', rfl, hcell⟩ := HO.out.bs.inn (by omega)
              have a1 := hcell j hlt
              have y1 := (HLW.out.cell (World.block_lt_of_cell? w _ a1)).trans a1
              have hjd : (j : Int) < (d : Int) := by omega
              have hbb := HDG.out j
              have HBS := Lib.hid (HBSTOP.out j hlt)
              have HNX : Hid (o.bs.getD j 0 ≤ 127 → ∀ a, a < j + 1 → o.bs.getD a 0 ≤ 127) := Lib.hid fun hh a ha => (Nat.lt_succ_iff_lt_or_eq.1 ha).elim (HJB.out a) (fun e => by rw [e]; exact hh)
              clear hcell a1
              generalize o.bs.getD j 0 = y at *
              by_cases hy : 127 < y
              · have g1 : decide ((127 : Int) < (y : Int)) = true := by simp; omega
                have g2 : decide (127 < y) = true := decide_eq_true hy
                have hra : ra = false := by rw [HE.out, HBS.out hy]; simp
                subst hra
                clear hy
                go_wp2_with fail
                go_ret
                exact ⟨rfl, HLW.out⟩
              · have g1 : decide ((127 : Int) < (y : Int)) = false := by simp; omega
                have g2 : decide (127 < y) = false := decide_eq_false hy
                have HN3 := Lib.hid (HNX.out (by omega))
                clear hy HNX
                go_wp2_with fail
                go_roundw
                case rel => exact ⟨j + 1, by omega, by go_num, HN3, trivial⟩
                case measure => simp [intOf]; omega
            · obtain rfl : j = d := by omega
              have hlb := HBALL.out HJB.out
              by_cases h0 : i = 0
              · have hra : ra = true := by rw [HE.out, if_neg (by rw [hlb]; simp), h0]; rfl
                subst hra
                subst h0
                go_wp2_with fail
                go_ret
                exact ⟨rfl, HLW.out⟩
              · have hra : ra = false := by rw [HE.out, if_neg (by rw [hlb]; simp)]; exact decide_eq_false h0
                have m0 : ((i : Int) == 0) = false := by simp; omega
                have m1 : (i == 0) = false := by simp; omega
                subst hra
                go_wp2_with fail
                go_ret
                exact ⟨rfl, HLW.out⟩
        · subst hkk
          go_wp2_with fail
          clear d23
          go_loopw [8] (fun iv wr2 => ∃ j : Nat, j ≤ d ∧ iv = .int .i64 (j : Int) ∧ wr2 = wr) (fun iv _ => d - (intOf iv).toNat)
          case atStart => exact ⟨0, by omega, by go_num, rfl⟩
          case round =>
            obtain ⟨j, hj, rfl, rfl⟩ := hrel
            by_cases hlt : j < d
            · have hjd : (j : Int) < (d : Int) := by omega
              go_wp2_with fail
              go_roundw
              case rel => exact ⟨j + 1, by omega, by go_num, trivial⟩
              case measure => simp [intOf]; omega
            · obtain rfl : j = d := by omega
              by_cases h0 : i = 0
              · have hra : ra = true := by rw [HE.out, if_neg (by rintro ⟨h, _⟩; omega), h0]; rfl
                subst hra
                subst h0
                go_wp2_with fail
                go_ret
                exact ⟨rfl, HLW.out⟩
              · have hra : ra = false := by rw [HE.out, if_neg (by rintro ⟨h, _⟩; omega)]; exact decide_eq_false h0
                have m0 : ((i : Int) == 0) = false := by simp; omega
                have m1 : (i == 0) = false := by simp; omega
                subst hra
                go_wp2_with fail
                go_ret
                exact ⟨rfl, HLW.out⟩
      · rw [if_neg hk23] at hE
        have d2 : (k == 2) = false := by simp; omega
        have d3 : (k == 3) = false := by simp; omega
        by_cases hk58 : k = 0 ∨ k = 5 ∨ k = 8
        · rw [if_pos hk58] at hE
          by_cases h2 : i = 2
          · subst h2
            by_cases h0 : d = 0
            · subst h0
              have hra : ra = true := by rw [hE]; rfl
              clear hE
              subst hra
              rcases hk58 with rfl | rfl | rfl
              all_goals
                go_wp2_with fail
                go_ret
                exact ⟨rfl, HLW.out⟩
            · have n0 : ((d : Int) == 0) = false := by simp; omega
              have n1 : (d == 0) = false := by simp; omega
              have hra : ra = false := by rw [hE, decide_eq_false h0, Bool.and_false]
              clear hE
              subst hra
              rcases hk58 with rfl | rfl | rfl
              all_goals
                go_wp2_with fail
                go_ret
                exact ⟨rfl, HLW.out⟩
          · have m0 : ((i : Int) == 2) = false := by simp; omega
            have m1 : (i == 2) = false := by simp; omega
            have hra : ra = false := by rw [hE, decide_eq_false h2, Bool.false_and]
            clear hE
            subst hra
            rcases hk58 with rfl | rfl | rfl
            all_goals
              go_wp2_with fail
              go_ret
              exact ⟨rfl, HLW.out⟩
        · rw [if_neg hk58] at hE
          have k0 : (k == 0) = false := by simp; omega
          have k5 : (k == 5) = false := by simp; omega
          have k8 : (k == 8) = false := by simp; omega
          by_cases h0 : d = 0
          · subst h0
            by_cases h4 : k = 4
            · by_cases h1 : i = 1
              · have hra : ra = true := by rw [hE, h4, h1]; rfl
                clear hE
                subst hra h1 h4
                go_wp2_with fail
                go_ret
                exact ⟨rfl, HLW.out⟩
              · have m0 : ((i : Int) == 1) = false := by simp; omega
                have m1 : (i == 1) = false := by simp; omega
                have hra : ra = false := by rw [hE, decide_eq_false h1, h4]; rfl
                clear hE
                subst hra h4
                go_wp2_with fail
                go_ret
                exact ⟨rfl, HLW.out⟩
            · have k4 : (k != 4) = true := by simp [h4]
              have hra : ra = true := by rw [hE, decide_eq_true h4]; rfl
              clear hE
              subst hra
              go_wp2_with fail
              go_ret
              exact ⟨rfl, HLW.out⟩
          · have n0 : ((d : Int) == 0) = false := by simp; omega
            have n1 : (d == 0) = false := by simp; omega
            have hra : ra = false := by rw [hE, decide_eq_false h0, Bool.false_and]
            clear hE
            subst hra
            go_wp2_with fail
            go_ret
            exact ⟨rfl, HLW.out⟩
end
end Go.Proofs.Ytekmboolfjicbaa
