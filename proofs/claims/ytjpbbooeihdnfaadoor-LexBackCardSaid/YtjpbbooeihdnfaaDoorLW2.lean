/- The statement on places, walked. -/
import Derived.Test.YtjpbbooeihdnfaaDoorLW1
set_option maxRecDepth 20000
set_option linter.unusedSimpArgs false
set_option linter.unusedVariables false
namespace Go.Proofs.YtjpbbooeihdnfaaDoor
open Go.RowKit

theorem scanM_err : ∀ (f : Nat) (L : List UInt8) (a : Nat) (tight : Bool) (l : List (Tk × Nat)) (n : Nat) (x : Int), scanM L f a tight l = (none, n, x) → x ≠ 0 := by
  intro f
  induction f with
  | zero => intro L a tight l n x h; cases h
  | succ f ih =>
    intro L a tight l n x h
    by_cases hlt : a < L.length
    · rw [scanM_succ _ _ _ _ _ hlt] at h
      have hne : L.drop a ≠ [] := fun e => by
        have := congrArg List.length e
        rw [List.length_drop] at this
        simp at this; omega
      obtain ⟨sp1, sp2, sp3⟩ := step_pos hne
      generalize (!tight || parts (L.getD a 0)) = ap at h
      cases hst : stepM (L.drop a) with
      | err i y =>
        rw [hst] at h
        have hy := sp3 i y hst
        cases ap with
        | true => rw [s_err] at h; injection h with h1 h2; injection h2 with h2 h3; rw [← h3]; exact hy
        | false =>
          by_cases hi : 0 < i
          · rw [s_err1 _ _ _ _ _ _ hi] at h; injection h with h1 h2; injection h2 with h2 h3; rw [← h3]; decide
          · rw [s_err2 _ _ _ _ _ _ hi] at h; injection h with h1 h2; injection h2 with h2 h3; rw [← h3]; exact hy
      | pass m =>
        rw [hst] at h
        cases ap with
        | true => rw [s_pass] at h; exact ih _ _ _ _ _ _ h
        | false => rw [s_pass0] at h; injection h with h1 h2; injection h2 with h2 h3; rw [← h3]; decide
      | tok t m b =>
        rw [hst] at h
        cases ap with
        | true => rw [s_tok] at h; exact ih _ _ _ _ _ _ h
        | false => rw [s_tok0] at h; injection h with h1 h2; injection h2 with h2 h3; rw [← h3]; decide
    · rw [scan_end _ _ _ _ _ (by omega)] at h; cases h
theorem scanT_err {L : List UInt8} {n : Nat} {x : Int} (h : scanT L = (none, n, x)) : x ≠ 0 := by
  unfold scanT at h
  split at h
  · injection h with h1 h2; injection h2 with h2 h3; rw [← h3]; decide
  · exact scanM_err _ _ _ _ _ _ _ h
theorem neq_same (k n a : Int) (T : ByteArray) (W : World) : (binOp .neq 30 (.agg #[.int .i64 k, .int .i64 n, .string T, .int .i64 a]) (.agg #[.int .i64 k, .int .i64 n, .string T, .int .i64 a])).run Tryd.prog W = .ok (.bool false) W := by
  rw [run_neq_struct, run_equalIn_agg _ _ _ _ _ (by kernel_rfl) (by kernel_rfl)]
  simp [go_sem]
theorem scan_row {S : ByteArray} {w : World} {l : List (Tk × Nat)} {n : Nat} {x : Int} (hE : Env w) (hS : S.size ≤ 9223372036854775807) (hr : scanT (tl S) = (some l, n, x)) :
    Calls Tryd.prog 6 #[.string S] w fun e w' => ∃ qa cap, e = .returned (.tuple #[.slice qa l.length cap, .int .i64 (n : Int), .int .i64 0]) ∧ Hid (Below w.heap.size w w' ∧ (l ≠ [] → ∃ g, qa = some ⟨g, 0, none⟩ ∧ TkR w' (.slice qa l.length cap) l g cap)) := by
  have hsc := scan_any S w hE hS
  rw [hr] at hsc
  refine hsc.mono fun e w' h => ?_
  obtain ⟨hb, v, he, ho⟩ := h
  by_cases hl0 : l = []
  · subst hl0
    rcases ho.2 with ⟨hv, _⟩ | ⟨g, cap, cur, hv, _⟩
    · exact ⟨none, 0, by rw [he, hv]; rfl, hb, fun h => absurd rfl h⟩
    · exact ⟨_, cap, by rw [he, hv], hb, fun h => absurd rfl h⟩
  · obtain ⟨g, cap, ht⟩ := TkR.of ho hl0
    exact ⟨some ⟨g, 0, none⟩, cap, by rw [he, ht.eq], hb, fun _ => ⟨g, rfl, ht.eq ▸ ht⟩⟩
set_option maxHeartbeats 6400000 in
theorem places_walk (S : ByteArray) (k : Int) (w : World) (hE : Env w) (hS : S.size ≤ 9223372036854775807) (hk1 : -9223372036854775808 ≤ k) (hk2 : k ≤ 9223372036854775807) :
    Calls Tryd.prog 4 #[.string S, .int .i64 k] w fun e w' => e = .returned (.bool true) ∧ Below w.heap.size w w' := by
  have HEW := Lib.hid hE
  have HLV : Hid (∀ w1, Below w.heap.size w w1 → Calls Tryd.prog 5 #[] w1 fun e w' => e = .returned (.bool true) ∧ Below w.heap.size w w') := Lib.hid fun w1 hb => (lives_any w1 (HEW.out.below hb)).mono fun e w' ⟨h1, h2⟩ => ⟨h1, hb.trans (h2.mono hb.size)⟩
  by_cases h2 : 2000 < S.size
  · have hd : decide ((2000 : Int) < (S.size : Int)) = true := decide_eq_true (by omega)
    clear hE
    go_enter Tryd.func4, Tryd.ntmps4
    go_wp2_with (go_at_call 5; refine (HLV.out _ (Below.refl _ _)).mono ?_; rintro e w9 ⟨rfl, hb9⟩; have HB9 := Lib.hid hb9; clear hb9)
    go_ret
    exact ⟨rfl, HB9.out⟩
  · have hd : decide ((2000 : Int) < (S.size : Int)) = false := decide_eq_false (by omega)
    have hd2 : decide (2000 < S.size) = false := decide_eq_false h2
    have hsc := scan_any S w hE hS
    have hll := tl_len S
    obtain ⟨⟨r, n, x⟩, hr⟩ : ∃ r, scanT (tl S) = r := ⟨_, rfl⟩
    rw [hr] at hsc
    cases r with
    | none =>
      have hx := scanT_err hr
      have hx1 : (x != 0) = true := bne_iff_ne.2 hx
      have HSC : Hid (Calls Tryd.prog 6 #[.string S] w fun e w' => e = .returned (.tuple #[.slice none 0 0, .int .i64 (n : Int), .int .i64 x]) ∧ Below w.heap.size w w') := Lib.hid (hsc.mono fun e w' h => ⟨h.2, h.1⟩)
      clear hsc hx hr hll h2 hE
      go_enter Tryd.func4, Tryd.ntmps4
      go_wp2_with (first
        | (go_at_call 6; refine HSC.out.mono ?_; rintro e w2 ⟨rfl, hb2⟩; have HB2 := Lib.hid hb2; clear hb2)
        | (go_at_call 5; refine (HLV.out _ HB2.out).mono ?_; rintro e w9 ⟨rfl, hb9⟩; have HB9 := Lib.hid hb9; clear hb9))
      go_ret
      exact ⟨rfl, HB9.out⟩
    | some l =>
      obtain ⟨hris, hcut⟩ := scanT_ok hr
      have HRI : Hid (∀ i, i < l.length → (l.getD i zTA).2 < S.size ∧ ∀ j, j < i → (l.getD j zTA).2 < (l.getD i zTA).2) := Lib.hid fun i hi => by
        have h := hris.at i hi
        rw [hll] at h
        exact h.2
      have hlS : l.length ≤ S.size := by
        rcases Nat.eq_zero_or_pos l.length with h0 | h0
        · omega
        · have h1 := hris.at (l.length - 1) (by omega)
          rw [hll] at h1
          omega
      have HSC : Hid (Calls Tryd.prog 6 #[.string S] w fun e w' => ∃ qa cap, e = .returned (.tuple #[.slice qa l.length cap, .int .i64 (n : Int), .int .i64 0]) ∧ Hid (Below w.heap.size w w' ∧ (l ≠ [] → ∃ g, qa = some ⟨g, 0, none⟩ ∧ TkR w' (.slice qa l.length cap) l g cap))) := Lib.hid (scan_row hE hS hr)
      have HCT := Lib.hid hcut
      obtain ⟨N, hN⟩ : ∃ N, l.length = N := ⟨_, rfl⟩
      have HN := Lib.hid hN
      rw [hN] at hlS HSC
      have hNI : (N : Int) ≤ 2000 := by omega
      have HLL := Lib.hid hll
      have hSI : (S.size : Int) ≤ 2000 := by omega
      have HLS := Lib.hid hlS
      clear hsc hr hris hcut h2 hE hN hll hS hlS
      go_enter Tryd.func4, Tryd.ntmps4
      go_wp2_with (go_at_call 6; refine HSC.out.mono ?_; rintro e w2 ⟨qa, cap, rfl, HT2⟩)
      go_loopw [8] (fun iv wr => ∃ i : Nat, iv = .int .i64 (i : Int) ∧ i ≤ N ∧ Hid (Below w2.heap.size w2 wr)) (fun iv _ => N - (intOf iv).toNat)
      case atStart => exact ⟨0, rfl, Nat.zero_le _, Lib.hid (Below.refl _ _)⟩
      case round =>
        obtain ⟨i, rfl, hi, HBW⟩ := hrel
        by_cases hlt : i < N
        · obtain ⟨g, hqa, hTR0⟩ := HT2.out.2 (fun e => by have := HN.out; rw [e] at this; simp at this; omega)
          have hTR := hTR0.below HBW.out
          clear hTR0
          subst hqa
          have q3 := hTR.a i (by rw [HN.out]; exact hlt)
          obtain ⟨p3, p4⟩ := HRI.out i (by rw [HN.out]; exact hlt)
          obtain ⟨P, hP⟩ : ∃ P, (l.getD i zTA).2 = P := ⟨_, rfl⟩
          rw [hP] at q3 p3 p4
          have e1 : decide ((P : Int) < 0) = false := decide_eq_false (by omega)
          have e2 : decide ((S.size : Int) ≤ (P : Int)) = false := decide_eq_false (by omega)
          have e2n : decide (S.size ≤ P) = false := decide_eq_false (by omega)
          have hltI : (i : Int) < (N : Int) := by omega
          rcases Nat.eq_zero_or_pos i with h0 | h0
          · subst h0
            have q3' : wr.cell? ⟨g, 3, none⟩ = some (.int .i64 (P : Int)) := q3
            have hNp : (0 : Int) < (N : Int) := by omega
            clear q3 p4 hP hTR p3 hltI
            go_wp2_with fail
            go_quiet (fail)
            have HB1 : Hid (Below wr.heap.size wr (wr.drewN nq)) := Lib.hid (below_drewN (Below.refl _ _) nq)
            generalize wr.drewN nq = w1 at *
            go_wp2_with fail
            go_roundw
            case rel => exact ⟨1, rfl, by omega, Lib.hid (HBW.out.trans (HB1.out.mono HBW.out.size))⟩
            case measure => simp [intOf]; omega
          · obtain ⟨j, rfl⟩ : ∃ j, i = j + 1 := ⟨i - 1, by omega⟩
            have q4 := hTR.a j (by rw [HN.out]; omega)
            have p5 := p4 j (by omega)
            obtain ⟨Q, hQ⟩ : ∃ Q, (l.getD j zTA).2 = Q := ⟨_, rfl⟩
            rw [hQ] at q4 p5
            have e3 : decide ((0 : Int) < ((j + 1 : Nat) : Int)) = true := decide_eq_true (by omega)
            have e4 : decide ((P : Int) ≤ (Q : Int)) = false := decide_eq_false (by omega)
            have e4n : decide (P ≤ Q) = false := decide_eq_false (by omega)
            have q4' : wr.cell? ⟨g, j * 4 + 3, none⟩ = some (.int .i64 (Q : Int)) := q4
            have q3' : wr.cell? ⟨g, (j + 1) * 4 + 3, none⟩ = some (.int .i64 (P : Int)) := q3
            clear p4 hP hQ hTR q4 q3 p5 p3
            go_wp2_with fail
            go_quiet (fail)
            have HB1 : Hid (Below wr.heap.size wr (wr.drewN nq)) := Lib.hid (below_drewN (Below.refl _ _) nq)
            generalize wr.drewN nq = w1 at *
            go_wp2_with fail
            go_roundw
            case rel => exact ⟨j + 1 + 1, by go_num, by omega, Lib.hid (HBW.out.trans (HB1.out.mono HBW.out.size))⟩
            case measure => simp [intOf]; omega
        · have hiN : i = N := by omega
          subst hiN
          have HW1 : Hid (Below w.heap.size w wr) := Lib.hid (HT2.out.1.trans (HBW.out.mono HT2.out.1.size))
          clear hlt hi
          by_cases hk0 : k < 0
          · have g0 : decide (k < 0) = true := decide_eq_true hk0
            clear hk0
            go_wp2_with (go_at_call 5; refine (HLV.out _ HW1.out).mono ?_; rintro e w9 ⟨rfl, hb9⟩; have HB9 := Lib.hid hb9; clear hb9)
            go_ret
            exact ⟨rfl, HB9.out⟩
          · obtain ⟨K, rfl⟩ : ∃ K : Nat, k = (K : Int) := ⟨k.toNat, by omega⟩
            by_cases hkn : i ≤ K
            · have g1 : decide ((i : Int) ≤ (K : Int)) = true := decide_eq_true (by omega)
              have g1n : decide (i ≤ K) = true := decide_eq_true hkn
              clear hk0
              go_wp2_with (go_at_call 5; refine (HLV.out _ HW1.out).mono ?_; rintro e w9 ⟨rfl, hb9⟩; have HB9 := Lib.hid hb9; clear hb9)
              go_ret
              exact ⟨rfl, HB9.out⟩
            · have g1 : decide ((i : Int) ≤ (K : Int)) = false := decide_eq_false (by omega)
              have g1n : decide (i ≤ K) = false := decide_eq_false hkn
              have hKN : K < l.length := by rw [HN.out]; omega
              obtain ⟨g, hqa, hTR0⟩ := HT2.out.2 (fun e => by rw [e] at hKN; simp at hKN)
              have hTR := hTR0.below HBW.out
              clear hTR0
              subst hqa
              have hct := HCT.out K hKN
              obtain ⟨p3, _⟩ := HRI.out K hKN
              have q3 := hTR.a K hKN
              obtain ⟨P, hP⟩ : ∃ P, (l.getD K zTA).2 = P := ⟨_, rfl⟩
              rw [show (l.getD K ((⟨0, 0, []⟩ : Tk), 0)).2 = P from hP, ← tl_to] at hct
              rw [hP] at q3 p3
              have hsc2 := scan_row (HEW.out.below HW1.out) (by rw [show (S.extract 0 P).size = P from by rw [ByteArray.size_extract]; omega]; omega) hct
              rw [show (l.take K).length = K from by rw [List.length_take]; omega] at hsc2
              have HSC2 := Lib.hid hsc2
              have HGE : Hid (∀ i, i < K → (l.take K).getD i zTA = l.getD i zTA) := Lib.hid fun i hi => by
                rw [List.getD_eq_getElem?_getD, List.getD_eq_getElem?_getD, List.getElem?_take, if_pos hi]
              have HTR := Lib.hid hTR
              have q3' : wr.cell? ⟨g, K * 4 + 3, none⟩ = some (.int .i64 (P : Int)) := q3
              have g0 : decide ((K : Int) < 0) = false := decide_eq_false hk0
              have hKI : (K : Int) < (i : Int) := by omega
              have hPI : (P : Int) ≤ (S.size : Int) := by omega
              have hPS : P ≤ S.size := by omega
              have HKN := Lib.hid hKN
              clear hk0 hct hP hsc2 hTR q3 hkn p3 hKN
              go_wp2_with (first
                | (go_at_call 6; refine HSC2.out.mono ?_; rintro e w3 ⟨qb, cap2, rfl, HT3⟩))
              have HB3 : Hid (Below w.heap.size w w3) := Lib.hid (HW1.out.trans (HT3.out.1.mono HW1.out.size))
              go_loopw [12] (fun iv wr2 => ∃ j : Nat, iv = .int .i64 (j : Int) ∧ j ≤ K ∧ Hid (Below w3.heap.size w3 wr2)) (fun iv _ => K - (intOf iv).toNat)
              case atStart => exact ⟨0, rfl, Nat.zero_le _, Lib.hid (Below.refl _ _)⟩
              case round =>
                obtain ⟨j, rfl, hj, HBX⟩ := hrel
                by_cases hlt : j < K
                · obtain ⟨g2, hqb, hTR2⟩ := HT3.out.2 (fun e => by have := congrArg List.length e; rw [List.length_take, List.length_nil] at this; have := HKN.out; omega)
                  have hT2 := hTR2.below HBX.out
                  have hT1 := (HTR.out.below HT3.out.1).below HBX.out
                  clear hTR2
                  subst hqb
                  have hl2 : j < (l.take K).length := by rw [List.length_take]; have := HKN.out; omega
                  have hl1 : j < l.length := by have := HKN.out; omega
                  have c0 := hT1.k j hl1
                  have c1 := hT1.n j hl1
                  have c2 := hT1.s j hl1
                  have c3 := hT1.a j hl1
                  have d0 := hT2.k j hl2
                  have d1 := hT2.n j hl2
                  have d2 := hT2.s j hl2
                  have d3 := hT2.a j hl2
                  rw [HGE.out j hlt] at d0 d1 d2 d3
                  clear hT2 hT1 hl2 hl1
                  obtain ⟨T0, hT0⟩ : ∃ T, ((l.getD j zTA).1.k : Int) = T := ⟨_, rfl⟩
                  obtain ⟨T1, hT1⟩ : ∃ T, (l.getD j zTA).1.n = T := ⟨_, rfl⟩
                  obtain ⟨T2, hT2⟩ : ∃ T, (⟨(l.getD j zTA).1.s.toArray⟩ : ByteArray) = T := ⟨_, rfl⟩
                  obtain ⟨T3, hT3⟩ : ∃ T, ((l.getD j zTA).2 : Int) = T := ⟨_, rfl⟩
                  rw [hT0] at c0 d0
                  rw [hT1] at c1 d1
                  rw [hT2] at c2 d2
                  rw [hT3] at c3 d3
                  have hjK : (j : Int) < (K : Int) := by omega
                  have hjI : (j : Int) < (i : Int) := by omega
                  have hns := neq_same T0 T1 T3 T2
                  clear hT0 hT1 hT2 hT3
                  go_wp2_with fail
                  go_quiet (fail)
                  have HB5 : Hid (Below wr.heap.size wr (wr.drewN nq)) := Lib.hid (below_drewN (Below.refl _ _) nq)
                  generalize wr.drewN nq = w5 at *
                  go_wp2_with fail
                  go_roundw
                  case rel => exact ⟨j + 1, by go_num, by omega, Lib.hid (HBX.out.trans (HB5.out.mono HBX.out.size))⟩
                  case measure => simp [intOf]; omega
                · have hjK : j = K := by omega
                  subst hjK
                  clear hlt hj
                  have HB9 : Hid (Below w.heap.size w wr) := Lib.hid (HB3.out.trans (HBX.out.mono HB3.out.size))
                  go_wp2_with (go_at_call 5; refine (HLV.out _ HB9.out).mono ?_; rintro e w9 ⟨rfl, hb9⟩; have HB8 := Lib.hid hb9; clear hb9)
                  go_ret
                  exact ⟨rfl, HB8.out⟩
end Go.Proofs.YtjpbbooeihdnfaaDoor
