/- Texts RdW7 to XLC5 of this seat, laid into one. -/
import Derived.BigQuiet
import Derived.Deep.QuietTactic
import Derived.Test.YthjjgpepgbfalaaGreatDoorM01
import Derived.Test.YthjjgpepgbfalaaGreatDoorM05
import Derived.Test.YthjjgpepgbfalaaGreatDoorM08
set_option linter.unusedVariables false
set_option linter.unusedSimpArgs false
set_option linter.constructorNameAsVariable false
section
/-! row, and all of the parser's calls together. -/
set_option maxRecDepth 20000
set_option linter.unusedSimpArgs false
set_option linter.unusedVariables false
namespace Go.Proofs.YthjjgpepgbfalaaGreatDoor
open Go.RowKit

theorem rowM_some {sz f dp n : Nat} {σ : Ps} {r : Bool × Ps} (h : rowM sz f dp n σ = some r) : ∃ g b σ1, f = g + 1 ∧ skipsM sz g dp σ = some (b, σ1) ∧ (b = false → r = (false, σ1)) ∧ (b = true →
    (isK σ1 1 = true ∧ r = (true, { σ1 with ts := σ1.ts.tail })) ∨
    (isK σ1 1 = false ∧ isK σ1 9 = true ∧ (ndAt σ1.A n).t.k = 0 ∧ (ndAt σ1.A n).is ≠ [] ∧ ∃ b2 σ2, behindM sz g dp n { σ1 with ts := σ1.ts.tail, A := setDot σ1.A n } = some (b2, σ2) ∧ (b2 = false → r = (false, σ2)) ∧ (b2 = true → ∃ b3 σ3, skipsM sz g dp σ2 = some (b3, σ3) ∧ (b3 = false → r = (false, σ3)) ∧ (b3 = true → r = closeM sz σ3))) ∨
    (isK σ1 1 = false ∧ ¬ (isK σ1 9 = true ∧ (ndAt σ1.A n).t.k = 0 ∧ (ndAt σ1.A n).is ≠ []) ∧ ∃ b2 σ2, datumM sz g dp n σ1 = some (b2, σ2) ∧ (b2 = false → r = (false, σ2)) ∧ (b2 = true → rowM sz g dp n σ2 = some r))) := by
  cases f with
  | zero => rw [rowM] at h; cases h
  | succ f =>
    rw [rowM] at h
    cases hS : skipsM sz f dp σ with
    | none => rw [hS] at h; cases h
    | some q =>
      obtain ⟨b, σ1⟩ := q
      rw [hS] at h
      refine ⟨f, b, σ1, rfl, hS, fun e => ?_, fun e => ?_⟩
      · subst e; exact (Option.some.inj h).symm
      · subst e
        have h1 : (if isK σ1 1 = true then some (true, { σ1 with ts := σ1.ts.tail }) else if isK σ1 9 = true ∧ (ndAt σ1.A n).t.k = 0 ∧ (ndAt σ1.A n).is ≠ [] then
          match behindM sz f dp n { σ1 with ts := σ1.ts.tail, A := setDot σ1.A n } with
          | none => none
          | some (false, σ2) => some (false, σ2)
          | some (true, σ2) => match skipsM sz f dp σ2 with
            | none => none
            | some (false, σ3) => some (false, σ3)
            | some (true, σ3) => some (closeM sz σ3)
          else match datumM sz f dp n σ1 with
          | none => none
          | some (false, σ2) => some (false, σ2)
          | some (true, σ2) => rowM sz f dp n σ2) = some r := h
        clear h
        by_cases hk : isK σ1 1 = true
        · rw [if_pos hk] at h1
          exact .inl ⟨hk, (Option.some.inj h1).symm⟩
        · rw [if_neg hk] at h1
          have hk2 : isK σ1 1 = false := by simpa using hk
          by_cases hd : isK σ1 9 = true ∧ (ndAt σ1.A n).t.k = 0 ∧ (ndAt σ1.A n).is ≠ []
          · rw [if_pos hd] at h1
            refine .inr (.inl ⟨hk2, hd.1, hd.2.1, hd.2.2, ?_⟩)
            cases hB : behindM sz f dp n { σ1 with ts := σ1.ts.tail, A := setDot σ1.A n } with
            | none => rw [hB] at h1; cases h1
            | some q2 =>
              obtain ⟨b2, σ2⟩ := q2
              rw [hB] at h1
              refine ⟨b2, σ2, rfl, fun e => ?_, fun e => ?_⟩
              · subst e; exact (Option.some.inj h1).symm
              · subst e
                cases hS2 : skipsM sz f dp σ2 with
                | none =>
                  have h2 : (match skipsM sz f dp σ2 with
                    | none => none
                    | some (false, σ3) => some (false, σ3)
                    | some (true, σ3) => some (closeM sz σ3)) = some r := h1
                  rw [hS2] at h2; cases h2
                | some q3 =>
                  obtain ⟨b3, σ3⟩ := q3
                  have h2 : (match skipsM sz f dp σ2 with
                    | none => none
                    | some (false, σ3) => some (false, σ3)
                    | some (true, σ3) => some (closeM sz σ3)) = some r := h1
                  rw [hS2] at h2
                  refine ⟨b3, σ3, rfl, fun e => ?_, fun e => ?_⟩
                  · subst e; exact (Option.some.inj h2).symm
                  · subst e; exact (Option.some.inj h2).symm
          · rw [if_neg hd] at h1
            refine .inr (.inr ⟨hk2, hd, ?_⟩)
            cases hD : datumM sz f dp n σ1 with
            | none => rw [hD] at h1; cases h1
            | some q2 =>
              obtain ⟨b2, σ2⟩ := q2
              rw [hD] at h1
              refine ⟨b2, σ2, rfl, fun e => ?_, fun e => ?_⟩
              · subst e; exact (Option.some.inj h1).symm
              · subst e; exact h1
section
variable {p sz tb f : Nat}
/-- Amid row: with so many steps left. -/
def RwJ (p sz tb dp f i : Nat) (S : Nat → Nat) (V : Nat → Value) (lb n : Nat) (w : World) (r : Bool × Ps) (wr : World) (g : Nat) : Prop := g ≤ f + 1 ∧ ∃ σ1, MidX p sz tb dp S V lb n w σ1 wr ∧ rowM sz g dp i σ1 = some r
set_option maxHeartbeats 6400000 in
theorem row_step (hs : ∀ g, g ≤ f → SkipsC p sz tb g) (hb : ∀ g, g ≤ f → BehindC p sz tb g) (hd : ∀ g, g ≤ f → DatumC p sz tb g) : RowC p sz tb (f + 1) := by
  intro w dp S V lb σ r i h hi hM
  have HJ0 : Hid (RwJ p sz tb dp f i S V lb σ.A.length w r w (f + 1)) := Lib.hid ⟨Nat.le_refl _, σ, ⟨S, V, lb, Mid.refl h⟩, hM⟩
  have HW : Hid (∀ σ1 w1, MidX p sz tb dp S V lb σ.A.length w σ1 w1 → WentM p sz tb dp S V lb σ σ1 w w1) := Lib.hid fun σ1 w1 hm => hm.went
  have HS := Lib.hid hs
  have HB := Lib.hid hb
  have HD := Lib.hid hd
  have HI := Lib.hid hi
  clear h hM hb hs hd
  generalize σ.A.length = n at *
  clear hi
  go_enter Tryz.func100, Tryz.ntmps100
  go_wp2_with fail
  go_loopw [] (fun wr => ∃ g : Nat, Hid (RwJ p sz tb dp f i S V lb n w r wr g)) (fun wr => leastN (fun g => Hid (RwJ p sz tb dp f i S V lb n w r wr g)))
  case atStart => exact ⟨_, HJ0⟩
  case round =>
    have HL := leastN_is hrel
    obtain ⟨G, hG⟩ : ∃ G, leastN (fun g => Hid (RwJ p sz tb dp f i S V lb n w r wr g)) = G := ⟨_, rfl⟩
    rw [hG] at HL
    have HGG := Lib.hid hG
    clear hrel HJ0 hG
    obtain ⟨hg, σ0, hm, hM⟩ := HL.out
    obtain ⟨g, b, σ1, rfl, hS, hb0, hb1⟩ := rowM_some hM
    have HSK := Lib.hid ((HS.out g (by omega)).mid hm hS)
    have HGF : Hid (g ≤ f) := Lib.hid (by omega)
    clear hM hm hg hS HL
    cases b with
    | false =>
      have hr := hb0 rfl
      subst hr
      clear hb0 hb1
      go_wp2_with (go_at_call 42; with_reducible refine HSK.out.mono ?_; rintro e w1 ⟨rfl, h1⟩)
      go_ret
      exact ⟨rfl, HW.out _ _ h1⟩
    | true =>
      have hc := hb1 rfl
      clear hb0 hb1
      rcases hc with ⟨hk, hr⟩ | ⟨hk, hk9, hk0, his, b2, σ2, hB, e0, e1⟩ | ⟨hk, hn9, b2, σ2, hD, e0, e1⟩
      · obtain ⟨x, l, hts⟩ := isK_cons hk
        rw [show σ1.ts.tail = l by rw [hts]; rfl] at hr
        subst hr
        have HIS := Lib.hid (fun w1 (hm : MidX p sz tb dp S V lb n w σ1 w1) => show Calls Tryz.prog 63 #[.pointer (some ⟨p, 0, none⟩), .int .i64 1] w1 fun e w' => e = .returned (.bool true) ∧ w1 = w' by rw [← hk]; exact hm.is 1 rfl)
        have HTK := Lib.hid (fun w1 (hm : MidX p sz tb dp S V lb n w σ1 w1) => hm.take hts)
        clear hk hts
        go_wp2_with (first
          | (go_at_call 42; with_reducible refine HSK.out.mono ?_; rintro e w1 ⟨rfl, h1⟩)
          | (go_at_call 63; with_reducible refine (HIS.out _ h1).mono ?_; rintro e w2 ⟨rfl, rfl⟩)
          | (go_at_call 64; with_reducible refine (HTK.out _ h1).mono ?_; rintro e w3 ⟨rfl, h3⟩))
        go_ret
        exact ⟨rfl, HW.out _ _ h3⟩
      · obtain ⟨x, l, hts⟩ := isK_cons hk9
        rw [show σ1.ts.tail = l by rw [hts]; rfl] at hB
        have HIS := Lib.hid (fun w1 (hm : MidX p sz tb dp S V lb n w σ1 w1) => show Calls Tryz.prog 63 #[.pointer (some ⟨p, 0, none⟩), .int .i64 1] w1 fun e w' => e = .returned (.bool false) ∧ w1 = w' by rw [← hk]; exact hm.is 1 rfl)
        have HI9 := Lib.hid (fun w1 (hm : MidX p sz tb dp S V lb n w σ1 w1) => show Calls Tryz.prog 63 #[.pointer (some ⟨p, 0, none⟩), .int .i64 9] w1 fun e w' => e = .returned (.bool true) ∧ w1 = w' by rw [← hk9]; exact hm.is 9 rfl)
        have HTK := Lib.hid (fun w1 (hm : MidX p sz tb dp S V lb n w σ1 w1) => hm.take hts)
        have HCL := Lib.hid (fun w1 (hm : MidX p sz tb dp S V lb n w σ1 w1) => show ∃ q c, w1.cell? ⟨S i, 0, none⟩ = some (.int .i64 0) ∧ w1.cell? ⟨S i, 4, none⟩ = some (.slice q (ndAt σ1.A i).is.length c) by
          obtain ⟨q, c, c0, c4, _⟩ := hm.cells HI.out
          rw [hk0] at c0
          exact ⟨q, c, c0, c4⟩)
        have hpos : 0 < (ndAt σ1.A i).is.length := List.length_pos_iff.2 his
        have d1 : decide ((0 : Int) < ((ndAt σ1.A i).is.length : Int)) = true := decide_eq_true (by omega)
        have d2 : decide (0 < (ndAt σ1.A i).is.length) = true := decide_eq_true hpos
        have HBE := Lib.hid (fun w1 (hm : MidX p sz tb dp S V lb n w { σ1 with ts := l, A := setDot σ1.A i } w1) => (HB.out g HGF.out).mid hm HI.out hB)
        generalize (ndAt σ1.A i).is.length = N at *
        clear hk hk9 hk0 his hts hB
        go_upto_region 7 with (first
          | (go_at_call 42; with_reducible refine HSK.out.mono ?_; rintro e w1 ⟨rfl, h1⟩; obtain ⟨q, cp, c0, c4⟩ := HCL.out _ h1)
          | (go_at_call 63; first | (with_reducible refine (HI9.out _ h1).mono ?_; rintro e w2 ⟨rfl, rfl⟩) | (with_reducible refine (HIS.out _ h1).mono ?_; rintro e w2 ⟨rfl, rfl⟩))
          | (go_at_call 64; with_reducible refine (HTK.out _ h1).mono ?_; rintro e w3 ⟨rfl, h3⟩; obtain ⟨c5, f5, h4⟩ := h3.dot HI.out; have H4 := Lib.hid h4; clear h4))
        go_upto_region 8 with fail
        generalize w3.setCell ⟨S i, 5, none⟩ (.bool true) = w4 at *
        have HBW := Lib.hid (HBE.out w4 H4.out)
        clear HBE c0 c4 c5 f5 h1 h3 HIS HI9 HTK HCL HSK
        cases b2 with
        | false =>
          have hr := e0 rfl
          subst hr
          clear e0 e1
          go_wp2_with (go_at_call 66; with_reducible refine HBW.out.mono ?_; rintro e w5 ⟨rfl, h5⟩)
          go_ret
          exact ⟨rfl, HW.out _ _ h5⟩
        | true =>
          obtain ⟨b3, σ3, hS3, e2, e3⟩ := e1 rfl
          have HS3 := Lib.hid (fun w1 (hm : MidX p sz tb dp S V lb n w σ2 w1) => (HS.out g HGF.out).mid hm hS3)
          clear e0 e1 hS3
          cases b3 with
          | false =>
            have hr := e2 rfl
            subst hr
            clear e2 e3
            go_wp2_with (first
              | (go_at_call 66; with_reducible refine HBW.out.mono ?_; rintro e w5 ⟨rfl, h5⟩)
              | (go_at_call 42; with_reducible refine (HS3.out _ h5).mono ?_; rintro e w6 ⟨rfl, h6⟩))
            go_ret
            exact ⟨rfl, HW.out _ _ h6⟩
          | true =>
            have hr := e3 rfl
            have HCO := Lib.hid (fun w1 (hm : MidX p sz tb dp S V lb n w σ3 w1) => show Calls Tryz.prog 121 #[.pointer (some ⟨p, 0, none⟩)] w1 fun e w' => e = .returned (.bool r.1) ∧ MidX p sz tb dp S V lb n w r.2 w' by rw [hr]; exact hm.close)
            clear e2 e3 hr
            obtain ⟨br, σr⟩ := r
            go_wp2_with (first
              | (go_at_call 66; with_reducible refine HBW.out.mono ?_; rintro e w5 ⟨rfl, h5⟩)
              | (go_at_call 42; with_reducible refine (HS3.out _ h5).mono ?_; rintro e w6 ⟨rfl, h6⟩)
              | (go_at_call 121; with_reducible refine (HCO.out _ h6).mono ?_; rintro e w7 ⟨rfl, h7⟩))
            go_ret
            exact ⟨rfl, HW.out _ _ h7⟩
      · have HIS := Lib.hid (fun w1 (hm : MidX p sz tb dp S V lb n w σ1 w1) => show Calls Tryz.prog 63 #[.pointer (some ⟨p, 0, none⟩), .int .i64 1] w1 fun e w' => e = .returned (.bool false) ∧ w1 = w' by rw [← hk]; exact hm.is 1 rfl)
        have HI9 := Lib.hid (fun w1 (hm : MidX p sz tb dp S V lb n w σ1 w1) => show Calls Tryz.prog 63 #[.pointer (some ⟨p, 0, none⟩), .int .i64 9] w1 fun e w' => e = .returned (.bool (isK σ1 9)) ∧ w1 = w' from hm.is 9 rfl)
        have HCL := Lib.hid (fun w1 (hm : MidX p sz tb dp S V lb n w σ1 w1) => hm.cells HI.out)
        have HDA := Lib.hid (fun w1 (hm : MidX p sz tb dp S V lb n w σ1 w1) => (HD.out g HGF.out).mid hm HI.out hD)
        have hcs : (isK σ1 9 = false) ∨ (isK σ1 9 = true ∧ (ndAt σ1.A i).t.k ≠ 0) ∨ (isK σ1 9 = true ∧ (ndAt σ1.A i).t.k = 0 ∧ (ndAt σ1.A i).is.length = 0) := by
          cases h9 : isK σ1 9 with
          | false => exact .inl rfl
          | true =>
            by_cases h0 : (ndAt σ1.A i).t.k = 0
            · refine .inr (.inr ⟨rfl, h0, ?_⟩)
              rcases hl : (ndAt σ1.A i).is with _ | ⟨a, l⟩
              · rfl
              · exact absurd ⟨h9, h0, by rw [hl]; simp⟩ hn9
            · exact .inr (.inl ⟨rfl, h0⟩)
        have hcb : ∃ b9 bk bl, isK σ1 9 = b9 ∧ (((ndAt σ1.A i).t.k : Int) == 0) = bk ∧ decide ((0 : Int) < ((ndAt σ1.A i).is.length : Int)) = bl ∧ decide (0 < (ndAt σ1.A i).is.length) = bl ∧ ((b9 = false) ∨ (b9 = true ∧ bk = false) ∨ (b9 = true ∧ bk = true ∧ bl = false)) := by
          rcases hcs with h | ⟨h1, h2⟩ | ⟨h1, h2, h3⟩
          · refine ⟨false, _, _, h, rfl, rfl, ?_, .inl rfl⟩
            by_cases hp : 0 < (ndAt σ1.A i).is.length
            · rw [decide_eq_true hp]; exact (decide_eq_true (by omega)).symm
            · rw [decide_eq_false hp]; exact (decide_eq_false (by omega)).symm
          · refine ⟨true, false, _, h1, beq_eq_false_iff_ne.2 (by omega), rfl, ?_, .inr (.inl ⟨rfl, rfl⟩)⟩
            by_cases hp : 0 < (ndAt σ1.A i).is.length
            · rw [decide_eq_true hp]; exact (decide_eq_true (by omega)).symm
            · rw [decide_eq_false hp]; exact (decide_eq_false (by omega)).symm
          · exact ⟨true, true, false, h1, by rw [h2]; rfl, decide_eq_false (by omega), decide_eq_false (by omega), .inr (.inr ⟨rfl, rfl, rfl⟩)⟩
        obtain ⟨b9, bk, bl, g9, gk, gl, gl2, hcc⟩ := hcb
        rw [g9] at HI9
        generalize (ndAt σ1.A i).is.length = N at *
        generalize (ndAt σ1.A i).t.k = kk at *
        clear hk hn9 hD hcs g9
        rcases hcc with rfl | ⟨rfl, rfl⟩ | ⟨rfl, rfl, rfl⟩
        all_goals cases b2 with
          | false =>
            have hr := e0 rfl
            subst hr
            clear e0 e1
            go_wp2_with (first
              | (go_at_call 42; with_reducible refine HSK.out.mono ?_; rintro e w1 ⟨rfl, h1⟩; obtain ⟨q, cp, c0, c4, hl⟩ := HCL.out _ h1)
              | (go_at_call 63; first | (with_reducible refine (HI9.out _ h1).mono ?_; rintro e w2 ⟨rfl, rfl⟩) | (with_reducible refine (HIS.out _ h1).mono ?_; rintro e w2 ⟨rfl, rfl⟩))
              | (go_at_call 43; with_reducible refine (HDA.out _ h1).mono ?_; rintro e w3 ⟨rfl, h3⟩))
            go_ret
            exact ⟨rfl, HW.out _ _ h3⟩
          | true =>
            have HBT := Lib.hid (e1 rfl)
            clear e0 e1
            go_wp2_with (first
              | (go_at_call 42; with_reducible refine HSK.out.mono ?_; rintro e w1 ⟨rfl, h1⟩; obtain ⟨q, cp, c0, c4, hl⟩ := HCL.out _ h1)
              | (go_at_call 63; first | (with_reducible refine (HI9.out _ h1).mono ?_; rintro e w2 ⟨rfl, rfl⟩) | (with_reducible refine (HIS.out _ h1).mono ?_; rintro e w2 ⟨rfl, rfl⟩))
              | (go_at_call 43; with_reducible refine (HDA.out _ h1).mono ?_; rintro e w3 ⟨rfl, h3⟩))
            have HJ3 : Hid (RwJ p sz tb dp f i S V lb n w r w3 g) := Lib.hid ⟨Nat.le_succ_of_le HGF.out, σ2, h3, HBT.out⟩
            go_roundw
            case rel => exact ⟨g, HJ3⟩
            case measure =>
              have h1 := leastN_le (Q := fun g => Hid (RwJ p sz tb dp f i S V lb n w r w3 g)) (m := g) HJ3
              have h2 := HGG.out
              omega
/-- All of the parser's calls. -/
theorem parser_all (f : Nat) : SkipsC p sz tb f ∧ BehindC p sz tb f ∧ DatumC p sz tb f ∧ RestC p sz tb f ∧ RowC p sz tb f := by
  induction f using Nat.strongRecOn with
  | ind f ih =>
    cases f with
    | zero =>
      refine ⟨?_, ?_, ?_, ?_, ?_⟩
      · intro w dp S V lb σ r h hM; rw [skipsM] at hM; cases hM
      · intro w dp S V lb σ r i h hi hM; rw [behindM] at hM; cases hM
      · intro w dp S V lb σ r i h hi hM; rw [datumM] at hM; cases hM
      · intro w dp S V lb σ r i h hi h1 h2 hM; rw [restM] at hM; cases hM
      · intro w dp S V lb σ r i h hi hM; rw [rowM] at hM; cases hM
    | succ f =>
      obtain ⟨a1, a2, a3, a4, a5⟩ := ih f (Nat.lt_succ_self f)
      have i1 := fun g (hg : g ≤ f) => (ih g (Nat.lt_succ_of_le hg)).1
      have i2 := fun g (hg : g ≤ f) => (ih g (Nat.lt_succ_of_le hg)).2.1
      have i3 := fun g (hg : g ≤ f) => (ih g (Nat.lt_succ_of_le hg)).2.2.1
      exact ⟨skips_step i2, behind_step a1 a3, datum_step a4, rest_step a2 a5, row_step i1 i2 i3⟩
end
end Go.Proofs.YthjjgpepgbfalaaGreatDoor
end
section
/-! So many steps are enough. -/
set_option linter.unusedVariables false
namespace Go.Proofs.YthjjgpepgbfalaaGreatDoor

theorem ndAt_last (A : List Nd) (i : Nat) (t : Lx.Tk) (a : Nat) : ndAt (addN A i t a) A.length = { nd0 with t := t, a := a } := by
  unfold addN ndAt
  rw [List.getD_eq_getElem?_getD, List.getElem?_append_right (by simp)]
  simp
theorem isK_len {σ : Ps} {k : Nat} (h : isK σ k = true) : σ.ts.tail.length + 1 = σ.ts.length := by
  unfold isK at h
  cases hts : σ.ts with
  | nil => rw [hts] at h; cases h
  | cons x l => simp
theorem closeM_len (sz : Nat) (σ : Ps) : (closeM sz σ).2.ts.length ≤ σ.ts.length := by
  unfold closeM
  cases hts : σ.ts with
  | nil => simp [failM, hts]
  | cons x l =>
    simp only
    split
    · simp
    · simp [failM, hts]
theorem fault_known {dp : Nat} {σ : Ps} {i : Nat} {x : Lx.Tk × Nat} {l : List (Lx.Tk × Nat)} (hts : σ.ts = x :: l) (h : faultM dp σ i = 0) (hk : x.1.k = 16) : ∃ j, σ.lab x.1.n = some j := by
  unfold faultM at h
  rw [hts] at h
  cases hl : σ.lab x.1.n with
  | some j => exact ⟨j, rfl⟩
  | none =>
    exfalso
    simp only at h
    by_cases h1 : (!begins x.1.k || (decide ((ndAt σ.A i).t.k = 3) && !isByteM x.1)) = true
    · rw [if_pos h1] at h; cases h
    · rw [if_neg h1, if_pos (by rw [hl, decide_eq_true hk]; rfl)] at h; cases h
theorem enough (sz : Nat) : ∀ f,
    (∀ dp σ, 5 * σ.ts.length + 1 ≤ f → ∃ r, skipsM sz f dp σ = some r ∧ r.2.ts.length ≤ σ.ts.length) ∧
    (∀ dp i σ, 5 * σ.ts.length + 2 ≤ f → ∃ r, behindM sz f dp i σ = some r ∧ r.2.ts.length ≤ σ.ts.length) ∧
    (∀ dp i σ, 5 * σ.ts.length + 1 ≤ f → ∃ r, datumM sz f dp i σ = some r ∧ r.2.ts.length ≤ σ.ts.length ∧ (r.1 = true → r.2.ts.length < σ.ts.length)) ∧
    (∀ dp i σ, 5 * σ.ts.length + 4 ≤ f → ((ndAt σ.A i).t.k = 16 → ∃ j, σ.lab (ndAt σ.A i).t.n = some j) → ∃ r, restM sz f dp i σ = some r ∧ r.2.ts.length ≤ σ.ts.length) ∧
    (∀ dp i σ, 5 * σ.ts.length + 3 ≤ f → ∃ r, rowM sz f dp i σ = some r ∧ r.2.ts.length ≤ σ.ts.length)
  | 0 => ⟨fun _ _ h => by omega, fun _ _ _ h => by omega, fun _ _ _ h => by omega, fun _ _ _ h => by omega, fun _ _ _ h => by omega⟩
  | f + 1 => by
    obtain ⟨ihS, ihB, ihD, ihR, ihW⟩ := enough sz f
    refine ⟨fun dp σ h => ?_, fun dp i σ h => ?_, fun dp i σ h => ?_, fun dp i σ h hk => ?_, fun dp i σ h => ?_⟩
    · rw [skipsM]
      by_cases hk : isK σ 8 = true
      · rw [if_pos hk]
        have hl := isK_len hk
        obtain ⟨⟨b, σ'⟩, e, h1⟩ := ihB dp σ.A.length { σ with ts := σ.ts.tail, A := σ.A ++ [nd0] } (by show 5 * σ.ts.tail.length + 2 ≤ f; omega)
        have h1' : σ'.ts.length ≤ σ.ts.tail.length := h1
        rw [e]
        cases b with
        | false => exact ⟨_, rfl, by show σ'.ts.length ≤ _; omega⟩
        | true =>
          obtain ⟨r, e2, h2⟩ := ihS dp { σ' with lab := σ.lab } (by show 5 * σ'.ts.length + 1 ≤ f; omega)
          have h2' : r.2.ts.length ≤ σ'.ts.length := h2
          exact ⟨r, e2, by omega⟩
      · rw [if_neg hk]
        exact ⟨_, rfl, Nat.le_refl _⟩
    · rw [behindM]
      obtain ⟨⟨b, σ'⟩, e, h1⟩ := ihS dp σ (by omega)
      have h1' : σ'.ts.length ≤ σ.ts.length := h1
      rw [e]
      cases b with
      | false => exact ⟨_, rfl, h1⟩
      | true =>
        obtain ⟨r, e2, h2, _⟩ := ihD dp i σ' (by omega)
        exact ⟨r, e2, by omega⟩
    · rw [datumM]
      by_cases h0 : faultM dp σ i ≠ 0
      · rw [if_pos h0]
        exact ⟨_, rfl, Nat.le_refl _, fun e => by cases e⟩
      · rw [if_neg h0]
        have h0' : faultM dp σ i = 0 := by simpa using h0
        cases hts : σ.ts with
        | nil =>
          exfalso
          unfold faultM at h0'
          rw [hts] at h0'; cases h0'
        | cons x l =>
          rw [hts] at h
          simp at h
          obtain ⟨r, e, h1⟩ := ihR (dp + 1) σ.A.length { σ with ts := l, A := addN σ.A i x.1 x.2 } (by show 5 * l.length + 4 ≤ f; omega) (by
            show (ndAt (addN σ.A i x.1 x.2) σ.A.length).t.k = 16 → ∃ j, σ.lab (ndAt (addN σ.A i x.1 x.2) σ.A.length).t.n = some j
            rw [ndAt_last]
            exact fault_known hts h0')
          have h1' : r.2.ts.length ≤ l.length := h1
          exact ⟨r, e, by simp; omega, fun _ => by simp; omega⟩
    · rw [restM]
      split
      · exact ihW dp i σ (by omega)
      · split
        · obtain ⟨r, e, h1⟩ := ihB dp i { σ with A := addN σ.A i ⟨14, 0, nameOf (ndAt σ.A i).t.k⟩ 0 } (by show 5 * σ.ts.length + 2 ≤ f; omega)
          exact ⟨r, e, h1⟩
        · split
          · obtain ⟨r, e, h1⟩ := ihB dp i { σ with lab := putLab σ.lab (ndAt σ.A i).t.n i } (by show 5 * σ.ts.length + 2 ≤ f; omega)
            exact ⟨r, e, h1⟩
          · split
            · rename_i h16
              obtain ⟨j, hj⟩ := hk h16
              rw [hj]
              exact ⟨_, rfl, Nat.le_refl _⟩
            · exact ⟨_, rfl, Nat.le_refl _⟩
    · rw [rowM]
      obtain ⟨⟨b, σ1⟩, e, h1⟩ := ihS dp σ (by omega)
      have h1' : σ1.ts.length ≤ σ.ts.length := h1
      rw [e]
      cases b with
      | false => exact ⟨_, rfl, h1⟩
      | true =>
        simp only
        by_cases hk : isK σ1 1 = true
        · rw [if_pos hk]
          have := isK_len hk
          exact ⟨_, rfl, by show σ1.ts.tail.length ≤ _; omega⟩
        · rw [if_neg hk]
          by_cases hd : isK σ1 9 = true ∧ (ndAt σ1.A i).t.k = 0 ∧ (ndAt σ1.A i).is ≠ []
          · rw [if_pos hd]
            have hl := isK_len hd.1
            obtain ⟨⟨b2, σ2⟩, e2, h2⟩ := ihB dp i { σ1 with ts := σ1.ts.tail, A := setDot σ1.A i } (by show 5 * σ1.ts.tail.length + 2 ≤ f; omega)
            have h2' : σ2.ts.length ≤ σ1.ts.tail.length := h2
            rw [e2]
            cases b2 with
            | false => exact ⟨_, rfl, by show σ2.ts.length ≤ _; omega⟩
            | true =>
              obtain ⟨⟨b3, σ3⟩, e3, h3⟩ := ihS dp σ2 (by omega)
              have h3' : σ3.ts.length ≤ σ2.ts.length := h3
              simp only
              rw [e3]
              cases b3 with
              | false => exact ⟨_, rfl, by show σ3.ts.length ≤ _; omega⟩
              | true =>
                have := closeM_len sz σ3
                exact ⟨_, rfl, by omega⟩
          · rw [if_neg hd]
            obtain ⟨⟨b2, σ2⟩, e2, h2, h2lt⟩ := ihD dp i σ1 (by omega)
            rw [e2]
            cases b2 with
            | false => exact ⟨_, rfl, by show σ2.ts.length ≤ _; have : σ2.ts.length ≤ σ1.ts.length := h2; omega⟩
            | true =>
              have hlt : σ2.ts.length < σ1.ts.length := h2lt rfl
              obtain ⟨r, e3, h3⟩ := ihW dp i σ2 (by omega)
              exact ⟨r, e3, by omega⟩
theorem enoughTop (sz : Nat) : ∀ f σ, 5 * σ.ts.length + 3 ≤ f → ∃ σ', topM sz f σ = some σ' ∧ σ'.ts.length ≤ σ.ts.length
  | 0, _, h => by omega
  | f + 1, σ, h => by
    obtain ⟨⟨b, σ1⟩, e, h1⟩ := (enough sz f).1 0 σ (by omega)
    have h1' : σ1.ts.length ≤ σ.ts.length := h1
    rw [topM, e]
    cases b with
    | false => exact ⟨_, rfl, h1⟩
    | true =>
      simp only
      by_cases hn : σ1.ts = []
      · rw [if_pos hn]; exact ⟨_, rfl, h1⟩
      · rw [if_neg hn]
        obtain ⟨⟨b2, σ2⟩, e2, h2, h2lt⟩ := (enough sz f).2.2.1 0 0 σ1 (by omega)
        rw [e2]
        cases b2 with
        | false => exact ⟨_, rfl, by show σ2.ts.length ≤ _; have : σ2.ts.length ≤ σ1.ts.length := h2; omega⟩
        | true =>
          have hlt : σ2.ts.length < σ1.ts.length := h2lt rfl
          obtain ⟨σ', e3, h3⟩ := enoughTop sz f σ2 (by omega)
          exact ⟨σ', e3, by omega⟩
end Go.Proofs.YthjjgpepgbfalaaGreatDoor
end
section
/-! What a word is, asked of one function after the other: numbers, symbols, bytes of hex digits. -/
set_option maxRecDepth 20000
set_option linter.unusedSimpArgs false
namespace Go.Proofs.YthjjgpepgbfalaaGreatDoor.Lx
open Go.RowKit

theorem ret_cb {b b' : Int} {s s' : ByteArray} (h1 : b = b') (h2 : tl s = tl s') : Ending.returned (.tuple #[.int .i64 b, .string s]) = .returned (.tuple #[.int .i64 b', .string s']) := by
  have : s = s' := by
    apply ByteArray.ext; apply Array.ext'; exact h2
  rw [h1, this]
set_option maxHeartbeats 1600000 in
theorem cutBase_any (S : ByteArray) (w : World) (hS : S.size ≤ 5000) : Calls Tryz.prog 151 #[.string S] w fun e w' => e = .returned (.tuple #[.int .i64 ((cutB (tl S)).1 : Int), .string ⟨(cutB (tl S)).2.toArray⟩]) ∧ ∃ n, w' = w.drewN n := by
  have HL := Lib.hid (tl_len S)
  by_cases h2 : S.size < 2
  · have hc : cutB (tl S) = (10, tl S) := by unfold cutB; rw [if_pos (.inl (by rw [HL.out]; exact h2))]
    rw [hc]
    have hd : decide ((S.size : Int) < 2) = true := decide_eq_true (by omega)
    clear hc
    go_enter Tryz.func151, Tryz.ntmps151
    go_wp2_with fail
    go_ret2
    exact ⟨rfl, 0, rfl⟩
  · have hd : decide ((S.size : Int) < 2) = false := decide_eq_false (by omega)
    have hd2 : decide (S.size < 2) = false := decide_eq_false (by omega)
    have hi0 : ∀ w, (Instr.index 9 (.string S) (.int .i64 0)).run Tryz.prog w = .ok (.int .u8 (((tl S).getD 0 0).toNat : Int)) w := fun w => idx_any S 0 (by omega) w
    have hi1 : ∀ w, (Instr.index 9 (.string S) (.int .i64 1)).run Tryz.prog w = .ok (.int .u8 (((tl S).getD 1 0).toNat : Int)) w := fun w => idx_any S 1 (by omega) w
    have hlen : ¬ (tl S).length < 2 := by rw [HL.out]; exact h2
    have hx : tl (S.extract 2 S.size) = (tl S).drop 2 := tl_from S 2
    by_cases h0 : (tl S).getD 0 0 = 35
    · have e0 : ((((tl S).getD 0 0).toNat : Int) != 35) = false := by rw [h0]; rfl
      have hcb : cutB (tl S) = if (tl S).getD 1 0 = 98 then (2, (tl S).drop 2) else if (tl S).getD 1 0 = 111 then (8, (tl S).drop 2) else if (tl S).getD 1 0 = 100 then (10, (tl S).drop 2) else if (tl S).getD 1 0 = 120 then (16, (tl S).drop 2) else (10, tl S) := by
        conv => lhs; unfold cutB
        rw [if_neg (fun h => h.elim hlen (fun h => h h0))]
      generalize (tl S).getD 1 0 = c at *
      generalize (tl S).getD 0 0 = c0 at *
      have h2I : (2 : Int) ≤ (S.size : Int) := by omega
      clear hlen h0
      have HX := Lib.hid hx
      clear hx
      by_cases c1 : c = 98
      · have e1 : ((c.toNat : Int) == 98) = true := by rw [c1]; rfl
        rw [if_pos c1] at hcb
        rw [hcb]
        clear c1 hcb
        go_enter Tryz.func151, Tryz.ntmps151
        go_wp2_with fail
        go_quiet (fail)
        go_wp2_with fail
        go_ret2
        exact ⟨ret_cb rfl HX.out, _, rfl⟩
      · have e1 : ((c.toNat : Int) == 98) = false := u8_ne (k := 98) rfl c1
        rw [if_neg c1] at hcb
        by_cases c2 : c = 111
        · have e2 : ((c.toNat : Int) == 111) = true := by rw [c2]; rfl
          rw [if_pos c2] at hcb
          rw [hcb]
          clear c1 c2 hcb
          go_enter Tryz.func151, Tryz.ntmps151
          go_wp2_with fail
          go_quiet (fail)
          go_wp2_with fail
          go_ret2
          exact ⟨ret_cb rfl HX.out, _, rfl⟩
        · have e2 : ((c.toNat : Int) == 111) = false := u8_ne (k := 111) rfl c2
          rw [if_neg c2] at hcb
          by_cases c3 : c = 100
          · have e3 : ((c.toNat : Int) == 100) = true := by rw [c3]; rfl
            rw [if_pos c3] at hcb
            rw [hcb]
            clear c1 c2 c3 hcb
            go_enter Tryz.func151, Tryz.ntmps151
            go_wp2_with fail
            go_quiet (fail)
            go_wp2_with fail
            go_ret2
            exact ⟨ret_cb rfl HX.out, _, rfl⟩
          · have e3 : ((c.toNat : Int) == 100) = false := u8_ne (k := 100) rfl c3
            rw [if_neg c3] at hcb
            by_cases c4 : c = 120
            · have e4 : ((c.toNat : Int) == 120) = true := by rw [c4]; rfl
              rw [if_pos c4] at hcb
              rw [hcb]
              clear c1 c2 c3 c4 hcb
              go_enter Tryz.func151, Tryz.ntmps151
              go_wp2_with fail
              go_quiet (fail)
              go_wp2_with fail
              go_ret2
              exact ⟨ret_cb rfl HX.out, _, rfl⟩
            · have e4 : ((c.toNat : Int) == 120) = false := u8_ne (k := 120) rfl c4
              rw [if_neg c4] at hcb
              rw [hcb]
              clear c1 c2 c3 c4 hcb
              go_enter Tryz.func151, Tryz.ntmps151
              go_wp2_with fail
              go_ret2
              exact ⟨rfl, 0, rfl⟩
    · have hc : cutB (tl S) = (10, tl S) := by unfold cutB; rw [if_pos (.inr h0)]
      rw [hc]
      have e0 : ((((tl S).getD 0 0).toNat : Int) != 35) = true := by
        have h := u8_ne (k := 35) (n := 35) rfl h0
        rw [bne, h]; rfl
      generalize (tl S).getD 0 0 = c0 at *
      generalize (tl S).getD 1 0 = c1 at *
      clear hc h0 hx
      go_enter Tryz.func151, Tryz.ntmps151
      go_wp2_with fail
      go_ret2
      exact ⟨rfl, 0, rfl⟩
theorem cutB_len (L : List UInt8) : (cutB L).2.length ≤ L.length ∧ 2 ≤ (cutB L).1 ∧ (cutB L).1 ≤ 16 := by
  unfold cutB
  split
  · exact ⟨Nat.le_refl _, by simp, by simp⟩
  · split
    · exact ⟨by simp, by simp, by simp⟩
    · split
      · exact ⟨by simp, by simp, by simp⟩
      · split
        · exact ⟨by simp, by simp, by simp⟩
        · split
          · exact ⟨by simp, by simp, by simp⟩
          · exact ⟨Nat.le_refl _, by simp, by simp⟩
/-- What number tells: ErrNone, where the word is no number. -/
def numV (L : List UInt8) : Value := if parseE (cutB L).1 (cutB L).2 = 4 then askV ⟨0, 0, []⟩ 5 else askV ⟨10, parseV (cutB L).1 (cutB L).2, []⟩ (parseE (cutB L).1 (cutB L).2)
set_option maxHeartbeats 1600000 in
theorem number_any (S : ByteArray) (w : World) (hS : S.size ≤ 5000) : Calls Tryz.prog 138 #[.string S] w fun e w' => e = .returned (numV (tl S)) ∧ Below w.heap.size w w' := by
  obtain ⟨hz, -⟩ := zero_of_info (P := Tryz.prog) zeroTok
  obtain ⟨hl, hb1, hb2⟩ := cutB_len (tl S)
  have hcb := fun w => cutBase_any S w hS
  have hll := tl_len S
  unfold numV
  obtain ⟨b, hbb⟩ : ∃ b, (cutB (tl S)).1 = b := ⟨_, rfl⟩
  obtain ⟨L, hLL⟩ : ∃ L, (cutB (tl S)).2 = L := ⟨_, rfl⟩
  rw [hbb, hLL] at hcb
  rw [hbb] at hb1 hb2 ⊢
  rw [hLL] at hl ⊢
  have hpa := fun w => parse_any b L w hb1 hb2 (by omega)
  have HCB := Lib.hid hcb
  have HPA := Lib.hid hpa
  have b0 := build0
  have b1 := buildKN 10
  have HX0 : Hid (Bx4 (w.alloc (.cells #[.int .i64 0, .int .i64 0, .string ⟨#[]⟩, .int .i64 0] 71)) w.heap.size #[.int .i64 0, .int .i64 0, .string ⟨#[]⟩, .int .i64 0]) := Lib.hid (Bx4.new _ _)
  have HB0 := Lib.hid (alloc_below w (.cells #[.int .i64 0, .int .i64 0, .string ⟨#[]⟩, .int .i64 0] 71))
  generalize parseV b L = V at *
  generalize parseE b L = E at *
  clear hcb hpa hl hll hbb hLL hS
  by_cases hE : E = 4
  · subst hE
    rw [if_pos rfl]
    go_enter Tryz.func138, Tryz.ntmps138
    go_wp2_with (first
      | (go_at_call 151; refine (HCB.out _).mono ?_; rintro e w1 ⟨rfl, n, rfl⟩)
      | (go_at_call 118; refine (HPA.out _).mono ?_; rintro e w2 ⟨rfl, hb⟩; have HB := Lib.hid (HB0.out.trans ((below_drewN (Below.refl _ _) n).trans hb |>.mono HB0.out.size)); have hbx := (HX0.out.below (below_drewN (Below.refl _ _) n)).below hb; obtain ⟨⟨q0, q1, q2, q3⟩, f0, f1, f2, f3⟩ := hbx.cells; have HBX := Lib.hid hbx; clear hbx hb))
    exact bodyPost_ret (results_row_tmp rfl _ _ w.heap.size 71 _ (0, 0) _ rfl (HBX.out.set _ _ _ _).row Tryz.underlying71 rfl sizeTok) rfl ⟨rfl, box_below HB.out (Nat.le_refl _) _ _ _ _⟩
  · rw [if_neg hE]
    have hE2 : (E == 4) = false := beq_false_of_ne hE
    clear hE
    go_enter Tryz.func138, Tryz.ntmps138
    go_wp2_with (first
      | (go_at_call 151; refine (HCB.out _).mono ?_; rintro e w1 ⟨rfl, n, rfl⟩)
      | (go_at_call 118; refine (HPA.out _).mono ?_; rintro e w2 ⟨rfl, hb⟩; have HB := Lib.hid (HB0.out.trans ((below_drewN (Below.refl _ _) n).trans hb |>.mono HB0.out.size)); have hbx := (HX0.out.below (below_drewN (Below.refl _ _) n)).below hb; obtain ⟨⟨q0, q1, q2, q3⟩, f0, f1, f2, f3⟩ := hbx.cells; have HBX := Lib.hid hbx; clear hbx hb))
    exact bodyPost_ret (results_row_tmp rfl _ _ w.heap.size 71 _ (0, 0) _ rfl (HBX.out.set _ _ _ _).row Tryz.underlying71 rfl sizeTok) rfl ⟨rfl, box_below HB.out (Nat.le_refl _) _ _ _ _⟩
end Go.Proofs.YthjjgpepgbfalaaGreatDoor.Lx
end
section
/-! Bytes of hex digits, symbols, characters. -/
set_option maxRecDepth 20000
set_option linter.unusedSimpArgs false
namespace Go.Proofs.YthjjgpepgbfalaaGreatDoor.Lx
open Go.RowKit

theorem cons_of {S : ByteArray} (h : tl S ≠ []) : 0 < S.size ∧ (tl S).head? = some ((tl S).getD 0 0) := by
  have hl := tl_len S
  cases e : tl S with
  | nil => exact absurd e h
  | cons a t => rw [e] at hl; exact ⟨by rw [← hl]; simp, rfl⟩
def bofV (L : List UInt8) : Value := if byteOk L = true then .tuple #[.int .i64 (parseV 16 L), .bool true] else .tuple #[.int .i64 0, .bool false]
set_option maxHeartbeats 1600000 in
theorem byteOf_any (S : ByteArray) (w : World) (hS : S.size ≤ 5000) : Calls Tryz.prog 143 #[.string S] w fun e w' => e = .returned (bofV (tl S)) ∧ Below w.heap.size w w' := by
  have hll := tl_len S
  have hem : S.toList.isEmpty = (tl S).isEmpty := by rw [Go.Lib.toList_data]
  unfold bofV byteOk
  by_cases h0 : tl S = []
  · rw [h0] at hem ⊢
    have he : S.toList.isEmpty = true := hem
    have he2 := eq_str S []
    rw [h0] at he2
    have he3 : (S.toList == []) = true := he2
    rw [if_neg (by simp)]
    clear hem he2 h0 hll
    go_enter Tryz.func143, Tryz.ntmps143
    go_wp2_with fail
    go_ret2
    exact ⟨rfl, Below.refl _ _⟩
  · obtain ⟨hpos, hhd⟩ := cons_of h0
    have he2 := eq_str S []
    rw [decide_eq_false h0] at he2
    have he : S.toList.isEmpty = false := by rw [hem]; cases e : tl S with | nil => exact absurd e h0 | cons a t => rfl
    have hi0 : ∀ w, (Instr.index 9 (.string S) (.int .i64 0)).run Tryz.prog w = .ok (.int .u8 (((tl S).getD 0 0).toNat : Int)) w := fun w => idx_any S 0 hpos w
    have hne : (tl S == []) = false := beq_false_of_ne h0
    rw [hhd, hne]
    generalize (tl S).getD 0 0 = c at *
    have hpa : ∀ w, Calls Tryz.prog 118 #[.string S, .int .i64 16] w fun e w' => e = .returned (.tuple #[.int .i64 (parseV 16 (tl S)), .int .i64 (parseE 16 (tl S))]) ∧ Below w.heap.size w w' := fun w => parse_any 16 (tl S) w (by decide) (by decide) (by omega)
    generalize parseV 16 (tl S) = V at *
    generalize parseE 16 (tl S) = E at *
    have HPA := Lib.hid hpa
    clear hpa hne hhd hll h0 hem
    by_cases c1 : c = 43
    · have e1 : ((c.toNat : Int) == 43) = true := by rw [c1]; rfl
      rw [c1, if_neg (by simp)]
      clear c1
      go_enter Tryz.func143, Tryz.ntmps143
      go_wp2_with fail
      go_ret2
      exact ⟨rfl, Below.refl _ _⟩
    · have e1 : ((c.toNat : Int) == 43) = false := u8_ne (k := 43) rfl c1
      by_cases c2 : c = 45
      · have e2 : ((c.toNat : Int) == 45) = true := by rw [c2]; rfl
        rw [c2, if_neg (by simp)]
        clear c1 c2
        go_enter Tryz.func143, Tryz.ntmps143
        go_wp2_with fail
        go_ret2
        exact ⟨rfl, Below.refl _ _⟩
      · have e2 : ((c.toNat : Int) == 45) = false := u8_ne (k := 45) rfl c2
        have hc : (!(false || some c == some 43 || some c == some 45) && (E == 0 && decide (V < 128))) = (E == 0 && decide (V < 128)) := by
          have h1 : (some c == some 43) = false := beq_false_of_ne (fun h => c1 (Option.some.inj h))
          have h2 : (some c == some 45) = false := beq_false_of_ne (fun h => c2 (Option.some.inj h))
          rw [h1, h2]; rfl
        rw [hc]
        clear hc c1 c2
        by_cases hE : E = 0
        · subst hE
          by_cases hV : V < 128
          · have hd : decide ((128 : Int) ≤ V) = false := decide_eq_false (by omega)
            rw [decide_eq_true hV, if_pos (show ((0 : Int) == 0 && true) = true from rfl)]
            go_enter Tryz.func143, Tryz.ntmps143
            go_wp2_with (go_at_call 118; refine (HPA.out _).mono ?_; rintro e w2 ⟨rfl, hb⟩; have HB := Lib.hid hb; clear hb)
            go_ret2
            exact ⟨rfl, HB.out⟩
          · have hd : decide ((128 : Int) ≤ V) = true := decide_eq_true (by omega)
            rw [decide_eq_false hV, if_neg (by simp)]
            go_enter Tryz.func143, Tryz.ntmps143
            go_wp2_with (go_at_call 118; refine (HPA.out _).mono ?_; rintro e w2 ⟨rfl, hb⟩; have HB := Lib.hid hb; clear hb)
            go_ret2
            exact ⟨rfl, HB.out⟩
        · have hE2 : (E == 0) = false := beq_false_of_ne hE
          have hE3 : (E != 0) = true := by rw [bne, hE2]; rfl
          rw [hE2, if_neg (by simp)]
          clear hE
          go_enter Tryz.func143, Tryz.ntmps143
          go_wp2_with (go_at_call 118; refine (HPA.out _).mono ?_; rintro e w2 ⟨rfl, hb⟩; have HB := Lib.hid hb; clear hb)
          go_ret2
          exact ⟨rfl, HB.out⟩
set_option maxHeartbeats 1600000 in
theorem beginsNumber_any (S : ByteArray) (w : World) (hS : S.size ≤ 5000) (h0 : 0 < S.size) : Calls Tryz.prog 153 #[.string S] w fun e w' => e = .returned (.bool (begN (tl S))) ∧ w = w' := by
  have hll := tl_len S
  have hi0 : ∀ w, (Instr.index 9 (.string S) (.int .i64 0)).run Tryz.prog w = .ok (.int .u8 (((tl S).getD 0 0).toNat : Int)) w := fun w => idx_any S 0 h0 w
  have hbg : begN (tl S) = (isDig ((tl S).getD 0 0) || (decide (1 < S.size) && ((tl S).getD 0 0 == 43 || (tl S).getD 0 0 == 45) && isDig ((tl S).getD 1 0))) := by unfold begN; rw [hll]
  rw [hbg]
  have HD := Lib.hid isDigit_any
  by_cases h1 : 1 < S.size
  · have hi1 : ∀ w, (Instr.index 9 (.string S) (.int .i64 1)).run Tryz.prog w = .ok (.int .u8 (((tl S).getD 1 0).toNat : Int)) w := fun w => idx_any S 1 h1 w
    have hd : decide ((1 : Int) < (S.size : Int)) = true := decide_eq_true (by omega)
    have hd2 : decide (1 < S.size) = true := decide_eq_true h1
    rw [hd2]
    generalize (tl S).getD 0 0 = c at *
    generalize (tl S).getD 1 0 = d at *
    have H1 := HD.out c
    have H2 := HD.out d
    rcases hc : isDig c with _ | _
    all_goals
      rw [hc] at H1
      have HC := Lib.hid H1
      have HD2 := Lib.hid H2
      clear H1 H2 hbg hll HD hc
      by_cases c1 : c = 43
      · have e1 : ((c.toNat : Int) == 43) = true := by rw [c1]; rfl
        have hq : (c == 43) = true := by rw [c1]; rfl
        rw [hq]
        clear c1 hq
        go_enter Tryz.func153, Tryz.ntmps153
        go_wp2_with (go_at_call 150; first | (with_reducible refine (HC.out _).mono ?_; rintro e w' ⟨rfl, rfl⟩) | (with_reducible refine (HD2.out _).mono ?_; rintro e w' ⟨rfl, rfl⟩))
        all_goals go_ret
        all_goals exact ⟨rfl, rfl⟩
      · have e1 : ((c.toNat : Int) == 43) = false := u8_ne (k := 43) rfl c1
        have hq : (c == 43) = false := beq_false_of_ne c1
        rw [hq]
        by_cases c2 : c = 45
        · have e2 : ((c.toNat : Int) == 45) = true := by rw [c2]; rfl
          have hq : (c == 45) = true := by rw [c2]; rfl
          rw [hq]
          clear c1 c2 hq
          go_enter Tryz.func153, Tryz.ntmps153
          go_wp2_with (go_at_call 150; first | (with_reducible refine (HC.out _).mono ?_; rintro e w' ⟨rfl, rfl⟩) | (with_reducible refine (HD2.out _).mono ?_; rintro e w' ⟨rfl, rfl⟩))
          all_goals go_ret
          all_goals exact ⟨rfl, rfl⟩
        · have e2 : ((c.toNat : Int) == 45) = false := u8_ne (k := 45) rfl c2
          have hq : (c == 45) = false := beq_false_of_ne c2
          rw [hq]
          clear c1 c2 hq
          go_enter Tryz.func153, Tryz.ntmps153
          go_wp2_with (go_at_call 150; first | (with_reducible refine (HC.out _).mono ?_; rintro e w' ⟨rfl, rfl⟩) | (with_reducible refine (HD2.out _).mono ?_; rintro e w' ⟨rfl, rfl⟩))
          all_goals go_ret
          all_goals exact ⟨rfl, rfl⟩
  · have hd : decide ((1 : Int) < (S.size : Int)) = false := decide_eq_false (by omega)
    have hd2 : decide (1 < S.size) = false := decide_eq_false h1
    rw [hd2]
    generalize (tl S).getD 0 0 = c at *
    have H1 := HD.out c
    rcases hc : isDig c with _ | _
    all_goals
      rw [hc] at H1
      have HC := Lib.hid H1
      clear H1 hbg hll HD hc
      go_enter Tryz.func153, Tryz.ntmps153
      go_wp2_with (go_at_call 150; refine (HC.out _).mono ?_; rintro e w' ⟨rfl, rfl⟩)
      all_goals go_ret
      all_goals exact ⟨rfl, rfl⟩
end Go.Proofs.YthjjgpepgbfalaaGreatDoor.Lx
end
