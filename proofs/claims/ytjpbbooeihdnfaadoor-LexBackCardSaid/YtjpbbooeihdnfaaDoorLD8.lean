/- The scanner's next step. -/
import Derived.Test.YtjpbbooeihdnfaaDoorLD7
set_option maxRecDepth 20000
set_option linter.unusedSimpArgs false
set_option linter.unusedVariables false
namespace Go.Proofs.YtjpbbooeihdnfaaDoor
open Go.RowKit

theorem rem_le : ∀ (k : Nat) (L : List UInt8) (o : Int) (i : Nat), L.length ≤ k → remGo L o i ≤ i + L.length := by
  intro k
  induction k with
  | zero =>
    intro L o i h
    have : L = [] := List.eq_nil_of_length_eq_zero (by omega)
    subst this
    exact Nat.zero_le _
  | succ k ih =>
    intro L o i h
    match L, h with
    | [], _ => exact Nat.zero_le _
    | [_], _ => exact Nat.zero_le _
    | a :: b :: t, h =>
      have ht : t.length ≤ k := by simp at h; omega
      have hbt : (b :: t).length ≤ k := by simp at h ⊢; omega
      rw [remGo]
      split
      · split
        · simp
        · have := ih t (o + 1) (i + 2) ht; simp; omega
      · split
        · split
          · simp
          · have := ih t (o - 1) (i + 2) ht; simp; omega
        · split
          · simp
          · have := ih (b :: t) o (i + 1) hbt; simp at this ⊢; omega
theorem passM_is (L : List UInt8) (n : Nat) : (∃ i x, passM L n = .err i x) ∨ passM L n = .pass n := by
  unfold passM
  split
  · exact .inl ⟨_, _, rfl⟩
  · split
    · exact .inl ⟨_, _, rfl⟩
    · exact .inr rfl
section
variable {w w' w0 : World} {B b a n : Nat} {S : ByteArray} {v : Value} {tight : Bool} {l : List (Tk × Nat)} {L : List UInt8} {e : Ending}
theorem PasR.st (h : PasR w w' B b S a v l L n e) : StR w w' B b S a l (passM L n) e := by
  unfold PasR at h
  rcases passM_is L n with ⟨i, x, hp⟩ | hp
  · rw [hp] at h ⊢; exact h
  · rw [hp] at h ⊢; exact ⟨h.1, h.2.1, v, h.2.2⟩
theorem StR.pre {st : St} (hb : Below B w0 w) (h : StR w w' B b S a l st e) : StR w0 w' B b S a l st e := ⟨hb.trans h.1, h.2⟩
/-- What a step answers. -/
def stP (a : Nat) : St → Int
  | .err i _ => ((a + i : Nat) : Int)
  | _ => 0
def stX : St → Int
  | .err _ x => x
  | _ => 0
/-- What a step makes of the scanner. -/
def StS (w' : World) (B b : Nat) (S : ByteArray) (a : Nat) (l : List (Tk × Nat)) : St → Prop
  | .err _ _ => True
  | .pass n => ∃ v', Scn w' B b S (a + n) v' false l
  | .tok t n tg => ∃ v', Scn w' B b S (a + n) v' tg (l ++ [(t, a)])
theorem StR.out {st : St} (h : StR w w' B b S a l st e) : e = .returned (.tuple #[.int .i64 (stP a st), .int .i64 (stX st)]) ∧ Hid (Below B w w' ∧ StS w' B b S a l st) := by
  unfold StR at h
  cases st with
  | err i x => exact ⟨h.2, h.1, trivial⟩
  | pass n => exact ⟨h.2.1, h.1, h.2.2⟩
  | tok t n tg => exact ⟨h.2.1, h.1, h.2.2⟩
theorem StR.of {st : St} (hb : Below B w w') (hs : StS w' B b S a l st) (h : e = .returned (.tuple #[.int .i64 (stP a st), .int .i64 (stX st)])) : StR w w' B b S a l st e := by
  unfold StR
  cases st with
  | err i x => exact ⟨hb, h⟩
  | pass n => exact ⟨hb, h, hs⟩
  | tok t n tg => exact ⟨hb, h, hs⟩
set_option maxHeartbeats 3200000 in
theorem Scn.next (h : Scn w B b S a v tight l) (hE : Env w) (hS : S.size ≤ 5000) (ha : a < S.size) (hl : l.length ≤ a) :
    Calls Tryd.prog 9 #[.pointer (some ⟨b, 0, none⟩)] w fun e w' => StR w w' B b S a l (stepM ((tl S).drop a)) e := by
  have HH := Lib.hid h
  have HEW := Lib.hid hE
  obtain ⟨R, hR⟩ : ∃ R, S.extract a S.size = R := ⟨_, rfl⟩
  have hRt : tl R = (tl S).drop a := by rw [← hR, tl_from]
  have hRl : R.size = S.size - a := by rw [← tl_len, hRt, List.length_drop, tl_len]
  rw [← hRt]
  obtain ⟨RQ, hRQ⟩ : ∃ RQ, stepM (tl R) = RQ := ⟨_, rfl⟩
  rw [hRQ]
  have haI : (a : Int) < (S.size : Int) := by omega
  have hSI : (S.size : Int) ≤ 5000 := by omega
  have hi0 : ∀ w, (Instr.index 9 (.string R) (.int .i64 0)).run Tryd.prog w = .ok (.int .u8 (((tl R).getD 0 0).toNat : Int)) w := fun w => idx_any R 0 (by omega) w
  have hst : stepM (tl R) = (if isBlank ((tl R).getD 0 0) then passM (tl R) 1
    else if (tl R).getD 0 0 = 59 then passM (tl R) (lineSz (tl R))
    else if [35, 124].isPrefixOf (tl R) then passM (tl R) (remSz (tl R))
    else if (tl R).getD 0 0 = 34 then quotM (tl R)
    else match markT (tl R) with
    | some (t, n, tg) => .tok t n tg
    | none => match labT (tl R) with
      | some (t, n, tg) => .tok t n tg
      | none => wrdM (tl R)) := by
    cases hq : tl R with
    | nil => rw [← tl_len, hq] at hRl; simp at hRl; omega
    | cons c t =>
      show (if isBlank c then _ else if c = 59 then _ else if _ then _ else if c = 34 then _ else _) = _
      unfold markT labT
      cases hm : markO (c :: t) with
      | some k => rfl
      | none =>
        cases hlb : labO (c :: t) with
        | some x => obtain ⟨k, n, z⟩ := x; rfl
        | none => rfl
  rw [hst] at hRQ
  obtain ⟨c, hc⟩ : ∃ c, (tl R).getD 0 0 = c := ⟨_, rfl⟩
  rw [hc] at hi0 hRQ
  obtain ⟨im, HM, him⟩ := mem_ex ⟨#[9, 10, 12, 13, 32]⟩ c
  rw [show (tl ⟨#[9, 10, 12, 13, 32]⟩).contains c = isBlank c from rfl] at him
  have HS1 : Hid (∀ n, Below w.heap.size w (w.drewN n)) := Lib.hid fun n => below_drewN (Below.refl _ _) n
  have HRL := Lib.hid hRl
  have HRT := Lib.hid hRt
  obtain ⟨⟨c0, c1, c2, c3⟩, fz⟩ := HH.out.cells
  clear hRt hRl h hE hst hc fz
  obtain ⟨P, hP⟩ : ∃ P, stP a RQ = P := ⟨_, rfl⟩
  obtain ⟨X, hX⟩ : ∃ X, stX RQ = X := ⟨_, rfl⟩
  have HPX : Hid (stP a RQ = P ∧ stX RQ = X) := Lib.hid ⟨hP, hX⟩
  have HCL : Hid (∀ (f : Nat) (args : Array Value) (st : St) (w1 : World), st = RQ → (Calls Tryd.prog f args w1 fun e w' => StR w1 w' B b S a l st e) → Calls Tryd.prog f args w1 fun e w' => e = .returned (.tuple #[.int .i64 P, .int .i64 X]) ∧ Hid (Below B w1 w' ∧ StS w' B b S a l RQ)) := Lib.hid fun f args st w1 he hc => by
    subst he
    refine hc.mono ?_
    intro e w' h
    have := h.out
    rw [hP, hX] at this
    exact this
  clear hP hX
  rcases hb : isBlank c with _ | _
  · rw [hb] at him hRQ
    rw [if_neg (by simp)] at hRQ
    clear hb
    have HIX : Hid (∀ w, Calls Tryd.prog 14 #[.string ⟨#[9, 10, 12, 13, 32]⟩, .int .u8 (c.toNat : Int)] w fun e w' => e = .returned (.int .i64 im) ∧ w = w') := HM
    by_cases d1 : c = 59
    · have e1 : ((c.toNat : Int) == 59) = true := by rw [d1]; rfl
      rw [if_pos d1] at hRQ
      have HRQ := Lib.hid hRQ
      have HLS := Lib.hid fun w hE => lineSize_any R w hE (by have := HRL.out; omega)
      have hls : lineSz (tl R) ≤ S.size - a := by rw [← HRL.out, ← tl_len]; exact (List.takeWhile_sublist _).length_le
      have HLE : Hid (a + lineSz (tl R) ≤ S.size) := Lib.hid (by omega)
      generalize hn : lineSz (tl R) = n at *
      clear hRQ d1 hls hn
      go_enter Tryd.func9, Tryd.ntmps9
      go_wp2_with fail
      go_quiet (fail)
      have HB1 := Lib.hid (HS1.out nq)
      generalize w.drewN nq = w1 at *
      have HSC1 := Lib.hid (HH.out.below HB1.out)
      have HPS : Hid (∀ w2, Below w1.heap.size w1 w2 → Calls Tryd.prog 15 #[.pointer (some ⟨b, 0, none⟩), .int .i64 (n : Int)] w2 fun e w' => e = .returned (.tuple #[.int .i64 P, .int .i64 X]) ∧ Hid (Below B w2 w' ∧ StS w' B b S a l RQ)) := Lib.hid fun w2 hb2 =>
        HCL.out _ _ _ w2 (by rw [← HRQ.out, HRT.out]) (((HSC1.out.below hb2).pass hS n HLE.out).mono fun e w' h => h.st)
      go_wp2_with (first
        | (go_at_call 14; refine (HIX.out _).mono ?_; rintro e w' ⟨rfl, rfl⟩)
        | (go_at_call 16; refine (HLS.out _ (HEW.out.below HB1.out)).mono ?_; rintro e w2 ⟨rfl, hb2⟩; have HB2 := Lib.hid hb2; clear hb2)
        | (go_at_call 15; refine (HPS.out _ HB2.out).mono ?_; rintro e w3 ⟨rfl, HP⟩))
      go_ret2
      exact StR.of ((HB1.out.mono HH.out.base).trans ((HB2.out.mono HSC1.out.base).trans HP.out.1)) HP.out.2 (by rw [HPX.out.1, HPX.out.2]; rfl)
    · have e1 : ((c.toNat : Int) == 59) = false := u8_ne (k := 59) rfl d1
      rw [if_neg d1] at hRQ
      have hpf := fun w => Tryd.strings_HasPrefix R ⟨#[35, 124]⟩ w
      rw [show Lib.hasPrefix R.data.toList (⟨#[35, 124]⟩ : ByteArray).data.toList = [35, 124].isPrefixOf (tl R) from rfl] at hpf
      rcases hp : [35, 124].isPrefixOf (tl R) with _ | _
      · rw [hp] at hpf hRQ
        rw [if_neg (by simp)] at hRQ
        have HPF := Lib.hid hpf
        by_cases d2 : c = 34
        · have e2 : ((c.toNat : Int) == 34) = true := by rw [d2]; rfl
          rw [if_pos d2] at hRQ
          have HRQ := Lib.hid hRQ
          clear hRQ d1 d2 hp hpf
          go_enter Tryd.func9, Tryd.ntmps9
          go_wp2_with fail
          go_quiet (fail)
          have HB1 := Lib.hid (HS1.out nq)
          generalize w.drewN nq = w1 at *
          have HSC1 := Lib.hid (HH.out.below HB1.out)
          have HQT : Hid (Calls Tryd.prog 19 #[.pointer (some ⟨b, 0, none⟩)] w1 fun e w' => e = .returned (.tuple #[.int .i64 P, .int .i64 X]) ∧ Hid (Below B w1 w' ∧ StS w' B b S a l RQ)) :=
            HCL.out _ _ _ w1 (by rw [← HRQ.out, HRT.out]) (HSC1.out.quoted (HEW.out.below HB1.out) hS ha hl)
          go_wp2_with (first
            | (go_at_call 14; refine (HIX.out _).mono ?_; rintro e w' ⟨rfl, rfl⟩)
            | (go_at_call 17; refine (HPF.out _).mono ?_; rintro e w' ⟨rfl, rfl⟩)
            | (go_at_call 19; refine HQT.out.mono ?_; rintro e w3 ⟨rfl, HP⟩))
          go_ret2
          exact StR.of ((HB1.out.mono HH.out.base).trans HP.out.1) HP.out.2 (by rw [HPX.out.1, HPX.out.2]; rfl)
        · have e2 : ((c.toNat : Int) == 34) = false := u8_ne (k := 34) rfl d2
          rw [if_neg d2] at hRQ
          cases hmk : markT (tl R) with
          | some x =>
            obtain ⟨t, n, tg⟩ := x
            rw [hmk] at hRQ
            have HRQ : Hid (St.tok t n tg = RQ) := hRQ
            have HMK : Hid (∀ w1, Below w.heap.size w w1 → Calls Tryd.prog 20 #[.pointer (some ⟨b, 0, none⟩)] w1 fun e w' => e = .returned (.bool true) ∧ Hid (Below B w1 w' ∧ ∃ v', Scn w' B b S (a + n) v' tg (l ++ [(t, a)]))) := Lib.hid fun w1 hb1 => by
              have h := (HH.out.below hb1).mark (HEW.out.below hb1) hS ha hl
              rw [← HRT.out, hmk] at h
              exact h.mono fun e w' h => ⟨h.2.1, h.1, h.2.2⟩
            clear hRQ d1 d2 hp hpf hmk
            go_enter Tryd.func9, Tryd.ntmps9
            go_wp2_with fail
            go_quiet (fail)
            have HB1 := Lib.hid (HS1.out nq)
            generalize w.drewN nq = w1 at *
            have HSC1 := Lib.hid (HH.out.below HB1.out)
            go_wp2_with (first
              | (go_at_call 14; refine (HIX.out _).mono ?_; rintro e w' ⟨rfl, rfl⟩)
              | (go_at_call 17; refine (HPF.out _).mono ?_; rintro e w' ⟨rfl, rfl⟩)
              | (go_at_call 20; refine (HMK.out _ HB1.out).mono ?_; rintro e w3 ⟨rfl, HP⟩))
            go_ret2
            rw [← HRQ.out]
            exact StR.tok ((HB1.out.mono HH.out.base).trans HP.out.1) rfl HP.out.2
          | none =>
            rw [hmk] at hRQ
            have HMK : Hid (∀ w1, Below w.heap.size w w1 → Calls Tryd.prog 20 #[.pointer (some ⟨b, 0, none⟩)] w1 fun e w' => e = .returned (.bool false) ∧ Below w1.heap.size w1 w') := Lib.hid fun w1 hb1 => by
              have h := (HH.out.below hb1).mark (HEW.out.below hb1) hS ha hl
              rw [← HRT.out, hmk] at h
              exact h.mono fun e w' h => ⟨h.2.1, h.2.2⟩
            cases hlb : labT (tl R) with
            | some x =>
              obtain ⟨t, n, tg⟩ := x
              rw [hlb] at hRQ
              have HRQ : Hid (St.tok t n tg = RQ) := hRQ
              have HLB : Hid (∀ w1, Below w.heap.size w w1 → Calls Tryd.prog 21 #[.pointer (some ⟨b, 0, none⟩)] w1 fun e w' => e = .returned (.bool true) ∧ Hid (Below B w1 w' ∧ ∃ v', Scn w' B b S (a + n) v' tg (l ++ [(t, a)]))) := Lib.hid fun w1 hb1 => by
                have h := (HH.out.below hb1).label (HEW.out.below hb1) hS ha hl
                rw [← HRT.out, hlb] at h
                exact h.mono fun e w' h => ⟨h.2.1, h.1, h.2.2⟩
              clear hRQ d1 d2 hp hpf hmk hlb
              go_enter Tryd.func9, Tryd.ntmps9
              go_wp2_with fail
              go_quiet (fail)
              have HB1 := Lib.hid (HS1.out nq)
              generalize w.drewN nq = w1 at *
              have HSC1 := Lib.hid (HH.out.below HB1.out)
              go_wp2_with (first
                | (go_at_call 14; refine (HIX.out _).mono ?_; rintro e w' ⟨rfl, rfl⟩)
                | (go_at_call 17; refine (HPF.out _).mono ?_; rintro e w' ⟨rfl, rfl⟩)
                | (go_at_call 20; refine (HMK.out _ HB1.out).mono ?_; rintro e w2 ⟨rfl, hb2⟩; have HB2 := Lib.hid (HB1.out.trans (hb2.mono HB1.out.size)); clear hb2)
                | (go_at_call 21; refine (HLB.out _ HB2.out).mono ?_; rintro e w3 ⟨rfl, HP⟩))
              go_ret2
              rw [← HRQ.out]
              exact StR.tok ((HB2.out.mono HH.out.base).trans HP.out.1) rfl HP.out.2
            | none =>
              rw [hlb] at hRQ
              have HRQ : Hid (wrdM (tl R) = RQ) := hRQ
              have HLB : Hid (∀ w1, Below w.heap.size w w1 → Calls Tryd.prog 21 #[.pointer (some ⟨b, 0, none⟩)] w1 fun e w' => e = .returned (.bool false) ∧ Below w1.heap.size w1 w') := Lib.hid fun w1 hb1 => by
                have h := (HH.out.below hb1).label (HEW.out.below hb1) hS ha hl
                rw [← HRT.out, hlb] at h
                exact h.mono fun e w' h => ⟨h.2.1, h.2.2⟩
              have HWD : Hid (∀ w1, Below w.heap.size w w1 → Calls Tryd.prog 22 #[.pointer (some ⟨b, 0, none⟩)] w1 fun e w' => e = .returned (.tuple #[.int .i64 P, .int .i64 X]) ∧ Hid (Below B w1 w' ∧ StS w' B b S a l RQ)) := Lib.hid fun w1 hb1 =>
                HCL.out _ _ _ w1 (by rw [← HRQ.out, HRT.out]) ((HH.out.below hb1).word (HEW.out.below hb1) hS ha hl)
              clear hRQ d1 d2 hp hpf hmk hlb
              go_enter Tryd.func9, Tryd.ntmps9
              go_wp2_with fail
              go_quiet (fail)
              have HB1 := Lib.hid (HS1.out nq)
              generalize w.drewN nq = w1 at *
              have HSC1 := Lib.hid (HH.out.below HB1.out)
              go_wp2_with (first
                | (go_at_call 14; refine (HIX.out _).mono ?_; rintro e w' ⟨rfl, rfl⟩)
                | (go_at_call 17; refine (HPF.out _).mono ?_; rintro e w' ⟨rfl, rfl⟩)
                | (go_at_call 20; refine (HMK.out _ HB1.out).mono ?_; rintro e w2 ⟨rfl, hb2⟩; have HB2 := Lib.hid (HB1.out.trans (hb2.mono HB1.out.size)); clear hb2)
                | (go_at_call 21; refine (HLB.out _ HB2.out).mono ?_; rintro e w3 ⟨rfl, hb3⟩; have HB3 := Lib.hid (HB2.out.trans (hb3.mono HB2.out.size)); clear hb3)
                | (go_at_call 22; refine (HWD.out _ HB3.out).mono ?_; rintro e w4 ⟨rfl, HP⟩))
              go_ret2
              exact StR.of ((HB3.out.mono HH.out.base).trans HP.out.1) HP.out.2 (by rw [HPX.out.1, HPX.out.2]; rfl)
      · rw [hp] at hpf hRQ
        rw [if_pos rfl] at hRQ
        have HRQ := Lib.hid hRQ
        have HPF := Lib.hid hpf
        have HRM := Lib.hid fun w => remarkSize_any R w (by have := HRL.out; omega)
        have hrm : remSz (tl R) ≤ S.size - a := by
          have := rem_le _ (tl R) 0 0 (Nat.le_refl _)
          rw [tl_len, HRL.out] at this
          show remGo _ _ _ ≤ _
          omega
        have HLE : Hid (a + remSz (tl R) ≤ S.size) := Lib.hid (by omega)
        generalize hn : remSz (tl R) = n at *
        clear hRQ d1 hp hpf hrm hn
        go_enter Tryd.func9, Tryd.ntmps9
        go_wp2_with fail
        go_quiet (fail)
        have HB1 := Lib.hid (HS1.out nq)
        generalize w.drewN nq = w1 at *
        have HSC1 := Lib.hid (HH.out.below HB1.out)
        have HPS : Hid (Calls Tryd.prog 15 #[.pointer (some ⟨b, 0, none⟩), .int .i64 (n : Int)] w1 fun e w' => e = .returned (.tuple #[.int .i64 P, .int .i64 X]) ∧ Hid (Below B w1 w' ∧ StS w' B b S a l RQ)) :=
          HCL.out _ _ _ w1 (by rw [← HRQ.out, HRT.out]) ((HSC1.out.pass hS n HLE.out).mono fun e w' h => h.st)
        go_wp2_with (first
          | (go_at_call 14; refine (HIX.out _).mono ?_; rintro e w' ⟨rfl, rfl⟩)
          | (go_at_call 17; refine (HPF.out _).mono ?_; rintro e w' ⟨rfl, rfl⟩)
          | (go_at_call 18; refine (HRM.out _).mono ?_; rintro e w' ⟨rfl, rfl⟩)
          | (go_at_call 15; refine HPS.out.mono ?_; rintro e w3 ⟨rfl, HP⟩))
        go_ret2
        exact StR.of ((HB1.out.mono HH.out.base).trans HP.out.1) HP.out.2 (by rw [HPX.out.1, HPX.out.2]; rfl)
  · rw [hb] at him hRQ
    have HRQ : Hid (passM (tl R) 1 = RQ) := hRQ
    clear hRQ hb
    go_enter Tryd.func9, Tryd.ntmps9
    go_wp2_with fail
    go_quiet (fail)
    have HB1 := Lib.hid (HS1.out nq)
    generalize w.drewN nq = w1 at *
    have HPS := Lib.hid (HCL.out _ _ _ w1 (by rw [← HRQ.out, HRT.out]) (((HH.out.below HB1.out).pass hS 1 (by omega)).mono fun e w' h => h.st))
    go_wp2_with (first
      | (go_at_call 14; refine (HM.out _).mono ?_; rintro e w' ⟨rfl, rfl⟩)
      | (go_at_call 15; refine HPS.out.mono ?_; rintro e w2 ⟨rfl, HP⟩))
    go_ret2
    exact StR.of ((HB1.out.mono HH.out.base).trans HP.out.1) HP.out.2 (by rw [HPX.out.1, HPX.out.2]; rfl)
end
end Go.Proofs.YtjpbbooeihdnfaaDoor
