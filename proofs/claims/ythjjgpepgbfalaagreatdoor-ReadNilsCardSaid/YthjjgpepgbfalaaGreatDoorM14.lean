/- Texts XLD8 to XLD9 of this seat, laid into one. -/
import Derived.Test.YthjjgpepgbfalaaGreatDoorM13
set_option linter.unusedVariables false
set_option linter.unusedSimpArgs false
set_option linter.constructorNameAsVariable false
section
/-! The scanner's next step. -/
set_option maxRecDepth 20000
set_option linter.unusedSimpArgs false
set_option linter.unusedVariables false
namespace Go.Proofs.YthjjgpepgbfalaaGreatDoor.Lx
open Go.RowKit

theorem rem_le : ∀ (k : Nat) (L : List UInt8) (o : Int) (i : Nat), L.length ≤ k → remGo L o i ≤ i + L.length := by
  intro k
  induction k with
  | zero =>
    intro L o i h
    have : L = [] := List.eq_nil_of_length_eq_zero (by omega)
    subst this
    exact Nat.zero_le _
  | succ k ih =>
    intro L o i h
    match L, h with
    | [], _ => exact Nat.zero_le _
    | [_], _ => exact Nat.zero_le _
    | a :: b :: t, h =>
      have ht : t.length ≤ k := by simp at h; omega
      have hbt : (b :: t).length ≤ k := by simp at h ⊢; omega
      rw [remGo]
      split
      · split
        · simp
        · have := ih t (o + 1) (i + 2) ht; simp; omega
      · split
        · split
          · simp
          · have := ih t (o - 1) (i + 2) ht; simp; omega
        · split
          · simp
          · have := ih (b :: t) o (i + 1) hbt; simp at this ⊢; omega
theorem passM_is (L : List UInt8) (n : Nat) : (∃ i x, passM L n = .err i x) ∨ passM L n = .pass n := by
  unfold passM
  split
  · exact .inl ⟨_, _, rfl⟩
  · split
    · exact .inl ⟨_, _, rfl⟩
    · exact .inr rfl
section
variable {w w' w0 : World} {B b a n : Nat} {S : ByteArray} {v : Value} {tight : Bool} {l : List (Tk × Nat)} {L : List UInt8} {e : Ending}
theorem PasR.st (h : PasR w w' B b S a v l L n e) : StR w w' B b S a l (passM L n) e := by
  unfold PasR at h
  rcases passM_is L n with ⟨i, x, hp⟩ | hp
  · rw [hp] at h ⊢; exact h
  · rw [hp] at h ⊢; exact ⟨h.1, h.2.1, v, h.2.2⟩
theorem StR.pre {st : St} (hb : Below B w0 w) (h : StR w w' B b S a l st e) : StR w0 w' B b S a l st e := ⟨hb.trans h.1, h.2⟩
/-- What a step answers. -/
def stP (a : Nat) : St → Int
  | .err i _ => ((a + i : Nat) : Int)
  | _ => 0
def stX : St → Int
  | .err _ x => x
  | _ => 0
/-- What a step makes of the scanner. -/
def StS (w' : World) (B b : Nat) (S : ByteArray) (a : Nat) (l : List (Tk × Nat)) : St → Prop
  | .err _ _ => True
  | .pass n => ∃ v', Scn w' B b S (a + n) v' false l
  | .tok t n tg => ∃ v', Scn w' B b S (a + n) v' tg (l ++ [(t, a)])
theorem StR.out {st : St} (h : StR w w' B b S a l st e) : e = .returned (.tuple #[.int .i64 (stP a st), .int .i64 (stX st)]) ∧ Hid (Below B w w' ∧ StS w' B b S a l st) := by
  unfold StR at h
  cases st with
  | err i x => exact ⟨h.2, h.1, trivial⟩
  | pass n => exact ⟨h.2.1, h.1, h.2.2⟩
  | tok t n tg => exact ⟨h.2.1, h.1, h.2.2⟩
theorem StR.of {st : St} (hb : Below B w w') (hs : StS w' B b S a l st) (h : e = .returned (.tuple #[.int .i64 (stP a st), .int .i64 (stX st)])) : StR w w' B b S a l st e := by
  unfold StR
  cases st with
  | err i x => exact ⟨hb, h⟩
  | pass n => exact ⟨hb, h, hs⟩
  | tok t n tg => exact ⟨hb, h, hs⟩
set_option maxHeartbeats 3200000 in
theorem Scn.next (h : Scn w B b S a v tight l) (hE : Env w) (hS : S.size ≤ 5000) (ha : a < S.size) (hl : l.length ≤ a) :
    Calls Tryz.prog 62 #[.pointer (some ⟨b, 0, none⟩)] w fun e w' => StR w w' B b S a l (stepM ((tl S).drop a)) e := by
  have HH := Lib.hid h
  have HEW := Lib.hid hE
  obtain ⟨R, hR⟩ : ∃ R, S.extract a S.size = R := ⟨_, rfl⟩
  have hRt : tl R = (tl S).drop a := by rw [← hR, tl_from]
  have hRl : R.size = S.size - a := by rw [← tl_len, hRt, List.length_drop, tl_len]
  rw [← hRt]
  obtain ⟨RQ, hRQ⟩ : ∃ RQ, stepM (tl R) = RQ := ⟨_, rfl⟩
  rw [hRQ]
  have haI : (a : Int) < (S.size : Int) := by omega
  have hSI : (S.size : Int) ≤ 5000 := by omega
  have hi0 : ∀ w, (Instr.index 9 (.string R) (.int .i64 0)).run Tryz.prog w = .ok (.int .u8 (((tl R).getD 0 0).toNat : Int)) w := fun w => idx_any R 0 (by omega) w
  have hst : stepM (tl R) = (if isBlank ((tl R).getD 0 0) then passM (tl R) 1
    else if (tl R).getD 0 0 = 59 then passM (tl R) (lineSz (tl R))
    else if [35, 124].isPrefixOf (tl R) then passM (tl R) (remSz (tl R))
    else if (tl R).getD 0 0 = 34 then quotM (tl R)
    else match markT (tl R) with
    | some (t, n, tg) => .tok t n tg
    | none => match labT (tl R) with
      | some (t, n, tg) => .tok t n tg
      | none => wrdM (tl R)) := by
    cases hq : tl R with
    | nil => rw [← tl_len, hq] at hRl; simp at hRl; omega
    | cons c t =>
      show (if isBlank c then _ else if c = 59 then _ else if _ then _ else if c = 34 then _ else _) = _
      unfold markT labT
      cases hm : markO (c :: t) with
      | some k => rfl
      | none =>
        cases hlb : labO (c :: t) with
        | some x => obtain ⟨k, n, z⟩ := x; rfl
        | none => rfl
  rw [hst] at hRQ
  obtain ⟨c, hc⟩ : ∃ c, (tl R).getD 0 0 = c := ⟨_, rfl⟩
  rw [hc] at hi0 hRQ
  obtain ⟨im, HM, him⟩ := mem_ex ⟨#[9, 10, 12, 13, 32]⟩ c
  rw [show (tl ⟨#[9, 10, 12, 13, 32]⟩).contains c = isBlank c from rfl] at him
  have HS1 : Hid (∀ n, Below w.heap.size w (w.drewN n)) := Lib.hid fun n => below_drewN (Below.refl _ _) n
  have HRL := Lib.hid hRl
  have HRT := Lib.hid hRt
  obtain ⟨⟨c0, c1, c2, c3⟩, fz⟩ := HH.out.cells
  clear hRt hRl h hE hst hc fz
  obtain ⟨P, hP⟩ : ∃ P, stP a RQ = P := ⟨_, rfl⟩
  obtain ⟨X, hX⟩ : ∃ X, stX RQ = X := ⟨_, rfl⟩
  have HPX : Hid (stP a RQ = P ∧ stX RQ = X) := Lib.hid ⟨hP, hX⟩
  have HCL : Hid (∀ (f : Nat) (args : Array Value) (st : St) (w1 : World), st = RQ → (Calls Tryz.prog f args w1 fun e w' => StR w1 w' B b S a l st e) → Calls Tryz.prog f args w1 fun e w' => e = .returned (.tuple #[.int .i64 P, .int .i64 X]) ∧ Hid (Below B w1 w' ∧ StS w' B b S a l RQ)) := Lib.hid fun f args st w1 he hc => by
    subst he
    refine hc.mono ?_
    intro e w' h
    have := h.out
    rw [hP, hX] at this
    exact this
  clear hP hX
  rcases hb : isBlank c with _ | _
  · rw [hb] at him hRQ
    rw [if_neg (by simp)] at hRQ
    clear hb
    have HIX : Hid (∀ w, Calls Tryz.prog 86 #[.string ⟨#[9, 10, 12, 13, 32]⟩, .int .u8 (c.toNat : Int)] w fun e w' => e = .returned (.int .i64 im) ∧ w = w') := HM
    by_cases d1 : c = 59
    · have e1 : ((c.toNat : Int) == 59) = true := by rw [d1]; rfl
      rw [if_pos d1] at hRQ
      have HRQ := Lib.hid hRQ
      have HLS := Lib.hid fun w hE => lineSize_any R w hE (by have := HRL.out; omega)
      have hls : lineSz (tl R) ≤ S.size - a := by rw [← HRL.out, ← tl_len]; exact (List.takeWhile_sublist _).length_le
      have HLE : Hid (a + lineSz (tl R) ≤ S.size) := Lib.hid (by omega)
      generalize hn : lineSz (tl R) = n at *
      clear hRQ d1 hls hn
      go_enter Tryz.func62, Tryz.ntmps62
      go_wp2_with fail
      go_quiet (fail)
      have HB1 := Lib.hid (HS1.out nq)
      generalize w.drewN nq = w1 at *
      have HSC1 := Lib.hid (HH.out.below HB1.out)
      have HPS : Hid (∀ w2, Below w1.heap.size w1 w2 → Calls Tryz.prog 87 #[.pointer (some ⟨b, 0, none⟩), .int .i64 (n : Int)] w2 fun e w' => e = .returned (.tuple #[.int .i64 P, .int .i64 X]) ∧ Hid (Below B w2 w' ∧ StS w' B b S a l RQ)) := Lib.hid fun w2 hb2 =>
        HCL.out _ _ _ w2 (by rw [← HRQ.out, HRT.out]) (((HSC1.out.below hb2).pass hS n HLE.out).mono fun e w' h => h.st)
      go_wp2_with (first
        | (go_at_call 86; refine (HIX.out _).mono ?_; rintro e w' ⟨rfl, rfl⟩)
        | (go_at_call 88; refine (HLS.out _ (HEW.out.below HB1.out)).mono ?_; rintro e w2 ⟨rfl, hb2⟩; have HB2 := Lib.hid hb2; clear hb2)
        | (go_at_call 87; refine (HPS.out _ HB2.out).mono ?_; rintro e w3 ⟨rfl, HP⟩))
      go_ret2
      exact StR.of ((HB1.out.mono HH.out.base).trans ((HB2.out.mono HSC1.out.base).trans HP.out.1)) HP.out.2 (by rw [HPX.out.1, HPX.out.2]; rfl)
    · have e1 : ((c.toNat : Int) == 59) = false := u8_ne (k := 59) rfl d1
      rw [if_neg d1] at hRQ
      have hpf := fun w => Tryz.strings_HasPrefix R ⟨#[35, 124]⟩ w
      rw [show Lib.hasPrefix R.data.toList (⟨#[35, 124]⟩ : ByteArray).data.toList = [35, 124].isPrefixOf (tl R) from rfl] at hpf
      rcases hp : [35, 124].isPrefixOf (tl R) with _ | _
      · rw [hp] at hpf hRQ
        rw [if_neg (by simp)] at hRQ
        have HPF := Lib.hid hpf
        by_cases d2 : c = 34
        · have e2 : ((c.toNat : Int) == 34) = true := by rw [d2]; rfl
          rw [if_pos d2] at hRQ
          have HRQ := Lib.hid hRQ
          clear hRQ d1 d2 hp hpf
          go_enter Tryz.func62, Tryz.ntmps62
          go_wp2_with fail
          go_quiet (fail)
          have HB1 := Lib.hid (HS1.out nq)
          generalize w.drewN nq = w1 at *
          have HSC1 := Lib.hid (HH.out.below HB1.out)
          have HQT : Hid (Calls Tryz.prog 91 #[.pointer (some ⟨b, 0, none⟩)] w1 fun e w' => e = .returned (.tuple #[.int .i64 P, .int .i64 X]) ∧ Hid (Below B w1 w' ∧ StS w' B b S a l RQ)) :=
            HCL.out _ _ _ w1 (by rw [← HRQ.out, HRT.out]) (HSC1.out.quoted (HEW.out.below HB1.out) hS ha hl)
          go_wp2_with (first
            | (go_at_call 86; refine (HIX.out _).mono ?_; rintro e w' ⟨rfl, rfl⟩)
            | (go_at_call 89; refine (HPF.out _).mono ?_; rintro e w' ⟨rfl, rfl⟩)
            | (go_at_call 91; refine HQT.out.mono ?_; rintro e w3 ⟨rfl, HP⟩))
          go_ret2
          exact StR.of ((HB1.out.mono HH.out.base).trans HP.out.1) HP.out.2 (by rw [HPX.out.1, HPX.out.2]; rfl)
        · have e2 : ((c.toNat : Int) == 34) = false := u8_ne (k := 34) rfl d2
          rw [if_neg d2] at hRQ
          cases hmk : markT (tl R) with
          | some x =>
            obtain ⟨t, n, tg⟩ := x
            rw [hmk] at hRQ
            have HRQ : Hid (St.tok t n tg = RQ) := hRQ
            have HMK : Hid (∀ w1, Below w.heap.size w w1 → Calls Tryz.prog 92 #[.pointer (some ⟨b, 0, none⟩)] w1 fun e w' => e = .returned (.bool true) ∧ Hid (Below B w1 w' ∧ ∃ v', Scn w' B b S (a + n) v' tg (l ++ [(t, a)]))) := Lib.hid fun w1 hb1 => by
              have h := (HH.out.below hb1).mark (HEW.out.below hb1) hS ha hl
              rw [← HRT.out, hmk] at h
              exact h.mono fun e w' h => ⟨h.2.1, h.1, h.2.2⟩
            clear hRQ d1 d2 hp hpf hmk
            go_enter Tryz.func62, Tryz.ntmps62
            go_wp2_with fail
            go_quiet (fail)
            have HB1 := Lib.hid (HS1.out nq)
            generalize w.drewN nq = w1 at *
            have HSC1 := Lib.hid (HH.out.below HB1.out)
            go_wp2_with (first
              | (go_at_call 86; refine (HIX.out _).mono ?_; rintro e w' ⟨rfl, rfl⟩)
              | (go_at_call 89; refine (HPF.out _).mono ?_; rintro e w' ⟨rfl, rfl⟩)
              | (go_at_call 92; refine (HMK.out _ HB1.out).mono ?_; rintro e w3 ⟨rfl, HP⟩))
            go_ret2
            rw [← HRQ.out]
            exact StR.tok ((HB1.out.mono HH.out.base).trans HP.out.1) rfl HP.out.2
          | none =>
            rw [hmk] at hRQ
            have HMK : Hid (∀ w1, Below w.heap.size w w1 → Calls Tryz.prog 92 #[.pointer (some ⟨b, 0, none⟩)] w1 fun e w' => e = .returned (.bool false) ∧ Below w1.heap.size w1 w') := Lib.hid fun w1 hb1 => by
              have h := (HH.out.below hb1).mark (HEW.out.below hb1) hS ha hl
              rw [← HRT.out, hmk] at h
              exact h.mono fun e w' h => ⟨h.2.1, h.2.2⟩
            cases hlb : labT (tl R) with
            | some x =>
              obtain ⟨t, n, tg⟩ := x
              rw [hlb] at hRQ
              have HRQ : Hid (St.tok t n tg = RQ) := hRQ
              have HLB : Hid (∀ w1, Below w.heap.size w w1 → Calls Tryz.prog 93 #[.pointer (some ⟨b, 0, none⟩)] w1 fun e w' => e = .returned (.bool true) ∧ Hid (Below B w1 w' ∧ ∃ v', Scn w' B b S (a + n) v' tg (l ++ [(t, a)]))) := Lib.hid fun w1 hb1 => by
                have h := (HH.out.below hb1).label (HEW.out.below hb1) hS ha hl
                rw [← HRT.out, hlb] at h
                exact h.mono fun e w' h => ⟨h.2.1, h.1, h.2.2⟩
              clear hRQ d1 d2 hp hpf hmk hlb
              go_enter Tryz.func62, Tryz.ntmps62
              go_wp2_with fail
              go_quiet (fail)
              have HB1 := Lib.hid (HS1.out nq)
              generalize w.drewN nq = w1 at *
              have HSC1 := Lib.hid (HH.out.below HB1.out)
              go_wp2_with (first
                | (go_at_call 86; refine (HIX.out _).mono ?_; rintro e w' ⟨rfl, rfl⟩)
                | (go_at_call 89; refine (HPF.out _).mono ?_; rintro e w' ⟨rfl, rfl⟩)
                | (go_at_call 92; refine (HMK.out _ HB1.out).mono ?_; rintro e w2 ⟨rfl, hb2⟩; have HB2 := Lib.hid (HB1.out.trans (hb2.mono HB1.out.size)); clear hb2)
                | (go_at_call 93; refine (HLB.out _ HB2.out).mono ?_; rintro e w3 ⟨rfl, HP⟩))
              go_ret2
              rw [← HRQ.out]
              exact StR.tok ((HB2.out.mono HH.out.base).trans HP.out.1) rfl HP.out.2
            | none =>
              rw [hlb] at hRQ
              have HRQ : Hid (wrdM (tl R) = RQ) := hRQ
              have HLB : Hid (∀ w1, Below w.heap.size w w1 → Calls Tryz.prog 93 #[.pointer (some ⟨b, 0, none⟩)] w1 fun e w' => e = .returned (.bool false) ∧ Below w1.heap.size w1 w') := Lib.hid fun w1 hb1 => by
                have h := (HH.out.below hb1).label (HEW.out.below hb1) hS ha hl
                rw [← HRT.out, hlb] at h
                exact h.mono fun e w' h => ⟨h.2.1, h.2.2⟩
              have HWD : Hid (∀ w1, Below w.heap.size w w1 → Calls Tryz.prog 94 #[.pointer (some ⟨b, 0, none⟩)] w1 fun e w' => e = .returned (.tuple #[.int .i64 P, .int .i64 X]) ∧ Hid (Below B w1 w' ∧ StS w' B b S a l RQ)) := Lib.hid fun w1 hb1 =>
                HCL.out _ _ _ w1 (by rw [← HRQ.out, HRT.out]) ((HH.out.below hb1).word (HEW.out.below hb1) hS ha hl)
              clear hRQ d1 d2 hp hpf hmk hlb
              go_enter Tryz.func62, Tryz.ntmps62
              go_wp2_with fail
              go_quiet (fail)
              have HB1 := Lib.hid (HS1.out nq)
              generalize w.drewN nq = w1 at *
              have HSC1 := Lib.hid (HH.out.below HB1.out)
              go_wp2_with (first
                | (go_at_call 86; refine (HIX.out _).mono ?_; rintro e w' ⟨rfl, rfl⟩)
                | (go_at_call 89; refine (HPF.out _).mono ?_; rintro e w' ⟨rfl, rfl⟩)
                | (go_at_call 92; refine (HMK.out _ HB1.out).mono ?_; rintro e w2 ⟨rfl, hb2⟩; have HB2 := Lib.hid (HB1.out.trans (hb2.mono HB1.out.size)); clear hb2)
                | (go_at_call 93; refine (HLB.out _ HB2.out).mono ?_; rintro e w3 ⟨rfl, hb3⟩; have HB3 := Lib.hid (HB2.out.trans (hb3.mono HB2.out.size)); clear hb3)
                | (go_at_call 94; refine (HWD.out _ HB3.out).mono ?_; rintro e w4 ⟨rfl, HP⟩))
              go_ret2
              exact StR.of ((HB3.out.mono HH.out.base).trans HP.out.1) HP.out.2 (by rw [HPX.out.1, HPX.out.2]; rfl)
      · rw [hp] at hpf hRQ
        rw [if_pos rfl] at hRQ
        have HRQ := Lib.hid hRQ
        have HPF := Lib.hid hpf
        have HRM := Lib.hid fun w => remarkSize_any R w (by have := HRL.out; omega)
        have hrm : remSz (tl R) ≤ S.size - a := by
          have := rem_le _ (tl R) 0 0 (Nat.le_refl _)
          rw [tl_len, HRL.out] at this
          show remGo _ _ _ ≤ _
          omega
        have HLE : Hid (a + remSz (tl R) ≤ S.size) := Lib.hid (by omega)
        generalize hn : remSz (tl R) = n at *
        clear hRQ d1 hp hpf hrm hn
        go_enter Tryz.func62, Tryz.ntmps62
        go_wp2_with fail
        go_quiet (fail)
        have HB1 := Lib.hid (HS1.out nq)
        generalize w.drewN nq = w1 at *
        have HSC1 := Lib.hid (HH.out.below HB1.out)
        have HPS : Hid (Calls Tryz.prog 87 #[.pointer (some ⟨b, 0, none⟩), .int .i64 (n : Int)] w1 fun e w' => e = .returned (.tuple #[.int .i64 P, .int .i64 X]) ∧ Hid (Below B w1 w' ∧ StS w' B b S a l RQ)) :=
          HCL.out _ _ _ w1 (by rw [← HRQ.out, HRT.out]) ((HSC1.out.pass hS n HLE.out).mono fun e w' h => h.st)
        go_wp2_with (first
          | (go_at_call 86; refine (HIX.out _).mono ?_; rintro e w' ⟨rfl, rfl⟩)
          | (go_at_call 89; refine (HPF.out _).mono ?_; rintro e w' ⟨rfl, rfl⟩)
          | (go_at_call 90; refine (HRM.out _).mono ?_; rintro e w' ⟨rfl, rfl⟩)
          | (go_at_call 87; refine HPS.out.mono ?_; rintro e w3 ⟨rfl, HP⟩))
        go_ret2
        exact StR.of ((HB1.out.mono HH.out.base).trans HP.out.1) HP.out.2 (by rw [HPX.out.1, HPX.out.2]; rfl)
  · rw [hb] at him hRQ
    have HRQ : Hid (passM (tl R) 1 = RQ) := hRQ
    clear hRQ hb
    go_enter Tryz.func62, Tryz.ntmps62
    go_wp2_with fail
    go_quiet (fail)
    have HB1 := Lib.hid (HS1.out nq)
    generalize w.drewN nq = w1 at *
    have HPS := Lib.hid (HCL.out _ _ _ w1 (by rw [← HRQ.out, HRT.out]) (((HH.out.below HB1.out).pass hS 1 (by omega)).mono fun e w' h => h.st))
    go_wp2_with (first
      | (go_at_call 86; refine (HM.out _).mono ?_; rintro e w' ⟨rfl, rfl⟩)
      | (go_at_call 87; refine HPS.out.mono ?_; rintro e w2 ⟨rfl, HP⟩))
    go_ret2
    exact StR.of ((HB1.out.mono HH.out.base).trans HP.out.1) HP.out.2 (by rw [HPX.out.1, HPX.out.2]; rfl)
end
end Go.Proofs.YthjjgpepgbfalaaGreatDoor.Lx
end
section
/-! Scan: the tokens of a text, or its first fault. -/
set_option maxRecDepth 20000
set_option linter.unusedSimpArgs false
set_option linter.unusedVariables false
namespace Go.Proofs.YthjjgpepgbfalaaGreatDoor.Lx
open Go.RowKit

theorem passM_ok {L : List UInt8} {n : Nat} (hn : n ≤ L.length) : (∀ m, passM L n = .pass m → 0 < m ∧ m ≤ L.length) ∧ (∀ x m b, passM L n ≠ .tok x m b) ∧ (∀ i e, passM L n = .err i e → e ≠ 0) := by
  unfold passM
  by_cases h0 : n = 0
  · rw [if_pos h0]
    exact ⟨fun m h => (by cases h), fun x m b h => (by cases h), fun i e h => by cases h; decide⟩
  · rw [if_neg h0]
    cases hiB (L.take n) with
    | none => exact ⟨fun m h => by injection h with h; omega, fun x m b h => (by cases h), fun i e h => (by cases h)⟩
    | some j => exact ⟨fun m h => (by cases h), fun x m b h => (by cases h), fun i e h => by cases h; decide⟩
theorem wordM_nil : (wordM []).2 = 4 := by decide
/-- A step of the scan takes no byte more than there are, and one at least. -/
theorem step_pos {L : List UInt8} (hL : L ≠ []) : (∀ n, stepM L = .pass n → 0 < n ∧ n ≤ L.length) ∧ (∀ x n b, stepM L = .tok x n b → 0 < n ∧ n ≤ L.length) ∧ (∀ i e, stepM L = .err i e → e ≠ 0) := by
  have hpos : 0 < L.length := List.length_pos_iff.2 hL
  have key : ∀ n, n ≤ L.length → ∀ st, st = passM L n → (∀ m, st = .pass m → 0 < m ∧ m ≤ L.length) ∧ (∀ x m b, st = .tok x m b → 0 < m ∧ m ≤ L.length) ∧ (∀ i e, st = .err i e → e ≠ 0) := fun n hn st hst => by
    obtain ⟨h1, h2, h3⟩ := passM_ok (L := L) hn
    rw [hst]
    exact ⟨h1, fun x m b h => absurd h (h2 x m b), h3⟩
  cases hq : L with
  | nil => exact absurd hq hL
  | cons c t =>
    rw [← hq]
    have hst : stepM L = (if isBlank c then passM L 1
      else if c = 59 then passM L (lineSz L)
      else if [35, 124].isPrefixOf L then passM L (remSz L)
      else if c = 34 then quotM L
      else match markO L with
      | some k => .tok ⟨k, 0, []⟩ (mks.getD k []).length false
      | none => match labO L with
        | some (k, n, z) => .tok ⟨k, n, []⟩ z (decide (k = 16))
        | none => wrdM L) := by rw [hq]; rfl
    rw [hst]
    split
    · exact key 1 hpos _ rfl
    · split
      · exact key _ ((List.takeWhile_sublist _).length_le) _ rfl
      · split
        · exact key _ (by have := rem_le _ L 0 0 (Nat.le_refl _); show remGo _ _ _ ≤ _; omega) _ rfl
        · split
          · unfold quotM
            by_cases hz : qsz L = 0
            · rw [if_pos hz]
              exact ⟨fun m h => (by cases h), fun x m b h => (by cases h), fun i e h => by cases h; decide⟩
            · rw [if_neg hz]
              obtain ⟨s1, s2, s3⟩ := qsz_spec hz hL
              cases unq (qsz L) ((L.take (qsz L - 1)).drop 1) 0 with
              | error j => exact ⟨fun m h => (by cases h), fun x m b h => (by cases h), fun i e h => by cases h; decide⟩
              | ok l => exact ⟨fun m h => (by cases h), fun x m b h => by injection h with h1 h2 h3; omega, fun i e h => (by cases h)⟩
          · cases hm : markO L with
            | some k =>
              have hk : k < 9 ∧ (mks.getD k []).isPrefixOf L = true := by
                have go : ∀ m, m ≤ 9 → markGo L m = some k → k < 9 ∧ (mks.getD k []).isPrefixOf L = true := by
                  intro m
                  induction m with
                  | zero => intro _ h; cases h
                  | succ m ih =>
                    intro hm9 h
                    have h2 : (if (mks.getD m []).isPrefixOf L then some m else markGo L m) = some k := h
                    split at h2
                    · rename_i hp
                      injection h2 with h2
                      subst h2
                      exact ⟨by omega, hp⟩
                    · exact ih (by omega) h2
                exact go 9 (Nat.le_refl _) hm
              have h1 := mk_len k hk.1
              have h2 := pre_len hk.2
              exact ⟨fun m h => (by cases h), fun x m b h => by injection h with e1 e2 e3; omega, fun i e h => (by cases h)⟩
            | none =>
              cases hl : labO L with
              | some x =>
                obtain ⟨k, n, z⟩ := x
                have hz : 0 < z ∧ z ≤ L.length := by
                  unfold labO at hl
                  by_cases hp : [35].isPrefixOf L = true
                  · rw [if_pos hp] at hl
                    dsimp only at hl
                    have hle := (List.takeWhile_sublist (l := L.drop 1) isDig).length_le
                    have hld : (L.drop 1).length = L.length - 1 := by simp
                    generalize (L.drop 1).takeWhile isDig = D at hl hle
                    by_cases hb : D.length < 1 ∨ 3 < D.length ∨ D.length = (L.drop 1).length
                    · rw [if_pos hb] at hl; cases hl
                    · rw [if_neg hb] at hl
                      split at hl
                      · injection hl with hl; injection hl with h1 h2; injection h2 with h2 h3; omega
                      · split at hl
                        · injection hl with hl; injection hl with h1 h2; injection h2 with h2 h3; omega
                        · cases hl
                  · rw [if_neg hp] at hl; cases hl
                exact ⟨fun m h => (by cases h), fun x m b h => by injection h with e1 e2 e3; omega, fun i e h => (by cases h)⟩
              | none =>
                show (∀ m, wrdM L = .pass m → _) ∧ (∀ x m b, wrdM L = .tok x m b → _) ∧ (∀ i e, wrdM L = .err i e → _)
                unfold wrdM
                by_cases hw : (wordM (L.take (wsz L))).2 ≠ 0
                · rw [if_pos hw]
                  exact ⟨fun m h => (by cases h), fun x m b h => (by cases h), fun i e h => by injection h with h1 h2; rw [← h2]; exact hw⟩
                · rw [if_neg hw]
                  have hne : L.take (wsz L) ≠ [] := fun e => hw (by rw [e, wordM_nil]; decide)
                  have hl0 : 0 < (L.take (wsz L)).length := List.length_pos_iff.2 hne
                  have hl1 : (L.take (wsz L)).length ≤ L.length := by rw [List.length_take]; omega
                  cases hiB (L.take (wsz L)) with
                  | some j => exact ⟨fun m h => (by cases h), fun x m b h => (by cases h), fun i e h => by cases h; decide⟩
                  | none => exact ⟨fun m h => (by cases h), fun x m b h => by injection h with e1 e2 e3; omega, fun i e h => (by cases h)⟩
/-- What comes behind a step. -/
def scanS (L : List UInt8) (g a : Nat) (l : List (Tk × Nat)) (ap : Bool) : St → (Option (List (Tk × Nat))) × Nat × Int
  | .err i e => if ap = false ∧ 0 < i then (none, a, 4) else (none, a + i, e)
  | .pass n => if ap = false then (none, a, 4) else scanM L g (a + n) false l
  | .tok t n b => if ap = false then (none, a, 4) else scanM L g (a + n) b (l ++ [(t, a)])
section
variable (L : List UInt8) (g a n i : Nat) (l : List (Tk × Nat)) (t : Tk) (b : Bool) (x : Int)
theorem s_err : scanS L g a l true (.err i x) = (none, a + i, x) := rfl
theorem s_pass : scanS L g a l true (.pass n) = scanM L g (a + n) false l := rfl
theorem s_tok : scanS L g a l true (.tok t n b) = scanM L g (a + n) b (l ++ [(t, a)]) := rfl
theorem s_pass0 : scanS L g a l false (.pass n) = (none, a, 4) := rfl
theorem s_tok0 : scanS L g a l false (.tok t n b) = (none, a, 4) := rfl
theorem s_err1 (h : 0 < i) : scanS L g a l false (.err i x) = (none, a, 4) := if_pos ⟨rfl, h⟩
theorem s_err2 (h : ¬ 0 < i) : scanS L g a l false (.err i x) = (none, a + i, x) := if_neg (fun e => h e.2)
end
theorem scanM_succ (L : List UInt8) (g a : Nat) (tight : Bool) (l : List (Tk × Nat)) (h : a < L.length) : scanM L (g + 1) a tight l = scanS L g a l (!tight || parts (L.getD a 0)) (stepM (L.drop a)) := by
  conv => lhs; rw [scanM]
  rw [if_neg (by omega)]
  cases stepM (L.drop a) <;> rfl
/-- What Scan tells. -/
def ScR (w w' : World) (r : (Option (List (Tk × Nat))) × Nat × Int) (e : Ending) : Prop :=
  Below w.heap.size w w' ∧ match r with
  | (some l, n, _) => ∃ v, e = .returned (.tuple #[v, .int .i64 (n : Int), .int .i64 0]) ∧ w'.ownsRow w.heap.size 71 4 v l.length (tkL l)
  | (none, n, x) => e = .returned (.tuple #[.slice none 0 0, .int .i64 (n : Int), .int .i64 x])
theorem ScR.no {w w' : World} {n : Nat} {x : Int} {e : Ending} (hb : Below w.heap.size w w') (h : e = .returned (.tuple #[.slice none 0 0, .int .i64 (n : Int), .int .i64 x])) : ScR w w' (none, n, x) e := ⟨hb, h⟩
/-- All of a text. -/
def scanT (L : List UInt8) : (Option (List (Tk × Nat))) × Nat × Int := if 4096 < L.length then (none, 0, 2) else scanM L (L.length + 1) 0 false []
set_option maxHeartbeats 3200000 in
theorem scan_any (S : ByteArray) (w : World) (hE : Env w) (hS : S.size ≤ 9223372036854775807) :
    Calls Tryz.prog 41 #[.string S] w fun e w' => ScR w w' (scanT (tl S)) e := by
  have hll := tl_len S
  unfold scanT
  by_cases h4 : 4096 < S.size
  · rw [if_pos (by rw [hll]; exact h4)]
    have hd : decide ((4096 : Int) < (S.size : Int)) = true := decide_eq_true (by omega)
    clear hll
    go_enter Tryz.func41, Tryz.ntmps41
    go_wp2_with fail
    go_ret3
    exact ⟨Below.refl _ _, rfl⟩
  · rw [if_neg (by rw [hll]; exact h4)]
    have hd : decide ((4096 : Int) < (S.size : Int)) = false := decide_eq_false (by omega)
    have hd2 : decide (4096 < S.size) = false := decide_eq_false h4
    have hS5 : S.size ≤ 5000 := by omega
    obtain ⟨RQ, hRQ⟩ : ∃ RQ, scanM (tl S) ((tl S).length + 1) 0 false [] = RQ := ⟨_, rfl⟩
    rw [hRQ]
    rw [hll] at hRQ
    have HL := Lib.hid hll
    have HEW := Lib.hid hE
    have HRQ := Lib.hid hRQ
    clear hE hRQ hll
    go_enter Tryz.func41, Tryz.ntmps41
    go_upto_region 4 with fail
    have HSC0 : Hid (Scn (w.alloc (.cells #[.string S, .int .i64 0, .slice none 0 0, .bool false] 136)) w.heap.size w.heap.size S 0 (.slice none 0 0) false []) := Lib.hid ⟨Nat.le_refl _, heap_alloc_new _ _, World.ownsRow_nil _ _ _ _⟩
    have HB0 := Lib.hid (alloc_below w (.cells #[.string S, .int .i64 0, .slice none 0 0, .bool false] 136))
    generalize w.alloc (.cells #[.string S, .int .i64 0, .slice none 0 0, .bool false] 136) = W0 at *
    go_loopw [] (fun wr => Hid (∃ (a : Nat) (v : Value) (tight : Bool) (l : List (Tk × Nat)) (g : Nat), Scn wr w.heap.size w.heap.size S a v tight l ∧ a ≤ S.size ∧ l.length ≤ a ∧ Below w.heap.size w wr ∧ S.size - a < g ∧ scanM (tl S) g a tight l = RQ)) (fun wr => S.size - (RowKit.intOf ((wr.cell? ⟨w.heap.size, 1, none⟩).getD undef)).toNat)
    case atStart => exact Lib.hid ⟨0, _, false, [], S.size + 1, HSC0.out, by omega, by simp, HB0.out, by omega, HRQ.out⟩
    case round =>
      obtain ⟨a, v, tight, l, g, hs, ha, hl, hb, hg, hq⟩ := hrel.out
      obtain ⟨⟨c0, c1, c2, c3⟩, fz⟩ := hs.cells
      have HR : Hid (Scn wr w.heap.size w.heap.size S a v tight l ∧ a ≤ S.size ∧ l.length ≤ a ∧ Below w.heap.size w wr) := Lib.hid ⟨hs, ha, hl, hb⟩
      clear hrel fz hl hb
      have haI : (a : Int) ≤ (S.size : Int) := by omega
      by_cases hlt : a < S.size
      · cases g with
        | zero => omega
        | succ g =>
          obtain ⟨st, hst⟩ : ∃ st, stepM ((tl S).drop a) = st := ⟨_, rfl⟩
          obtain ⟨ap, hap⟩ : ∃ ap, (!tight || parts ((tl S).getD a 0)) = ap := ⟨_, rfl⟩
          have hun : RQ = scanS (tl S) g a l ap st := by
            rw [← hq, ← hst, ← hap, scanM_succ _ _ _ _ _ (by rw [HL.out]; exact hlt)]
          have hne : (tl S).drop a ≠ [] := fun e => by
            have := congrArg List.length e
            rw [List.length_drop, HL.out] at this
            simp at this; omega
          obtain ⟨sp1, sp2, sp3⟩ := step_pos hne
          rw [hst] at sp1 sp2 sp3
          have hdl : ((tl S).drop a).length = S.size - a := by rw [List.length_drop, HL.out]
          rw [hdl] at sp1 sp2
          have HAP : Hid (∀ n, Calls Tryz.prog 61 #[.pointer (some ⟨w.heap.size, 0, none⟩)] (wr.drewN n) fun e w' => e = .returned (.bool ap) ∧ ∃ m, w' = (wr.drewN n).drewN m) := Lib.hid fun n => by
            have h := (HR.out.1.below (below_drewN (Below.refl _ _) n)).apart hlt
            rw [hap] at h
            exact h
          have HNX : Hid (∀ w1, Below wr.heap.size wr w1 → Calls Tryz.prog 62 #[.pointer (some ⟨w.heap.size, 0, none⟩)] w1 fun e w' => e = .returned (.tuple #[.int .i64 (stP a st), .int .i64 (stX st)]) ∧ Hid (Below w.heap.size w1 w' ∧ StS w' w.heap.size w.heap.size S a l st)) := Lib.hid fun w1 hb1 => by
            have h := (HR.out.1.below hb1).next (HEW.out.below (HR.out.2.2.2.trans (hb1.mono HR.out.2.2.2.size))) hS5 hlt HR.out.2.2.1
            rw [hst] at h
            exact h.mono fun e w' h => h.out
          clear hq hst hap hne hs hdl
          have hltI : (a : Int) < (S.size : Int) := by omega
          cases st with
          | err i x =>
            have hx := sp3 i x rfl
            have hx2 : (x == 0) = false := beq_false_of_ne hx
            have hx3 : (x != 0) = true := bne_iff_ne.2 hx
            have HNX2 : Hid (∀ w1, Below wr.heap.size wr w1 → Calls Tryz.prog 62 #[.pointer (some ⟨w.heap.size, 0, none⟩)] w1 fun e w' => e = .returned (.tuple #[.int .i64 ((a : Int) + (i : Int)), .int .i64 x]) ∧ Hid (Below w.heap.size w1 w')) := Lib.hid fun w1 hb1 => by
              refine (HNX.out w1 hb1).mono ?_
              rintro e w' ⟨rfl, h⟩
              exact ⟨by show Ending.returned (.tuple #[.int .i64 ((a + i : Nat) : Int), .int .i64 x]) = _; rw [Int.natCast_add], Lib.hid h.out.1⟩
            clear sp1 sp2 sp3 hx HNX
            cases ap with
            | true =>
              have HV : Hid ((none, a + i, x) = RQ) := by unfold Hid; rw [hun, s_err]
              clear hun
              go_wp2_with fail
              go_quiet ((go_at_call 61; exact Calls.quiet_of (HAP.out _)))
              have HB1 : Hid (Below wr.heap.size wr (wr.drewN nq)) := Lib.hid (below_drewN (Below.refl _ _) nq)
              generalize wr.drewN nq = w1 at *
              go_wp2_with (go_at_call 62; refine (HNX2.out _ HB1.out).mono ?_; rintro e w2 ⟨rfl, HP⟩)
              go_ret3
              rw [← HV.out]
              exact ScR.no (HR.out.2.2.2.trans ((HB1.out.mono HR.out.2.2.2.size).trans HP.out)) (by rw [Int.natCast_add]; rfl)
            | false =>
              by_cases hi : 0 < i
              · have HV : Hid ((none, a, 4) = RQ) := by unfold Hid; rw [hun, s_err1 _ _ _ _ _ _ hi]
                have hd3 : decide ((a : Int) < (a : Int) + (i : Int)) = true := decide_eq_true (by omega)
                clear hun hi
                go_wp2_with fail
                go_quiet ((go_at_call 61; exact Calls.quiet_of (HAP.out _)))
                have HB1 : Hid (Below wr.heap.size wr (wr.drewN nq)) := Lib.hid (below_drewN (Below.refl _ _) nq)
                generalize wr.drewN nq = w1 at *
                go_wp2_with (go_at_call 62; refine (HNX2.out _ HB1.out).mono ?_; rintro e w2 ⟨rfl, HP⟩)
                go_ret3
                rw [← HV.out]
                exact ScR.no (HR.out.2.2.2.trans ((HB1.out.mono HR.out.2.2.2.size).trans HP.out)) rfl
              · have HV : Hid ((none, a + i, x) = RQ) := by unfold Hid; rw [hun, s_err2 _ _ _ _ _ _ hi]
                have hd3 : decide ((a : Int) < (a : Int) + (i : Int)) = false := decide_eq_false (by omega)
                have hd4 : ¬ ((a : Int) < (a : Int) + (i : Int)) := by omega
                clear hun hi
                go_wp2_with fail
                go_quiet ((go_at_call 61; exact Calls.quiet_of (HAP.out _)))
                have HB1 : Hid (Below wr.heap.size wr (wr.drewN nq)) := Lib.hid (below_drewN (Below.refl _ _) nq)
                generalize wr.drewN nq = w1 at *
                go_wp2_with (go_at_call 62; refine (HNX2.out _ HB1.out).mono ?_; rintro e w2 ⟨rfl, HP⟩)
                go_ret3
                rw [← HV.out]
                exact ScR.no (HR.out.2.2.2.trans ((HB1.out.mono HR.out.2.2.2.size).trans HP.out)) (by rw [Int.natCast_add]; rfl)
          | pass n =>
            obtain ⟨hn0, hnS⟩ := sp1 n rfl
            have HNX2 : Hid (∀ w1, Below wr.heap.size wr w1 → Calls Tryz.prog 62 #[.pointer (some ⟨w.heap.size, 0, none⟩)] w1 fun e w' => e = .returned (.tuple #[.int .i64 0, .int .i64 0]) ∧ Hid (Below w.heap.size w1 w' ∧ ∃ v', Scn w' w.heap.size w.heap.size S (a + n) v' false l)) := Lib.hid fun w1 hb1 => by
              refine (HNX.out w1 hb1).mono ?_
              rintro e w' ⟨rfl, h⟩
              exact ⟨rfl, h⟩
            have HNS : Hid (0 < n ∧ a + n ≤ S.size) := Lib.hid ⟨hn0, by omega⟩
            clear sp1 sp2 sp3 hn0 hnS HNX
            cases ap with
            | true =>
              have HV : Hid (scanM (tl S) g (a + n) false l = RQ) := by unfold Hid; first | rw [hun, s_pass] | rw [hun, s_tok]
              clear hun
              go_wp2_with fail
              go_quiet ((go_at_call 61; exact Calls.quiet_of (HAP.out _)))
              have HB1 : Hid (Below wr.heap.size wr (wr.drewN nq)) := Lib.hid (below_drewN (Below.refl _ _) nq)
              generalize wr.drewN nq = w1 at *
              go_wp2_with (go_at_call 62; refine (HNX2.out _ HB1.out).mono ?_; rintro e w2 ⟨rfl, HP⟩)
              have HQ : Hid (∃ v', Scn w2 w.heap.size w.heap.size S (a + n) v' false l) := HP.out.2
              have hcell : w2.cell? ⟨w.heap.size, 1, none⟩ = some (.int .i64 ((a + n : Nat) : Int)) := by
                obtain ⟨v', h'⟩ := HQ.out
                exact h'.cells.1.2.1
              go_roundw
              case rel =>
                obtain ⟨v', h'⟩ := HQ.out
                exact Lib.hid ⟨a + n, v', false, l, g, h', HNS.out.2, by have := HR.out.2.2.1; have := HNS.out.1; simp; omega, HR.out.2.2.2.trans ((HB1.out.mono HR.out.2.2.2.size).trans HP.out.1), by have := HNS.out.1; omega, HV.out⟩
              case measure =>
                have := HNS.out
                rw [hcell, c1]
                simp [RowKit.intOf]
                omega
            | false =>
              have HV : Hid ((none, a, 4) = RQ) := by unfold Hid; first | rw [hun, s_pass0] | rw [hun, s_tok0]
              clear hun
              go_wp2_with fail
              go_quiet ((go_at_call 61; exact Calls.quiet_of (HAP.out _)))
              have HB1 : Hid (Below wr.heap.size wr (wr.drewN nq)) := Lib.hid (below_drewN (Below.refl _ _) nq)
              generalize wr.drewN nq = w1 at *
              go_wp2_with (go_at_call 62; refine (HNX2.out _ HB1.out).mono ?_; rintro e w2 ⟨rfl, HP⟩)
              go_ret3
              rw [← HV.out]
              exact ScR.no (HR.out.2.2.2.trans ((HB1.out.mono HR.out.2.2.2.size).trans HP.out.1)) rfl
          | tok t n b =>
            obtain ⟨hn0, hnS⟩ := sp2 t n b rfl
            have HNX2 : Hid (∀ w1, Below wr.heap.size wr w1 → Calls Tryz.prog 62 #[.pointer (some ⟨w.heap.size, 0, none⟩)] w1 fun e w' => e = .returned (.tuple #[.int .i64 0, .int .i64 0]) ∧ Hid (Below w.heap.size w1 w' ∧ ∃ v', Scn w' w.heap.size w.heap.size S (a + n) v' b (l ++ [(t, a)]))) := Lib.hid fun w1 hb1 => by
              refine (HNX.out w1 hb1).mono ?_
              rintro e w' ⟨rfl, h⟩
              exact ⟨rfl, h⟩
            have HNS : Hid (0 < n ∧ a + n ≤ S.size) := Lib.hid ⟨hn0, by omega⟩
            clear sp1 sp2 sp3 hn0 hnS HNX
            cases ap with
            | true =>
              have HV : Hid (scanM (tl S) g (a + n) b (l ++ [(t, a)]) = RQ) := by unfold Hid; first | rw [hun, s_pass] | rw [hun, s_tok]
              clear hun
              go_wp2_with fail
              go_quiet ((go_at_call 61; exact Calls.quiet_of (HAP.out _)))
              have HB1 : Hid (Below wr.heap.size wr (wr.drewN nq)) := Lib.hid (below_drewN (Below.refl _ _) nq)
              generalize wr.drewN nq = w1 at *
              go_wp2_with (go_at_call 62; refine (HNX2.out _ HB1.out).mono ?_; rintro e w2 ⟨rfl, HP⟩)
              have HQ : Hid (∃ v', Scn w2 w.heap.size w.heap.size S (a + n) v' b (l ++ [(t, a)])) := HP.out.2
              have hcell : w2.cell? ⟨w.heap.size, 1, none⟩ = some (.int .i64 ((a + n : Nat) : Int)) := by
                obtain ⟨v', h'⟩ := HQ.out
                exact h'.cells.1.2.1
              go_roundw
              case rel =>
                obtain ⟨v', h'⟩ := HQ.out
                exact Lib.hid ⟨a + n, v', b, (l ++ [(t, a)]), g, h', HNS.out.2, by have := HR.out.2.2.1; have := HNS.out.1; simp; omega, HR.out.2.2.2.trans ((HB1.out.mono HR.out.2.2.2.size).trans HP.out.1), by have := HNS.out.1; omega, HV.out⟩
              case measure =>
                have := HNS.out
                rw [hcell, c1]
                simp [RowKit.intOf]
                omega
            | false =>
              have HV : Hid ((none, a, 4) = RQ) := by unfold Hid; first | rw [hun, s_pass0] | rw [hun, s_tok0]
              clear hun
              go_wp2_with fail
              go_quiet ((go_at_call 61; exact Calls.quiet_of (HAP.out _)))
              have HB1 : Hid (Below wr.heap.size wr (wr.drewN nq)) := Lib.hid (below_drewN (Below.refl _ _) nq)
              generalize wr.drewN nq = w1 at *
              go_wp2_with (go_at_call 62; refine (HNX2.out _ HB1.out).mono ?_; rintro e w2 ⟨rfl, HP⟩)
              go_ret3
              rw [← HV.out]
              exact ScR.no (HR.out.2.2.2.trans ((HB1.out.mono HR.out.2.2.2.size).trans HP.out.1)) rfl
      · have hae : a = S.size := by omega
        subst hae
        have HV : Hid ((some l, S.size, 0) = RQ) := by
          rw [← hq]
          cases g with
          | zero => rfl
          | succ g => unfold Hid; rw [scanM, if_pos (by rw [HL.out]; exact Nat.le_refl _)]
        obtain ⟨qa, m, cq, hvs⟩ : ∃ q m cq, v = .slice q m cq := by
          rcases HR.out.1.own.2 with ⟨hv, _⟩ | ⟨g, cap, cur, hv, _⟩
          · exact ⟨_, _, _, hv⟩
          · exact ⟨_, _, _, hv⟩
        subst hvs
        clear hq hs hg hlt
        go_wp2_with fail
        go_ret3
        rw [← HV.out]
        exact ⟨HR.out.2.2.2, _, rfl, HR.out.1.own⟩
end Go.Proofs.YthjjgpepgbfalaaGreatDoor.Lx
end
