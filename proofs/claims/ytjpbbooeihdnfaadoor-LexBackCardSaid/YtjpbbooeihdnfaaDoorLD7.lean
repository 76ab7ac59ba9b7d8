/- The scanner takes a label. -/
import Derived.Test.YtjpbbooeihdnfaaDoorLD6
import Derived.Shelf.Strings.SlTrimAscii
set_option maxRecDepth 20000
set_option linter.unusedSimpArgs false
set_option linter.unusedVariables false
namespace Go.Proofs.YtjpbbooeihdnfaaDoor
open Go.RowKit

def digS : List UInt8 := [48, 49, 50, 51, 52, 53, 54, 55, 56, 57]
theorem dig_all : ∀ n, n < 256 → digS.contains (UInt8.ofNat n) = isDig (UInt8.ofNat n) := by decide +kernel
theorem dig_mem (c : UInt8) : digS.contains c = isDig c := by
  have := dig_all c.toNat c.toNat_lt
  rwa [UInt8.ofNat_toNat] at this
theorem drop_tw {p q : UInt8 → Bool} (h : ∀ c, p c = q c) : ∀ l : List UInt8, l.length - (l.dropWhile p).length = (l.takeWhile q).length
  | [] => rfl
  | c :: t => by
    rw [List.dropWhile_cons, List.takeWhile_cons, h c]
    rcases hq : q c with _ | _
    · simp
    · simp only [if_true, List.length_cons]
      have := drop_tw h t
      have h2 := (List.dropWhile_sublist (l := t) p).length_le
      omega
theorem tw_take (q : UInt8 → Bool) (l : List UInt8) : l.take (l.takeWhile q).length = l.takeWhile q := (List.prefix_iff_eq_take.1 (List.takeWhile_prefix (l := l) q)).symm
theorem trim_dig (X : ByteArray) (w : World) : Calls Tryd.prog 36 #[.string X, .string ⟨#[48, 49, 50, 51, 52, 53, 54, 55, 56, 57]⟩] w fun e w' => e = .returned (.string ⟨((tl X).dropWhile (digS.contains ·)).toArray⟩) ∧ Below w.heap.size w w' := by
  obtain ⟨hz, hi⟩ := zero_of_info (P := Tryd.prog) (t := 79) (v := .agg (Array.replicate 256 (.bool false))) (n := 256) (by kernel_rfl)
  have h := Any.strings_TrimLeft_ascii Tryd.lays161 hz hi X ⟨#[48, 49, 50, 51, 52, 53, 54, 55, 56, 57]⟩ w (by decide) (fun j b hj => by
    have h : b ∈ [(48 : UInt8), 49, 50, 51, 52, 53, 54, 55, 56, 57] := List.mem_of_getElem? hj
    clear hj
    revert b
    decide)
  exact h
def labT (L : List UInt8) : Option (Tk × Nat × Bool) := (labO L).map fun x => (⟨x.1, x.2.1, []⟩, x.2.2, decide (x.1 = 16))
section
variable {w w' : World} {B b a : Nat} {S : ByteArray} {v : Value} {tight : Bool} {l : List (Tk × Nat)}
set_option maxHeartbeats 3200000 in
theorem Scn.label (h : Scn w B b S a v tight l) (hE : Env w) (hS : S.size ≤ 5000) (ha : a < S.size) (hl : l.length ≤ a) :
    Calls Tryd.prog 21 #[.pointer (some ⟨b, 0, none⟩)] w fun e w' => MkR w w' B b S a v tight l (labT ((tl S).drop a)) e := by
  have HH := Lib.hid h
  obtain ⟨R, hR⟩ : ∃ R, S.extract a S.size = R := ⟨_, rfl⟩
  have hRt : tl R = (tl S).drop a := by rw [← hR, tl_from]
  have hRl : (tl R).length = S.size - a := by rw [hRt, List.length_drop, tl_len]
  rw [← hRt]
  obtain ⟨RQ, hRQ⟩ : ∃ RQ, labT (tl R) = RQ := ⟨_, rfl⟩
  rw [hRQ]
  unfold labT labO at hRQ
  have haI : (a : Int) < (S.size : Int) := by omega
  have hSI : (S.size : Int) ≤ 5000 := by omega
  have hcp := fun w => Tryd.strings_CutPrefix R ⟨#[35]⟩ w
  rw [show Lib.hasPrefix R.data.toList (⟨#[35]⟩ : ByteArray).data.toList = [35].isPrefixOf (tl R) from rfl] at hcp
  -- what is left behind the mark
  obtain ⟨ok, hok⟩ : ∃ ok, [35].isPrefixOf (tl R) = ok := ⟨_, rfl⟩
  obtain ⟨X, hX⟩ : ∃ X : ByteArray, X = ⟨(Lib.trimPrefix R.data.toList (⟨#[35]⟩ : ByteArray).data.toList).toArray⟩ := ⟨_, rfl⟩
  have hXt : tl X = if ok then (tl R).drop 1 else tl R := by
    rw [hX, ← hok]; rfl
  have hXl : X.size ≤ S.size - a := by
    rw [← tl_len, hXt, ← hRl]; split
    · simp
    · exact Nat.le_refl _
  rw [← hX, hok] at hcp
  have HCP := Lib.hid hcp
  have HTR := Lib.hid (trim_dig X)
  obtain ⟨D, hD⟩ : ∃ D, (tl X).takeWhile isDig = D := ⟨_, rfl⟩
  obtain ⟨Y, hY⟩ : ∃ Y : ByteArray, Y = ⟨((tl X).dropWhile (digS.contains ·)).toArray⟩ := ⟨_, rfl⟩
  rw [← hY] at HTR
  have hDX : D.length ≤ X.size := by rw [← hD, ← tl_len]; exact (List.takeWhile_sublist _).length_le
  have hYl : Y.size + D.length = X.size := by
    have h1 := drop_tw (p := (digS.contains ·)) (q := isDig) dig_mem (tl X)
    rw [hD, tl_len] at h1
    have h2 : Y.size = ((tl X).dropWhile (digS.contains ·)).length := by rw [hY]; rfl
    have h3 := (List.dropWhile_sublist (l := tl X) (digS.contains ·)).length_le
    rw [tl_len] at h3
    omega
  have hdif : (X.size : Int) - (Y.size : Int) = (D.length : Int) := by omega
  obtain ⟨N, hN⟩ : ∃ N, X.extract 0 D.length = N := ⟨_, rfl⟩
  have hNt : tl N = D := by rw [← hN, tl_to, ← hD]; exact tw_take _ _
  have hNl : N.size = D.length := by rw [← tl_len, hNt]
  have hNI : (N.size : Int) = (D.length : Int) := by rw [hNl]
  have hDI : (D.length : Int) ≤ (X.size : Int) := by omega
  have hXI : (X.size : Int) ≤ 5000 := by omega
  have HNH : Hid (tl N = D ∧ N.size = D.length) := Lib.hid ⟨hNt, hNl⟩
  obtain ⟨d, hd⟩ : ∃ d, D.length = d := ⟨_, rfl⟩
  rw [hd] at hdif hNI hDI hN hDX
  have HEWx := Lib.hid hE
  clear h hE hRt hcp hX hY hNt hNl hYl
  cases ok with
  | false =>
    rw [hok] at hRQ
    have HRQ : Hid (none = RQ) := hRQ
    obtain ⟨⟨c0, c1, c2, c3⟩, fz⟩ := HH.out.cells
    clear hRQ hok hD hXt fz hRl hXl hd
    go_enter Tryd.func21, Tryd.ntmps21
    go_wp2_with fail
    go_quiet ((go_at_call 35; exact Calls.quiet_of_same (HCP.out _)))
    have HB1 : Hid (Below w.heap.size w (w.drewN nq)) := Lib.hid (below_drewN (Below.refl _ _) nq)
    generalize w.drewN nq = w1 at *
    go_wp2_with (go_at_call 36; refine (HTR.out _).mono ?_; rintro e w2 ⟨rfl, hb2⟩; have HB2 := Lib.hid (HB1.out.trans (hb2.mono HB1.out.size)); clear hb2)
    go_ret
    rw [← HRQ.out]
    exact ⟨HB2.out.mono HH.out.base, rfl, HB2.out⟩
  | true =>
    rw [hok, if_pos rfl] at hRQ
    have hXt2 : (tl R).drop 1 = tl X := by rw [hXt]; rfl
    rw [hXt2] at hRQ
    dsimp only at hRQ
    rw [hD, hd, tl_len] at hRQ
    obtain ⟨⟨c0, c1, c2, c3⟩, fz⟩ := HH.out.cells
    have HDD := Lib.hid hd
    have HXL : Hid (X.size = S.size - a - 1) := by
      unfold Hid
      rw [← tl_len, ← hXt2, List.length_drop, hRl]
    clear hXt hXt2 hok hD fz hXl hRl hd
    by_cases k1 : d < 1
    · rw [if_pos (.inl k1)] at hRQ
      have HRQ : Hid (none = RQ) := hRQ
      have e1 : decide ((d : Int) < 1) = true := decide_eq_true (by omega)
      clear hRQ k1
      go_enter Tryd.func21, Tryd.ntmps21
      go_wp2_with fail
      go_quiet ((go_at_call 35; exact Calls.quiet_of_same (HCP.out _)))
      have HB1 : Hid (Below w.heap.size w (w.drewN nq)) := Lib.hid (below_drewN (Below.refl _ _) nq)
      generalize w.drewN nq = w1 at *
      go_wp2_with (first
        | (go_at_call 36; refine (HTR.out _).mono ?_; rintro e w2 ⟨rfl, hb2⟩; have HB2 := Lib.hid (HB1.out.trans (hb2.mono HB1.out.size)); clear hb2)
        | (go_at_call 37; refine (HPA.out _).mono ?_; rintro e w3 ⟨rfl, hb3⟩; have HB3 := Lib.hid (HB2.out.trans (hb3.mono HB2.out.size)); clear hb3))
      go_ret
      rw [← HRQ.out]
      exact ⟨HB2.out.mono HH.out.base, rfl, HB2.out⟩
    · have e1 : decide ((d : Int) < 1) = false := decide_eq_false (by omega)
      have e1b : decide (d < 1) = false := decide_eq_false k1
      by_cases k2 : 3 < d
      · rw [if_pos (.inr (.inl k2))] at hRQ
        have HRQ : Hid (none = RQ) := hRQ
        have e2 : decide ((3 : Int) < (d : Int)) = true := decide_eq_true (by omega)
        clear hRQ k1 k2
        go_enter Tryd.func21, Tryd.ntmps21
        go_wp2_with fail
        go_quiet ((go_at_call 35; exact Calls.quiet_of_same (HCP.out _)))
        have HB1 : Hid (Below w.heap.size w (w.drewN nq)) := Lib.hid (below_drewN (Below.refl _ _) nq)
        generalize w.drewN nq = w1 at *
        go_wp2_with (first
          | (go_at_call 36; refine (HTR.out _).mono ?_; rintro e w2 ⟨rfl, hb2⟩; have HB2 := Lib.hid (HB1.out.trans (hb2.mono HB1.out.size)); clear hb2)
          | (go_at_call 37; refine (HPA.out _).mono ?_; rintro e w3 ⟨rfl, hb3⟩; have HB3 := Lib.hid (HB2.out.trans (hb3.mono HB2.out.size)); clear hb3))
        go_ret
        rw [← HRQ.out]
        exact ⟨HB2.out.mono HH.out.base, rfl, HB2.out⟩
      · have e2 : decide ((3 : Int) < (d : Int)) = false := decide_eq_false (by omega)
        have e2b : decide (3 < d) = false := decide_eq_false k2
        by_cases k3 : d = X.size
        · rw [if_pos (.inr (.inr k3))] at hRQ
          have HRQ : Hid (none = RQ) := hRQ
          have e3 : ((d : Int) == (X.size : Int)) = true := by rw [k3]; exact beq_self_eq_true _
          clear hRQ k1 k2 k3
          go_enter Tryd.func21, Tryd.ntmps21
          go_wp2_with fail
          go_quiet ((go_at_call 35; exact Calls.quiet_of_same (HCP.out _)))
          have HB1 : Hid (Below w.heap.size w (w.drewN nq)) := Lib.hid (below_drewN (Below.refl _ _) nq)
          generalize w.drewN nq = w1 at *
          go_wp2_with (first
            | (go_at_call 36; refine (HTR.out _).mono ?_; rintro e w2 ⟨rfl, hb2⟩; have HB2 := Lib.hid (HB1.out.trans (hb2.mono HB1.out.size)); clear hb2)
            | (go_at_call 37; refine (HPA.out _).mono ?_; rintro e w3 ⟨rfl, hb3⟩; have HB3 := Lib.hid (HB2.out.trans (hb3.mono HB2.out.size)); clear hb3))
          go_ret
          rw [← HRQ.out]
          exact ⟨HB2.out.mono HH.out.base, rfl, HB2.out⟩
        · rw [if_neg (fun h => h.elim k1 (fun h => h.elim k2 k3))] at hRQ
          have e3 : ((d : Int) == (X.size : Int)) = false := by rw [beq_eq_false_iff_ne]; omega
          have hix := idx_any X d (by omega)
          obtain ⟨c, hc⟩ : ∃ c, (tl X).getD d 0 = c := ⟨_, rfl⟩
          rw [hc] at hix hRQ
          have hpa : ∀ w, Calls Tryd.prog 37 #[.string N, .int .i64 10] w fun e w' => e = .returned (.tuple #[.int .i64 (parseV 10 D), .int .i64 (parseE 10 D)]) ∧ Below w.heap.size w w' := fun w => by
            have h := parse_any 10 D w (by decide) (by decide) (by have := HNH.out.2; omega)
            rw [show (⟨D.toArray⟩ : ByteArray) = N by rw [← HNH.out.1]] at h
            exact h
          obtain ⟨V, hV⟩ : ∃ V, parseV 10 D = V := ⟨_, rfl⟩
          rw [hV] at hpa hRQ
          generalize parseE 10 D = E at hpa
          have HPA := Lib.hid hpa
          have hdX : (d : Int) < (X.size : Int) := by omega
          have HAN : Hid (a + (d + 2) ≤ S.size) := Lib.hid (by have := HXL.out; omega)
          have hd3 : (d : Int) ≤ 3 := by omega
          clear hpa hc hV k1 k2 k3
          by_cases c1' : c = 61
          · have e4 : ((c.toNat : Int) == 61) = true := by rw [c1']; rfl
            rw [if_pos c1'] at hRQ
            have HRQ : Hid (some (⟨15, V, []⟩, d + 2, false) = RQ) := hRQ
            have hbk := buildKN 15 V
            clear hRQ c1'
            go_enter Tryd.func21, Tryd.ntmps21
            go_wp2_with fail
            go_quiet ((go_at_call 35; exact Calls.quiet_of_same (HCP.out _)))
            have HB1 : Hid (Below w.heap.size w (w.drewN nq)) := Lib.hid (below_drewN (Below.refl _ _) nq)
            generalize w.drewN nq = w1 at *
            have HS1 := Lib.hid (HH.out.below HB1.out)
            go_wp2_with (first
              | (go_at_call 36; refine (HTR.out _).mono ?_; rintro e w2 ⟨rfl, hb2⟩; have HB2 := Lib.hid (HB1.out.trans (hb2.mono HB1.out.size)); clear hb2)
              | (go_at_call 37; refine (HPA.out _).mono ?_; rintro e w3 ⟨rfl, hb3⟩; have HB3 := Lib.hid (HB2.out.trans (hb3.mono HB2.out.size)); have HTK : Hid (Calls Tryd.prog 34 #[.pointer (some ⟨b, 0, none⟩), .agg #[.int .i64 15, .int .i64 V, .string ⟨#[]⟩, .int .i64 0], .int .i64 ((d : Int) + 2), .bool false] w3 fun e w' => e = .returned (.tuple #[.int .i64 0, .int .i64 0]) ∧ Below B w3 w' ∧ ∃ v', Scn w' B b S (a + (d + 2)) v' false (l ++ [(⟨15, V, []⟩, a)])) := (HH.out.below HB3.out).take hS ⟨15, V, []⟩ (d + 2) false HAN.out hl; clear hb3)
              | (go_at_call 34; refine HTK.out.mono ?_; rintro e w5 ⟨rfl, hb5, hs5⟩; have HS5 := Lib.hid hs5; have HB5 := Lib.hid ((HB3.out.mono HH.out.base).trans hb5); clear hs5 hb5))
            go_ret
            rw [← HRQ.out]
            exact ⟨HB5.out, rfl, HS5.out⟩
          · have e4 : ((c.toNat : Int) == 61) = false := u8_ne (k := 61) rfl c1'
            rw [if_neg c1'] at hRQ
            by_cases c2' : c = 35
            · have e5 : ((c.toNat : Int) == 35) = true := by rw [c2']; rfl
              rw [if_pos c2'] at hRQ
              have HRQ : Hid (some (⟨16, V, []⟩, d + 2, true) = RQ) := hRQ
              have hbk := buildKN 16 V
              clear hRQ c1' c2'
              go_enter Tryd.func21, Tryd.ntmps21
              go_wp2_with fail
              go_quiet ((go_at_call 35; exact Calls.quiet_of_same (HCP.out _)))
              have HB1 : Hid (Below w.heap.size w (w.drewN nq)) := Lib.hid (below_drewN (Below.refl _ _) nq)
              generalize w.drewN nq = w1 at *
              have HS1 := Lib.hid (HH.out.below HB1.out)
              go_wp2_with (first
                | (go_at_call 36; refine (HTR.out _).mono ?_; rintro e w2 ⟨rfl, hb2⟩; have HB2 := Lib.hid (HB1.out.trans (hb2.mono HB1.out.size)); clear hb2)
                | (go_at_call 37; refine (HPA.out _).mono ?_; rintro e w3 ⟨rfl, hb3⟩; have HB3 := Lib.hid (HB2.out.trans (hb3.mono HB2.out.size)); have HTK : Hid (Calls Tryd.prog 34 #[.pointer (some ⟨b, 0, none⟩), .agg #[.int .i64 16, .int .i64 V, .string ⟨#[]⟩, .int .i64 0], .int .i64 ((d : Int) + 2), .bool true] w3 fun e w' => e = .returned (.tuple #[.int .i64 0, .int .i64 0]) ∧ Below B w3 w' ∧ ∃ v', Scn w' B b S (a + (d + 2)) v' true (l ++ [(⟨16, V, []⟩, a)])) := (HH.out.below HB3.out).take hS ⟨16, V, []⟩ (d + 2) true HAN.out hl; clear hb3)
                | (go_at_call 34; refine HTK.out.mono ?_; rintro e w5 ⟨rfl, hb5, hs5⟩; have HS5 := Lib.hid hs5; have HB5 := Lib.hid ((HB3.out.mono HH.out.base).trans hb5); clear hs5 hb5))
              go_ret
              rw [← HRQ.out]
              exact ⟨HB5.out, rfl, HS5.out⟩
            · have e5 : ((c.toNat : Int) == 35) = false := u8_ne (k := 35) rfl c2'
              rw [if_neg c2'] at hRQ
              have HRQ : Hid (none = RQ) := hRQ
              clear hRQ c1' c2'
              go_enter Tryd.func21, Tryd.ntmps21
              go_wp2_with fail
              go_quiet ((go_at_call 35; exact Calls.quiet_of_same (HCP.out _)))
              have HB1 : Hid (Below w.heap.size w (w.drewN nq)) := Lib.hid (below_drewN (Below.refl _ _) nq)
              generalize w.drewN nq = w1 at *
              go_wp2_with (first
                | (go_at_call 36; refine (HTR.out _).mono ?_; rintro e w2 ⟨rfl, hb2⟩; have HB2 := Lib.hid (HB1.out.trans (hb2.mono HB1.out.size)); clear hb2)
                | (go_at_call 37; refine (HPA.out _).mono ?_; rintro e w3 ⟨rfl, hb3⟩; have HB3 := Lib.hid (HB2.out.trans (hb3.mono HB2.out.size)); clear hb3))
              go_ret
              rw [← HRQ.out]
              exact ⟨HB3.out.mono HH.out.base, rfl, HB3.out⟩
end
end Go.Proofs.YtjpbbooeihdnfaaDoor
