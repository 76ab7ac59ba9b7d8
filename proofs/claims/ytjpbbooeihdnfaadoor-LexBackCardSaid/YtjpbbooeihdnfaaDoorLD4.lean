/- The scanner takes a string, a word. -/
import Derived.Test.YtjpbbooeihdnfaaDoorLD3
set_option maxRecDepth 20000
set_option linter.unusedSimpArgs false
set_option linter.unusedVariables false
namespace Go.Proofs.YtjpbbooeihdnfaaDoor
open Go.RowKit

theorem qGo_spec : ∀ (k : Nat) (R : List UInt8) (i n : Nat), R.length ≤ k → qGo R i = n → n ≠ 0 → i < n ∧ n ≤ i + R.length ∧ wE (R.take (n - 1 - i)) = true := by
  intro k
  induction k with
  | zero =>
    intro R i n hR h hn
    have : R = [] := List.eq_nil_of_length_eq_zero (by omega)
    subst this
    exact absurd h.symm hn
  | succ k ih =>
    intro R i n hR h hn
    cases R with
    | nil => exact absurd h.symm hn
    | cons c t =>
      rw [qGo_cons] at h
      by_cases c1 : c = 34
      · rw [if_pos c1] at h
        subst h
        refine ⟨by omega, by simp, ?_⟩
        rw [show i + 1 - 1 - i = 0 by omega]; rfl
      · rw [if_neg c1] at h
        by_cases c2 : c = 92
        · rw [if_pos c2] at h
          cases t with
          | nil => exact absurd h.symm hn
          | cons x u =>
            have hl : u.length ≤ k := by simp at hR; omega
            obtain ⟨h1, h2, h3⟩ := ih u (i + 2) n hl h hn
            refine ⟨by omega, by simp; omega, ?_⟩
            rw [show n - 1 - i = (n - 1 - (i + 2)) + 1 + 1 by omega, List.take_succ_cons, List.take_succ_cons, c2]
            exact h3
        · rw [if_neg c2] at h
          obtain ⟨h1, h2, h3⟩ := ih t (i + 1) n (by simp at hR; omega) h hn
          refine ⟨by omega, by simp; omega, ?_⟩
          rw [show n - 1 - i = (n - 1 - (i + 1)) + 1 by omega, List.take_succ_cons]
          cases hq : t.take (n - 1 - (i + 1)) with
          | nil => simp [wE, c2]
          | cons d t2 => rw [hq] at h3; unfold wE; rw [if_neg c2]; exact h3
theorem qsz_spec {L : List UInt8} (h : qsz L ≠ 0) (hL : L ≠ []) : 2 ≤ qsz L ∧ qsz L ≤ L.length ∧ wE ((L.take (qsz L - 1)).drop 1) = true := by
  obtain ⟨h1, h2, h3⟩ := qGo_spec _ (L.drop 1) 1 (qsz L) (Nat.le_refl _) rfl h
  have hpos : 0 < L.length := List.length_pos_iff.2 hL
  rw [List.length_drop] at h2
  refine ⟨by omega, by omega, ?_⟩
  rw [List.drop_take]
  exact h3
/-- What a step of the scanner tells, and what it makes of it. -/
def StR (w w' : World) (B b : Nat) (S : ByteArray) (a : Nat) (l : List (Tk × Nat)) (st : St) (e : Ending) : Prop :=
  Below B w w' ∧ match st with
  | .err i x => e = .returned (.tuple #[.int .i64 ((a + i : Nat) : Int), .int .i64 x])
  | .pass n => e = .returned (.tuple #[.int .i64 0, .int .i64 0]) ∧ ∃ v', Scn w' B b S (a + n) v' false l
  | .tok t n tg => e = .returned (.tuple #[.int .i64 0, .int .i64 0]) ∧ ∃ v', Scn w' B b S (a + n) v' tg (l ++ [(t, a)])
section
variable {w w' : World} {B b a : Nat} {S : ByteArray} {l : List (Tk × Nat)} {e : Ending}
theorem StR.err {i : Nat} {x : Int} (hb : Below B w w') (h : e = .returned (.tuple #[.int .i64 ((a + i : Nat) : Int), .int .i64 x])) : StR w w' B b S a l (.err i x) e := ⟨hb, h⟩
theorem StR.tok {t : Tk} {n : Nat} {tg : Bool} (hb : Below B w w') (h : e = .returned (.tuple #[.int .i64 0, .int .i64 0])) (hs : ∃ v', Scn w' B b S (a + n) v' tg (l ++ [(t, a)])) : StR w w' B b S a l (.tok t n tg) e := ⟨hb, h, hs⟩
end
theorem unq_err : ∀ (f : Nat) (L : List UInt8) (i j : Nat), unq f L i = .error j → i ≤ j ∧ j < i + L.length
  | 0, L, i, j, h => by cases h
  | f + 1, [], i, j, h => by cases h
  | f + 1, c :: t, i, j, h => by
    unfold unq at h
    generalize hr : (if c = 92 then esc (c :: t) else (c.toNat, 1)) = r at h
    obtain ⟨b, n⟩ := r
    dsimp only at h
    by_cases hb : n = 0 ∨ 128 ≤ b
    · rw [if_pos hb] at h
      injection h with h
      subst h
      exact ⟨Nat.le_refl _, by simp⟩
    · rw [if_neg hb] at h
      cases hu : unq f ((c :: t).drop n) (i + n) with
      | ok l => rw [hu] at h; cases h
      | error k =>
        rw [hu] at h
        injection h with h
        subst h
        obtain ⟨h1, h2⟩ := unq_err f _ _ _ hu
        rw [List.length_drop] at h2
        exact ⟨by omega, by omega⟩
section
variable {w w' : World} {B b a : Nat} {S : ByteArray} {v : Value} {tight : Bool} {l : List (Tk × Nat)}
set_option maxHeartbeats 3200000 in
theorem Scn.quoted (h : Scn w B b S a v tight l) (hE : Env w) (hS : S.size ≤ 5000) (ha : a < S.size) (hl : l.length ≤ a) :
    Calls Tryd.prog 19 #[.pointer (some ⟨b, 0, none⟩)] w fun e w' => StR w w' B b S a l (quotM ((tl S).drop a)) e := by
  obtain ⟨⟨c0, c1, c2, c3⟩, fz⟩ := h.cells
  have HH := Lib.hid h
  have hxl : (S.extract a S.size).size = S.size - a := by rw [← tl_len, tl_from, List.length_drop, tl_len]
  have hqs := fun w => quotedSize_any (S.extract a S.size) w (by omega)
  rw [tl_from] at hqs
  obtain ⟨L, hLd⟩ : ∃ L, (tl S).drop a = L := ⟨_, rfl⟩
  have hLl : L.length = S.size - a := by rw [← hLd, List.length_drop, tl_len]
  rw [hLd] at hqs ⊢
  have hsp := fun hq => qsz_spec (L := L) hq (fun e => by rw [e] at hLl; simp at hLl; omega)
  obtain ⟨RQ, hRQ⟩ : ∃ RQ, quotM L = RQ := ⟨_, rfl⟩
  rw [hRQ]
  unfold quotM at hRQ
  have haI : (a : Int) < (S.size : Int) := by omega
  have hSI : (S.size : Int) ≤ 5000 := by omega
  have HEW := Lib.hid hE
  obtain ⟨q, hq⟩ : ∃ q, qsz L = q := ⟨_, rfl⟩
  rw [hq] at hqs hRQ hsp
  have HQ := Lib.hid hqs
  clear h hE hqs hxl fz
  by_cases hq0 : q = 0
  · rw [if_pos hq0] at hRQ
    have e0 : ((q : Int) == 0) = true := by rw [hq0]; rfl
    have HRQ : Hid (St.err 0 3 = RQ) := hRQ
    clear hRQ hsp hq hq0
    go_enter Tryd.func19, Tryd.ntmps19
    go_wp2_with fail
    go_quiet ((go_at_call 32; exact Calls.quiet_of_same ((HQ.out _).mono fun _ _ h => ⟨h.1, h.2.symm⟩)))
    have k1 : (w.drewN nq).cell? ⟨b, 1, none⟩ = some (.int .i64 (a : Int)) := c1
    go_wp2_with fail
    go_ret2
    unfold StR
    rw [← HRQ.out]
    exact ⟨(below_drewN (Below.refl _ _) _), rfl⟩
  · rw [if_neg hq0] at hRQ
    obtain ⟨s1, s2, s3⟩ := hsp hq0
    have e0 : ((q : Int) == 0) = false := by rw [beq_eq_false_iff_ne]; omega
    have e1 : (q == 0) = false := by rw [beq_eq_false_iff_ne]; exact hq0
    have hin : tl (S.extract (a + 1) (a + q - 1)) = (L.take (q - 1)).drop 1 := by
      rw [tl_extract, ← hLd, List.drop_take, List.drop_drop]
      congr 1
      omega
    have hins : (S.extract (a + 1) (a + q - 1)).size = q - 2 := by
      rw [← tl_len, hin, List.length_drop, List.length_take]; omega
    have hun := fun w hE => unquote_any (S.extract (a + 1) (a + q - 1)) q w hE (by omega) (by omega) (by rw [hin]; exact s3)
    rw [hin] at hun
    have HNB : Hid (a + q ≤ S.size) := Lib.hid (by omega)
    have hqI : (2 : Int) ≤ (q : Int) := by omega
    have haq : (a : Int) + (q : Int) ≤ (S.size : Int) := by omega
    obtain ⟨x, hx⟩ : ∃ x, a + 1 = x := ⟨_, rfl⟩
    obtain ⟨y, hy⟩ : ∃ y, a + q - 1 = y := ⟨_, rfl⟩
    obtain ⟨z, hz⟩ : ∃ z : Int, (a : Int) + (q : Int) = z := ⟨_, rfl⟩
    have hw1 : IntKind.i64.wrap ((a : Int) + 1) = (x : Int) := by rw [IntKind.wrap_i64]; omega
    have hw2 : IntKind.i64.wrap ((a : Int) + (q : Int)) = z := by rw [IntKind.wrap_i64]; omega
    have hw3 : IntKind.i64.wrap (z - 1) = (y : Int) := by rw [IntKind.wrap_i64]; omega
    have hxy : x ≤ y := by omega
    have hyS : y ≤ S.size := by omega
    have hxyI : (x : Int) ≤ (y : Int) := by omega
    have hySI : (y : Int) ≤ (S.size : Int) := by omega
    have HXZ : Hid (a + 1 = x ∧ a + q - 1 = y ∧ (a : Int) + (q : Int) = z) := Lib.hid ⟨hx, hy, hz⟩
    rw [hx, hy] at hun
    obtain ⟨U, hU⟩ : ∃ U, unq q ((L.take (q - 1)).drop 1) 0 = U := ⟨_, rfl⟩
    rw [hU] at hun hRQ
    have hje : ∀ j, U = .error j → j < q := fun j e => by
      have h := (unq_err _ _ _ _ (hU.trans e)).2
      rw [List.length_drop, List.length_take] at h
      omega
    clear hq0 hq hsp hin hins s1 s2 s3 hU hLl hLd hx hy hz
    cases U with
    | error j =>
      have HUN : Hid (∀ w, Env w → Calls Tryd.prog 33 #[.string (S.extract x y)] w fun e w' => e = .returned (.tuple #[.string ⟨#[]⟩, .int .i64 (j : Int)]) ∧ Below w.heap.size w w') := hun
      have HRQ : Hid (St.err (1 + j) 4 = RQ) := hRQ
      have hjq := hje j rfl
      have hxj : (x : Int) + (j : Int) ≤ 10000 := by have := HXZ.out.1; omega
      clear hRQ hun hje
      go_enter Tryd.func19, Tryd.ntmps19
      go_wp2_with fail
      go_quiet ((go_at_call 32; exact Calls.quiet_of_same ((HQ.out _).mono fun _ _ h => ⟨h.1, h.2.symm⟩)))
      have HS1 := Lib.hid (HH.out.below (below_drewN (Below.refl _ _) nq))
      have HB1 : Hid (Below w.heap.size w (w.drewN nq)) := Lib.hid (below_drewN (Below.refl _ _) nq)
      generalize w.drewN nq = w1 at *
      obtain ⟨⟨k0, k1, k2, k3⟩, kz⟩ := HS1.out.cells
      clear kz c0 c1 c2 c3
      go_upto_region 4 with fail
      go_region_held3 (fun u : World => u.cell? ⟨b, 0, none⟩ = some (.string S) ∧ u.cell? ⟨b, 1, none⟩ = some (.int .i64 (a : Int))) ((first | with_reducible exact ⟨k0, k1⟩ | with_reducible exact ⟨m0, m1⟩ | go_keep)) ((go_at_call 33; refine (HUN.out _ (by exact HEW.out.below (HB1.out.trans ((Below.refl _ _).drew)))).mono ?_; rintro e w2 ⟨rfl, hb2⟩; have HS3 := Lib.hid ((HS1.out.below (Below.refl _ _).drew).below hb2); obtain ⟨⟨m0, m1, m2, m3⟩, mz⟩ := HS3.out.cells; have HB2 := Lib.hid hb2; clear hb2 mz))
      all_goals
        have HB3 : Hid (Below w.heap.size w w2) := Lib.hid (HB1.out.trans (((Below.refl _ _).drew.trans HB2.out).mono HB1.out.size))
        clear k0 k1 k2 k3
        go_wp2_with fail
        go_ret2
        rw [← HRQ.out]
        refine StR.err (HB3.out.mono HH.out.base) ?_
        have hxz := HXZ.out.1
        rw [show ((a + (1 + j) : Nat) : Int) = (x : Int) + (j : Int) by omega]
        rfl
    | ok u =>
      have HUN : Hid (∀ w, Env w → Calls Tryd.prog 33 #[.string (S.extract x y)] w fun e w' => e = .returned (.tuple #[.string ⟨u.toArray⟩, .int .i64 (-1)]) ∧ Below w.heap.size w w') := hun
      have HRQ : Hid (St.tok ⟨13, 0, u⟩ q true = RQ) := hRQ
      obtain ⟨T, hT⟩ : ∃ T : ByteArray, T = ⟨u.toArray⟩ := ⟨_, rfl⟩
      rw [← hT] at HUN
      have hbk := buildKS 13 T
      have HTT := Lib.hid hT
      clear hRQ hun hje hT
      go_enter Tryd.func19, Tryd.ntmps19
      go_wp2_with fail
      go_quiet ((go_at_call 32; exact Calls.quiet_of_same ((HQ.out _).mono fun _ _ h => ⟨h.1, h.2.symm⟩)))
      have HS1 := Lib.hid (HH.out.below (below_drewN (Below.refl _ _) nq))
      have HB1 : Hid (Below w.heap.size w (w.drewN nq)) := Lib.hid (below_drewN (Below.refl _ _) nq)
      generalize w.drewN nq = w1 at *
      obtain ⟨⟨k0, k1, k2, k3⟩, kz⟩ := HS1.out.cells
      clear kz c0 c1 c2 c3
      go_upto_region 4 with fail
      go_region_held3 (fun u : World => u.cell? ⟨b, 0, none⟩ = some (.string S) ∧ u.cell? ⟨b, 1, none⟩ = some (.int .i64 (a : Int))) ((first | with_reducible exact ⟨k0, k1⟩ | with_reducible exact ⟨m0, m1⟩ | go_keep)) ((go_at_call 33; refine (HUN.out _ (by exact HEW.out.below (HB1.out.trans ((Below.refl _ _).drew)))).mono ?_; rintro e w2 ⟨rfl, hb2⟩; have HS3 := Lib.hid ((HS1.out.below (Below.refl _ _).drew).below hb2); obtain ⟨⟨m0, m1, m2, m3⟩, mz⟩ := HS3.out.cells; have HB2 := Lib.hid hb2; clear hb2 mz))
      all_goals
        have HB3 : Hid (Below w.heap.size w w2) := Lib.hid (HB1.out.trans (((Below.refl _ _).drew.trans HB2.out).mono HB1.out.size))
        clear k0 k1 k2 k3
        have HTK : Hid (Calls Tryd.prog 34 #[.pointer (some ⟨b, 0, none⟩), .agg #[.int .i64 13, .int .i64 0, .string T, .int .i64 0], .int .i64 (q : Int), .bool true] w2 fun e w' => e = .returned (.tuple #[.int .i64 0, .int .i64 0]) ∧ Below B w2 w' ∧ ∃ v', Scn w' B b S (a + q) v' true (l ++ [(⟨13, 0, u⟩, a)])) := by
          have h := HS3.out.take hS ⟨13, 0, u⟩ q true HNB.out hl
          unfold tkC at h
          dsimp only at h
          rw [← HTT.out] at h
          exact h
        go_wp2_with (go_at_call 34; refine HTK.out.mono ?_; rintro e w5 ⟨rfl, hb5, hs5⟩; have HS5 := Lib.hid hs5; have HB5 := Lib.hid ((HB3.out.mono HH.out.base).trans hb5); clear hs5 hb5)
        go_ret2
        rw [← HRQ.out]
        exact StR.tok HB5.out rfl HS5.out
end
end Go.Proofs.YtjpbbooeihdnfaaDoor
