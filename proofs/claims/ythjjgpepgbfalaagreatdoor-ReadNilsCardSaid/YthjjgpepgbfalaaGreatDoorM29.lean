/- Texts RdG4 to RdY3 of this seat, laid into one. -/
import Derived.Deep.QuietTactic
import Derived.BigQuiet
import Derived.Test.YthjjgpepgbfalaaGreatDoorM01
import Derived.Test.YthjjgpepgbfalaaGreatDoorM16
import Derived.Test.YthjjgpepgbfalaaGreatDoorM19
import Derived.Test.YthjjgpepgbfalaaGreatDoorM28
set_option linter.unusedVariables false
set_option linter.unusedSimpArgs false
set_option linter.constructorNameAsVariable false
section
/-! How many nodes a text makes: two for each token at most. -/
set_option linter.unusedVariables false
set_option linter.unusedSimpArgs false
namespace Go.Proofs.YthjjgpepgbfalaaGreatDoor

def sizeP (σ : Ps) : Nat := σ.A.length + 2 * σ.ts.length
theorem size_all (sz : Nat) : ∀ f,
    (∀ dp σ r, skipsM sz f dp σ = some r → sizeP r.2 ≤ sizeP σ) ∧
    (∀ dp i σ r, behindM sz f dp i σ = some r → sizeP r.2 ≤ sizeP σ) ∧
    (∀ dp i σ r, datumM sz f dp i σ = some r → sizeP r.2 ≤ sizeP σ) ∧
    (∀ dp i σ r, restM sz f dp i σ = some r → sizeP r.2 ≤ sizeP σ + 1) ∧
    (∀ dp i σ r, rowM sz f dp i σ = some r → sizeP r.2 ≤ sizeP σ)
  | 0 => ⟨fun _ _ _ h => (by rw [skipsM] at h; cases h), fun _ _ _ _ h => (by rw [behindM] at h; cases h), fun _ _ _ _ h => (by rw [datumM] at h; cases h), fun _ _ _ _ h => (by rw [restM] at h; cases h), fun _ _ _ _ h => (by rw [rowM] at h; cases h)⟩
  | f + 1 => by
    obtain ⟨ihS, ihB, ihD, ihR, ihW⟩ := size_all sz f
    have hfail : ∀ (σ : Ps) e, sizeP (failM sz σ e) = sizeP σ := fun σ e => rfl
    refine ⟨fun dp σ r h => ?_, fun dp i σ r h => ?_, fun dp i σ r h => ?_, fun dp i σ r h => ?_, fun dp i σ r h => ?_⟩
    · rw [skipsM] at h
      by_cases hk : isK σ 8 = true
      · rw [if_pos hk] at h
        have hl := isK_len hk
        have h0 : sizeP { σ with ts := σ.ts.tail, A := σ.A ++ [nd0] } ≤ sizeP σ := by unfold sizeP; simp; omega
        cases hB : behindM sz f dp σ.A.length { σ with ts := σ.ts.tail, A := σ.A ++ [nd0] } with
        | none => rw [hB] at h; cases h
        | some q =>
          obtain ⟨b, σ'⟩ := q
          rw [hB] at h
          have h1 : sizeP σ' ≤ _ := ihB dp _ _ _ hB
          cases b with
          | false => obtain rfl := Option.some.inj h; exact Nat.le_trans h1 h0
          | true =>
            have h2 : sizeP r.2 ≤ sizeP { σ' with lab := σ.lab } := ihS dp _ r h
            have h3 : sizeP { σ' with lab := σ.lab } = sizeP σ' := rfl
            omega
      · rw [if_neg hk] at h
        obtain rfl := Option.some.inj h
        exact Nat.le_refl _
    · rw [behindM] at h
      cases hS : skipsM sz f dp σ with
      | none => rw [hS] at h; cases h
      | some q =>
        obtain ⟨b, σ1⟩ := q
        rw [hS] at h
        have h1 : sizeP σ1 ≤ _ := ihS dp σ _ hS
        cases b with
        | false => obtain rfl := Option.some.inj h; exact h1
        | true => exact Nat.le_trans (ihD dp i σ1 r h) h1
    · rw [datumM] at h
      by_cases h0 : faultM dp σ i ≠ 0
      · rw [if_pos h0] at h
        obtain rfl := Option.some.inj h
        exact Nat.le_of_eq (hfail _ _)
      · rw [if_neg h0] at h
        cases hts : σ.ts with
        | nil => rw [hts] at h; cases h
        | cons x l =>
          rw [hts] at h
          have h1 := ihR (dp + 1) σ.A.length _ r h
          have h2 : sizeP { σ with ts := l, A := addN σ.A i x.1 x.2 } + 1 ≤ sizeP σ := by
            unfold sizeP
            rw [hts]
            simp only [addN_len, List.length_cons]
            omega
          omega
    · rw [restM] at h
      split at h
      · exact Nat.le_trans (ihW dp i σ r h) (by omega)
      · split at h
        · have h1 := ihB dp i _ r h
          have h2 : sizeP { σ with A := addN σ.A i ⟨14, 0, nameOf (ndAt σ.A i).t.k⟩ 0 } = sizeP σ + 1 := by unfold sizeP; simp only [addN_len]; omega
          omega
        · split at h
          · exact Nat.le_trans (ihB dp i _ r h) (by show sizeP σ ≤ _; omega)
          · split at h
            · cases hl : σ.lab (ndAt σ.A i).t.n with
              | none => rw [hl] at h; cases h
              | some j =>
                rw [hl] at h
                obtain rfl := Option.some.inj h
                show sizeP { σ with A := setSame σ.A i (stands σ.A j) } ≤ _
                unfold sizeP setSame
                simp
            · obtain rfl := Option.some.inj h
              show sizeP σ ≤ _; omega
    · rw [rowM] at h
      cases hS : skipsM sz f dp σ with
      | none => rw [hS] at h; cases h
      | some q =>
        obtain ⟨b, σ1⟩ := q
        rw [hS] at h
        have h1 : sizeP σ1 ≤ _ := ihS dp σ _ hS
        cases b with
        | false => obtain rfl := Option.some.inj h; exact h1
        | true =>
          simp only at h
          by_cases hk : isK σ1 1 = true
          · rw [if_pos hk] at h
            obtain rfl := Option.some.inj h
            have hl := isK_len hk
            show sizeP { σ1 with ts := σ1.ts.tail } ≤ _
            have : sizeP { σ1 with ts := σ1.ts.tail } ≤ sizeP σ1 := by unfold sizeP; simp; omega
            omega
          · rw [if_neg hk] at h
            by_cases hd : isK σ1 9 = true ∧ (ndAt σ1.A i).t.k = 0 ∧ (ndAt σ1.A i).is ≠ []
            · rw [if_pos hd] at h
              have hl := isK_len hd.1
              have h2 : sizeP { σ1 with ts := σ1.ts.tail, A := setDot σ1.A i } ≤ sizeP σ1 := by unfold sizeP setDot; simp; omega
              cases hB : behindM sz f dp i { σ1 with ts := σ1.ts.tail, A := setDot σ1.A i } with
              | none => rw [hB] at h; cases h
              | some q2 =>
                obtain ⟨b2, σ2⟩ := q2
                rw [hB] at h
                have h3 : sizeP σ2 ≤ _ := ihB dp i _ _ hB
                cases b2 with
                | false => obtain rfl := Option.some.inj h; show sizeP σ2 ≤ _; omega
                | true =>
                  simp only at h
                  cases hS2 : skipsM sz f dp σ2 with
                  | none => rw [hS2] at h; cases h
                  | some q3 =>
                    obtain ⟨b3, σ3⟩ := q3
                    rw [hS2] at h
                    have h4 : sizeP σ3 ≤ _ := ihS dp σ2 _ hS2
                    cases b3 with
                    | false => obtain rfl := Option.some.inj h; show sizeP σ3 ≤ _; omega
                    | true =>
                      obtain rfl := Option.some.inj h
                      have h5 : sizeP (closeM sz σ3).2 ≤ sizeP σ3 := by
                        unfold closeM
                        cases hts : σ3.ts with
                        | nil => exact Nat.le_of_eq (hfail _ _)
                        | cons x l =>
                          simp only
                          split
                          · unfold sizeP; rw [hts]; simp; omega
                          · exact Nat.le_of_eq (hfail _ _)
                      omega
            · rw [if_neg hd] at h
              cases hD : datumM sz f dp i σ1 with
              | none => rw [hD] at h; cases h
              | some q2 =>
                obtain ⟨b2, σ2⟩ := q2
                rw [hD] at h
                have h3 : sizeP σ2 ≤ _ := ihD dp i σ1 _ hD
                cases b2 with
                | false => obtain rfl := Option.some.inj h; show sizeP σ2 ≤ _; omega
                | true =>
                  have h4 := ihW dp i σ2 r h
                  omega
theorem size_top (sz : Nat) : ∀ f σ σr, topM sz f σ = some σr → sizeP σr ≤ sizeP σ
  | 0, σ, σr, h => by rw [topM] at h; cases h
  | f + 1, σ, σr, h => by
    rw [topM] at h
    cases hS : skipsM sz f 0 σ with
    | none => rw [hS] at h; cases h
    | some q =>
      obtain ⟨b, σ1⟩ := q
      rw [hS] at h
      have h1 : sizeP σ1 ≤ _ := (size_all sz f).1 0 σ _ hS
      cases b with
      | false => obtain rfl := Option.some.inj h; exact h1
      | true =>
        simp only at h
        by_cases hn : σ1.ts = []
        · rw [if_pos hn] at h
          obtain rfl := Option.some.inj h
          exact h1
        · rw [if_neg hn] at h
          cases hD : datumM sz f 0 0 σ1 with
          | none => rw [hD] at h; cases h
          | some q2 =>
            obtain ⟨b2, σ2⟩ := q2
            rw [hD] at h
            have h2 : sizeP σ2 ≤ _ := (size_all sz f).2.2.1 0 0 σ1 _ hD
            cases b2 with
            | false => obtain rfl := Option.some.inj h; omega
            | true =>
              have h3 := size_top sz f σ2 σr h
              omega
theorem inv0 (l : List (Lx.Tk × Nat)) : InvP (ps0 l) := by
  have hat : ∀ j, ndAt [nd0] j = nd0 := fun j => by
    cases j with
    | zero => rfl
    | succ j => exact ndAt_ge (by simp)
  refine ⟨⟨fun i hi => ?_, fun i k a c j h1 => ?_, fun i s hs => ?_, fun i hd => ?_, fun i hk => ?_, fun i j hk => ?_⟩, fun x j h => ?_, rfl⟩
  · show (∀ j ∈ (ndAt [nd0] i).is, _) ∧ ∀ j, (ndAt [nd0] i).sm = some j → _
    rw [hat]
    exact ⟨fun j hj => (by cases hj), fun j hj => (by cases hj)⟩
  · have : (ndAt [nd0] i).is[a]? = some j := h1
    rw [hat] at this; simp [nd0] at this
  · have : (ndAt [nd0] i).sm = some s := hs
    rw [hat] at this; cases this
  · have : (ndAt [nd0] i).d = true := hd
    rw [hat] at this; cases this
  · have : (ndAt [nd0] i).t.k = 2 := hk
    rw [hat] at this; cases this
  · have : (ndAt [nd0] i).t.k = 3 := hk
    rw [hat] at this; cases this
  · cases h
/-- The nodes of a text that is right. -/
structure Parsed (L : List UInt8) (A : List Nd) : Prop where
  inv : InvA A
  done : ∀ j, j < A.length → DoneN A j
  pos : 0 < A.length
  len : A.length ≤ 2 * L.length + 1
  short : L.length ≤ 4096
  root : (ndAt A 0).t = nd0.t
theorem parsed {L : List UInt8} {A : List Nd} {n : Nat} {x : Int} (h : parseT L = (some A, n, x)) : Parsed L A ∧ n = L.length ∧ x = 0 := by
  unfold parseT at h
  cases hs : Lx.scanT L with
  | mk r nx =>
    obtain ⟨n0, x0⟩ := nx
    rw [hs] at h
    cases r with
    | none => cases h
    | some l =>
      obtain ⟨h1, h2, h3⟩ := scan_toks hs
      simp only at h
      cases ht : topM L.length (5 * l.length + 3) (ps0 l) with
      | none => rw [ht] at h; cases h
      | some σ =>
        rw [ht] at h
        simp only at h
        by_cases he : σ.e ≠ 0
        · rw [if_pos he] at h; cases h
        · rw [if_neg he] at h
          have he2 : σ.e = 0 := by simpa using he
          have hA : σ.A = A := by injection h with h; injection h
          have hx := (Prod.mk.inj (Prod.mk.inj h).2)
          obtain ⟨k1, k2, k3⟩ := top_does _ _ _ _ (inv0 l) (show 0 < 1 by decide) ht he2
          have k4 := size_top _ _ _ _ ht
          rw [hA] at k2 k3
          refine ⟨⟨hA ▸ k1.a, fun j hj => k3 (fun _ => False) (fun j hj _ => ?_) j hj (fun h => h), ?_, ?_, h1, k2.t 0 (show 0 < 1 by decide)⟩, hx.1.symm, hx.2.symm⟩
          · have : j = 0 := by have h4 : j < 1 := hj; omega
            subst this
            exact ⟨fun e => absurd e (show ¬ (0 : Nat) = 16 by decide), fun e => absurd e (show ¬ (0 : Nat) = 15 by decide)⟩
          · have := k2.len
            have h5 : (ps0 l).A.length = 1 := rfl
            omega
          · unfold sizeP at k4
            have h5 : (ps0 l).A.length = 1 := rfl
            have h6 : (ps0 l).ts.length = l.length := rfl
            rw [hA] at k4
            omega
end Go.Proofs.YthjjgpepgbfalaaGreatDoor
end
section
/-! A region that draws its order, whose operations yield the same in every world in which what lay lies as it lay: one walk serves every order. -/
namespace Go.Proofs.YthjjgpepgbfalaaGreatDoor
open Go.RowKit

/-- The worlds in which what lay lies as it lay. -/
def In (W : World) : Type := { w' : World // Below W.heap.size W w' }
theorem In.some (W : World) : Nonempty (In W) := ⟨⟨W, Below.refl _ _⟩⟩
end Go.Proofs.YthjjgpepgbfalaaGreatDoor
end
section
/-! fitting: a text's data as a tree, for all of which there is room. -/
set_option maxRecDepth 20000
set_option linter.unusedSimpArgs false
set_option linter.unusedVariables false
namespace Go.Proofs.YthjjgpepgbfalaaGreatDoor
open Go.RowKit Go.Shelf

/-- What fitting tells. -/
def FitR (w w' : World) (m : Hm) (L : List UInt8) (e : Ending) : Prop := Below w.heap.size w w' ∧ match parseT L with
  | (none, n, x) => e = .returned (.tuple #[.pointer none, .int .i64 (n : Int), .int .i64 x]) ∧ x ≠ 0
  | (some A, _, _) => if (m.lim : Int) - (liveN m.L : Int) < objsZ A (pre A 0) then e = .returned (.tuple #[.pointer none, .int .i64 (L.length : Int), .int .i64 8])
    else ∃ S V, e = .returned (.tuple #[.pointer (some ⟨S 0, 0, none⟩), .int .i64 (L.length : Int), .int .i64 0]) ∧ Nds w' S V A ∧ 0 < A.length ∧ A.length ≤ 20000 ∧ ∀ k, footN S V A.length k → w.heap.size ≤ k
section
variable {w : World} {g gt : Nat} {F : Nat → Prop} {Ft : List Nat} {m : Hm} {N : List ByteArray}
set_option maxRecDepth 100000 in
set_option maxHeartbeats 3200000 in
theorem fitting_any (hE : Lx.Env w) (h : Bth w g gt F Ft m N) (T : ByteArray) (hS : T.size ≤ 9223372036854775807) (hN : ∀ A n x, parseT (Lx.tl T) = (some A, n, x) → N.length + (pre A 0).length ≤ 16384 ∧ (-100000 ≤ objsZ A (pre A 0) ∧ objsZ A (pre A 0) ≤ 100000) ∧ n = (Lx.tl T).length) :
    Calls Tryz.prog 17 #[.pointer (some ⟨g, 0, none⟩), .pointer (some ⟨gt, 0, none⟩), .string T] w fun e w' => FitR w w' m (Lx.tl T) e := by
  have HP := Lib.hid (parse_any T w hE hS)
  have hlen : (Lx.tl T).length = T.size := Lx.tl_len T
  cases hp : parseT (Lx.tl T) with
  | mk r nx =>
  obtain ⟨n, x⟩ := nx
  unfold FitR
  rw [hp] at HP ⊢
  cases r with
  | none =>
    have HP2 : Hid (Calls Tryz.prog 24 #[.string T] w fun e w' => Below w.heap.size w w' ∧ e = .returned (.tuple #[.pointer none, .int .i64 (n : Int), .int .i64 x]) ∧ x ≠ 0) := HP
    simp only
    clear h hN hp HP hlen hS hE
    go_enter Tryz.func17, Tryz.ntmps17
    go_upto_region 4 with (go_at_call 24; with_reducible refine HP2.out.mono ?_; rintro e w3 ⟨hb, rfl, hx⟩)
    have hb := Lib.hid hb
    have dx : (x != 0) = true := by simp [hx]
    have HX := Lib.hid hx
    clear hx
    go_wp2_with fail
    go_ret3
    exact ⟨hb.out, rfl, HX.out⟩
  | some A =>
    obtain ⟨hn1, ⟨hn2, hn3⟩, rfl⟩ := hN A n x hp
    have HP2 : Hid (Calls Tryz.prog 24 #[.string T] w fun e w' => ∃ S V, (e = .returned (.tuple #[.pointer (some ⟨S 0, 0, none⟩), .int .i64 ((Lx.tl T).length : Int), .int .i64 0])) ∧ Below w.heap.size w w' ∧ Nds w' S V A ∧ 0 < A.length ∧ A.length ≤ 20000 ∧ ∀ k, footN S V A.length k → w.heap.size ≤ k) := Lib.hid (HP.out.mono fun e w' ⟨hb, b, S, V, he, h0, h1, h2, h3, h4⟩ => ⟨S, V, by rw [h0]; exact he, hb, h1, h2, h3, h4⟩)
    rw [hlen] at HP2 ⊢
    simp only
    have hlim : (m.lim : Int) ≤ 16384 := by have := h.hp.ok.l1; omega
    have hlv : (liveN m.L : Int) ≤ (m.lim : Int) := by have h1 := liveN_le m.L; have h2 := h.hp.ok.len; omega
    have hNl : N.length ≤ 16384 := by omega
    have HH := Lib.hid h
    have HPL : Hid ((pre A 0).length ≤ 20000) := Lib.hid (by omega)
    have hnn := (nnT_nodup N A (pre A 0)).2
    have hsz : (T.size : Int) ≤ 1000000 := by have := (parsed hp).1.short; omega
    clear h hN hp HP hlen hE
    obtain ⟨O, hO⟩ : ∃ O, objsZ A (pre A 0) = O := ⟨_, rfl⟩
    obtain ⟨lv, hlv2⟩ : ∃ lv, liveN m.L = lv := ⟨_, rfl⟩
    obtain ⟨lm, hlm⟩ : ∃ lm, m.lim = lm := ⟨_, rfl⟩
    obtain ⟨nc, hnc⟩ : ∃ nc, (nnT N A (pre A 0)).length = nc := ⟨_, rfl⟩
    obtain ⟨nl, hnl⟩ : ∃ nl, N.length = nl := ⟨_, rfl⟩
    rw [hO] at hn2 hn3 ⊢
    rw [hlv2, hlm] at hlv ⊢
    rw [hlm] at hlim
    rw [hnc] at hnn
    rw [hnl] at hn1 hNl
    have HQ := Lib.hid (And.intro hO (And.intro hlv2 (And.intro hlm (And.intro hnc hnl))))
    clear hO hlv2 hlm hnc hnl
    by_cases hfull : (lm : Int) - (lv : Int) < O
    · simp only [if_pos hfull]
      go_enter Tryz.func17, Tryz.ntmps17
      go_upto_region 6 with (go_at_call 24; with_reducible refine HP2.out.mono ?_; rintro e w3 ⟨S, V, rfl, hr⟩; have HR := Lib.hid hr; clear hr)
      have HO : Hid (Calls Tryz.prog 25 #[.pointer (some ⟨S 0, 0, none⟩)] w3 fun e w' => e = .returned (.int .i64 O) ∧ Below w3.heap.size w3 w') := Lib.hid (by
        obtain ⟨hb, hn, h0, hA, -⟩ := HR.out
        have := hn.objects h0 hA HPL.out
        rw [HQ.out.1] at this
        exact this)
      have HLM : Hid (∀ u, Below w3.heap.size w3 u → Calls Tryz.prog 26 #[.pointer (some ⟨g, 0, none⟩)] u fun e w' => e = .returned (.int .i64 (lm : Int)) ∧ w' = u) := Lib.hid fun u hu => by
        have hb := HR.out.1
        have := (HH.out.hp.below (hb.trans (hu.mono hb.size))).limit
        rw [HQ.out.2.2.1] at this
        exact this
      have HLV : Hid (∀ u, Below w3.heap.size w3 u → Calls Tryz.prog 27 #[.pointer (some ⟨g, 0, none⟩)] u fun e w' => e = .returned (.int .i64 (lv : Int)) ∧ w' = u) := Lib.hid fun u hu => by
        have hb := HR.out.1
        have := (HH.out.hp.below (hb.trans (hu.mono hb.size))).live
        rw [HQ.out.2.1] at this
        exact this
      have HNN : Hid (∀ u, Below w3.heap.size w3 u → Calls Tryz.prog 28 #[.pointer (some ⟨gt, 0, none⟩), .pointer (some ⟨S 0, 0, none⟩)] u fun e w' => e = .returned (.int .i64 (nc : Int)) ∧ Below u.heap.size u w') := Lib.hid fun u hu => by
        obtain ⟨hb, hn, h0, hA, -⟩ := HR.out
        have := newNames_any (hn.below hu) (HH.out.tb.below (hb.trans (hu.mono hb.size))) h0 hA HPL.out
        rw [HQ.out.2.2.2.1] at this
        exact this
      have HTL : Hid (∀ u, Below w3.heap.size w3 u → Calls Tryz.prog 15 #[.pointer (some ⟨gt, 0, none⟩)] u fun e w' => e = .returned (.int .i64 (nl : Int)) ∧ w' = u) := Lib.hid fun u hu => by
        have hb := HR.out.1
        have := Sy.len_any (HH.out.tb.below (hb.trans (hu.mono hb.size)))
        rw [HQ.out.2.2.2.2] at this
        exact this.mono fun e w' ⟨a, b⟩ => ⟨a, b.symm⟩
      have dt : decide ((lm : Int) - (lv : Int) < O) = true := decide_eq_true hfull
      go_wp2_with (first
        | (go_at_call 27; with_reducible refine (HLV.out _ hb4.out).mono ?_; rintro e w6 ⟨rfl, rfl⟩)
        | (go_at_call 26; with_reducible refine (HLM.out _ hb4.out).mono ?_; rintro e w5 ⟨rfl, rfl⟩)
        | (go_at_call 25; with_reducible refine HO.out.mono ?_; rintro e w4 ⟨rfl, hb4⟩; have hb4 := Lib.hid hb4))
      go_ret3
      exact ⟨HR.out.1.trans (hb4.out.mono HR.out.1.size), rfl⟩
    · simp only [if_neg hfull]
      go_enter Tryz.func17, Tryz.ntmps17
      go_upto_region 6 with (go_at_call 24; with_reducible refine HP2.out.mono ?_; rintro e w3 ⟨S, V, rfl, hr⟩; have HR := Lib.hid hr; clear hr)
      have HO : Hid (Calls Tryz.prog 25 #[.pointer (some ⟨S 0, 0, none⟩)] w3 fun e w' => e = .returned (.int .i64 O) ∧ Below w3.heap.size w3 w') := Lib.hid (by
        obtain ⟨hb, hn, h0, hA, -⟩ := HR.out
        have := hn.objects h0 hA HPL.out
        rw [HQ.out.1] at this
        exact this)
      have HLM : Hid (∀ u, Below w3.heap.size w3 u → Calls Tryz.prog 26 #[.pointer (some ⟨g, 0, none⟩)] u fun e w' => e = .returned (.int .i64 (lm : Int)) ∧ w' = u) := Lib.hid fun u hu => by
        have hb := HR.out.1
        have := (HH.out.hp.below (hb.trans (hu.mono hb.size))).limit
        rw [HQ.out.2.2.1] at this
        exact this
      have HLV : Hid (∀ u, Below w3.heap.size w3 u → Calls Tryz.prog 27 #[.pointer (some ⟨g, 0, none⟩)] u fun e w' => e = .returned (.int .i64 (lv : Int)) ∧ w' = u) := Lib.hid fun u hu => by
        have hb := HR.out.1
        have := (HH.out.hp.below (hb.trans (hu.mono hb.size))).live
        rw [HQ.out.2.1] at this
        exact this
      have HNN : Hid (∀ u, Below w3.heap.size w3 u → Calls Tryz.prog 28 #[.pointer (some ⟨gt, 0, none⟩), .pointer (some ⟨S 0, 0, none⟩)] u fun e w' => e = .returned (.int .i64 (nc : Int)) ∧ Below u.heap.size u w') := Lib.hid fun u hu => by
        obtain ⟨hb, hn, h0, hA, -⟩ := HR.out
        have := newNames_any (hn.below hu) (HH.out.tb.below (hb.trans (hu.mono hb.size))) h0 hA HPL.out
        rw [HQ.out.2.2.2.1] at this
        exact this
      have HTL : Hid (∀ u, Below w3.heap.size w3 u → Calls Tryz.prog 15 #[.pointer (some ⟨gt, 0, none⟩)] u fun e w' => e = .returned (.int .i64 (nl : Int)) ∧ w' = u) := Lib.hid fun u hu => by
        have hb := HR.out.1
        have := Sy.len_any (HH.out.tb.below (hb.trans (hu.mono hb.size)))
        rw [HQ.out.2.2.2.2] at this
        exact this.mono fun e w' ⟨a, b⟩ => ⟨a, b.symm⟩
      have dt : decide ((lm : Int) - (lv : Int) < O) = false := decide_eq_false (by omega)
      have dn : decide ((16384 : Int) - (nl : Int) < (nc : Int)) = false := decide_eq_false (by omega)
      go_wp2_with (first
        | (go_at_call 15; with_reducible refine (HTL.out _ hb7.out).mono ?_; rintro e w8 ⟨rfl, rfl⟩)
        | (go_at_call 28; with_reducible refine (HNN.out _ hb4.out).mono ?_; rintro e w7 ⟨rfl, hb7⟩; have hb7 := Lib.hid (hb4.out.trans (hb7.mono hb4.out.size)))
        | (go_at_call 27; with_reducible refine (HLV.out _ hb4.out).mono ?_; rintro e w6 ⟨rfl, rfl⟩)
        | (go_at_call 26; with_reducible refine (HLM.out _ hb4.out).mono ?_; rintro e w5 ⟨rfl, rfl⟩)
        | (go_at_call 25; with_reducible refine HO.out.mono ?_; rintro e w4 ⟨rfl, hb4⟩; have hb4 := Lib.hid hb4))
      go_ret3
      obtain ⟨hb, hn, h0, hA, hf⟩ := HR.out
      exact ⟨hb.trans (hb7.out.mono hb.size), S, V, rfl, hn.below hb7.out, h0, hA, hf⟩
end
end Go.Proofs.YthjjgpepgbfalaaGreatDoor
end
section
/-! All. -/
set_option maxRecDepth 20000
set_option linter.unusedSimpArgs false
set_option linter.unusedVariables false
namespace Go.Proofs.YthjjgpepgbfalaaGreatDoor
open Go.RowKit Go.Shelf

theorem pairsZ_nonneg {A : List Nd} (h : InvA A) (i : Nat) : 0 ≤ pairsZ (ndAt A i) := by
  unfold pairsZ
  split
  · split
    · rename_i hd
      have := (h.dot i hd).2
      have := List.length_pos_iff.2 this
      omega
    · omega
  · omega
/-- Each node has as many objects as lie in it, or one. -/
theorem objZ_is (x : Nd) : objZ x ≤ x.is.length + 1 := (objZ_le x).2
theorem sum_is {A : List Nd} (h : Ord A) : ∀ (n i : Nat), i < A.length → A.length ≤ i + n → ((pre A i).map fun j => (ndAt A j).is.length).sum + (ndAt A i).is.length = (pre A i).length
  | 0, i, hi, hn => by omega
  | n + 1, i, hi, hn => by
    rw [pre_step h hi]
    have key : ∀ (l : List Nat), (∀ j ∈ l, i < j ∧ j < A.length) → ((l.flatMap fun j => j :: pre A j).map fun j => (ndAt A j).is.length).sum + l.length = (l.flatMap fun j => j :: pre A j).length := by
      intro l
      induction l with
      | nil => intro _; rfl
      | cons a l ih =>
        intro hl
        have ha := hl a (List.mem_cons_self ..)
        have h1 := ih fun j hj => hl j (List.mem_cons_of_mem _ hj)
        have h2 := sum_is h n a ha.2 (by omega)
        rw [List.flatMap_cons, List.map_append, List.sum_append, List.length_append, List.map_cons, List.sum_cons, List.length_cons, List.length_cons]
        omega
    exact key _ (h i hi).1
theorem objsZ_sum (A : List Nd) : ∀ l : List Nat, objsZ A l ≤ ((l.map fun j => (ndAt A j).is.length).sum : Nat) + l.length
  | [] => by simp [objsZ]
  | i :: l => by
    have h1 := objsZ_sum A l
    have h2 := objZ_is (ndAt A i)
    have e : objsZ A (i :: l) = objZ (ndAt A i) + objsZ A l := rfl
    rw [e, List.map_cons, List.sum_cons, List.length_cons]
    omega
theorem pre_len {A : List Nd} (h : InvA A) (h0 : 0 < A.length) : (pre A 0).length + 1 ≤ A.length := by
  have hn := pre_nodup h A.length 0 h0 (by omega)
  have := nodup_le (0 :: pre A 0) (List.range A.length) (List.nodup_cons.2 ⟨fun e => by have := (pre_lt h.ord A.length 0 h0 (by omega) 0 e).1; omega, hn⟩) fun x hx => by
    rw [List.mem_range]
    rcases List.mem_cons.1 hx with rfl | hx
    · exact h0
    · exact (pre_lt h.ord A.length 0 h0 (by omega) x hx).2
  simpa using this
/-- A text's data need fewer than four objects for each byte. -/
theorem Parsed.objs {L : List UInt8} {A : List Nd} (h : Parsed L A) : 0 ≤ objsZ A (pre A 0) ∧ objsZ A (pre A 0) ≤ 4 * L.length ∧ (pre A 0).length ≤ 2 * L.length := by
  have h1 := objsZ_nonneg A (pre A 0) fun i _ => pairsZ_nonneg h.inv i
  have h2 := objsZ_sum A (pre A 0)
  have h3 := sum_is h.inv.ord A.length 0 h.pos (by omega)
  have h4 := pre_len h.inv h.pos
  have h5 := h.len
  omega
theorem setM_full {m : Hm} (h : FullL m.L) (v : Int × Int) (i : Int) (y : Int × Int) : FullL (setM m v i y).L := by
  unfold setM
  split
  · split
    · rename_i c hc
      intro j hj
      show ∃ d, clAt (m.L.set v.2.toNat (some (setC c i y))) j = some d
      rw [clAt_set (clAt_some hc)]
      split
      · exact ⟨_, rfl⟩
      · exact h j (by have : j < (m.L.set v.2.toNat (some (setC c i y))).length := hj; simpa using this)
    · exact h
  · exact h
theorem layS_full {m : Hm} (h : FullL m.L) (B : List Nd) (i : Nat) : FullL (layS m B i).L := by
  unfold layS
  split
  · generalize (ndAt B i).is.length = n
    induction n with
    | zero => exact h
    | succ n ih => exact setM_full ih _ _ _
  · generalize (pairsZ (ndAt B i)).toNat = n
    generalize m.L = L
    induction n with
    | zero => exact h
    | succ n ih =>
      unfold layC
      split
      · exact setM_full (setM_full ih _ _ _) _ _ _
      · exact setM_full ih _ _ _
theorem numM_pre (N : List ByteArray) (T : ByteArray) : ∃ R, Sy.numM N T = N ++ R := by
  unfold Sy.numM
  split
  · split
    · exact ⟨[], by simp⟩
    · exact ⟨[T], rfl⟩
  · exact ⟨[], by simp⟩
theorem bareM_pre (m : Hm) (N : List ByteArray) (A : List Nd) (i : Nat) : ∃ R, (bareM m N A i).2.2 = N ++ R := by
  unfold bareM
  repeat' split
  all_goals first
    | exact numM_pre _ _
    | exact ⟨[], by simp⟩
theorem foldB_pre : ∀ (d : List Nat) (s : Hm × List ByteArray × List Nd), ∃ R, (foldB s d).2.1 = s.2.1 ++ R
  | [], s => ⟨[], by simp [foldB]⟩
  | i :: d, s => by
    obtain ⟨R, h⟩ := bareM_pre s.1 s.2.1 s.2.2 i
    obtain ⟨R2, h2⟩ := foldB_pre d (bareS s i)
    refine ⟨R ++ R2, ?_⟩
    show (foldB (bareS s i) d).2.1 = _
    rw [h2]
    show (bareM s.1 s.2.1 s.2.2 i).2.2 ++ R2 = _
    rw [h, List.append_assoc]
/-- A memory and names that All may be asked of. -/
structure RdyH (m : Hm) (N : List ByteArray) : Prop where
  full : FullL m.L
  here : Here m.L
section
variable {m : Hm} {N : List ByteArray} {A : List Nd} {L : List UInt8}
theorem Parsed.built (h : Parsed L A) (hr : RdyH m N) (hl : m.lim ≤ 16384) (ho : (liveN m.L : Int) + objsZ A (pre A 0) ≤ m.lim) (hN : N.length + 2 * L.length ≤ 16383) : BuiltH m N A := by
  obtain ⟨-, -, h3⟩ := h.objs
  refine ⟨hr.full, hr.here, hl, h.inv, h.pos, fun i _ => pairsZ_nonneg h.inv i, roomB_of (fun i hi => (pre_lt h.inv.ord A.length 0 h.pos (by omega) i hi).2) (fun i _ => pairsZ_nonneg h.inv i) ho (by omega)⟩
theorem BuiltH.next (h : BuiltH m N A) : RdyH (laidM m N A (pre A 0)) (bldN m N A) ∧ (laidM m N A (pre A 0)).lim = m.lim ∧ (∃ R, bldN m N A = N ++ R) ∧ (bldN m N A).length ≤ N.length + (pre A 0).length := by
  obtain ⟨a, b, c, -, -⟩ := h.laid (pre A 0) [] (by simp)
  refine ⟨⟨?_, b⟩, c, foldB_pre _ _, foldB_names m N A (pre A 0)⟩
  obtain ⟨f, -⟩ := h.fold (pre A 0)
  unfold laidM
  have key : ∀ (d : List Nat) (M : Hm), FullL M.L → FullL (d.foldl (fun m' i => layS m' (bldB m N A) i) M).L := by
    intro d
    induction d with
    | nil => exact fun M h => h
    | cons i d ih => exact fun M h => ih _ (layS_full h _ _)
  exact key _ _ f
end
end Go.Proofs.YthjjgpepgbfalaaGreatDoor
end
section
/-! All: the data of a text. -/
set_option maxRecDepth 20000
set_option linter.unusedSimpArgs false
set_option linter.unusedVariables false
namespace Go.Proofs.YthjjgpepgbfalaaGreatDoor
open Go.RowKit Go.Shelf

/-- Behind data that were made. -/
def MadeW (w w' : World) (g gt : Nat) (F : Nat → Prop) (Ft : List Nat) (m : Hm) (N : List ByteArray) (A : List Nd) : Prop :=
  ∃ F' Ft', Bth w' g gt F' Ft' (laidM m N A (pre A 0)) (bldN m N A) ∧ Chp (bthF F Ft) (bthF F' Ft') w w'
/-- What All tells. -/
def AllR (w w' : World) (g gt : Nat) (F : Nat → Prop) (Ft : List Nat) (m : Hm) (N : List ByteArray) (L : List UInt8) (e : Ending) : Prop := match parseT L with
  | (none, n, x) => e = .returned (.tuple #[.slice none 0 0, .int .i64 (n : Int), .int .i64 x]) ∧ x ≠ 0 ∧ Below w.heap.size w w'
  | (some A, _, _) => if (m.lim : Int) - (liveN m.L : Int) < objsZ A (pre A 0) then e = .returned (.tuple #[.slice none 0 0, .int .i64 (L.length : Int), .int .i64 8]) ∧ Below w.heap.size w w'
    else ∃ q c, e = .returned (.tuple #[.slice q (ndAt A 0).is.length c, .int .i64 (L.length : Int), .int .i64 0]) ∧ w'.ownsRow w.heap.size 36 2 (.slice q (ndAt A 0).is.length c) (ndAt A 0).is.length (flatV (bldV m N A)) ∧ MadeW w w' g gt F Ft m N A
section
variable {w w2 w3 : World} {g gt : Nat} {F : Nat → Prop} {Ft : List Nat} {m : Hm} {N : List ByteArray} {A : List Nd} {S : Nat → Nat} {V : Nat → Value}
/-- build behind fitting. -/
theorem made_of (h : Bth w g gt F Ft m N) (hb : Below w.heap.size w w2) (hn : Nds w2 S V A) (hf : ∀ k, footN S V A.length k → w.heap.size ≤ k) {e : Ending} (hr : BuildR w2 w3 g gt F Ft S V m N A e) :
    ∃ q c, e = .returned (.slice q (ndAt A 0).is.length c) ∧ w3.ownsRow w.heap.size 36 2 (.slice q (ndAt A 0).is.length c) (ndAt A 0).is.length (flatV (bldV m N A)) ∧ MadeW w w3 g gt F Ft m N A := by
  obtain ⟨v, rfl, ho, F', Ft', k1, k2, k3⟩ := hr
  obtain ⟨q, c, rfl⟩ := own_form ho
  refine ⟨q, c, rfl, own_low ho hb.size, F', Ft', k1, ⟨k2.os.trans hb.os, k2.tape.trans hb.tape, k2.output.trans hb.output, Nat.le_trans hb.size k2.size, fun k hk hF => ?_, fun k hk => ?_⟩⟩
  · refine (k2.block k (Nat.lt_of_lt_of_le hk hb.size) fun e => ?_).trans (hb.block k hk)
    rcases e with e | e
    · exact hF e
    · have := hf k e; omega
  · rcases k2.fresh k (.inl hk) with (e | e) | e
    · exact .inl e
    · exact .inr (hf k e)
    · exact .inr (Nat.le_trans hb.size e)
set_option maxHeartbeats 3200000 in
theorem all_any (hE : Lx.Env w) (h : Bth w g gt F Ft m N) (hr : RdyH m N) (T : ByteArray) (hS : T.size ≤ 9223372036854775807) (hN : T.size ≤ 4096 → N.length + 2 * T.size ≤ 16383) :
    Calls Tryz.prog 10 #[.pointer (some ⟨g, 0, none⟩), .pointer (some ⟨gt, 0, none⟩), .string T] w fun e w' => AllR w w' g gt F Ft m N (Lx.tl T) e := by
  have hlen : (Lx.tl T).length = T.size := Lx.tl_len T
  have HF := Lib.hid (fitting_any hE h T hS (fun A n x hp => by
    obtain ⟨hP, h1, -⟩ := parsed hp
    obtain ⟨h2, h3, h4⟩ := hP.objs
    have h5 := hP.short
    have h6 := hN (by omega)
    exact ⟨by omega, ⟨by omega, by omega⟩, h1⟩))
  unfold AllR
  unfold FitR at HF
  cases hp : parseT (Lx.tl T) with
  | mk r nx =>
  obtain ⟨n, x⟩ := nx
  rw [hp] at HF
  cases r with
  | none =>
    have HF2 : Hid (Calls Tryz.prog 17 #[.pointer (some ⟨g, 0, none⟩), .pointer (some ⟨gt, 0, none⟩), .string T] w fun e w' => Below w.heap.size w w' ∧ e = .returned (.tuple #[.pointer none, .int .i64 (n : Int), .int .i64 x]) ∧ x ≠ 0) := HF
    simp only
    clear h hN hp HF hlen hE hr
    go_enter Tryz.func10, Tryz.ntmps10
    go_upto_region 2 with (go_at_call 17; with_reducible refine HF2.out.mono ?_; rintro e w3 ⟨hb, rfl, hx⟩)
    have hb := Lib.hid hb
    have dx : (x != 0) = true := by simp [hx]
    have HX := Lib.hid hx
    clear hx
    go_wp2_with fail
    go_ret3
    exact ⟨rfl, HX.out, hb.out⟩
  | some A =>
    obtain ⟨hP, h1, -⟩ := parsed hp
    have hsz : (T.size : Int) ≤ 1000000 := by have := hP.short; omega
    simp only
    by_cases hfull : (m.lim : Int) - (liveN m.L : Int) < objsZ A (pre A 0)
    · have HF2 : Hid (Calls Tryz.prog 17 #[.pointer (some ⟨g, 0, none⟩), .pointer (some ⟨gt, 0, none⟩), .string T] w fun e w' => Below w.heap.size w w' ∧ e = .returned (.tuple #[.pointer none, .int .i64 (T.size : Int), .int .i64 8])) := Lib.hid (HF.out.mono fun e w' ⟨hb, he⟩ => ⟨hb, by
        have he2 : (if (m.lim : Int) - (liveN m.L : Int) < objsZ A (pre A 0) then e = .returned (.tuple #[.pointer none, .int .i64 ((Lx.tl T).length : Int), .int .i64 8]) else _) := he
        rw [if_pos hfull, hlen] at he2
        exact he2⟩)
      simp only [if_pos hfull]
      rw [hlen]
      clear h hN hp HF hlen hE hr hP hfull
      go_enter Tryz.func10, Tryz.ntmps10
      go_wp2_with (go_at_call 17; with_reducible refine HF2.out.mono ?_; rintro e w3 ⟨hb, rfl⟩; have hb := Lib.hid hb)
      go_ret3
      exact ⟨rfl, hb.out⟩
    · have HF2 : Hid (Calls Tryz.prog 17 #[.pointer (some ⟨g, 0, none⟩), .pointer (some ⟨gt, 0, none⟩), .string T] w fun e w' => ∃ S V, e = .returned (.tuple #[.pointer (some ⟨S 0, 0, none⟩), .int .i64 (T.size : Int), .int .i64 0]) ∧ Below w.heap.size w w' ∧ Nds w' S V A ∧ 0 < A.length ∧ A.length ≤ 20000 ∧ ∀ k, footN S V A.length k → w.heap.size ≤ k) := Lib.hid (HF.out.mono fun e w' ⟨hb, he⟩ => by
        have he2 : (if (m.lim : Int) - (liveN m.L : Int) < objsZ A (pre A 0) then _ else ∃ S V, e = .returned (.tuple #[.pointer (some ⟨S 0, 0, none⟩), .int .i64 ((Lx.tl T).length : Int), .int .i64 0]) ∧ Nds w' S V A ∧ 0 < A.length ∧ A.length ≤ 20000 ∧ ∀ k, footN S V A.length k → w.heap.size ≤ k) := he
        rw [if_neg hfull, hlen] at he2
        obtain ⟨S, V, h1, h2⟩ := he2
        exact ⟨S, V, h1, hb, h2⟩)
      have H := hP.built hr h.hp.ok.l1 (by omega) (by rw [hlen]; exact hN (by have := hP.short; omega))
      have HB : Hid (∀ w2 S V, Below w.heap.size w w2 → Nds w2 S V A → A.length ≤ 20000 → (∀ k, footN S V A.length k → w.heap.size ≤ k) → Calls Tryz.prog 18 #[.pointer (some ⟨g, 0, none⟩), .pointer (some ⟨gt, 0, none⟩), .pointer (some ⟨S 0, 0, none⟩)] w2 fun e w' => ∃ q c, e = .returned (.slice q (ndAt A 0).is.length c) ∧ w'.ownsRow w.heap.size 36 2 (.slice q (ndAt A 0).is.length c) (ndAt A 0).is.length (flatV (bldV m N A)) ∧ MadeW w w' g gt F Ft m N A) := Lib.hid fun w2 S V hb hn hA hf =>
        (rbuild_any H hP.done hA (h.below hb) hn (fun k hk e => by have h1 := hf k hk; have h2 := h.lt k e; omega)).mono fun e w' hx => made_of h hb hn hf hx
      simp only [if_neg hfull]
      rw [hlen]
      clear h hN hp HF hlen hE hr hP hfull H
      go_enter Tryz.func10, Tryz.ntmps10
      go_wp2_with (first
        | (go_at_call 18; with_reducible refine (HB.out _ S V HR.out.1 HR.out.2.1 HR.out.2.2.2.1 HR.out.2.2.2.2).mono ?_; rintro e w4 ⟨q, c, rfl, hq⟩; have HQ := Lib.hid hq; clear hq)
        | (go_at_call 17; with_reducible refine HF2.out.mono ?_; rintro e w3 ⟨S, V, rfl, hr⟩; have HR := Lib.hid hr; clear hr))
      go_ret3
      exact ⟨q, c, rfl, HQ.out⟩
/-- All, and One, of a nil memory or a nil table. -/
theorem all_nil (gt : Option Addr) (T : ByteArray) (w : World) : Calls Tryz.prog 10 #[.pointer none, .pointer gt, .string T] w fun e w' => e = .returned (.tuple #[.slice none 0 0, .int .i64 0, .int .i64 1]) ∧ w' = w := by
  have HF : Hid (Calls Tryz.prog 17 #[.pointer none, .pointer gt, .string T] w fun e w' => e = .returned (.tuple #[.pointer none, .int .i64 0, .int .i64 1]) ∧ w' = w) := Lib.hid (by
    go_enter Tryz.func17, Tryz.ntmps17
    go_wp2_with fail
    go_ret3
    exact ⟨rfl, rfl⟩)
  go_enter Tryz.func10, Tryz.ntmps10
  go_wp2_with (go_at_call 17; with_reducible refine HF.out.mono ?_; rintro e w3 ⟨rfl, rfl⟩)
  go_ret3
  exact ⟨rfl, rfl⟩
end
end Go.Proofs.YthjjgpepgbfalaaGreatDoor
end
