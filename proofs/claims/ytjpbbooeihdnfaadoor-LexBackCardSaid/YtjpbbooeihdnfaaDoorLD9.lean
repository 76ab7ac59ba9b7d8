/- Scan: the tokens of a text, or its first fault. -/
import Derived.Test.YtjpbbooeihdnfaaDoorLD8
set_option maxRecDepth 20000
set_option linter.unusedSimpArgs false
set_option linter.unusedVariables false
namespace Go.Proofs.YtjpbbooeihdnfaaDoor
open Go.RowKit

theorem passM_ok {L : List UInt8} {n : Nat} (hn : n ≤ L.length) : (∀ m, passM L n = .pass m → 0 < m ∧ m ≤ L.length) ∧ (∀ x m b, passM L n ≠ .tok x m b) ∧ (∀ i e, passM L n = .err i e → e ≠ 0) := by
  unfold passM
  by_cases h0 : n = 0
  · rw [if_pos h0]
    exact ⟨fun m h => (by cases h), fun x m b h => (by cases h), fun i e h => by cases h; decide⟩
  · rw [if_neg h0]
    cases hiB (L.take n) with
    | none => exact ⟨fun m h => by injection h with h; omega, fun x m b h => (by cases h), fun i e h => (by cases h)⟩
    | some j => exact ⟨fun m h => (by cases h), fun x m b h => (by cases h), fun i e h => by cases h; decide⟩
theorem wordM_nil : (wordM []).2 = 4 := by decide
/-- A step of the scan takes no byte more than there are, and one at least. -/
theorem step_pos {L : List UInt8} (hL : L ≠ []) : (∀ n, stepM L = .pass n → 0 < n ∧ n ≤ L.length) ∧ (∀ x n b, stepM L = .tok x n b → 0 < n ∧ n ≤ L.length) ∧ (∀ i e, stepM L = .err i e → e ≠ 0) := by
  have hpos : 0 < L.length := List.length_pos_iff.2 hL
  have key : ∀ n, n ≤ L.length → ∀ st, st = passM L n → (∀ m, st = .pass m → 0 < m ∧ m ≤ L.length) ∧ (∀ x m b, st = .tok x m b → 0 < m ∧ m ≤ L.length) ∧ (∀ i e, st = .err i e → e ≠ 0) := fun n hn st hst => by
    obtain ⟨h1, h2, h3⟩ := passM_ok (L := L) hn
    rw [hst]
    exact ⟨h1, fun x m b h => absurd h (h2 x m b), h3⟩
  cases hq : L with
  | nil => exact absurd hq hL
  | cons c t =>
    rw [← hq]
    have hst : stepM L = (if isBlank c then passM L 1
      else if c = 59 then passM L (lineSz L)
      else if [35, 124].isPrefixOf L then passM L (remSz L)
      else if c = 34 then quotM L
      else match markO L with
      | some k => .tok ⟨k, 0, []⟩ (mks.getD k []).length false
      | none => match labO L with
        | some (k, n, z) => .tok ⟨k, n, []⟩ z (decide (k = 16))
        | none => wrdM L) := by rw [hq]; rfl
    rw [hst]
    split
    · exact key 1 hpos _ rfl
    · split
      · exact key _ ((List.takeWhile_sublist _).length_le) _ rfl
      · split
        · exact key _ (by have := rem_le _ L 0 0 (Nat.le_refl _); show remGo _ _ _ ≤ _; omega) _ rfl
        · split
          · unfold quotM
            by_cases hz : qsz L = 0
            · rw [if_pos hz]
              exact ⟨fun m h => (by cases h), fun x m b h => (by cases h), fun i e h => by cases h; decide⟩
            · rw [if_neg hz]
              obtain ⟨s1, s2, s3⟩ := qsz_spec hz hL
              cases unq (qsz L) ((L.take (qsz L - 1)).drop 1) 0 with
              | error j => exact ⟨fun m h => (by cases h), fun x m b h => (by cases h), fun i e h => by cases h; decide⟩
              | ok l => exact ⟨fun m h => (by cases h), fun x m b h => by injection h with h1 h2 h3; omega, fun i e h => (by cases h)⟩
          · cases hm : markO L with
            | some k =>
              have hk : k < 9 ∧ (mks.getD k []).isPrefixOf L = true := by
                have go : ∀ m, m ≤ 9 → markGo L m = some k → k < 9 ∧ (mks.getD k []).isPrefixOf L = true := by
                  intro m
                  induction m with
                  | zero => intro _ h; cases h
                  | succ m ih =>
                    intro hm9 h
                    have h2 : (if (mks.getD m []).isPrefixOf L then some m else markGo L m) = some k := h
                    split at h2
                    · rename_i hp
                      injection h2 with h2
                      subst h2
                      exact ⟨by omega, hp⟩
                    · exact ih (by omega) h2
                exact go 9 (Nat.le_refl _) hm
              have h1 := mk_len k hk.1
              have h2 := pre_len hk.2
              exact ⟨fun m h => (by cases h), fun x m b h => by injection h with e1 e2 e3; omega, fun i e h => (by cases h)⟩
            | none =>
              cases hl : labO L with
              | some x =>
                obtain ⟨k, n, z⟩ := x
                have hz : 0 < z ∧ z ≤ L.length := by
                  unfold labO at hl
                  by_cases hp : [35].isPrefixOf L = true
                  · rw [if_pos hp] at hl
                    dsimp only at hl
                    have hle := (List.takeWhile_sublist (l := L.drop 1) isDig).length_le
                    have hld : (L.drop 1).length = L.length - 1 := by simp
                    generalize (L.drop 1).takeWhile isDig = D at hl hle
                    by_cases hb : D.length < 1 ∨ 3 < D.length ∨ D.length = (L.drop 1).length
                    · rw [if_pos hb] at hl; cases hl
                    · rw [if_neg hb] at hl
                      split at hl
                      · injection hl with hl; injection hl with h1 h2; injection h2 with h2 h3; omega
                      · split at hl
                        · injection hl with hl; injection hl with h1 h2; injection h2 with h2 h3; omega
                        · cases hl
                  · rw [if_neg hp] at hl; cases hl
                exact ⟨fun m h => (by cases h), fun x m b h => by injection h with e1 e2 e3; omega, fun i e h => (by cases h)⟩
              | none =>
                show (∀ m, wrdM L = .pass m → _) ∧ (∀ x m b, wrdM L = .tok x m b → _) ∧ (∀ i e, wrdM L = .err i e → _)
                unfold wrdM
                by_cases hw : (wordM (L.take (wsz L))).2 ≠ 0
                · rw [if_pos hw]
                  exact ⟨fun m h => (by cases h), fun x m b h => (by cases h), fun i e h => by injection h with h1 h2; rw [← h2]; exact hw⟩
                · rw [if_neg hw]
                  have hne : L.take (wsz L) ≠ [] := fun e => hw (by rw [e, wordM_nil]; decide)
                  have hl0 : 0 < (L.take (wsz L)).length := List.length_pos_iff.2 hne
                  have hl1 : (L.take (wsz L)).length ≤ L.length := by rw [List.length_take]; omega
                  cases hiB (L.take (wsz L)) with
                  | some j => exact ⟨fun m h => (by cases h), fun x m b h => (by cases h), fun i e h => by cases h; decide⟩
                  | none => exact ⟨fun m h => (by cases h), fun x m b h => by injection h with e1 e2 e3; omega, fun i e h => (by cases h)⟩
/-- What comes behind a step. -/
def scanS (L : List UInt8) (g a : Nat) (l : List (Tk × Nat)) (ap : Bool) : St → (Option (List (Tk × Nat))) × Nat × Int
  | .err i e => if ap = false ∧ 0 < i then (none, a, 4) else (none, a + i, e)
  | .pass n => if ap = false then (none, a, 4) else scanM L g (a + n) false l
  | .tok t n b => if ap = false then (none, a, 4) else scanM L g (a + n) b (l ++ [(t, a)])
section
variable (L : List UInt8) (g a n i : Nat) (l : List (Tk × Nat)) (t : Tk) (b : Bool) (x : Int)
theorem s_err : scanS L g a l true (.err i x) = (none, a + i, x) := rfl
theorem s_pass : scanS L g a l true (.pass n) = scanM L g (a + n) false l := rfl
theorem s_tok : scanS L g a l true (.tok t n b) = scanM L g (a + n) b (l ++ [(t, a)]) := rfl
theorem s_pass0 : scanS L g a l false (.pass n) = (none, a, 4) := rfl
theorem s_tok0 : scanS L g a l false (.tok t n b) = (none, a, 4) := rfl
theorem s_err1 (h : 0 < i) : scanS L g a l false (.err i x) = (none, a, 4) := if_pos ⟨rfl, h⟩
theorem s_err2 (h : ¬ 0 < i) : scanS L g a l false (.err i x) = (none, a + i, x) := if_neg (fun e => h e.2)
end
theorem scanM_succ (L : List UInt8) (g a : Nat) (tight : Bool) (l : List (Tk × Nat)) (h : a < L.length) : scanM L (g + 1) a tight l = scanS L g a l (!tight || parts (L.getD a 0)) (stepM (L.drop a)) := by
  conv => lhs; rw [scanM]
  rw [if_neg (by omega)]
  cases stepM (L.drop a) <;> rfl
/-- What Scan tells. -/
def ScR (w w' : World) (r : (Option (List (Tk × Nat))) × Nat × Int) (e : Ending) : Prop :=
  Below w.heap.size w w' ∧ match r with
  | (some l, n, _) => ∃ v, e = .returned (.tuple #[v, .int .i64 (n : Int), .int .i64 0]) ∧ w'.ownsRow w.heap.size 30 4 v l.length (tkL l)
  | (none, n, x) => e = .returned (.tuple #[.slice none 0 0, .int .i64 (n : Int), .int .i64 x])
theorem ScR.no {w w' : World} {n : Nat} {x : Int} {e : Ending} (hb : Below w.heap.size w w') (h : e = .returned (.tuple #[.slice none 0 0, .int .i64 (n : Int), .int .i64 x])) : ScR w w' (none, n, x) e := ⟨hb, h⟩
/-- All of a text. -/
def scanT (L : List UInt8) : (Option (List (Tk × Nat))) × Nat × Int := if 4096 < L.length then (none, 0, 2) else scanM L (L.length + 1) 0 false []
set_option maxHeartbeats 3200000 in
theorem scan_any (S : ByteArray) (w : World) (hE : Env w) (hS : S.size ≤ 9223372036854775807) :
    Calls Tryd.prog 6 #[.string S] w fun e w' => ScR w w' (scanT (tl S)) e := by
  have hll := tl_len S
  unfold scanT
  by_cases h4 : 4096 < S.size
  · rw [if_pos (by rw [hll]; exact h4)]
    have hd : decide ((4096 : Int) < (S.size : Int)) = true := decide_eq_true (by omega)
    clear hll
    go_enter Tryd.func6, Tryd.ntmps6
    go_wp2_with fail
    go_ret3
    exact ⟨Below.refl _ _, rfl⟩
  · rw [if_neg (by rw [hll]; exact h4)]
    have hd : decide ((4096 : Int) < (S.size : Int)) = false := decide_eq_false (by omega)
    have hd2 : decide (4096 < S.size) = false := decide_eq_false h4
    have hS5 : S.size ≤ 5000 := by omega
    obtain ⟨RQ, hRQ⟩ : ∃ RQ, scanM (tl S) ((tl S).length + 1) 0 false [] = RQ := ⟨_, rfl⟩
    rw [hRQ]
    rw [hll] at hRQ
    have HL := Lib.hid hll
    have HEW := Lib.hid hE
    have HRQ := Lib.hid hRQ
    clear hE hRQ hll
    go_enter Tryd.func6, Tryd.ntmps6
    go_upto_region 4 with fail
    have HSC0 : Hid (Scn (w.alloc (.cells #[.string S, .int .i64 0, .slice none 0 0, .bool false] 34)) w.heap.size w.heap.size S 0 (.slice none 0 0) false []) := Lib.hid ⟨Nat.le_refl _, heap_alloc_new _ _, World.ownsRow_nil _ _ _ _⟩
    have HB0 := Lib.hid (alloc_below w (.cells #[.string S, .int .i64 0, .slice none 0 0, .bool false] 34))
    generalize w.alloc (.cells #[.string S, .int .i64 0, .slice none 0 0, .bool false] 34) = W0 at *
    go_loopw [] (fun wr => Hid (∃ (a : Nat) (v : Value) (tight : Bool) (l : List (Tk × Nat)) (g : Nat), Scn wr w.heap.size w.heap.size S a v tight l ∧ a ≤ S.size ∧ l.length ≤ a ∧ Below w.heap.size w wr ∧ S.size - a < g ∧ scanM (tl S) g a tight l = RQ)) (fun wr => S.size - (intOf ((wr.cell? ⟨w.heap.size, 1, none⟩).getD undef)).toNat)
    case atStart => exact Lib.hid ⟨0, _, false, [], S.size + 1, HSC0.out, by omega, by simp, HB0.out, by omega, HRQ.out⟩
    case round =>
      obtain ⟨a, v, tight, l, g, hs, ha, hl, hb, hg, hq⟩ := hrel.out
      obtain ⟨⟨c0, c1, c2, c3⟩, fz⟩ := hs.cells
      have HR : Hid (Scn wr w.heap.size w.heap.size S a v tight l ∧ a ≤ S.size ∧ l.length ≤ a ∧ Below w.heap.size w wr) := Lib.hid ⟨hs, ha, hl, hb⟩
      clear hrel fz hl hb
      have haI : (a : Int) ≤ (S.size : Int) := by omega
      by_cases hlt : a < S.size
      · cases g with
        | zero => omega
        | succ g =>
          obtain ⟨st, hst⟩ : ∃ st, stepM ((tl S).drop a) = st := ⟨_, rfl⟩
          obtain ⟨ap, hap⟩ : ∃ ap, (!tight || parts ((tl S).getD a 0)) = ap := ⟨_, rfl⟩
          have hun : RQ = scanS (tl S) g a l ap st := by
            rw [← hq, ← hst, ← hap, scanM_succ _ _ _ _ _ (by rw [HL.out]; exact hlt)]
          have hne : (tl S).drop a ≠ [] := fun e => by
            have := congrArg List.length e
            rw [List.length_drop, HL.out] at this
            simp at this; omega
          obtain ⟨sp1, sp2, sp3⟩ := step_pos hne
          rw [hst] at sp1 sp2 sp3
          have hdl : ((tl S).drop a).length = S.size - a := by rw [List.length_drop, HL.out]
          rw [hdl] at sp1 sp2
          have HAP : Hid (∀ n, Calls Tryd.prog 8 #[.pointer (some ⟨w.heap.size, 0, none⟩)] (wr.drewN n) fun e w' => e = .returned (.bool ap) ∧ ∃ m, w' = (wr.drewN n).drewN m) := Lib.hid fun n => by
            have h := (HR.out.1.below (below_drewN (Below.refl _ _) n)).apart hlt
            rw [hap] at h
            exact h
          have HNX : Hid (∀ w1, Below wr.heap.size wr w1 → Calls Tryd.prog 9 #[.pointer (some ⟨w.heap.size, 0, none⟩)] w1 fun e w' => e = .returned (.tuple #[.int .i64 (stP a st), .int .i64 (stX st)]) ∧ Hid (Below w.heap.size w1 w' ∧ StS w' w.heap.size w.heap.size S a l st)) := Lib.hid fun w1 hb1 => by
            have h := (HR.out.1.below hb1).next (HEW.out.below (HR.out.2.2.2.trans (hb1.mono HR.out.2.2.2.size))) hS5 hlt HR.out.2.2.1
            rw [hst] at h
            exact h.mono fun e w' h => h.out
          clear hq hst hap hne hs hdl
          have hltI : (a : Int) < (S.size : Int) := by omega
          cases st with
          | err i x =>
            have hx := sp3 i x rfl
            have hx2 : (x == 0) = false := beq_false_of_ne hx
            have hx3 : (x != 0) = true := bne_iff_ne.2 hx
            have HNX2 : Hid (∀ w1, Below wr.heap.size wr w1 → Calls Tryd.prog 9 #[.pointer (some ⟨w.heap.size, 0, none⟩)] w1 fun e w' => e = .returned (.tuple #[.int .i64 ((a : Int) + (i : Int)), .int .i64 x]) ∧ Hid (Below w.heap.size w1 w')) := Lib.hid fun w1 hb1 => by
              refine (HNX.out w1 hb1).mono ?_
              rintro e w' ⟨rfl, h⟩
              exact ⟨by show Ending.returned (.tuple #[.int .i64 ((a + i : Nat) : Int), .int .i64 x]) = _; rw [Int.natCast_add], Lib.hid h.out.1⟩
            clear sp1 sp2 sp3 hx HNX
            cases ap with
            | true =>
              have HV : Hid ((none, a + i, x) = RQ) := by unfold Hid; rw [hun, s_err]
              clear hun
              go_wp2_with fail
              go_quiet ((go_at_call 8; exact Calls.quiet_of (HAP.out _)))
              have HB1 : Hid (Below wr.heap.size wr (wr.drewN nq)) := Lib.hid (below_drewN (Below.refl _ _) nq)
              generalize wr.drewN nq = w1 at *
              go_wp2_with (go_at_call 9; refine (HNX2.out _ HB1.out).mono ?_; rintro e w2 ⟨rfl, HP⟩)
              go_ret3
              rw [← HV.out]
              exact ScR.no (HR.out.2.2.2.trans ((HB1.out.mono HR.out.2.2.2.size).trans HP.out)) (by rw [Int.natCast_add]; rfl)
            | false =>
              by_cases hi : 0 < i
              · have HV : Hid ((none, a, 4) = RQ) := by unfold Hid; rw [hun, s_err1 _ _ _ _ _ _ hi]
                have hd3 : decide ((a : Int) < (a : Int) + (i : Int)) = true := decide_eq_true (by omega)
                clear hun hi
                go_wp2_with fail
                go_quiet ((go_at_call 8; exact Calls.quiet_of (HAP.out _)))
                have HB1 : Hid (Below wr.heap.size wr (wr.drewN nq)) := Lib.hid (below_drewN (Below.refl _ _) nq)
                generalize wr.drewN nq = w1 at *
                go_wp2_with (go_at_call 9; refine (HNX2.out _ HB1.out).mono ?_; rintro e w2 ⟨rfl, HP⟩)
                go_ret3
                rw [← HV.out]
                exact ScR.no (HR.out.2.2.2.trans ((HB1.out.mono HR.out.2.2.2.size).trans HP.out)) rfl
              · have HV : Hid ((none, a + i, x) = RQ) := by unfold Hid; rw [hun, s_err2 _ _ _ _ _ _ hi]
                have hd3 : decide ((a : Int) < (a : Int) + (i : Int)) = false := decide_eq_false (by omega)
                have hd4 : ¬ ((a : Int) < (a : Int) + (i : Int)) := by omega
                clear hun hi
                go_wp2_with fail
                go_quiet ((go_at_call 8; exact Calls.quiet_of (HAP.out _)))
                have HB1 : Hid (Below wr.heap.size wr (wr.drewN nq)) := Lib.hid (below_drewN (Below.refl _ _) nq)
                generalize wr.drewN nq = w1 at *
                go_wp2_with (go_at_call 9; refine (HNX2.out _ HB1.out).mono ?_; rintro e w2 ⟨rfl, HP⟩)
                go_ret3
                rw [← HV.out]
                exact ScR.no (HR.out.2.2.2.trans ((HB1.out.mono HR.out.2.2.2.size).trans HP.out)) (by rw [Int.natCast_add]; rfl)
          | pass n =>
            obtain ⟨hn0, hnS⟩ := sp1 n rfl
            have HNX2 : Hid (∀ w1, Below wr.heap.size wr w1 → Calls Tryd.prog 9 #[.pointer (some ⟨w.heap.size, 0, none⟩)] w1 fun e w' => e = .returned (.tuple #[.int .i64 0, .int .i64 0]) ∧ Hid (Below w.heap.size w1 w' ∧ ∃ v', Scn w' w.heap.size w.heap.size S (a + n) v' false l)) := Lib.hid fun w1 hb1 => by
              refine (HNX.out w1 hb1).mono ?_
              rintro e w' ⟨rfl, h⟩
              exact ⟨rfl, h⟩
            have HNS : Hid (0 < n ∧ a + n ≤ S.size) := Lib.hid ⟨hn0, by omega⟩
            clear sp1 sp2 sp3 hn0 hnS HNX
            cases ap with
            | true =>
              have HV : Hid (scanM (tl S) g (a + n) false l = RQ) := by unfold Hid; first | rw [hun, s_pass] | rw [hun, s_tok]
              clear hun
              go_wp2_with fail
              go_quiet ((go_at_call 8; exact Calls.quiet_of (HAP.out _)))
              have HB1 : Hid (Below wr.heap.size wr (wr.drewN nq)) := Lib.hid (below_drewN (Below.refl _ _) nq)
              generalize wr.drewN nq = w1 at *
              go_wp2_with (go_at_call 9; refine (HNX2.out _ HB1.out).mono ?_; rintro e w2 ⟨rfl, HP⟩)
              have HQ : Hid (∃ v', Scn w2 w.heap.size w.heap.size S (a + n) v' false l) := HP.out.2
              have hcell : w2.cell? ⟨w.heap.size, 1, none⟩ = some (.int .i64 ((a + n : Nat) : Int)) := by
                obtain ⟨v', h'⟩ := HQ.out
                exact h'.cells.1.2.1
              go_roundw
              case rel =>
                obtain ⟨v', h'⟩ := HQ.out
                exact Lib.hid ⟨a + n, v', false, l, g, h', HNS.out.2, by have := HR.out.2.2.1; have := HNS.out.1; simp; omega, HR.out.2.2.2.trans ((HB1.out.mono HR.out.2.2.2.size).trans HP.out.1), by have := HNS.out.1; omega, HV.out⟩
              case measure =>
                have := HNS.out
                rw [hcell, c1]
                simp [intOf]
                omega
            | false =>
              have HV : Hid ((none, a, 4) = RQ) := by unfold Hid; first | rw [hun, s_pass0] | rw [hun, s_tok0]
              clear hun
              go_wp2_with fail
              go_quiet ((go_at_call 8; exact Calls.quiet_of (HAP.out _)))
              have HB1 : Hid (Below wr.heap.size wr (wr.drewN nq)) := Lib.hid (below_drewN (Below.refl _ _) nq)
              generalize wr.drewN nq = w1 at *
              go_wp2_with (go_at_call 9; refine (HNX2.out _ HB1.out).mono ?_; rintro e w2 ⟨rfl, HP⟩)
              go_ret3
              rw [← HV.out]
              exact ScR.no (HR.out.2.2.2.trans ((HB1.out.mono HR.out.2.2.2.size).trans HP.out.1)) rfl
          | tok t n b =>
            obtain ⟨hn0, hnS⟩ := sp2 t n b rfl
            have HNX2 : Hid (∀ w1, Below wr.heap.size wr w1 → Calls Tryd.prog 9 #[.pointer (some ⟨w.heap.size, 0, none⟩)] w1 fun e w' => e = .returned (.tuple #[.int .i64 0, .int .i64 0]) ∧ Hid (Below w.heap.size w1 w' ∧ ∃ v', Scn w' w.heap.size w.heap.size S (a + n) v' b (l ++ [(t, a)]))) := Lib.hid fun w1 hb1 => by
              refine (HNX.out w1 hb1).mono ?_
              rintro e w' ⟨rfl, h⟩
              exact ⟨rfl, h⟩
            have HNS : Hid (0 < n ∧ a + n ≤ S.size) := Lib.hid ⟨hn0, by omega⟩
            clear sp1 sp2 sp3 hn0 hnS HNX
            cases ap with
            | true =>
              have HV : Hid (scanM (tl S) g (a + n) b (l ++ [(t, a)]) = RQ) := by unfold Hid; first | rw [hun, s_pass] | rw [hun, s_tok]
              clear hun
              go_wp2_with fail
              go_quiet ((go_at_call 8; exact Calls.quiet_of (HAP.out _)))
              have HB1 : Hid (Below wr.heap.size wr (wr.drewN nq)) := Lib.hid (below_drewN (Below.refl _ _) nq)
              generalize wr.drewN nq = w1 at *
              go_wp2_with (go_at_call 9; refine (HNX2.out _ HB1.out).mono ?_; rintro e w2 ⟨rfl, HP⟩)
              have HQ : Hid (∃ v', Scn w2 w.heap.size w.heap.size S (a + n) v' b (l ++ [(t, a)])) := HP.out.2
              have hcell : w2.cell? ⟨w.heap.size, 1, none⟩ = some (.int .i64 ((a + n : Nat) : Int)) := by
                obtain ⟨v', h'⟩ := HQ.out
                exact h'.cells.1.2.1
              go_roundw
              case rel =>
                obtain ⟨v', h'⟩ := HQ.out
                exact Lib.hid ⟨a + n, v', b, (l ++ [(t, a)]), g, h', HNS.out.2, by have := HR.out.2.2.1; have := HNS.out.1; simp; omega, HR.out.2.2.2.trans ((HB1.out.mono HR.out.2.2.2.size).trans HP.out.1), by have := HNS.out.1; omega, HV.out⟩
              case measure =>
                have := HNS.out
                rw [hcell, c1]
                simp [intOf]
                omega
            | false =>
              have HV : Hid ((none, a, 4) = RQ) := by unfold Hid; first | rw [hun, s_pass0] | rw [hun, s_tok0]
              clear hun
              go_wp2_with fail
              go_quiet ((go_at_call 8; exact Calls.quiet_of (HAP.out _)))
              have HB1 : Hid (Below wr.heap.size wr (wr.drewN nq)) := Lib.hid (below_drewN (Below.refl _ _) nq)
              generalize wr.drewN nq = w1 at *
              go_wp2_with (go_at_call 9; refine (HNX2.out _ HB1.out).mono ?_; rintro e w2 ⟨rfl, HP⟩)
              go_ret3
              rw [← HV.out]
              exact ScR.no (HR.out.2.2.2.trans ((HB1.out.mono HR.out.2.2.2.size).trans HP.out.1)) rfl
      · have hae : a = S.size := by omega
        subst hae
        have HV : Hid ((some l, S.size, 0) = RQ) := by
          rw [← hq]
          cases g with
          | zero => rfl
          | succ g => unfold Hid; rw [scanM, if_pos (by rw [HL.out]; exact Nat.le_refl _)]
        obtain ⟨qa, m, cq, hvs⟩ : ∃ q m cq, v = .slice q m cq := by
          rcases HR.out.1.own.2 with ⟨hv, _⟩ | ⟨g, cap, cur, hv, _⟩
          · exact ⟨_, _, _, hv⟩
          · exact ⟨_, _, _, hv⟩
        subst hvs
        clear hq hs hg hlt
        go_wp2_with fail
        go_ret3
        rw [← HV.out]
        exact ⟨HR.out.2.2.2, _, rfl, HR.out.1.own⟩
end Go.Proofs.YtjpbbooeihdnfaaDoor
