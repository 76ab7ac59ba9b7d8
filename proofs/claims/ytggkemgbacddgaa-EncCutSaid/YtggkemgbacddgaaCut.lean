/- The law EncCut returns true for any things and any cut: the walk. -/
import Derived.Test.YtggkemgbacddgaaSameA
import Derived.Test.YtggkemgbacddgaaLives
namespace Go.Proofs.Ytggkemgbacddgaa
open Go.RowKit

structure CutRel (w wr : World) (g d : Nat) (f : Nat → Opv) (n t i : Nat) : Prop where
  rd : Rd wr g d (List.take (t - (encs f i).length) (encsFrom f i (n - i))) 0
  le : (encs f i).length ≤ t
  below : Below w.heap.size w wr
set_option maxRecDepth 100000 in
set_option maxHeartbeats 1600000 in
theorem cut_short (q : Option Addr) (n c : Nat) (f : Nat → Opv) (x : Int) (w : World) (hn : n ≤ 40) (hx0 : -9223372036854775808 ≤ x) (hx1 : x ≤ 9223372036854775807) (hnc : n ≤ c)
    (HA : Hid (Calls Try.prog 13 #[.slice q n c] w (AllPost w n f))) (HO : Hid (0 < n → ∃ b o, q = some ⟨b, o, none⟩ ∧ OpsAt w b o n f)) :
    Calls Try.prog 5 #[.slice q n c, .int .i64 x] w fun e w' => e = .returned (.bool true) ∧ Below w.heap.size w w' := by
  have hd : decide ((40 : Int) < (n : Int)) = false := decide_eq_false (by omega)
  have HDG : Hid (∀ y ∈ encs f n, y < 256) := Lib.hid (by
    rcases Nat.eq_zero_or_pos n with h0 | h0
    · subst h0; intro y hy; cases hy
    · obtain ⟨b, o, _, hP⟩ := HO.out h0
      exact encs_dig hP n (Nat.le_refl _))
  go_enter Try.func5, Try.ntmps5
  go_wp2_with fail
  refine (HA.out).mono ?_
  rintro e w1 ⟨⟨rfl, _⟩ | ⟨v, rfl, hM, hsm⟩, hb⟩
  · have HB := Lib.hid hb
    clear hb
    go_wp2_with fail
    refine (lives_any _).mono ?_
    rintro e w2 ⟨rfl, hb⟩
    have HB2 := Lib.hid (HB.out.trans (hb.mono HB.out.size))
    clear hb
    go_wp2_with fail
    go_ret
    exact ⟨rfl, HB2.out⟩
  · have hL : (encs f n).length ≤ 12400 := by
      rcases Nat.eq_zero_or_pos n with h0 | h0
      · subst h0; exact Nat.zero_le _
      · obtain ⟨b, o, _, hP⟩ := HO.out h0
        have := encs_len hP n (Nat.le_refl _) hsm
        omega
    obtain ⟨p, cc, rfl, hown⟩ := hM
    have HW := Lib.hid hb
    have HSM := Lib.hid hsm
    have HY : Hid (Bys w1 p (encs f n).length (encs f n)) := Lib.hid (Bys.own hown HDG.out)
    have HF := Lib.hid (own_fit hown)
    obtain ⟨L, HL⟩ : ∃ L, Hid ((encs f n).length = L) := ⟨_, Lib.hid rfl⟩
    rw [HL.out] at hL HY HF ⊢
    have hlc : L ≤ cc := HF.out.cap
    clear hb hown hsm HF
    obtain ⟨BB, HBB⟩ : ∃ BB, Hid (encs f n = BB) := ⟨_, Lib.hid rfl⟩
    rw [HBB.out] at HY HL HDG
    by_cases hneg : x < 0
    · have hd1 : decide (x < 0) = true := decide_eq_true hneg
      go_wp2_with fail
      refine (lives_any _).mono ?_
      rintro e w2 ⟨rfl, hb⟩
      have HB2 := Lib.hid (HW.out.trans (hb.mono HW.out.size))
      clear hb
      go_wp2_with fail
      go_ret
      exact ⟨rfl, HB2.out⟩
    · have hd1 : decide (x < 0) = false := decide_eq_false hneg
      by_cases hbig : (L : Int) ≤ x
      · have hd2 : decide ((L : Int) ≤ x) = true := decide_eq_true hbig
        go_wp2_with fail
        refine (lives_any _).mono ?_
        rintro e w2 ⟨rfl, hb⟩
        have HB2 := Lib.hid (HW.out.trans (hb.mono HW.out.size))
        clear hb
        go_wp2_with fail
        go_ret
        exact ⟨rfl, HB2.out⟩
      · obtain ⟨t, rfl⟩ := Int.eq_ofNat_of_zero_le (show 0 ≤ x by omega)
        have hd2 : decide ((L : Int) ≤ (t : Int)) = false := decide_eq_false hbig
        have hd3 : decide (L ≤ t) = false := decide_eq_false (by omega)
        have htc : t ≤ cc := by omega
        have htci : (t : Int) ≤ (cc : Int) := by omega
        have HYT := Lib.hid (HY.out.take (k := t) (by omega))
        go_wp2_with fail
        refine (read_any p t cc _ _ (by omega) HYT.out).mono ?_
        rintro e w2 ⟨⟨g, d, rfl, hg1, hg2, hd4, hd5, hR⟩, hb⟩
        have HW2 := Lib.hid (HW.out.trans (hb.mono HW.out.size))
        have hgw : w.heap.size ≤ g := Nat.le_trans HW.out.size hg1
        have HR := Lib.hid hR
        clear hb hR
        go_wp2_with fail
        have H0 : Hid (CutRel w w2 g d f n t 0) := Lib.hid ⟨by
          have h := encs_split f n 0
          rw [Nat.zero_add, HBB.out] at h
          show Rd w2 g d (List.take (t - 0) (encsFrom f 0 (n - 0))) 0
          rw [Nat.sub_zero, Nat.sub_zero, ← (show BB = encsFrom f 0 n from h)]; exact HR.out, Nat.zero_le _, HW2.out⟩
        clear HR hlc htc htci hg1 hg2 hd4 hd5
        go_loopw [8] (fun iv wr => ∃ i : Nat, i ≤ n ∧ iv = .int .i64 (i : Int) ∧ CutRel w wr g d f n t i) (fun iv _ => n - (intOf iv).toNat)
        case atStart => exact ⟨0, by omega, by go_num, H0.out⟩
        case round =>
          obtain ⟨i, hi, rfl, hrr⟩ := hrel
          have HR := Lib.hid hrr
          clear hrr H0
          have hspl := encs_split f (n - i) i
          rw [show i + (n - i) = n by omega, HBB.out] at hspl
          have hsl := congrArg List.length hspl
          rw [HL.out, List.length_append] at hsl
          have hle := HR.out.le
          by_cases hlt : i < n
          · obtain ⟨b, o, rfl, hP⟩ := HO.out (by omega)
            have HXW := Lib.hid (fun W (hb : Below w.heap.size w W) => (hP i hlt).below hb)
            have hxm := HSM.out i hlt
            have HF1 := Lib.hid ((hP i hlt).far hgw)
            have hxl := (hP i hlt).len hxm
            have HPI : Hid (OpsAt w b (o + i * 3) 1 (fun j => f (i + j))) := Lib.hid fun j hj => by
              obtain rfl : j = 0 := by omega
              simpa using hP i hlt
            have HP1 := Lib.hid (fun W (hb : Below w.heap.size w W) => all_core b (o + i * 3) 1 (c - i) (fun j => f (i + j)) W (by omega) (HPI.out.below hb))
            have HE1 : Hid (encs (fun j => f (i + j)) 1 = (f i).enc) := Lib.hid rfl
            have HT : Hid (encsFrom f i (n - i) = (f i).enc ++ encsFrom f (i + 1) (n - (i + 1))) := Lib.hid (by rw [show n - i = (n - (i + 1)) + 1 by omega]; rfl)
            have HN : Hid ((encs f (i + 1)).length = (encs f i).length + (f i).enc.length) := Lib.hid (by show (encs f i ++ (f i).enc).length = _; rw [List.length_append])
            obtain ⟨lf, hlf⟩ : ∃ lf, Hid (t - (encs f i).length = lf) := ⟨_, Lib.hid rfl⟩
            have hlfe := hlf.out
            have HR1 := Lib.hid HR.out.rd
            rw [hlf.out] at HR1
            have hlfb : lf ≤ 12400 := by omega
            have HLT : Hid ((List.take lf (encsFrom f i (n - i))).length = lf) := Lib.hid (by rw [List.length_take]; omega)
            have HW1 := Lib.hid HR.out.below
            have hicc : i ≤ c := by omega
            have hici : (i : Int) ≤ (c : Int) := by omega
            have hneq : ¬ c = i := by omega
            have hi1c : i + 1 ≤ c := by omega
            have hi1i : (i : Int) + 1 ≤ (c : Int) := by omega
            clear hspl hsl hP HR HPI
            generalize hRB : List.take lf (encsFrom f i (n - i)) = RB at *
            have HRB := Lib.hid hRB
            clear hRB
            have hx0 := (HXW.out _ HW1.out)
            generalize hfi : f i = y at *
            have HFI := Lib.hid hfi
            clear hfi
            have hll := left_any g d RB 0 wr HR1.out
            rw [HLT.out] at hll
            have HLL := Lib.hid hll
            clear hll hlfe hx0
            go_wp2_with fail
            refine (HLL.out).mono ?_
            rintro e w3 ⟨rfl, rfl⟩
            go_wp2_with fail
            refine (HP1.out _ HW1.out).mono ?_
            rintro e w4 ⟨hor, hb⟩
            obtain ⟨v4, rfl, q4, c4, rfl, _⟩ : ∃ v, e = .returned (.tuple #[v, .bool true]) ∧ ∃ q4 c4, v = .slice q4 y.enc.length c4 ∧ True := by
              rcases hor with ⟨_, hno⟩ | ⟨v, he, ⟨q4, c4, hv, _⟩, _⟩
              · exact absurd (fun j hj => by
                  obtain rfl : j = 0 := by omega
                  show (f (i + 0)).m ≤ 300
                  rw [Nat.add_zero, HFI.out]; exact hxm) hno
              · exact ⟨v, he, q4, c4, by rw [hv, HE1.out], trivial⟩
            have HR4 := Lib.hid (HR1.out.below hb)
            have HW4 := Lib.hid (HW1.out.trans (hb.mono HW1.out.size))
            have hx4 := HXW.out _ HW4.out
            have HX4 := Lib.hid hx4
            have m0 := hx4.c0
            have m1 := hx4.c1
            have m2 := hx4.c2
            obtain ⟨el, HEL⟩ : ∃ el, Hid (y.enc.length = el) := ⟨_, Lib.hid rfl⟩
            rw [HEL.out] at hxl HN ⊢
            clear hor hb hx4
            by_cases hcut : lf < el
            · have hd6 : decide ((lf : Int) < (el : Int)) = true := decide_eq_true (by omega)
              have hd7 : decide (lf < el) = true := decide_eq_true (by omega)
              have HB4 : Hid (RB = y.enc.take lf) := Lib.hid (by rw [← HRB.out, HT.out, List.take_append_of_le_length (by rw [HEL.out]; omega)])
              go_wp2_with fail
              refine (same_cut g d b _ lf y RB _ HR4 HB4 (by rw [HEL.out]; exact hcut) HX4.out hxm HF1.out).mono ?_
              rintro e w5 ⟨⟨z, rfl⟩, hwent⟩
              have HR5 := Lib.hid hwent.rd
              have HW5 := Lib.hid (hwent.only.below HW4.out HW4.out.size hgw)
              clear hwent m0 m1 m2
              cases z with
              | true =>
                go_wp2_with (first
                  | (go_at_call 19; refine (fault_any g d RB 3 _ HR5.out).mono ?_; rintro e w6 ⟨rfl, rfl⟩)
                  | (go_at_call 16; refine (end_fault g d RB 3 _ HR5.out rfl).mono ?_; rintro e w6 ⟨rfl, rfl⟩)
                  | (go_at_call 6; refine (lives_any _).mono ?_; rintro e w6 ⟨rfl, hb⟩; have HZ := Lib.hid (HW5.out.trans (Below.mono hb HW5.out.size)); clear hb))
                go_ret
                exact ⟨rfl, HZ.out⟩
              | false =>
                go_wp2_with (first
                  | (go_at_call 19; refine (fault_any g d RB 3 _ HR5.out).mono ?_; rintro e w6 ⟨rfl, rfl⟩)
                  | (go_at_call 16; refine (end_fault g d RB 3 _ HR5.out rfl).mono ?_; rintro e w6 ⟨rfl, rfl⟩)
                  | (go_at_call 6; refine (lives_any _).mono ?_; rintro e w6 ⟨rfl, hb⟩; have HZ := Lib.hid (HW5.out.trans (Below.mono hb HW5.out.size)); clear hb))
                go_ret
                exact ⟨rfl, HZ.out⟩
            · have hd6 : decide ((lf : Int) < (el : Int)) = false := decide_eq_false (by omega)
              have hd7 : decide (lf < el) = false := decide_eq_false (by omega)
              obtain ⟨R2, HR2⟩ : ∃ R2, Hid (List.take (lf - el) (encsFrom f (i + 1) (n - (i + 1))) = R2) := ⟨_, Lib.hid rfl⟩
              have HB4 : Hid (RB = y.enc ++ R2) := Lib.hid (by rw [← HRB.out, HT.out, List.take_append, List.take_of_length_le (by rw [HEL.out]; omega), HEL.out, HR2.out])
              have hrl : RB.length ≤ 1099511627776 := by rw [HLT.out]; omega
              obtain ⟨rl, hrl2⟩ : ∃ rl, Hid (lf - el = rl) := ⟨_, Lib.hid rfl⟩
              have HL2 : Hid (R2.length = lf - el) := Lib.hid (by
                have h := congrArg List.length HB4.out
                rw [HLT.out, List.length_append, HEL.out] at h
                omega)
              go_wp2_with fail
              refine (same_hit g d b _ y RB R2 _ HR4 hrl HB4 HX4.out hxm HF1.out).mono ?_
              rintro e w5 ⟨rfl, hwent⟩
              have HR5 := Lib.hid hwent.rd
              have HW5 := Lib.hid (hwent.only.below HW4.out HW4.out.size hgw)
              have hll := left_any g d R2 0 w5 HR5.out
              rw [HL2.out, hrl2.out] at hll
              have HLL := Lib.hid hll
              clear hwent m0 m1 m2 hll
              have hne : ((rl : Int) != (lf : Int) - (el : Int)) = false := by
                have h := hrl2.out
                rw [bne_eq_false_iff_eq]; omega
              go_wp2_with fail
              refine (HLL.out).mono ?_
              rintro e w6 ⟨rfl, rfl⟩
              go_wp2_with fail
              refine (fault_any g d R2 0 _ HR5.out).mono ?_
              rintro e w6 ⟨rfl, rfl⟩
              have HRel : Hid (CutRel w w5 g d f n t (i + 1)) := Lib.hid ⟨by
                have h := HR5.out
                rw [← HR2.out] at h
                rw [HN.out, show t - ((encs f i).length + el) = lf - el by have := hlf.out; omega]
                exact h, by rw [HN.out]; have := hlf.out; omega, HW5.out⟩
              go_wp2_with fail
              go_roundw
              case rel => exact ⟨i + 1, by omega, by go_num, HRel.out⟩
              case measure => simp [intOf]; omega
          · exfalso
            have hin : i = n := by omega
            rw [hin] at hle
            rw [HBB.out, HL.out] at hle
            omega
end Go.Proofs.Ytggkemgbacddgaa
