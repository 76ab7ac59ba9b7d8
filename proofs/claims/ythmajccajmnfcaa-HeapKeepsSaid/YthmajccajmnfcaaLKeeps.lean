/- What was added is there as it was. -/
import Derived.Test.YthmajccajmnfcaaLKeepJ
set_option maxRecDepth 20000
set_option linter.unusedSimpArgs false
namespace Go.Proofs.Ythmajccajmnfcaa
open Go.RowKit

set_option maxHeartbeats 25600000 in
theorem keeps_any (q1 q2 q r : Option Addr) (n1 c1 n2 c2 n c d e : Nat) (f1 f2 : Nat → Opv) (o : Ob) (w : World) (hn1 : n1 ≤ 9223372036854775807) (hn2 : n2 ≤ 9223372036854775807) (hO1 : OpsIn w q1 n1 f1) (hO2 : OpsIn w q2 n2 f2) (ho : ObV w q n r d o) :
    Calls Try.prog 3 #[.slice q1 n1 c1, .slice q2 n2 c2, .agg #[.int .i64 o.k, .slice q n c, .slice r d e]] w fun ex w' => ex = .returned (.bool true) ∧ Below w.heap.size w w' := by
  have HO := Lib.hid ho
  have hnl := ho.nl
  have hdl := ho.dl
  obtain ⟨b1, hb1⟩ : ∃ b, lightB f1 n1 = b := ⟨_, rfl⟩
  obtain ⟨b2, hb2⟩ : ∃ b, lightB f2 n2 = b := ⟨_, rfl⟩
  have HL1 : Hid (∀ w1, Below w.heap.size w w1 → Calls Try.prog 5 #[.slice q1 n1 c1] w1 fun e w' => e = .returned (.bool b1) ∧ w1 = w') := Lib.hid fun w1 hb => light_det q1 n1 c1 f1 w1 hn1 (hO1.below hb) b1 hb1
  have HL2 : Hid (∀ w1, Below w.heap.size w w1 → Calls Try.prog 5 #[.slice q2 n2 c2] w1 fun e w' => e = .returned (.bool b2) ∧ w1 = w') := Lib.hid fun w1 hb => light_det q2 n2 c2 f2 w1 hn2 (hO2.below hb) b2 hb2
  have HMA : Hid (b1 = true → ∀ w1, Below w.heap.size w w1 → Calls Try.prog 7 #[.slice q1 n1 c1] w1 fun e w' => ∃ g F m v, e = .returned (.tuple #[.pointer (some ⟨g, 0, none⟩), v]) ∧ (∃ qq nn cc, v = .agg #[.slice qq nn cc, .int .i64 40]) ∧ Hep w' g F m ∧ Here m.L ∧ Sm m.L ∧ Below w1.heap.size w1 w' ∧ (∀ k, F k → w1.heap.size ≤ k)) := Lib.hid fun hb w1 hw => made_any q1 n1 c1 f1 w1 (hO1.below hw) (lightB_iff.1 (hb1.trans hb))
  have HL := Lib.hid hb2
  have HO2 := Lib.hid hO2
  have HB0 : Hid (Below w.heap.size w (w.alloc (.cells #[.int .i64 o.k, .slice q n c, .slice r d e] 27))) := Lib.hid ((Below.refl _ _).alloc (Nat.le_refl _) _)
  have hx5 := heap_alloc_new w (.cells #[.int .i64 o.k, .slice q n c, .slice r d e] 27)
  have hsz : (w.alloc (.cells #[.int .i64 o.k, .slice q n c, .slice r d e] 27)).heap.size = w.heap.size + 1 := by simp
  clear hb1 hb2 hO1 hO2 ho hn1
  obtain ⟨k, HK⟩ : ∃ k, Hid (o.k = k) := ⟨_, Lib.hid rfl⟩
  rw [HK.out] at HB0 hx5 hsz ⊢
  have HLV : Hid (∀ w1, Below w.heap.size w w1 → Calls Try.prog 6 #[] w1 fun e w' => e = .returned (.bool true) ∧ Below w.heap.size w w') := Lib.hid fun w1 hb => (lives_any w1).mono fun e w' h => ⟨h.1, hb.trans (h.2.mono hb.size)⟩
  by_cases hbad : b1 = false ∨ b2 = false ∨ 300 < n ∨ 5000 < d
  · clear HO HO2 HMA HL HK hsz
    go_enter Try.func3, Try.ntmps3
    go_upto_region 1 with fail
    generalize w.alloc (.cells #[.int .i64 k, .slice q n c, .slice r d e] 27) = W1 at *
    have x0 := cell_of_row _ _ 0 _ _ _ hx5
    have x1 := cell_of_row _ _ 1 _ _ _ hx5
    have x2 := cell_of_row _ _ 2 _ _ _ hx5
    simp at x0 x1 x2
    cases b1 with
    | false =>
      clear hbad HL2
      go_wp2_with (first | (go_at_call 5; with_reducible refine (HL1.out _ HB0.out).mono ?_; rintro ex w2 ⟨rfl, rfl⟩) | (go_at_call 6; with_reducible refine (HLV.out _ HB0.out).mono ?_; rintro ex w2 ⟨rfl, hb⟩; have HB2 := Lib.hid hb; clear hb))
      go_ret
      exact ⟨rfl, HB2.out⟩
    | true =>
      cases b2 with
      | false =>
        clear hbad
        go_wp2_with (first | (go_at_call 5; first | (with_reducible refine (HL1.out _ HB0.out).mono ?_; rintro ex w2 ⟨rfl, rfl⟩) | (with_reducible refine (HL2.out _ HB0.out).mono ?_; rintro ex w2 ⟨rfl, rfl⟩)) | (go_at_call 6; with_reducible refine (HLV.out _ HB0.out).mono ?_; rintro ex w2 ⟨rfl, hb⟩; have HB2 := Lib.hid hb; clear hb))
        go_ret
        exact ⟨rfl, HB2.out⟩
      | true =>
        by_cases h3 : 300 < n
        · have d0 : decide (300 < n) = true := decide_eq_true h3
          have d1 : decide ((300 : Int) < (n : Int)) = true := by simp; omega
          clear hbad h3
          go_wp2_with (first | (go_at_call 5; first | (with_reducible refine (HL1.out _ HB0.out).mono ?_; rintro ex w2 ⟨rfl, rfl⟩) | (with_reducible refine (HL2.out _ HB0.out).mono ?_; rintro ex w2 ⟨rfl, rfl⟩)) | (go_at_call 6; with_reducible refine (HLV.out _ HB0.out).mono ?_; rintro ex w2 ⟨rfl, hb⟩; have HB2 := Lib.hid hb; clear hb))
          go_ret
          exact ⟨rfl, HB2.out⟩
        · have h5 : 5000 < d := by
            rcases hbad with h | h | h | h
            · cases h
            · cases h
            · exact absurd h h3
            · exact h
          have d0 : decide (300 < n) = false := decide_eq_false h3
          have d1 : decide ((300 : Int) < (n : Int)) = false := by simp; omega
          have e0 : decide (5000 < d) = true := decide_eq_true h5
          have e1 : decide ((5000 : Int) < (d : Int)) = true := by simp; omega
          clear hbad h3 h5
          go_wp2_with (first | (go_at_call 5; first | (with_reducible refine (HL1.out _ HB0.out).mono ?_; rintro ex w2 ⟨rfl, rfl⟩) | (with_reducible refine (HL2.out _ HB0.out).mono ?_; rintro ex w2 ⟨rfl, rfl⟩)) | (go_at_call 6; with_reducible refine (HLV.out _ HB0.out).mono ?_; rintro ex w2 ⟨rfl, hb⟩; have HB2 := Lib.hid hb; clear hb))
          go_ret
          exact ⟨rfl, HB2.out⟩
  · have h1 : b1 = true := by cases b1 with | true => rfl | false => exact absurd (.inl rfl) hbad
    have h2 : b2 = true := by cases b2 with | true => rfl | false => exact absurd (.inr (.inl rfl)) hbad
    subst h1 h2
    have h3 : ¬ 300 < n := fun h => hbad (.inr (.inr (.inl h)))
    have h5 : ¬ 5000 < d := fun h => hbad (.inr (.inr (.inr h)))
    have d0 : decide (300 < n) = false := decide_eq_false h3
    have d1 : decide ((300 : Int) < (n : Int)) = false := by simp; omega
    have e0 : decide (5000 < d) = false := decide_eq_false h5
    have e1 : decide ((5000 : Int) < (d : Int)) = false := by simp; omega
    have HND : Hid (n ≤ 300 ∧ d ≤ 5000) := Lib.hid ⟨by omega, by omega⟩
    clear hbad h3 h5
    have HMB := Lib.hid (HMA.out rfl)
    clear HMA
    go_enter Try.func3, Try.ntmps3
    go_upto_region 1 with fail
    generalize w.alloc (.cells #[.int .i64 k, .slice q n c, .slice r d e] 27) = W1 at *
    have HSZ := Lib.hid hsz
    have HX5 := Lib.hid hx5
    clear hsz
    have x0 := cell_of_row _ _ 0 _ _ _ hx5
    have x1 := cell_of_row _ _ 1 _ _ _ hx5
    have x2 := cell_of_row _ _ 2 _ _ _ hx5
    simp at x0 x1 x2
    go_upto_region 3 with (go_at_call 5; first | (with_reducible refine (HL1.out _ HB0.out).mono ?_; rintro ex w2 ⟨rfl, rfl⟩) | (with_reducible refine (HL2.out _ HB0.out).mono ?_; rintro ex w2 ⟨rfl, rfl⟩))
    clear HL1 HL2 d0 d1 e0 e1
    go_upto_region 4 with (go_at_call 7; with_reducible refine (HMB.out _ HB0.out).mono ?_; rintro ex w2 ⟨g, F, m, v, rfl, ⟨qq, nn, cc, rfl⟩, hh, hH, hS, hb, hF⟩)
    have HA2 := Lib.hid ((Below.refl w2.heap.size w2).alloc (Nat.le_refl _) (.cells #[.slice qq nn cc, .int .i64 40] 33))
    have hs2 := hb.size
    have HB2 := Lib.hid (HB0.out.trans (hb.mono HB0.out.size))
    have HB3 := Lib.hid (HB2.out.trans (HA2.out.mono HB2.out.size))
    have HH := Lib.hid (hh.below HA2.out)
    have hx3 := (HA2.out.block w.heap.size (by have := HSZ.out; omega)).trans ((hb.block w.heap.size (by have := HSZ.out; omega)).trans HX5.out)
    have HF : Hid (∀ k, F k → w.heap.size < k) := Lib.hid fun j hj => by have := hF j hj; have := HSZ.out; omega
    have HZ3 : Hid (w.heap.size < (w2.alloc (.cells #[.slice qq nn cc, .int .i64 40] 33)).heap.size) := Lib.hid (by have := HA2.out.size; have := HSZ.out; omega)
    clear hh hF hb hs2 x0 x1 x2 hx5 HX5 HA2 HSZ HMB
    generalize w2.alloc (.cells #[.slice qq nn cc, .int .i64 40] 33) = w3 at *
    have x0 := cell_of_row _ _ 0 _ _ _ hx3
    have x1 := cell_of_row _ _ 1 _ _ _ hx3
    have x2 := cell_of_row _ _ 2 _ _ _ hx3
    simp at x0 x1 x2
    have HAF := Lib.hid (add_first HH.out hH hS HB3.out HF.out HZ3.out o q r n c d e (HO.out.below HB3.out) HND.out.1 HND.out.2 (by rw [HK.out]; exact hx3))
    rw [HK.out] at HAF
    clear hx3
    go_upto_region 5 with (go_at_call 8; with_reducible refine HAF.out.mono ?_; rintro ex w4 ⟨v1, v2, er, rfl, hb4, hor⟩)
    clear HAF HH hH hS HF HZ3 x0 x1 x2 HB2 HB3 HB0
    have HB4 := Lib.hid hb4
    have hG := guardV
    rcases hor with ⟨rfl, rfl, hE⟩ | ⟨rfl, rfl, p, rfl, F4, m4, hkj, hch⟩
    · have HB5 := Lib.hid (hb4.alloc hb4.size (.cells #[.int .i64 0, .int .i64 0] 38))
      have hx9 := heap_alloc_new w4 (.cells #[.int .i64 0, .int .i64 0] 38)
      have hE1 := fun u => eqlV (0, 0) (0, 0) u
      clear hb4 HL HO2
      generalize w4.alloc (.cells #[.int .i64 0, .int .i64 0] 38) = w5 at *
      have y0 := cell_of_row _ _ 0 _ _ _ hx9
      have y1 := cell_of_row _ _ 1 _ _ _ hx9
      simp at y0 y1
      rcases hE with rfl | rfl
      · go_wp2_with (go_at_call 6; with_reducible refine (HLV.out _ HB5.out).mono ?_; rintro ex w6 ⟨rfl, hb⟩; have HB6 := Lib.hid hb; clear hb)
        go_ret
        exact ⟨rfl, HB6.out⟩
      · go_wp2_with (go_at_call 6; with_reducible refine (HLV.out _ HB5.out).mono ?_; rintro ex w6 ⟨rfl, hb⟩; have HB6 := Lib.hid hb; clear hb)
        go_ret
        exact ⟨rfl, HB6.out⟩
    · have HKJ := Lib.hid hkj
      have HCH := Lib.hid hch
      have HOW := Lib.hid (HO.out.w)
      clear hb4 hkj hch HB4
      generalize w4.alloc (.cells #[.int .i64 8, .int .i64 (p : Int)] 38) = w5 at *
      have hx9 := HKJ.out.b9
      have HS9 : Hid (w4.heap.size < w5.heap.size) := Lib.hid (Array.getElem?_eq_some_iff.1 hx9).1
      generalize w4.heap.size = s at *
      have y0 := cell_of_row _ _ 0 _ _ _ hx9
      have y1 := cell_of_row _ _ 1 _ _ _ hx9
      simp at y0 y1
      go_upto_region 9 with (go_at_call 9; with_reducible refine (HCH.out _ (Below.refl _ _)).mono ?_; rintro ex w6 ⟨rfl, hb6⟩)
      have HK6 := Lib.hid (HKJ.out.below' hb6)
      clear HKJ HCH hb6 hx9 y0 y1
      go_upto_region 10 with fail
      have hsw : s ≠ w.heap.size := by have := HK6.out.hs; omega
      clear HS9
      go_loopw [11] (fun iv wr => ∃ i : Nat, i ≤ n2 ∧ iv = .int .i64 (i : Int) ∧ ∃ F m, Hid (KeepJ w wr g s F m q n c r d e o p)) (fun iv _ => n2 - (intOf iv).toNat)
      case atStart => exact ⟨0, by omega, by go_num, F4, m4, HK6⟩
      case round =>
        obtain ⟨i, hi, rfl, F5, m5, HJ⟩ := hrel
        clear HK6
        by_cases hlt : i < n2
        · obtain ⟨B, a, rfl, hat⟩ := HO2.out (by omega)
          have hx := (hat i hlt).below HJ.out.below
          have hLi := (lightB_iff.1 HL.out).2 i hlt
          have HL50 := (lightB_iff.1 HL.out).1
          have hin : (i : Int) < (n2 : Int) := by omega
          have HKA : Hid (∀ W1, W1 = wr.alloc (.cells (opA (f2 i).kind (f2 i).i (f2 i).v.1 (f2 i).v.2 (f2 i).x.1 (f2 i).x.2 (f2 i).b (f2 i).o.k (f2 i).q (f2 i).n (f2 i).c (f2 i).p (f2 i).d (f2 i).e) 44) → KeepJ w W1 g s F5 m5 q n c r d e o p ∧ W1.heap[wr.heap.size]? = some (.cells (opA (f2 i).kind (f2 i).i (f2 i).v.1 (f2 i).v.2 (f2 i).x.1 (f2 i).x.2 (f2 i).b (f2 i).o.k (f2 i).q (f2 i).n (f2 i).c (f2 i).p (f2 i).d (f2 i).e) 44 (0, 0)) ∧
              (Calls Try.prog 8 #[.pointer (some ⟨g, 0, none⟩), .agg #[.int .i64 (f2 i).o.k, .slice (f2 i).q (f2 i).n (f2 i).c, .slice (f2 i).p (f2 i).d (f2 i).e]] W1 fun ex w' => ∃ v1 v2 er, ex = .returned (.tuple #[.agg #[.int .i64 v1, .int .i64 v2], .int .i64 er]) ∧ (er = 0 → (v1, v2) ≠ (8, (p : Int))) ∧ KeepR w W1 w' g s F5 q n c r d e o p) ∧
              (((f2 i).v.1, (f2 i).v.2) ≠ (8, (p : Int)) → 
                (Calls Try.prog 10 #[.pointer (some ⟨g, 0, none⟩), .agg #[.int .i64 (f2 i).v.1, .int .i64 (f2 i).v.2], .int .i64 (f2 i).i, .agg #[.int .i64 (f2 i).x.1, .int .i64 (f2 i).x.2]] W1 fun ex w' => (∃ er, ex = .returned (.int .i64 er)) ∧ KeepR w W1 w' g s F5 q n c r d e o p) ∧
                (Calls Try.prog 11 #[.pointer (some ⟨g, 0, none⟩), .agg #[.int .i64 (f2 i).v.1, .int .i64 (f2 i).v.2], .int .i64 (f2 i).i, .int .u8 ((f2 i).b : Int)] W1 fun ex w' => (∃ er, ex = .returned (.int .i64 er)) ∧ KeepR w W1 w' g s F5 q n c r d e o p) ∧
                (Calls Try.prog 12 #[.pointer (some ⟨g, 0, none⟩), .agg #[.int .i64 (f2 i).v.1, .int .i64 (f2 i).v.2]] W1 fun ex w' => (∃ b, ex = .returned (.bool b)) ∧ KeepR w W1 w' g s F5 q n c r d e o p))) := Lib.hid fun W1 hW => by
            have hb : Below wr.heap.size wr W1 := by rw [hW]; exact (Below.refl _ _).alloc (Nat.le_refl _) _
            have hk := HJ.out.below' hb
            exact ⟨hk, by rw [hW]; exact heap_alloc_new _ _, hk.add (f2 i).o _ _ _ _ _ _ (hx.o.below hb) hLi.1 hLi.2, fun hne => ⟨hk.setI _ _ _ _ _ hx.hv hx.hx hne, hk.setB _ _ _ _ hx.hv hx.hb hne, hk.drop _ _ hx.hv hne⟩⟩
          have HNF : Hid (¬ F5 wr.heap.size) := Lib.hid fun e => Nat.lt_irrefl _ (HJ.out.hep.lt _ e)
          have HTS : Hid (wr.heap.size ≠ s) := Lib.hid fun e => by
            have := (Array.getElem?_eq_some_iff.1 HJ.out.b9).1
            omega
          obtain ⟨x0, x1, x2, x3, x4, x5, x6, x7, x8, x9, -, -, -, -, -, -⟩ := hx
          clear hat hLi HL50
          generalize (f2 i).kind = fk at *
          generalize (f2 i).i = fi at *
          generalize (f2 i).v.1 = fv1 at *
          generalize (f2 i).v.2 = fv2 at *
          generalize (f2 i).x.1 = fx1 at *
          generalize (f2 i).x.2 = fx2 at *
          generalize (f2 i).b = fb at *
          generalize (f2 i).o.k = fo at *
          generalize (f2 i).q = fq at *
          generalize (f2 i).n = fn at *
          generalize (f2 i).c = fc at *
          generalize (f2 i).p = fp at *
          generalize (f2 i).d = fd at *
          generalize (f2 i).e = fe at *
          unfold opA at HKA
          go_upto_region 13 with fail
          clear x0 x1 x2 x3 x4 x5 x6 x7 x8 x9
          obtain ⟨W1, hW1⟩ : ∃ W1, W1 = wr.alloc (.cells #[.int .i64 fk, .int .i64 fi, .int .i64 fv1, .int .i64 fv2, .int .i64 fx1, .int .i64 fx2, .int .u8 (fb : Int), .int .i64 fo, .slice fq fn fc, .slice fp fd fe] 44) := ⟨_, rfl⟩
          obtain ⟨hk1, hz, hadd, hoth⟩ := HKA.out W1 hW1
          rw [← hW1]
          have HK1 := Lib.hid hk1
          unfold KeepR at hadd hoth
          have HADD := Lib.hid hadd
          have HOTH := Lib.hid hoth
          clear HKA hW1 hk1 hadd hoth HJ
          generalize wr.heap.size = t at *
          have b0 := cell_of_row _ _ 0 _ _ _ hz
          have b1 := cell_of_row _ _ 1 _ _ _ hz
          have b2 := cell_of_row _ _ 2 _ _ _ hz
          have b3 := cell_of_row _ _ 3 _ _ _ hz
          have b4 := cell_of_row _ _ 4 _ _ _ hz
          have b5 := cell_of_row _ _ 5 _ _ _ hz
          have b6 := cell_of_row _ _ 6 _ _ _ hz
          have b7 := cell_of_row _ _ 7 _ _ _ hz
          have b8 := cell_of_row _ _ 8 _ _ _ hz
          have b9 := cell_of_row _ _ 9 _ _ _ hz
          have y0 := cell_of_row _ _ 0 _ _ _ HK1.out.b9
          have y1 := cell_of_row _ _ 1 _ _ _ HK1.out.b9
          simp at b0 b1 b2 b3 b4 b5 b6 b7 b8 b9 y0 y1
          by_cases k0 : fk = 0
          · subst k0
            clear HOTH
            go_upto_region 15 with (go_at_call 8; with_reducible refine HADD.out.mono ?_; rintro ex w6' ⟨v1', v2', er, rfl, hne, F6, m6, hk6, hc6⟩)
            have hba : Below w6'.heap.size w6' (w6'.alloc (.cells #[.int .i64 v1', .int .i64 v2'] 38)) := (Below.refl _ _).alloc (Nat.le_refl _) _
            have HK8 := Lib.hid (hk6.below' hba)
            obtain ⟨hz6, -⟩ := box_stay hc6 hz HNF.out
            have hz8 := (hba.block t (lt_of_block hz6)).trans hz6
            have hx13 := heap_alloc_new w6' (.cells #[.int .i64 v1', .int .i64 v2'] 38)
            clear hk6 hc6 hz6 hba b0 b1 b2 b3 b4 b5 b6 b7 b8 b9 y0 y1 HK1 HADD HNF hz
            generalize w6'.alloc (.cells #[.int .i64 v1', .int .i64 v2'] 38) = w8 at *
            have b0 := cell_of_row _ _ 0 _ _ _ hz8
            have b2 := cell_of_row _ _ 2 _ _ _ hz8
            have b3 := cell_of_row _ _ 3 _ _ _ hz8
            have a0 := cell_of_row _ _ 0 _ _ _ hx13
            have a1 := cell_of_row _ _ 1 _ _ _ hx13
            have y0 := cell_of_row _ _ 0 _ _ _ HK8.out.b9
            have y1 := cell_of_row _ _ 1 _ _ _ HK8.out.b9
            simp at b0 b2 b3 a0 a1 y0 y1
            by_cases hE : er = 0
            · subst hE
              have hne2 := hne rfl
              have hE1 : ∀ u, (binOp .eql 38 (.agg #[.int .i64 v1', .int .i64 v2']) (.agg #[.int .i64 8, .int .i64 (p : Int)])).run Try.prog u = .ok (.bool false) u := fun u => by
                have h := eqlV (v1', v2') (8, (p : Int)) u
                rw [decide_eq_false hne2] at h
                exact h
              by_cases hV : (fv1, fv2) = (8, (p : Int))
              · have hN : ∀ u, (binOp .neq 38 (.agg #[.int .i64 fv1, .int .i64 fv2]) (.agg #[.int .i64 8, .int .i64 (p : Int)])).run Try.prog u = .ok (.bool false) u := fun u => by
                  have h := neqV (fv1, fv2) (8, (p : Int)) u
                  rw [decide_eq_true hV] at h
                  exact h
                go_upto_region 23 with fail
                have y0 := cell_of_row _ _ 0 _ _ _ HK8.out.b9
                have y1 := cell_of_row _ _ 1 _ _ _ HK8.out.b9
                simp at y0 y1
                have HOB := Lib.hid HK8.out.obj
                rw [HK.out] at HOB
                go_upto_region 24 with (go_at_call 13; with_reducible refine HOB.out.mono ?_; rintro ex w9 ⟨q3, n3, c3, r3, d3, e3, rfl, ⟨how, hn3⟩, hb9⟩)
                have hba : Below w9.heap.size w9 (w9.alloc (.cells #[.int .i64 k, .slice q3 n3 c3, .slice r3 d3 e3] 27)) := (Below.refl _ _).alloc (Nat.le_refl _) _
                have HK9 := Lib.hid ((HK8.out.below' hb9).below' hba)
                have hSA := same_any o o q3 r3 q r n3 c3 d3 e3 n c d e _ (how.below hba) (HOW.out.below HK9.out.below) (by omega) hnl
                rw [HK.out, show sameO o o = true from sameO_iff.2 rfl] at hSA
                have HSA := Lib.hid hSA
                have hx15 := heap_alloc_new w9 (.cells #[.int .i64 k, .slice q3 n3 c3, .slice r3 d3 e3] 27)
                clear hSA hba how HOB hb9 y0 y1 HK8
                generalize w9.alloc (.cells #[.int .i64 k, .slice q3 n3 c3, .slice r3 d3 e3] 27) = w10 at *
                have hx5 := HK9.out.b5
                rw [HK.out] at hx5
                have z0 := cell_of_row _ _ 0 _ _ _ hx15
                have z1 := cell_of_row _ _ 1 _ _ _ hx15
                have z2 := cell_of_row _ _ 2 _ _ _ hx15
                have x0 := cell_of_row _ _ 0 _ _ _ hx5
                have x1 := cell_of_row _ _ 1 _ _ _ hx5
                have x2 := cell_of_row _ _ 2 _ _ _ hx5
                simp at z0 z1 z2 x0 x1 x2
                go_wp2_with (go_at_call 14; with_reducible refine HSA.out.mono ?_; rintro ex w11 ⟨rfl, hb11⟩)
                have HK11 := Lib.hid (HK9.out.below' hb11)
                go_roundw
                case rel => exact ⟨i + 1, by omega, by go_num, _, _, HK11⟩
                case measure => simp [intOf]; omega
              · have hN : ∀ u, (binOp .neq 38 (.agg #[.int .i64 fv1, .int .i64 fv2]) (.agg #[.int .i64 8, .int .i64 (p : Int)])).run Try.prog u = .ok (.bool true) u := fun u => by
                  have h := neqV (fv1, fv2) (8, (p : Int)) u
                  rw [decide_eq_false hV] at h
                  exact h
                go_upto_region 23 with fail
                have y0 := cell_of_row _ _ 0 _ _ _ HK8.out.b9
                have y1 := cell_of_row _ _ 1 _ _ _ HK8.out.b9
                simp at y0 y1
                have HOB := Lib.hid HK8.out.obj
                rw [HK.out] at HOB
                go_upto_region 24 with (go_at_call 13; with_reducible refine HOB.out.mono ?_; rintro ex w9 ⟨q3, n3, c3, r3, d3, e3, rfl, ⟨how, hn3⟩, hb9⟩)
                have hba : Below w9.heap.size w9 (w9.alloc (.cells #[.int .i64 k, .slice q3 n3 c3, .slice r3 d3 e3] 27)) := (Below.refl _ _).alloc (Nat.le_refl _) _
                have HK9 := Lib.hid ((HK8.out.below' hb9).below' hba)
                have hSA := same_any o o q3 r3 q r n3 c3 d3 e3 n c d e _ (how.below hba) (HOW.out.below HK9.out.below) (by omega) hnl
                rw [HK.out, show sameO o o = true from sameO_iff.2 rfl] at hSA
                have HSA := Lib.hid hSA
                have hx15 := heap_alloc_new w9 (.cells #[.int .i64 k, .slice q3 n3 c3, .slice r3 d3 e3] 27)
                clear hSA hba how HOB hb9 y0 y1 HK8
                generalize w9.alloc (.cells #[.int .i64 k, .slice q3 n3 c3, .slice r3 d3 e3] 27) = w10 at *
                have hx5 := HK9.out.b5
                rw [HK.out] at hx5
                have z0 := cell_of_row _ _ 0 _ _ _ hx15
                have z1 := cell_of_row _ _ 1 _ _ _ hx15
                have z2 := cell_of_row _ _ 2 _ _ _ hx15
                have x0 := cell_of_row _ _ 0 _ _ _ hx5
                have x1 := cell_of_row _ _ 1 _ _ _ hx5
                have x2 := cell_of_row _ _ 2 _ _ _ hx5
                simp at z0 z1 z2 x0 x1 x2
                go_wp2_with (go_at_call 14; with_reducible refine HSA.out.mono ?_; rintro ex w11 ⟨rfl, hb11⟩)
                have HK11 := Lib.hid (HK9.out.below' hb11)
                go_roundw
                case rel => exact ⟨i + 1, by omega, by go_num, _, _, HK11⟩
                case measure => simp [intOf]; omega
            · have dE : (er == 0) = false := by simp [hE]
              by_cases hV : (fv1, fv2) = (8, (p : Int))
              · have hN : ∀ u, (binOp .neq 38 (.agg #[.int .i64 fv1, .int .i64 fv2]) (.agg #[.int .i64 8, .int .i64 (p : Int)])).run Try.prog u = .ok (.bool false) u := fun u => by
                  have h := neqV (fv1, fv2) (8, (p : Int)) u
                  rw [decide_eq_true hV] at h
                  exact h
                go_upto_region 23 with fail
                have y0 := cell_of_row _ _ 0 _ _ _ HK8.out.b9
                have y1 := cell_of_row _ _ 1 _ _ _ HK8.out.b9
                simp at y0 y1
                have HOB := Lib.hid HK8.out.obj
                rw [HK.out] at HOB
                go_upto_region 24 with (go_at_call 13; with_reducible refine HOB.out.mono ?_; rintro ex w9 ⟨q3, n3, c3, r3, d3, e3, rfl, ⟨how, hn3⟩, hb9⟩)
                have hba : Below w9.heap.size w9 (w9.alloc (.cells #[.int .i64 k, .slice q3 n3 c3, .slice r3 d3 e3] 27)) := (Below.refl _ _).alloc (Nat.le_refl _) _
                have HK9 := Lib.hid ((HK8.out.below' hb9).below' hba)
                have hSA := same_any o o q3 r3 q r n3 c3 d3 e3 n c d e _ (how.below hba) (HOW.out.below HK9.out.below) (by omega) hnl
                rw [HK.out, show sameO o o = true from sameO_iff.2 rfl] at hSA
                have HSA := Lib.hid hSA
                have hx15 := heap_alloc_new w9 (.cells #[.int .i64 k, .slice q3 n3 c3, .slice r3 d3 e3] 27)
                clear hSA hba how HOB hb9 y0 y1 HK8
                generalize w9.alloc (.cells #[.int .i64 k, .slice q3 n3 c3, .slice r3 d3 e3] 27) = w10 at *
                have hx5 := HK9.out.b5
                rw [HK.out] at hx5
                have z0 := cell_of_row _ _ 0 _ _ _ hx15
                have z1 := cell_of_row _ _ 1 _ _ _ hx15
                have z2 := cell_of_row _ _ 2 _ _ _ hx15
                have x0 := cell_of_row _ _ 0 _ _ _ hx5
                have x1 := cell_of_row _ _ 1 _ _ _ hx5
                have x2 := cell_of_row _ _ 2 _ _ _ hx5
                simp at z0 z1 z2 x0 x1 x2
                go_wp2_with (go_at_call 14; with_reducible refine HSA.out.mono ?_; rintro ex w11 ⟨rfl, hb11⟩)
                have HK11 := Lib.hid (HK9.out.below' hb11)
                go_roundw
                case rel => exact ⟨i + 1, by omega, by go_num, _, _, HK11⟩
                case measure => simp [intOf]; omega
              · have hN : ∀ u, (binOp .neq 38 (.agg #[.int .i64 fv1, .int .i64 fv2]) (.agg #[.int .i64 8, .int .i64 (p : Int)])).run Try.prog u = .ok (.bool true) u := fun u => by
                  have h := neqV (fv1, fv2) (8, (p : Int)) u
                  rw [decide_eq_false hV] at h
                  exact h
                go_upto_region 23 with fail
                have y0 := cell_of_row _ _ 0 _ _ _ HK8.out.b9
                have y1 := cell_of_row _ _ 1 _ _ _ HK8.out.b9
                simp at y0 y1
                have HOB := Lib.hid HK8.out.obj
                rw [HK.out] at HOB
                go_upto_region 24 with (go_at_call 13; with_reducible refine HOB.out.mono ?_; rintro ex w9 ⟨q3, n3, c3, r3, d3, e3, rfl, ⟨how, hn3⟩, hb9⟩)
                have hba : Below w9.heap.size w9 (w9.alloc (.cells #[.int .i64 k, .slice q3 n3 c3, .slice r3 d3 e3] 27)) := (Below.refl _ _).alloc (Nat.le_refl _) _
                have HK9 := Lib.hid ((HK8.out.below' hb9).below' hba)
                have hSA := same_any o o q3 r3 q r n3 c3 d3 e3 n c d e _ (how.below hba) (HOW.out.below HK9.out.below) (by omega) hnl
                rw [HK.out, show sameO o o = true from sameO_iff.2 rfl] at hSA
                have HSA := Lib.hid hSA
                have hx15 := heap_alloc_new w9 (.cells #[.int .i64 k, .slice q3 n3 c3, .slice r3 d3 e3] 27)
                clear hSA hba how HOB hb9 y0 y1 HK8
                generalize w9.alloc (.cells #[.int .i64 k, .slice q3 n3 c3, .slice r3 d3 e3] 27) = w10 at *
                have hx5 := HK9.out.b5
                rw [HK.out] at hx5
                have z0 := cell_of_row _ _ 0 _ _ _ hx15
                have z1 := cell_of_row _ _ 1 _ _ _ hx15
                have z2 := cell_of_row _ _ 2 _ _ _ hx15
                have x0 := cell_of_row _ _ 0 _ _ _ hx5
                have x1 := cell_of_row _ _ 1 _ _ _ hx5
                have x2 := cell_of_row _ _ 2 _ _ _ hx5
                simp at z0 z1 z2 x0 x1 x2
                go_wp2_with (go_at_call 14; with_reducible refine HSA.out.mono ?_; rintro ex w11 ⟨rfl, hb11⟩)
                have HK11 := Lib.hid (HK9.out.below' hb11)
                go_roundw
                case rel => exact ⟨i + 1, by omega, by go_num, _, _, HK11⟩
                case measure => simp [intOf]; omega
          have d0 : (fk == 0) = false := by simp [k0]
          clear HADD
          by_cases hV : (fv1, fv2) = (8, (p : Int))
          · have hN : ∀ u, (binOp .neq 38 (.agg #[.int .i64 fv1, .int .i64 fv2]) (.agg #[.int .i64 8, .int .i64 (p : Int)])).run Try.prog u = .ok (.bool false) u := fun u => by
              have h := neqV (fv1, fv2) (8, (p : Int)) u
              rw [decide_eq_true hV] at h
              exact h
            clear HOTH
            go_upto_region 23 with fail
            have HK8 := HK1
            have y0 := cell_of_row _ _ 0 _ _ _ HK8.out.b9
            have y1 := cell_of_row _ _ 1 _ _ _ HK8.out.b9
            simp at y0 y1
            have HOB := Lib.hid HK8.out.obj
            rw [HK.out] at HOB
            go_upto_region 24 with (go_at_call 13; with_reducible refine HOB.out.mono ?_; rintro ex w9 ⟨q3, n3, c3, r3, d3, e3, rfl, ⟨how, hn3⟩, hb9⟩)
            have hba : Below w9.heap.size w9 (w9.alloc (.cells #[.int .i64 k, .slice q3 n3 c3, .slice r3 d3 e3] 27)) := (Below.refl _ _).alloc (Nat.le_refl _) _
            have HK9 := Lib.hid ((HK8.out.below' hb9).below' hba)
            have hSA := same_any o o q3 r3 q r n3 c3 d3 e3 n c d e _ (how.below hba) (HOW.out.below HK9.out.below) (by omega) hnl
            rw [HK.out, show sameO o o = true from sameO_iff.2 rfl] at hSA
            have HSA := Lib.hid hSA
            have hx15 := heap_alloc_new w9 (.cells #[.int .i64 k, .slice q3 n3 c3, .slice r3 d3 e3] 27)
            clear hSA hba how HOB hb9 y0 y1 HK8
            generalize w9.alloc (.cells #[.int .i64 k, .slice q3 n3 c3, .slice r3 d3 e3] 27) = w10 at *
            have hx5 := HK9.out.b5
            rw [HK.out] at hx5
            have z0 := cell_of_row _ _ 0 _ _ _ hx15
            have z1 := cell_of_row _ _ 1 _ _ _ hx15
            have z2 := cell_of_row _ _ 2 _ _ _ hx15
            have x0 := cell_of_row _ _ 0 _ _ _ hx5
            have x1 := cell_of_row _ _ 1 _ _ _ hx5
            have x2 := cell_of_row _ _ 2 _ _ _ hx5
            simp at z0 z1 z2 x0 x1 x2
            go_wp2_with (go_at_call 14; with_reducible refine HSA.out.mono ?_; rintro ex w11 ⟨rfl, hb11⟩)
            have HK11 := Lib.hid (HK9.out.below' hb11)
            go_roundw
            case rel => exact ⟨i + 1, by omega, by go_num, _, _, HK11⟩
            case measure => simp [intOf]; omega
          have hN : ∀ u, (binOp .neq 38 (.agg #[.int .i64 fv1, .int .i64 fv2]) (.agg #[.int .i64 8, .int .i64 (p : Int)])).run Try.prog u = .ok (.bool true) u := fun u => by
            have h := neqV (fv1, fv2) (8, (p : Int)) u
            rw [decide_eq_false hV] at h
            exact h
          by_cases k1 : fk = 1
          · subst k1
            have HST := Lib.hid (HOTH.out hV).1
            clear HOTH
            go_upto_region 23 with (go_at_call 10; with_reducible refine HST.out.mono ?_; rintro ex w8 ⟨⟨er, rfl⟩, F8, m8, hk8, hc8⟩; obtain ⟨hz8, -⟩ := box_stay hc8 hz HNF.out; have b0 := cell_of_row _ _ 0 _ _ _ hz8; have b2 := cell_of_row _ _ 2 _ _ _ hz8; have b3 := cell_of_row _ _ 3 _ _ _ hz8; have y0 := cell_of_row _ _ 0 _ _ _ hk8.b9; have y1 := cell_of_row _ _ 1 _ _ _ hk8.b9; simp at b0 b2 b3 y0 y1)
            have HK8 := Lib.hid hk8
            clear hk8 hc8 hz8
            have y0 := cell_of_row _ _ 0 _ _ _ HK8.out.b9
            have y1 := cell_of_row _ _ 1 _ _ _ HK8.out.b9
            simp at y0 y1
            have HOB := Lib.hid HK8.out.obj
            rw [HK.out] at HOB
            go_upto_region 24 with (go_at_call 13; with_reducible refine HOB.out.mono ?_; rintro ex w9 ⟨q3, n3, c3, r3, d3, e3, rfl, ⟨how, hn3⟩, hb9⟩)
            have hba : Below w9.heap.size w9 (w9.alloc (.cells #[.int .i64 k, .slice q3 n3 c3, .slice r3 d3 e3] 27)) := (Below.refl _ _).alloc (Nat.le_refl _) _
            have HK9 := Lib.hid ((HK8.out.below' hb9).below' hba)
            have hSA := same_any o o q3 r3 q r n3 c3 d3 e3 n c d e _ (how.below hba) (HOW.out.below HK9.out.below) (by omega) hnl
            rw [HK.out, show sameO o o = true from sameO_iff.2 rfl] at hSA
            have HSA := Lib.hid hSA
            have hx15 := heap_alloc_new w9 (.cells #[.int .i64 k, .slice q3 n3 c3, .slice r3 d3 e3] 27)
            clear hSA hba how HOB hb9 y0 y1 HK8
            generalize w9.alloc (.cells #[.int .i64 k, .slice q3 n3 c3, .slice r3 d3 e3] 27) = w10 at *
            have hx5 := HK9.out.b5
            rw [HK.out] at hx5
            have z0 := cell_of_row _ _ 0 _ _ _ hx15
            have z1 := cell_of_row _ _ 1 _ _ _ hx15
            have z2 := cell_of_row _ _ 2 _ _ _ hx15
            have x0 := cell_of_row _ _ 0 _ _ _ hx5
            have x1 := cell_of_row _ _ 1 _ _ _ hx5
            have x2 := cell_of_row _ _ 2 _ _ _ hx5
            simp at z0 z1 z2 x0 x1 x2
            go_wp2_with (go_at_call 14; with_reducible refine HSA.out.mono ?_; rintro ex w11 ⟨rfl, hb11⟩)
            have HK11 := Lib.hid (HK9.out.below' hb11)
            go_roundw
            case rel => exact ⟨i + 1, by omega, by go_num, _, _, HK11⟩
            case measure => simp [intOf]; omega
          by_cases k2 : fk = 2
          · subst k2
            have HST := Lib.hid (HOTH.out hV).2.1
            clear HOTH
            go_upto_region 23 with (go_at_call 11; with_reducible refine HST.out.mono ?_; rintro ex w8 ⟨⟨er, rfl⟩, F8, m8, hk8, hc8⟩; obtain ⟨hz8, -⟩ := box_stay hc8 hz HNF.out; have b0 := cell_of_row _ _ 0 _ _ _ hz8; have b2 := cell_of_row _ _ 2 _ _ _ hz8; have b3 := cell_of_row _ _ 3 _ _ _ hz8; have y0 := cell_of_row _ _ 0 _ _ _ hk8.b9; have y1 := cell_of_row _ _ 1 _ _ _ hk8.b9; simp at b0 b2 b3 y0 y1)
            have HK8 := Lib.hid hk8
            clear hk8 hc8 hz8
            have y0 := cell_of_row _ _ 0 _ _ _ HK8.out.b9
            have y1 := cell_of_row _ _ 1 _ _ _ HK8.out.b9
            simp at y0 y1
            have HOB := Lib.hid HK8.out.obj
            rw [HK.out] at HOB
            go_upto_region 24 with (go_at_call 13; with_reducible refine HOB.out.mono ?_; rintro ex w9 ⟨q3, n3, c3, r3, d3, e3, rfl, ⟨how, hn3⟩, hb9⟩)
            have hba : Below w9.heap.size w9 (w9.alloc (.cells #[.int .i64 k, .slice q3 n3 c3, .slice r3 d3 e3] 27)) := (Below.refl _ _).alloc (Nat.le_refl _) _
            have HK9 := Lib.hid ((HK8.out.below' hb9).below' hba)
            have hSA := same_any o o q3 r3 q r n3 c3 d3 e3 n c d e _ (how.below hba) (HOW.out.below HK9.out.below) (by omega) hnl
            rw [HK.out, show sameO o o = true from sameO_iff.2 rfl] at hSA
            have HSA := Lib.hid hSA
            have hx15 := heap_alloc_new w9 (.cells #[.int .i64 k, .slice q3 n3 c3, .slice r3 d3 e3] 27)
            clear hSA hba how HOB hb9 y0 y1 HK8
            generalize w9.alloc (.cells #[.int .i64 k, .slice q3 n3 c3, .slice r3 d3 e3] 27) = w10 at *
            have hx5 := HK9.out.b5
            rw [HK.out] at hx5
            have z0 := cell_of_row _ _ 0 _ _ _ hx15
            have z1 := cell_of_row _ _ 1 _ _ _ hx15
            have z2 := cell_of_row _ _ 2 _ _ _ hx15
            have x0 := cell_of_row _ _ 0 _ _ _ hx5
            have x1 := cell_of_row _ _ 1 _ _ _ hx5
            have x2 := cell_of_row _ _ 2 _ _ _ hx5
            simp at z0 z1 z2 x0 x1 x2
            go_wp2_with (go_at_call 14; with_reducible refine HSA.out.mono ?_; rintro ex w11 ⟨rfl, hb11⟩)
            have HK11 := Lib.hid (HK9.out.below' hb11)
            go_roundw
            case rel => exact ⟨i + 1, by omega, by go_num, _, _, HK11⟩
            case measure => simp [intOf]; omega
          by_cases k3 : fk = 3
          · subst k3
            have HST := Lib.hid (HOTH.out hV).2.2
            clear HOTH
            go_upto_region 23 with (go_at_call 12; with_reducible refine HST.out.mono ?_; rintro ex w8 ⟨⟨er, rfl⟩, F8, m8, hk8, hc8⟩; obtain ⟨hz8, -⟩ := box_stay hc8 hz HNF.out; have b0 := cell_of_row _ _ 0 _ _ _ hz8; have b2 := cell_of_row _ _ 2 _ _ _ hz8; have b3 := cell_of_row _ _ 3 _ _ _ hz8; have y0 := cell_of_row _ _ 0 _ _ _ hk8.b9; have y1 := cell_of_row _ _ 1 _ _ _ hk8.b9; simp at b0 b2 b3 y0 y1)
            have HK8 := Lib.hid hk8
            clear hk8 hc8 hz8
            have y0 := cell_of_row _ _ 0 _ _ _ HK8.out.b9
            have y1 := cell_of_row _ _ 1 _ _ _ HK8.out.b9
            simp at y0 y1
            have HOB := Lib.hid HK8.out.obj
            rw [HK.out] at HOB
            go_upto_region 24 with (go_at_call 13; with_reducible refine HOB.out.mono ?_; rintro ex w9 ⟨q3, n3, c3, r3, d3, e3, rfl, ⟨how, hn3⟩, hb9⟩)
            have hba : Below w9.heap.size w9 (w9.alloc (.cells #[.int .i64 k, .slice q3 n3 c3, .slice r3 d3 e3] 27)) := (Below.refl _ _).alloc (Nat.le_refl _) _
            have HK9 := Lib.hid ((HK8.out.below' hb9).below' hba)
            have hSA := same_any o o q3 r3 q r n3 c3 d3 e3 n c d e _ (how.below hba) (HOW.out.below HK9.out.below) (by omega) hnl
            rw [HK.out, show sameO o o = true from sameO_iff.2 rfl] at hSA
            have HSA := Lib.hid hSA
            have hx15 := heap_alloc_new w9 (.cells #[.int .i64 k, .slice q3 n3 c3, .slice r3 d3 e3] 27)
            clear hSA hba how HOB hb9 y0 y1 HK8
            generalize w9.alloc (.cells #[.int .i64 k, .slice q3 n3 c3, .slice r3 d3 e3] 27) = w10 at *
            have hx5 := HK9.out.b5
            rw [HK.out] at hx5
            have z0 := cell_of_row _ _ 0 _ _ _ hx15
            have z1 := cell_of_row _ _ 1 _ _ _ hx15
            have z2 := cell_of_row _ _ 2 _ _ _ hx15
            have x0 := cell_of_row _ _ 0 _ _ _ hx5
            have x1 := cell_of_row _ _ 1 _ _ _ hx5
            have x2 := cell_of_row _ _ 2 _ _ _ hx5
            simp at z0 z1 z2 x0 x1 x2
            go_wp2_with (go_at_call 14; with_reducible refine HSA.out.mono ?_; rintro ex w11 ⟨rfl, hb11⟩)
            have HK11 := Lib.hid (HK9.out.below' hb11)
            go_roundw
            case rel => exact ⟨i + 1, by omega, by go_num, _, _, HK11⟩
            case measure => simp [intOf]; omega
          have d1 : (fk == 1) = false := by simp [k1]
          have d2 : (fk == 2) = false := by simp [k2]
          have d3 : (fk == 3) = false := by simp [k3]
          clear HOTH
          go_upto_region 23 with fail
          have HK8 := HK1
          have y0 := cell_of_row _ _ 0 _ _ _ HK8.out.b9
          have y1 := cell_of_row _ _ 1 _ _ _ HK8.out.b9
          simp at y0 y1
          have HOB := Lib.hid HK8.out.obj
          rw [HK.out] at HOB
          go_upto_region 24 with (go_at_call 13; with_reducible refine HOB.out.mono ?_; rintro ex w9 ⟨q3, n3, c3, r3, d3, e3, rfl, ⟨how, hn3⟩, hb9⟩)
          have hba : Below w9.heap.size w9 (w9.alloc (.cells #[.int .i64 k, .slice q3 n3 c3, .slice r3 d3 e3] 27)) := (Below.refl _ _).alloc (Nat.le_refl _) _
          have HK9 := Lib.hid ((HK8.out.below' hb9).below' hba)
          have hSA := same_any o o q3 r3 q r n3 c3 d3 e3 n c d e _ (how.below hba) (HOW.out.below HK9.out.below) (by omega) hnl
          rw [HK.out, show sameO o o = true from sameO_iff.2 rfl] at hSA
          have HSA := Lib.hid hSA
          have hx15 := heap_alloc_new w9 (.cells #[.int .i64 k, .slice q3 n3 c3, .slice r3 d3 e3] 27)
          clear hSA hba how HOB hb9 y0 y1 HK8
          generalize w9.alloc (.cells #[.int .i64 k, .slice q3 n3 c3, .slice r3 d3 e3] 27) = w10 at *
          have hx5 := HK9.out.b5
          rw [HK.out] at hx5
          have z0 := cell_of_row _ _ 0 _ _ _ hx15
          have z1 := cell_of_row _ _ 1 _ _ _ hx15
          have z2 := cell_of_row _ _ 2 _ _ _ hx15
          have x0 := cell_of_row _ _ 0 _ _ _ hx5
          have x1 := cell_of_row _ _ 1 _ _ _ hx5
          have x2 := cell_of_row _ _ 2 _ _ _ hx5
          simp at z0 z1 z2 x0 x1 x2
          go_wp2_with (go_at_call 14; with_reducible refine HSA.out.mono ?_; rintro ex w11 ⟨rfl, hb11⟩)
          have HK11 := Lib.hid (HK9.out.below' hb11)
          go_roundw
          case rel => exact ⟨i + 1, by omega, by go_num, _, _, HK11⟩
          case measure => simp [intOf]; omega
        · obtain rfl : i = n2 := by omega
          have HD1 := Lib.hid HJ.out.dropIt
          have y0 := cell_of_row _ _ 0 _ _ _ HJ.out.b9
          have y1 := cell_of_row _ _ 1 _ _ _ HJ.out.b9
          simp at y0 y1
          clear HJ HO2 HL HO HOW
          go_wp2_with (first
            | (go_at_call 12; first
              | (with_reducible refine HD1.out.mono ?_; rintro ex w7 ⟨rfl, F7, m7, hg7⟩; have HG7 := Lib.hid hg7; have y0 := cell_of_row _ _ 0 _ _ _ hg7.b9; have y1 := cell_of_row _ _ 1 _ _ _ hg7.b9; simp at y0 y1; clear hg7)
              | (with_reducible refine HG8.out.drop.mono ?_; rintro ex w9 ⟨rfl, hb9⟩; have HB9 := Lib.hid hb9; clear hb9))
            | (go_at_call 15; with_reducible refine HG7.out.has.mono ?_; rintro ex w8 ⟨rfl, hg8⟩; have HG8 := Lib.hid hg8; have y0 := cell_of_row _ _ 0 _ _ _ hg8.b9; have y1 := cell_of_row _ _ 1 _ _ _ hg8.b9; simp at y0 y1; clear hg8)
            | (go_at_call 6; with_reducible refine (HLV.out _ HB9.out).mono ?_; rintro ex w10 ⟨rfl, hb⟩; have HB10 := Lib.hid hb; clear hb))
          go_ret
          exact ⟨rfl, HB10.out⟩
end Go.Proofs.Ythmajccajmnfcaa
