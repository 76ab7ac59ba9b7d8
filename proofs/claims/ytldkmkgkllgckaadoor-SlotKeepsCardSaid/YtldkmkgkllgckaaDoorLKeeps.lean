/- The law of what is kept: the walk. -/
import Derived.Test.YtldkmkgkllgckaaDoorKeep
import Derived.Deep.RegionWith
set_option linter.unusedSimpArgs false
namespace Go.Proofs.YtldkmkgkllgckaaDoor
open Go.RowKit

set_option maxRecDepth 20000 in
set_option maxHeartbeats 6400000 in
theorem keeps_walk (p0 : Option Addr) (n0 c0 : Nat) (f0 : Nat → Opv) (p1 : Option Addr) (n1 c1 : Nat) (f1 : Nat → Opv) (o : Opv) (W : World)
    (hn0 : n0 ≤ 9223372036854775807) (hO0 : Ops W p0 n0 f0) (hn1 : n1 ≤ 9223372036854775807) (hO1 : Ops W p1 n1 f1) (hO : OpB o) :
    Calls Tryd.prog 4 #[.slice p0 n0 c0, .slice p1 n1 c1, o.val] W fun e W' => e = .returned (.bool true) ∧ Below W.heap.size W W' := by
  have HLV := Lib.hid lives_any
  have HO1 := Lib.hid hO1
  have HO := Lib.hid hO
  have HRC : Hid (∀ w1, Calls Tryd.prog 12 #[.agg #[.int .i64 o.kind, .int .i64 o.i, .int .i64 o.long, .int .u8 (o.fill : Int)]] w1 fun e w' => e = .returned (.string (recS o)) ∧ Below w1.heap.size w1 w') := Lib.hid (fun w1 => rec_any o w1 hO)
  have HRS : Hid ((recS o).size ≤ 600) := Lib.hid (recS_le o)
  have HB0 : Hid (Below W.heap.size W (W.alloc (.cells #[.int .i64 o.kind, .int .i64 o.i, .int .i64 o.long, .int .u8 (o.fill : Int)] 35))) := Lib.hid ((Below.refl _ _).alloc (Nat.le_refl _) _)
  have HS0 : Hid (Sb (W.alloc (.cells #[.int .i64 o.kind, .int .i64 o.i, .int .i64 o.long, .int .u8 (o.fill : Int)] 35)) W.heap.size o) := Lib.hid ⟨heap_alloc_new W _⟩
  have HM0 := Lib.hid (made_any p0 n0 c0 f0 _ hn0 (hO0.below HB0.out))
  obtain ⟨l, HL⟩ : ∃ l, Hid (runM f0 (min n0 80) = l) := ⟨_, Lib.hid rfl⟩
  have HOK : Hid (Okp l) := Lib.hid (by rw [← HL.out]; exact runM_ok f0 _)
  rw [HL.out] at HM0
  clear hO0 hO1 hO hn0
  show Calls Tryd.prog 4 #[.slice p0 n0 c0, .slice p1 n1 c1, .agg #[.int .i64 o.kind, .int .i64 o.i, .int .i64 o.long, .int .u8 (o.fill : Int)]] W _
  obtain ⟨B, hB⟩ : ∃ B, W.heap.size = B := ⟨_, rfl⟩
  rw [hB] at HS0
  go_enter Tryd.func4, Tryd.ntmps4
  go_upto_region 1 with fail
  have HBW := Lib.hid hB
  clear hB
  generalize W.alloc (.cells #[.int .i64 o.kind, .int .i64 o.i, .int .i64 o.long, .int .u8 (o.fill : Int)] 35) = w0 at *
  have a0 := HS0.out.c0
  have a1 := HS0.out.c1
  have a2 := HS0.out.c2
  have a3 := HS0.out.c3
  go_upto_region 2 with (go_at_call 10; refine HM0.out.mono ?_; rintro e w1 ⟨g, xv, rfl, ⟨F, ⟨v, hP, rfl⟩, hF⟩, hR, hb⟩; have HP1 := Lib.hid hP; have HF1 := Lib.hid hF; have HB1 := Lib.hid hb; have HS1 := Lib.hid (HS0.out.below hb); clear hP hF hR hb)
  have a0 := HS1.out.c0
  have a1 := HS1.out.c1
  have a2 := HS1.out.c2
  have a3 := HS1.out.c3
  go_upto_region 3 with (first
    | (go_at_call 12; refine (HRC.out _).mono ?_; rintro e w2 ⟨rfl, hb⟩; have HP2 := Lib.hid (HP1.out.below hb); have HB2 := Lib.hid (HB0.out.trans ((HB1.out.trans (hb.mono HB1.out.size)).mono HB0.out.size)); have HS2 := Lib.hid (HS1.out.below hb); clear hb)
    | (go_at_call 11; refine (add_any HP2.out (recS o) (by have := HRS.out; omega)).mono ?_; rintro e w3 ⟨rfl, hw⟩; have HW3 := Lib.hid hw; clear hw))
  have HF0 : Hid (∀ k ∈ foot g v, W.heap.size ≤ k) := Lib.hid (fun k hk => Nat.le_trans HB0.out.size (HF1.out k hk))
  have HBW3 : Hid (Below W.heap.size W w3) := Lib.hid (by
    obtain ⟨F', _, hc⟩ := HW3.out
    exact hc.below HB2.out HB2.out.size HF0.out)
  by_cases hE : addE l (recS o) = 0
  · have HK0 : Hid (Kp W w3 g [(B, o)] (addN l (recS o)) o (addL l (recS o))) := Lib.hid (by
      obtain ⟨F', ⟨v', hP', rfl⟩, hc⟩ := HW3.out
      exact ⟨⟨v', hP', hc.high HB2.out.size HF0.out⟩, HBW3.out, fun x hx => by rw [List.mem_singleton.1 hx]; exact HS2.out.chg hc HP2.out.typed, addL_new hE⟩)
    rw [hE, show ((0 : Nat) : Int) = 0 from rfl]
    clear hE a0 a1 a2 a3 HP1 HF1 HB1 HS1 HP2 HB2 HS2 HW3 HBW3 HF0 HM0 HS0 HB0
    generalize addN l (recS o) = i at *
    generalize addL l (recS o) = l0 at *
    have hi64 : i ≤ 64 := by
      obtain ⟨v', hP', _⟩ := HK0.out.pg
      have h1 := slot_in HK0.out.keep
      have h2 := hP'.ok.len
      omega
    go_wp2_with fail
    go_loopw [12, 13, 14, 15] (fun kv _ _ _ wr => ∃ (k : Nat) (l' : List Sl), k ≤ n1 ∧ kv = .int .i64 (k : Int) ∧ Hid (Kp W wr g [(B, o)] i o l')) (fun kv _ _ _ _ => n1 - (intOf kv).toNat)
    case atStart => exact ⟨0, l0, Nat.zero_le _, by go_num, HK0⟩
    case round =>
      obtain ⟨k, l', hk, rfl, hr⟩ := hrel
      clear HK0
      by_cases hboth : k < n1 ∧ k < 60
      · have hlt := hboth.1
        have h60 := hboth.2
        clear hboth
        have hd1 : decide ((k : Int) < (n1 : Int)) = true := by simp; omega
        have hkn : (k : Int) < (n1 : Int) := by omega
        · have hd2 : decide ((k : Int) < 60) = true := by simp; omega
          obtain ⟨b, ob, rfl, hc⟩ := HO1.out (by omega)
          have hop := (hc k hlt).below hr.out.below
          have a0 := hop.c0
          have a1 := hop.c1
          have a2 := hop.c2
          have a3 := hop.c3
          have HOP := Lib.hid hop.ok
          obtain ⟨X, HX⟩ : ∃ X, Hid (f1 k = X) := ⟨_, Lib.hid rfl⟩
          rw [HX.out] at a0 a1 a2 a3 HOP
          clear hop hc
          have HKP : Hid (Kp W (wr.alloc (.cells #[.int .i64 X.kind, .int .i64 X.i, .int .i64 X.long, .int .u8 (X.fill : Int)] 35)) g [(wr.heap.size, X), (B, o)] i o l') := Lib.hid (hr.out.push X)
          have HRX : Hid (∀ w1, Calls Tryd.prog 12 #[.agg #[.int .i64 X.kind, .int .i64 X.i, .int .i64 X.long, .int .u8 (X.fill : Int)]] w1 fun e w' => e = .returned (.string (recS X)) ∧ Below w1.heap.size w1 w') := Lib.hid (fun w1 => rec_any X w1 HOP.out)
          have HRXS : Hid ((recS X).size ≤ 9223372036854775807) := Lib.hid (by have := recS_le X; omega)
          go_upto_region 9 with fail
          clear a0 a1 a2 a3 hr HX HOP
          generalize wr.alloc (.cells #[.int .i64 X.kind, .int .i64 X.i, .int .i64 X.long, .int .u8 (X.fill : Int)] 35) = wx at *
          generalize wr.heap.size = bx at *
          have HSX := Lib.hid (HKP.out.box (bx, X) (by simp))
          have a0 := HSX.out.c0
          have a1 := HSX.out.c1
          have a2 := HSX.out.c2
          have a3 := HSX.out.c3
          go_upto_if 60 with fail
          go_cut [13] (fun v wx => v = .pointer (some ⟨bx, 0, none⟩) ∧ Hid (∃ l', Kp W wx g [(bx, X), (B, o)] i o l'))
          case first =>
            by_cases hkd : X.kind = 0
            · rw [hkd] at a0 HRX
              go_wp2_with (first
                | (go_at_call 12; refine (HRX.out _).mono ?_; rintro e w4 ⟨rfl, hb⟩; have HK4 := Lib.hid (HKP.out.then hb); clear hb)
                | (go_at_call 11; refine (HK4.out.add (recS X) HRXS.out).mono ?_; rintro e w5 ⟨⟨za, zb, rfl⟩, hk5⟩; have HK5 := Lib.hid hk5; clear hk5))
              go_meet
              exact ⟨rfl, HK5⟩
            · have hne : (X.kind == 0) = false := by simpa using hkd
              go_wp2_with fail
              go_meet
              exact ⟨rfl, Lib.hid ⟨l', HKP.out⟩⟩
          case rest =>
            obtain ⟨rfl, hc1⟩ := hcut
            obtain ⟨l6, hk6⟩ := hc1.out
            have HK6 := Lib.hid hk6
            clear hk6 hc1 a0 a1 a2 a3
            have HX6 := Lib.hid (HK6.out.box (bx, X) (by simp))
            have a0 := HX6.out.c0
            have a1 := HX6.out.c1
            have a2 := HX6.out.c2
            have a3 := HX6.out.c3
            clear HKP HSX
            go_upto_region 11 with fail
            go_cut [73] (fun v wx => ∃ bb : Bool, v = .bool bb ∧ Hid (bb = true → X.kind = 1 ∧ X.i ≠ (i : Int)) ∧ Hid (wx = wc))
            case first =>
              by_cases hkd : X.kind = 1
              · have heq : (X.kind == 1) = true := by simpa using hkd
                by_cases hxi : X.i = (i : Int)
                · have hne : (X.i != (i : Int)) = false := by simpa using hxi
                  clear hkd hxi
                  go_wp2_with fail
                  go_meet
                  exact ⟨_, rfl, Lib.hid (fun h => by cases h), Lib.hid rfl⟩
                · have hne : (X.i != (i : Int)) = true := by simpa using hxi
                  have HT : Hid (X.kind = 1 ∧ X.i ≠ (i : Int)) := Lib.hid ⟨hkd, hxi⟩
                  clear hkd hxi
                  go_wp2_with fail
                  go_meet
                  exact ⟨_, rfl, Lib.hid (fun _ => HT.out), Lib.hid rfl⟩
              · have heq : (X.kind == 1) = false := by simpa using hkd
                clear hkd
                go_wp2_with fail
                go_meet
                exact ⟨_, rfl, Lib.hid (fun h => by cases h), Lib.hid rfl⟩
            case rest =>
              obtain ⟨bb, rfl, hbb, hwx⟩ := hcut
              obtain rfl := hwx.out
              go_upto_if 73 with fail
              go_cut [13] (fun v wx => v = .pointer (some ⟨bx, 0, none⟩) ∧ Hid (∃ l', Kp W wx g [(bx, X), (B, o)] i o l'))
              case first =>
                cases bb with
                | false =>
                  go_wp2_with fail
                  go_meet
                  exact ⟨rfl, Lib.hid ⟨l6, HK6.out⟩⟩
                | true =>
                  have HXI := Lib.hid (hbb.out rfl).2
                  go_upto_region 12 with fail
                  go_region_with (first
                    | (go_at_call 12; refine (HRX.out _).mono ?_; rintro e w4 ⟨rfl, hb⟩; have HK7 := Lib.hid (HK6.out.then (show Below wc.heap.size wc w4 by first | exact hb | exact ((Below.refl _ _).drew).trans hb)); have HX7 := Lib.hid (HK7.out.box (bx, X) (by simp)); have a0 := HX7.out.c0; have a1 := HX7.out.c1; have a2 := HX7.out.c2; have a3 := HX7.out.c3; clear hb)
                    | (go_at_call 13; refine (HK7.out.put X.i HXI.out (recS X) HRXS.out).mono ?_; rintro e w5 ⟨⟨za, rfl⟩, hk5⟩; have HK8 := Lib.hid hk5; clear hk5))
                  all_goals
                    go_wp2_with fail
                    go_meet
                    exact ⟨rfl, HK8⟩
              case rest =>
                obtain ⟨rfl, hc2⟩ := hcut
                obtain ⟨l9, hk9⟩ := hc2.out
                have HK9 := Lib.hid hk9
                clear hk9 hc2 a0 a1 a2 a3 HK6 HX6
                have HX9 := Lib.hid (HK9.out.box (bx, X) (by simp))
                have a0 := HX9.out.c0
                have a1 := HX9.out.c1
                have a2 := HX9.out.c2
                have a3 := HX9.out.c3
                go_upto_region 13 with fail
                go_cut [88] (fun v wx => ∃ bb : Bool, v = .bool bb ∧ Hid (bb = true → X.kind = 2 ∧ X.i ≠ (i : Int)) ∧ Hid (wx = wc))
                case first =>
                  by_cases hkd : X.kind = 2
                  · have heq : (X.kind == 2) = true := by simpa using hkd
                    by_cases hxi : X.i = (i : Int)
                    · have hne : (X.i != (i : Int)) = false := by simpa using hxi
                      clear hkd hxi
                      go_wp2_with fail
                      go_meet
                      exact ⟨_, rfl, Lib.hid (fun h => by cases h), Lib.hid rfl⟩
                    · have hne : (X.i != (i : Int)) = true := by simpa using hxi
                      have HT : Hid (X.kind = 2 ∧ X.i ≠ (i : Int)) := Lib.hid ⟨hkd, hxi⟩
                      clear hkd hxi
                      go_wp2_with fail
                      go_meet
                      exact ⟨_, rfl, Lib.hid (fun _ => HT.out), Lib.hid rfl⟩
                  · have heq : (X.kind == 2) = false := by simpa using hkd
                    clear hkd
                    go_wp2_with fail
                    go_meet
                    exact ⟨_, rfl, Lib.hid (fun h => by cases h), Lib.hid rfl⟩
                case rest =>
                  obtain ⟨bb, rfl, hbb, hwx⟩ := hcut
                  obtain rfl := hwx.out
                  go_upto_if 88 with fail
                  go_cut [13] (fun v wx => v = .pointer (some ⟨bx, 0, none⟩) ∧ Hid (∃ l', Kp W wx g [(bx, X), (B, o)] i o l'))
                  case first =>
                    cases bb with
                    | false =>
                      go_wp2_with fail
                      go_meet
                      exact ⟨rfl, Lib.hid ⟨l9, HK9.out⟩⟩
                    | true =>
                      have HXI := Lib.hid (hbb.out rfl).2
                      go_wp2_with (go_at_call 14; refine (HK9.out.drop X.i HXI.out).mono ?_; rintro e w5 ⟨⟨za, rfl⟩, hk5⟩; have HK8 := Lib.hid hk5; clear hk5)
                      go_meet
                      exact ⟨rfl, HK8⟩
                  case rest =>
                    obtain ⟨rfl, hc3⟩ := hcut
                    obtain ⟨l11, hk11⟩ := hc3.out
                    have HK11 := Lib.hid hk11.pop
                    clear hk11 hc3 a0 a1 a2 a3 HK9 HX9
                    have h0 := HK11.out.box (B, o) (by simp)
                    have a0 := h0.c0
                    have a1 := h0.c1
                    have a2 := h0.c2
                    have a3 := h0.c3
                    have HG := Lib.hid HK11.out.get
                    have hq1 : ((recS o).toList == (recS o).toList) = true := beq_self_eq_true _
                    have hq2 : ((recS o).toList != (recS o).toList) = false := by simp
                    clear h0
                    go_wp2_with (first
                      | (go_at_call 15; refine HG.out.mono ?_; rintro e w6 ⟨rfl, hk⟩; have HK12 := Lib.hid hk; have h0 := hk.box (B, o) (by simp); have a0 := h0.c0; have a1 := h0.c1; have a2 := h0.c2; have a3 := h0.c3; clear hk h0)
                      | (go_at_call 12; refine (HRC.out _).mono ?_; rintro e w7 ⟨rfl, hb⟩; have HK13 := Lib.hid (HK12.out.then hb); clear hb))
                    go_roundw
                    case rel => exact ⟨k + 1, l11, by omega, by go_num, HK13⟩
                    case measure => simp [intOf]; omega
      · go_upto_region 6 with fail
        go_cut [51] (fun v wx => v = .bool false ∧ Hid (wx = wr))
        case first =>
          by_cases hlt : k < n1
          · have hd1 : decide ((k : Int) < (n1 : Int)) = true := by simp; omega
            have hd2 : decide ((k : Int) < 60) = false := by simp; omega
            clear hboth
            go_wp2_with fail
            go_meet
            exact ⟨rfl, Lib.hid rfl⟩
          · have hd1 : decide ((k : Int) < (n1 : Int)) = false := by simp; omega
            clear hboth
            go_wp2_with fail
            go_meet
            exact ⟨rfl, Lib.hid rfl⟩
        case rest =>
          obtain ⟨rfl, hwx⟩ := hcut
          obtain rfl := hwx.out
          clear hboth
          have HBY := Lib.hid hr.out.bytes
          obtain ⟨S, HSS⟩ : ∃ S, Hid (bytesS l' = S) := ⟨_, Lib.hid rfl⟩
          obtain ⟨N, HN⟩ : ∃ N, Hid (l'.length = N) := ⟨_, Lib.hid rfl⟩
          rw [HSS.out] at HBY
          have hs1 : (S.toList == S.toList) = true := beq_self_eq_true _
          have hs2 : (S.toList != S.toList) = false := by simp
          have hq1 : ((recS o).toList == (recS o).toList) = true := beq_self_eq_true _
          have hq2 : ((recS o).toList != (recS o).toList) = false := by simp
          have hN1 : ((N : Int) != (N : Int)) = false := by simp
          go_upto_region 19 with (first
            | (go_at_call 9; refine HBY.out.mono ?_; rintro e w5 ⟨rfl, hk⟩; have HKP := Lib.hid hk; have HPA := Lib.hid hk.parse; rw [HSS.out] at HPA; clear hk)
            | (go_at_call 6; refine HPA.out.mono ?_; rintro e w6 ⟨g2, rfl, hk⟩; have HKQ := Lib.hid hk; clear hk HPA HBY))
          have HLL : Hid (∀ a, a = g2 ∨ a = g → Calls Tryd.prog 16 #[.pointer (some ⟨a, 0, none⟩)] w6 fun e w' => e = .returned (.int .i64 (N : Int)) ∧ w6 = w') := Lib.hid (by
            have h1 := HKQ.out.qlen
            have h2 := HKQ.out.kp.len
            rw [HN.out] at h1 h2
            rintro a (rfl | rfl)
            · exact h1
            · exact h2)
          have HBB : Hid (∀ wx a, a = g2 ∨ a = g → Kq W wx g g2 [(B, o)] i o l' → Calls Tryd.prog 9 #[.pointer (some ⟨a, 0, none⟩)] wx fun e w' => e = .returned (.string S) ∧ Kq W w' g g2 [(B, o)] i o l') := Lib.hid (by
            rintro wx a h hk
            have h1 := hk.qbytes
            have h2 := hk.pbytes
            rw [HSS.out] at h1 h2
            rcases h with rfl | rfl
            · exact h1
            · exact h2)
          go_upto_region 21 with (first
            | (go_at_call 16; refine (HLL.out _ (by first | exact Or.inl rfl | exact Or.inr rfl)).mono ?_; rintro e w7 ⟨rfl, rfl⟩)
            | (go_at_call 9; refine (HBB.out _ _ (by first | exact Or.inl rfl | exact Or.inr rfl) (by first | with_reducible exact HK8.out | with_reducible exact HKQ.out)).mono ?_; rintro e w8 ⟨rfl, hk⟩; have HK8 := Lib.hid hk; clear hk))
          have HG := Lib.hid HK8.out.qget
          have HDR := Lib.hid HK8.out.kp
          go_wp2_with (first
            | (go_at_call 15; refine HG.out.mono ?_; rintro e w10 ⟨rfl, hk⟩; have HK10 := Lib.hid hk; have h0 := hk.kp.box (B, o) (by simp); have a0 := h0.c0; have a1 := h0.c1; have a2 := h0.c2; have a3 := h0.c3; clear hk h0)
            | (go_at_call 12; refine (HRC.out _).mono ?_; rintro e w11 ⟨rfl, hb⟩; have HK11 := Lib.hid (HK10.out.kp.then hb); clear hb)
            | (go_at_call 14; refine HD2.out.mono ?_; rintro e w13 ⟨rfl, hb⟩; have HB13 := Lib.hid hb; clear hb)
            | (go_at_call 14; refine HK11.out.drop1.mono ?_; rintro e w12 ⟨rfl, hb12, hd2⟩; have HD2 := Lib.hid hd2; clear hb12 hd2)
            | (go_at_call 5; refine (HLV.out _).mono ?_; rintro e w14 ⟨rfl, hb14⟩))
          go_ret
          exact ⟨rfl, HB13.out.trans (hb14.mono HB13.out.size)⟩
  · have he3 : addE l (recS o) = 2 ∨ addE l (recS o) = 8 := (addE_is l (recS o)).resolve_left hE
    clear hE a0 a1 a2 a3
    rcases he3 with he | he
    all_goals
      rw [he]
      clear he
      go_wp2_with (go_at_call 5; refine (HLV.out _).mono ?_; rintro e w8 ⟨rfl, hb⟩)
      go_ret
      exact ⟨rfl, HBW3.out.trans (hb.mono HBW3.out.size)⟩
end Go.Proofs.YtldkmkgkllgckaaDoor
