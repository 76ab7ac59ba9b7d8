/- Texts XTorn to XTorn of this seat, laid into one. -/
import Derived.Deep.Cut
import Derived.Deep.DeepCutAuto
import Derived.Test.YthcnofdihigohaaGreatM22
section
/- PagerTorn: the walk. -/
set_option maxRecDepth 20000
set_option linter.unusedSimpArgs false
namespace Go.Proofs.YthcnofdihigohaaGreat
open Go.RowKit

/-- What is opened behind the commit and the failure. -/
structure Aft (m : Dsk) (s : Sp) (x : Xv) (cut word : Int) (M : Dsk × Int) (m2 : Dsk) (y : Xv) : Prop where
  opn : ∃ st, Opn m2 st 24 ∧ 0 ≤ st.r.ep ∧ st.r.ep ≤ 100
  sim : Sim (openS m2) m2.out y
  dn : m2.done ≤ 250000
theorem aft_of {b : Nat} {w : World} {d g X : Nat} {m : Dsk} {s : Sp} {x : Xv} (h : Duo b w d g X m s 24 x x 40) (cut word : Int) (hw : 0 ≤ word ∧ word ≤ 2147483647) (hN : needS s ≤ (freeL s).length) (hok : Ok (cutM s m cut word).1) (kp : Nat → Bool) (t a : Int) :
    (cutM s m cut word).1.row.length ≤ 4611686018427387904 ∧ (((cutM s m cut word).2 = 9 ∧ Aft m s x cut word (cutM s m cut word) (failS (cutM s m cut word).1 kp t a) x.abort) ∨ (((cutM s m cut word).2 = 9 ∨ (cutM s m cut word).2 = 0) ∧ Aft m s x cut word (cutM s m cut word) (failS (cutM s m cut word).1 kp t a) (x.commit word))) := by
  have hI := h.inv
  have hep := h.ep
  have hmw := may_word hI ⟨hep.1, by omega⟩ word
  have hm : may (nextR s word) = true := by rw [hmw, decide_eq_true hw.1, decide_eq_true hw.2]; rfl
  obtain ⟨h1, h2, h3⟩ := cut_after hI (h.ro (by omega)) hN word hm cut kp t a
  have hM : cutM s m cut word = layM (fuseM m cut) (plW s (nextR s word)) (planRt s (nextR s word)) := rfl
  rw [← hM] at h1 h2 h3
  have hdn := layM_done (fuseM m cut) (plW s (nextR s word)) (planRt s (nextR s word))
  rw [← hM, plW_len] at hdn
  have hd0 : (fuseM m cut).done = m.done := rfl
  have hnl := need_le s
  have hmd := h.dn
  have hu := failS_up hok kp t a
  have hdd : (failS (cutM s m cut word).1 kp t a).done ≤ 250000 := by
    rw [failS_eq]
    show (cutM s m cut word).1.done ≤ _
    omega
  refine ⟨by omega, ?_⟩
  rcases h3 with ⟨h4, h5⟩ | h5
  · have hu2 : Up (failS (cutM s m cut word).1 kp t a) m.out.length := ⟨hu.up, hu.row, hu.fuse, h5.len, hu.ok⟩
    exact .inl ⟨h4, ⟨s.g, h5.opn hI hu2, hep.1, by omega⟩, h5.sim hI hu2 h.sim, hdd⟩
  · have hu2 : Up (failS (cutM s m cut word).1 kp t a) m.out.length := ⟨hu.up, hu.row, hu.fuse, h5.len, hu.ok⟩
    refine .inr ⟨h1.elim .inr .inl, ⟨_, h5.opn hI hN word hm hu2, ?_, ?_⟩, h5.sim hI hN word hm hu2 h.sim, hdd⟩
    · show 0 ≤ s.g.r.ep + 1; omega
    · show s.g.r.ep + 1 ≤ 100; omega
set_option maxHeartbeats 12800000 in
theorem torn_walk (p : Option Addr) (n c : Nat) (f : Nat → Op4) (word fu tn at_ : Int) (pk : Option Addr) (nk ck : Nat) (kf : Nat → Bool) (w : World)
    (hw0 : -9223372036854775808 ≤ word) (hw1 : word ≤ 9223372036854775807) (hf0 : -9223372036854775808 ≤ fu) (hf1 : fu ≤ 9223372036854775807) (hn : n ≤ 9223372036854775807) (hnk : nk ≤ 9223372036854775807) (hO : OpsIn w p n f) (hK : Kp w pk nk kf) (hKB : 0 < nk → ∃ B o, pk = some ⟨B, o, none⟩ ∧ B < w.heap.size) :
    Calls Tryz.prog 4 #[.slice p n c, .int .i64 word, .agg #[.int .i64 fu, .int .i64 tn, .int .i64 at_, .slice pk nk ck]] w fun e w' => e = .returned (.bool true) ∧ Below w.heap.size w w' := by
  have HLV := Lib.hid lives_any
  have HBW := Lib.hid (alloc_below w (.cells #[.int .i64 fu, .int .i64 tn, .int .i64 at_, .slice pk nk ck] 49))
  have HBX : Hid (FlB (w.alloc (.cells #[.int .i64 fu, .int .i64 tn, .int .i64 at_, .slice pk nk ck] 49)) w.heap.size fu tn at_ (.slice pk nk ck)) := Lib.hid ⟨heap_alloc_new w _⟩
  have hlt : w.heap.size < (w.alloc (.cells #[.int .i64 fu, .int .i64 tn, .int .i64 at_, .slice pk nk ck] 49)).heap.size := by simp
  have HLT := Lib.hid hlt
  have HK0 : Hid (Kp (w.alloc (.cells #[.int .i64 fu, .int .i64 tn, .int .i64 at_, .slice pk nk ck] 49)) pk nk kf) := Lib.hid (hK.chg (F := []) (F' := []) (fun _ _ _ _ hb => by cases hb) (Chg.of_below HBW.out))
  have HKB : Hid (0 < nk → ∃ B o, pk = some ⟨B, o, none⟩ ∧ B < (w.alloc (.cells #[.int .i64 fu, .int .i64 tn, .int .i64 at_, .slice pk nk ck] 49)).heap.size) := Lib.hid fun h => by
    obtain ⟨B, o, e, h1⟩ := hKB h
    exact ⟨B, o, e, Nat.lt_trans h1 hlt⟩
  have HO := Lib.hid (hO.below HBW.out)
  clear hlt hK hKB hO
  go_enter Tryz.func4, Tryz.ntmps4
  go_upto_region 1 with fail
  generalize w.alloc (.cells #[.int .i64 fu, .int .i64 tn, .int .i64 at_, .slice pk nk ck] 49) = W at *
  have HEND : Hid (∀ u v, Below W.heap.size W u → Below u.heap.size u v → Below w.heap.size w v) := Lib.hid fun u v h1 h2 => HBW.out.trans ((Below.more h1 h2 h1.size).mono (Nat.le_of_lt HLT.out))
  have HMD := Lib.hid (made_any (pg := 24) (by omega) (by omega) p n c f W hn HO.out)
  have a3 := HBX.out.c3
  clear HO
  by_cases hk2 : nk ≤ 200
  · have hdk : decide ((200 : Int) < (nk : Int)) = false := decide_eq_false (by omega)
    have hdk2 : decide (200 < nk) = false := decide_eq_false (by omega)
    have HK2 := Lib.hid hk2
    clear hk2
    go_upto_region 3 with fail
    clear a3
    go_upto_region 6 with (go_at_call 11; refine HMD.out.mono ?_; rintro e w1 ⟨d, g, X, rfl, hM⟩)
    obtain ⟨⟨m, s, x, hd⟩, hbel⟩ := hM
    have HD := Lib.hid hd
    have HB := Lib.hid hbel
    clear hd hbel HMD
    have HXB : Hid (∀ u, Below W.heap.size W u → FlB u w.heap.size fu tn at_ (.slice pk nk ck)) := Lib.hid fun u hu => HBX.out.below hu HLT.out
    have a0 := (HXB.out _ HB.out).c0
    by_cases hin : 0 ≤ fu ∧ 0 ≤ word ∧ word ≤ 2147483647
    · obtain ⟨hi0, hi1, hi2⟩ := hin
      have e0 : decide (fu < 0) = false := decide_eq_false (by omega)
      have e1 : decide (word < 0) = false := decide_eq_false (by omega)
      have e2 : decide (2147483647 < word) = false := decide_eq_false (by omega)
      have HFU := Lib.hid (fuse_fux HD.out fu hi0 hf1)
      go_upto_region 8 with fail
      go_upto_region 9 with (go_at_call 23; with_reducible refine HFU.out.mono ?_; rintro e w2 ⟨rfl, hfu, hb2⟩)
      have HB2 := Lib.hid (HB.out.trans hb2)
      have HCG := Lib.hid (commit_fux hfu word ⟨hi1, hi2⟩)
      clear hfu hb2 HFU a0 e0 e1 e2
      go_upto_region 10 with (go_at_call 24; with_reducible refine HCG.out.mono ?_; rintro e w3 ⟨E, rfl, hC, hb3⟩)
      have HB3 := Lib.hid (HB2.out.trans hb3)
      clear hb3 HCG HB2
      rcases hC with ⟨hfull, rfl, hF3⟩ | ⟨hN, hE, hC3⟩
      · have HND := Lib.hid (need_fux hF3)
        have HFR : Hid (∀ u, Below w3.heap.size w3 u → Calls Tryz.prog 20 #[.pointer (some ⟨g, 0, none⟩)] u fun e w' => e = .returned (.int .i64 ((freeL s).length : Int)) ∧ Below u.heap.size u w') := Lib.hid fun u hu => free_fux (hF3.below hu)
        clear hF3 HD
        generalize needS s = nd at *
        generalize (freeL s).length = fr at *
        have d2 : decide ((fr : Int) < (nd : Int)) = true := decide_eq_true (by omega)
        have d3 : decide (fr < nd) = true := decide_eq_true hfull
        go_wp2_with (first
          | (go_at_call 17; with_reducible refine HND.out.mono ?_; rintro e w4 ⟨rfl, hb4⟩; have HB4 := Lib.hid hb4; clear hb4)
          | (go_at_call 20; with_reducible refine (HFR.out _ HB4.out).mono ?_; rintro e w5 ⟨rfl, hb5⟩; have HB5 := Lib.hid (Below.more HB4.out hb5 HB4.out.size); clear hb5)
          | (go_at_call 10; with_reducible refine (HLV.out _).mono ?_; rintro e w6 ⟨rfl, hb6⟩; have HB6 := Lib.hid (Below.more HB5.out hb6 HB5.out.size); clear hb6))
        go_ret
        exact ⟨rfl, HEND.out _ _ HB3.out HB6.out⟩
      · have hok : Ok (cutM s m fu word).1 := by
          obtain ⟨F, hDk, _⟩ := hC3.mem
          exact hDk.ok
        obtain ⟨hrl, hA⟩ := aft_of HD.out fu word ⟨hi1, hi2⟩ hN hok (keepB nk kf) tn at_
        have HXE : Hid (0 ≤ x.ep ∧ x.ep ≤ 1000) := Lib.hid (by
          have h1 := HD.out.sim.ep
          have h2 := HD.out.ep
          omega)
        clear hok hN HD
        generalize cutM s m fu word = M at *
        obtain ⟨m2, hm2⟩ : ∃ m2, failS M.1 (keepB nk kf) tn at_ = m2 := ⟨_, rfl⟩
        rw [hm2] at hA
        obtain ⟨y, q, hq, haft⟩ : ∃ (y : Xv) (q : Bool), ((q = true ∧ E = 9 ∧ y.ep = x.ep ∧ y = x.abort) ∨ (q = false ∧ (E = 9 ∨ E = 0) ∧ y.ep = x.ep + 1 ∧ y = x.commit word)) ∧ Aft m s x fu word M m2 y := by
          rw [← hE] at hA
          rcases hA with ⟨h1, h2⟩ | ⟨h1, h2⟩
          · exact ⟨x.abort, true, .inl ⟨rfl, h1, rfl, rfl⟩, h2⟩
          · exact ⟨x.commit word, false, .inr ⟨rfl, h1, rfl, rfl⟩, h2⟩
        have HFL : Hid (∀ u, Cutd W.heap.size u d g X x M → Below W.heap.size W u → Calls Tryz.prog 27 #[.pointer (some ⟨d, 0, none⟩), .agg #[.int .i64 fu, .int .i64 tn, .int .i64 at_, .slice pk nk ck]] u fun e w' => e = .returned (.tuple #[]) ∧ Cutd W.heap.size w' d g X x (m2, 0) ∧ Below W.heap.size u w') := Lib.hid fun u hu hb => by
          rw [← hm2]
          exact fail_cut hu hrl pk nk ck kf (HK0.out.chg (F := []) (F' := []) (fun _ _ _ _ hb => by cases hb) (Chg.of_below hb)) HKB.out hnk fu tn at_
        have HOP : Hid (∀ u, Cutd W.heap.size u d g X x (m2, 0) → Calls Tryz.prog 28 #[.pointer (some ⟨d, 0, none⟩)] u fun e w' => ∃ g', e = .returned (.tuple #[.pointer (some ⟨g', 0, none⟩), .int .i64 0]) ∧ Duo W.heap.size w' d g' X m2 (openS m2) 24 x y 100 ∧ Below W.heap.size u w') := Lib.hid fun u hu => by
          obtain ⟨st, ho, hep⟩ := haft.opn
          exact open_cut hu ho haft.dn hep haft.sim
        have HGAP : Hid (gapF (nn y.now) 512 0 ≠ none) := Lib.hid (by
          obtain ⟨st, ho, _⟩ := haft.opn
          exact ho.gap haft.sim ho.inv.ok.out)
        generalize openS m2 = S at *
        have hE9 : E = 9 ∨ E = 0 := by
          rcases hq with ⟨_, h, _⟩ | ⟨_, h, _⟩
          · exact .inl h
          · exact h
        have HQ := Lib.hid hq
        have HC3 := Lib.hid hC3
        have HGN : Hid (E ≠ 0 → Gone w3 g) := Lib.hid fun h => hC3.gone (hE ▸ h)
        have HE9 := Lib.hid hE9
        have q8 : (E == 8) = false := by rcases hE9 with rfl | rfl <;> rfl
        clear hC3 hE haft hm2 hrl hA hq hE9
        go_upto_if 68 with fail
        go_cut [] (fun wx => Hid (Cutd W.heap.size wx d g X x M ∧ Below W.heap.size W wx))
        case first =>
          rcases HE9.out with rfl | rfl
          · have HG := Lib.hid (HGN.out (by decide))
            have HAG := Lib.hid (alloc_gone HG.out)
            have HLG := Lib.hid (len_gone HG.out)
            have HHG : Hid (∀ u, Below w3.heap.size w3 u → Calls Tryz.prog 12 #[.pointer (some ⟨g, 0, none⟩)] u fun e w' => e = .returned (.pointer none) ∧ u = w') := Lib.hid fun u hu => held_gone (HG.out.below hu)
            clear q8
            go_wp2_with (first
              | (go_at_call 25; with_reducible refine HAG.out.mono ?_; rintro e w4 ⟨rfl, rfl⟩)
              | (go_at_call 26; with_reducible refine HLG.out.mono ?_; rintro e w5 ⟨rfl, hb5⟩; have HB5 := Lib.hid hb5; clear hb5)
              | (go_at_call 12; with_reducible refine (HHG.out _ HB5.out).mono ?_; rintro e w6 ⟨rfl, rfl⟩))
            go_meet
            exact Lib.hid ⟨HC3.out.below HB5.out, Below.more HB3.out HB5.out HB3.out.size⟩
          · clear q8
            go_wp2_with fail
            go_meet
            exact Lib.hid ⟨HC3.out, HB3.out⟩
        case rest =>
          have HCW := hcut
          have hx := HXB.out _ HCW.out.2
          have a0 := hx.c0
          have a1 := hx.c1
          have a2 := hx.c2
          have a3 := hx.c3
          clear hx hcut HGN HC3 HB3
          go_upto_region 17 with (go_at_call 27; with_reducible refine (HFL.out _ HCW.out.1 HCW.out.2).mono ?_; rintro e w7 ⟨rfl, hC7, hb7⟩)
          have HC7 := Lib.hid hC7
          have HB7 := Lib.hid (HCW.out.2.trans hb7)
          clear hC7 hb7 a0 a1 a2 a3 HFL HCW
          go_upto_region 20 with (go_at_call 28; with_reducible refine (HOP.out _ HC7.out).mono ?_; rintro e w8 ⟨t, rfl, hD8, hb8⟩)
          have HD8 := Lib.hid hD8
          have HB8 := Lib.hid (HB7.out.trans hb8)
          clear hD8 hb8 HOP HC7 HB7
          have hne := In.some w8
          go_cut [114] (fun v wx => v = .bool q ∧ Hid (Below w8.heap.size w8 wx))
          case first =>
            have l0 : ∀ u : In w8, u.1.cell? ⟨X, 1537, none⟩ = some (.int .i64 x.ep) := fun u => (HD8.out.below u.2).xb.ep
            have HEP : Hid (∀ u : In w8, Calls Tryz.prog 15 #[.pointer (some ⟨t, 0, none⟩)] u.1 fun e w' => e = .returned (.int .i64 y.ep) ∧ Below u.1.heap.size u.1 w') := Lib.hid fun u => epoch_y (HD8.out.below u.2)
            have hq := HQ.out
            generalize y.ep = ey at *
            generalize x.ep = ex at *
            rcases hq with ⟨rfl, rfl, rfl, _⟩ | ⟨rfl, _, he, _⟩
            · refine region_in w8 (by kernel_rfl) (by kernel_rfl) (Below.refl _ _) ?_
              repeat (go_big_quiet_step ((go_at_call 15; exact Calls.quiet_in (HEP.out _))))
              refine wpQuiet_nil ?_
              intro w12 hw'
              have hb12 : Below w8.heap.size w8 w12 := by
                obtain ⟨⟨wz, hbz⟩, hw''⟩ := hw'
                subst hw''
                exact hbz
              clear hw'
              go_wp2_with fail
              go_meet
              exact ⟨rfl, Lib.hid hb12⟩
            · have hqe : (ey == ex) = false := by simp; omega
              clear he
              refine region_in w8 (by kernel_rfl) (by kernel_rfl) (Below.refl _ _) ?_
              repeat (go_big_quiet_step ((go_at_call 15; exact Calls.quiet_in (HEP.out _))))
              refine wpQuiet_nil ?_
              intro w12 hw'
              have hb12 : Below w8.heap.size w8 w12 := by
                obtain ⟨⟨wz, hbz⟩, hw''⟩ := hw'
                subst hw''
                exact hbz
              clear hw'
              go_wp2_with fail
              go_meet
              exact ⟨rfl, Lib.hid hb12⟩
          case rest =>
            obtain ⟨rfl, HB9⟩ := hcut
            have HD9 := Lib.hid (HD8.out.below HB9.out)
            have HW9 := Lib.hid (Below.more HB8.out HB9.out HB8.out.size)
            clear HD8 HB8 HB9
            go_upto_if 114 with fail
            go_cut [] (fun wx => Hid (Duo W.heap.size wx d t X m2 S 24 y y 100 ∧ Below W.heap.size W wx))
            case first =>
              rcases HQ.out with ⟨rfl, h1, h2, hy⟩ | ⟨rfl, h1, h2, hy⟩
              all_goals clear h1 h2
              · have HRA := Lib.hid (rabort_duo HD9.out)
                rw [← hy] at HRA
                go_wp2_with (go_at_call 29; with_reducible refine HRA.out.mono ?_; rintro e w10 ⟨rfl, h10, hb10⟩)
                go_meet
                exact Lib.hid ⟨h10, HW9.out.trans hb10⟩
              · have HRC := Lib.hid (rcommit_duo HD9.out (by have := HXE.out; omega) word)
                rw [← hy] at HRC
                go_wp2_with (go_at_call 30; with_reducible refine HRC.out.mono ?_; rintro e w10 ⟨rfl, h10, hb10⟩)
                go_meet
                exact Lib.hid ⟨h10, HW9.out.trans hb10⟩
            case rest =>
              have HDR := Lib.hid hcut.out.1
              have HBR := Lib.hid hcut.out.2
              clear hcut HD9 HW9 HQ HE9
              have hne := In.some wc
              have HR0 := Lib.hid (show (∀ u : In wc, u.1.cell? ⟨X, 1537, none⟩ = some (.int .i64 y.ep)) ∧ (∀ u : In wc, u.1.cell? ⟨X, 1536, none⟩ = some (.int .i64 y.word)) from ⟨fun u => (HDR.out.below u.2).xb.ep, fun u => (HDR.out.below u.2).xb.word⟩)
              have HSM : Hid (∀ u : In wc, Calls Tryz.prog 13 #[.pointer (some ⟨t, 0, none⟩), .pointer (some ⟨X, 512, none⟩)] u.1 fun e w' => e = .returned (.bool true) ∧ Below u.1.heap.size u.1 w') := Lib.hid fun u => same_any (HDR.out.below u.2)
              have HWD : Hid (∀ u : In wc, Calls Tryz.prog 14 #[.pointer (some ⟨t, 0, none⟩)] u.1 fun e w' => e = .returned (.int .i64 y.word) ∧ Below u.1.heap.size u.1 w') := Lib.hid fun u => word_y (HDR.out.below u.2)
              have HEP : Hid (∀ u : In wc, Calls Tryz.prog 15 #[.pointer (some ⟨t, 0, none⟩)] u.1 fun e w' => e = .returned (.int .i64 y.ep) ∧ Below u.1.heap.size u.1 w') := Lib.hid fun u => epoch_y (HDR.out.below u.2)
              have HAL : Hid (∀ u, Below wc.heap.size wc u → Calls Tryz.prog 25 #[.pointer (some ⟨t, 0, none⟩)] u fun e w' => ∃ (l : Nat) (s' : Sp), e = .returned (.tuple #[.int .i64 (l : Int), .int .i64 0]) ∧ l < 512 ∧ Duo W.heap.size w' d t X m2 s' 24 y (y.put l zs512) 100 ∧ Below W.heap.size u w') := Lib.hid fun u hu => alloc_ok (HDR.out.below hu) HGAP.out
              obtain ⟨l0, l1⟩ := HR0.out
              clear HR0 HDR HGAP
              generalize y.ep = ey at *
              generalize y.word = ew at *
              go_upto_region 23 with fail
              refine region_in wc (by kernel_rfl) (by kernel_rfl) (Below.refl _ _) ?_
              repeat (go_big_quiet_step ((first
                | (go_at_call 15; exact Calls.quiet_in (HEP.out _))
                | (go_at_call 14; exact Calls.quiet_in (HWD.out _))
                | (go_at_call 13; exact Calls.quiet_in (HSM.out _)))))
              refine wpQuiet_nil ?_
              intro w12 hw'
              have hb12 : Below wc.heap.size wc w12 := by
                obtain ⟨⟨wz, hbz⟩, hw''⟩ := hw'
                subst hw''
                exact hbz
              clear hw' l0 l1 HSM HWD HEP
              have HB12 := Lib.hid (Below.more HBR.out hb12 HBR.out.size)
              go_upto_region 26 with (go_at_call 25; with_reducible refine (HAL.out _ hb12).mono ?_; rintro e w13 ⟨l, s3, rfl, hl, hd13, hb13⟩)
              have HL := Lib.hid hl
              have HD13 := Lib.hid hd13
              have HB13 := Lib.hid (HB12.out.trans hb13)
              clear hl hd13 hb13 hb12 HAL HBR HB12
              have HND := Lib.hid (need_duo HD13.out)
              have HFR : Hid (∀ u, Below w13.heap.size w13 u → Calls Tryz.prog 20 #[.pointer (some ⟨t, 0, none⟩)] u fun e w' => e = .returned (.int .i64 ((freeL s3).length : Int)) ∧ Below u.heap.size u w') := Lib.hid fun u hu => free_duo (HD13.out.below hu)
              have HCM : Hid (needS s3 ≤ (freeL s3).length → ∀ u, Below w13.heap.size w13 u → Calls Tryz.prog 24 #[.pointer (some ⟨t, 0, none⟩), .int .i64 7] u fun e w' => e = .returned (.int .i64 0) ∧ (∃ m' s', Duo W.heap.size w' d t X m' s' 24 y ((y.put l zs512).commit 7) 101) ∧ Below W.heap.size u w') := Lib.hid fun hN u hu => cmt_ok (HD13.out.below hu) (by omega) hN 7 ⟨by omega, by omega⟩
              generalize needS s3 = nd at *
              generalize (freeL s3).length = fr at *
              have HFL0 : Hid (∀ u, Calls Tryz.prog 32 #[.int .u8 0] u fun e w' => e = .returned (.string (strB zs512)) ∧ Below u.heap.size u w') := Lib.hid fun u => filled_any 0 (by omega) u
              have HRD : Hid (∀ u m' s', Duo W.heap.size u d t X m' s' 24 y ((y.put l zs512).commit 7) 101 → Calls Tryz.prog 31 #[.pointer (some ⟨t, 0, none⟩), .int .i64 (l : Int)] u fun e w' => e = .returned (.tuple #[.string (strB zs512), .int .i64 0]) ∧ Below u.heap.size u w') := Lib.hid fun u m' s' hu => read_ok hu l HL.out (c := zs512) (by show (if l = l then zs512 else _) = zs512; rw [if_pos rfl]) (by decide)
              have HWO : Hid (∀ u m' s', Duo W.heap.size u d t X m' s' 24 y ((y.put l zs512).commit 7) 101 → Calls Tryz.prog 14 #[.pointer (some ⟨t, 0, none⟩)] u fun e w' => e = .returned (.int .i64 7) ∧ Below u.heap.size u w') := Lib.hid fun u m' s' hu => word_y hu
              generalize strB zs512 = ZS at *
              have hl5 : (l : Int) ≤ 511 := by have := HL.out; omega
              go_upto_region 28 with fail
              by_cases hfn : fr < nd
              · have d2 : decide ((fr : Int) < (nd : Int)) = true := decide_eq_true (by omega)
                have d3 : decide (fr < nd) = true := decide_eq_true hfn
                go_upto_if 155 with (first
                  | (go_at_call 17; with_reducible refine HND.out.mono ?_; rintro e w14 ⟨rfl, hb14⟩; have HB14 := Lib.hid hb14; clear hb14)
                  | (go_at_call 20; with_reducible refine (HFR.out _ HB14.out).mono ?_; rintro e w15 ⟨rfl, hb15⟩; have HB15 := Lib.hid (Below.more HB14.out hb15 HB14.out.size); clear hb15))
                go_wp2_with (go_at_call 10; with_reducible refine (HLV.out _).mono ?_; rintro e w16 ⟨rfl, hb16⟩; have HB16 := Lib.hid (Below.more HB15.out hb16 HB15.out.size); clear hb16)
                go_ret
                exact ⟨rfl, HEND.out _ _ HB13.out HB16.out⟩
              · have d2 : decide ((fr : Int) < (nd : Int)) = false := decide_eq_false (by omega)
                have d3 : decide (fr < nd) = false := decide_eq_false hfn
                have HCM2 := Lib.hid (HCM.out (Nat.le_of_not_lt hfn))
                clear HCM hfn
                go_upto_if 155 with (first
                  | (go_at_call 17; with_reducible refine HND.out.mono ?_; rintro e w14 ⟨rfl, hb14⟩; have HB14 := Lib.hid hb14; clear hb14)
                  | (go_at_call 20; with_reducible refine (HFR.out _ HB14.out).mono ?_; rintro e w15 ⟨rfl, hb15⟩; have HB15 := Lib.hid (Below.more HB14.out hb15 HB14.out.size); clear hb15))
                go_upto_region 32 with (go_at_call 24; with_reducible refine (HCM2.out _ HB15.out).mono ?_; rintro e w16 ⟨rfl, ⟨m5, s5, hd16⟩, hb16⟩)
                have HD16 := Lib.hid hd16
                have HB16 := Lib.hid ((Below.more HB13.out HB15.out HB13.out.size).trans hb16)
                have HRD2 := Lib.hid (HRD.out _ _ _ HD16.out)
                have HWO2 : Hid (∀ u, Below w16.heap.size w16 u → Calls Tryz.prog 14 #[.pointer (some ⟨t, 0, none⟩)] u fun e w' => e = .returned (.int .i64 7) ∧ Below u.heap.size u w') := Lib.hid fun u hu => HWO.out _ _ _ (HD16.out.below hu)
                clear hd16 hb16 HRD HWO HCM2 HD16 HD13
                go_upto_region 33 with (go_at_call 31; with_reducible refine HRD2.out.mono ?_; rintro e w17 ⟨rfl, hb17⟩; have HB17 := Lib.hid hb17; clear hb17)
                go_wp2_with (first
                  | (go_at_call 32; with_reducible refine (HFL0.out _).mono ?_; rintro e w18 ⟨rfl, hb18⟩; have HB18 := Lib.hid (Below.more HB17.out hb18 HB17.out.size); clear hb18)
                  | (go_at_call 14; with_reducible refine (HWO2.out _ HB18.out).mono ?_; rintro e w19 ⟨rfl, hb19⟩; have HB19 := Lib.hid (Below.more HB18.out hb19 HB18.out.size); clear hb19)
                  | (go_at_call 10; with_reducible refine (HLV.out _).mono ?_; rintro e w20 ⟨rfl, hb20⟩; have HB20 := Lib.hid (Below.more HB19.out hb20 HB19.out.size); clear hb20))
                go_ret
                exact ⟨rfl, HEND.out _ _ HB16.out HB20.out⟩
    · have HBAD : Hid (∀ u v, u = w1 → Below u.heap.size u v → Below w.heap.size w v) := Lib.hid fun u v h1 h2 => by
        subst h1
        exact HEND.out _ _ HB.out h2
      have hin' : fu < 0 ∨ word < 0 ∨ 2147483647 < word := by omega
      clear HD hin
      by_cases c0 : fu < 0
      · have e0 : decide (fu < 0) = true := decide_eq_true c0
        go_wp2_with (go_at_call 10; with_reducible refine (HLV.out _).mono ?_; rintro e w2 ⟨rfl, hb2⟩)
        go_ret
        exact ⟨rfl, HBAD.out _ _ rfl hb2⟩
      · have e0 : decide (fu < 0) = false := decide_eq_false c0
        by_cases c1 : word < 0
        · have e1 : decide (word < 0) = true := decide_eq_true c1
          go_wp2_with (go_at_call 10; with_reducible refine (HLV.out _).mono ?_; rintro e w2 ⟨rfl, hb2⟩)
          go_ret
          exact ⟨rfl, HBAD.out _ _ rfl hb2⟩
        · have e1 : decide (word < 0) = false := decide_eq_false c1
          have e2 : decide (2147483647 < word) = true := decide_eq_true (by omega)
          go_wp2_with (go_at_call 10; with_reducible refine (HLV.out _).mono ?_; rintro e w2 ⟨rfl, hb2⟩)
          go_ret
          exact ⟨rfl, HBAD.out _ _ rfl hb2⟩
  · have hdk : decide ((200 : Int) < (nk : Int)) = true := decide_eq_true (by omega)
    have hdk2 : decide (200 < nk) = true := decide_eq_true (by omega)
    go_wp2_with (go_at_call 10; refine (HLV.out _).mono ?_; rintro e w2 ⟨rfl, hb2⟩)
    go_ret
    exact ⟨rfl, HEND.out _ _ (Below.refl _ _) hb2⟩
end Go.Proofs.YthcnofdihigohaaGreat
end
