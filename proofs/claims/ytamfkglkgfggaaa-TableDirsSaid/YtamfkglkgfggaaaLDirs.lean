/- TableDirs' walk. -/
import Derived.Test.YtamfkglkgfggaaaLDirsM
set_option linter.unusedSimpArgs false
namespace Go.Proofs.Ytamfkglkgfggaaa
open Go.ChangeShapes Go.WideShapes Go.ChangeAt Go.RowKit
set_option maxRecDepth 100000 in
set_option maxHeartbeats 3200000 in
theorem dirs_big (x y z u : Int) (p q : Option Addr) (n c m cc : Nat) (w : World) (hn : n ≤ 9223372036854775807) (hm : m ≤ 140737488351232) (hbig : 1500 < m ∨ 100 < n) :
    Calls Try.prog 6 #[.agg #[.int .i64 x, .int .i64 y, .int .i64 z, .int .i64 u], .slice p n c, .slice q m cc] w fun e w' => e = .returned (.bool true) ∧ Below w.heap.size w w' := by
  have HB : Hid (Below w.heap.size w (w.alloc (.cells #[.int .i64 x, .int .i64 y, .int .i64 z, .int .i64 u] 48))) := Lib.hid ((Below.refl _ _).alloc (Nat.le_refl _) _)
  by_cases h1 : 1500 < m
  · have d1 : decide ((m : Int) > 1500) = true := decide_eq_true (by omega)
    have d2 : decide ((1500 : Int) < (m : Int)) = true := decide_eq_true (by omega)
    have d3 : decide (1500 < m) = true := decide_eq_true h1
    clear hbig h1
    go_enter Try.func6, Try.ntmps6
    go_upto_region 1 with fail
    generalize w.alloc _ = W at *
    go_wp2_with (go_at_call 11; refine (lives_any _).mono ?_; rintro e w7 ⟨rfl, hb7⟩)
    go_ret
    exact ⟨rfl, HB.out.trans (hb7.mono HB.out.size)⟩
  · have h2 : 100 < n := by omega
    have d1 : decide ((m : Int) > 1500) = false := decide_eq_false (by omega)
    have d2 : decide ((1500 : Int) < (m : Int)) = false := decide_eq_false (by omega)
    have d3 : decide (1500 < m) = false := decide_eq_false h1
    have e1 : decide ((n : Int) > 100) = true := decide_eq_true (by omega)
    have e2 : decide ((100 : Int) < (n : Int)) = true := decide_eq_true (by omega)
    have e3 : decide (100 < n) = true := decide_eq_true h2
    clear hbig h1 h2
    go_enter Try.func6, Try.ntmps6
    go_upto_region 1 with fail
    generalize w.alloc _ = W at *
    go_wp2_with (go_at_call 11; refine (lives_any _).mono ?_; rintro e w7 ⟨rfl, hb7⟩)
    go_ret
    exact ⟨rfl, HB.out.trans (hb7.mono HB.out.size)⟩
set_option maxRecDepth 100000 in
set_option maxHeartbeats 3200000 in
theorem dirs_in (x y z u : Int) (p q : Option Addr) (n c m cc : Nat) (zf : Nat → Int) (bs : List Nat) (w : World) (hn : n ≤ 100) (hZ : Zs w p n zf) (hm : m ≤ 1500) (hB : Bys w q m bs) (hmc : m ≤ cc) (hcc : cc ≤ 140737488351232) :
    Calls Try.prog 6 #[.agg #[.int .i64 x, .int .i64 y, .int .i64 z, .int .i64 u], .slice p n c, .slice q m cc] w fun e w' => e = .returned (.bool true) ∧ Below w.heap.size w w' := by
  obtain ⟨i0, hi, hz0, hz1, hz2⟩ := info_parts Try.info4
  have HI := Lib.hid hi
  obtain ⟨hzz, -⟩ := zero_of_info (P := Try.prog) info48z
  have KI : Hid (∀ F, (Try.prog.info? 48).map (·.size) = some (rowA F 4).size) := Lib.hid fun F => by rw [size48z, rowA_size]
  have HZS : Hid ((rowA (fun _ => 0) 4).size = 4) := Lib.hid (rowA_size _ _)
  have HDC : Hid (∀ w', Below w.heap.size w w' → Calls Try.prog 24 #[.slice q m cc] w' fun e w'' => (∃ v, e = .returned (.tuple #[.agg #[.int .i64 ((decV m bs 0 : Nat) : Int), .int .i64 ((decV m bs 1 : Nat) : Int), .int .i64 ((decV m bs 2 : Nat) : Int), .int .i64 ((decV m bs 3 : Nat) : Int), .pointer v], .int .i64 (dirE m bs)]) ∧
      ((dirE m bs = 0 ∧ ∃ g b, v = some ⟨g, 0, none⟩ ∧ Sat w'' g b 512 (trs (dsB bs))) ∨ (dirE m bs ≠ 0 ∧ v = none))) ∧ Below w'.heap.size w' w'') := Lib.hid fun w' hb =>
    (dec_any q m cc bs w' (hB.below hb) hmc (by omega)).mono fun e w'' h => ⟨decU h.1, h.2⟩
  have HRD : Hid (∀ w', Below w.heap.size w w' → Calls Try.prog 25 #[.slice q m cc] w' fun e w'' => (∃ p k c, e = .returned (.tuple #[.agg (rowA (decV m bs) 4), .slice p k c, .int .i64 (dirE m bs)]) ∧ (dirE m bs = 0 → k = 512 ∧ Bls w'' p 512 (trs (dsB bs)))) ∧ Below w'.heap.size w' w'') := Lib.hid fun w' hb =>
    (rdec_any q m cc bs w' (hB.below hb) (by omega) hmc (by omega)).mono fun e w'' h => ⟨rdecU h.1, h.2⟩
  generalize decV m bs = V at *
  generalize dirE m bs = G at *
  generalize trs (dsB bs) = T at *
  generalize hZE : rowA (fun _ => 0) 4 = Z at *
  have HZE := Lib.hid hZE
  clear hZE
  have HZ0 := Lib.hid hz0
  have HZ1 := Lib.hid hz1
  have HZ2 := Lib.hid hz2
  have d1 : decide ((m : Int) > 1500) = false := decide_eq_false (by omega)
  have d2 : decide ((1500 : Int) < (m : Int)) = false := decide_eq_false (by omega)
  have d3 : decide (1500 < m) = false := decide_eq_false (by omega)
  have e1 : decide ((n : Int) > 100) = false := decide_eq_false (by omega)
  have e2 : decide ((100 : Int) < (n : Int)) = false := decide_eq_false (by omega)
  have e3 : decide (100 < n) = false := decide_eq_false (by omega)
  have HB : Hid (Below w.heap.size w (w.alloc (.cells #[.int .i64 x, .int .i64 y, .int .i64 z, .int .i64 u] 48))) := Lib.hid ((Below.refl _ _).alloc (Nat.le_refl _) _)
  have HX : Hid (Box4 (w.alloc (.cells #[.int .i64 x, .int .i64 y, .int .i64 z, .int .i64 u] 48)) w.heap.size x y z u) := Lib.hid ⟨heap_alloc_new w _⟩
  have HZ := Lib.hid hZ
  have HBY := Lib.hid hB
  have HNN := Lib.hid (And.intro hn (And.intro hm (And.intro hmc hcc)))
  clear hi hz0 hz1 hz2 hn hm hZ hB hmc hcc
  go_enter Try.func6, Try.ntmps6
  go_upto_region 1 with fail
  generalize w.alloc _ = W at *
  have HN := Lib.hid (new_yes 512 W (by omega))
  go_upto_region 4 with (go_at_call 19; refine HN.out.mono ?_; rintro e w1 ⟨⟨g, b, rfl, hg, hb1, hS⟩, hb⟩)
  clear d1 d2 d3 e1 e2 e3
  go_wp2_with (first
    | (refine wpList_make_full _ rfl _ _ 53 rfl 0 4 i0 (.bool false) 1 Try.underlying53 HI.out HZ0.out HZ1.out .i64 .i64 (512 : Int) (512 : Int) 512 rfl rfl rfl rfl (by rw [HZ2.out]; omega) (by unfold maxLen; omega) (Nat.zero_le _) ?_))
  intro w2 hown hgrow
  rw [falses_of] at hown
  have HP0 := Lib.hid (PR.start hg hb1 hS hb hown ((Below.refl _ _).grown hgrow (Nat.le_refl _) (fun k e => by cases e)))
  clear hown hgrow hS hb hg hb1 HI HZ0 HZ1 HZ2
  generalize w1.heap.size = q0 at *
  go_wp2_with fail
  go_loopw [10, 9] (fun iv lv wr => ∃ (i : Nat) (p2 : Option Addr) (c2 : Nat) (f2 : Nat → Bool), i ≤ n ∧ iv = .int .i64 (i : Int) ∧ lv = .slice p2 512 c2 ∧ Hid (PR W wr g b 512 p2 f2)) (fun iv _ _ => n - (intOf iv).toNat)
  case atStart => exact ⟨0, _, _, _, by omega, by go_num, rfl, HP0⟩
  case round =>
    obtain ⟨i, p2, c2, f2, hi, rfl, rfl, HP⟩ := hrel
    clear HP0
    have HIZ := Lib.hid hi
    have hiz : (i : Int) ≤ 100 := by have := HNN.out.1; omega
    by_cases hlt : i < n
    · obtain ⟨bz, oz, rfl, hzl, hzc⟩ := HZ.out (by omega)
      obtain ⟨hz1, hz2, hz3⟩ := hzc i hlt
      have HBW : Hid (Below w.heap.size w wr) := Lib.hid (HB.out.trans (HP.out.below.mono HB.out.size))
      have hcr := (HBW.out.cell (p := ⟨bz, oz + i, none⟩) hzl).trans hz1
      have HC0 : Hid (∀ w', Below w.heap.size w w' → w'.cell? ⟨bz, oz + i, none⟩ = some (.int .i64 (zf i))) := Lib.hid fun w' hb => (hb.cell (p := ⟨bz, oz + i, none⟩) hzl).trans hz1
      clear hzc hz1
      have hdm : decide ((i : Int) < (n : Int)) = true := decide_eq_true (by omega)
      have hdmn : decide (i < n) = true := decide_eq_true hlt
      have hdz : (i : Int) < (n : Int) := by omega
      have HLT := Lib.hid hlt
      generalize zf i = v at *
      have HW := Lib.hid (fun w' hb4 => with_any p2 512 c2 f2 v true w' hb4 (by omega))
      rw [wthB_true, wth_true] at HW
      clear hlt hi
      go_wp2_with (first
        | (go_at_call 20; refine (put_any HP.out.sat v).mono ?_; rintro e w4 ⟨rfl, hS4, ho4⟩; have hw4 := ho4.below HP.out.below HP.out.below.size HP.out.hb; have hcr3 := HC0.out w4 (HB.out.trans (hw4.mono HB.out.size)))
        | (go_at_call 21; refine (HW.out _ (HP.out.row.only ho4 HP.out.far)).mono ?_; rintro e w3 ⟨⟨p3, c3, rfl, hB3, hfr⟩, hb3⟩))
      have HPN : Hid (PR W w3 g b 512 p3 (putI 512 f2 v)) := Lib.hid
        ⟨HP.out.hg, HP.out.hb, hS4.below hb3, hB3, fun b2 o e => by
          rcases hfr b2 o e with h1 | h1
          · exact HP.out.far b2 o (h1.trans e)
          · have := HP.out.sat.blt; have := ho4.size; omega, hw4.trans (hb3.mono hw4.size)⟩
      go_roundw
      case rel => exact ⟨i + 1, _, _, _, by have := HLT.out; omega, by go_num, rfl, HPN⟩
      case measure => have := HLT.out; simp [intOf]; omega
    · have hdm : decide ((i : Int) < (n : Int)) = false := decide_eq_false (by omega)
      have hdmn : decide (i < n) = false := decide_eq_false hlt
      clear hlt hi
      have HXR := Lib.hid (HX.out.below HP.out.below)
      have HBW : Hid (Below w.heap.size w wr) := Lib.hid (HB.out.trans (HP.out.below.mono HB.out.size))
      have HSF : Hid (Sub 512 f2) := Lib.hid HP.out.sat.sub
      have x0 := HXR.out.c0
      have x1 := HXR.out.c1
      have x2 := HXR.out.c2
      have x3 := HXR.out.c3
      have HEN := Lib.hid (encU x y z u g b f2 wr HP.out.sat)
      have HRE : Hid (∀ w', PR W w' g b 512 p2 f2 → Calls Try.prog 23 #[.agg #[.int .i64 x, .int .i64 y, .int .i64 z, .int .i64 u], .slice p2 512 c2] w' fun e w'' => e = .returned (.tuple #[.string (strB (encL x y z u f2)), .int .i64 (encE x y z u)]) ∧ Below w'.heap.size w' w'') := Lib.hid fun w' h => by
        have h2 := renc_any x y z u p2 c2 f2 w' h.sat.sub h.row
        rwa [rencU] at h2
      generalize hL : encL x y z u f2 = L at *
      have HLE := Lib.hid hL
      clear hL
      generalize hE : encE x y z u = E at *
      have HEE := Lib.hid hE
      clear hE
      go_upto_region 11 with (go_at_call 22; refine HEN.out.mono ?_; rintro e w3 ⟨⟨pg, ng, cg, rfl, hbg, hng, hcg⟩, hb3⟩)
      have HP3 := Lib.hid (HP.out.below2 hb3)
      have HBG := Lib.hid hbg
      have HNG := Lib.hid (And.intro hng hcg)
      have HX3 := Lib.hid (HXR.out.below hb3)
      have HB3 : Hid (Below w.heap.size w w3) := Lib.hid (HBW.out.trans (hb3.mono HBW.out.size))
      clear x0 x1 x2 x3 hbg hng hcg hb3 HP HXR HBW HEN
      have x0 := HX3.out.c0
      have x1 := HX3.out.c1
      have x2 := HX3.out.c2
      have x3 := HX3.out.c3
      go_upto_region 12 with (go_at_call 23; refine (HRE.out _ HP3.out).mono ?_; rintro e w4 ⟨rfl, hb4⟩)
      have HP4 := Lib.hid (HP3.out.below2 hb4)
      have HBG4 := Lib.hid (HBG.out.below hb4)
      have HX4 := Lib.hid (HX3.out.below hb4)
      have HB4 : Hid (Below w.heap.size w w4) := Lib.hid (HB3.out.trans (hb4.mono HB3.out.size))
      clear x0 x1 x2 x3 hb4 HP3 HX3 HB3 HBG
      have x0 := HX4.out.c0
      have x1 := HX4.out.c1
      have x2 := HX4.out.c2
      have x3 := HX4.out.c3
      go_upto_region 13 with (go_at_call 22; refine (enc_nil x y z u _).mono ?_; rintro e w5 ⟨rfl, hb5⟩)
      have HP5 := Lib.hid (HP4.out.below2 hb5)
      have HBG5 := Lib.hid (HBG4.out.below hb5)
      have HX5 := Lib.hid (HX4.out.below hb5)
      have HB5 : Hid (Below w.heap.size w w5) := Lib.hid (HB4.out.trans (hb5.mono HB4.out.size))
      clear x0 x1 x2 x3 hb5 HP4 HX4 HB4 HBG4
      have hcv := HBG5.out.conv cg
      go_upto_region 15 with fail
      clear hcv
      go_upto_region 16 with (go_at_call 24; refine (HDC.out _ HB5.out).mono ?_; rintro e w6 ⟨⟨v, rfl, hv⟩, hb6⟩; have hdd : D5 (w6.alloc (.cells #[.int .i64 0, .int .i64 0, .int .i64 0, .int .i64 0, .pointer none] 60)) w6.heap.size (.int .i64 0) (.int .i64 0) (.int .i64 0) (.int .i64 0) (.pointer none) := ⟨heap_alloc_new w6 _⟩; have c0 := hdd.c0; have c1 := hdd.c1; have c2 := hdd.c2; have c3 := hdd.c3; have c4 := hdd.c4; have f0 := hdd.fz 0; have f1 := hdd.fz 1; have fq := hdd.fz 2; have f3 := hdd.fz 3; have f4 := hdd.fz 4; have HDD := Lib.hid hdd; have HV6 := Lib.hid hv; have HB6 := Lib.hid hb6; clear hv hb6 hdd)
      clear c0 c1 c2 c3 c4 f0 f1 fq f3 f4 HDD
      have HB67 : Hid (Below w6.heap.size w6 (w6.alloc (.cells #[.int .i64 ((V 0 : Nat) : Int), .int .i64 ((V 1 : Nat) : Int), .int .i64 ((V 2 : Nat) : Int), .int .i64 ((V 3 : Nat) : Int), .pointer v] 60))) := Lib.hid ((Below.refl _ _).alloc (Nat.le_refl _) _)
      have HD7 : Hid (D5 (w6.alloc (.cells #[.int .i64 ((V 0 : Nat) : Int), .int .i64 ((V 1 : Nat) : Int), .int .i64 ((V 2 : Nat) : Int), .int .i64 ((V 3 : Nat) : Int), .pointer v] 60)) w6.heap.size (.int .i64 ((V 0 : Nat) : Int)) (.int .i64 ((V 1 : Nat) : Int)) (.int .i64 ((V 2 : Nat) : Int)) (.int .i64 ((V 3 : Nat) : Int)) (.pointer v)) := Lib.hid ⟨heap_alloc_new w6 _⟩
      generalize w6.alloc _ = w7 at *
      have HB57 : Hid (Below w5.heap.size w5 w7) := Lib.hid (HB6.out.trans (HB67.out.mono HB6.out.size))
      have HV7 : Hid ((G = 0 ∧ ∃ g b, v = some ⟨g, 0, none⟩ ∧ Sat w7 g b 512 T) ∨ (G ≠ 0 ∧ v = none)) := Lib.hid (by
        rcases HV6.out with ⟨h1, g1, b1, h2, h3⟩ | h
        · exact .inl ⟨h1, g1, b1, h2, h3.below HB67.out⟩
        · exact .inr h)
      have HB7 : Hid (Below w.heap.size w w7) := Lib.hid (HB5.out.trans (HB57.out.mono HB5.out.size))
      generalize w6.heap.size = D at *
      clear HV6 HB6 HB67
      go_upto_region 17 with (first
        | (go_at_call 25; refine (HRD.out _ HB7.out).mono ?_; rintro e w8 ⟨⟨pr, kr, cr, rfl, hkr⟩, hb8⟩)
        | (refine wpList_store_row rfl 48 (.tmp 19) (.tmp 99) rfl _ (rowA V 4) rfl rfl 48 Z (heap_alloc_new _ _) (KI.out _) (by rw [rowA_size]; exact HZS.out) (rowA_one _ _) ?_))
      rw [World.setRow_alloc_new]
      have HB89 : Hid (Below w8.heap.size w8 (w8.alloc (.cells (rowA V 4) 48))) := Lib.hid ((Below.refl _ _).alloc (Nat.le_refl _) _)
      have HX9 : Hid (IsT (w8.alloc (.cells (rowA V 4) 48)) w8.heap.size 48 V 4) := Lib.hid (heap_alloc_new w8 _)
      generalize w8.alloc _ = w9 at *
      have HB59 : Hid (Below w5.heap.size w5 w9) := Lib.hid (HB57.out.trans ((hb8.trans (HB89.out.mono hb8.size)).mono HB57.out.size))
      have HB79 : Hid (Below w7.heap.size w7 w9) := Lib.hid (hb8.trans (HB89.out.mono hb8.size))
      have HP9 := Lib.hid (HP5.out.below2 HB59.out)
      have HBG9 := Lib.hid (HBG5.out.below HB59.out)
      have HXB := Lib.hid (HX5.out.below HB59.out)
      have HB9 : Hid (Below w.heap.size w w9) := Lib.hid (HB5.out.trans (HB59.out.mono HB5.out.size))
      have HD9 := Lib.hid (HD7.out.below HB79.out)
      have HV9 : Hid ((G = 0 ∧ ∃ g b, v = some ⟨g, 0, none⟩ ∧ Sat w9 g b 512 T) ∨ (G ≠ 0 ∧ v = none)) := Lib.hid (by
        rcases HV7.out with ⟨h1, g1, b1, h2, h3⟩ | h
        · exact .inl ⟨h1, g1, b1, h2, h3.below HB79.out⟩
        · exact .inr h)
      have HKR : Hid (G = 0 → kr = 512 ∧ Bls w9 pr 512 T) := Lib.hid fun h => ⟨(hkr h).1, (hkr h).2.below HB89.out⟩
      generalize w8.heap.size = D2 at *
      clear HDC HRD hkr hb8 HB57 HB59 HB79 HB89 HV7 HD7 HB7 HP5 HBG5 HX5 HB5 HRE HZ HN HX
      go_cut [131] (fun v wx => v = .bool false ∧ Below w9.heap.size w9 wx)
      case first =>
        have HXD : Hid (∀ w', Below w9.heap.size w9 w' → w'.rangeAt D 0 (ints V 0 4)) := Lib.hid fun w' hb j vv hv => by
          have h := HD9.out.below hb
          rcases j with _ | _ | _ | _ | j
          · cases hv; exact h.c0
          · cases hv; exact h.c1
          · cases hv; exact h.c2
          · cases hv; exact h.c3
          · simp [ints] at hv
        have HXE : Hid (∀ w', Below w9.heap.size w9 w' → w'.rangeAt D2 0 (ints V 0 4)) := Lib.hid fun w' hb => (HX9.out.below hb).range 0 4 (by omega)
        have HC4 : Hid (∀ w', Below w9.heap.size w9 w' → w'.cell? ⟨D, 4, none⟩ = some (.pointer v)) := Lib.hid fun w' hb => (HD9.out.below hb).c4
        have HNE : Hid (∀ w, (Op.equalIn 10000 48 (.agg (ints V 0 4).toArray) (.agg (ints V 0 4).toArray)).run Try.prog w = .ok true w) := Lib.hid fun w => by
          rw [eqIn_row 48 4 Try.underlying48]
          have h : sameN (fun i => V (0 + i)) (fun i => V (0 + i)) 4 = true := decide_eq_true fun _ _ => rfl
          rw [h]
        have HVX := Lib.hid HV9.out
        rcases HVX.out with ⟨hG, g2, b2, hv, hsat⟩ | ⟨hG, hv⟩
        · obtain ⟨hkr, hbl⟩ := HKR.out hG
          subst hG
          subst hv
          subst hkr
          have HS2 := Lib.hid hsat
          have HBL := Lib.hid hbl
          obtain ⟨TB, hTB⟩ : ∃ TB, strB (rowF T 64) = TB := ⟨_, rfl⟩
          have HTB : Hid (strB (rowF T 64) = TB) := Lib.hid hTB
          have H26 : Hid (∀ w', Below w9.heap.size w9 w' → Calls Try.prog 26 #[.pointer (some ⟨g2, 0, none⟩)] w' fun e w'' => (∃ pb cb, e = .returned (.slice pb 64 cb) ∧ Bys w'' pb 64 (rowF T 64)) ∧ Below w9.heap.size w9 w'' ∧ Below w'.heap.size w' w'') := Lib.hid fun w' hb =>
            (bytes_any (HS2.out.below hb)).mono fun e w'' h => ⟨h.1, hb.trans (h.2.mono hb.size), h.2⟩
          have H27 : Hid (∀ w', Below w9.heap.size w9 w' → Calls Try.prog 27 #[.slice pr 512 cr] w' fun e w'' => e = .returned (.string TB) ∧ Below w9.heap.size w9 w'' ∧ Below w'.heap.size w' w'') := Lib.hid fun w' hb => by
            have h := rbytes_any pr 512 cr T w' (by omega) HS2.out.sub (HBL.out.below hb)
            rw [show need 512 = 64 from rfl, hTB] at h
            exact h.mono fun e w'' h => ⟨h.1, hb.trans (h.2.mono hb.size), h.2⟩
          clear hTB hsat hbl HVX HV9 HKR HX9
          refine wp_region_held_drew (S := fun w' => Below w9.heap.size w9 w') (by kernel_rfl) (Below.refl _ _).drew (fun hS => ?_)
          refine wpAnyH_take (i := 0) (v := (.pointer (some ⟨D, 0, none⟩))) rfl (by kernel_rfl) (by kernel_rfl) (by kernel_rfl) (fun _ _ _ h => h) (Or.inl ⟨by rfl, fun w hw => by go_simp⟩) hS ?_
          try simp only [List.getElem_toArray, List.getElem_cons_succ, List.getElem_cons_zero, Act.put, List.setIfInBounds_toArray, List.set_cons_succ, List.set_cons_zero]
          refine wpAnyH_take (i := 1) (v := (.agg (ints V 0 4).toArray)) rfl (by kernel_rfl) (by kernel_rfl) (by kernel_rfl) (fun _ _ _ h => h) (yieldsIf_load_mid rfl 48 (.tmp 102) rfl D 0 rfl (ints V 0 4) _ (fun w h => HXD.out w h) Try.underlying48 rfl (by rw [size48z, ints_len])) hS ?_
          try simp only [List.getElem_toArray, List.getElem_cons_succ, List.getElem_cons_zero, Act.put, List.setIfInBounds_toArray, List.set_cons_succ, List.set_cons_zero]
          refine wpAnyH_take (i := 2) (v := (.agg (ints V 0 4).toArray)) rfl (by kernel_rfl) (by kernel_rfl) (by kernel_rfl) (fun _ _ _ h => h) (yieldsIf_load_mid rfl 48 (.tmp 19) rfl D2 0 rfl (ints V 0 4) _ (fun w h => HXE.out w h) Try.underlying48 rfl (by rw [size48z, ints_len])) hS ?_
          try simp only [List.getElem_toArray, List.getElem_cons_succ, List.getElem_cons_zero, Act.put, List.setIfInBounds_toArray, List.set_cons_succ, List.set_cons_zero]
          refine wpAnyH_take (i := 3) (v := (.bool false)) rfl (by kernel_rfl) (by kernel_rfl) (by kernel_rfl) (fun _ _ _ h => h) (Or.inl ⟨by rfl, fun w hw => by have hne := HNE.out w; go_simp⟩) hS ?_
          try simp only [List.getElem_toArray, List.getElem_cons_succ, List.getElem_cons_zero, Act.put, List.setIfInBounds_toArray, List.set_cons_succ, List.set_cons_zero]
          refine wpAnyH_take (i := 4) (v := (.bool false)) rfl (by kernel_rfl) (by kernel_rfl) (by kernel_rfl) (fun _ _ _ h => h) (Or.inl ⟨by rfl, fun w hw => by go_simp⟩) hS ?_
          try simp only [List.getElem_toArray, List.getElem_cons_succ, List.getElem_cons_zero, Act.put, List.setIfInBounds_toArray, List.set_cons_succ, List.set_cons_zero]
          refine wpAnyH_take (i := 5) (v := (.int .i64 0)) rfl (by kernel_rfl) (by kernel_rfl) (by kernel_rfl) (fun _ _ _ h => h) (Or.inl ⟨by rfl, fun w hw => by go_simp⟩) hS ?_
          try simp only [List.getElem_toArray, List.getElem_cons_succ, List.getElem_cons_zero, Act.put, List.setIfInBounds_toArray, List.set_cons_succ, List.set_cons_zero]
          refine wpAnyH_take (i := 6) (v := (.int .i64 0)) rfl (by kernel_rfl) (by kernel_rfl) (by kernel_rfl) (fun _ _ _ h => h) (Or.inl ⟨by rfl, fun w hw => by go_simp⟩) hS ?_
          try simp only [List.getElem_toArray, List.getElem_cons_succ, List.getElem_cons_zero, Act.put, List.setIfInBounds_toArray, List.set_cons_succ, List.set_cons_zero]
          refine wpAnyH_take (i := 7) (v := (.bool false)) rfl (by kernel_rfl) (by kernel_rfl) (by kernel_rfl) (fun _ _ _ h => h) (Or.inl ⟨by rfl, fun w hw => by go_simp⟩) hS ?_
          try simp only [List.getElem_toArray, List.getElem_cons_succ, List.getElem_cons_zero, Act.put, List.setIfInBounds_toArray, List.set_cons_succ, List.set_cons_zero]
          refine wpAnyH_take (i := 8) (v := (.bool false)) rfl (by kernel_rfl) (by kernel_rfl) (by kernel_rfl) (fun _ _ _ h => h) (Or.inl ⟨by rfl, fun w hw => by go_simp⟩) hS ?_
          try simp only [List.getElem_toArray, List.getElem_cons_succ, List.getElem_cons_zero, Act.put, List.setIfInBounds_toArray, List.set_cons_succ, List.set_cons_zero]
          refine wpAnyH_take (i := 9) (v := (.bool false)) rfl (by kernel_rfl) (by kernel_rfl) (by kernel_rfl) (fun _ _ _ h => h) (Or.inl ⟨by rfl, fun w hw => by go_simp⟩) hS ?_
          try simp only [List.getElem_toArray, List.getElem_cons_succ, List.getElem_cons_zero, Act.put, List.setIfInBounds_toArray, List.set_cons_succ, List.set_cons_zero]
          refine wpAnyH_take (i := 10) (v := (.int .i64 0)) rfl (by kernel_rfl) (by kernel_rfl) (by kernel_rfl) (fun _ _ _ h => h) (Or.inl ⟨by rfl, fun w hw => by go_simp⟩) hS ?_
          try simp only [List.getElem_toArray, List.getElem_cons_succ, List.getElem_cons_zero, Act.put, List.setIfInBounds_toArray, List.set_cons_succ, List.set_cons_zero]
          refine wpAnyH_take (i := 11) (v := (.bool true)) rfl (by kernel_rfl) (by kernel_rfl) (by kernel_rfl) (fun _ _ _ h => h) (Or.inl ⟨by rfl, fun w hw => by go_simp⟩) hS ?_
          try simp only [List.getElem_toArray, List.getElem_cons_succ, List.getElem_cons_zero, Act.put, List.setIfInBounds_toArray, List.set_cons_succ, List.set_cons_zero]
          refine wpAnyH_take (i := 12) (v := (.pointer (some ⟨D, 4, none⟩))) rfl (by kernel_rfl) (by kernel_rfl) (by kernel_rfl) (fun _ _ _ h => h) (Or.inl ⟨by rfl, fun w hw => by go_simp⟩) hS ?_
          try simp only [List.getElem_toArray, List.getElem_cons_succ, List.getElem_cons_zero, Act.put, List.setIfInBounds_toArray, List.set_cons_succ, List.set_cons_zero]
          refine wpAnyH_take (i := 13) (v := (.pointer (some ⟨g2, 0, none⟩))) rfl (by kernel_rfl) (by kernel_rfl) (by kernel_rfl) (fun _ _ _ h => h) (Or.inl ⟨by rfl, fun w hw => by have c4 := HC4.out w hw; go_simp⟩) hS ?_
          try simp only [List.getElem_toArray, List.getElem_cons_succ, List.getElem_cons_zero, Act.put, List.setIfInBounds_toArray, List.set_cons_succ, List.set_cons_zero]
          refine wpAnyH_take (i := 14) (v := (.bool true)) rfl (by kernel_rfl) (by kernel_rfl) (by kernel_rfl) (fun _ _ _ h => h) (Or.inl ⟨by rfl, fun w hw => by go_simp⟩) hS ?_
          try simp only [List.getElem_toArray, List.getElem_cons_succ, List.getElem_cons_zero, Act.put, List.setIfInBounds_toArray, List.set_cons_succ, List.set_cons_zero]
          refine wpAnyH_take (i := 15) (v := (.bool false)) rfl (by kernel_rfl) (by kernel_rfl) (by kernel_rfl) (fun _ _ _ h => h) (Or.inl ⟨by rfl, fun w hw => by go_simp⟩) hS ?_
          try simp only [List.getElem_toArray, List.getElem_cons_succ, List.getElem_cons_zero, Act.put, List.setIfInBounds_toArray, List.set_cons_succ, List.set_cons_zero]
          refine wpAnyH_take (i := 16) (v := (.bool false)) rfl (by kernel_rfl) (by kernel_rfl) (by kernel_rfl) (fun _ _ _ h => h) (Or.inl ⟨by rfl, fun w hw => by go_simp⟩) hS ?_
          try simp only [List.getElem_toArray, List.getElem_cons_succ, List.getElem_cons_zero, Act.put, List.setIfInBounds_toArray, List.set_cons_succ, List.set_cons_zero]
          refine wpAnyH_take (i := 17) (v := (.bool false)) rfl (by kernel_rfl) (by kernel_rfl) (by kernel_rfl) (fun _ _ _ h => h) (Or.inl ⟨by rfl, fun w hw => by go_simp⟩) hS ?_
          try simp only [List.getElem_toArray, List.getElem_cons_succ, List.getElem_cons_zero, Act.put, List.setIfInBounds_toArray, List.set_cons_succ, List.set_cons_zero]
          refine wpAnyH_take (i := 18) (v := (.int .i64 0)) rfl (by kernel_rfl) (by kernel_rfl) (by kernel_rfl) (fun _ _ _ h => h) (Or.inl ⟨by rfl, fun w hw => by go_simp⟩) hS ?_
          try simp only [List.getElem_toArray, List.getElem_cons_succ, List.getElem_cons_zero, Act.put, List.setIfInBounds_toArray, List.set_cons_succ, List.set_cons_zero]
          refine wpAnyH_take (i := 19) (v := (.bool true)) rfl (by kernel_rfl) (by kernel_rfl) (by kernel_rfl) (fun _ _ _ h => h) (Or.inl ⟨by rfl, fun w hw => by go_simp⟩) hS ?_
          try simp only [List.getElem_toArray, List.getElem_cons_succ, List.getElem_cons_zero, Act.put, List.setIfInBounds_toArray, List.set_cons_succ, List.set_cons_zero]
          refine wpAnyH_take (i := 20) (v := (.bool true)) rfl (by kernel_rfl) (by kernel_rfl) (by kernel_rfl) (fun _ _ _ h => h) (Or.inl ⟨by rfl, fun w hw => by go_simp⟩) hS ?_
          try simp only [List.getElem_toArray, List.getElem_cons_succ, List.getElem_cons_zero, Act.put, List.setIfInBounds_toArray, List.set_cons_succ, List.set_cons_zero]
          refine wpAnyH_take (i := 21) (v := (.pointer (some ⟨D, 4, none⟩))) rfl (by kernel_rfl) (by kernel_rfl) (by kernel_rfl) (fun _ _ _ h => h) (Or.inl ⟨by rfl, fun w hw => by go_simp⟩) hS ?_
          try simp only [List.getElem_toArray, List.getElem_cons_succ, List.getElem_cons_zero, Act.put, List.setIfInBounds_toArray, List.set_cons_succ, List.set_cons_zero]
          refine wpAnyH_take (i := 22) (v := (.pointer (some ⟨g2, 0, none⟩))) rfl (by kernel_rfl) (by kernel_rfl) (by kernel_rfl) (fun _ _ _ h => h) (Or.inl ⟨by rfl, fun w hw => by have c4 := HC4.out w hw; go_simp⟩) hS ?_
          try simp only [List.getElem_toArray, List.getElem_cons_succ, List.getElem_cons_zero, Act.put, List.setIfInBounds_toArray, List.set_cons_succ, List.set_cons_zero]
          refine wpAnyH_take (i := 25) (v := (.slice pr 512 cr)) rfl (by kernel_rfl) (by kernel_rfl) (by kernel_rfl) (fun _ _ _ h => h) (Or.inl ⟨by rfl, fun w hw => by go_simp⟩) hS ?_
          try simp only [List.getElem_toArray, List.getElem_cons_succ, List.getElem_cons_zero, Act.put, List.setIfInBounds_toArray, List.set_cons_succ, List.set_cons_zero]
          refine wpAnyH_ready (rs := [23]) (by kernel_rfl) (by simp) ?_
          refine AllReadyH.cons rfl (fun K hK => ?_) AllReadyH.nil
          rw [if_pos (by rfl)]
          try simp only [List.getElem_toArray, List.getElem_cons_succ, List.getElem_cons_zero, Act.put, List.setIfInBounds_toArray, List.set_cons_succ, List.set_cons_zero]
          go_simp
          go_at_call 26
          refine (H26.out _ hS).mono ?_
          rintro e w1 ⟨⟨pb, cb, rfl, hby⟩, hs1, ht1⟩
          refine hK.out _ _ hs1 (fun _ => ?_)
          clear hK K
          refine wpAnyH_ready (rs := [24,26]) (by kernel_rfl) (by simp) ?_
          refine AllReadyH.cons rfl (fun K hK => ?_) ?_
          · rw [if_pos (by rfl)]
            try simp only [List.getElem_toArray, List.getElem_cons_succ, List.getElem_cons_zero, Act.put, List.setIfInBounds_toArray, List.set_cons_succ, List.set_cons_zero]
            have hcv := Bys.conv hby cb
            rw [HTB.out] at hcv
            go_simp
            refine hK.out _ _ hs1 (fun _ => ?_)
            clear hK K hcv
            refine wpAnyH_ready (rs := [26]) (by kernel_rfl) (by simp) ?_
            refine AllReadyH.cons rfl (fun K hK => ?_) AllReadyH.nil
            rw [if_pos (by rfl)]
            try simp only [List.getElem_toArray, List.getElem_cons_succ, List.getElem_cons_zero, Act.put, List.setIfInBounds_toArray, List.set_cons_succ, List.set_cons_zero]
            go_simp
            go_at_call 27
            refine (H27.out _ hs1).mono ?_
            rintro e w2 ⟨rfl, hs2, ht2⟩
            refine hK.out _ _ hs2 (fun _ => ?_)
            clear hK K
            refine wpAnyH_take (i := 27) (v := (.bool false)) rfl (by kernel_rfl) (by kernel_rfl) (by kernel_rfl) (fun _ _ _ h => h) (Or.inl ⟨by rfl, fun w hw => by go_simp⟩) hs2 ?_
            try simp only [List.getElem_toArray, List.getElem_cons_succ, List.getElem_cons_zero, Act.put, List.setIfInBounds_toArray, List.set_cons_succ, List.set_cons_zero]
            refine wpAnyH_take (i := 28) (v := (.bool false)) rfl (by kernel_rfl) (by kernel_rfl) (by kernel_rfl) (fun _ _ _ h => h) (Or.inl ⟨by rfl, fun w hw => by go_simp⟩) hs2 ?_
            try simp only [List.getElem_toArray, List.getElem_cons_succ, List.getElem_cons_zero, Act.put, List.setIfInBounds_toArray, List.set_cons_succ, List.set_cons_zero]
            refine wpAnyH_take (i := 29) (v := (.bool false)) rfl (by kernel_rfl) (by kernel_rfl) (by kernel_rfl) (fun _ _ _ h => h) (Or.inl ⟨by rfl, fun w hw => by go_simp⟩) hs2 ?_
            try simp only [List.getElem_toArray, List.getElem_cons_succ, List.getElem_cons_zero, Act.put, List.setIfInBounds_toArray, List.set_cons_succ, List.set_cons_zero]
            refine wpAnyH_done (by kernel_rfl) ?_ _
            go_wp2_with fail
            go_meet
            exact ⟨rfl, hs2⟩
          · refine AllReadyH.cons rfl (fun K hK => ?_) AllReadyH.nil
            rw [if_pos (by rfl)]
            try simp only [List.getElem_toArray, List.getElem_cons_succ, List.getElem_cons_zero, Act.put, List.setIfInBounds_toArray, List.set_cons_succ, List.set_cons_zero]
            go_simp
            go_at_call 27
            refine (H27.out _ hs1).mono ?_
            rintro e w2 ⟨rfl, hs2, ht2⟩
            refine hK.out _ _ hs2 (fun _ => ?_)
            clear hK K
            have hby2 := hby.below ht2
            refine wpAnyH_ready (rs := [24]) (by kernel_rfl) (by simp) ?_
            refine AllReadyH.cons rfl (fun K hK => ?_) AllReadyH.nil
            rw [if_pos (by rfl)]
            try simp only [List.getElem_toArray, List.getElem_cons_succ, List.getElem_cons_zero, Act.put, List.setIfInBounds_toArray, List.set_cons_succ, List.set_cons_zero]
            have hcv := Bys.conv hby2 cb
            rw [HTB.out] at hcv
            go_simp
            refine hK.out _ _ hs2 (fun _ => ?_)
            clear hK K hcv
            refine wpAnyH_take (i := 27) (v := (.bool false)) rfl (by kernel_rfl) (by kernel_rfl) (by kernel_rfl) (fun _ _ _ h => h) (Or.inl ⟨by rfl, fun w hw => by go_simp⟩) hs2 ?_
            try simp only [List.getElem_toArray, List.getElem_cons_succ, List.getElem_cons_zero, Act.put, List.setIfInBounds_toArray, List.set_cons_succ, List.set_cons_zero]
            refine wpAnyH_take (i := 28) (v := (.bool false)) rfl (by kernel_rfl) (by kernel_rfl) (by kernel_rfl) (fun _ _ _ h => h) (Or.inl ⟨by rfl, fun w hw => by go_simp⟩) hs2 ?_
            try simp only [List.getElem_toArray, List.getElem_cons_succ, List.getElem_cons_zero, Act.put, List.setIfInBounds_toArray, List.set_cons_succ, List.set_cons_zero]
            refine wpAnyH_take (i := 29) (v := (.bool false)) rfl (by kernel_rfl) (by kernel_rfl) (by kernel_rfl) (fun _ _ _ h => h) (Or.inl ⟨by rfl, fun w hw => by go_simp⟩) hs2 ?_
            try simp only [List.getElem_toArray, List.getElem_cons_succ, List.getElem_cons_zero, Act.put, List.setIfInBounds_toArray, List.set_cons_succ, List.set_cons_zero]
            refine wpAnyH_done (by kernel_rfl) ?_ _
            go_wp2_with fail
            go_meet
            exact ⟨rfl, hs2⟩
        · subst hv
          have hG0 : (G == 0) = false := by simpa using hG
          clear HVX HV9 HKR HX9 hG
          refine wp_region_held_drew (S := fun w' => Below w9.heap.size w9 w') (by kernel_rfl) (Below.refl _ _).drew (fun hS => ?_)
          refine wpAnyH_take (i := 0) (v := (.pointer (some ⟨D, 0, none⟩))) rfl (by kernel_rfl) (by kernel_rfl) (by kernel_rfl) (fun _ _ _ h => h) (Or.inl ⟨by rfl, fun w hw => by go_simp⟩) hS ?_
          try simp only [List.getElem_toArray, List.getElem_cons_succ, List.getElem_cons_zero, Act.put, List.setIfInBounds_toArray, List.set_cons_succ, List.set_cons_zero]
          refine wpAnyH_take (i := 1) (v := (.agg (ints V 0 4).toArray)) rfl (by kernel_rfl) (by kernel_rfl) (by kernel_rfl) (fun _ _ _ h => h) (yieldsIf_load_mid rfl 48 (.tmp 102) rfl D 0 rfl (ints V 0 4) _ (fun w h => HXD.out w h) Try.underlying48 rfl (by rw [size48z, ints_len])) hS ?_
          try simp only [List.getElem_toArray, List.getElem_cons_succ, List.getElem_cons_zero, Act.put, List.setIfInBounds_toArray, List.set_cons_succ, List.set_cons_zero]
          refine wpAnyH_take (i := 2) (v := (.agg (ints V 0 4).toArray)) rfl (by kernel_rfl) (by kernel_rfl) (by kernel_rfl) (fun _ _ _ h => h) (yieldsIf_load_mid rfl 48 (.tmp 19) rfl D2 0 rfl (ints V 0 4) _ (fun w h => HXE.out w h) Try.underlying48 rfl (by rw [size48z, ints_len])) hS ?_
          try simp only [List.getElem_toArray, List.getElem_cons_succ, List.getElem_cons_zero, Act.put, List.setIfInBounds_toArray, List.set_cons_succ, List.set_cons_zero]
          refine wpAnyH_take (i := 3) (v := (.bool false)) rfl (by kernel_rfl) (by kernel_rfl) (by kernel_rfl) (fun _ _ _ h => h) (Or.inl ⟨by rfl, fun w hw => by have hne := HNE.out w; go_simp⟩) hS ?_
          try simp only [List.getElem_toArray, List.getElem_cons_succ, List.getElem_cons_zero, Act.put, List.setIfInBounds_toArray, List.set_cons_succ, List.set_cons_zero]
          refine wpAnyH_take (i := 4) (v := (.bool false)) rfl (by kernel_rfl) (by kernel_rfl) (by kernel_rfl) (fun _ _ _ h => h) (Or.inl ⟨by rfl, fun w hw => by go_simp⟩) hS ?_
          try simp only [List.getElem_toArray, List.getElem_cons_succ, List.getElem_cons_zero, Act.put, List.setIfInBounds_toArray, List.set_cons_succ, List.set_cons_zero]
          refine wpAnyH_take (i := 5) (v := (.int .i64 G)) rfl (by kernel_rfl) (by kernel_rfl) (by kernel_rfl) (fun _ _ _ h => h) (Or.inl ⟨by rfl, fun w hw => by go_simp⟩) hS ?_
          try simp only [List.getElem_toArray, List.getElem_cons_succ, List.getElem_cons_zero, Act.put, List.setIfInBounds_toArray, List.set_cons_succ, List.set_cons_zero]
          refine wpAnyH_take (i := 6) (v := (.int .i64 G)) rfl (by kernel_rfl) (by kernel_rfl) (by kernel_rfl) (fun _ _ _ h => h) (Or.inl ⟨by rfl, fun w hw => by go_simp⟩) hS ?_
          try simp only [List.getElem_toArray, List.getElem_cons_succ, List.getElem_cons_zero, Act.put, List.setIfInBounds_toArray, List.set_cons_succ, List.set_cons_zero]
          refine wpAnyH_take (i := 7) (v := (.bool false)) rfl (by kernel_rfl) (by kernel_rfl) (by kernel_rfl) (fun _ _ _ h => h) (Or.inl ⟨by rfl, fun w hw => by go_simp⟩) hS ?_
          try simp only [List.getElem_toArray, List.getElem_cons_succ, List.getElem_cons_zero, Act.put, List.setIfInBounds_toArray, List.set_cons_succ, List.set_cons_zero]
          refine wpAnyH_take (i := 8) (v := (.bool false)) rfl (by kernel_rfl) (by kernel_rfl) (by kernel_rfl) (fun _ _ _ h => h) (Or.inl ⟨by rfl, fun w hw => by go_simp⟩) hS ?_
          try simp only [List.getElem_toArray, List.getElem_cons_succ, List.getElem_cons_zero, Act.put, List.setIfInBounds_toArray, List.set_cons_succ, List.set_cons_zero]
          refine wpAnyH_take (i := 9) (v := (.bool false)) rfl (by kernel_rfl) (by kernel_rfl) (by kernel_rfl) (fun _ _ _ h => h) (Or.inl ⟨by rfl, fun w hw => by go_simp⟩) hS ?_
          try simp only [List.getElem_toArray, List.getElem_cons_succ, List.getElem_cons_zero, Act.put, List.setIfInBounds_toArray, List.set_cons_succ, List.set_cons_zero]
          refine wpAnyH_take (i := 10) (v := (.int .i64 G)) rfl (by kernel_rfl) (by kernel_rfl) (by kernel_rfl) (fun _ _ _ h => h) (Or.inl ⟨by rfl, fun w hw => by go_simp⟩) hS ?_
          try simp only [List.getElem_toArray, List.getElem_cons_succ, List.getElem_cons_zero, Act.put, List.setIfInBounds_toArray, List.set_cons_succ, List.set_cons_zero]
          refine wpAnyH_take (i := 11) (v := (.bool false)) rfl (by kernel_rfl) (by kernel_rfl) (by kernel_rfl) (fun _ _ _ h => h) (Or.inl ⟨by rfl, fun w hw => by go_simp⟩) hS ?_
          try simp only [List.getElem_toArray, List.getElem_cons_succ, List.getElem_cons_zero, Act.put, List.setIfInBounds_toArray, List.set_cons_succ, List.set_cons_zero]
          refine wpAnyH_take (i := 12) (v := (.pointer (some ⟨D, 4, none⟩))) rfl (by kernel_rfl) (by kernel_rfl) (by kernel_rfl) (fun _ _ _ h => h) (Or.inl ⟨by rfl, fun w hw => by go_simp⟩) hS ?_
          try simp only [List.getElem_toArray, List.getElem_cons_succ, List.getElem_cons_zero, Act.put, List.setIfInBounds_toArray, List.set_cons_succ, List.set_cons_zero]
          refine wpAnyH_take (i := 13) (v := (.pointer none)) rfl (by kernel_rfl) (by kernel_rfl) (by kernel_rfl) (fun _ _ _ h => h) (Or.inl ⟨by rfl, fun w hw => by have c4 := HC4.out w hw; go_simp⟩) hS ?_
          try simp only [List.getElem_toArray, List.getElem_cons_succ, List.getElem_cons_zero, Act.put, List.setIfInBounds_toArray, List.set_cons_succ, List.set_cons_zero]
          refine wpAnyH_take (i := 14) (v := (.bool false)) rfl (by kernel_rfl) (by kernel_rfl) (by kernel_rfl) (fun _ _ _ h => h) (Or.inl ⟨by rfl, fun w hw => by go_simp⟩) hS ?_
          try simp only [List.getElem_toArray, List.getElem_cons_succ, List.getElem_cons_zero, Act.put, List.setIfInBounds_toArray, List.set_cons_succ, List.set_cons_zero]
          refine wpAnyH_take (i := 15) (v := (.bool false)) rfl (by kernel_rfl) (by kernel_rfl) (by kernel_rfl) (fun _ _ _ h => h) (Or.inl ⟨by rfl, fun w hw => by go_simp⟩) hS ?_
          try simp only [List.getElem_toArray, List.getElem_cons_succ, List.getElem_cons_zero, Act.put, List.setIfInBounds_toArray, List.set_cons_succ, List.set_cons_zero]
          refine wpAnyH_take (i := 16) (v := (.bool false)) rfl (by kernel_rfl) (by kernel_rfl) (by kernel_rfl) (fun _ _ _ h => h) (Or.inl ⟨by rfl, fun w hw => by go_simp⟩) hS ?_
          try simp only [List.getElem_toArray, List.getElem_cons_succ, List.getElem_cons_zero, Act.put, List.setIfInBounds_toArray, List.set_cons_succ, List.set_cons_zero]
          refine wpAnyH_take (i := 17) (v := (.bool false)) rfl (by kernel_rfl) (by kernel_rfl) (by kernel_rfl) (fun _ _ _ h => h) (Or.inl ⟨by rfl, fun w hw => by go_simp⟩) hS ?_
          try simp only [List.getElem_toArray, List.getElem_cons_succ, List.getElem_cons_zero, Act.put, List.setIfInBounds_toArray, List.set_cons_succ, List.set_cons_zero]
          refine wpAnyH_take (i := 18) (v := (.int .i64 G)) rfl (by kernel_rfl) (by kernel_rfl) (by kernel_rfl) (fun _ _ _ h => h) (Or.inl ⟨by rfl, fun w hw => by go_simp⟩) hS ?_
          try simp only [List.getElem_toArray, List.getElem_cons_succ, List.getElem_cons_zero, Act.put, List.setIfInBounds_toArray, List.set_cons_succ, List.set_cons_zero]
          refine wpAnyH_take (i := 19) (v := (.bool false)) rfl (by kernel_rfl) (by kernel_rfl) (by kernel_rfl) (fun _ _ _ h => h) (Or.inl ⟨by rfl, fun w hw => by go_simp⟩) hS ?_
          try simp only [List.getElem_toArray, List.getElem_cons_succ, List.getElem_cons_zero, Act.put, List.setIfInBounds_toArray, List.set_cons_succ, List.set_cons_zero]
          refine wpAnyH_take (i := 20) (v := (.bool false)) rfl (by kernel_rfl) (by kernel_rfl) (by kernel_rfl) (fun _ _ _ h => h) (Or.inl ⟨by rfl, fun w hw => by go_simp⟩) hS ?_
          try simp only [List.getElem_toArray, List.getElem_cons_succ, List.getElem_cons_zero, Act.put, List.setIfInBounds_toArray, List.set_cons_succ, List.set_cons_zero]
          refine wpAnyH_take (i := 21) (v := undef) rfl (by kernel_rfl) (by kernel_rfl) (by kernel_rfl) (fun _ _ _ h => h) (Or.inr ⟨by rfl, rfl⟩) hS ?_
          try simp only [List.getElem_toArray, List.getElem_cons_succ, List.getElem_cons_zero, Act.put, List.setIfInBounds_toArray, List.set_cons_succ, List.set_cons_zero]
          refine wpAnyH_take (i := 22) (v := undef) rfl (by kernel_rfl) (by kernel_rfl) (by kernel_rfl) (fun _ _ _ h => h) (Or.inr ⟨by rfl, rfl⟩) hS ?_
          try simp only [List.getElem_toArray, List.getElem_cons_succ, List.getElem_cons_zero, Act.put, List.setIfInBounds_toArray, List.set_cons_succ, List.set_cons_zero]
          refine wpAnyH_take (i := 23) (v := undef) rfl (by kernel_rfl) (by kernel_rfl) (by kernel_rfl) (fun _ _ _ h => h) (Or.inr ⟨by rfl, rfl⟩) hS ?_
          try simp only [List.getElem_toArray, List.getElem_cons_succ, List.getElem_cons_zero, Act.put, List.setIfInBounds_toArray, List.set_cons_succ, List.set_cons_zero]
          refine wpAnyH_take (i := 24) (v := undef) rfl (by kernel_rfl) (by kernel_rfl) (by kernel_rfl) (fun _ _ _ h => h) (Or.inr ⟨by rfl, rfl⟩) hS ?_
          try simp only [List.getElem_toArray, List.getElem_cons_succ, List.getElem_cons_zero, Act.put, List.setIfInBounds_toArray, List.set_cons_succ, List.set_cons_zero]
          refine wpAnyH_take (i := 25) (v := undef) rfl (by kernel_rfl) (by kernel_rfl) (by kernel_rfl) (fun _ _ _ h => h) (Or.inr ⟨by rfl, rfl⟩) hS ?_
          try simp only [List.getElem_toArray, List.getElem_cons_succ, List.getElem_cons_zero, Act.put, List.setIfInBounds_toArray, List.set_cons_succ, List.set_cons_zero]
          refine wpAnyH_take (i := 26) (v := undef) rfl (by kernel_rfl) (by kernel_rfl) (by kernel_rfl) (fun _ _ _ h => h) (Or.inr ⟨by rfl, rfl⟩) hS ?_
          try simp only [List.getElem_toArray, List.getElem_cons_succ, List.getElem_cons_zero, Act.put, List.setIfInBounds_toArray, List.set_cons_succ, List.set_cons_zero]
          refine wpAnyH_take (i := 27) (v := undef) rfl (by kernel_rfl) (by kernel_rfl) (by kernel_rfl) (fun _ _ _ h => h) (Or.inr ⟨by rfl, rfl⟩) hS ?_
          try simp only [List.getElem_toArray, List.getElem_cons_succ, List.getElem_cons_zero, Act.put, List.setIfInBounds_toArray, List.set_cons_succ, List.set_cons_zero]
          refine wpAnyH_take (i := 28) (v := (.bool false)) rfl (by kernel_rfl) (by kernel_rfl) (by kernel_rfl) (fun _ _ _ h => h) (Or.inl ⟨by rfl, fun w hw => by go_simp⟩) hS ?_
          try simp only [List.getElem_toArray, List.getElem_cons_succ, List.getElem_cons_zero, Act.put, List.setIfInBounds_toArray, List.set_cons_succ, List.set_cons_zero]
          refine wpAnyH_take (i := 29) (v := (.bool false)) rfl (by kernel_rfl) (by kernel_rfl) (by kernel_rfl) (fun _ _ _ h => h) (Or.inl ⟨by rfl, fun w hw => by go_simp⟩) hS ?_
          try simp only [List.getElem_toArray, List.getElem_cons_succ, List.getElem_cons_zero, Act.put, List.setIfInBounds_toArray, List.set_cons_succ, List.set_cons_zero]
          refine wpAnyH_done (by kernel_rfl) ?_ _
          go_wp2_with fail
          go_meet
          exact ⟨rfl, hS⟩
      case rest =>
        obtain ⟨rfl, hbx⟩ := hcut
        have HPC := Lib.hid (HP9.out.below2 hbx)
        have HBGC := Lib.hid (HBG9.out.below hbx)
        have HXC := Lib.hid (HXB.out.below hbx)
        have HBC : Hid (Below w.heap.size w wc) := Lib.hid (HB9.out.trans (hbx.mono HB9.out.size))
        clear hbx HP9 HBG9 HXB HB9 HD9 HV9 HKR HX9
        cases hok : okL x y z u with
        | false =>
          have hE1 : E = 1 := by rw [← HEE.out]; unfold encE; rw [hok]; rfl
          clear hok HLE HEE
          subst hE1
          go_upto_region 19 with fail
          go_wp2_with (go_at_call 11; refine (lives_any _).mono ?_; rintro e w7 ⟨rfl, hb7⟩)
          go_ret
          exact ⟨rfl, HBC.out.trans (hb7.mono HBC.out.size)⟩
        | true =>
          have hE0 : E = 0 := by rw [← HEE.out]; unfold encE; rw [hok]; rfl
          have hL0 : L = dirB x y z u f2 := by rw [← HLE.out]; unfold encL; rw [hok]; rfl
          have hBG := HBGC.out
          rw [hL0] at hBG
          have hng : ng = 512 := by have := hBG.len; rw [dirB_len] at this; exact this.symm
          subst hng
          have HDK := Lib.hid (dec_back hok HSF.out pg cg wc hBG HNG.out.1 HNG.out.2)
          have HOK := Lib.hid hok
          clear hok HLE HEE hL0 hBG
          subst hE0
          go_upto_region 19 with fail
          go_upto_region 22 with (go_at_call 24; refine HDK.out.mono ?_; rintro e w6 ⟨⟨gd, bd, rfl, hsd⟩, hb6⟩; have hdd : D5 (w6.alloc (.cells #[.int .i64 0, .int .i64 0, .int .i64 0, .int .i64 0, .pointer none] 60)) w6.heap.size (.int .i64 0) (.int .i64 0) (.int .i64 0) (.int .i64 0) (.pointer none) := ⟨heap_alloc_new w6 _⟩; have c0 := hdd.c0; have c1 := hdd.c1; have c2 := hdd.c2; have c3 := hdd.c3; have c4 := hdd.c4; have f0 := hdd.fz 0; have f1 := hdd.fz 1; have fq := hdd.fz 2; have f3 := hdd.fz 3; have f4 := hdd.fz 4; have HSD := Lib.hid hsd; have HB6 := Lib.hid hb6; clear hsd hb6 hdd)
          clear c0 c1 c2 c3 c4 f0 f1 fq f3 f4
          have HB67 : Hid (Below w6.heap.size w6 (w6.alloc (.cells #[.int .i64 x, .int .i64 y, .int .i64 z, .int .i64 u, .pointer (some ⟨gd, 0, none⟩)] 60))) := Lib.hid ((Below.refl _ _).alloc (Nat.le_refl _) _)
          have HDE : Hid (D5 (w6.alloc (.cells #[.int .i64 x, .int .i64 y, .int .i64 z, .int .i64 u, .pointer (some ⟨gd, 0, none⟩)] 60)) w6.heap.size (.int .i64 x) (.int .i64 y) (.int .i64 z) (.int .i64 u) (.pointer (some ⟨gd, 0, none⟩))) := Lib.hid ⟨heap_alloc_new w6 _⟩
          generalize w6.alloc _ = w7 at *
          have HBC7 : Hid (Below wc.heap.size wc w7) := Lib.hid (HB6.out.trans (HB67.out.mono HB6.out.size))
          have HSE := Lib.hid (HSD.out.below HB67.out)
          have HP7 := Lib.hid (HPC.out.below2 HBC7.out)
          have HX7 := Lib.hid (HXC.out.below HBC7.out)
          have HBD : Hid (Below w.heap.size w w7) := Lib.hid (HBC.out.trans (HBC7.out.mono HBC.out.size))
          have HSM := Lib.hid (same_any HSE.out HP7.out.sat)
          have hsm := HSM.out
          rw [decide_eq_true (show 512 = 512 ∧ rowF f2 (need 512) = rowF f2 (need 512) from ⟨rfl, rfl⟩)] at hsm
          have HSN := Lib.hid hsm
          clear hsm HSM
          generalize w6.heap.size = D3 at *
          have heq := four_eq HOK.out
          have x0 := HX7.out.c0
          have x1 := HX7.out.c1
          have x2 := HX7.out.c2
          have x3 := HX7.out.c3
          have c0 := HDE.out.c0
          have c1 := HDE.out.c1
          have c2 := HDE.out.c2
          have c3 := HDE.out.c3
          have c4 := HDE.out.c4
          go_wp2_with (first
            | (go_at_call 28; refine HSN.out.mono ?_; rintro e wA ⟨rfl, hbA⟩)
            | (go_at_call 11; refine (lives_any _).mono ?_; rintro e wB ⟨rfl, hbB⟩))
          go_ret
          exact ⟨rfl, HBD.out.trans ((hbA.trans (hbB.mono hbA.size)).mono HBD.out.size)⟩
theorem dirs_walk (x y z u : Int) (p : Option Addr) (n c : Nat) (zf : Nat → Int) (q : Option Addr) (m cc : Nat) (bs : List Nat) (w : World) (hn : n ≤ 9223372036854775807) (hZ : Zs w p n zf) (hB : Bys w q m bs) (hF : Fit q m cc) (hcc : cc ≤ 140737488351232) :
    Calls Try.prog 6 #[.agg #[.int .i64 x, .int .i64 y, .int .i64 z, .int .i64 u], .slice p n c, .slice q m cc] w fun e w' => e = .returned (.bool true) ∧ Below w.heap.size w w' := by
  have hmc := hF.cap
  by_cases h : 1500 < m ∨ 100 < n
  · exact dirs_big x y z u p q n c m cc w hn (by omega) h
  · exact dirs_in x y z u p q n c m cc zf bs w (by omega) hZ (by omega) hB hmc hcc
end Go.Proofs.Ytamfkglkgfggaaa
