/- Texts XHeld to XHeld of this seat, laid into one. -/
import Derived.Test.YthcnofdihigohaaGreatM21
section
/- PagerHeld: the walk. -/
set_option maxRecDepth 20000
set_option linter.unusedSimpArgs false
namespace Go.Proofs.YthcnofdihigohaaGreat
open Go.RowKit

set_option maxHeartbeats 6400000 in
theorem heldl_walk (p : Option Addr) (n c : Nat) (f : Nat → Op4) (cut : Int) (w : World) (h0 : -9223372036854775808 ≤ cut) (h1 : cut ≤ 9223372036854775807) (hn : n ≤ 9223372036854775807) (hO : OpsIn w p n f) :
    Calls Tryz.prog 5 #[.slice p n c, .int .i64 cut] w fun e w' => e = .returned (.bool true) ∧ Below w.heap.size w w' := by
  have HMD := Lib.hid (made_any (pg := 24) (by omega) (by omega) p n c f w hn hO)
  have HLV := Lib.hid lives_any
  clear hO
  by_cases hc0 : cut < 0
  · have hd0 : decide (cut < 0) = true := decide_eq_true hc0
    go_enter Tryz.func5, Tryz.ntmps5
    go_upto_region 2 with (go_at_call 11; refine HMD.out.mono ?_; rintro e w1 ⟨d, g, X, rfl, hM⟩)
    have HB1 := Lib.hid hM.bel
    clear hM HMD
    go_wp2_with (go_at_call 10; refine (HLV.out _).mono ?_; rintro e w2 ⟨rfl, hb2⟩)
    go_ret
    exact ⟨rfl, Below.more HB1.out hb2 HB1.out.size⟩
  · have hd0 : decide (cut < 0) = false := decide_eq_false hc0
    have hcut : 0 ≤ cut := by omega
    clear hc0
    go_enter Tryz.func5, Tryz.ntmps5
    go_upto_region 2 with (go_at_call 11; refine HMD.out.mono ?_; rintro e w1 ⟨d, g, X, rfl, hM⟩)
    obtain ⟨⟨m, s, x, hd⟩, hbel⟩ := hM
    have HD := Lib.hid hd
    have HB := Lib.hid hbel
    clear hd hbel HMD
    have HH : Hid (∀ u, Below w1.heap.size w1 u → Calls Tryz.prog 12 #[.pointer (some ⟨g, 0, none⟩)] u fun e w' => (∃ g' b', e = .returned (.pointer (some ⟨g', 0, none⟩)) ∧ Bi.Sat w' g' b' 512 (heldS s)) ∧ Below u.heap.size u w') := Lib.hid fun u hu => held_duo (HD.out.below hu)
    have HX : Hid (∀ u, Below w1.heap.size w1 u → u.cell? ⟨X, 1537, none⟩ = some (.int .i64 s.g.r.ep)) := Lib.hid fun u hu => by rw [← HD.out.sim.ep]; exact (HD.out.below hu).xb.ep
    have hep : 0 ≤ s.g.r.ep ∧ s.g.r.ep ≤ 1001 := by
      have := HD.out.ep
      have := HD.out.k
      omega
    have HPL := Lib.hid (fun u => place_any (s.g.r.ep + 1) u)
    obtain ⟨pl, hpl⟩ : ∃ pl, Hid (place (s.g.r.ep + 1) = pl) := ⟨_, Lib.hid rfl⟩
    rw [hpl.out] at HPL
    have HFU : Hid (∀ u, Below w1.heap.size w1 u → Calls Tryz.prog 23 #[.pointer (some ⟨d, 0, none⟩), .int .i64 cut] u fun e w' => e = .returned (.tuple #[]) ∧ Fus w.heap.size w' d g m s 24 cut ∧ SatK u w' ∧ Below w.heap.size u w') := Lib.hid fun u hu => fuse_duo (HD.out.below hu) cut hcut h1
    have HCG : Hid (∀ u, Fus w.heap.size u d g m s 24 cut → Calls Tryz.prog 24 #[.pointer (some ⟨g, 0, none⟩), .int .i64 1] u fun e w' => ∃ M : Dsk × Int, e = .returned (.int .i64 M.2) ∧ Wts s 24 M ∧ Wai w.heap.size w' d M.1 ∧ SatK u w' ∧ Below w.heap.size u w') := Lib.hid fun u hu => cut_go hu 1 ⟨by omega, by omega⟩
    have hep1 : s.g.r.ep + 1 = s.g.r.ep + 1 := rfl
    obtain ⟨E, hE⟩ : ∃ E, Hid (s.g.r.ep = E) := ⟨_, Lib.hid rfl⟩
    rw [hE.out] at HPL HX hep
    clear hep1
    obtain ⟨hE0, hE1⟩ := hep
    have hwr : wrap64 (E + 1) = E + 1 := by unfold wrap64; omega
    have hwr2 : IntKind.i64.wrap (E + 1) = E + 1 := by rw [IntKind.wrap_i64]; omega
    go_upto_region 6 with fail
    have hx0 := HX.out _ (Below.refl _ _)
    go_region_held3 (fun u : World => u.cell? ⟨X, 1537, none⟩ = some (.int .i64 E)) ((first
      | with_reducible exact hx0
      | go_keep)) (first
      | (go_at_call 12
         with_reducible refine (HH.out _ ?hyp).mono ?_
         case hyp => first | with_reducible exact Below.refl _ _ | exact (Below.refl _ _).drew
         rintro e w2 ⟨⟨g', b', rfl, hs⟩, hb2⟩
         have hb2 : Below w1.heap.size w1 w2 := by first | with_reducible exact hb2 | exact (Below.refl _ _).drew.trans hb2
         have hx0 := HX.out _ hb2)
      | (go_at_call 33; with_reducible refine (HPL.out _).mono ?_; rintro e w3 ⟨rfl, rfl⟩))
    have HS2 := Lib.hid hs
    have HB2 := Lib.hid hb2
    have HBW2 := Lib.hid (Below.more HB.out hb2 HB.out.size)
    clear hs hb2 HH HX
    go_upto_region 8 with (go_at_call 23; with_reducible refine (HFU.out _ HB2.out).mono ?_; rintro e w4 ⟨rfl, hfu, hk4, hb4⟩)
    have HF4 := Lib.hid hfu
    have HS4 := Lib.hid (hk4 _ _ _ _ HS2.out)
    have HB4 := Lib.hid (HBW2.out.trans hb4)
    clear hfu hk4 hb4 HFU
    go_upto_region 9 with (go_at_call 24; with_reducible refine (HCG.out _ HF4.out).mono ?_; rintro e w5 ⟨⟨M, e2⟩, rfl, hW, hA, hk5, hb5⟩)
    have HS5 := Lib.hid (hk5 _ _ _ _ HS4.out)
    have HB5 := Lib.hid (HB4.out.trans hb5)
    obtain ⟨r, hr⟩ : ∃ r, Hid (M.row.length = r) := ⟨_, Lib.hid rfl⟩
    have HWT := Lib.hid (wait_go hA r hr.out (by have := hW.len; rw [← hr.out]; exact this))
    have HAT := Lib.hid hW.at_
    have hrl : r ≤ 1099511627776 := by have := hW.len; rw [← hr.out]; exact this
    have hez : e2 = 0 ∨ e2 = 8 ∨ e2 = 9 := hW.e
    have HZ : Hid (e2 = 0 → r = 0) := Lib.hid (fun h => by have h2 : M.row = [] := hW.z h; rw [← hr.out, h2]; rfl)
    clear hk5 hb5 hW hA HCG
    go_upto_region 10 with (go_at_call 34; with_reducible refine HWT.out.mono ?_; rintro e w6 ⟨⟨q, c6, rfl, hrow⟩, hb6⟩)
    have HR := Lib.hid hrow
    have HS6 := Lib.hid (HS5.out.below hb6)
    have HB6 := Lib.hid (Below.more HB5.out hb6 HB5.out.size)
    clear hrow hb6 HWT
    go_wp2_with fail
    go_loopw [13, 14] (fun iv _ wr => ∃ i : Nat, i ≤ r ∧ iv = .int .i64 (i : Int) ∧ Hid (Below w6.heap.size w6 wr)) (fun iv _ _ => r - (RowKit.intOf iv).toNat)
    case atStart => exact ⟨0, by omega, by go_num, Lib.hid (Below.refl _ _)⟩
    case round =>
      obtain ⟨i, hi, rfl, HBr⟩ := hrel
      by_cases hlt : i < r
      · have HI1 := Lib.hid (show i + 1 ≤ r from hlt)
        have hd1 : decide ((i : Int) < (r : Int)) = true := decide_eq_true (by omega)
        obtain ⟨b1, rfl, hc1⟩ := (HR.out.below HBr.out).at_ i hlt
        have hmem : Go.Proofs.YthcnofdihigohaaGreat.wr M.row i ∈ M.row := getD_memP (by rw [hr.out]; exact hlt)
        have hat := HAT.out _ hmem
        rw [hpl.out] at hat
        generalize (Go.Proofs.YthcnofdihigohaaGreat.wr M.row i).1 = sct at hc1 hat
        have hT : Int.tdiv (sct : Int) 4 = ((sct / 4 : Nat) : Int) := by rw [Int.tdiv_eq_ediv_of_nonneg (by omega)]; omega
        clear hmem
        by_cases he : (sct : Int) = pl
        · have hq : ((sct : Int) != pl) = false := by simp [he]
          clear hat he
          go_wp2_with fail
          go_roundw
          case rel => exact ⟨i + 1, HI1.out, by go_num, Lib.hid (by first | exact HBr.out | exact below_drewN HBr.out _)⟩
          case measure => have hI2 := HI1.out; simp [RowKit.intOf]; omega
        · have hq : ((sct : Int) != pl) = true := by simp [he]
          obtain ⟨h2, h24, hh⟩ := hat.resolve_left he
          have hlt2 : decide (((sct / 4 : Nat) : Int) < 2) = false := decide_eq_false (by omega)
          have HSB : Hid (∀ t, Below wr.heap.size wr t → Calls Tryz.prog 22 #[.pointer (some ⟨g', 0, none⟩), .int .i64 ((sct / 4 : Nat) : Int)] t fun e w' => e = .returned (.bool false) ∧ Below t.heap.size t w') := Lib.hid fun t ht => by
            have := Bi.has_in ((HS6.out.below HBr.out).below ht) (sct / 4) (by omega)
            rw [hh] at this; exact this
          have hT3 : (sct : Int) / 4 = ((sct / 4 : Nat) : Int) := by omega
          have hT4 : wrap64 ((sct / 4 : Nat) : Int) = ((sct / 4 : Nat) : Int) := by unfold wrap64; omega
          clear hat he hh
          generalize sct / 4 = pgn at *
          go_upto_region 14 with fail
          go_wp2_with (go_at_call 22; with_reducible refine (HSB.out _ (Below.refl _ _)).mono ?_; rintro e w12 ⟨rfl, hb12⟩; have HB12 := Lib.hid (Below.more HBr.out hb12 HBr.out.size))
          go_roundw
          case rel => exact ⟨i + 1, HI1.out, by go_num, Lib.hid (by first | exact HB12.out | exact below_drewN HB12.out _)⟩
          case measure => have hI2 := HI1.out; simp [RowKit.intOf]; omega
      · obtain rfl : i = r := by omega
        have HT := Lib.hid (Below.more HB6.out HBr.out HB6.out.size)
        have hd1 : decide ((i : Int) < (i : Int)) = false := by simp
        rcases hez with rfl | rfl | rfl
        · have hr0 := HZ.out rfl
          have hq0 : ((i : Int) == 0) = true := by simp; omega
          clear hr0
          go_wp2_with (go_at_call 10; refine (HLV.out _).mono ?_; rintro e w9 ⟨rfl, hb9⟩)
          go_ret
          exact ⟨rfl, Below.more HT.out hb9 HT.out.size⟩
        · go_wp2_with (go_at_call 10; refine (HLV.out _).mono ?_; rintro e w9 ⟨rfl, hb9⟩)
          go_ret
          exact ⟨rfl, Below.more HT.out hb9 HT.out.size⟩
        · go_wp2_with (go_at_call 10; refine (HLV.out _).mono ?_; rintro e w9 ⟨rfl, hb9⟩)
          go_ret
          exact ⟨rfl, Below.more HT.out hb9 HT.out.size⟩
end Go.Proofs.YthcnofdihigohaaGreat
end
