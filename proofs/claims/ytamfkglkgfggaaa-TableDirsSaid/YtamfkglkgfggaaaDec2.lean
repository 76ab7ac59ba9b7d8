/- What Decode returns for a page of bytes. -/
import Derived.Test.YtamfkglkgfggaaaDec
set_option linter.unusedSimpArgs false
namespace Go.Proofs.Ytamfkglkgfggaaa
open Go.RowKit

theorem Bys.only {w w' : World} {g n : Nat} {p : Option Addr} {bs : List Nat} (h : Bys w p n bs) (ho : Only g w w') (hp : ∀ b o, p = some ⟨b, o, none⟩ → b ≠ g) : Bys w' p n bs :=
  ⟨h.len, h.dig, fun hn => by
    obtain ⟨b, o, e, hc⟩ := h.inn hn
    have hlt := World.block_lt_of_cell? w _ (hc 0 hn)
    exact ⟨b, o, e, fun i hi => (World.cell?_of_block (ho.block b hlt (hp b o e))).trans (hc i hi)⟩⟩
theorem only5 {g : Nat} (w : World) (v0 v1 v2 v3 v4 : Value) :
    Only g w (((((w.setCell ⟨g, 0, none⟩ v0).setCell ⟨g, 1, none⟩ v1).setCell ⟨g, 2, none⟩ v2).setCell ⟨g, 3, none⟩ v3).setCell ⟨g, 4, none⟩ v4) :=
  ((((Only.setCell g 0 v0 w).trans (Only.setCell g 1 v1 _)).trans (Only.setCell g 2 v2 _)).trans (Only.setCell g 3 v3 _)).trans (Only.setCell g 4 v4 _)
set_option maxRecDepth 100000 in
set_option maxHeartbeats 3200000 in
theorem dec_page (p : Option Addr) (c : Nat) (bs : List Nat) (w : World) (hB : Bys w p 512 bs) (hc : 512 ≤ c) (hc2 : c ≤ 9223372036854775807) :
    Calls Try.prog 24 #[.slice p 512 c] w fun e w' => DecR w' 512 bs e ∧ Below w.heap.size w w' := by
  have hl := hB.len
  have HE : Hid (dirE 512 bs = if okV (valB bs) 4 && allZ (bs.drop 80) 432 then 0 else 4) := Lib.hid (by unfold dirE; rw [if_neg (by decide)])
  have HOf := Lib.hid (ofE_dir hl hB.dig)
  have HLT := Lib.hid (hB.lt (by omega))
  obtain ⟨bb, o, rfl, hcell⟩ := hB.at (by omega)
  have hbl := HLT.out bb o rfl
  have HW := Lib.hid (fun w => whole_any (some ⟨bb, o, none⟩) 512 c w (by omega))
  have HB : Hid (Below w.heap.size w (w.alloc (.cells #[.int .i64 0, .int .i64 0, .int .i64 0, .int .i64 0, .pointer none] 60))) := Lib.hid ((Below.refl _ _).alloc (Nat.le_refl _) _)
  have HH : Hid (D5 (w.alloc (.cells #[.int .i64 0, .int .i64 0, .int .i64 0, .int .i64 0, .pointer none] 60)) w.heap.size (.int .i64 0) (.int .i64 0) (.int .i64 0) (.int .i64 0) (.pointer none)) := Lib.hid ⟨heap_alloc_new w _⟩
  have KI : Hid ((Try.prog.info? 60).map (·.size) = some (#[Value.int .i64 0, .int .i64 0, .int .i64 0, .int .i64 0, .pointer none] : Array Value).size) := Lib.hid size60
  have HBY := Lib.hid hB
  have HBL := Lib.hid hbl
  have HCC := Lib.hid (And.intro hc hc2)
  have hcz : (512 : Int) ≤ (c : Int) := by omega
  have hcz2 : (c : Int) ≤ 9223372036854775807 := by omega
  clear hl hcell hbl HLT hB hc2
  go_enter Try.func24, Try.ntmps24
  go_upto_region 1 with fail
  have HSZ : Hid ((w.alloc (.cells #[.int .i64 0, .int .i64 0, .int .i64 0, .int .i64 0, .pointer none] 60)).heap.size = w.heap.size + 1) := Lib.hid (by simp)
  generalize w.alloc _ = W at *
  have HB1 : Hid (Below W.heap.size W (W.alloc (.cells #[.int .i64 0, .int .i64 0, .int .i64 0, .int .i64 0, .pointer none] 60))) := Lib.hid ((Below.refl _ _).alloc (Nat.le_refl _) _)
  have HD : Hid (D5 (W.alloc (.cells #[.int .i64 0, .int .i64 0, .int .i64 0, .int .i64 0, .pointer none] 60)) W.heap.size (.int .i64 0) (.int .i64 0) (.int .i64 0) (.int .i64 0) (.pointer none)) := Lib.hid ⟨heap_alloc_new W _⟩
  go_upto_region 5 with (go_at_call 39; refine (HW.out _).mono ?_; rintro e w7 ⟨rfl, rfl⟩)
  generalize W.alloc _ = W1 at *
  have HBW : Hid (Below w.heap.size w W1) := Lib.hid (HB.out.trans (HB1.out.mono HB.out.size))
  have HTK := Lib.hid (take_any W.heap.size 4 4 512 c (some ⟨bb, o, none⟩) bs W1 (by omega) (by omega) (fun j hj => by
    rw [Nat.zero_add]
    refine ⟨?_, HD.out.fz j⟩
    rcases (show j = 0 ∨ j = 1 ∨ j = 2 ∨ j = 3 by omega) with rfl | rfl | rfl | rfl
    · rw [HD.out.c0]; rfl
    · rw [HD.out.c1]; rfl
    · rw [HD.out.c2]; rfl
    · rw [HD.out.c3]; rfl) (HBY.out.below HBW.out) (by omega) HCC.out.1 HCC.out.2 (fun b o' e => by cases e; have := HBL.out; have := HSZ.out; omega))
  have HRW := Lib.hid (HH.out.below HB1.out)
  have hneR : Hid (w.heap.size ≠ W.heap.size) := Lib.hid (by have := HSZ.out; omega)
  cases hok : okV (valB bs) 4 with
  | false =>
    have HE4 : Hid (dirE 512 bs = 4) := Lib.hid (by rw [HE.out, hok]; rfl)
    rw [hok] at HTK
    clear hok
    go_upto_region 6 with (go_at_call 40; refine HTK.out.mono ?_; rintro e w8 ⟨rfl, k, hk, hw8, -⟩; have HW8 := Lib.hid hw8; clear hk hw8)
    have HO8 : Hid (Only W.heap.size W1 w8) := Lib.hid (by rw [HW8.out]; exact only_segs _ _ _ _)
    have HR5 := Lib.hid (HRW.out.only HO8.out hneR.out)
    have r0 := HR5.out.c0
    have r1 := HR5.out.c1
    have r2 := HR5.out.c2
    have r3 := HR5.out.c3
    have r4 := HR5.out.c4
    have f0 := HR5.out.fz 0
    have f1 := HR5.out.fz 1
    have f2 := HR5.out.fz 2
    have f3 := HR5.out.fz 3
    have f4 := HR5.out.fz 4
    go_wp2_with fail
    refine bodyPost_ret (results_dec Try.results24 _ _ w.heap.size 60 _ (0, 0) _ rfl (set5 _ _ _ _ _ HR5.out.row) Try.underlying60 rfl KI.out) rfl ?_
    exact ⟨.inr ⟨by rw [HE4.out]; decide, by rw [HE4.out]; rfl⟩, (HO8.out.below HBW.out HBW.out.size (by have := HSZ.out; omega)).trans (below5 (Nat.le_refl _) _ _ _ _ _)⟩
  | true =>
    have hok0 := hok
    rw [hok] at HTK
    have hgen : ∀ w8, Only W.heap.size W1 w8 → Calls Try.prog 48 #[.slice (some ⟨bb, o + 80, none⟩) 432 (c - 80)] w8 fun e w' => e = .returned (.bool (allZ (bs.drop 80) 432)) ∧ w8 = w' := fun w8 ho =>
      zeros_any _ 432 _ _ w8 (((HBY.out.below HBW.out).drop (k := 80) (j := 432) (by omega)).only ho (fun b o' e => by cases e; have := HBL.out; have := HSZ.out; omega)) (by omega)
    have HGZ := Lib.hid hgen
    clear hgen
    have HSL : Hid (∀ k : Nat, ints (valB bs) 0 4 = [.int .i64 ((valB bs 0 : Nat) : Int), .int .i64 ((valB bs 1 : Nat) : Int), .int .i64 ((valB bs 2 : Nat) : Int), .int .i64 ((valB bs 3 : Nat) : Int)] ∧ k = k) := Lib.hid fun k => ⟨rfl, rfl⟩
    have HD4 : Hid (D5 (W1.setCells W.heap.size 0 (ints (valB bs) 0 4)) W.heap.size (.int .i64 ((valB bs 0 : Nat) : Int)) (.int .i64 ((valB bs 1 : Nat) : Int)) (.int .i64 ((valB bs 2 : Nat) : Int)) (.int .i64 ((valB bs 3 : Nat) : Int)) (.pointer none)) := Lib.hid ⟨by
      rw [(HSL.out 0).1]; exact set4 _ _ _ _ HD.out.row⟩
    have HO4 : Hid (Only W.heap.size W1 (W1.setCells W.heap.size 0 (ints (valB bs) 0 4))) := Lib.hid (only_segs _ _ _ _)
    clear hok
    go_upto_if 24 with (first
      | (go_at_call 40; refine HTK.out.mono ?_; rintro e w8 ⟨rfl, k, hk, hw8, hfull⟩; obtain rfl : k = 4 := hfull rfl; have HW8 := Lib.hid hw8; clear hk hw8 hfull)
      | (go_at_call 48; refine (HGZ.out _ (by rw [HW8.out]; exact HO4.out)).mono ?_; rintro e w9 ⟨rfl, rfl⟩))
    rw [← HW8.out] at HD4 HO4
    have HBE : Hid (Below w.heap.size w w8) := Lib.hid (HO4.out.below HBW.out HBW.out.size (by have := HSZ.out; omega))
    cases hz : allZ (bs.drop 80) 432 with
    | false =>
      have HE4 : Hid (dirE 512 bs = 4) := Lib.hid (by rw [HE.out, hz, Bool.and_false]; rfl)
      clear hz
      have HR5 := Lib.hid (HRW.out.only HO4.out hneR.out)
      have r0 := HR5.out.c0
      have r1 := HR5.out.c1
      have r2 := HR5.out.c2
      have r3 := HR5.out.c3
      have r4 := HR5.out.c4
      have f0 := HR5.out.fz 0
      have f1 := HR5.out.fz 1
      have f2 := HR5.out.fz 2
      have f3 := HR5.out.fz 3
      have f4 := HR5.out.fz 4
      go_wp2_with fail
      refine bodyPost_ret (results_dec Try.results24 _ _ w.heap.size 60 _ (0, 0) _ rfl (set5 _ _ _ _ _ HR5.out.row) Try.underlying60 rfl KI.out) rfl ?_
      exact ⟨.inr ⟨by rw [HE4.out]; decide, by rw [HE4.out]; rfl⟩, HBE.out.trans (below5 (Nat.le_refl _) _ _ _ _ _)⟩
    | true =>
      have HE0 : Hid (dirE 512 bs = 0) := Lib.hid (by rw [HE.out, hz, hok0]; rfl)
      clear hz
      have hOfc := of_any 512 (some ⟨bb, o + 16, none⟩) 64 (c - 16) (dsB bs) w8 (by omega) ((((HBY.out.below HBW.out).only HO4.out (fun b o' e => by cases e; have := HBL.out; have := HSZ.out; omega)).drop (k := 16) (j := 496) (by omega)).take (k := 64) (by omega))
      rw [HOf.out] at hOfc
      have HOfc := Lib.hid hOfc
      clear hOfc
      have HOZ : Hid (ofE 512 (dsB bs) ≠ 0 → False) := Lib.hid (fun h => h HOf.out)
      have HR8 := Lib.hid (HRW.out.only HO4.out hneR.out)
      go_upto_region 10 with (go_at_call 49; refine HOfc.out.mono ?_; rintro e w9 ⟨⟨v, rfl, hr⟩, hb9⟩; replace hr := hr.resolve_right (fun q => HOZ.out q.1); obtain ⟨-, g, b, rfl, hg, hb, hsat⟩ := hr; have HSAT := Lib.hid hsat; have HGG := Lib.hid (And.intro hg hb); have HB9 := Lib.hid hb9; clear hsat hg hb hb9)
      have HD9 := Lib.hid (HD4.out.below HB9.out)
      have HR9 := Lib.hid (HR8.out.below HB9.out)
      have c4 := HD9.out.c4
      have z4 := HD9.out.fz 4
      have HDX : Hid (D5 (w9.setCell ⟨W.heap.size, 4, none⟩ (.pointer (some ⟨g, 0, none⟩))) W.heap.size (.int .i64 ((valB bs 0 : Nat) : Int)) (.int .i64 ((valB bs 1 : Nat) : Int)) (.int .i64 ((valB bs 2 : Nat) : Int)) (.int .i64 ((valB bs 3 : Nat) : Int)) (.pointer (some ⟨g, 0, none⟩))) := Lib.hid ⟨heap_setCell_same _ _ 4 _ _ _ HD9.out.row⟩
      have HOX : Hid (Only W.heap.size w9 (w9.setCell ⟨W.heap.size, 4, none⟩ (.pointer (some ⟨g, 0, none⟩)))) := Lib.hid (Only.setCell _ _ _ _)
      go_upto_region 11 with fail
      clear c4 z4
      generalize w9.setCell _ _ = w10 at *
      have HRX := Lib.hid (HR9.out.only HOX.out hneR.out)
      have hlt8 : W.heap.size < w8.heap.size := lt_of_block HD4.out.row
      have hltR : w.heap.size < w8.heap.size := lt_of_block HR8.out.row
      have HSX := Lib.hid (HSAT.out.only HOX.out (by have := HGG.out; omega) (by have := HGG.out; omega))
      have HBX : Hid (Below w.heap.size w w10) := Lib.hid (HOX.out.below (HBE.out.trans (HB9.out.mono (by omega))) (by have := HB9.out.size; omega) (by have := HSZ.out; omega))
      have HGR : Hid (g ≠ w.heap.size ∧ b ≠ w.heap.size) := Lib.hid (by have := HGG.out; omega)
      clear hlt8 hltR
      have d0 := HDX.out.c0
      have d1 := HDX.out.c1
      have d2 := HDX.out.c2
      have d3 := HDX.out.c3
      have d4 := HDX.out.c4
      have r0 := HRX.out.c0
      have r1 := HRX.out.c1
      have r2 := HRX.out.c2
      have r3 := HRX.out.c3
      have r4 := HRX.out.c4
      have f0 := HRX.out.fz 0
      have f1 := HRX.out.fz 1
      have f2 := HRX.out.fz 2
      have f3 := HRX.out.fz 3
      have f4 := HRX.out.fz 4
      go_wp2_with fail
      refine bodyPost_ret (results_dec Try.results24 _ _ w.heap.size 60 _ (0, 0) _ rfl (set5 _ _ _ _ _ HRX.out.row) Try.underlying60 rfl KI.out) rfl ?_
      exact ⟨.inl ⟨HE0.out, g, b, rfl, HSX.out.only (only5 _ _ _ _ _ _) HGR.out.1 HGR.out.2⟩, HBX.out.trans (below5 (Nat.le_refl _) _ _ _ _ _)⟩
theorem dec_any (p : Option Addr) (n c : Nat) (bs : List Nat) (w : World) (hB : Bys w p n bs) (hnc : n ≤ c) (hc2 : c ≤ 9223372036854775807) :
    Calls Try.prog 24 #[.slice p n c] w fun e w' => DecR w' n bs e ∧ Below w.heap.size w w' := by
  by_cases h : wholeE n ≠ 0
  · exact dec_len p n c bs w (by omega) h
  · have hn : n = 512 := by
      unfold wholeE at h
      split at h <;> simp_all
      all_goals omega
    subst hn
    exact dec_page p c bs w hB hnc hc2
end Go.Proofs.Ytamfkglkgfggaaa
