/- The law EncBack returns true for any things: the walk. -/
import Derived.Test.YtggkemgbacddgaaSameA
import Derived.Test.YtggkemgbacddgaaLives
import Derived.Deep.RegionLawGrows
import Derived.Deep.CutBlock
import Derived.Deep.DeepCutAuto
namespace Go.Proofs.Ytggkemgbacddgaa
open Go.RowKit

/-- Two readers: one ahead of these bytes, one ahead of those; each in memory of its own. -/
def Pair (w wx : World) (r s : Value) (xs ys : List Nat) (fr fs : Int) : Prop :=
  ∃ gr dr gs ds, r = .pointer (some ⟨gr, 0, none⟩) ∧ s = .pointer (some ⟨gs, 0, none⟩) ∧ Rd wx gr dr xs fr ∧ Rd wx gs ds ys fs ∧ gr ≠ gs ∧ dr ≠ gs ∧ ds ≠ gr ∧ w.heap.size ≤ gr ∧ w.heap.size ≤ gs ∧ Below w.heap.size w wx
theorem block_add (a : Addr) (j : Nat) : (a.add j).block = a.block := by unfold Addr.add; split <;> rfl
theorem one_below {X w2 : World} {x : Value} {t : TypeId} (h : Below (X.alloc (.cells #[x] t)).heap.size (X.alloc (.cells #[x] t)) w2) : ∀ (j : Nat) (u : Value), [x][j]? = some u → w2.cell? ((⟨X.heap.size, 0, none⟩ : Addr).add j) = some u := fun j u hj => by
  have h1 := one_cells X x t j u hj
  rw [h.cell (by rw [block_add]; simp)]; exact h1
theorem one_below_d {X w2 : World} {x : Value} {t : TypeId} (h : Below (X.alloc (.cells #[x] t)).drew.heap.size (X.alloc (.cells #[x] t)).drew w2) : ∀ (j : Nat) (u : Value), [x][j]? = some u → w2.cell? ((⟨X.heap.size, 0, none⟩ : Addr).add j) = some u := one_below (X := X) ⟨h.os, h.tape, h.output, h.size, h.block⟩
theorem holds_of {w1 : World} {p : Option Addr} {n : Nat} {bs : List Nat} (h : Bys w1 p n bs) (W : World) (hb : Below w1.heap.size w1 W) : ∀ b, p = some b → ∀ j u, (u8s bs)[j]? = some u → W.cell? (b.add j) = some u := fun b e j u hj => by
  rcases Nat.eq_zero_or_pos n with h0 | h0
  · subst h0
    rw [h.nil_] at hj
    cases hj
  · obtain ⟨a, e2, hc⟩ := (h.below hb).cells h0
    rw [e] at e2
    cases e2
    exact hc j u hj

theorem pair_of {w w1 x w4 w5 : World} {gr dr gs ds : Nat} {xs ys : List Nat} (hw : Below w.heap.size w w1) (h1 : w1.heap.size ≤ x.heap.size) (h4 : Below w1.heap.size w1 w4) (hr : Rd w4 gr dr xs 0) (hs : Rd w5 gs ds ys 0) (hb : Below w4.heap.size w4 w5)
    (hg1 : x.heap.size ≤ gr) (hg2 : gr < w4.heap.size) (_hd1 : x.heap.size ≤ dr) (hd2 : dr < w4.heap.size) (hg3 : w4.heap.size ≤ gs) (hd3 : w4.heap.size ≤ ds) : Pair w w5 (.pointer (some ⟨gr, 0, none⟩)) (.pointer (some ⟨gs, 0, none⟩)) xs ys 0 0 := by
  have h0 := hw.size
  have h5 := h4.size
  exact ⟨gr, dr, gs, ds, rfl, rfl, hr.below hb, hs, by omega, by omega, by omega, by omega, by omega, (hw.trans (h4.mono h0)).trans (hb.mono (by omega))⟩
structure BackRel (w wr : World) (gr dr gs ds : Nat) (f : Nat → Opv) (more n i : Nat) : Prop where
  r : Rd wr gr dr (encsFrom f i (n - i)) 0
  s : Rd wr gs ds (encsFrom f i (n - i) ++ [more]) 0
  below : Below w.heap.size w wr
set_option maxRecDepth 100000 in
set_option maxHeartbeats 1600000 in
theorem back_short (q : Option Addr) (n c : Nat) (f : Nat → Opv) (more : Nat) (w : World) (hn : n ≤ 40) (hm : more < 256)
    (HA : Hid (Calls Try.prog 13 #[.slice q n c] w (AllPost w n f))) (HO : Hid (0 < n → ∃ b o, q = some ⟨b, o, none⟩ ∧ OpsAt w b o n f)) :
    Calls Try.prog 4 #[.slice q n c, .int .u8 (more : Int)] w fun e w' => e = .returned (.bool true) ∧ Below w.heap.size w w' := by
  have hd : decide ((40 : Int) < (n : Int)) = false := decide_eq_false (by omega)
  obtain ⟨i0, hi, hz0, hz1, hz2⟩ := info_parts Try.info5
  have HI := Lib.hid hi
  have HZ0 := Lib.hid hz0
  have HZ1 := Lib.hid hz1
  have HZ2 := Lib.hid hz2
  clear hi hz0 hz1 hz2
  have HDG : Hid (∀ y ∈ encs f n, y < 256) := Lib.hid (by
    rcases Nat.eq_zero_or_pos n with h0 | h0
    · subst h0; intro y hy; cases hy
    · obtain ⟨b, o, _, hP⟩ := HO.out h0
      exact encs_dig hP n (Nat.le_refl _))
  go_enter Try.func4, Try.ntmps4
  go_wp2_with fail
  refine (HA.out).mono ?_
  rintro e w1 ⟨⟨rfl, _⟩ | ⟨v, rfl, hM, hsm⟩, hb⟩
  · have HB := Lib.hid hb
    clear hb
    go_wp2_with fail
    refine (lives_any _).mono ?_
    rintro e w2 ⟨rfl, hb⟩
    have HB2 := Lib.hid (HB.out.trans (hb.mono HB.out.size))
    clear hb
    go_wp2_with fail
    go_ret
    exact ⟨rfl, HB2.out⟩
  · have hL : (encs f n).length ≤ 12400 := by
      rcases Nat.eq_zero_or_pos n with h0 | h0
      · subst h0; exact Nat.zero_le _
      · obtain ⟨b, o, _, hP⟩ := HO.out h0
        have := encs_len hP n (Nat.le_refl _) hsm
        omega
    obtain ⟨p, cc, rfl, hown⟩ := hM
    have HW := Lib.hid hb
    have HSM := Lib.hid hsm
    have HY : Hid (Bys w1 p (encs f n).length (encs f n)) := Lib.hid (Bys.own hown HDG.out)
    have HF := Lib.hid (own_fit hown)
    obtain ⟨L, HL⟩ : ∃ L, Hid ((encs f n).length = L) := ⟨_, Lib.hid rfl⟩
    rw [HL.out] at hL HY HF ⊢
    have HPN : Hid (p = none → L = 0 ∧ L = 0) := Lib.hid (fun h => by
      have := HF.out.nil_ h
      have := HF.out.cap
      omega)
    have hlc : L ≤ cc := HF.out.cap
    have hLi : (L : Int) ≤ (cc : Int) := by omega
    clear hb hown hsm
    obtain ⟨BB, HBB⟩ : ∃ BB, Hid (encs f n = BB) := ⟨_, Lib.hid rfl⟩
    rw [HBB.out] at HY HL HDG
    have HV := Lib.hid (Below.refl w1.heap.size w1)
    go_upto_region 6 with fail
    go_cut [7, 8] (fun r s wx => Pair w wx r s BB (BB ++ [more]) 0 0)
    case first =>
      cases p with
      | none =>
        obtain rfl : cc = 0 := HF.out.nil_ rfl
        obtain rfl : L = 0 := by omega
        go_wp2_with fail
        refine wp_region_any (by kernel_rfl) ?_
        refine wpAny_take (i := 0) (v := .slice none 0 0) rfl (by kernel_rfl) (by kernel_rfl) (by kernel_rfl) (fun _ _ _ h => h) (Or.inl ⟨by kernel_rfl, fun w => by first | (go_simp; done) | (go_simp; rfl) | rfl⟩) ?_
        refine wpAny_take (i := 2) (v := .slice none 0 0) rfl (by kernel_rfl) (by kernel_rfl) (by kernel_rfl) (fun _ _ _ h => h) (Or.inl ⟨by kernel_rfl, fun w => by first | (go_simp; done) | (go_simp; rfl) | rfl⟩) ?_
        refine wpAny_take (i := 3) (v := .slice none 0 0) rfl (by kernel_rfl) (by kernel_rfl) (by kernel_rfl) (fun _ _ _ h => h) (Or.inl ⟨by kernel_rfl, fun w => by first | (go_simp; done) | (go_simp; rfl) | rfl⟩) ?_
        refine wpAny_take (i := 4) (v := .int .i64 0) rfl (by kernel_rfl) (by kernel_rfl) (by kernel_rfl) (fun _ _ _ h => h) (Or.inl ⟨by kernel_rfl, fun w => by first | (go_simp; done) | (go_simp; rfl) | rfl⟩) ?_
        refine wpAny_take (i := 5) (v := .slice none 0 0) rfl (by kernel_rfl) (by kernel_rfl) (by kernel_rfl) (fun _ _ _ h => h) (Or.inl ⟨by kernel_rfl, fun w => by first | (go_simp; done) | (go_simp; rfl) | rfl⟩) ?_
        refine wpAny_take (i := 6) (v := .int .i64 0) rfl (by kernel_rfl) (by kernel_rfl) (by kernel_rfl) (fun _ _ _ h => h) (Or.inl ⟨by kernel_rfl, fun w => by first | (go_simp; done) | (go_simp; rfl) | rfl⟩) ?_
        refine wpAny_take (i := 7) (v := .slice none 0 0) rfl (by kernel_rfl) (by kernel_rfl) (by kernel_rfl) (fun _ _ _ h => h) (Or.inl ⟨by kernel_rfl, fun w => by first | (go_simp; done) | (go_simp; rfl) | rfl⟩) ?_
        refine wpAny_take (i := 8) (v := .int .u8 (more : Int)) rfl (by kernel_rfl) (by kernel_rfl) (by kernel_rfl) (fun _ _ _ h => h) (Or.inl ⟨by kernel_rfl, fun w => by first | (go_simp; done) | (go_simp; rfl) | rfl⟩) ?_
        refine wpAny_ready (rs := [1, 9]) (by kernel_rfl) (by simp) ?_
        refine AllReady.cons rfl (fun K hK => ?_) (AllReady.cons rfl (fun K hK => ?_) AllReady.nil)
        · have HV := Lib.hid HV.out.drew
          go_simp
          go_wp2_with (go_at_call 14; refine (read_any none 0 0 BB _ (by omega) (HY.out.below HV.out)).mono ?_; rintro e w2 ⟨⟨gr, dr, rfl, hg1, hg2, hd1, hd2, hR⟩, hb⟩; have HV2 := Lib.hid (HV.out.trans (Below.mono hb HV.out.size)); have HR1 := Lib.hid hR; clear hb hR)
          refine wpAny_ready (rs := [9]) (by kernel_rfl) (by simp) ?_
          refine AllReady.cons rfl (fun K hK => ?_) AllReady.nil
          go_simp
          refine hK _ _ ?_
          clear hK K
          refine wpAny_ready (rs := [10]) (by kernel_rfl) (by simp) ?_
          refine AllReady.cons rfl (fun K hK => ?_) AllReady.nil
          refine step_append_grows rfl (.tmp 29) (.tmp 31) 22 rfl 5 i0 (.int .u8 0) 1 1 Try.underlying22 HI.out HZ0.out HZ1.out HZ2.out rfl (by decide) none 0 0 (u8s BB) (by kernel_rfl) (fun _ => ⟨rfl, rfl⟩) (by rw [u8s_len, HL.out, Nat.mul_one]) (holds_of HY.out _ (HV2.out.alloc HV2.out.size _)) ⟨_, 0, none⟩ 1 1 [.int .u8 (more : Int)] (by kernel_rfl) rfl (one_cells _ _ _) (one_u8 _) (by omega) (by unfold maxLen; omega) (by omega) ?_
          intro v' w4 hown hgrow
          obtain ⟨p2, c2, rfl⟩ := own_slice hown
          have HV4 := Lib.hid (((HV2.out.alloc HV2.out.size _) : Below w1.heap.size w1 _).grown hgrow (Below.size (HV2.out.alloc HV2.out.size _)) (fun k e => by cases e))
          have HB4 := Lib.hid (Bys.own (bs := BB ++ [more]) (by rw [u8s_append]; exact hown) (dig_append HDG.out (by intro y hy; simp at hy; omega)))
          have hgr := (Below.refl _ _).grown hgrow (Nat.le_refl _) (fun k e => by cases e)
          have HR4 := Lib.hid (HR1.out.below (((Below.refl _ _).alloc (Nat.le_refl _) _).trans (Below.mono hgr (by simp))))
          have hsz := (((Below.refl w2.heap.size w2).alloc (Nat.le_refl _) (.cells #[.int .u8 (more : Int)] 5)).trans (Below.mono hgr (by simp))).size
          clear hown hgrow hgr
          refine hK _ _ ?_
          clear hK K
          refine wpAny_ready (rs := [11]) (by kernel_rfl) (by simp) ?_
          refine AllReady.cons rfl (fun K hK => ?_) AllReady.nil
          go_simp
          go_wp2_with (go_at_call 14; refine (read_any p2 (0 + 1) c2 (BB ++ [more]) _ (by omega) HB4.out).mono ?_; rintro e w5 ⟨⟨gs, ds, rfl, hg3, hg4, hd3, hd4, hS⟩, hb⟩; have HP := Lib.hid (pair_of HW.out HV.out.size HV4.out HR4.out hS hb hg1 (by omega) hd1 (by omega) hg3 hd3); clear hb hS)
          refine wpAny_ready (rs := [12]) (by kernel_rfl) (by simp) ?_
          refine AllReady.cons rfl (fun K hK => ?_) AllReady.nil
          go_simp
          refine hK _ _ ?_
          clear hK K
          refine wpAny_ready (rs := [13]) (by kernel_rfl) (by simp) ?_
          refine AllReady.cons rfl (fun K hK => ?_) AllReady.nil
          go_simp
          refine hK _ _ ?_
          clear hK K
          refine wpAny_done (by kernel_rfl) ?_ _
          go_wp2_with fail
          go_meet
          exact HP.out
        · go_simp
          refine hK _ _ ?_
          clear hK K
          have HV := Lib.hid (HV.out.drew.alloc HV.out.drew.size (.cells #[.int .u8 (more : Int)] 5))
          refine wpAny_ready (rs := [1]) (by kernel_rfl) (by simp) ?_
          refine AllReady.cons rfl (fun K hK => ?_) AllReady.nil
          go_simp
          go_wp2_with (go_at_call 14; refine (read_any none 0 0 BB _ (by omega) (HY.out.below HV.out)).mono ?_; rintro e w2 ⟨⟨gr, dr, rfl, hg1, hg2, hd1, hd2, hR⟩, hb⟩; have HV2 := Lib.hid (HV.out.trans (Below.mono hb HV.out.size)); have HR1 := Lib.hid hR; have HC := Lib.hid (one_below hb); clear hb hR)
          refine wpAny_ready (rs := [10]) (by kernel_rfl) (by simp) ?_
          refine AllReady.cons rfl (fun K hK => ?_) AllReady.nil
          refine step_append_grows rfl (.tmp 29) (.tmp 31) 22 rfl 5 i0 (.int .u8 0) 1 1 Try.underlying22 HI.out HZ0.out HZ1.out HZ2.out rfl (by decide) none 0 0 (u8s BB) (by kernel_rfl) (fun _ => ⟨rfl, rfl⟩) (by rw [u8s_len, HL.out, Nat.mul_one]) (holds_of HY.out _ HV2.out) ⟨_, 0, none⟩ 1 1 [.int .u8 (more : Int)] (by kernel_rfl) rfl HC.out (one_u8 _) (by omega) (by unfold maxLen; omega) (by omega) ?_
          intro v' w4 hown hgrow
          obtain ⟨p2, c2, rfl⟩ := own_slice hown
          have HV4 := Lib.hid ((HV2.out : Below w1.heap.size w1 _).grown hgrow (Below.size HV2.out) (fun k e => by cases e))
          have HB4 := Lib.hid (Bys.own (bs := BB ++ [more]) (by rw [u8s_append]; exact hown) (dig_append HDG.out (by intro y hy; simp at hy; omega)))
          have hgr := (Below.refl _ _).grown hgrow (Nat.le_refl _) (fun k e => by cases e)
          have HR4 := Lib.hid (HR1.out.below hgr)
          have hsz := hgr.size
          clear hown hgrow hgr
          refine hK _ _ ?_
          clear hK K
          refine wpAny_ready (rs := [11]) (by kernel_rfl) (by simp) ?_
          refine AllReady.cons rfl (fun K hK => ?_) AllReady.nil
          go_simp
          go_wp2_with (go_at_call 14; refine (read_any p2 (0 + 1) c2 (BB ++ [more]) _ (by omega) HB4.out).mono ?_; rintro e w5 ⟨⟨gs, ds, rfl, hg3, hg4, hd3, hd4, hS⟩, hb⟩; have HP := Lib.hid (pair_of HW.out HV.out.size HV4.out HR4.out hS hb hg1 (by omega) hd1 (by omega) hg3 hd3); clear hb hS)
          refine wpAny_ready (rs := [12]) (by kernel_rfl) (by simp) ?_
          refine AllReady.cons rfl (fun K hK => ?_) AllReady.nil
          go_simp
          refine hK _ _ ?_
          clear hK K
          refine wpAny_ready (rs := [13]) (by kernel_rfl) (by simp) ?_
          refine AllReady.cons rfl (fun K hK => ?_) AllReady.nil
          go_simp
          refine hK _ _ ?_
          clear hK K
          refine wpAny_done (by kernel_rfl) ?_ _
          go_wp2_with fail
          go_meet
          exact HP.out
      | some a =>
        go_wp2_with fail
        refine wp_region_any (by kernel_rfl) ?_
        refine wpAny_take (i := 0) (v := .slice (some a) L cc) rfl (by kernel_rfl) (by kernel_rfl) (by kernel_rfl) (fun _ _ _ h => h) (Or.inl ⟨by kernel_rfl, fun w => by first | (go_simp; done) | (go_simp; rfl) | rfl⟩) ?_
        refine wpAny_take (i := 2) (v := .slice (some a) L cc) rfl (by kernel_rfl) (by kernel_rfl) (by kernel_rfl) (fun _ _ _ h => h) (Or.inl ⟨by kernel_rfl, fun w => by first | (go_simp; done) | (go_simp; rfl) | rfl⟩) ?_
        refine wpAny_take (i := 3) (v := .slice (some a) L cc) rfl (by kernel_rfl) (by kernel_rfl) (by kernel_rfl) (fun _ _ _ h => h) (Or.inl ⟨by kernel_rfl, fun w => by first | (go_simp; done) | (go_simp; rfl) | rfl⟩) ?_
        refine wpAny_take (i := 4) (v := .int .i64 (L : Int)) rfl (by kernel_rfl) (by kernel_rfl) (by kernel_rfl) (fun _ _ _ h => h) (Or.inl ⟨by kernel_rfl, fun w => by first | (go_simp; done) | (go_simp; rfl) | rfl⟩) ?_
        refine wpAny_take (i := 5) (v := .slice (some a) L cc) rfl (by kernel_rfl) (by kernel_rfl) (by kernel_rfl) (fun _ _ _ h => h) (Or.inl ⟨by kernel_rfl, fun w => by first | (go_simp; done) | (go_simp; rfl) | rfl⟩) ?_
        refine wpAny_take (i := 6) (v := .int .i64 (L : Int)) rfl (by kernel_rfl) (by kernel_rfl) (by kernel_rfl) (fun _ _ _ h => h) (Or.inl ⟨by kernel_rfl, fun w => by first | (go_simp; done) | (go_simp; rfl) | rfl⟩) ?_
        refine wpAny_take (i := 7) (v := .slice (some a) L L) rfl (by kernel_rfl) (by kernel_rfl) (by kernel_rfl) (fun _ _ _ h => h) (Or.inl ⟨by kernel_rfl, fun w => by first | (go_simp; done) | (go_simp; rfl) | rfl⟩) ?_
        refine wpAny_take (i := 8) (v := .int .u8 (more : Int)) rfl (by kernel_rfl) (by kernel_rfl) (by kernel_rfl) (fun _ _ _ h => h) (Or.inl ⟨by kernel_rfl, fun w => by first | (go_simp; done) | (go_simp; rfl) | rfl⟩) ?_
        refine wpAny_ready (rs := [1, 9]) (by kernel_rfl) (by simp) ?_
        refine AllReady.cons rfl (fun K hK => ?_) (AllReady.cons rfl (fun K hK => ?_) AllReady.nil)
        · have HV := Lib.hid HV.out.drew
          go_simp
          go_wp2_with (go_at_call 14; refine (read_any (some a) L cc BB _ (by omega) (HY.out.below HV.out)).mono ?_; rintro e w2 ⟨⟨gr, dr, rfl, hg1, hg2, hd1, hd2, hR⟩, hb⟩; have HV2 := Lib.hid (HV.out.trans (Below.mono hb HV.out.size)); have HR1 := Lib.hid hR; clear hb hR)
          refine wpAny_ready (rs := [9]) (by kernel_rfl) (by simp) ?_
          refine AllReady.cons rfl (fun K hK => ?_) AllReady.nil
          go_simp
          refine hK _ _ ?_
          clear hK K
          refine wpAny_ready (rs := [10]) (by kernel_rfl) (by simp) ?_
          refine AllReady.cons rfl (fun K hK => ?_) AllReady.nil
          refine step_append_grows rfl (.tmp 29) (.tmp 31) 22 rfl 5 i0 (.int .u8 0) 1 1 Try.underlying22 HI.out HZ0.out HZ1.out HZ2.out rfl (by decide) (some a) L L (u8s BB) (by kernel_rfl) (fun h => by cases h) (by rw [u8s_len, HL.out, Nat.mul_one]) (holds_of HY.out _ (HV2.out.alloc HV2.out.size _)) ⟨_, 0, none⟩ 1 1 [.int .u8 (more : Int)] (by kernel_rfl) rfl (one_cells _ _ _) (one_u8 _) (by omega) (by unfold maxLen; omega) (by omega) ?_
          intro v' w4 hown hgrow
          obtain ⟨p2, c2, rfl⟩ := own_slice hown
          have HV4 := Lib.hid (((HV2.out.alloc HV2.out.size _) : Below w1.heap.size w1 _).grown hgrow (Below.size (HV2.out.alloc HV2.out.size _)) (fun k e => by cases e))
          have HB4 := Lib.hid (Bys.own (bs := BB ++ [more]) (by rw [u8s_append]; exact hown) (dig_append HDG.out (by intro y hy; simp at hy; omega)))
          have hgr := (Below.refl _ _).grown hgrow (Nat.le_refl _) (fun k e => by cases e)
          have HR4 := Lib.hid (HR1.out.below (((Below.refl _ _).alloc (Nat.le_refl _) _).trans (Below.mono hgr (by simp))))
          have hsz := (((Below.refl w2.heap.size w2).alloc (Nat.le_refl _) (.cells #[.int .u8 (more : Int)] 5)).trans (Below.mono hgr (by simp))).size
          clear hown hgrow hgr
          refine hK _ _ ?_
          clear hK K
          refine wpAny_ready (rs := [11]) (by kernel_rfl) (by simp) ?_
          refine AllReady.cons rfl (fun K hK => ?_) AllReady.nil
          go_simp
          go_wp2_with (go_at_call 14; refine (read_any p2 (L + 1) c2 (BB ++ [more]) _ (by omega) HB4.out).mono ?_; rintro e w5 ⟨⟨gs, ds, rfl, hg3, hg4, hd3, hd4, hS⟩, hb⟩; have HP := Lib.hid (pair_of HW.out HV.out.size HV4.out HR4.out hS hb hg1 (by omega) hd1 (by omega) hg3 hd3); clear hb hS)
          refine wpAny_ready (rs := [12]) (by kernel_rfl) (by simp) ?_
          refine AllReady.cons rfl (fun K hK => ?_) AllReady.nil
          go_simp
          refine hK _ _ ?_
          clear hK K
          refine wpAny_ready (rs := [13]) (by kernel_rfl) (by simp) ?_
          refine AllReady.cons rfl (fun K hK => ?_) AllReady.nil
          go_simp
          refine hK _ _ ?_
          clear hK K
          refine wpAny_done (by kernel_rfl) ?_ _
          go_wp2_with fail
          go_meet
          exact HP.out
        · go_simp
          refine hK _ _ ?_
          clear hK K
          have HV := Lib.hid (HV.out.drew.alloc HV.out.drew.size (.cells #[.int .u8 (more : Int)] 5))
          refine wpAny_ready (rs := [1]) (by kernel_rfl) (by simp) ?_
          refine AllReady.cons rfl (fun K hK => ?_) AllReady.nil
          go_simp
          go_wp2_with (go_at_call 14; refine (read_any (some a) L cc BB _ (by omega) (HY.out.below HV.out)).mono ?_; rintro e w2 ⟨⟨gr, dr, rfl, hg1, hg2, hd1, hd2, hR⟩, hb⟩; have HV2 := Lib.hid (HV.out.trans (Below.mono hb HV.out.size)); have HR1 := Lib.hid hR; have HC := Lib.hid (one_below hb); clear hb hR)
          refine wpAny_ready (rs := [10]) (by kernel_rfl) (by simp) ?_
          refine AllReady.cons rfl (fun K hK => ?_) AllReady.nil
          refine step_append_grows rfl (.tmp 29) (.tmp 31) 22 rfl 5 i0 (.int .u8 0) 1 1 Try.underlying22 HI.out HZ0.out HZ1.out HZ2.out rfl (by decide) (some a) L L (u8s BB) (by kernel_rfl) (fun h => by cases h) (by rw [u8s_len, HL.out, Nat.mul_one]) (holds_of HY.out _ HV2.out) ⟨_, 0, none⟩ 1 1 [.int .u8 (more : Int)] (by kernel_rfl) rfl HC.out (one_u8 _) (by omega) (by unfold maxLen; omega) (by omega) ?_
          intro v' w4 hown hgrow
          obtain ⟨p2, c2, rfl⟩ := own_slice hown
          have HV4 := Lib.hid ((HV2.out : Below w1.heap.size w1 _).grown hgrow (Below.size HV2.out) (fun k e => by cases e))
          have HB4 := Lib.hid (Bys.own (bs := BB ++ [more]) (by rw [u8s_append]; exact hown) (dig_append HDG.out (by intro y hy; simp at hy; omega)))
          have hgr := (Below.refl _ _).grown hgrow (Nat.le_refl _) (fun k e => by cases e)
          have HR4 := Lib.hid (HR1.out.below hgr)
          have hsz := hgr.size
          clear hown hgrow hgr
          refine hK _ _ ?_
          clear hK K
          refine wpAny_ready (rs := [11]) (by kernel_rfl) (by simp) ?_
          refine AllReady.cons rfl (fun K hK => ?_) AllReady.nil
          go_simp
          go_wp2_with (go_at_call 14; refine (read_any p2 (L + 1) c2 (BB ++ [more]) _ (by omega) HB4.out).mono ?_; rintro e w5 ⟨⟨gs, ds, rfl, hg3, hg4, hd3, hd4, hS⟩, hb⟩; have HP := Lib.hid (pair_of HW.out HV.out.size HV4.out HR4.out hS hb hg1 (by omega) hd1 (by omega) hg3 hd3); clear hb hS)
          refine wpAny_ready (rs := [12]) (by kernel_rfl) (by simp) ?_
          refine AllReady.cons rfl (fun K hK => ?_) AllReady.nil
          go_simp
          refine hK _ _ ?_
          clear hK K
          refine wpAny_ready (rs := [13]) (by kernel_rfl) (by simp) ?_
          refine AllReady.cons rfl (fun K hK => ?_) AllReady.nil
          go_simp
          refine hK _ _ ?_
          clear hK K
          refine wpAny_done (by kernel_rfl) ?_ _
          go_wp2_with fail
          go_meet
          exact HP.out
    case rest =>
      obtain ⟨gr, dr, gs, ds, rfl, rfl, hr, hs, h1, h2, h3, h4, h5, h6⟩ := hcut
      have HS0 : Hid (BB = encsFrom f 0 n) := Lib.hid (by have := encs_split f n 0; rw [Nat.zero_add, HBB.out] at this; exact this)
      have H0 : Hid (BackRel w wc gr dr gs ds f more n 0) := Lib.hid ⟨by rw [Nat.sub_zero, ← HS0.out]; exact hr, by rw [Nat.sub_zero, ← HS0.out]; exact hs, h6⟩
      clear hr hs h6 HV HF HPN HY hlc hLi
      go_wp2_with fail
      go_loopw [9] (fun iv wr => ∃ i : Nat, i ≤ n ∧ iv = .int .i64 (i : Int) ∧ BackRel w wr gr dr gs ds f more n i) (fun iv _ => n - (intOf iv).toNat)
      case atStart => exact ⟨0, by omega, by go_num, H0.out⟩
      case round =>
        obtain ⟨i, hi, rfl, hrr⟩ := hrel
        have HR := Lib.hid hrr
        clear hrr H0
        by_cases hlt : i < n
        · obtain ⟨b, o, rfl, hP⟩ := HO.out (by omega)
          have hx1 := (hP i hlt).below HR.out.below
          have HXW := Lib.hid (fun W (hb : Below w.heap.size w W) => (hP i hlt).below hb)
          have hxm := HSM.out i hlt
          have m0 := hx1.c0
          have m1 := hx1.c1
          have m2 := hx1.c2
          have HF1 := Lib.hid ((hP i hlt).far h4)
          have HF2 := Lib.hid ((hP i hlt).far h5)
          have HT : Hid (encsFrom f i (n - i) = (f i).enc ++ encsFrom f (i + 1) (n - (i + 1))) := Lib.hid (by rw [show n - i = (n - (i + 1)) + 1 by omega]; rfl)
          have hTl : (encsFrom f i (n - i)).length ≤ 12400 := by
            have h := encs_split f (n - i) i
            rw [show i + (n - i) = n by omega, HBB.out] at h
            have h' := congrArg List.length h
            rw [HL.out, List.length_append] at h'
            omega
          have HR1 := Lib.hid HR.out.r
          have HR2 := Lib.hid HR.out.s
          have HW1 := Lib.hid HR.out.below
          obtain ⟨T2, HTT⟩ : ∃ T2, Hid (encsFrom f (i + 1) (n - (i + 1)) = T2) := ⟨_, Lib.hid rfl⟩
          rw [HTT.out] at HT
          generalize encsFrom f i (n - i) = T at *
          have HT2 : Hid (T ++ [more] = (f i).enc ++ (T2 ++ [more])) := Lib.hid (by rw [HT.out, List.append_assoc])
          have HX1 := Lib.hid hx1
          clear hP hx1 HR
          generalize hfi : f i = x at *
          have HFI := Lib.hid hfi
          clear hfi
          go_wp2_with fail
          refine (same_hit gr dr b _ x T T2 _ HR1 (by omega) HT HX1.out hxm HF1.out).mono ?_
          rintro e w2 ⟨rfl, hwent⟩
          have HE1 := Lib.hid hwent.rd
          have HW2 := Lib.hid (hwent.only.below HW1.out HW1.out.size h4)
          have HS2 := Lib.hid (HR2.out.only hwent.only (Ne.symm h1) h3)
          have hx2 := HXW.out _ HW2.out
          have HX2 := Lib.hid hx2
          clear m0 m1 m2 hwent
          have m0 := hx2.c0
          have m1 := hx2.c1
          have m2 := hx2.c2
          clear hx2
          go_wp2_with fail
          refine (same_hit gs ds b _ x (T ++ [more]) (T2 ++ [more]) _ HS2 (by simp; omega) HT2 HX2.out hxm HF2.out).mono ?_
          rintro e w3 ⟨rfl, hwent⟩
          have HE2 := Lib.hid hwent.rd
          have HW3 := Lib.hid (hwent.only.below HW2.out HW2.out.size h5)
          have HR3 := Lib.hid (HE1.out.only hwent.only h1 h2)
          clear m0 m1 m2 hwent
          go_wp2_with fail
          go_roundw
          case rel => exact ⟨i + 1, by omega, by go_num, ⟨by rw [HTT.out]; exact HR3.out, by rw [HTT.out]; exact HE2.out, HW3.out⟩⟩
          case measure => simp [intOf]; omega
        · have hin : i = n := by omega
          have HR1 : Hid (Rd wr gr dr [] 0) := Lib.hid (by have := HR.out.r; rw [hin, Nat.sub_self] at this; exact this)
          have HR2 : Hid (Rd wr gs ds [more] 0) := Lib.hid (by have := HR.out.s; rw [hin, Nat.sub_self] at this; exact this)
          have HW1 := Lib.hid HR.out.below
          clear hin HR
          go_wp2_with fail
          refine (end_all gr dr _ HR1.out).mono ?_
          rintro e w2 ⟨rfl, rfl⟩
          go_wp2_with fail
          refine (left_any gs ds [more] 0 _ HR2.out).mono ?_
          rintro e w2 ⟨rfl, rfl⟩
          go_wp2_with fail
          refine (end_left gs ds [more] _ HR2.out (by simp)).mono ?_
          rintro e w2 ⟨rfl, hr4, ho4⟩
          have HR4 := Lib.hid hr4
          have HW4 := Lib.hid (ho4.below HW1.out HW1.out.size h5)
          clear hr4 ho4
          go_wp2_with fail
          refine (byte_fault gs ds [more] 4 _ HR4.out rfl).mono ?_
          rintro e w3 ⟨rfl, rfl⟩
          go_wp2_with fail
          refine (lives_any _).mono ?_
          rintro e w5 ⟨rfl, hb⟩
          have HZ := Lib.hid (HW4.out.trans (hb.mono HW4.out.size))
          clear hb
          go_wp2_with fail
          go_ret
          exact ⟨rfl, HZ.out⟩
end Go.Proofs.Ytggkemgbacddgaa
