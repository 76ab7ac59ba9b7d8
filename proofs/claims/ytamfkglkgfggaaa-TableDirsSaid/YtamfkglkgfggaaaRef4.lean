/- The document's row of some bytes. -/
import Derived.Test.YtamfkglkgfggaaaRef2
import Derived.Test.YtamfkglkgfggaaaOf
namespace Go.Proofs.Ytamfkglkgfggaaa
open Go.RowKit

theorem form_iff {n : Nat} {bs : List Nat} (hl : bs.length = need n) (hd : ∀ x ∈ bs, x < 256) : rowF (cut n (trs bs)) (need n) = bs ↔ ∀ y, n ≤ y → y < 8 * need n → trs bs y = false := by
  constructor
  · intro h y h1 h2
    rw [← cut_trs hl h]
    exact cut_sub n _ y h1
  · intro h
    have h2 : rowF (cut n (trs bs)) (need n) = rowF (trs bs) (need n) := rowF_congr fun i hi => by
      unfold cut
      by_cases hin : i < n
      · rw [decide_eq_true hin, Bool.true_and]
      · rw [decide_eq_false hin, h i (by omega) hi]; rfl
    rw [h2, rowF_trs hl hd]
theorem trs_mod (bs : List Nat) (i : Nat) : ((bs.getD (i / 8) 0 / 2 ^ (i % 8) % 2 : Nat) : Int) = if trs bs i = true then 1 else 0 := by
  unfold trs
  rw [Nat.testBit_eq_decide_div_mod_eq]
  by_cases h : bs.getD (i / 8) 0 / 2 ^ (i % 8) % 2 = 1
  · rw [h, if_pos (by simp)]; rfl
  · rw [if_neg (by simpa using h)]; omega
/-- What the document's answer tells: a row, or none. -/
def ROf (W w' : World) (x : Int) (bs : List Nat) (v : Value) : Prop :=
  (ofE x bs = 0 ∧ ∃ p c, v = .slice p x.toNat c ∧ Bls w' p x.toNat (trs bs) ∧ ∀ b o, p = some ⟨b, o, none⟩ → W.heap.size ≤ b) ∨ (ofE x bs ≠ 0 ∧ v = .slice none 0 0)
theorem own_vslice {w : World} {base E n : Nat} {v : Value} {xs : List Value} (h : w.ownsRow base E 1 v n xs) : ∃ p c, v = .slice p n c := by
  rcases h.2 with ⟨h0, h1⟩ | ⟨g, cap, cur, e, _⟩
  · exact ⟨none, 0, by rw [h0, h1]⟩
  · exact ⟨_, _, e⟩
set_option maxRecDepth 20000 in
set_option maxHeartbeats 3200000 in
theorem rof_loop (n m : Nat) (p : Option Addr) (c : Nat) (bs : List Nat) (w : World) (hn : n ≤ 2048) (hm : Hid (need n = m)) (hB : Bys w p m bs) :
    Calls Try.prog 50 #[.int .i64 (n : Int), .slice p m c] w fun e w' => (∃ v, e = .returned (.tuple #[v, .int .i64 (ofE (n : Int) bs)]) ∧ ROf w w' (n : Int) bs v) ∧ Below w.heap.size w w' := by
  obtain ⟨i0, hi0, hz0, hz1, hz2⟩ := info_parts Try.info4
  have hl := hB.len
  have hE : ofE (n : Int) bs = if rowF (cut n (trs bs)) (need n) = bs then 0 else 4 := by
    unfold ofE
    rw [if_neg (not_not_intro ⟨by omega, by omega⟩), Int.toNat_natCast, if_neg (by rw [hl, hm.out]; omega), if_neg (by rw [hl, hm.out]; omega)]
  have HF := Lib.hid (form_iff (n := n) (by rw [hl, hm.out]) hB.dig)
  have HE := Lib.hid hE
  have HB := Lib.hid hB
  have HMB : Hid (m ≤ 256) := Lib.hid (by rw [← hm.out]; exact need_le hn)
  have HM2 : Hid (n ≤ 8 * m ∧ 8 * m ≤ n + 7) := Lib.hid (by rw [← hm.out]; unfold need; omega)
  have hq : ((n : Int) + 7) / 8 = (m : Int) := by rw [← hm.out]; unfold need; omega
  have hd1 : decide ((n : Int) < 0) = false := decide_eq_false (by omega)
  have hd2 : decide ((2048 : Int) < (n : Int)) = false := decide_eq_false (by omega)
  have hnz : (n : Int) ≤ 2048 := by omega
  have hmz : (m : Int) ≤ 256 := by have := HMB.out; omega
  have HNIL : Hid (w.ownsRow w.heap.size 4 1 (.slice none 0 0) 0 (bvs (trs bs) 0)) := Lib.hid (World.ownsRow_nil _ _ _ _)
  have hrf : decide (m < m) = false := decide_eq_false (Nat.lt_irrefl _)
  clear hE hl hn hB
  go_enter Try.func50, Try.ntmps50
  go_upto_region 3 with fail
  go_cut [6] (fun v wx => v = .int .i64 (m : Int) ∧ wx = w)
  case first =>
    go_wp2_with fail
    go_meet
    exact ⟨by rw [hq], rfl⟩
  case rest =>
  obtain ⟨rfl, hwc⟩ := hcut
  replace hwc := hwc.symm
  subst hwc
  go_wp2_with fail
  go_loopw [8, 7, 9, 10] (fun iv lv _ _ wr => ∃ (i l : Nat), i ≤ 8 * m ∧ Hid (l = min i n) ∧ iv = .int .i64 (i : Int) ∧ wr.ownsRow w.heap.size 4 1 lv l (bvs (trs bs) l) ∧ Hid (∀ y, n ≤ y → y < i → trs bs y = false) ∧ Below w.heap.size w wr) (fun iv _ _ _ _ => 8 * m - (intOf iv).toNat)
  case atStart => exact ⟨0, 0, by omega, Lib.hid (by omega), by go_num, HNIL.out, Lib.hid (fun y h1 h2 => by omega), Below.refl _ _⟩
  case round =>
    obtain ⟨i, l, hi, HL, rfl, hown, HZ, hbw⟩ := hrel
    have HOW := Lib.hid hown
    have HBW := Lib.hid hbw
    have HIM := Lib.hid hi
    clear hown hbw hi
    have hiz : (i : Int) ≤ 2048 := by have := HIM.out; have := HMB.out; omega
    by_cases hlt : i < 8 * m
    · have hdl : decide ((i : Int) < 8 * (m : Int)) = true := decide_eq_true (by omega)
      have hbi : i / 8 < m := by omega
      obtain ⟨b, o, rfl, hc⟩ := (HB.out.below HBW.out).at (by omega)
      have hcell := hc (i / 8) hbi
      have hdiv : (i : Int) / 8 = ((i / 8 : Nat) : Int) := by omega
      have hmod : (i : Int) % 8 = ((i % 8 : Nat) : Int) := by omega
      have hyb := HB.out.getD (i / 8)
      have hyz : ((bs.getD (i / 8) 0 : Nat) : Int) < 256 := by omega
      have hrz : ((i % 8 : Nat) : Int) < 8 := by omega
      have HTM := Lib.hid (trs_mod bs i)
      have HTR : Hid (trs bs i = (bs.getD (i / 8) 0).testBit (i % 8)) := Lib.hid rfl
      have HBV : Hid (bvs (trs bs) (l + 1) = bvs (trs bs) l ++ [.bool (trs bs l)]) := Lib.hid (bvs_succ _ _)
      clear hc hyb
      have HID : Hid (8 * (i / 8) + i % 8 = i) := Lib.hid (by omega)
      generalize bs.getD (i / 8) 0 = y at *
      generalize hq2 : i / 8 = q at *
      generalize hr2 : i % 8 = r at *
      go_wp2_with fail
      go_loop [10, 9] (fun kv cv => ∃ k : Nat, k ≤ r ∧ kv = .int .i64 (k : Int) ∧ cv = .int .i64 ((y / 2 ^ k : Nat) : Int)) (fun kv _ => r - (intOf kv).toNat)
      case atStart => exact ⟨0, by omega, by go_num, by simp⟩
      case round =>
        obtain ⟨k, hk, rfl, rfl⟩ := hrel
        by_cases hkr : k < r
        · have hdk : decide ((k : Int) < (r : Int)) = true := decide_eq_true (by omega)
          have hpow : ((y / 2 ^ k : Nat) : Int) / 2 = ((y / 2 ^ (k + 1) : Nat) : Int) := by rw [Nat.pow_succ, ← Nat.div_div_eq_div_mul, Int.natCast_ediv (y / 2 ^ k) 2]; rfl
          have hkz : (k : Int) < 8 := by omega
          have hcz : (0 : Int) ≤ ((y / 2 ^ k : Nat) : Int) := Int.natCast_nonneg _
          have hcz1 : ((y / 2 ^ k : Nat) : Int) < 256 := by have := Nat.div_le_self y (2 ^ k); omega
          have hcz2 : ((y / 2 ^ (k + 1) : Nat) : Int) < 256 := by have := Nat.div_le_self y (2 ^ (k + 1)); omega
          have hcz3 : (0 : Int) ≤ ((y / 2 ^ (k + 1) : Nat) : Int) := Int.natCast_nonneg _
          generalize hgz : y / 2 ^ k = z at *
          generalize hgz2 : y / 2 ^ (k + 1) = z2 at *
          go_wp2_with fail
          go_round
          case rel => exact ⟨k + 1, by omega, by go_num, by rw [hgz2]⟩
          case measure => simp [intOf]; omega
        · obtain rfl : k = r := by omega
          have hdk : decide ((k : Int) < (k : Int)) = false := decide_eq_false (by omega)
          have hv : (((y / 2 ^ k : Nat) : Int) % 2 == 1) = trs bs i := by
            have h := HTM.out
            have h2 : ((y / 2 ^ k : Nat) : Int) % 2 = ((y / 2 ^ k % 2 : Nat) : Int) := by omega
            rw [h2, h]
            cases trs bs i <;> simp
          have hcz : (0 : Int) ≤ ((y / 2 ^ k : Nat) : Int) := Int.natCast_nonneg _
          have hcz1 : ((y / 2 ^ k : Nat) : Int) < 256 := by have := Nat.div_le_self y (2 ^ k); omega
          generalize y / 2 ^ k = z at *
          clear hk HTM HTR hcell
          by_cases hin : i < n
          · obtain rfl : l = i := by have := HL.out; omega
            have hdn : decide ((l : Int) < (n : Int)) = true := decide_eq_true (by omega)
            generalize hvv : trs bs l = v at *
            go_wp2_with (at_builtin; refine wpList_append_own _ rfl _ _ 53 rfl w.heap.size 4 i0 (.bool false) 1 1 Try.underlying53 hi0 hz0 hz1 hz2 rfl (by decide) _ l _ rfl (World.ownsRow.alloc HOW.out _) ⟨wr.heap.size, 0, none⟩ 1 1 [.bool v] rfl rfl (one_cells wr _ _) ?c2 ?c3 ?c4 ?c5 ?_)
            case c2 => rfl
            case c3 => unfold maxLen; have := HIM.out; have := HMB.out; omega
            case c4 => have := HIM.out; have := HMB.out; omega
            case c5 => have := HBW.out.size; simp; omega
            intro v' w1 hown hgrow hnil
            have HB1 := Lib.hid ((HBW.out.alloc HBW.out.size (.cells #[.bool v] 4)).grown hgrow (by have := HBW.out.size; simp; omega) (by intro k2 hk2; exact (World.ownsRow.lt HOW.out k2 hk2).1))
            have hown2 : w1.ownsRow w.heap.size 4 1 v' (l + 1) (bvs (trs bs) (l + 1)) := by rw [HBV.out]; exact hown
            clear hown hgrow hnil
            go_wp2_with fail
            go_roundw
            case rel => exact ⟨l + 1, l + 1, by omega, Lib.hid (by omega), by go_num, hown2, Lib.hid (fun y2 h1 h2 => by omega), HB1.out⟩
            case measure => simp [intOf]; omega
          · have hdn : decide ((i : Int) < (n : Int)) = false := decide_eq_false (by omega)
            have hdn2 : decide (i < n) = false := decide_eq_false (by omega)
            by_cases hv1 : trs bs i = true
            · rw [hv1] at hv
              have HR : Hid (ofE (n : Int) bs = 4) := Lib.hid (by
                rw [HE.out, if_neg]
                intro h
                have := HF.out.1 h i (by omega) (by have := HM2.out; rw [hm.out]; omega)
                rw [hv1] at this; cases this)
              clear hin hv1
              go_wp2_with fail
              go_ret2
              exact ⟨⟨_, by rw [HR.out]; rfl, .inr ⟨by rw [HR.out]; decide, rfl⟩⟩, HBW.out⟩
            · have hv2 : trs bs i = false := by simpa using hv1
              rw [hv2] at hv
              have HV2 := Lib.hid hv2
              have HIN := Lib.hid hin
              clear hin hv1 hv2
              go_wp2_with fail
              go_roundw
              case rel => exact ⟨i + 1, l, by omega, Lib.hid (by have := HL.out; have := HIN.out; omega), by go_num, HOW.out, Lib.hid (fun y2 h1 h2 => by
                by_cases hy : y2 = i
                · rw [hy]; exact HV2.out
                · exact HZ.out y2 h1 (by omega)), HBW.out⟩
              case measure => simp [intOf]; omega
    · have hdl : decide ((i : Int) < 8 * (m : Int)) = false := decide_eq_false (by omega)
      obtain rfl : l = n := by have := HL.out; have := HM2.out; omega
      have HR : Hid (ofE (l : Int) bs = 0) := Lib.hid (by
        rw [HE.out, if_pos]
        exact HF.out.2 (fun y h1 h2 => HZ.out y h1 (by rw [hm.out] at h2; omega)))
      have hown := HOW.out
      obtain ⟨pp, cc, rfl⟩ := own_vslice hown
      have HBL := Lib.hid (Bls.of_any hown)
      clear hown hlt
      go_wp2_with fail
      go_ret2
      exact ⟨⟨_, by rw [HR.out]; rfl,   .inl ⟨HR.out, pp, cc, by rw [Int.toNat_natCast]; rfl, by rw [Int.toNat_natCast]; exact HBL.out.1, HBL.out.2⟩⟩, HBW.out⟩
/-- The document's answer for any bytes. -/
theorem rof_any (x : Int) (p : Option Addr) (k c : Nat) (bs : List Nat) (w : World) (hB : Bys w p k bs) :
    Calls Try.prog 50 #[.int .i64 x, .slice p k c] w fun e w' => (∃ v, e = .returned (.tuple #[v, .int .i64 (ofE x bs)]) ∧ ROf w w' x bs v) ∧ Below w.heap.size w w' := by
  have hl := hB.len
  by_cases hin : 0 ≤ x ∧ x ≤ 2048
  · obtain ⟨n, rfl⟩ := Int.eq_ofNat_of_zero_le hin.1
    have hn : n ≤ 2048 := by omega
    have hq : ((n : Int) + 7) / 8 = (need n : Int) := by unfold need; omega
    have hd1 : decide ((n : Int) < 0) = false := decide_eq_false (by omega)
    have hd2 : decide ((2048 : Int) < (n : Int)) = false := decide_eq_false (by omega)
    have hnz : (n : Int) ≤ 2048 := by omega
    by_cases h1 : need n < k
    · have hE : ofE (n : Int) bs = 2 := by unfold ofE; rw [if_neg (not_not_intro hin), if_pos (by rw [Int.toNat_natCast, hl]; exact h1)]
      have hd : decide ((need n : Int) < (k : Int)) = true := decide_eq_true (by omega)
      have hdn : decide (need n < k) = true := decide_eq_true h1
      rw [hE]
      have HE := Lib.hid hE
      clear hin hn hB hE h1
      go_enter Try.func50, Try.ntmps50
      go_wp2_with fail
      go_ret2
      exact ⟨⟨_, rfl, .inr ⟨by rw [HE.out]; decide, rfl⟩⟩, Below.refl _ _⟩
    · by_cases h2 : k < need n
      · have hE : ofE (n : Int) bs = 3 := by unfold ofE; rw [if_neg (not_not_intro hin), if_neg (by rw [Int.toNat_natCast, hl]; exact h1), if_pos (by rw [Int.toNat_natCast, hl]; exact h2)]
        have hd : decide ((need n : Int) < (k : Int)) = false := decide_eq_false (by omega)
        have hdn : decide (need n < k) = false := decide_eq_false h1
        have hd4 : decide ((k : Int) < (need n : Int)) = true := decide_eq_true (by omega)
        have hd4n : decide (k < need n) = true := decide_eq_true h2
        rw [hE]
        have HE := Lib.hid hE
        clear hin hn hB hE h1 h2
        go_enter Try.func50, Try.ntmps50
        go_wp2_with fail
        go_ret2
        exact ⟨⟨_, rfl, .inr ⟨by rw [HE.out]; decide, rfl⟩⟩, Below.refl _ _⟩
      · obtain rfl : k = need n := by omega
        exact rof_loop n (need n) p c bs w hn (Lib.hid rfl) hB
  · have hE : ofE x bs = 1 := by unfold ofE; rw [if_pos hin]
    rw [hE]
    have HE := Lib.hid hE
    by_cases h0 : x < 0
    · have hd : decide (x < 0) = true := decide_eq_true h0
      clear hin hB hE h0
      go_enter Try.func50, Try.ntmps50
      go_wp2_with fail
      go_ret2
      exact ⟨⟨_, rfl, .inr ⟨by rw [HE.out]; decide, rfl⟩⟩, Below.refl _ _⟩
    · have hd : decide (x < 0) = false := decide_eq_false h0
      have hd2 : decide (2048 < x) = true := decide_eq_true (by omega)
      clear hin hB hE h0
      go_enter Try.func50, Try.ntmps50
      go_wp2_with fail
      go_ret2
      exact ⟨⟨_, rfl, .inr ⟨by rw [HE.out]; decide, rfl⟩⟩, Below.refl _ _⟩
end Go.Proofs.Ytamfkglkgfggaaa
