/- The law EncWrites returns true for any bytes and numbers. -/
import Derived.Test.YtggkemgbacddgaaLives
import Derived.Test.YtggkemgbacddgaaRef
import Derived.Test.YtggkemgbacddgaaIn
import Derived.Deep.RegionWith
import Derived.Deep.CutBlock
import Derived.Deep.DeepCutAuto
namespace Go.Proofs.Ytggkemgbacddgaa
open Go.RowKit

/-- A value that is a slice of these bytes. -/
def IsB (w : World) (v : Value) (bs : List Nat) : Prop := ∃ p c, v = .slice p bs.length c ∧ Bys w p bs.length bs
theorem Made.isB {base : Nat} {w : World} {v : Value} {bs : List Nat} (h : Made base w v bs) (hd : ∀ x ∈ bs, x < 256) : IsB w v bs := h.bys hd
theorem IsB.below {w w' : World} {v : Value} {bs : List Nat} (h : IsB w v bs) (hb : Below w.heap.size w w') : IsB w' v bs := by
  obtain ⟨p, c, e, hB⟩ := h
  exact ⟨p, c, e, hB.below hb⟩
theorem IsB.conv {w : World} {v : Value} {bs : List Nat} (h : IsB w v bs) : (convert 22 9 v).run Try.prog w = .ok (.string (strB bs)) w := by
  obtain ⟨p, c, rfl, hB⟩ := h
  exact hB.conv c
theorem below_drewN {B : Nat} {a w : World} (h : Below B a w) (n : Nat) : Below B a (w.drewN n) := ⟨h.os, h.tape, h.output, h.size, h.block⟩
theorem room_zero {bs : List Nat} {n k : Nat} (hl : bs.length = n) (hk : n ≤ k) : (bs ++ List.replicate 20 0).getD k 0 = 0 := by
  rw [List.getD_eq_getElem?_getD, List.getElem?_append_right (by omega), List.getElem?_replicate]
  split <;> rfl
theorem room_bys {w2 : World} {g n : Nat} {bs : List Nat} {C0 : Array Value} (hl : bs.length = n) (hd : ∀ x ∈ bs, x < 256) (hh : w2.heap[g]? = some (.cells (splice C0.toList 0 (u8s bs)).toArray 5 (0, 0)))
    (hC : C0.toList = List.replicate (n + 20) (.int .u8 0)) : Bys w2 (some ⟨g, 0, none⟩) n bs ∧ Bys w2 (some ⟨g, 0, none⟩) (n + 20) (bs ++ List.replicate 20 0) := by
  have e : (splice C0.toList 0 (u8s bs)) = u8s (bs ++ List.replicate 20 0) := by
    unfold splice
    rw [hC, List.take_zero, List.nil_append, Nat.zero_add, u8s_len, hl, u8s_append, List.drop_replicate, show n + 20 - n = 20 by omega]
    unfold u8s
    rw [List.map_replicate]; rfl
  rw [e] at hh
  have h2 : Bys w2 (some ⟨g, 0, none⟩) (n + 20) (bs ++ List.replicate 20 0) := ⟨by simp [hl], dig_append hd (by intro x hx; rw [List.eq_of_mem_replicate hx]; omega), fun _ => ⟨g, 0, rfl, fun i hi => by
    rw [cell_of_row w2 g _ _ _ _ hh, List.getElem?_toArray, Nat.zero_add, u8s_get _ i (by simp [hl]; omega)]⟩⟩
  refine ⟨?_, h2⟩
  have h3 := h2.take (k := n) (by omega)
  rw [← hl, List.take_left] at h3
  rw [← hl]; exact h3

set_option maxRecDepth 100000 in
set_option maxHeartbeats 1600000 in
theorem writes_short (p q : Option Addr) (n c m d : Nat) (bs ds : List Nat) (x : Int) (w : World) (hn : n ≤ 1000) (hm : m ≤ 1000) (hx0 : -9223372036854775808 ≤ x) (hx : x ≤ 9223372036854775807)
    (hB : Bys w p n bs) (hD : Bys w q m ds) (hG : Fit q m d) :
    Calls Try.prog 3 #[.slice p n c, .int .i64 x, .slice q m d] w fun e w' => e = .returned (.bool true) ∧ Below w.heap.size w w' := by
  obtain ⟨i0, hi, hz0, hz1, hz2⟩ := info_parts Try.info5
  obtain ⟨C0, HC⟩ : ∃ C0, Hid (madeCells (Value.int IntKind.u8 0).cells (n + 20) = C0) := ⟨_, rfl⟩
  have HCs : Hid (C0.size = n + 20) := by rw [← HC.out]; exact Lib.hid (size_madeCells _ _)
  have hmk : ∀ w : World, (Instr.makeSlice 22 (.int .i64 ((n : Int) + 20)) (.int .i64 ((n : Int) + 20))).run Try.prog w = .ok (.slice (some ⟨w.heap.size, 0, none⟩) (n + 20) (n + 20)) (w.alloc (.cells C0 5)) := fun w => by
    have h := run_make (P := Try.prog) w 22 5 i0 _ Try.underlying22 hi hz0 .i64 .i64 (n + 20) (n + 20) (by omega) (by omega) (by rw [hz2]; omega) (by omega)
    rw [hz1, show ((n : Int) + 20).toNat = n + 20 by omega, Nat.mul_one, HC.out] at h
    exact h
  have hd1 : decide ((1000 : Int) < (n : Int)) = false := decide_eq_false (by omega)
  have hd2 : decide ((1000 : Int) < (m : Int)) = false := decide_eq_false (by omega)
  have HB := Lib.hid hB
  have HD := Lib.hid hD
  have HG := Lib.hid hG
  have HI := Lib.hid hi
  have HZ := Lib.hid hz1
  clear hB hD hG hi hz0 hz1 hz2
  have HL : Hid ((u8s bs).length = n) := by rw [u8s_len]; exact Lib.hid HB.out.len
  have hl0 : (Try.prog.info? 5).map (·.size) = some 1 := by kernel_rfl
  have HP := Lib.hid hl0
  clear hl0
  have K1 : Hid ((w.alloc (.cells C0 5)).heap[w.heap.size]? = some (.cells C0.toList.toArray 5 (0, 0))) := Lib.hid (by show (w.heap.push _)[w.heap.size]? = _; simp)
  have K2 : Hid ((u8s bs).length = n.min (n + 20)) := Lib.hid (by rw [HL.out]; exact (Nat.min_eq_left (by omega)).symm)
  have K5 : Hid (Below w.heap.size w (w.alloc (.cells C0 5))) := Lib.hid ((Below.refl _ _).alloc (Nat.le_refl _) _)
  have K3 : Hid (0 < (u8s bs).length → some (⟨w.heap.size, 0, none⟩ : Addr) = some ⟨w.heap.size, 0, none⟩ ∧ ∃ ad, p = some ad ∧ ∀ j v, (u8s bs)[j]? = some v → (w.alloc (.cells C0 5)).cell? (ad.add j) = some v) :=
    Lib.hid fun h => ⟨rfl, (HB.out.below K5.out).cells (by rw [HL.out] at h; exact h)⟩
  have K4 : Hid (0 + (u8s bs).length ≤ C0.toList.length) := Lib.hid (by rw [HL.out, Array.length_toList, HCs.out]; omega)
  go_enter Try.func3, Try.ntmps3
  go_wp2_with (with_reducible refine wpList_copy_splice (w := w.alloc (.cells C0 5)) rfl (.tmp 25) (.tmp 26) 22 22 rfl 5 Try.underlying22 HP.out (some ⟨w.heap.size, 0, none⟩) p (n + 20) (n + 20) n c rfl rfl w.heap.size 0 C0.toList 5 K1.out (u8s bs) K2.out K3.out K4.out (u8s_one bs) w.heap.size w K5.out (Nat.le_refl _) ?_)
  clear hmk
  intro w2 hheap hb2
  have HR := Lib.hid (room_bys HB.out.len HB.out.dig hheap.out (by rw [← HC.out]; exact toList_madeCells_one _ _))
  have HW := Lib.hid hb2
  have HG0 : Hid (Fit (some ⟨w.heap.size, 0, none⟩) n (n + 20)) := Lib.hid ⟨by omega, fun h => by cases h⟩
  have HV := Lib.hid (Below.refl w2.heap.size w2)
  clear hheap hb2 K1 K2 K3 K4 K5 HC HCs HI HZ HL HP
  go_upto_region 5 with fail
  go_cut [8, 9, 10] (fun v1 v2 v3 wx => Below w2.heap.size w2 wx ∧ IsB wx v1 (bs ++ numB (cnt x)) ∧ IsB wx v2 (bs ++ numB (zig x)) ∧ IsB wx v3 (bs ++ numB m ++ ds))
  case first =>
    go_region_with (first
      | (go_at_call 7; refine (count_any (some ⟨w.heap.size, 0, none⟩) n (n + 20) bs x _ (by omega) (HR.out.1.below (by first | exact HV.out | exact HV.out.drew)) HG0.out hx0 hx).mono ?_; rintro e w3 ⟨⟨v1, rfl, hM⟩, hb⟩; have HV := Lib.hid ((by first | exact HV.out | exact HV.out.drew : Below w2.heap.size w2 _).trans (Below.mono hb (by first | exact HV.out.size | exact HV.out.drew.size))); have HM1 := Lib.hid (hM.isB (dig_append HB.out.dig (numB_dig _))); clear hb hM)
      | (go_at_call 8; refine (whole_any (some ⟨w.heap.size, 0, none⟩) n (n + 20) bs x _ (by omega) (HR.out.1.below HV.out) HG0.out hx0 hx).mono ?_; rintro e w4 ⟨⟨v2, rfl, hM⟩, hb⟩; have HV := Lib.hid (HV.out.trans (Below.mono hb HV.out.size)); have HM1 := Lib.hid (HM1.out.below hb); have HM2 := Lib.hid (hM.isB (dig_append HB.out.dig (numB_dig _))); clear hb hM)
      | (go_at_call 9; refine (sized_any (some ⟨w.heap.size, 0, none⟩) q n (n + 20) m d bs ds _ (by omega) (by omega) (HR.out.1.below HV.out) HG0.out ((HD.out.below HW.out).below HV.out) HG.out).mono ?_; rintro e w5 ⟨⟨v3, rfl, hM⟩, hb⟩; have HV := Lib.hid (HV.out.trans (Below.mono hb HV.out.size)); have HM1 := Lib.hid (HM1.out.below hb); have HM2 := Lib.hid (HM2.out.below hb); have HM3 := Lib.hid (hM.isB (dig_append (dig_append HB.out.dig (numB_dig _)) HD.out.dig)); clear hb hM))
    all_goals
      go_wp2_with fail
      go_meet
      exact ⟨HV.out, HM1.out, HM2.out, HM3.out⟩
  case rest =>
    obtain ⟨hv, h1, h2, h3⟩ := hcut
    have HV := Lib.hid hv
    have HM1 := Lib.hid h1
    have HM2 := Lib.hid h2
    have HM3 := Lib.hid h3
    clear hv h1 h2 h3
    go_wp2_with fail
    go_loopw [11] (fun iv wr => ∃ k : Nat, k ≤ n + 20 ∧ iv = .int .i64 (k : Int) ∧ Below wc.heap.size wc wr) (fun iv _ => n + 20 - (intOf iv).toNat)
    case atStart => exact ⟨0, by omega, by go_num, Below.refl _ _⟩
    case round =>
      obtain ⟨k, hk, rfl, hb⟩ := hrel
      have HX := Lib.hid hb
      clear hb
      by_cases hlt : k < n + 20
      · have hd0 : decide ((k : Int) < (n : Int) + 20) = true := decide_eq_true (by omega)
        by_cases hkn : k < n
        · have hd3 : decide ((k : Int) < (n : Int)) = true := decide_eq_true (by omega)
          have hd4 : decide ((n : Int) ≤ (k : Int)) = false := decide_eq_false (by omega)
          have hd5 : decide (n ≤ k) = false := decide_eq_false (by omega)
          obtain ⟨b0, o0, rfl, hcb⟩ := (((HB.out.below HW.out).below HV.out).below HX.out).at (by omega)
          obtain ⟨b1, o1, e1, hcr⟩ := ((HR.out.1.below HV.out).below HX.out).at (by omega)
          cases e1
          have hc1 := hcb k hkn
          have hc2 := hcr k hkn
          clear hcb hcr
          generalize bs.getD k 0 = y at hc1 hc2
          simp only [Nat.zero_add] at hc2
          go_wp2_with fail
          go_quiet (fail)
          go_wp2_with fail
          go_roundw
          case rel => exact ⟨k + 1, by omega, by go_num, below_drewN HX.out _⟩
          case measure => simp [intOf]; omega
        · have hd3 : decide ((k : Int) < (n : Int)) = false := decide_eq_false (by omega)
          have hd4 : decide ((n : Int) ≤ (k : Int)) = true := decide_eq_true (by omega)
          have hd5 : decide (n ≤ k) = true := decide_eq_true (by omega)
          obtain ⟨b1, o1, e1, hcr⟩ := ((HR.out.2.below HV.out).below HX.out).at (by omega)
          cases e1
          have hc2 := hcr k hlt
          have hz0 : (bs ++ List.replicate 20 0).getD k 0 = 0 := room_zero HB.out.len (by omega)
          rw [hz0] at hc2
          clear hz0
          simp only [Nat.zero_add] at hc2
          clear hcr
          go_wp2_with fail
          go_quiet (fail)
          go_wp2_with fail
          go_roundw
          case rel => exact ⟨k + 1, by omega, by go_num, below_drewN HX.out _⟩
          case measure => simp [intOf]; omega
      · have hd0 : decide ((k : Int) < (n : Int) + 20) = false := decide_eq_false (by omega)
        have M1 := HM1.out.below HX.out
        have M2 := HM2.out.below HX.out
        have M3 := HM3.out.below HX.out
        have B0 := ((HB.out.below HW.out).below HV.out).below HX.out
        have D0 := ((HD.out.below HW.out).below HV.out).below HX.out
        obtain ⟨S, HS⟩ : ∃ S, Hid (strB bs = S) := ⟨_, Lib.hid rfl⟩
        obtain ⟨D, HDs⟩ : ∃ D, Hid (strB ds = D) := ⟨_, Lib.hid rfl⟩
        obtain ⟨T1, HT1⟩ : ∃ T, Hid (strB (numB (cnt x)) = T) := ⟨_, Lib.hid rfl⟩
        obtain ⟨T2, HT2⟩ : ∃ T, Hid (strB (numB (zig x)) = T) := ⟨_, Lib.hid rfl⟩
        obtain ⟨T3, HT3⟩ : ∃ T, Hid (strB (numB m) = T) := ⟨_, Lib.hid rfl⟩
        have hq0 : ∀ s : In wr, (convert 22 9 (.slice p n c)).run Try.prog s.1 = .ok (.string S) s.1 := fun s => by rw [← HS.out]; exact (s.bys B0).conv c
        have hqd : ∀ s : In wr, (convert 22 9 (.slice q m d)).run Try.prog s.1 = .ok (.string D) s.1 := fun s => by rw [← HDs.out]; exact (s.bys D0).conv d
        have hq1 : ∀ s : In wr, (convert 22 9 u8).run Try.prog s.1 = .ok (.string (S ++ T1)) s.1 := fun s => by rw [← HS.out, ← HT1.out, ← strB_append]; exact (M1.below s.2).conv
        have hq2 : ∀ s : In wr, (convert 22 9 u9).run Try.prog s.1 = .ok (.string (S ++ T2)) s.1 := fun s => by rw [← HS.out, ← HT2.out, ← strB_append]; exact (M2.below s.2).conv
        have hq3 : ∀ s : In wr, (convert 22 9 u10).run Try.prog s.1 = .ok (.string (S ++ (T3 ++ D))) s.1 := fun s => by rw [← HS.out, ← HT3.out, ← HDs.out, ← strB_append, ← strB_append, ← List.append_assoc]; exact (M3.below s.2).conv
        have s0 : S.size = n := by rw [← HS.out, strB_size]; exact HB.out.len
        have sD : D.size = m := by rw [← HDs.out, strB_size]; exact HD.out.len
        have s1 : T1.size ≤ 10 := by rw [← HT1.out, strB_size]; exact numB_ten (by have := cnt_lt hx; omega)
        have s2 : T2.size ≤ 10 := by rw [← HT2.out, strB_size]; exact numB_ten (zig_lt hx0 hx)
        have s3 : T3.size ≤ 10 := by rw [← HT3.out, strB_size]; exact numB_ten (by omega)
        have z1 : S.size + T1.size ≤ 9223372036854775807 := by omega
        have z2 : S.size + T2.size ≤ 9223372036854775807 := by omega
        have z3 : S.size + (T3 ++ D).size ≤ 9223372036854775807 := by rw [ByteArray.size_append]; omega
        have z3' : S.size + (T3.size + D.size) ≤ 9223372036854775807 := by omega
        have K10 : Hid (∀ W, Calls Try.prog 10 #[.int .i64 x] W fun e w' => e = .returned (.string T1) ∧ Below W.heap.size W w') := Lib.hid fun W => by rw [← HT1.out]; exact rcount_at x (cnt x) W hx0 hx (cnt_lt hx) (Lib.hid (by unfold cnt; omega))
        have K11 : Hid (∀ W, Calls Try.prog 11 #[.int .i64 x] W fun e w' => e = .returned (.string T2) ∧ Below W.heap.size W w') := Lib.hid fun W => by rw [← HT2.out]; exact rwhole_any x W hx0 hx
        have K12 : Hid (∀ W, Calls Try.prog 12 #[.string D] W fun e w' => e = .returned (.string (T3 ++ D)) ∧ Below W.heap.size W w') := Lib.hid fun W => by rw [← HT3.out, ← HDs.out, ← HD.out.len]; exact rsized_any ds W (by have := HD.out.len; omega)
        have HZ := Lib.hid ((HW.out.trans (HV.out.mono HW.out.size)).trans (HX.out.mono (Nat.le_trans HW.out.size HV.out.size)))
        clear M1 M2 M3 B0 D0 s0 sD s1 s2 s3 HS HDs HT1 HT2 HT3 HM1 HM2 HM3 HB HD HG HR HG0
        have hne := In.some wr
        go_wp2_with fail
        refine region_in wr (by kernel_rfl) (by kernel_rfl) (Below.refl _ _) ?_
        repeat (go_big_quiet_step ((first
          | (go_at_call 10; exact Calls.quiet_in (K10.out _))
          | (go_at_call 11; exact Calls.quiet_in (K11.out _))
          | (go_at_call 12; exact Calls.quiet_in (K12.out _))
          | (go_at_call 6; exact Calls.quiet_in (lives_any _)))))
        refine wpQuiet_nil ?_
        intro _ hw'
        obtain ⟨⟨wz, hbz⟩, hw''⟩ := hw'
        subst hw''
        go_wp2_with fail
        go_ret
        exact ⟨rfl, HZ.out.trans (Below.mono hbz HZ.out.size)⟩
end Go.Proofs.Ytggkemgbacddgaa
