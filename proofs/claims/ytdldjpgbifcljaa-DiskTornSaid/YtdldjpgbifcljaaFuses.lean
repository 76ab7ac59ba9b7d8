/- What DiskFuses returns: true. -/
import Derived.Test.YtdldjpgbifcljaaLives
import Derived.Test.YtdldjpgbifcljaaFuses0
namespace Go.Proofs.Ytdldjpgbifcljaa
open Go.RowKit

/-- A slice of ints that reads as z says. -/
def Zs (w : World) (p : Option Addr) (n : Nat) (z : Nat → Int) : Prop := 0 < n → ∃ b o, p = some ⟨b, o, none⟩ ∧ b < w.heap.size ∧ ∀ r, r < n → w.cell? ⟨b, o + r, none⟩ = some (.int .i64 (z r)) ∧ -9223372036854775808 ≤ z r ∧ z r ≤ 9223372036854775807
/-- The law's disk amid its steps. -/
structure FW (w wr : World) (g : Nat) (n : Int) (done i : Nat) : Prop where
  dk : ∃ F m, Dk wr g F m ∧ FR m n done i ∧ ∀ k ∈ F, w.heap.size ≤ k
  below : Below w.heap.size w wr
theorem FW.went {w wr w' : World} {g : Nat} {n : Int} {done' i' : Nat} {F : List Nat} {m : Dsk} (hF : ∀ k ∈ F, w.heap.size ≤ k) (hb : Below w.heap.size w wr) (hw : Went F g m wr w') (hm : FR m n done' i') : FW w w' g n done' i' := by
  obtain ⟨F', hD, hC⟩ := hw
  exact ⟨⟨F', m, hD, hm, hC.high hb.size hF⟩, hC.below hb hb.size hF⟩
/-- The same, and is the disk down? -/
def FD (w wr : World) (g : Nat) (n : Int) (done i : Nat) (b : Bool) : Prop := Below w.heap.size w wr ∧ ∃ F m, Dk wr g F m ∧ FR m n done i ∧ m.down = b ∧ ∀ k ∈ F, w.heap.size ≤ k
theorem FD.fw {w wr : World} {g : Nat} {n : Int} {done i : Nat} {b : Bool} (h : FD w wr g n done i b) : FW w wr g n done i := by
  obtain ⟨hb, F, m, h1, h2, _, h3⟩ := h
  exact ⟨⟨F, m, h1, h2, h3⟩, hb⟩
theorem FD.went {w wr w' : World} {g : Nat} {n : Int} {done' i' : Nat} {b : Bool} {F : List Nat} {m : Dsk} (hF : ∀ k ∈ F, w.heap.size ≤ k) (hb : Below w.heap.size w wr) (hw : Went F g m wr w') (hm : FR m n done' i') (hd : m.down = b) : FD w w' g n done' i' b := by
  obtain ⟨F', hD, hC⟩ := hw
  exact ⟨hC.below hb hb.size hF, F', m, hD, hm, hd, hC.high hb.size hF⟩
def fillOp (y : Nat) : Opv := ⟨0, 0, 0, 0, 0, y, none, 0, 0, fun _ => false⟩
theorem zero64 : i64B 0 := ⟨by decide, by decide⟩
theorem fillOp_ok {y : Nat} (h : y < 256) : OpB (fillOp y) := ⟨zero64, zero64, zero64, zero64, zero64, h, by show 0 ≤ _; omega⟩
theorem fillOp_len (y : Nat) : (fillS (fillOp y)).length = 128 := List.length_replicate
set_option maxRecDepth 100000 in
set_option maxHeartbeats 1600000 in
theorem fuses_long (n : Int) (p : Option Addr) (nk ck : Nat) (w : World) (hn : 80 < nk) (hl : nk ≤ 9223372036854775807) :
    Calls Try.prog 6 #[.int .i64 n, .slice p nk ck] w fun e w' => e = .returned (.bool true) ∧ Below w.heap.size w w' := by
  have hd : decide ((80 : Int) < (nk : Int)) = true := decide_eq_true (by omega)
  go_enter Try.func6, Try.ntmps6
  go_wp2_with fail
  refine (new_any 2 _ (by omega) (by omega)).mono ?_
  rintro e w1 ⟨g, F, rfl, hD, hF, hb⟩
  have HB := Lib.hid hb
  clear hD hF hb
  go_wp2_with fail
  refine (lives_any _).mono ?_
  rintro e w2 ⟨rfl, hb⟩
  have HB2 := Lib.hid (HB.out.trans (hb.mono HB.out.size))
  clear hb HB
  go_wp2_with fail
  go_ret
  exact ⟨rfl, HB2.out⟩
set_option maxRecDepth 100000 in
set_option maxHeartbeats 3200000 in
theorem fuses_short (n : Int) (p : Option Addr) (nk ck : Nat) (z : Nat → Int) (w : World) (h0 : -9223372036854775808 ≤ n) (h1 : n ≤ 9223372036854775807) (hn : nk ≤ 80) (hZ : Zs w p nk z) :
    Calls Try.prog 6 #[.int .i64 n, .slice p nk ck] w fun e w' => e = .returned (.bool true) ∧ Below w.heap.size w w' := by
  have hd : decide ((80 : Int) < (nk : Int)) = false := decide_eq_false (by omega)
  have HZ := Lib.hid hZ
  clear hZ
  go_enter Try.func6, Try.ntmps6
  go_wp2_with fail
  refine (new_any 2 _ (by omega) (by omega)).mono ?_
  rintro e w1 ⟨g, F, rfl, hD, hF, hb⟩
  have HD := Lib.hid hD
  have HF := Lib.hid hF
  have HB := Lib.hid hb
  clear hD hF hb
  go_wp2_with fail
  refine (HD.out.fuse n h0 h1).mono ?_
  rintro e w2 ⟨rfl, hw⟩
  have H0 : Hid (FW w w2 g n 0 0) := Lib.hid (FW.went HF.out HB.out hw (FR.start _ _ (by show (List.replicate _ _).length = 2; rw [List.length_replicate]) rfl rfl rfl))
  clear hw HD HF HB hd
  go_wp2_with fail
  go_loopw [7, 8] (fun dv iv wr => ∃ done i : Nat, i ≤ nk ∧ dv = .int .i64 (done : Int) ∧ iv = .int .i64 (i : Int) ∧ Hid (FW w wr g n done i)) (fun _ iv _ => nk - (intOf iv).toNat)
  case atStart => exact ⟨0, 0, by omega, by go_num, by go_num, H0⟩
  case round =>
    obtain ⟨done, i, hi, rfl, rfl, hr⟩ := hrel
    clear H0
    have hdi : done ≤ i := by obtain ⟨F, m, _, hm, _⟩ := hr.out.dk; exact hm.le
    by_cases hlt : i < nk
    · obtain ⟨b, o, rfl, hbl, hcell⟩ := HZ.out (by omega)
      obtain ⟨hc0, hz0, hz1⟩ := hcell i hlt
      have hc := (hr.out.below.cell (p := ⟨b, o + i, none⟩) hbl).trans hc0
      clear hcell hc0
      generalize z i = zi at *
      by_cases hbt : Burnt n done
      · have hn0 : 0 ≤ n := hbt.1
        have hn1 : decide (n ≤ (done : Int)) = true := decide_eq_true hbt.2
        have HBT := Lib.hid hbt
        clear hbt
        go_upto_if 50 with fail
        go_cut [10] (fun v wx => v = .int .i64 9 ∧ Hid (FD w wx g n done (i + 1) true))
        case first =>
          go_wp2_with fail
          · refine (filled_any (fillOp 1) _ (fillOp_ok (by omega))).mono ?_
            rintro e w4 ⟨rfl, hb⟩
            obtain ⟨⟨F, m, hD, hm, hF⟩, hbel⟩ := hr.out
            have HP := hm.putB HBT.out (fillS (fillOp 1)) (fillOp_len 1)
            have hp := put_any (hD.below hb) 1 (fillS (fillOp 1)) (fillS_dig (by show (1 : Nat) < 256; omega)) (by rw [hm.dn]; omega) (by have := hm.row; omega)
            rw [HP.1] at hp
            have HPU := Lib.hid hp
            have HF4 := Lib.hid (fun w' (h : Went F g (putM m 1 (fillS (fillOp 1))) w4 w') => FD.went hF (hbel.trans (hb.mono hbel.size)) h HP.2.1 HP.2.2)
            clear hp HP hD hm hF hbel hb hr
            go_wp2_with fail
            refine HPU.out.mono ?_
            rintro e w5 ⟨rfl, hw⟩
            have HW := Lib.hid (HF4.out w5 hw)
            clear hw HPU HF4
            go_wp2_with fail
            go_meet
            exact ⟨rfl, HW⟩
          · obtain ⟨⟨F, m, hD, hm, hF⟩, hbel⟩ := hr.out
            have HP := hm.barB HBT.out
            have hp := barrier_any hD (by rw [hm.dn]; omega) (by have := hm.row; omega)
            rw [HP.1] at hp
            have HPU := Lib.hid hp
            have HF4 := Lib.hid (fun w' (h : Went F g (barM m) wr w') => FD.went hF hbel h HP.2.1 HP.2.2)
            clear hp HP hD hm hF hbel hr
            refine HPU.out.mono ?_
            rintro e w5 ⟨rfl, hw⟩
            have HW := Lib.hid (HF4.out w5 hw)
            clear hw HPU HF4
            go_wp2_with fail
            go_meet
            exact ⟨rfl, HW⟩
        case rest =>
          obtain ⟨rfl, hw⟩ := hcut
          clear hr
          obtain ⟨hbel, F, m, hD, hm, hdn, hF⟩ := hw.out
          have HDN := hD.done
          rw [hm.dn] at HDN
          have HDO := hD.down
          rw [hdn] at HDO
          have H1 := Lib.hid HDN
          have H2 := Lib.hid HDO
          clear HDN HDO hbel hD hm hdn hF
          go_wp2_with fail
          refine H1.out.mono ?_
          rintro e w6 ⟨rfl, rfl⟩
          go_wp2_with fail
          refine H2.out.mono ?_
          rintro e w6 ⟨rfl, rfl⟩
          have HW := Lib.hid hw.out.fw
          clear hw H1 H2
          go_wp2_with fail
          go_roundw
          case rel => exact ⟨done, i + 1, by omega, by go_num, by go_num, HW⟩
          case measure => simp [intOf]; omega
      · have HBT := Lib.hid hbt
        have hcase : (n < 0 ∧ Hid True) ∨ (0 ≤ n ∧ decide (n ≤ (done : Int)) = false) := by
          unfold Burnt at hbt
          by_cases h : n < 0
          · exact .inl ⟨h, trivial⟩
          · exact .inr ⟨by omega, decide_eq_false (by omega)⟩
        clear hbt
        rcases hcase with ⟨hn0, _⟩ | ⟨hn0, hn1⟩
        all_goals
          go_upto_if 50 with fail
          go_cut [10] (fun v wx => v = .int .i64 0 ∧ Hid (FD w wx g n (done + 1) (i + 1) false))
          case first =>
            go_wp2_with fail
            · refine (filled_any (fillOp 1) _ (fillOp_ok (by omega))).mono ?_
              rintro e w4 ⟨rfl, hb⟩
              obtain ⟨⟨F, m, hD, hm, hF⟩, hbel⟩ := hr.out
              have HP := hm.put HBT.out (fillS (fillOp 1)) (fillOp_len 1)
              have hp := put_any (hD.below hb) 1 (fillS (fillOp 1)) (fillS_dig (by show (1 : Nat) < 256; omega)) (by rw [hm.dn]; omega) (by have := hm.row; omega)
              rw [HP.1] at hp
              have HPU := Lib.hid hp
              have HF4 := Lib.hid (fun w' (h : Went F g (putM m 1 (fillS (fillOp 1))) w4 w') => FD.went hF (hbel.trans (hb.mono hbel.size)) h HP.2.1 HP.2.2)
              clear hp HP hD hm hF hbel hb hr
              go_wp2_with fail
              refine HPU.out.mono ?_
              rintro e w5 ⟨rfl, hw⟩
              have HW := Lib.hid (HF4.out w5 hw)
              clear hw HPU HF4
              go_wp2_with fail
              go_meet
              exact ⟨rfl, HW⟩
            · obtain ⟨⟨F, m, hD, hm, hF⟩, hbel⟩ := hr.out
              have HP := hm.bar HBT.out
              have hp := barrier_any hD (by rw [hm.dn]; omega) (by have := hm.row; omega)
              rw [HP.1] at hp
              have HPU := Lib.hid hp
              have HF4 := Lib.hid (fun w' (h : Went F g (barM m) wr w') => FD.went hF hbel h HP.2.1 HP.2.2)
              clear hp HP hD hm hF hbel hr
              refine HPU.out.mono ?_
              rintro e w5 ⟨rfl, hw⟩
              have HW := Lib.hid (HF4.out w5 hw)
              clear hw HPU HF4
              go_wp2_with fail
              go_meet
              exact ⟨rfl, HW⟩
          case rest =>
            obtain ⟨rfl, hw⟩ := hcut
            clear hr
            obtain ⟨hbel, F, m, hD, hm, hdn, hF⟩ := hw.out
            have HRD := hD.read 0
            rw [hm.read hdn] at HRD
            have HDN := hD.done
            rw [hm.dn] at HDN
            have HDO := hD.down
            rw [hdn] at HDO
            have H0 := Lib.hid HRD
            have H1 := Lib.hid HDN
            have H2 := Lib.hid HDO
            clear HRD HDN HDO hbel hD hm hdn hF
            generalize strB _ = S at *
            go_wp2_with fail
            refine H0.out.mono ?_
            rintro e w6 ⟨rfl, rfl⟩
            go_wp2_with fail
            refine H1.out.mono ?_
            rintro e w6 ⟨rfl, rfl⟩
            go_wp2_with fail
            refine H2.out.mono ?_
            rintro e w6 ⟨rfl, rfl⟩
            have HW := Lib.hid hw.out.fw
            clear hw H0 H1 H2
            go_wp2_with fail
            go_roundw
            case rel => exact ⟨done + 1, i + 1, by omega, by go_num, by go_num, HW⟩
            case measure => simp [intOf]; omega
    · obtain rfl : i = nk := by omega
      clear HZ
      go_wp2_with fail
      obtain ⟨⟨F, m, hD, hm, hF⟩, hbel⟩ := hr.out
      have HM := Lib.hid (hm.last (fillS (fillOp 2)) (fillOp_len 2))
      have HBL := Lib.hid hbel
      have HF := Lib.hid hF
      have HD := Lib.hid hD
      clear hr hD hm hbel hF
      refine HD.out.start.mono ?_
      rintro e w4 ⟨rfl, F4, hD, hC⟩
      have HD4 := Lib.hid hD
      have HB4 := Lib.hid (hC.below HBL.out HBL.out.size HF.out)
      have HF4 := Lib.hid (hC.high HBL.out.size HF.out)
      clear hD hC HD HBL HF
      go_wp2_with fail
      refine (HD4.out.fuse (-1) (by omega) (by omega)).mono ?_
      rintro e w5 ⟨rfl, F5, hD, hC⟩
      have HD5 := Lib.hid hD
      have HB5 := Lib.hid (hC.below HB4.out HB4.out.size HF4.out)
      have HF5 := Lib.hid (hC.high HB4.out.size HF4.out)
      clear hD hC HD4 HB4 HF4
      go_wp2_with fail
      refine (filled_any (fillOp 2) _ (fillOp_ok (by omega))).mono ?_
      rintro e w6 ⟨rfl, hb⟩
      have hp := put_any (HD5.out.below hb) 0 (fillS (fillOp 2)) (fillS_dig (by show (2 : Nat) < 256; omega)) (by rw [HM.out.2.1]; omega) (by have := HM.out.2.2; omega)
      rw [HM.out.1] at hp
      have HPU := Lib.hid hp
      have HB6 := Lib.hid (HB5.out.trans (hb.mono HB5.out.size))
      clear hp hb HD5 HB5 HM
      go_wp2_with fail
      refine HPU.out.mono ?_
      rintro e w7 ⟨rfl, F7, hD, hC⟩
      have HB7 := Lib.hid (hC.below HB6.out HB6.out.size HF5.out)
      clear hD hC HPU HB6 HF5
      go_wp2_with fail
      refine (lives_any _).mono ?_
      rintro e w8 ⟨rfl, hb⟩
      have HB8 := Lib.hid (HB7.out.trans (hb.mono HB7.out.size))
      clear hb HB7
      go_wp2_with fail
      go_ret
      exact ⟨rfl, HB8.out⟩
theorem fuses_walk (n : Int) (p : Option Addr) (nk ck : Nat) (z : Nat → Int) (w : World) (h0 : -9223372036854775808 ≤ n) (h1 : n ≤ 9223372036854775807) (hn : nk ≤ 9223372036854775807) (hZ : Zs w p nk z) :
    Calls Try.prog 6 #[.int .i64 n, .slice p nk ck] w fun e w' => e = .returned (.bool true) ∧ Below w.heap.size w w' := by
  by_cases h : nk ≤ 80
  · exact fuses_short n p nk ck z w h0 h1 h hZ
  · exact fuses_long n p nk ck w (by omega) hn
end Go.Proofs.Ytdldjpgbifcljaa
