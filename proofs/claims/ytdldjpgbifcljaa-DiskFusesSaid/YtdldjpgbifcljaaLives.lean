/- The chapter's example: the law's own fixed answer. -/
import Derived.Test.YtdldjpgbifcljaaFill
namespace Go.Proofs.Ytdldjpgbifcljaa
open Go.RowKit

section
variable {w : World} {g : Nat} {F : List Nat} {m : Dsk}
theorem Dk.start (h : Dk w g F m) : Calls Try.prog 22 #[.pointer (some ⟨g, 0, none⟩)] w fun e w' => e = .returned (.tuple #[]) ∧ Went F g (startM m) w w' := by
  obtain ⟨bO, cO, bL, cL, vW, os, ls, ws, h, rfl⟩ := h
  by_cases hd : m.down = true
  · exact start_down h hd
  · rw [show startM m = m by unfold startM; rw [if_neg hd]]
    refine (start_up h (by simpa using hd)).mono ?_
    rintro e w' ⟨rfl, rfl⟩
    exact ⟨rfl, Went.refl h.went⟩
theorem Dk.fail (h : Dk w g F m) (hl : m.row.length ≤ 4611686018427387904) (p : Option Addr) (nk ck : Nat) (f : Nat → Bool) (hK : Kp w p nk f) (hO : 0 < nk → Off F p) (hnk : nk ≤ 9223372036854775807) (torn at_ : Int) :
    Calls Try.prog 21 #[.pointer (some ⟨g, 0, none⟩), .slice p nk ck, .int .i64 torn, .int .i64 at_] w fun e w' => e = .returned (.tuple #[]) ∧ Went F g (failM m (keepB nk f) torn at_) w w' := by
  obtain ⟨bO, cO, bL, cL, vW, os, ls, ws, h, rfl⟩ := h
  exact fail_any h hl p nk ck f hK hO hnk torn at_
theorem Dk.fuse (h : Dk w g F m) (n : Int) (h0 : -9223372036854775808 ≤ n) (h1 : n ≤ 9223372036854775807) :
    Calls Try.prog 26 #[.pointer (some ⟨g, 0, none⟩), .int .i64 n] w fun e w' => e = .returned (.tuple #[]) ∧ Went F g (fuseM m n) w w' := by
  obtain ⟨bO, cO, bL, cL, vW, os, ls, ws, h, rfl⟩ := h
  refine (fuse_any h n h0 h1).mono ?_
  rintro e w' ⟨rfl, hs⟩
  exact ⟨rfl, _, hs.1.went, hs.2⟩
theorem Dk.read (h : Dk w g F m) (i : Int) : Calls Try.prog 16 #[.pointer (some ⟨g, 0, none⟩), .int .i64 i] w fun e w' => e = .returned (.tuple #[.string (strB (readS m i)), .int .i64 (readE m i)]) ∧ w = w' := by
  obtain ⟨bO, cO, bL, cL, vW, os, ls, ws, h, rfl⟩ := h
  exact read_any h i
theorem Dk.down (h : Dk w g F m) : Calls Try.prog 18 #[.pointer (some ⟨g, 0, none⟩)] w fun e w' => e = .returned (.bool m.down) ∧ w = w' := by
  obtain ⟨bO, cO, bL, cL, vW, os, ls, ws, h, rfl⟩ := h
  exact down_any h
theorem Dk.done (h : Dk w g F m) : Calls Try.prog 27 #[.pointer (some ⟨g, 0, none⟩)] w fun e w' => e = .returned (.int .i64 (m.done : Int)) ∧ w = w' := by
  obtain ⟨bO, cO, bL, cL, vW, os, ls, ws, h, rfl⟩ := h
  exact done_any h
theorem Dk.sectors (h : Dk w g F m) (n : Nat) (hn : Hid (m.out.length = n)) : Calls Try.prog 11 #[.pointer (some ⟨g, 0, none⟩)] w fun e w' => e = .returned (.int .i64 (n : Int)) ∧ w = w' := by
  obtain ⟨bO, cO, bL, cL, vW, os, ls, ws, h, rfl⟩ := h
  exact sectors_any h n hn
theorem Dk.out_ (h : Dk w g F m) (i : Int) : Calls Try.prog 25 #[.pointer (some ⟨g, 0, none⟩), .int .i64 i] w fun e w' => e = .returned (.string (strB (outS m i))) ∧ w = w' := by
  obtain ⟨bO, cO, bL, cL, vW, os, ls, ws, h, rfl⟩ := h
  by_cases hh : m.has i = true
  · have h0 := hh
    unfold Dsk.has at h0
    simp only [Bool.and_eq_true, decide_eq_true_eq] at h0
    obtain ⟨k, rfl⟩ := Int.eq_ofNat_of_zero_le h0.1
    rw [show outS m (k : Int) = sec m.out k by unfold outS; rw [if_pos hh]; rfl]
    exact out_good h k (by omega)
  · have hf : m.has i = false := by simpa using hh
    rw [show outS m i = [] by unfold outS; rw [if_neg hh]]
    exact out_bad h i hf
end
/-- The disk of the example, step by step. -/
def liveS : List Nat := List.replicate 128 7
def live1 : Dsk := putM (newM 1) 0 liveS
def live2 : Dsk := failM live1 (keepB 1 fun _ => true) 0 1
def live3 : Dsk := startM live2
def liveR : List Nat := 7 :: List.replicate 127 0
theorem live_put : putE (newM 1) 0 liveS = 0 := by kernel_rfl
theorem live_row : live1.row.length = 1 := by kernel_rfl
theorem live_readE : readE live3 0 = 0 := by kernel_rfl
theorem live_readS : readS live3 0 = liveR := by kernel_rfl
theorem byte_at {S : ByteArray} {k : Nat} {b : UInt8} (h : S.data[k]? = some b) (hk : k < S.size) : S[k]'hk = b := by
  obtain ⟨_, e⟩ := Array.getElem?_eq_some_iff.1 h
  exact e
theorem liveR_size : (strB liveR).size = 128 := strB_size _
theorem fill7 : fillS ⟨0, 0, 0, 0, 0, 7, none, 0, 0, fun _ => false⟩ = liveS := rfl

set_option maxHeartbeats 1600000 in
theorem lives_any (w : World) : Calls Try.prog 9 #[] w fun e w' => e = .returned (.bool true) ∧ Below w.heap.size w w' := by
  go_enter Try.func9, Try.ntmps9
  go_wp2_with fail
  refine (new_any 1 _ (by omega) (by omega)).mono ?_
  rintro e w1 ⟨g, F, rfl, hD, hF, hb⟩
  have HD := Lib.hid hD
  have HF := Lib.hid hF
  have HB := Lib.hid hb
  clear hD hF hb
  go_wp2_with fail
  refine (filled_any ⟨0, 0, 0, 0, 0, 7, none, 0, 0, fun _ => false⟩ _ ⟨⟨by decide, by decide⟩, ⟨by decide, by decide⟩, ⟨by decide, by decide⟩, ⟨by decide, by decide⟩, ⟨by decide, by decide⟩, by decide, by decide⟩).mono ?_
  rintro e w2 ⟨rfl, hb⟩
  rw [fill7]
  have HD2 := Lib.hid (HD.out.below hb)
  have HB2 := Lib.hid (HB.out.trans (hb.mono HB.out.size))
  clear hb HD HB
  go_wp2_with fail
  have hp := put_any HD2.out 0 liveS (fun d hd => by obtain rfl := (List.mem_replicate.1 hd).2; omega) (by show 0 ≤ _; omega) (by show 0 ≤ _; omega)
  rw [live_put, show putM (newM 1) 0 liveS = live1 from rfl] at hp
  refine hp.mono ?_
  rintro e w3 ⟨rfl, F2, hD, hC⟩
  have HD3 := Lib.hid hD
  have HB3 := Lib.hid (hC.below HB2.out HB2.out.size HF.out)
  have HF3 := Lib.hid (hC.high HB2.out.size HF.out)
  clear hp hD hC HD2 HB2 HF
  have HB4 : Hid (Below w.heap.size w (w3.alloc (.cells #[.bool true] 4))) := Lib.hid (HB3.out.alloc HB3.out.size _)
  have HD4 : Hid (Dk (w3.alloc (.cells #[.bool true] 4)) g F2 live1) := Lib.hid (HD3.out.below ((Below.refl _ _).alloc (Nat.le_refl _) _))
  have HK4 : Hid (Kp (w3.alloc (.cells #[.bool true] 4)) (some ⟨w3.heap.size, 0, none⟩) 1 fun _ => true) := Lib.hid (fun _ => ⟨_, 0, rfl, fun r hr => by
    obtain rfl : r = 0 := by omega
    exact World.cell?_alloc_new w3 _ _ 0⟩)
  have HO4 : Hid (Off F2 (some ⟨w3.heap.size, 0, none⟩)) := Lib.hid (fun b o e hm => by
    cases e
    exact absurd (HD3.out.lt _ hm) (Nat.lt_irrefl _))
  go_wp2_with fail
  refine (HD4.out.fail (by rw [live_row]; omega) (some ⟨w3.heap.size, 0, none⟩) 1 1 _ HK4.out (fun _ => HO4.out) (by omega) 0 1).mono ?_
  rintro e w5 ⟨rfl, F3, hD, hC⟩
  have HD5 : Hid (Dk w5 g F3 live2) := Lib.hid hD
  have HB5 := Lib.hid (hC.below HB4.out HB4.out.size HF3.out)
  have HF5 := Lib.hid (hC.high HB4.out.size HF3.out)
  clear hD hC HD4 HB4 HK4 HO4 HD3 HB3 HF3
  go_wp2_with fail
  refine HD5.out.start.mono ?_
  rintro e w6 ⟨rfl, F4, hD, hC⟩
  have HD6 : Hid (Dk w6 g F4 live3) := Lib.hid hD
  have HB6 := Lib.hid (hC.below HB5.out HB5.out.size HF5.out)
  clear hD hC HD5 HB5 HF5
  have hr := HD6.out.read 0
  rw [live_readE, live_readS] at hr
  have HR := Lib.hid hr
  clear hr
  have hsz : (strB liveR).size = 128 := liveR_size
  have h0 : (strB liveR).data[0]? = some 7 := strB_get liveR 0 (by simp [liveR])
  have h1 : (strB liveR).data[1]? = some 0 := strB_get liveR 1 (by simp [liveR])
  generalize strB liveR = S at *
  have q0 : S[0]'(by omega) = 7 := byte_at h0 _
  have q1 : S[1]'(by omega) = 0 := byte_at h1 _
  clear h0 h1
  go_wp2_with fail
  refine HR.out.mono ?_
  rintro e w7 ⟨rfl, rfl⟩
  go_wp2_with fail
  go_ret
  exact ⟨rfl, HB6.out⟩
end Go.Proofs.Ytdldjpgbifcljaa
