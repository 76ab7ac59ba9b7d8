/- The document's Room: by trying each length. -/
import Derived.Test.YtldkmkgkllgckaaRef3
set_option linter.unusedSimpArgs false
namespace Go.Proofs.Ytldkmkgkllgckaa
open Go.RowKit

section
variable {w : World} {v : Value} {l : List Sl}
theorem room_ge (l : List Sl) : -1 ≤ room l := by unfold room; split <;> omega
set_option maxHeartbeats 800000 in
theorem rroom_any (h : Rf w v l) (ho : Okp l) : Calls Try.prog 11 #[v] w fun e w' => e = .returned (.int .i64 (room l)) ∧ Below w.heap.size w w' := by
  have HA : Hid (∀ w1, Below w.heap.size w w1 → ∀ n : Nat, n ≤ 480 → ∀ S : ByteArray, S.size = n → Calls Try.prog 26 #[v, .string S] w1 fun e w' => (∃ v' k, e = .returned (.tuple #[v', .int .i64 (k : Int), .int .i64 (if room l < (n : Int) then 8 else 0)])) ∧ Below w1.heap.size w1 w') := Lib.hid (fun w1 hb n hn S hS => by
    refine (radd_any (h.below hb) ho S (by omega)).mono ?_
    rintro e w' ⟨⟨v', rfl, _⟩, hb⟩
    refine ⟨⟨v', ((addN l S : Nat) : Int), ?_⟩, hb⟩
    have hf := room_full ho.len S (by omega)
    rw [hS] at hf
    have : (addE l S : Int) = if room l < (n : Int) then 8 else 0 := by
      unfold addE
      rw [if_neg (by omega), hf]
      by_cases hc : room l < (n : Int)
      · rw [decide_eq_true hc, if_pos rfl, if_pos hc]; rfl
      · rw [decide_eq_false hc, if_neg Bool.false_ne_true, if_neg hc]; rfl
    rw [this])
  obtain ⟨i0, hi, hz0, hz1, hz2⟩ := info_parts Try.info5
  have HI := Lib.hid hi
  have HZ0 := Lib.hid hz0
  have HZ1 := Lib.hid hz1
  have HZ2 := Lib.hid hz2
  clear hi hz0 hz1 hz2 h ho
  have HR0 := Lib.hid (room_ge l)
  have HR1 := Lib.hid (roomM_le l)
  generalize room l = x at *
  go_enter Try.func11, Try.ntmps11
  go_wp2_with fail
  go_loopw [3, 4] (fun bv nv wr => ∃ n : Nat, n ≤ 481 ∧ nv = .int .i64 (n : Int) ∧ bv = .int .i64 ((n : Int) - 1) ∧ Hid ((n : Int) - 1 ≤ x) ∧ Hid (Below w.heap.size w wr)) (fun _ nv _ => 481 - (intOf nv).toNat)
  case atStart => exact ⟨0, by omega, by go_num, by simp, HR0, Lib.hid (Below.refl _ _)⟩
  case round =>
    obtain ⟨n, hn, rfl, rfl, hx, hb⟩ := hrel
    by_cases hlt : n ≤ 480
    · have hd : decide ((n : Int) ≤ 480) = true := by simp; omega
      have H63 : Hid (n ≤ maxLen) := Lib.hid (by unfold maxLen; omega)
      have HBY : Hid (i0.bytes * n ≤ 281474976710656) := Lib.hid (by rw [HZ2.out]; omega)
      have HBS : Hid (w.heap.size ≤ wr.heap.size) := Lib.hid hb.out.size
      go_wp2_with (refine wpList_make_full _ rfl _ _ 62 rfl w.heap.size 5 i0 (.int .u8 0) 1 Try.underlying62 HI.out HZ0.out HZ1.out .i64 .i64 _ _ n rfl rfl rfl rfl HBY.out H63.out HBS.out ?_; intro w1 hown hgrow; have HB1 := Lib.hid (hb.out.grown hgrow HBS.out (fun k e => by cases e)); have hz := zeros_of n; simp only [Value.cells, Nat.mul_one] at hown; rw [hz] at hown; have hconv := (Bys.of_row hown (fun d hd => by obtain rfl := (List.mem_replicate.1 hd).2; omega)).conv n; obtain ⟨S, HS⟩ : ∃ S, Hid (S = strB (List.replicate n 0)) := ⟨_, Lib.hid rfl⟩; rw [← HS.out] at hconv; clear hown hgrow hz)
      refine (HA.out _ HB1.out n hlt S (by rw [HS.out, strB_size, List.length_replicate])).mono ?_
      rintro e w2 ⟨⟨v', k, rfl⟩, hb2⟩
      have HB2 := Lib.hid (HB1.out.trans (hb2.mono HB1.out.size))
      clear hb2 hconv HB1 hb HBS
      by_cases hc : x < (n : Int)
      · rw [if_pos hc]
        have HC := Lib.hid hc
        clear hc
        go_wp2_with fail
        go_ret
        refine ⟨?_, HB2.out⟩
        exact congrArg (fun z : Int => Ending.returned (Value.int IntKind.i64 z)) (by have := hx.out; have := HC.out; omega)
      · rw [if_neg hc]
        have HC := Lib.hid hc
        clear hc
        go_wp2_with fail
        go_roundw
        case rel => exact ⟨n + 1, by omega, by go_num, by congr 1; omega, Lib.hid (by have := HC.out; omega), HB2⟩
        case measure => simp [intOf]; omega
    · obtain rfl : n = 481 := by omega
      have hd : decide (((481 : Nat) : Int) ≤ 480) = false := by decide
      go_wp2_with fail
      go_ret
      refine ⟨?_, hb.out⟩
      exact congrArg (fun z : Int => Ending.returned (Value.int IntKind.i64 z)) (by have := hx.out; have := HR1.out; omega)
end
end Go.Proofs.Ytldkmkgkllgckaa
