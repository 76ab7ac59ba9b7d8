/- What numberBytes, doubled and halved return. -/
import Derived.Test.YtpdihgmgcamgkaaBytes
namespace Go.Proofs.Ytpdihgmgcamgkaa
open Go.RowKit

theorem or_mod (m : Nat) : 128 ||| m % 256 = m % 128 + 128 := by
  have h : m % 128 < 2 ^ 7 := Nat.mod_lt _ (by decide)
  have h1 : 128 + m % 128 = 128 ||| m % 128 := by simpa using Nat.two_pow_add_eq_or_of_lt (i := 7) h 1
  rcases (show m % 256 = m % 128 ∨ m % 256 = m % 128 + 128 by omega) with e | e
  · rw [e, ← h1, Nat.add_comm]
  · rw [e, Nat.add_comm, h1, ← Nat.or_assoc, Nat.or_self]

structure NbRel (w wr : World) (p : Option Addr) (k c m n : Nat) (acc : List Nat) : Prop where
  below : Below w.heap.size w wr
  row : wr.ownsRow w.heap.size 5 1 (.slice p k c) k (u8s acc)
  fits : acc ++ numB m = numB n
  len : acc.length = k
  lt : m < 18446744073709551616
theorem NbRel.small {w wr : World} {p : Option Addr} {k c m n : Nat} {acc : List Nat} (h : NbRel w wr p k c m n acc) (hn : n < 18446744073709551616) : k ≤ 10 := by
  have h1 := congrArg List.length h.fits
  have h2 := numB_ten hn
  rw [List.length_append, h.len] at h1
  omega
theorem NbRel.last {w wr w2 : World} {p p2 : Option Addr} {k c c2 m n : Nat} {acc : List Nat} (h : NbRel w wr p k c m n acc) (hm : m < 128)
    (o : Obj) (hown : w2.ownsRow w.heap.size 5 1 (.slice p2 (k + 1) c2) (k + 1) (u8s acc ++ [.int .u8 (m : Int)])) (hg : (wr.alloc o).grownBy w2 (Value.slice p k c).ownBlock) :
    (numB n).length = k + 1 ∧ w2.ownsRow w.heap.size 5 1 (.slice p2 (k + 1) c2) (k + 1) (u8s (numB n)) ∧ Below w.heap.size w w2 := by
  have e : numB n = acc ++ [m] := by rw [← h.fits, numB_lo hm]
  exact ⟨by rw [e, List.length_append, h.len]; rfl, by rw [e, u8s_append]; exact hown, (h.below.alloc h.below.size _).grown hg (by have := h.below.size; simp; omega) (fun j e => (h.row.lt j e).1)⟩
theorem NbRel.next {w wr w2 : World} {p p2 : Option Addr} {k c c2 m n x : Nat} {acc : List Nat} (h : NbRel w wr p k c m n acc) (hm : ¬ m < 128) (hx : x = m % 128 + 128)
    (o : Obj) (hown : w2.ownsRow w.heap.size 5 1 (.slice p2 (k + 1) c2) (k + 1) (u8s acc ++ [.int .u8 (x : Int)])) (hg : (wr.alloc o).grownBy w2 (Value.slice p k c).ownBlock) : NbRel w w2 p2 (k + 1) c2 (m / 128) n (acc ++ [x]) :=
  ⟨(h.below.alloc h.below.size _).grown hg (by have := h.below.size; simp; omega) (fun j e => (h.row.lt j e).1), by rw [u8s_append]; exact hown, by rw [← h.fits, numB_hi hm, hx, List.append_assoc]; rfl, by rw [List.length_append, h.len]; rfl, by have := h.lt; omega⟩

set_option maxHeartbeats 800000 in
theorem numberBytes_any (n : Nat) (w : World) (hn : n < 18446744073709551616) :
    Calls Try.prog 44 #[.int .u64 n] w fun e w' => ∃ p c, e = .returned (.slice p (numB n).length c) ∧ w'.ownsRow w.heap.size 5 1 (.slice p (numB n).length c) (numB n).length (u8s (numB n)) ∧ Below w.heap.size w w' := by
  obtain ⟨i0, hi, hz0, hz1, hz2⟩ := info_parts Try.info5
  have HI := Lib.hid hi
  have HZ0 := Lib.hid hz0
  have HZ1 := Lib.hid hz1
  have HZ2 := Lib.hid hz2
  clear hi hz0 hz1 hz2
  have H0 : Hid (NbRel w w none 0 0 n n []) := Lib.hid ⟨Below.refl _ _, World.ownsRow_nil _ _ _ _, rfl, rfl, hn⟩
  go_enter Try.func44, Try.ntmps44
  go_wp2_with fail
  go_loopw [0, 3] (fun nv bv wr => ∃ (k c m : Nat) (p : Option Addr) (acc : List Nat), nv = .int .u64 (m : Int) ∧ bv = .slice p k c ∧ NbRel w wr p k c m n acc) (fun nv _ _ => (intOf nv).toNat)
  case atStart => exact ⟨0, 0, n, none, [], rfl, rfl, H0.out⟩
  case round =>
    obtain ⟨k, c, m, p, acc, rfl, rfl, hr⟩ := hrel
    have hk := hr.small hn
    have hlt := hr.lt
    have hsz := hr.below.size
    have HR := Lib.hid hr
    clear hr H0
    by_cases hm : m < 128
    · have hd : decide ((128 : Int) ≤ (m : Int)) = false := decide_eq_false (by omega)
      have hw8 : IntKind.u8.wrap (m : Int) = (m : Int) := by rw [IntKind.wrap_u8']; omega
      have hown := HR.out.row
      go_wp2_with (at_builtin; refine wpList_append_own _ rfl _ _ 42 rfl w.heap.size 5 i0 (.int .u8 0) 1 1 Try.underlying42 HI.out HZ0.out HZ1.out HZ2.out rfl (by decide) _ _ _ rfl (hown.alloc _) ⟨wr.heap.size, 0, none⟩ 1 1 [.int .u8 (m : Int)] rfl rfl (one_cells _ _ _) ?c2 ?c3 ?c4 ?c5 ?_)
      case c2 => exact one_u8 _
      case c3 => unfold maxLen; omega
      case c4 => omega
      case c5 => simp; omega
      intro v' w1 hown' hgrow _
      obtain ⟨p2, c2, rfl⟩ := own_slice hown'
      have HL := Lib.hid (HR.out.last hm _ hown' hgrow)
      clear hown' hgrow hown HR
      go_wp2_with fail
      go_ret
      exact ⟨p2, c2, (by rw [HL.out.1]; rfl), (by rw [HL.out.1]; exact HL.out.2.1), HL.out.2.2⟩
    · have hd : decide ((128 : Int) ≤ (m : Int)) = true := decide_eq_true (by omega)
      have hw8 : IntKind.u8.wrap (m : Int) = ((m % 256 : Nat) : Int) := by rw [IntKind.wrap_u8']; omega
      have hor : bits .or .u8 128 ((m % 256 : Nat) : Int) = ((m % 128 + 128 : Nat) : Int) := (u8_or_nat 128 (m % 256) (by omega) (by omega)).trans (by rw [or_mod])
      have HX := Lib.hid hor
      clear hor
      obtain ⟨X, hX⟩ : ∃ X, Hid (m % 128 + 128 = X) := ⟨_, rfl⟩
      have hor := HX.out
      rw [hX.out] at hor
      clear HX
      generalize m % 256 = y at hw8 hor
      have hown := HR.out.row
      go_wp2_with (at_builtin; refine wpList_append_own _ rfl _ _ 42 rfl w.heap.size 5 i0 (.int .u8 0) 1 1 Try.underlying42 HI.out HZ0.out HZ1.out HZ2.out rfl (by decide) _ _ _ rfl (hown.alloc _) ⟨wr.heap.size, 0, none⟩ 1 1 [.int .u8 (X : Int)] rfl rfl (one_cells _ _ _) ?c2 ?c3 ?c4 ?c5 ?_)
      case c2 => exact one_u8 _
      case c3 => unfold maxLen; omega
      case c4 => omega
      case c5 => simp; omega
      intro v' w1 hown' hgrow _
      obtain ⟨p2, c2, rfl⟩ := own_slice hown'
      have HN := Lib.hid (HR.out.next hm hX.out.symm _ hown' hgrow)
      clear hown' hgrow hown HR hor hw8
      go_wp2_with fail
      go_roundw
      case rel => exact ⟨k + 1, c2, m / 128, p2, _, by go_num, rfl, HN.out⟩
      case measure => simp [intOf]; omega

theorem wrap_u64 (n : Int) : IntKind.u64.wrap n = n % 18446744073709551616 := by simp [IntKind.wrap, IntKind.bits, IntKind.signed]
theorem not_i64 (n : Int) (h0 : -9223372036854775808 ≤ n) (h1 : n ≤ 9223372036854775807) : bits .xor .i64 (-1) n = -n - 1 := by
  show IntKind.i64.wrap ((BitVec.ofInt 64 (-1) ^^^ BitVec.ofInt 64 n).toNat : Int) = _
  have e : BitVec.ofInt 64 (-1) = BitVec.allOnes 64 := by decide
  have h : ((BitVec.ofInt 64 n).toNat : Int) = n % 18446744073709551616 := by
    rw [BitVec.toNat_ofInt]; omega
  rw [e, BitVec.allOnes_xor, BitVec.toNat_not, IntKind.wrap_i64]
  have hl := (BitVec.ofInt 64 n).isLt
  generalize (BitVec.ofInt 64 n).toNat = x at *
  omega
theorem ret_u64 {a b : Int} (h : a = b) : Ending.returned (.int .u64 a) = .returned (.int .u64 b) := by rw [h]
theorem ret_i64 {a b : Int} (h : a = b) : Ending.returned (.int .i64 a) = .returned (.int .i64 b) := by rw [h]
set_option maxHeartbeats 400000 in
theorem doubled_any (n : Int) (w : World) (h0 : -9223372036854775808 ≤ n) (h1 : n ≤ 9223372036854775807) :
    Calls Try.prog 57 #[.int .i64 n] w fun e w' => e = .returned (.int .u64 (zig n : Nat)) ∧ w = w' := by
  by_cases hn : n < 0
  · have HZ : Hid ((zig n : Int) = 2 * (-n - 1) + 1) := Lib.hid (by rw [zig_neg hn]; omega)
    have hx := not_i64 n h0 h1
    obtain ⟨k, hk⟩ : ∃ k : Int, Hid (-n - 1 = k) := ⟨_, rfl⟩
    have hk0 : 0 ≤ k := by have := hk.out; omega
    have hk1 : k < 9223372036854775808 := by have := hk.out; omega
    rw [hk.out] at hx HZ
    go_enter Try.func57, Try.ntmps57
    go_wp2_with fail
    go_ret
    exact ⟨ret_u64 (by have := HZ.out; simp only [wrap_u64]; omega), rfl⟩
  · have HZ : Hid ((zig n : Int) = 2 * n) := Lib.hid (by rw [zig_pos hn]; omega)
    go_enter Try.func57, Try.ntmps57
    go_wp2_with fail
    go_ret
    exact ⟨ret_u64 HZ.out.symm, rfl⟩

set_option maxHeartbeats 400000 in
theorem halved_any (m : Nat) (w : World) (h : m < 18446744073709551616) :
    Calls Try.prog 62 #[.int .u64 (m : Int)] w fun e w' => e = .returned (.int .i64 (zag m)) ∧ w = w' := by
  by_cases hm : m % 2 = 1
  · have HZ : Hid (zag m = -((m / 2 : Nat) : Int) - 1) := Lib.hid (if_pos hm)
    have hb : ((m : Int) % 2 == 1) = true := by rw [beq_iff_eq]; omega
    have hx := not_i64 ((m : Int) / 2) (by omega) (by omega)
    clear hm
    go_enter Try.func62, Try.ntmps62
    go_wp2_with fail
    go_ret
    exact ⟨ret_i64 (by rw [HZ.out]; omega), rfl⟩
  · have HZ : Hid (zag m = ((m / 2 : Nat) : Int)) := Lib.hid (if_neg hm)
    have hb : ((m : Int) % 2 == 1) = false := by rw [beq_eq_false_iff_ne]; omega
    clear hm
    go_enter Try.func62, Try.ntmps62
    go_wp2_with fail
    go_ret
    exact ⟨ret_i64 (by rw [HZ.out]; omega), rfl⟩
end Go.Proofs.Ytpdihgmgcamgkaa
