/- What a reader's Count, Whole and Sized return, and what they leave. -/
import Derived.Test.YtpdihgmgcamgkaaFind3
set_option maxRecDepth 20000
namespace Go.Proofs.Ytpdihgmgcamgkaa
open Go.RowKit

theorem find63 (g d N k : Nat) (f : Int) (bs rest : List Nat) (w : World) (h : Rd w g d bs f) (hl : bs.length ≤ 1099511627776) (hb : Hid (bs = numB N ++ rest)) (hN : N < 9223372036854775808) (hk : Hid ((numB N).length = k)) :
    Calls Try.prog 61 #[.pointer (some ⟨g, 0, none⟩), .int .i64 63] w fun e w' => e = .returned (.tuple #[.int .u64 (N : Int), .int .i64 (k : Int), .int .i64 0]) ∧ Below w.heap.size w w' := by
  rw [← hk.out]; exact find_hit g d N 63 f bs rest w h hl hb.out (.inl rfl) hN
theorem find64 (g d N k : Nat) (f : Int) (bs rest : List Nat) (w : World) (h : Rd w g d bs f) (hl : bs.length ≤ 1099511627776) (hb : Hid (bs = numB N ++ rest)) (hN : N < 18446744073709551616) (hk : Hid ((numB N).length = k)) :
    Calls Try.prog 61 #[.pointer (some ⟨g, 0, none⟩), .int .i64 64] w fun e w' => e = .returned (.tuple #[.int .u64 (N : Int), .int .i64 (k : Int), .int .i64 0]) ∧ Below w.heap.size w w' := by
  rw [← hk.out]; exact find_hit g d N 64 f bs rest w h hl hb.out (.inr rfl) hN

set_option maxHeartbeats 400000 in
theorem fcount_hit (g d N k : Nat) (f most : Int) (bs rest : List Nat) (w : World) (HR : Hid (Rd w g d bs f)) (hl : bs.length ≤ 1099511627776) (HB : Hid (bs = numB N ++ rest)) (hN : N < 9223372036854775808) (h0 : (N : Int) ≤ most) (h1 : most ≤ 9223372036854775807) (HK : Hid ((numB N).length = k)) :
    Calls Try.prog 51 #[.pointer (some ⟨g, 0, none⟩), .int .i64 most] w fun e w' => e = .returned (.tuple #[.int .i64 (N : Int), .int .i64 (k : Int), .int .i64 0]) ∧ Below w.heap.size w w' := by
  have hd : decide (most < 0) = false := decide_eq_false (by omega)
  have hd2 : decide (most < (N : Int)) = false := decide_eq_false (by omega)
  go_enter Try.func51, Try.ntmps51
  go_wp2_with fail
  refine (find63 g d N k f bs rest _ HR.out hl HB hN HK).mono ?_
  rintro e w1 ⟨rfl, hb⟩
  have HZ := Lib.hid hb
  clear hb
  go_wp2_with fail
  go_ret3
  exact ⟨rfl, HZ.out⟩

set_option maxHeartbeats 400000 in
theorem fcount_none (g d : Nat) (f most : Int) (bs : List Nat) (w : World) (h : Rd w g d bs f) (hl : bs.length ≤ 1099511627776) (hg : Goes bs bs.length) (h0 : 0 ≤ most) (h1 : most ≤ 9223372036854775807) :
    Calls Try.prog 51 #[.pointer (some ⟨g, 0, none⟩), .int .i64 most] w fun e w' => e = .returned (.tuple #[.int .i64 0, .int .i64 0, .int .i64 3]) ∧ Below w.heap.size w w' := by
  have HR := Lib.hid h
  have HG := Lib.hid hg
  clear h hg
  have hd : decide (most < 0) = false := decide_eq_false (by omega)
  go_enter Try.func51, Try.ntmps51
  go_wp2_with fail
  refine (find_none g d bs f 63 _ HR.out hl HG.out).mono ?_
  rintro e w1 ⟨rfl, hb⟩
  have HZ := Lib.hid hb
  clear hb
  go_wp2_with fail
  go_ret3
  exact ⟨rfl, HZ.out⟩
/-- A reader is another one's place: it has gone past, or it is at fault; nothing else has changed. -/
structure Went (w w' : World) (g d : Nat) (bs : List Nat) (f : Int) : Prop where
  rd : Rd w' g d bs f
  only : Only g w w'

set_option maxHeartbeats 400000 in
theorem count_hit (g d N k : Nat) (most : Int) (bs rest : List Nat) (w : World) (HR : Hid (Rd w g d bs 0)) (hl : bs.length ≤ 1099511627776) (HB : Hid (bs = numB N ++ rest)) (hN : N < 9223372036854775808) (h0 : (N : Int) ≤ most) (h1 : most ≤ 9223372036854775807) (HK : Hid ((numB N).length = k)) :
    Calls Try.prog 32 #[.pointer (some ⟨g, 0, none⟩), .int .i64 most] w fun e w' => e = .returned (.int .i64 (N : Int)) ∧ Went w w' g d rest 0 := by
  go_enter Try.func32, Try.ntmps32
  go_wp2_with fail
  refine (fault_any g d bs 0 _ HR.out).mono ?_
  rintro e w1 ⟨rfl, rfl⟩
  go_wp2_with fail
  refine (fcount_hit g d N k 0 most bs rest _ HR hl HB hN h0 h1 HK).mono ?_
  rintro e w1 ⟨rfl, hb⟩
  have HZ := Lib.hid hb
  clear hb
  go_wp2_with fail
  refine (pass_ok g d bs 0 k _ (HR.out.below HZ.out) (by rw [HB.out, List.length_append, HK.out]; omega)).mono ?_
  rintro e w2 ⟨rfl, hr, ho⟩
  have HR2 : Hid (Rd w2 g d rest 0) := Lib.hid (by have := hr; rw [HB.out, ← HK.out, List.drop_left] at this; exact this)
  have HO := Lib.hid ((Only.of_below HZ.out).trans ho)
  clear hr ho
  go_wp2_with fail
  go_ret
  exact ⟨rfl, HR2.out, HO.out⟩

set_option maxHeartbeats 400000 in
theorem count_none (g d : Nat) (most : Int) (bs : List Nat) (w : World) (HR : Hid (Rd w g d bs 0)) (hl : bs.length ≤ 1099511627776) (HG : Hid (Goes bs bs.length)) (h0 : 0 ≤ most) (h1 : most ≤ 9223372036854775807) :
    Calls Try.prog 32 #[.pointer (some ⟨g, 0, none⟩), .int .i64 most] w fun e w' => e = .returned (.int .i64 0) ∧ Went w w' g d bs 3 := by
  go_enter Try.func32, Try.ntmps32
  go_wp2_with fail
  refine (fault_any g d bs 0 _ HR.out).mono ?_
  rintro e w1 ⟨rfl, rfl⟩
  go_wp2_with fail
  refine (fcount_none g d 0 most bs _ HR.out hl HG.out h0 h1).mono ?_
  rintro e w1 ⟨rfl, hb⟩
  have HZ := Lib.hid hb
  clear hb
  go_wp2_with fail
  refine (pass_fault g d bs 0 3 0 _ (HR.out.below HZ.out) rfl).mono ?_
  rintro e w2 ⟨rfl, hr, ho⟩
  have HR2 := Lib.hid hr
  have HO := Lib.hid ((Only.of_below HZ.out).trans ho)
  clear hr ho
  go_wp2_with fail
  go_ret
  exact ⟨rfl, HR2.out, HO.out⟩

set_option maxHeartbeats 400000 in
theorem whole_hit (g d N k : Nat) (bs rest : List Nat) (w : World) (HR : Hid (Rd w g d bs 0)) (hl : bs.length ≤ 1099511627776) (HB : Hid (bs = numB N ++ rest)) (hN : N < 18446744073709551616) (HK : Hid ((numB N).length = k)) :
    Calls Try.prog 52 #[.pointer (some ⟨g, 0, none⟩)] w fun e w' => e = .returned (.int .i64 (zag N)) ∧ Went w w' g d rest 0 := by
  go_enter Try.func52, Try.ntmps52
  go_wp2_with fail
  refine (fault_any g d bs 0 _ HR.out).mono ?_
  rintro e w1 ⟨rfl, rfl⟩
  go_wp2_with fail
  refine (find64 g d N k 0 bs rest _ HR.out hl HB hN HK).mono ?_
  rintro e w1 ⟨rfl, hb⟩
  have HZ := Lib.hid hb
  clear hb
  go_wp2_with fail
  refine (pass_ok g d bs 0 k _ (HR.out.below HZ.out) (by rw [HB.out, List.length_append, HK.out]; omega)).mono ?_
  rintro e w2 ⟨rfl, hr, ho⟩
  have HR2 : Hid (Rd w2 g d rest 0) := Lib.hid (by have := hr; rw [HB.out, ← HK.out, List.drop_left] at this; exact this)
  have HO := Lib.hid ((Only.of_below HZ.out).trans ho)
  clear hr ho
  go_wp2_with fail
  refine (halved_any N _ hN).mono ?_
  rintro e w3 ⟨rfl, rfl⟩
  go_wp2_with fail
  go_ret
  exact ⟨rfl, HR2.out, HO.out⟩

set_option maxHeartbeats 400000 in
theorem whole_none (g d : Nat) (bs : List Nat) (w : World) (HR : Hid (Rd w g d bs 0)) (hl : bs.length ≤ 1099511627776) (HG : Hid (Goes bs bs.length)) :
    Calls Try.prog 52 #[.pointer (some ⟨g, 0, none⟩)] w fun e w' => (∃ z, e = .returned (.int .i64 z)) ∧ Went w w' g d bs 3 := by
  go_enter Try.func52, Try.ntmps52
  go_wp2_with fail
  refine (fault_any g d bs 0 _ HR.out).mono ?_
  rintro e w1 ⟨rfl, rfl⟩
  go_wp2_with fail
  refine (find_none g d bs 0 64 _ HR.out hl HG.out).mono ?_
  rintro e w1 ⟨rfl, hb⟩
  have HZ := Lib.hid hb
  clear hb
  go_wp2_with fail
  refine (pass_fault g d bs 0 3 0 _ (HR.out.below HZ.out) rfl).mono ?_
  rintro e w2 ⟨rfl, hr, ho⟩
  have HR2 := Lib.hid hr
  have HO := Lib.hid ((Only.of_below HZ.out).trans ho)
  clear hr ho
  go_wp2_with fail
  refine (halved_any 0 _ (by omega)).mono ?_
  rintro e w3 ⟨rfl, rfl⟩
  go_wp2_with fail
  go_ret
  exact ⟨⟨_, rfl⟩, HR2.out, HO.out⟩
end Go.Proofs.Ytpdihgmgcamgkaa
