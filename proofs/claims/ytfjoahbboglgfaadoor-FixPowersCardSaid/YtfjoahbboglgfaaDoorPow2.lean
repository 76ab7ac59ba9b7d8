/- The text of a number to the bases 2, 4, 8 and 16, as the library makes it by shifts. -/
import Derived.Test.YtfjoahbboglgfaaDoorBits
import Derived.Lib.LaidTab
namespace Go.Proofs.YtfjoahbboglgfaaDoor
open Go.RowKit

/-- What the tables of the library hold that are looked into. -/
structure Tabs (w : World) : Prop where
  pow : Lib.TabIs Tryd.prog w "internal/strconv.uint64pow10" .u64 Lib.pow10Tab
  t1 : w.cell? ⟨2, 1, none⟩ = some (.int .u8 1)
  t2 : w.cell? ⟨2, 3, none⟩ = some (.int .u8 2)
  t3 : w.cell? ⟨2, 7, none⟩ = some (.int .u8 3)
  t4 : w.cell? ⟨2, 15, none⟩ = some (.int .u8 4)
theorem gPow : Tryd.prog.globalNamed "internal/strconv.uint64pow10" = some 0 := by kernel_rfl
theorem Tabs.below {w w' : World} (h : Tabs w) (hb : Below w.heap.size w w') : Tabs w' := by
  have hc : ∀ (a : Addr) (v : Value), w.cell? a = some v → w'.cell? a = some v := fun a v hv => (hb.cell (World.block_lt_of_cell? w a hv)).trans hv
  refine ⟨?_, hc _ _ h.t1, hc _ _ h.t2, hc _ _ h.t3, hc _ _ h.t4⟩
  have hp := h.pow
  unfold Lib.TabIs World.var? at hp ⊢
  rw [gPow] at hp ⊢
  simp only [Option.bind_some] at hp ⊢
  have hlt : 0 < w.heap.size := by
    rcases Nat.eq_zero_or_pos w.heap.size with h0 | h0
    · rw [Array.getElem?_eq_none (by omega)] at hp; simp at hp
    · exact h0
  rw [hb.block 0 hlt]
  exact hp
theorem Tabs.drewN {w : World} (h : Tabs w) (n : Nat) : Tabs (w.drewN n) := h.below (below_drewN (Below.refl _ _) n)

set_option maxHeartbeats 400000 in
theorem tz_2 (w : World) (h : w.cell? ⟨2, 1, none⟩ = some (.int .u8 1)) : Calls Tryd.prog 55 #[.int .u64 2] w fun e w' => e = .returned (.int .i64 1) ∧ w = w' := by
  have e1 : IntKind.u64.wrap (-2) = 18446744073709551614 := by kernel_rfl
  have e2 : bits .and .u64 2 18446744073709551614 = 2 := by kernel_rfl
  have e3 : IntKind.u64.wrap (2 * 285870213051353865) = 571740426102707730 := by kernel_rfl
  go_enter Tryd.func55, Tryd.ntmps55
  go_wp2
  go_ret
  exact ⟨rfl, rfl⟩
set_option maxHeartbeats 400000 in
theorem is2_2 (w : World) : Calls Tryd.prog 54 #[.int .i64 2] w fun e w' => e = .returned (.bool true) ∧ w = w' := by
  go_enter Tryd.func54, Tryd.ntmps54
  go_wp2
  go_ret
  exact ⟨rfl, rfl⟩
set_option maxHeartbeats 400000 in
theorem tz_4 (w : World) (h : w.cell? ⟨2, 3, none⟩ = some (.int .u8 2)) : Calls Tryd.prog 55 #[.int .u64 4] w fun e w' => e = .returned (.int .i64 2) ∧ w = w' := by
  have e1 : IntKind.u64.wrap (-4) = 18446744073709551612 := by kernel_rfl
  have e2 : bits .and .u64 4 18446744073709551612 = 4 := by kernel_rfl
  have e3 : IntKind.u64.wrap (4 * 285870213051353865) = 1143480852205415460 := by kernel_rfl
  go_enter Tryd.func55, Tryd.ntmps55
  go_wp2
  go_ret
  exact ⟨rfl, rfl⟩
set_option maxHeartbeats 400000 in
theorem is2_4 (w : World) : Calls Tryd.prog 54 #[.int .i64 4] w fun e w' => e = .returned (.bool true) ∧ w = w' := by
  go_enter Tryd.func54, Tryd.ntmps54
  go_wp2
  go_ret
  exact ⟨rfl, rfl⟩
set_option maxHeartbeats 400000 in
theorem tz_8 (w : World) (h : w.cell? ⟨2, 7, none⟩ = some (.int .u8 3)) : Calls Tryd.prog 55 #[.int .u64 8] w fun e w' => e = .returned (.int .i64 3) ∧ w = w' := by
  have e1 : IntKind.u64.wrap (-8) = 18446744073709551608 := by kernel_rfl
  have e2 : bits .and .u64 8 18446744073709551608 = 8 := by kernel_rfl
  have e3 : IntKind.u64.wrap (8 * 285870213051353865) = 2286961704410830920 := by kernel_rfl
  go_enter Tryd.func55, Tryd.ntmps55
  go_wp2
  go_ret
  exact ⟨rfl, rfl⟩
set_option maxHeartbeats 400000 in
theorem is2_8 (w : World) : Calls Tryd.prog 54 #[.int .i64 8] w fun e w' => e = .returned (.bool true) ∧ w = w' := by
  go_enter Tryd.func54, Tryd.ntmps54
  go_wp2
  go_ret
  exact ⟨rfl, rfl⟩
set_option maxHeartbeats 400000 in
theorem tz_16 (w : World) (h : w.cell? ⟨2, 15, none⟩ = some (.int .u8 4)) : Calls Tryd.prog 55 #[.int .u64 16] w fun e w' => e = .returned (.int .i64 4) ∧ w = w' := by
  have e1 : IntKind.u64.wrap (-16) = 18446744073709551600 := by kernel_rfl
  have e2 : bits .and .u64 16 18446744073709551600 = 16 := by kernel_rfl
  have e3 : IntKind.u64.wrap (16 * 285870213051353865) = 4573923408821661840 := by kernel_rfl
  go_enter Tryd.func55, Tryd.ntmps55
  go_wp2
  go_ret
  exact ⟨rfl, rfl⟩
set_option maxHeartbeats 400000 in
theorem is2_16 (w : World) : Calls Tryd.prog 54 #[.int .i64 16] w fun e w' => e = .returned (.bool true) ∧ w = w' := by
  go_enter Tryd.func54, Tryd.ntmps54
  go_wp2
  go_ret
  exact ⟨rfl, rfl⟩
theorem is2_no (b : Nat) (hb : 2 ≤ b) (hb2 : b ≤ 16) (h2 : b ≠ 2) (h4 : b ≠ 4) (h8 : b ≠ 8) (h16 : b ≠ 16) (w : World) : Calls Tryd.prog 54 #[.int .i64 (b : Int)] w fun e w' => e = .returned (.bool false) ∧ w = w' := by
  obtain rfl | rfl | rfl | rfl | rfl | rfl | rfl | rfl | rfl | rfl | rfl : b = 3 ∨ b = 5 ∨ b = 6 ∨ b = 7 ∨ b = 9 ∨ b = 10 ∨ b = 11 ∨ b = 12 ∨ b = 13 ∨ b = 14 ∨ b = 15 := by omega
  all_goals
    simp only [Int.cast_ofNat_Int]
    go_enter Tryd.func54, Tryd.ntmps54
    go_wp2
    go_ret
    exact ⟨rfl, rfl⟩

set_option maxHeartbeats 1600000 in
set_option maxRecDepth 100000 in
theorem pos_2 (u : Nat) (w : World) (ht : Tabs w) (hu : u < 18446744073709551616) :
    Calls Tryd.prog 51 #[.slice none 0 0, .int .u64 (u : Int), .int .i64 2, .bool false, .bool false] w fun e w' =>
      e = .returned (.tuple #[.slice none 0 0, .string ⟨((bd 2 64 u).reverse.map ch).toArray⟩]) ∧ Below w.heap.size w w' := by
  have hz70 := zero70
  have htz := (((Below.refl w.heap.size w).alloc (Nat.le_refl _) (.cells zeros65 70)).cell (p := ⟨2, 1, none⟩) (World.block_lt_of_cell? w _ ht.t1)).trans ht.t1
  go_enter Tryd.func51, Tryd.ntmps51
  go_wp2_with fail
  refine (is2_2 _).mono ?_
  rintro e w' ⟨rfl, rfl⟩
  go_wp2_with fail
  refine (tz_2 _ htz).mono ?_
  rintro e w' ⟨rfl, rfl⟩
  go_wp2_with fail
  go_loopw [1, 13] (fun uv iv wr => ∃ v f ds i, uv = .int .u64 ((v : Nat) : Int) ∧ iv = .int .i64 ((i : Nat) : Int) ∧ Digs 2 u v f ds ∧ Buf w wr i (ds.reverse.map ch)) (fun uv _ _ => (intOf uv).toNat)
  case atStart => exact ⟨u, 64, [], 65, rfl, rfl, Digs.start (by omega), Buf.start w⟩
  case round =>
    obtain ⟨v, f, ds, i, rfl, rfl, hd, hbuf⟩ := hrel
    have hlt := hd.lt
    have hlen := hbuf.len
    simp at hlen
    by_cases hv : 2 ≤ v
    · have hroom := hd.room (by omega) hv
      obtain ⟨k, rfl⟩ : ∃ k, i = k + 1 := ⟨i - 1, by omega⟩
      obtain ⟨r, HRr⟩ : ∃ r, Hid (v % 2 = r) := ⟨_, rfl⟩
      have hr : r < 2 := by have := HRr.out; omega
      have hvb : v < 18446744073709551616 := by have h1 : 2 ^ f ≤ 2 ^ 64 := Nat.pow_le_pow_right (by omega) (by have := hd.fuel; omega); omega
      have e2 : bits .and .u64 (v : Int) 1 = (r : Int) := by
        have h1 := u64_and_nat v 1 hvb (by omega)
        rw [Nat.and_two_pow_sub_one_eq_mod v 1] at h1
        rw [← HRr.out]
        exact h1
      have hix := digit_at r (by omega)
      obtain ⟨⟨old, hc⟩, hf⟩ := hbuf.cell (k := k) (by omega)
      have HD := Lib.hid (hd.next (by omega) hv)
      have HB := Lib.hid hbuf
      clear hd hbuf hlt
      go_wp2_with fail
      go_roundw
      case rel =>
        obtain ⟨g, _, _, hd2⟩ := HD.out
        rw [HRr.out] at hd2
        exact ⟨v / 2, g, ds ++ [r], k, by go_num, by go_num, hd2, by rw [List.reverse_append]; exact HB.out.put (ch r)⟩
      case measure => simp [intOf]; omega
    · have hvb : v < 2 := by omega
      have HDN := Lib.hid (hd.done hvb)
      have hroom := hd.room0
      have hix := digit_at v (by omega)
      obtain ⟨k, rfl⟩ : ∃ k, i = k + 1 := ⟨i - 1, by omega⟩
      obtain ⟨⟨old, hc⟩, hf⟩ := hbuf.cell (k := k) (by omega)
      have HB := Lib.hid (hbuf.put (ch v))
      have hsl := slice_at w.heap.size k (by omega)
      have hcv : (convert 56 9 (.slice (some ⟨w.heap.size, k, none⟩) (65 - k) (65 - k))).run Tryd.prog (wr.setCell ⟨w.heap.size, k, none⟩ (.int .u8 ((ch v).toNat : Int))) = .ok (.string ⟨(ch v :: ds.reverse.map ch).toArray⟩) (wr.setCell ⟨w.heap.size, k, none⟩ (.int .u8 ((ch v).toNat : Int))) := conv_at (hbuf.put (ch v))
      clear hd hbuf hlt
      go_wp2_with fail
      go_ret2
      exact ⟨ret_text (text_pos HDN.out), HB.out.below⟩

set_option maxHeartbeats 1600000 in
set_option maxRecDepth 100000 in
theorem neg_2 (u : Nat) (w : World) (ht : Tabs w) (hu0 : 1 ≤ u) (hu : u ≤ 9223372036854775808) :
    Calls Tryd.prog 51 #[.slice none 0 0, .int .u64 (18446744073709551616 - (u : Int)), .int .i64 2, .bool true, .bool false] w fun e w' =>
      e = .returned (.tuple #[.slice none 0 0, .string ⟨(45 :: (bd 2 64 u).reverse.map ch).toArray⟩]) ∧ Below w.heap.size w w' := by
  have hz70 := zero70
  have htz := (((Below.refl w.heap.size w).alloc (Nat.le_refl _) (.cells zeros65 70)).cell (p := ⟨2, 1, none⟩) (World.block_lt_of_cell? w _ ht.t1)).trans ht.t1
  have hneg : IntKind.u64.wrap (-(18446744073709551616 - (u : Int))) = (u : Int) := by rw [IntKind.wrap_u64]; omega
  go_enter Tryd.func51, Tryd.ntmps51
  go_wp2_with fail
  refine (is2_2 _).mono ?_
  rintro e w' ⟨rfl, rfl⟩
  go_wp2_with fail
  refine (tz_2 _ htz).mono ?_
  rintro e w' ⟨rfl, rfl⟩
  go_wp2_with fail
  go_loopw [1, 13] (fun uv iv wr => ∃ v f ds i, uv = .int .u64 ((v : Nat) : Int) ∧ iv = .int .i64 ((i : Nat) : Int) ∧ Digs 2 u v f ds ∧ Buf w wr i (ds.reverse.map ch)) (fun uv _ _ => (intOf uv).toNat)
  case atStart => exact ⟨u, 64, [], 65, rfl, rfl, Digs.start (by omega), Buf.start w⟩
  case round =>
    obtain ⟨v, f, ds, i, rfl, rfl, hd, hbuf⟩ := hrel
    have hlt := hd.lt
    have hlen := hbuf.len
    simp at hlen
    by_cases hv : 2 ≤ v
    · have hroom := hd.room (by omega) hv
      obtain ⟨k, rfl⟩ : ∃ k, i = k + 1 := ⟨i - 1, by omega⟩
      obtain ⟨r, HRr⟩ : ∃ r, Hid (v % 2 = r) := ⟨_, rfl⟩
      have hr : r < 2 := by have := HRr.out; omega
      have hvb : v < 18446744073709551616 := by have h1 : 2 ^ f ≤ 2 ^ 64 := Nat.pow_le_pow_right (by omega) (by have := hd.fuel; omega); omega
      have e2 : bits .and .u64 (v : Int) 1 = (r : Int) := by
        have h1 := u64_and_nat v 1 hvb (by omega)
        rw [Nat.and_two_pow_sub_one_eq_mod v 1] at h1
        rw [← HRr.out]
        exact h1
      have hix := digit_at r (by omega)
      obtain ⟨⟨old, hc⟩, hf⟩ := hbuf.cell (k := k) (by omega)
      have HD := Lib.hid (hd.next (by omega) hv)
      have HB := Lib.hid hbuf
      clear hd hbuf hlt
      go_wp2_with fail
      go_roundw
      case rel =>
        obtain ⟨g, _, _, hd2⟩ := HD.out
        rw [HRr.out] at hd2
        exact ⟨v / 2, g, ds ++ [r], k, by go_num, by go_num, hd2, by rw [List.reverse_append]; exact HB.out.put (ch r)⟩
      case measure => simp [intOf]; omega
    · have hvb : v < 2 := by omega
      have HDN := Lib.hid (hd.done hvb)
      have hroom := hd.room0
      have hix := digit_at v (by omega)
      obtain ⟨k, rfl⟩ : ∃ k, i = k + 1 + 1 := ⟨i - 2, by have := HDN.out; have h2 := hd.room0; omega⟩
      obtain ⟨⟨old, hc⟩, hf⟩ := hbuf.cell (k := k + 1) (by omega)
      have hb1 := hbuf.put (ch v)
      obtain ⟨⟨old2, hc2⟩, hf2⟩ := hb1.cell (k := k) (by omega)
      have HB := Lib.hid (hb1.put 45)
      have hsl := slice_at w.heap.size k (by omega)
      have hcv : (convert 56 9 (.slice (some ⟨w.heap.size, k, none⟩) (65 - k) (65 - k))).run Tryd.prog ((wr.setCell ⟨w.heap.size, k + 1, none⟩ (.int .u8 ((ch v).toNat : Int))).setCell ⟨w.heap.size, k, none⟩ (.int .u8 45)) = .ok (.string ⟨(45 :: ch v :: ds.reverse.map ch).toArray⟩) ((wr.setCell ⟨w.heap.size, k + 1, none⟩ (.int .u8 ((ch v).toNat : Int))).setCell ⟨w.heap.size, k, none⟩ (.int .u8 45)) := conv_at (hb1.put 45)
      have hc3 : (wr.setCell ⟨w.heap.size, k + 1, none⟩ (.int .u8 ((ch v).toNat : Int))).cell? ⟨w.heap.size, k, none⟩ = some old2 := hc2
      have hf3 : (wr.setCell ⟨w.heap.size, k + 1, none⟩ (.int .u8 ((ch v).toNat : Int))).frozen? ⟨w.heap.size, k, none⟩ = false := hf2
      clear hd hbuf hlt hb1 hc2 hf2
      go_wp2_with fail
      go_ret2
      exact ⟨ret_text (text_neg HDN.out), HB.out.below⟩

set_option maxHeartbeats 1600000 in
set_option maxRecDepth 100000 in
theorem pos_4 (u : Nat) (w : World) (ht : Tabs w) (hu : u < 18446744073709551616) :
    Calls Tryd.prog 51 #[.slice none 0 0, .int .u64 (u : Int), .int .i64 4, .bool false, .bool false] w fun e w' =>
      e = .returned (.tuple #[.slice none 0 0, .string ⟨((bd 4 64 u).reverse.map ch).toArray⟩]) ∧ Below w.heap.size w w' := by
  have hz70 := zero70
  have htz := (((Below.refl w.heap.size w).alloc (Nat.le_refl _) (.cells zeros65 70)).cell (p := ⟨2, 3, none⟩) (World.block_lt_of_cell? w _ ht.t2)).trans ht.t2
  go_enter Tryd.func51, Tryd.ntmps51
  go_wp2_with fail
  refine (is2_4 _).mono ?_
  rintro e w' ⟨rfl, rfl⟩
  go_wp2_with fail
  refine (tz_4 _ htz).mono ?_
  rintro e w' ⟨rfl, rfl⟩
  go_wp2_with fail
  go_loopw [1, 13] (fun uv iv wr => ∃ v f ds i, uv = .int .u64 ((v : Nat) : Int) ∧ iv = .int .i64 ((i : Nat) : Int) ∧ Digs 4 u v f ds ∧ Buf w wr i (ds.reverse.map ch)) (fun uv _ _ => (intOf uv).toNat)
  case atStart => exact ⟨u, 64, [], 65, rfl, rfl, Digs.start (by omega), Buf.start w⟩
  case round =>
    obtain ⟨v, f, ds, i, rfl, rfl, hd, hbuf⟩ := hrel
    have hlt := hd.lt
    have hlen := hbuf.len
    simp at hlen
    by_cases hv : 4 ≤ v
    · have hroom := hd.room (by omega) hv
      obtain ⟨k, rfl⟩ : ∃ k, i = k + 1 := ⟨i - 1, by omega⟩
      obtain ⟨r, HRr⟩ : ∃ r, Hid (v % 4 = r) := ⟨_, rfl⟩
      have hr : r < 4 := by have := HRr.out; omega
      have hvb : v < 18446744073709551616 := by have h1 : 2 ^ f ≤ 2 ^ 64 := Nat.pow_le_pow_right (by omega) (by have := hd.fuel; omega); omega
      have e2 : bits .and .u64 (v : Int) 3 = (r : Int) := by
        have h1 := u64_and_nat v 3 hvb (by omega)
        rw [Nat.and_two_pow_sub_one_eq_mod v 2] at h1
        rw [← HRr.out]
        exact h1
      have hix := digit_at r (by omega)
      obtain ⟨⟨old, hc⟩, hf⟩ := hbuf.cell (k := k) (by omega)
      have HD := Lib.hid (hd.next (by omega) hv)
      have HB := Lib.hid hbuf
      clear hd hbuf hlt
      go_wp2_with fail
      go_roundw
      case rel =>
        obtain ⟨g, _, _, hd2⟩ := HD.out
        rw [HRr.out] at hd2
        exact ⟨v / 4, g, ds ++ [r], k, by go_num, by go_num, hd2, by rw [List.reverse_append]; exact HB.out.put (ch r)⟩
      case measure => simp [intOf]; omega
    · have hvb : v < 4 := by omega
      have HDN := Lib.hid (hd.done hvb)
      have hroom := hd.room0
      have hix := digit_at v (by omega)
      obtain ⟨k, rfl⟩ : ∃ k, i = k + 1 := ⟨i - 1, by omega⟩
      obtain ⟨⟨old, hc⟩, hf⟩ := hbuf.cell (k := k) (by omega)
      have HB := Lib.hid (hbuf.put (ch v))
      have hsl := slice_at w.heap.size k (by omega)
      have hcv : (convert 56 9 (.slice (some ⟨w.heap.size, k, none⟩) (65 - k) (65 - k))).run Tryd.prog (wr.setCell ⟨w.heap.size, k, none⟩ (.int .u8 ((ch v).toNat : Int))) = .ok (.string ⟨(ch v :: ds.reverse.map ch).toArray⟩) (wr.setCell ⟨w.heap.size, k, none⟩ (.int .u8 ((ch v).toNat : Int))) := conv_at (hbuf.put (ch v))
      clear hd hbuf hlt
      go_wp2_with fail
      go_ret2
      exact ⟨ret_text (text_pos HDN.out), HB.out.below⟩

set_option maxHeartbeats 1600000 in
set_option maxRecDepth 100000 in
theorem neg_4 (u : Nat) (w : World) (ht : Tabs w) (hu0 : 1 ≤ u) (hu : u ≤ 9223372036854775808) :
    Calls Tryd.prog 51 #[.slice none 0 0, .int .u64 (18446744073709551616 - (u : Int)), .int .i64 4, .bool true, .bool false] w fun e w' =>
      e = .returned (.tuple #[.slice none 0 0, .string ⟨(45 :: (bd 4 64 u).reverse.map ch).toArray⟩]) ∧ Below w.heap.size w w' := by
  have hz70 := zero70
  have htz := (((Below.refl w.heap.size w).alloc (Nat.le_refl _) (.cells zeros65 70)).cell (p := ⟨2, 3, none⟩) (World.block_lt_of_cell? w _ ht.t2)).trans ht.t2
  have hneg : IntKind.u64.wrap (-(18446744073709551616 - (u : Int))) = (u : Int) := by rw [IntKind.wrap_u64]; omega
  go_enter Tryd.func51, Tryd.ntmps51
  go_wp2_with fail
  refine (is2_4 _).mono ?_
  rintro e w' ⟨rfl, rfl⟩
  go_wp2_with fail
  refine (tz_4 _ htz).mono ?_
  rintro e w' ⟨rfl, rfl⟩
  go_wp2_with fail
  go_loopw [1, 13] (fun uv iv wr => ∃ v f ds i, uv = .int .u64 ((v : Nat) : Int) ∧ iv = .int .i64 ((i : Nat) : Int) ∧ Digs 4 u v f ds ∧ Buf w wr i (ds.reverse.map ch)) (fun uv _ _ => (intOf uv).toNat)
  case atStart => exact ⟨u, 64, [], 65, rfl, rfl, Digs.start (by omega), Buf.start w⟩
  case round =>
    obtain ⟨v, f, ds, i, rfl, rfl, hd, hbuf⟩ := hrel
    have hlt := hd.lt
    have hlen := hbuf.len
    simp at hlen
    by_cases hv : 4 ≤ v
    · have hroom := hd.room (by omega) hv
      obtain ⟨k, rfl⟩ : ∃ k, i = k + 1 := ⟨i - 1, by omega⟩
      obtain ⟨r, HRr⟩ : ∃ r, Hid (v % 4 = r) := ⟨_, rfl⟩
      have hr : r < 4 := by have := HRr.out; omega
      have hvb : v < 18446744073709551616 := by have h1 : 2 ^ f ≤ 2 ^ 64 := Nat.pow_le_pow_right (by omega) (by have := hd.fuel; omega); omega
      have e2 : bits .and .u64 (v : Int) 3 = (r : Int) := by
        have h1 := u64_and_nat v 3 hvb (by omega)
        rw [Nat.and_two_pow_sub_one_eq_mod v 2] at h1
        rw [← HRr.out]
        exact h1
      have hix := digit_at r (by omega)
      obtain ⟨⟨old, hc⟩, hf⟩ := hbuf.cell (k := k) (by omega)
      have HD := Lib.hid (hd.next (by omega) hv)
      have HB := Lib.hid hbuf
      clear hd hbuf hlt
      go_wp2_with fail
      go_roundw
      case rel =>
        obtain ⟨g, _, _, hd2⟩ := HD.out
        rw [HRr.out] at hd2
        exact ⟨v / 4, g, ds ++ [r], k, by go_num, by go_num, hd2, by rw [List.reverse_append]; exact HB.out.put (ch r)⟩
      case measure => simp [intOf]; omega
    · have hvb : v < 4 := by omega
      have HDN := Lib.hid (hd.done hvb)
      have hroom := hd.room0
      have hix := digit_at v (by omega)
      obtain ⟨k, rfl⟩ : ∃ k, i = k + 1 + 1 := ⟨i - 2, by have := HDN.out; have h2 := hd.room0; omega⟩
      obtain ⟨⟨old, hc⟩, hf⟩ := hbuf.cell (k := k + 1) (by omega)
      have hb1 := hbuf.put (ch v)
      obtain ⟨⟨old2, hc2⟩, hf2⟩ := hb1.cell (k := k) (by omega)
      have HB := Lib.hid (hb1.put 45)
      have hsl := slice_at w.heap.size k (by omega)
      have hcv : (convert 56 9 (.slice (some ⟨w.heap.size, k, none⟩) (65 - k) (65 - k))).run Tryd.prog ((wr.setCell ⟨w.heap.size, k + 1, none⟩ (.int .u8 ((ch v).toNat : Int))).setCell ⟨w.heap.size, k, none⟩ (.int .u8 45)) = .ok (.string ⟨(45 :: ch v :: ds.reverse.map ch).toArray⟩) ((wr.setCell ⟨w.heap.size, k + 1, none⟩ (.int .u8 ((ch v).toNat : Int))).setCell ⟨w.heap.size, k, none⟩ (.int .u8 45)) := conv_at (hb1.put 45)
      have hc3 : (wr.setCell ⟨w.heap.size, k + 1, none⟩ (.int .u8 ((ch v).toNat : Int))).cell? ⟨w.heap.size, k, none⟩ = some old2 := hc2
      have hf3 : (wr.setCell ⟨w.heap.size, k + 1, none⟩ (.int .u8 ((ch v).toNat : Int))).frozen? ⟨w.heap.size, k, none⟩ = false := hf2
      clear hd hbuf hlt hb1 hc2 hf2
      go_wp2_with fail
      go_ret2
      exact ⟨ret_text (text_neg HDN.out), HB.out.below⟩

set_option maxHeartbeats 1600000 in
set_option maxRecDepth 100000 in
theorem pos_8 (u : Nat) (w : World) (ht : Tabs w) (hu : u < 18446744073709551616) :
    Calls Tryd.prog 51 #[.slice none 0 0, .int .u64 (u : Int), .int .i64 8, .bool false, .bool false] w fun e w' =>
      e = .returned (.tuple #[.slice none 0 0, .string ⟨((bd 8 64 u).reverse.map ch).toArray⟩]) ∧ Below w.heap.size w w' := by
  have hz70 := zero70
  have htz := (((Below.refl w.heap.size w).alloc (Nat.le_refl _) (.cells zeros65 70)).cell (p := ⟨2, 7, none⟩) (World.block_lt_of_cell? w _ ht.t3)).trans ht.t3
  go_enter Tryd.func51, Tryd.ntmps51
  go_wp2_with fail
  refine (is2_8 _).mono ?_
  rintro e w' ⟨rfl, rfl⟩
  go_wp2_with fail
  refine (tz_8 _ htz).mono ?_
  rintro e w' ⟨rfl, rfl⟩
  go_wp2_with fail
  go_loopw [1, 13] (fun uv iv wr => ∃ v f ds i, uv = .int .u64 ((v : Nat) : Int) ∧ iv = .int .i64 ((i : Nat) : Int) ∧ Digs 8 u v f ds ∧ Buf w wr i (ds.reverse.map ch)) (fun uv _ _ => (intOf uv).toNat)
  case atStart => exact ⟨u, 64, [], 65, rfl, rfl, Digs.start (by omega), Buf.start w⟩
  case round =>
    obtain ⟨v, f, ds, i, rfl, rfl, hd, hbuf⟩ := hrel
    have hlt := hd.lt
    have hlen := hbuf.len
    simp at hlen
    by_cases hv : 8 ≤ v
    · have hroom := hd.room (by omega) hv
      obtain ⟨k, rfl⟩ : ∃ k, i = k + 1 := ⟨i - 1, by omega⟩
      obtain ⟨r, HRr⟩ : ∃ r, Hid (v % 8 = r) := ⟨_, rfl⟩
      have hr : r < 8 := by have := HRr.out; omega
      have hvb : v < 18446744073709551616 := by have h1 : 2 ^ f ≤ 2 ^ 64 := Nat.pow_le_pow_right (by omega) (by have := hd.fuel; omega); omega
      have e2 : bits .and .u64 (v : Int) 7 = (r : Int) := by
        have h1 := u64_and_nat v 7 hvb (by omega)
        rw [Nat.and_two_pow_sub_one_eq_mod v 3] at h1
        rw [← HRr.out]
        exact h1
      have hix := digit_at r (by omega)
      obtain ⟨⟨old, hc⟩, hf⟩ := hbuf.cell (k := k) (by omega)
      have HD := Lib.hid (hd.next (by omega) hv)
      have HB := Lib.hid hbuf
      clear hd hbuf hlt
      go_wp2_with fail
      go_roundw
      case rel =>
        obtain ⟨g, _, _, hd2⟩ := HD.out
        rw [HRr.out] at hd2
        exact ⟨v / 8, g, ds ++ [r], k, by go_num, by go_num, hd2, by rw [List.reverse_append]; exact HB.out.put (ch r)⟩
      case measure => simp [intOf]; omega
    · have hvb : v < 8 := by omega
      have HDN := Lib.hid (hd.done hvb)
      have hroom := hd.room0
      have hix := digit_at v (by omega)
      obtain ⟨k, rfl⟩ : ∃ k, i = k + 1 := ⟨i - 1, by omega⟩
      obtain ⟨⟨old, hc⟩, hf⟩ := hbuf.cell (k := k) (by omega)
      have HB := Lib.hid (hbuf.put (ch v))
      have hsl := slice_at w.heap.size k (by omega)
      have hcv : (convert 56 9 (.slice (some ⟨w.heap.size, k, none⟩) (65 - k) (65 - k))).run Tryd.prog (wr.setCell ⟨w.heap.size, k, none⟩ (.int .u8 ((ch v).toNat : Int))) = .ok (.string ⟨(ch v :: ds.reverse.map ch).toArray⟩) (wr.setCell ⟨w.heap.size, k, none⟩ (.int .u8 ((ch v).toNat : Int))) := conv_at (hbuf.put (ch v))
      clear hd hbuf hlt
      go_wp2_with fail
      go_ret2
      exact ⟨ret_text (text_pos HDN.out), HB.out.below⟩

set_option maxHeartbeats 1600000 in
set_option maxRecDepth 100000 in
theorem neg_8 (u : Nat) (w : World) (ht : Tabs w) (hu0 : 1 ≤ u) (hu : u ≤ 9223372036854775808) :
    Calls Tryd.prog 51 #[.slice none 0 0, .int .u64 (18446744073709551616 - (u : Int)), .int .i64 8, .bool true, .bool false] w fun e w' =>
      e = .returned (.tuple #[.slice none 0 0, .string ⟨(45 :: (bd 8 64 u).reverse.map ch).toArray⟩]) ∧ Below w.heap.size w w' := by
  have hz70 := zero70
  have htz := (((Below.refl w.heap.size w).alloc (Nat.le_refl _) (.cells zeros65 70)).cell (p := ⟨2, 7, none⟩) (World.block_lt_of_cell? w _ ht.t3)).trans ht.t3
  have hneg : IntKind.u64.wrap (-(18446744073709551616 - (u : Int))) = (u : Int) := by rw [IntKind.wrap_u64]; omega
  go_enter Tryd.func51, Tryd.ntmps51
  go_wp2_with fail
  refine (is2_8 _).mono ?_
  rintro e w' ⟨rfl, rfl⟩
  go_wp2_with fail
  refine (tz_8 _ htz).mono ?_
  rintro e w' ⟨rfl, rfl⟩
  go_wp2_with fail
  go_loopw [1, 13] (fun uv iv wr => ∃ v f ds i, uv = .int .u64 ((v : Nat) : Int) ∧ iv = .int .i64 ((i : Nat) : Int) ∧ Digs 8 u v f ds ∧ Buf w wr i (ds.reverse.map ch)) (fun uv _ _ => (intOf uv).toNat)
  case atStart => exact ⟨u, 64, [], 65, rfl, rfl, Digs.start (by omega), Buf.start w⟩
  case round =>
    obtain ⟨v, f, ds, i, rfl, rfl, hd, hbuf⟩ := hrel
    have hlt := hd.lt
    have hlen := hbuf.len
    simp at hlen
    by_cases hv : 8 ≤ v
    · have hroom := hd.room (by omega) hv
      obtain ⟨k, rfl⟩ : ∃ k, i = k + 1 := ⟨i - 1, by omega⟩
      obtain ⟨r, HRr⟩ : ∃ r, Hid (v % 8 = r) := ⟨_, rfl⟩
      have hr : r < 8 := by have := HRr.out; omega
      have hvb : v < 18446744073709551616 := by have h1 : 2 ^ f ≤ 2 ^ 64 := Nat.pow_le_pow_right (by omega) (by have := hd.fuel; omega); omega
      have e2 : bits .and .u64 (v : Int) 7 = (r : Int) := by
        have h1 := u64_and_nat v 7 hvb (by omega)
        rw [Nat.and_two_pow_sub_one_eq_mod v 3] at h1
        rw [← HRr.out]
        exact h1
      have hix := digit_at r (by omega)
      obtain ⟨⟨old, hc⟩, hf⟩ := hbuf.cell (k := k) (by omega)
      have HD := Lib.hid (hd.next (by omega) hv)
      have HB := Lib.hid hbuf
      clear hd hbuf hlt
      go_wp2_with fail
      go_roundw
      case rel =>
        obtain ⟨g, _, _, hd2⟩ := HD.out
        rw [HRr.out] at hd2
        exact ⟨v / 8, g, ds ++ [r], k, by go_num, by go_num, hd2, by rw [List.reverse_append]; exact HB.out.put (ch r)⟩
      case measure => simp [intOf]; omega
    · have hvb : v < 8 := by omega
      have HDN := Lib.hid (hd.done hvb)
      have hroom := hd.room0
      have hix := digit_at v (by omega)
      obtain ⟨k, rfl⟩ : ∃ k, i = k + 1 + 1 := ⟨i - 2, by have := HDN.out; have h2 := hd.room0; omega⟩
      obtain ⟨⟨old, hc⟩, hf⟩ := hbuf.cell (k := k + 1) (by omega)
      have hb1 := hbuf.put (ch v)
      obtain ⟨⟨old2, hc2⟩, hf2⟩ := hb1.cell (k := k) (by omega)
      have HB := Lib.hid (hb1.put 45)
      have hsl := slice_at w.heap.size k (by omega)
      have hcv : (convert 56 9 (.slice (some ⟨w.heap.size, k, none⟩) (65 - k) (65 - k))).run Tryd.prog ((wr.setCell ⟨w.heap.size, k + 1, none⟩ (.int .u8 ((ch v).toNat : Int))).setCell ⟨w.heap.size, k, none⟩ (.int .u8 45)) = .ok (.string ⟨(45 :: ch v :: ds.reverse.map ch).toArray⟩) ((wr.setCell ⟨w.heap.size, k + 1, none⟩ (.int .u8 ((ch v).toNat : Int))).setCell ⟨w.heap.size, k, none⟩ (.int .u8 45)) := conv_at (hb1.put 45)
      have hc3 : (wr.setCell ⟨w.heap.size, k + 1, none⟩ (.int .u8 ((ch v).toNat : Int))).cell? ⟨w.heap.size, k, none⟩ = some old2 := hc2
      have hf3 : (wr.setCell ⟨w.heap.size, k + 1, none⟩ (.int .u8 ((ch v).toNat : Int))).frozen? ⟨w.heap.size, k, none⟩ = false := hf2
      clear hd hbuf hlt hb1 hc2 hf2
      go_wp2_with fail
      go_ret2
      exact ⟨ret_text (text_neg HDN.out), HB.out.below⟩

set_option maxHeartbeats 1600000 in
set_option maxRecDepth 100000 in
theorem pos_16 (u : Nat) (w : World) (ht : Tabs w) (hu : u < 18446744073709551616) :
    Calls Tryd.prog 51 #[.slice none 0 0, .int .u64 (u : Int), .int .i64 16, .bool false, .bool false] w fun e w' =>
      e = .returned (.tuple #[.slice none 0 0, .string ⟨((bd 16 64 u).reverse.map ch).toArray⟩]) ∧ Below w.heap.size w w' := by
  have hz70 := zero70
  have htz := (((Below.refl w.heap.size w).alloc (Nat.le_refl _) (.cells zeros65 70)).cell (p := ⟨2, 15, none⟩) (World.block_lt_of_cell? w _ ht.t4)).trans ht.t4
  go_enter Tryd.func51, Tryd.ntmps51
  go_wp2_with fail
  refine (is2_16 _).mono ?_
  rintro e w' ⟨rfl, rfl⟩
  go_wp2_with fail
  refine (tz_16 _ htz).mono ?_
  rintro e w' ⟨rfl, rfl⟩
  go_wp2_with fail
  go_loopw [1, 13] (fun uv iv wr => ∃ v f ds i, uv = .int .u64 ((v : Nat) : Int) ∧ iv = .int .i64 ((i : Nat) : Int) ∧ Digs 16 u v f ds ∧ Buf w wr i (ds.reverse.map ch)) (fun uv _ _ => (intOf uv).toNat)
  case atStart => exact ⟨u, 64, [], 65, rfl, rfl, Digs.start (by omega), Buf.start w⟩
  case round =>
    obtain ⟨v, f, ds, i, rfl, rfl, hd, hbuf⟩ := hrel
    have hlt := hd.lt
    have hlen := hbuf.len
    simp at hlen
    by_cases hv : 16 ≤ v
    · have hroom := hd.room (by omega) hv
      obtain ⟨k, rfl⟩ : ∃ k, i = k + 1 := ⟨i - 1, by omega⟩
      obtain ⟨r, HRr⟩ : ∃ r, Hid (v % 16 = r) := ⟨_, rfl⟩
      have hr : r < 16 := by have := HRr.out; omega
      have hvb : v < 18446744073709551616 := by have h1 : 2 ^ f ≤ 2 ^ 64 := Nat.pow_le_pow_right (by omega) (by have := hd.fuel; omega); omega
      have e2 : bits .and .u64 (v : Int) 15 = (r : Int) := by
        have h1 := u64_and_nat v 15 hvb (by omega)
        rw [Nat.and_two_pow_sub_one_eq_mod v 4] at h1
        rw [← HRr.out]
        exact h1
      have hix := digit_at r (by omega)
      obtain ⟨⟨old, hc⟩, hf⟩ := hbuf.cell (k := k) (by omega)
      have HD := Lib.hid (hd.next (by omega) hv)
      have HB := Lib.hid hbuf
      clear hd hbuf hlt
      go_wp2_with fail
      go_roundw
      case rel =>
        obtain ⟨g, _, _, hd2⟩ := HD.out
        rw [HRr.out] at hd2
        exact ⟨v / 16, g, ds ++ [r], k, by go_num, by go_num, hd2, by rw [List.reverse_append]; exact HB.out.put (ch r)⟩
      case measure => simp [intOf]; omega
    · have hvb : v < 16 := by omega
      have HDN := Lib.hid (hd.done hvb)
      have hroom := hd.room0
      have hix := digit_at v (by omega)
      obtain ⟨k, rfl⟩ : ∃ k, i = k + 1 := ⟨i - 1, by omega⟩
      obtain ⟨⟨old, hc⟩, hf⟩ := hbuf.cell (k := k) (by omega)
      have HB := Lib.hid (hbuf.put (ch v))
      have hsl := slice_at w.heap.size k (by omega)
      have hcv : (convert 56 9 (.slice (some ⟨w.heap.size, k, none⟩) (65 - k) (65 - k))).run Tryd.prog (wr.setCell ⟨w.heap.size, k, none⟩ (.int .u8 ((ch v).toNat : Int))) = .ok (.string ⟨(ch v :: ds.reverse.map ch).toArray⟩) (wr.setCell ⟨w.heap.size, k, none⟩ (.int .u8 ((ch v).toNat : Int))) := conv_at (hbuf.put (ch v))
      clear hd hbuf hlt
      go_wp2_with fail
      go_ret2
      exact ⟨ret_text (text_pos HDN.out), HB.out.below⟩

set_option maxHeartbeats 1600000 in
set_option maxRecDepth 100000 in
theorem neg_16 (u : Nat) (w : World) (ht : Tabs w) (hu0 : 1 ≤ u) (hu : u ≤ 9223372036854775808) :
    Calls Tryd.prog 51 #[.slice none 0 0, .int .u64 (18446744073709551616 - (u : Int)), .int .i64 16, .bool true, .bool false] w fun e w' =>
      e = .returned (.tuple #[.slice none 0 0, .string ⟨(45 :: (bd 16 64 u).reverse.map ch).toArray⟩]) ∧ Below w.heap.size w w' := by
  have hz70 := zero70
  have htz := (((Below.refl w.heap.size w).alloc (Nat.le_refl _) (.cells zeros65 70)).cell (p := ⟨2, 15, none⟩) (World.block_lt_of_cell? w _ ht.t4)).trans ht.t4
  have hneg : IntKind.u64.wrap (-(18446744073709551616 - (u : Int))) = (u : Int) := by rw [IntKind.wrap_u64]; omega
  go_enter Tryd.func51, Tryd.ntmps51
  go_wp2_with fail
  refine (is2_16 _).mono ?_
  rintro e w' ⟨rfl, rfl⟩
  go_wp2_with fail
  refine (tz_16 _ htz).mono ?_
  rintro e w' ⟨rfl, rfl⟩
  go_wp2_with fail
  go_loopw [1, 13] (fun uv iv wr => ∃ v f ds i, uv = .int .u64 ((v : Nat) : Int) ∧ iv = .int .i64 ((i : Nat) : Int) ∧ Digs 16 u v f ds ∧ Buf w wr i (ds.reverse.map ch)) (fun uv _ _ => (intOf uv).toNat)
  case atStart => exact ⟨u, 64, [], 65, rfl, rfl, Digs.start (by omega), Buf.start w⟩
  case round =>
    obtain ⟨v, f, ds, i, rfl, rfl, hd, hbuf⟩ := hrel
    have hlt := hd.lt
    have hlen := hbuf.len
    simp at hlen
    by_cases hv : 16 ≤ v
    · have hroom := hd.room (by omega) hv
      obtain ⟨k, rfl⟩ : ∃ k, i = k + 1 := ⟨i - 1, by omega⟩
      obtain ⟨r, HRr⟩ : ∃ r, Hid (v % 16 = r) := ⟨_, rfl⟩
      have hr : r < 16 := by have := HRr.out; omega
      have hvb : v < 18446744073709551616 := by have h1 : 2 ^ f ≤ 2 ^ 64 := Nat.pow_le_pow_right (by omega) (by have := hd.fuel; omega); omega
      have e2 : bits .and .u64 (v : Int) 15 = (r : Int) := by
        have h1 := u64_and_nat v 15 hvb (by omega)
        rw [Nat.and_two_pow_sub_one_eq_mod v 4] at h1
        rw [← HRr.out]
        exact h1
      have hix := digit_at r (by omega)
      obtain ⟨⟨old, hc⟩, hf⟩ := hbuf.cell (k := k) (by omega)
      have HD := Lib.hid (hd.next (by omega) hv)
      have HB := Lib.hid hbuf
      clear hd hbuf hlt
      go_wp2_with fail
      go_roundw
      case rel =>
        obtain ⟨g, _, _, hd2⟩ := HD.out
        rw [HRr.out] at hd2
        exact ⟨v / 16, g, ds ++ [r], k, by go_num, by go_num, hd2, by rw [List.reverse_append]; exact HB.out.put (ch r)⟩
      case measure => simp [intOf]; omega
    · have hvb : v < 16 := by omega
      have HDN := Lib.hid (hd.done hvb)
      have hroom := hd.room0
      have hix := digit_at v (by omega)
      obtain ⟨k, rfl⟩ : ∃ k, i = k + 1 + 1 := ⟨i - 2, by have := HDN.out; have h2 := hd.room0; omega⟩
      obtain ⟨⟨old, hc⟩, hf⟩ := hbuf.cell (k := k + 1) (by omega)
      have hb1 := hbuf.put (ch v)
      obtain ⟨⟨old2, hc2⟩, hf2⟩ := hb1.cell (k := k) (by omega)
      have HB := Lib.hid (hb1.put 45)
      have hsl := slice_at w.heap.size k (by omega)
      have hcv : (convert 56 9 (.slice (some ⟨w.heap.size, k, none⟩) (65 - k) (65 - k))).run Tryd.prog ((wr.setCell ⟨w.heap.size, k + 1, none⟩ (.int .u8 ((ch v).toNat : Int))).setCell ⟨w.heap.size, k, none⟩ (.int .u8 45)) = .ok (.string ⟨(45 :: ch v :: ds.reverse.map ch).toArray⟩) ((wr.setCell ⟨w.heap.size, k + 1, none⟩ (.int .u8 ((ch v).toNat : Int))).setCell ⟨w.heap.size, k, none⟩ (.int .u8 45)) := conv_at (hb1.put 45)
      have hc3 : (wr.setCell ⟨w.heap.size, k + 1, none⟩ (.int .u8 ((ch v).toNat : Int))).cell? ⟨w.heap.size, k, none⟩ = some old2 := hc2
      have hf3 : (wr.setCell ⟨w.heap.size, k + 1, none⟩ (.int .u8 ((ch v).toNat : Int))).frozen? ⟨w.heap.size, k, none⟩ = false := hf2
      clear hd hbuf hlt hb1 hc2 hf2
      go_wp2_with fail
      go_ret2
      exact ⟨ret_text (text_neg HDN.out), HB.out.below⟩

end Go.Proofs.YtfjoahbboglgfaaDoor
