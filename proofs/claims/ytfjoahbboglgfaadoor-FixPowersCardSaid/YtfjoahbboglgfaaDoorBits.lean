/- The text of a number to a base from 2 to 16 other than 10, as the library makes it. -/
import Derived.Test.YtfjoahbboglgfaaDoorProd
import Derived.Test.YtfjoahbboglgfaaDoorText
import Derived.Lib.Walk
import Derived.Lib.ItoaMem
import Derived.Laws.BitsAllLaws
import Derived.Laws.BitsLemmas
namespace Go.Proofs.YtfjoahbboglgfaaDoor
open Go.RowKit

def zeros65 : Array Value := Array.replicate 65 (.int .u8 0)
theorem zero70 (w : World) : (zeroValue 70).run Tryd.prog w = .ok (.agg zeros65) w := by kernel_rfl
def bV (c : UInt8) : Value := .int .u8 (c.toNat : Int)

/-- What is known of the block of 65 bytes: from place i on it holds the bytes cs. -/
structure Buf (w wr : World) (i : Nat) (cs : List UInt8) : Prop where
  blk : ∃ arr : Array Value, wr.heap[w.heap.size]? = some (.cells arr 70 (0, 0)) ∧ arr.size = 65 ∧ arr.toList.drop i = cs.map bV
  len : i + cs.length = 65
  below : Below w.heap.size w wr

theorem Buf.start (w : World) : Buf w (w.alloc (.cells zeros65 70)) 65 [] := by
  refine ⟨⟨zeros65, heap_alloc_new w _, by simp [zeros65], ?_⟩, rfl, (Below.refl _ _).alloc (Nat.le_refl _) _⟩
  rw [List.drop_eq_nil_of_le (by simp [zeros65])]; rfl
theorem Buf.cell {w wr : World} {i : Nat} {cs : List UInt8} (h : Buf w wr i cs) {k : Nat} (hk : k < 65) : (∃ v, wr.cell? ⟨w.heap.size, k, none⟩ = some v) ∧ wr.frozen? ⟨w.heap.size, k, none⟩ = false := by
  obtain ⟨arr, hh, hs, _⟩ := h.blk
  refine ⟨⟨arr[k]'(by omega), ?_⟩, blk_frozen hh k⟩
  rw [blk_cell hh k, Array.getElem?_eq_getElem (by omega)]
theorem Buf.put {w wr : World} {k : Nat} {cs : List UInt8} (h : Buf w wr (k + 1) cs) (c : UInt8) : Buf w (wr.setCell ⟨w.heap.size, k, none⟩ (bV c)) k (c :: cs) := by
  obtain ⟨arr, hh, hs, hd⟩ := h.blk
  have hl := h.len
  refine ⟨⟨_, blk_set hh k (bV c), by simpa using hs, ?_⟩, by simp; omega, h.below.setCell (Nat.le_refl _) _⟩
  have hk : k < arr.toList.length := by simp; omega
  rw [Array.toList_setIfInBounds, List.drop_eq_getElem_cons (by simpa using hk), List.getElem_set_self, List.drop_set_of_lt (by omega), hd]
  rfl
theorem Buf.read {w wr : World} {i : Nat} {cs : List UInt8} (h : Buf w wr i cs) (j : Nat) (hj : j < cs.length) : wr.cell? ⟨w.heap.size, i + j, none⟩ = some (bV cs[j]) := by
  obtain ⟨arr, hh, hs, hd⟩ := h.blk
  rw [blk_cell hh (i + j)]
  have h1 : (arr.toList.drop i)[j]? = (cs.map bV)[j]? := by rw [hd]
  rw [List.getElem?_drop, List.getElem?_map, List.getElem?_eq_getElem hj] at h1
  rw [← Array.getElem?_toList]
  exact h1

theorem digit_at (r : Nat) (h : r < 16) (W : World) : (Instr.index 9 (.string { data := #[48, 49, 50, 51, 52, 53, 54, 55, 56, 57, 97, 98, 99, 100, 101, 102, 103, 104, 105, 106, 107, 108, 109, 110, 111, 112, 113, 114, 115, 116, 117, 118, 119, 120, 121, 122] }) (.int .u64 (r : Int))).run Tryd.prog W = .ok (.int .u8 ((ch r).toNat : Int)) W :=
  match r, h with
  | 0, _ => by kernel_rfl
  | 1, _ => by kernel_rfl
  | 2, _ => by kernel_rfl
  | 3, _ => by kernel_rfl
  | 4, _ => by kernel_rfl
  | 5, _ => by kernel_rfl
  | 6, _ => by kernel_rfl
  | 7, _ => by kernel_rfl
  | 8, _ => by kernel_rfl
  | 9, _ => by kernel_rfl
  | 10, _ => by kernel_rfl
  | 11, _ => by kernel_rfl
  | 12, _ => by kernel_rfl
  | 13, _ => by kernel_rfl
  | 14, _ => by kernel_rfl
  | 15, _ => by kernel_rfl
  | r + 16, h => absurd h (by omega)

theorem len70 : Tryd.prog.arrayLen 70 = 65 := by kernel_rfl
theorem slice_at (g k : Nat) (hk : k ≤ 64) (W : World) : (Instr.sliceAt 70 (.pointer (some ⟨g, 0, none⟩)) (some (.int .i64 (k : Int))) none none).run Tryd.prog W = .ok (.slice (some ⟨g, k, none⟩) (65 - k) (65 - k)) W := by
  have hal := len70
  have h70 := Tryd.underlying70
  rw [run_sliceAt_array_l W 70 ⟨g, 0, none⟩ (by simp [Program.arrayLen, Program.elem, Tryd.underlying70]) .i64 (k : Int) (by omega) (by rw [hal]; omega)]
  go_simp
  omega
theorem conv_at {w W : World} {k : Nat} {cs : List UInt8} (h : Buf w W k cs) : (convert 56 9 (.slice (some ⟨w.heap.size, k, none⟩) (65 - k) (65 - k))).run Tryd.prog W = .ok (.string ⟨cs.toArray⟩) W := by
  have hl := h.len
  have h1 := run_convert_bytes_back (P := Tryd.prog) W 56 9 5 ⟨w.heap.size, k, none⟩ (65 - k) cs Tryd.underlying56 Tryd.underlying5 Tryd.underlying9 (fun j hj => by rw [Lib.add_plain]; exact h.read j hj)
  rw [show cs.length = 65 - k by omega] at h1
  exact h1

theorem ret_text {l l' : List UInt8} (h : l = l') : Ending.returned (.tuple #[.slice none 0 0, .string ⟨l.toArray⟩]) = .returned (.tuple #[.slice none 0 0, .string ⟨l'.toArray⟩]) := by rw [h]
theorem text_pos {b u v : Nat} {ds : List Nat} (h : bd b 64 u = ds ++ [v]) : ch v :: (List.map ch ds).reverse = ((bd b 64 u).map ch).reverse := by rw [h]; simp
theorem text_neg {b u v : Nat} {ds : List Nat} (h : bd b 64 u = ds ++ [v]) : 45 :: ch v :: (List.map ch ds).reverse = 45 :: ((bd b 64 u).map ch).reverse := by rw [h]; simp

set_option maxHeartbeats 1600000 in
set_option maxRecDepth 100000 in
theorem gen_pos (b u : Nat) (w : World) (hb : 2 ≤ b) (hb2 : b ≤ 16) (hb3 : b ≠ 10) (hu : u < 18446744073709551616) (hp : Hid (∀ w, Calls Tryd.prog 54 #[.int .i64 (b : Int)] w fun e w' => e = .returned (.bool false) ∧ w = w')) :
    Calls Tryd.prog 51 #[.slice none 0 0, .int .u64 (u : Int), .int .i64 (b : Int), .bool false, .bool false] w fun e w' =>
      e = .returned (.tuple #[.slice none 0 0, .string ⟨((bd b 64 u).reverse.map ch).toArray⟩]) ∧ Below w.heap.size w w' := by
  have hb10 : ((b : Int) == 10) = false := beq_eq_false_iff_ne.2 (by omega)
  have hz70 := zero70
  go_enter Tryd.func51, Tryd.ntmps51
  go_wp2_with fail
  refine (hp.out _).mono ?_
  rintro e w' ⟨rfl, rfl⟩
  go_wp2_with fail
  go_loopw [1, 13] (fun uv iv wr => ∃ v f ds i, uv = .int .u64 ((v : Nat) : Int) ∧ iv = .int .i64 ((i : Nat) : Int) ∧ Digs b u v f ds ∧ Buf w wr i (ds.reverse.map ch)) (fun uv _ _ => (intOf uv).toNat)
  case atStart => exact ⟨u, 64, [], 65, rfl, rfl, Digs.start (by omega), Buf.start w⟩
  case round =>
    obtain ⟨v, f, ds, i, rfl, rfl, hd, hbuf⟩ := hrel
    have hlt := hd.lt
    have hlen := hbuf.len
    simp at hlen
    by_cases hv : b ≤ v
    · have hroom := hd.room hb hv
      obtain ⟨k, rfl⟩ : ∃ k, i = k + 1 := ⟨i - 1, by omega⟩
      obtain ⟨q, HQ⟩ : ∃ q, Hid (v / b = q) := ⟨_, rfl⟩
      obtain ⟨r, HRr⟩ : ∃ r, Hid (v % b = r) := ⟨_, rfl⟩
      have hr : r < b := by rw [← HRr.out]; exact Nat.mod_lt _ (by omega)
      have e1 : (v : Int) / (b : Int) = (q : Int) := by rw [← HQ.out]; rfl
      have hvq : v = r + q * b := by rw [← HQ.out, ← HRr.out, Nat.mul_comm]; exact (Nat.mod_add_div v b).symm
      have e2 : (v : Int) - (q : Int) * (b : Int) = (r : Int) := by rw [hvq, Int.natCast_add, Int.natCast_mul]; omega
      have e3 : (q : Int) * (b : Int) ≤ (v : Int) := by omega
      have e4 : (0 : Int) ≤ (q : Int) * (b : Int) := by omega
      have hix := digit_at r (by omega)
      obtain ⟨⟨old, hc⟩, hf⟩ := hbuf.cell (k := k) (by omega)
      have hvb : v < 18446744073709551616 := by have h1 : 2 ^ f ≤ 2 ^ 64 := Nat.pow_le_pow_right (by omega) (by have := hd.fuel; omega); omega
      have hql : q < v := by rw [← HQ.out]; exact Nat.div_lt_self (by omega) (by omega)
      have HD := Lib.hid (hd.next hb hv)
      have HB := Lib.hid hbuf
      clear hd hbuf hvq hlt
      go_wp2_with fail
      go_roundw
      case rel =>
        obtain ⟨g, _, _, hd2⟩ := HD.out
        rw [HQ.out, HRr.out] at hd2
        exact ⟨q, g, ds ++ [r], k, rfl, by go_num, hd2, by rw [List.reverse_append]; exact HB.out.put (ch r)⟩
      case measure => simp [intOf]; omega
    · have hvb : v < b := by omega
      have HDN := Lib.hid (hd.done hvb)
      have hroom := hd.room0
      have hix := digit_at v (by omega)
      obtain ⟨k, rfl⟩ : ∃ k, i = k + 1 := ⟨i - 1, by omega⟩
      obtain ⟨⟨old, hc⟩, hf⟩ := hbuf.cell (k := k) (by omega)
      have HB := Lib.hid (hbuf.put (ch v))
      have hsl := slice_at w.heap.size k (by omega)
      have hcv : (convert 56 9 (.slice (some ⟨w.heap.size, k, none⟩) (65 - k) (65 - k))).run Tryd.prog (wr.setCell ⟨w.heap.size, k, none⟩ (.int .u8 ((ch v).toNat : Int))) = .ok (.string ⟨(ch v :: ds.reverse.map ch).toArray⟩) (wr.setCell ⟨w.heap.size, k, none⟩ (.int .u8 ((ch v).toNat : Int))) := conv_at (hbuf.put (ch v))
      clear hd hbuf hlt
      go_wp2_with fail
      go_ret2
      exact ⟨ret_text (text_pos HDN.out), HB.out.below⟩

set_option maxHeartbeats 1600000 in
set_option maxRecDepth 100000 in
theorem gen_neg (b u : Nat) (w : World) (hb : 2 ≤ b) (hb2 : b ≤ 16) (hb3 : b ≠ 10) (hu0 : 1 ≤ u) (hu : u ≤ 9223372036854775808) (hp : Hid (∀ w, Calls Tryd.prog 54 #[.int .i64 (b : Int)] w fun e w' => e = .returned (.bool false) ∧ w = w')) :
    Calls Tryd.prog 51 #[.slice none 0 0, .int .u64 (18446744073709551616 - (u : Int)), .int .i64 (b : Int), .bool true, .bool false] w fun e w' =>
      e = .returned (.tuple #[.slice none 0 0, .string ⟨(45 :: (bd b 64 u).reverse.map ch).toArray⟩]) ∧ Below w.heap.size w w' := by
  have hb10 : ((b : Int) == 10) = false := beq_eq_false_iff_ne.2 (by omega)
  have hz70 := zero70
  have hneg : IntKind.u64.wrap (-(18446744073709551616 - (u : Int))) = (u : Int) := by rw [IntKind.wrap_u64]; omega
  go_enter Tryd.func51, Tryd.ntmps51
  go_wp2_with fail
  refine (hp.out _).mono ?_
  rintro e w' ⟨rfl, rfl⟩
  go_wp2_with fail
  go_loopw [1, 13] (fun uv iv wr => ∃ v f ds i, uv = .int .u64 ((v : Nat) : Int) ∧ iv = .int .i64 ((i : Nat) : Int) ∧ Digs b u v f ds ∧ Buf w wr i (ds.reverse.map ch)) (fun uv _ _ => (intOf uv).toNat)
  case atStart => exact ⟨u, 64, [], 65, rfl, rfl, Digs.start (by omega), Buf.start w⟩
  case round =>
    obtain ⟨v, f, ds, i, rfl, rfl, hd, hbuf⟩ := hrel
    have hlt := hd.lt
    have hlen := hbuf.len
    simp at hlen
    by_cases hv : b ≤ v
    · have hroom := hd.room hb hv
      obtain ⟨k, rfl⟩ : ∃ k, i = k + 1 := ⟨i - 1, by omega⟩
      obtain ⟨q, HQ⟩ : ∃ q, Hid (v / b = q) := ⟨_, rfl⟩
      obtain ⟨r, HRr⟩ : ∃ r, Hid (v % b = r) := ⟨_, rfl⟩
      have hr : r < b := by rw [← HRr.out]; exact Nat.mod_lt _ (by omega)
      have e1 : (v : Int) / (b : Int) = (q : Int) := by rw [← HQ.out]; rfl
      have hvq : v = r + q * b := by rw [← HQ.out, ← HRr.out, Nat.mul_comm]; exact (Nat.mod_add_div v b).symm
      have e2 : (v : Int) - (q : Int) * (b : Int) = (r : Int) := by rw [hvq, Int.natCast_add, Int.natCast_mul]; omega
      have e3 : (q : Int) * (b : Int) ≤ (v : Int) := by omega
      have e4 : (0 : Int) ≤ (q : Int) * (b : Int) := by omega
      have hix := digit_at r (by omega)
      obtain ⟨⟨old, hc⟩, hf⟩ := hbuf.cell (k := k) (by omega)
      have hvb : v < 18446744073709551616 := by have h1 : 2 ^ f ≤ 2 ^ 64 := Nat.pow_le_pow_right (by omega) (by have := hd.fuel; omega); omega
      have hql : q < v := by rw [← HQ.out]; exact Nat.div_lt_self (by omega) (by omega)
      have HD := Lib.hid (hd.next hb hv)
      have HB := Lib.hid hbuf
      clear hd hbuf hvq hlt
      go_wp2_with fail
      go_roundw
      case rel =>
        obtain ⟨g, _, _, hd2⟩ := HD.out
        rw [HQ.out, HRr.out] at hd2
        exact ⟨q, g, ds ++ [r], k, rfl, by go_num, hd2, by rw [List.reverse_append]; exact HB.out.put (ch r)⟩
      case measure => simp [intOf]; omega
    · have hvb : v < b := by omega
      have HDN := Lib.hid (hd.done hvb)
      have hroom := hd.room0
      have hix := digit_at v (by omega)
      obtain ⟨k, rfl⟩ : ∃ k, i = k + 1 + 1 := ⟨i - 2, by have := HDN.out; have h2 := hd.room0; omega⟩
      obtain ⟨⟨old, hc⟩, hf⟩ := hbuf.cell (k := k + 1) (by omega)
      have hb1 := hbuf.put (ch v)
      obtain ⟨⟨old2, hc2⟩, hf2⟩ := hb1.cell (k := k) (by omega)
      have HB := Lib.hid (hb1.put 45)
      have hsl := slice_at w.heap.size k (by omega)
      have hcv : (convert 56 9 (.slice (some ⟨w.heap.size, k, none⟩) (65 - k) (65 - k))).run Tryd.prog ((wr.setCell ⟨w.heap.size, k + 1, none⟩ (.int .u8 ((ch v).toNat : Int))).setCell ⟨w.heap.size, k, none⟩ (.int .u8 45)) = .ok (.string ⟨(45 :: ch v :: ds.reverse.map ch).toArray⟩) ((wr.setCell ⟨w.heap.size, k + 1, none⟩ (.int .u8 ((ch v).toNat : Int))).setCell ⟨w.heap.size, k, none⟩ (.int .u8 45)) := conv_at (hb1.put 45)
      have hc3 : (wr.setCell ⟨w.heap.size, k + 1, none⟩ (.int .u8 ((ch v).toNat : Int))).cell? ⟨w.heap.size, k, none⟩ = some old2 := hc2
      have hf3 : (wr.setCell ⟨w.heap.size, k + 1, none⟩ (.int .u8 ((ch v).toNat : Int))).frozen? ⟨w.heap.size, k, none⟩ = false := hf2
      clear hd hbuf hlt hb1 hc2 hf2
      go_wp2_with fail
      go_ret2
      exact ⟨ret_text (text_neg HDN.out), HB.out.below⟩

end Go.Proofs.YtfjoahbboglgfaaDoor
