/- The law's records. -/
import Derived.Test.YtldkmkgkllgckaaDoorMem
import Derived.Deep.Cut
import Derived.Deep.CutBlock
import Derived.Deep.DeepCutAuto
import Derived.Deep.AppendLies
set_option linter.unusedSimpArgs false
namespace Go.Proofs.YtldkmkgkllgckaaDoor
open Go.RowKit

theorem strB_size (bs : List Nat) : (strB bs).size = bs.length := by
  have h := congrArg List.length (strOfNums_data (bs.map Int.ofNat))
  simp only [List.length_map] at h
  unfold strB
  rw [← h]; rfl
/-- A step as it is handed in. -/
structure Opv where
  kind : Int
  i : Int
  long : Int
  fill : Nat
def Opv.val (o : Opv) : Value := .agg #[.int .i64 o.kind, .int .i64 o.i, .int .i64 o.long, .int .u8 (o.fill : Int)]
def i64B (x : Int) : Prop := -9223372036854775808 ≤ x ∧ x ≤ 9223372036854775807
/-- Its numbers are numbers. -/
structure OpB (o : Opv) : Prop where
  kind : i64B o.kind
  i : i64B o.i
  long : i64B o.long
  fill : o.fill < 256
def recLen (long : Int) : Nat := (max 0 (min long 600)).toNat
theorem recLen_le (x : Int) : recLen x ≤ 600 := by unfold recLen; omega
def recS (o : Opv) : ByteArray := strB (List.replicate (recLen o.long) o.fill)
theorem recS_size (o : Opv) : (recS o).size = recLen o.long := by unfold recS; rw [strB_size, List.length_replicate]
theorem recS_le (o : Opv) : (recS o).size ≤ 600 := by rw [recS_size]; exact recLen_le _
/-- So much of it is filled. -/
def partly (n k y : Nat) : List Nat := List.replicate k y ++ List.replicate (n - k) 0
theorem partly_zero (n y : Nat) : partly n 0 y = List.replicate n 0 := by unfold partly; simp
theorem partly_all (n y : Nat) : partly n n y = List.replicate n y := by unfold partly; simp
theorem partly_set {n k y : Nat} (h : k < n) : (u8s (partly n k y)).set k (.int .u8 (y : Int)) = u8s (partly n (k + 1) y) := by
  have e : n - k = (n - (k + 1)) + 1 := by omega
  unfold partly
  rw [e, u8s_append, u8s_append, List.replicate_succ, List.replicate_succ']
  unfold u8s
  rw [List.set_append_right _ _ (by simp), List.map_append]
  simp
theorem partly_dig {n k y : Nat} (hy : y < 256) : ∀ d ∈ partly n k y, d < 256 := fun d hd => by
  rcases List.mem_append.1 hd with h | h
  · obtain rfl := (List.mem_replicate.1 h).2; exact hy
  · obtain rfl := (List.mem_replicate.1 h).2; omega
theorem zeros_of (n : Nat) : (madeCells #[Value.int .u8 0] n).toList = u8s (List.replicate n 0) := by
  rw [toList_madeCells_one]
  unfold u8s
  rw [List.map_replicate]; rfl
structure FillRel (w wr : World) (b n k y : Nat) : Prop where
  below : Below w.heap.size w wr
  row : wr.ownsRow 0 5 1 (.slice (some ⟨b, 0, none⟩) n n) n (u8s (partly n k y))
  box : wr.cell? ⟨w.heap.size, 3, none⟩ = some (.int .u8 (y : Int))
  high : w.heap.size < b

set_option maxHeartbeats 1600000 in
theorem rec_any (o : Opv) (w : World) (hB : OpB o) : Calls Tryd.prog 12 #[o.val] w fun e w' => e = .returned (.string (recS o)) ∧ Below w.heap.size w w' := by
  obtain ⟨kind, i, long, y⟩ := o
  obtain ⟨⟨hk1, hk2⟩, ⟨ha1, ha2⟩, ⟨hl1, hl2⟩, hy⟩ := hB
  simp only at *
  unfold recS
  simp only
  obtain ⟨i0, hi, hz0, hz1, hz2⟩ := info_parts Tryd.info5
  have HI := Lib.hid hi
  have HZ0 := Lib.hid hz0
  have HZ1 := Lib.hid hz1
  have HZ2 := Lib.hid hz2
  clear hi hz0 hz1 hz2
  obtain ⟨n, hn⟩ : ∃ n, Hid (recLen long = n) := ⟨_, Lib.hid rfl⟩
  have hn6 : n ≤ 600 := by rw [← hn.out]; exact recLen_le _
  have hmx : Hid (max 0 (min long 600) = (n : Int)) := Lib.hid (by rw [← hn.out]; unfold recLen; omega)
  rw [hn.out]
  show Calls Tryd.prog 12 #[.agg #[.int .i64 kind, .int .i64 i, .int .i64 long, .int .u8 (y : Int)]] w _
  have hcs : (long < 0 ∧ n = 0) ∨ (0 ≤ long ∧ (long ≤ 600 ∧ Hid (long = (n : Int)))) ∨ (600 < long ∧ n = 600) := by
    have := hmx.out
    by_cases h1 : long < 0
    · exact .inl ⟨h1, by omega⟩
    · by_cases h2 : 600 < long
      · exact .inr (.inr ⟨h2, by omega⟩)
      · exact .inr (.inl ⟨by omega, by omega, Lib.hid (by omega)⟩)
  go_enter Tryd.func12, Tryd.ntmps12
  go_upto_region 1 with fail
  go_cut [3] (fun v wx => v = .slice (some ⟨w.heap.size + 1, 0, none⟩) n n ∧ Hid (FillRel w wx (w.heap.size + 1) n 0 y))
  case first =>
    have hw0 : Hid ((w.alloc (.cells #[.int .i64 kind, .int .i64 i, .int .i64 long, .int .u8 (y : Int)] 35)).heap.size = w.heap.size + 1) := Lib.hid (by simp)
    have HB0 : Hid (Below w.heap.size w (w.alloc (.cells #[.int .i64 kind, .int .i64 i, .int .i64 long, .int .u8 (y : Int)] 35))) := Lib.hid ((Below.refl _ _).alloc (Nat.le_refl _) _)
    have x2 := World.cell?_alloc_new w #[.int .i64 kind, .int .i64 i, .int .i64 long, .int .u8 (y : Int)] 35 2
    have x3 := World.cell?_alloc_new w #[.int .i64 kind, .int .i64 i, .int .i64 long, .int .u8 (y : Int)] 35 3
    generalize hww : w.alloc (.cells #[.int .i64 kind, .int .i64 i, .int .i64 long, .int .u8 (y : Int)] 35) = w0 at *
    have H63 : Hid (n ≤ maxLen) := Lib.hid (by unfold maxLen; omega)
    have HBY : Hid (i0.bytes * n ≤ 281474976710656) := Lib.hid (by rw [HZ2.out]; omega)
    have HBS : Hid (w.heap.size ≤ w0.heap.size) := Lib.hid (by rw [hw0.out]; omega)
    have HX3 := Lib.hid x3
    clear hww x3
    rcases hcs with ⟨h1, h2⟩ | ⟨h1, h2, hE⟩ | ⟨h1, h2⟩
    all_goals
      go_wp2_with (refine wpList_make_full _ rfl _ _ 61 rfl w.heap.size 5 i0 (.int .u8 0) 1 Tryd.underlying61 HI.out HZ0.out HZ1.out .i64 .i64 _ _ n rfl rfl (by first | omega | (have := hE.out; omega)) (by first | omega | (have := hE.out; omega)) HBY.out H63.out HBS.out ?_; intro w1 hown hgrow)
    all_goals
      have HF : Hid (FillRel w w1 (w.heap.size + 1) n 0 y) := Lib.hid (by
        rw [hw0.out] at hown
        simp only [Value.cells, Nat.mul_one] at hown
        have hz := zeros_of n
        exact ⟨HB0.out.grown hgrow HBS.out (fun k e => by cases e), by rw [partly_zero, ← hz]; exact base0 hown, (hgrow.cell_far ⟨w.heap.size, 3, none⟩ (by rw [hw0.out]; simp) (by simp)).trans HX3.out, by omega⟩)
      clear hown hgrow
      go_wp2_with fail
      go_meet
      exact ⟨by rw [hw0.out]; first | done | (congr 1 <;> omega), HF⟩
  case rest =>
    obtain ⟨rfl, H0⟩ := hcut
    clear hcs
    go_wp2_with fail
    go_loopw [4] (fun iv wr => ∃ k : Nat, k ≤ n ∧ iv = .int .i64 (k : Int) ∧ Hid (FillRel w wr (w.heap.size + 1) n k y)) (fun iv _ => n - (intOf iv).toNat)
    case atStart => exact ⟨0, Nat.zero_le _, by go_num, H0⟩
    case round =>
      obtain ⟨k, hk, rfl, hr⟩ := hrel
      by_cases hlt : k < n
      · have hc := hr.out.row.cellAt k (by omega)
        have hf := hr.out.row.frozenAt k
        have hb := hr.out.box
        obtain ⟨old, hold⟩ : ∃ old, (u8s (partly n k y))[k]? = some old := ⟨_, List.getElem?_eq_getElem (by rw [u8s_len]; unfold partly; simp; omega)⟩
        rw [hold] at hc
        have hs := (hr.out.row.stored k (.int .u8 (y : Int))).1
        rw [partly_set hlt] at hs
        have HR : Hid (FillRel w (wr.setCell ⟨w.heap.size + 1, k, none⟩ (.int .u8 (y : Int))) (w.heap.size + 1) n (k + 1) y) := Lib.hid ⟨hr.out.below.setCell (p := ⟨w.heap.size + 1, k, none⟩) (by simp) _, hs, by
          rw [World.cell?_of_block (w := wr) (heap_setCell_other wr ⟨w.heap.size + 1, k, none⟩ w.heap.size _ (by simp))]; exact hb, hr.out.high⟩
        have hkn : (k : Int) < (n : Int) := by omega
        clear hs hold hr
        go_wp2_with fail
        go_roundw
        case rel => exact ⟨k + 1, by omega, by go_num, HR⟩
        case measure => simp [intOf]; omega
      · obtain rfl : k = n := by omega
        have hrow := hr.out.row
        rw [partly_all] at hrow
        have hconv := (Bys.of_row hrow (fun d hd => by obtain rfl := (List.mem_replicate.1 hd).2; exact hy)).conv k
        clear hrow
        obtain ⟨S, HS⟩ : ∃ S, Hid (strB (List.replicate k y) = S) := ⟨_, Lib.hid rfl⟩
        rw [HS.out] at hconv
        go_wp2_with fail
        go_ret
        rw [HS.out]
        exact ⟨rfl, hr.out.below⟩
end Go.Proofs.YtldkmkgkllgckaaDoor
