/- What the law's 'filled' returns: a string of one byte, so long. -/
import Derived.Test.YtdldjpgbifcljaaNew
import Derived.Deep.CutBlock
import Derived.Deep.DeepCutAuto
namespace Go.Proofs.Ytdldjpgbifcljaa
open Go.RowKit

/-- A step as it is handed in. -/
structure Opv where
  kind : Int
  at_ : Int
  n : Int
  torn : Int
  long : Int
  fill : Nat
  p : Option Addr
  nk : Nat
  ck : Nat
  keep : Nat → Bool
def Opv.val (o : Opv) : Value := .agg #[.int .i64 o.kind, .int .i64 o.at_, .int .i64 o.n, .int .i64 o.torn, .int .i64 o.long, .int .u8 (o.fill : Int), .slice o.p o.nk o.ck]
def i64B (x : Int) : Prop := -9223372036854775808 ≤ x ∧ x ≤ 9223372036854775807
/-- Its numbers are numbers. -/
structure OpB (o : Opv) : Prop where
  kind : i64B o.kind
  at_ : i64B o.at_
  n : i64B o.n
  torn : i64B o.torn
  long : i64B o.long
  fill : o.fill < 256
  nk : o.nk ≤ 9223372036854775807
def fillLen (long : Int) : Nat := if long = 0 then 128 else (max 0 (min long 300)).toNat
theorem fillLen_le (x : Int) : fillLen x ≤ 300 := by unfold fillLen; split <;> omega
def fillS (o : Opv) : List Nat := List.replicate (fillLen o.long) o.fill
theorem fillS_dig {o : Opv} (h : o.fill < 256) : ∀ d ∈ fillS o, d < 256 := fun d hd => by
  obtain rfl := (List.mem_replicate.1 hd).2; exact h
/-- So much of it is filled. -/
def partly (n k y : Nat) : List Nat := List.replicate k y ++ List.replicate (n - k) 0
theorem partly_zero (n y : Nat) : partly n 0 y = List.replicate n 0 := by unfold partly; simp
theorem partly_all (n y : Nat) : partly n n y = List.replicate n y := by unfold partly; simp
theorem partly_set {n k y : Nat} (h : k < n) : (u8s (partly n k y)).set k (.int .u8 (y : Int)) = u8s (partly n (k + 1) y) := by
  have e : n - k = (n - (k + 1)) + 1 := by omega
  unfold partly
  rw [e, u8s_append, u8s_append, List.replicate_succ, List.replicate_succ']
  unfold u8s
  rw [List.set_append_right _ _ (by simp), List.map_append]
  simp
theorem partly_dig {n k y : Nat} (hy : y < 256) : ∀ d ∈ partly n k y, d < 256 := fun d hd => by
  rcases List.mem_append.1 hd with h | h
  · obtain rfl := (List.mem_replicate.1 h).2; exact hy
  · obtain rfl := (List.mem_replicate.1 h).2; omega
theorem zeros_of (n : Nat) : (madeCells #[Value.int .u8 0] n).toList = u8s (List.replicate n 0) := by
  rw [toList_madeCells_one]
  unfold u8s
  rw [List.map_replicate]; rfl
structure FillRel (w wr : World) (b n k y : Nat) (long : Int) : Prop where
  below : Below w.heap.size w wr
  row : wr.ownsRow 0 5 1 (.slice (some ⟨b, 0, none⟩) n n) n (u8s (partly n k y))
  box : wr.cell? ⟨w.heap.size, 5, none⟩ = some (.int .u8 (y : Int))
  high : w.heap.size < b

set_option maxHeartbeats 1600000 in
theorem filled_loop (o : Opv) (w : World) (hB : OpB o) (n : Nat) (hn : Hid (fillLen o.long = n)) :
    Calls Try.prog 20 #[o.val] w fun e w' => e = .returned (.string (strB (List.replicate n o.fill))) ∧ Below w.heap.size w w' := by
  obtain ⟨kind, at_, num, torn, long, y, p, nk, ck, keep⟩ := o
  obtain ⟨⟨hk1, hk2⟩, ⟨ha1, ha2⟩, ⟨hn1, hn2⟩, ⟨ht1, ht2⟩, ⟨hl1, hl2⟩, hy, hnk⟩ := hB
  simp only at *
  obtain ⟨i0, hi, hz0, hz1, hz2⟩ := info_parts Try.info5
  have HI := Lib.hid hi
  have HZ0 := Lib.hid hz0
  have HZ1 := Lib.hid hz1
  have HZ2 := Lib.hid hz2
  clear hi hz0 hz1 hz2
  have hn300 : n ≤ 300 := by rw [← hn.out]; exact fillLen_le _
  have hN : Hid ((long = 0 → n = 128) ∧ (long ≠ 0 → (n : Int) = max 0 (min long 300))) := Lib.hid (by
    rw [← hn.out]; unfold fillLen; exact ⟨fun h => by rw [if_pos h], fun h => by rw [if_neg h]; omega⟩)
  show Calls Try.prog 20 #[.agg #[.int .i64 kind, .int .i64 at_, .int .i64 num, .int .i64 torn, .int .i64 long, .int .u8 (y : Int), .slice p nk ck]] w _
  go_enter Try.func20, Try.ntmps20
  go_upto_if 8 with fail
  go_cut [3] (fun v wx => v = .int .i64 (n : Int) ∧ Hid (wx = w.alloc (.cells #[.int .i64 kind, .int .i64 at_, .int .i64 num, .int .i64 torn, .int .i64 long, .int .u8 (y : Int), .slice p nk ck] 39)))
  case first =>
    go_wp2_with fail
    all_goals go_meet
    all_goals
      have h := hN.out
      refine ⟨congrArg (Value.int .i64) ?_, Lib.hid rfl⟩
      by_cases h0 : long = 0
      · have h1 := h.1 h0
        first | omega | (simp_all)
      · have h1 := h.2 h0
        first | omega | (simp_all)
  case rest =>
    obtain ⟨rfl, hw⟩ := hcut
    have HB : Hid (Below w.heap.size w wc) := Lib.hid (by rw [hw.out]; exact (Below.refl _ _).alloc (Nat.le_refl _) _)
    have hbox : wc.cell? ⟨w.heap.size, 5, none⟩ = some (.int .u8 (y : Int)) := by rw [hw.out]; exact World.cell?_alloc_new w _ _ 5
    have hwz : Hid (wc.heap.size = w.heap.size + 1) := Lib.hid (by rw [hw.out]; simp)
    have HBX := Lib.hid hbox
    clear hw hN hbox
    go_wp2_with (refine wpList_make_full _ rfl _ _ 59 rfl 0 5 i0 (.int .u8 0) 1 Try.underlying59 HI.out HZ0.out HZ1.out .i64 .i64 (n : Int) (n : Int) n rfl rfl rfl rfl (by rw [HZ2.out]; omega) (by unfold maxLen; omega) (Nat.zero_le _) ?_)
    intro w1 hown hgrow
    have H0 : Hid (FillRel w w1 wc.heap.size n 0 y long) := Lib.hid (by
      have hg : Below wc.heap.size wc w1 := (Below.refl _ _).grown hgrow (Nat.le_refl _) (fun k e => by cases e)
      rw [zeros_of] at hown
      exact ⟨HB.out.trans (hg.mono HB.out.size), by rw [partly_zero]; exact hown, (hg.cell (p := ⟨w.heap.size, 5, none⟩) (by rw [hwz.out]; show w.heap.size < _; omega)).trans HBX.out, by rw [hwz.out]; omega⟩)
    clear hown hgrow HB HBX hwz
    generalize wc.heap.size = b at *
    go_wp2_with fail
    go_loopw [5] (fun iv wr => ∃ k : Nat, k ≤ n ∧ iv = .int .i64 (k : Int) ∧ Hid (FillRel w wr b n k y long)) (fun iv _ => n - (intOf iv).toNat)
    case atStart => exact ⟨0, by omega, by go_num, H0⟩
    case round =>
      obtain ⟨k, hk, rfl, hr⟩ := hrel
      clear H0
      by_cases hlt : k < n
      · have hc := hr.out.row.cellAt k (by omega)
        rw [u8s_get _ k (by unfold partly; simp; omega)] at hc
        have hf := hr.out.row.frozenAt k
        have hb := hr.out.box
        have HN : Hid (FillRel w (wr.setCell ⟨b, k, none⟩ (.int .u8 (y : Int))) b n (k + 1) y long) := Lib.hid
          ⟨hr.out.below.setCell (show w.heap.size ≤ b by have := hr.out.high; omega) _, by rw [← partly_set hlt]; exact (hr.out.row.stored k _).1, (World.cell?_setCell_far _ _ _ _ (by have := hr.out.high; show b ≠ w.heap.size; omega)).trans hr.out.box, hr.out.high⟩
        generalize (partly n k y).getD k 0 = old at *
        go_wp2_with fail
        go_roundw
        case rel => exact ⟨k + 1, by omega, by go_num, HN⟩
        case measure => simp [intOf]; omega
      · obtain rfl : k = n := by omega
        have hconv := (Bys.of_row hr.out.row (partly_dig hy)).conv k
        rw [partly_all] at hconv
        go_wp2_with fail
        go_ret
        exact ⟨rfl, hr.out.below⟩
theorem filled_any (o : Opv) (w : World) (hB : OpB o) : Calls Try.prog 20 #[o.val] w fun e w' => e = .returned (.string (strB (fillS o))) ∧ Below w.heap.size w w' := filled_loop o w hB _ (Lib.hid rfl)
end Go.Proofs.Ytdldjpgbifcljaa
