/- What findNumber returns where no byte ends a number. -/
import Derived.Test.YtpdihgmgcamgkaaFind1
set_option maxRecDepth 20000
namespace Go.Proofs.Ytpdihgmgcamgkaa
open Go.RowKit Go.Shelf
attribute [local go_sem] Oper.semAt_some

/-- The world behind the boxes that findNumber lays at first. -/
def boxes (w : World) (most : Int) : World := ((((w.alloc (.cells #[.int .i64 most] 3)).alloc (.cells #[.int .u64 0] 86)).alloc (.cells #[.int .i64 0] 3)).alloc (.cells #[.int .i64 0] 27))
theorem boxes_below (w : World) (most : Int) : Below w.heap.size w ((((w.alloc (.cells #[.int .i64 most] 3)).alloc (.cells #[.int .u64 0] 86)).alloc (.cells #[.int .i64 0] 3)).alloc (.cells #[.int .i64 0] 27)) :=
  ((((Below.refl _ _).alloc (Nat.le_refl _) _).alloc (by simp) _).alloc (by simp; omega) _).alloc (by simp; omega) _
set_option maxRecDepth 100000 in
set_option maxHeartbeats 1000000 in
theorem find_none (g d : Nat) (bs : List Nat) (f most : Int) (w : World) (h : Rd w g d bs f) (hl : bs.length ≤ 1099511627776) (hg : Goes bs bs.length) :
    Calls Try.prog 61 #[.pointer (some ⟨g, 0, none⟩), .int .i64 most] w fun e w' => e = .returned (.tuple #[.int .u64 0, .int .i64 0, .int .i64 3]) ∧ Below w.heap.size w w' := by
  obtain ⟨p, c, h0, hh, hB, h1, h2, h3, h4⟩ := h
  have hc := cell_of_row w g 0 _ _ _ hh
  simp at hc
  have hlt := lt_of_block hh
  have HB := Lib.hid hB
  have HG := Lib.hid hg
  clear hh hB hg h0 h3 h4
  generalize bs.length = n at *
  refine (callsIn_wide (n := 5)).1 ?_
  refine callsIn_of_wp_marks Try.func61 rfl trivial ?_ rfl
  simp only [Try.ntmps61, List.size_toArray, List.length_cons, List.length_nil, Nat.reduceAdd, Nat.reduceSub, Array.replicate_succ, Array.replicate_zero, List.push_toArray, List.append_toArray, List.nil_append, List.cons_append]
  have hb4 := boxes_below w most
  have hc4 := (hb4.cell (p := ⟨g, 0, none⟩) hlt).trans hc
  have HB4 := Lib.hid hb4
  clear hb4
  gi_wp2_with (refine ⟨trivial, ?_⟩; gi_at_call 65; refine (callsIn_wide.2 (index_none p n c bs _ (by omega) (HB.out.below HB4.out) HG.out)).mono ?_; rintro e w' ⟨rfl, rfl⟩)
  refine ⟨.tuple #[.int .u64 0, .int .i64 0, .int .i64 3], ?_, rfl, ?_⟩
  · simp [results, Try.f61, go_sem]
  · exact ((((Below.refl _ _).alloc (Nat.le_refl _) _).alloc (by simp) _).alloc (by simp; omega) _).alloc (by simp; omega) _

/-- What has been read of a number from behind. -/
def hv (lo : Nat) (pre : List (Nat × Low)) : Nat := pre.foldl (fun v x => v * 128 + x.2.val) lo
theorem hv_snoc (lo : Nat) (pre : List (Nat × Low)) (x : Nat × Low) : hv lo (pre ++ [x]) = hv lo pre * 128 + x.2.val := by unfold hv; rw [List.foldl_append]; rfl
/-- The places of a number, as they come from behind. -/
def lowAt (N : Nat) (j : Nat) : Low := ⟨N / 128 ^ j % 128, Nat.mod_lt _ (by decide)⟩
theorem hv_upto (N k i : Nat) (h : i ≤ k) : hv (N / 128 ^ k) (upto (fun j => (k - 1 - j, lowAt N (k - 1 - j))) i) = N / 128 ^ (k - i) := by
  induction i with
  | zero => rfl
  | succ i ih =>
    rw [upto_succ, hv_snoc, ih (by omega)]
    show N / 128 ^ (k - i) * 128 + N / 128 ^ (k - 1 - i) % 128 = _
    have h1 : k - i = (k - 1 - i) + 1 := by omega
    rw [h1, show k - (i + 1) = k - 1 - i by omega]
    exact horner N (k - 1 - i)
end Go.Proofs.Ytpdihgmgcamgkaa
