/- What Encode's steps lay into memory. -/
import Derived.Test.YtnjlhallkgacjaaPut5
import Derived.Laws.CopyRow
namespace Go.Proofs.Ytnjlhallkgacjaa
open Go.RowKit

theorem lt_of_block {w : World} {b : Nat} {o : Obj} (h : w.heap[b]? = some o) : b < w.heap.size := by
  rcases Nat.lt_or_ge b w.heap.size with h1 | h1
  · exact h1
  · rw [Array.getElem?_eq_none h1] at h; cases h
theorem Row5.cur {w : World} {g N : Nat} {us : List Nat} (h : Row5 w g N us) : w.heap[g]? = some (.cells (u8s us).toArray 5 (0, 0)) ∧ N ≤ maxLen := by
  have hl := h.len
  rcases h.2 with ⟨h0, _⟩ | ⟨g', cap, cur, h0, _, hh, h1, h2, h3, h4⟩
  · cases h0
  · cases h0
    rw [Nat.mul_one] at h3 h4
    refine ⟨?_, h2⟩
    rw [hh, ← h4, List.take_of_length_le (by rw [Array.length_toList]; omega), Array.toArray_toList]
theorem Row5.of_cur {w : World} {g N : Nat} {us : List Nat} (h : w.heap[g]? = some (.cells (u8s us).toArray 5 (0, 0))) (hl : us.length = N) (hN : N ≤ maxLen) : Row5 w g N us :=
  ⟨by rw [u8s_len]; omega, .inr ⟨g, N, _, rfl, Nat.zero_le _, h, Nat.le_refl _, hN, by rw [List.size_toArray, u8s_len]; omega, by
    show List.take (N * 1) (u8s us) = u8s us
    rw [List.take_of_length_le (by rw [u8s_len]; omega)]⟩⟩
theorem Only.setRow {w : World} (g : Nat) (cs : Array Value) : Only g w (w.setRow g cs) :=
  ⟨rfl, rfl, rfl, by simp, fun k _ hk => setRow_other w g k cs hk⟩
/-- The name is copied over a row's bytes. -/
theorem copy_name {w : World} {g o l c N : Nat} {us : List Nat} (h : Row5 w g N us) (hk : o + 4 ≤ N) (hl : 4 ≤ l) (ty : TypeId) :
    ∃ w', (Builtin.copy_ #[45, 9] ty #[.slice (some ⟨g, o, none⟩) l c, .string ⟨#[72, 73, 66, 82]⟩]).run Try.prog w = .ok (.int .i64 4) w' ∧ Row5 w' g N (lay us o nameB) ∧ Only g w w' := by
  obtain ⟨hc, hN⟩ := h.cur
  have hle := h.len
  have hst := run_storeCells_at Try.prog g o 5 (u8s nameB) 0 _ w hc (by rw [List.size_toArray, u8s_len, u8s_len]; show o + 0 + 4 ≤ _; omega) (u8s_one _)
  obtain ⟨i0, hi, hz0, hz1, hz2⟩ := info_parts Try.info5
  refine ⟨_, ?_, ?_, Only.setRow g ((u8s (lay us o nameB)).toArray)⟩
  · have hmin : Nat.min 4 l = 4 := Nat.min_eq_left hl
    have e : ((List.take (o + 0) (u8s us).toArray.toList ++ u8s nameB ++ List.drop (o + 0 + (u8s nameB).length) (u8s us).toArray.toList).toArray) = (u8s (lay us o nameB)).toArray := by
      unfold lay
      rw [u8s_append, u8s_append, u8s_len, Nat.add_zero]
      unfold u8s
      simp [List.map_take, List.map_drop]
    rw [e] at hst
    have hsz : (⟨#[72, 73, 66, 82]⟩ : ByteArray).size = 4 := rfl
    have hrun : ((Builtin.copy_ #[45, 9] ty #[.slice (some ⟨g, o, none⟩) l c, .string ⟨#[72, 73, 66, 82]⟩]).run Try.prog w) = .ok (goInt (⟨#[72, 73, 66, 82]⟩ : ByteArray).size) (w.setRow g (u8s (lay us o nameB)).toArray) := by
      simp [Builtin.copy_, run_underlying Try.underlying45, Builtin.lenOf, Builtin.firstCells, sizeOf, typeInfo, hi, hsz, hmin]
      rw [show [Value.int IntKind.u8 72, Value.int IntKind.u8 73, Value.int IntKind.u8 66, Value.int IntKind.u8 82] = u8s nameB from rfl, hst]
      simp [Result.andThen]
    exact hrun
  · exact Row5.of_cur (setRow_heap w g _ _ _ _ hc) (by rw [lay_len _ _ _ (by show o + 4 ≤ _; omega)]; exact hle) hN
theorem lay_next (A bs : List Nat) (m o : Nat) (hA : A.length = o) (_hb : bs.length ≤ m) : lay (A ++ List.replicate m 0) o bs = (A ++ bs) ++ List.replicate (m - bs.length) 0 := by
  unfold lay
  rw [take_app A _ hA, drop_app A _ hA, List.drop_replicate, List.append_assoc]
def rows0 (en : Nat) : List Nat := lay (lay (List.replicate 116 0) 0 (be 8 en)) 8 nameB
def rows (en pn dn wn : Nat) : Nat → List Nat
  | 0 => rows0 en
  | 1 => lay (rows0 en) 12 (be 4 pn)
  | 2 => lay (lay (rows0 en) 12 (be 4 pn)) 16 (be 4 dn)
  | _ => lay (lay (lay (rows0 en) 12 (be 4 pn)) 16 (be 4 dn)) 20 (be 4 wn)
theorem rows_all (en pn dn wn : Nat) : rows en pn dn wn 3 = body ⟨(en : Int), (pn : Int), (dn : Int), (wn : Int)⟩ := by
  show lay (lay (lay (lay (lay (List.replicate 116 0) 0 (be 8 en)) 8 nameB) 12 (be 4 pn)) 16 (be 4 dn)) 20 (be 4 wn) = _
  have h0 := lay_next [] (be 8 en) 116 0 rfl (by rw [be_len]; omega)
  rw [List.nil_append, List.nil_append, be_len] at h0
  rw [h0, lay_next _ nameB _ 8 (by rw [be_len]) (by show 4 ≤ _; omega), lay_next _ (be 4 pn) _ 12 (by rw [List.length_append, be_len]; rfl) (by rw [be_len]; show 4 ≤ 116 - 8 - 4; omega),
    lay_next _ (be 4 dn) _ 16 (by rw [List.length_append, List.length_append, be_len, be_len]; rfl) (by rw [be_len, be_len]; show 4 ≤ 116 - 8 - 4 - 4; omega),
    lay_next _ (be 4 wn) _ 20 (by rw [List.length_append, List.length_append, List.length_append, be_len, be_len, be_len]; rfl) (by rw [be_len, be_len, be_len]; show 4 ≤ 116 - 8 - 4 - 4 - 4; omega)]
  unfold body
  rw [be_len, be_len, be_len]
  show _ ++ List.replicate (116 - 8 - 4 - 4 - 4 - 4) 0 = _
  simp only [List.append_assoc, Int.toNat_natCast]
structure EncRel (w wr : World) (g a b : Nat) (R : Rt) (V : Array Value) (us : List Nat) : Prop where
  row : Row5 wr g 116 us
  rt : RtAt wr b 29 R
  arr : wr.heap[a]? = some (.cells V 57 (0, 0))
  below : Below w.heap.size w wr
theorem EncRel.only {w wr w' : World} {g a b : Nat} {R : Rt} {V : Array Value} {us us2 : List Nat} (h : EncRel w wr g a b R V us) (hr : Row5 w' g 116 us2) (ho : Only g wr w') (hb : b ≠ g) (ha : a ≠ g) (hg : w.heap.size ≤ g) : EncRel w w' g a b R V us2 :=
  ⟨hr, h.rt.only ho hb, (ho.block a (lt_of_block h.arr) ha).trans h.arr, ho.below h.below h.below.size hg⟩
theorem EncRel.drew {w wr : World} {g a b : Nat} {R : Rt} {V : Array Value} {us : List Nat} (h : EncRel w wr g a b R V us) : EncRel w wr.drew g a b R V us := ⟨h.row.below (Below.refl _ _).drew, h.rt.below (Below.refl _ _).drew, h.arr, h.below.drew⟩
set_option maxHeartbeats 400000 in
theorem fieldPlace_any (i : Nat) (w : World) (hi : i < 3) : Calls Try.prog 26 #[.int .i64 (i : Int)] w fun e w' => e = .returned (.int .i64 ((12 + 4 * i : Nat) : Int)) ∧ w = w' := by
  have HE : Hid (((12 + 4 * i : Nat) : Int) = 12 + (i : Int) * 4) := Lib.hid (by omega)
  rw [HE.out]
  go_enter Try.func26, Try.ntmps26
  go_wp2_with fail
  go_ret
  exact ⟨rfl, rfl⟩
end Go.Proofs.Ytnjlhallkgacjaa
