/- Strings as rows of bytes; which texts may be names. -/
import Derived.Test.YtpdihgmgcamgkaaRef
import Derived.Lib.Strings
import Derived.Lib.AppendStr
set_option linter.unusedSimpArgs false
namespace Go.Proofs.Ytpdihgmgcamgkaa
open Go.RowKit

def nums (S : ByteArray) : List Nat := S.data.toList.map fun b => b.toNat
theorem nums_len (S : ByteArray) : (nums S).length = S.size := by unfold nums; rw [List.length_map, Array.length_toList]; rfl
theorem nums_dig (S : ByteArray) : ∀ x ∈ nums S, x < 256 := fun x hx => by
  obtain ⟨b, _, rfl⟩ := List.mem_map.1 hx
  exact b.toNat_lt
theorem strCells_nums (S : ByteArray) : Lib.strCells S = u8s (nums S) := by
  unfold Lib.strCells u8s nums
  rw [List.map_map]; rfl
theorem strB_nums (S : ByteArray) : strB (nums S) = S := by
  have h : (strB (nums S)).data.toList = S.data.toList := by
    unfold strB nums
    rw [strOfNums_data, List.map_map, List.map_map]
    have : (((fun n : Int => UInt8.ofNat n.toNat) ∘ Int.ofNat) ∘ fun b : UInt8 => b.toNat) = id := by
      funext b
      simp
    rw [this, List.map_id]
  have h2 : (strB (nums S)).data = S.data := Array.ext' h
  cases S
  cases e : strB (nums _) with
  | mk d => rw [e] at h2; simp only at h2; rw [h2]
theorem nums_strB {bs : List Nat} (h : ∀ x ∈ bs, x < 256) : nums (strB bs) = bs := by
  have h2 := strB_nums (strB bs)
  exact strB_inj (nums_dig _) h (by rw [h2])
theorem nums_inj {S T : ByteArray} (h : nums S = nums T) : S = T := by rw [← strB_nums S, h, strB_nums T]
theorem strB_inj2 {xs ys : List Nat} (hx : ∀ x ∈ xs, x < 256) (hy : ∀ x ∈ ys, x < 256) (h : strB xs = strB ys) : xs = ys := strB_inj hx hy (by rw [h])
theorem nums_extract (S : ByteArray) (a b : Nat) : nums (S.extract a b) = ((nums S).drop a).take (b - a) := by
  unfold nums
  rw [ByteArray.data_extract, Array.toList_extract, List.extract_eq_take_drop, List.map_take, List.map_drop]
theorem extract_size (S : ByteArray) (a b : Nat) (h1 : a ≤ b) (h2 : b ≤ S.size) : (S.extract a b).size = b - a := by
  rw [← nums_len, nums_extract, List.length_take, List.length_drop, nums_len]; omega
def byteAt (S : ByteArray) (i : Nat) : Nat := (nums S).getD i 0
theorem byteAt_lt (S : ByteArray) (i : Nat) : byteAt S i < 256 := by
  unfold byteAt
  rw [List.getD_eq_getElem?_getD]
  cases e : (nums S)[i]? with
  | none => decide
  | some x => exact nums_dig S x (List.mem_of_getElem? e)
theorem index_any (S : ByteArray) (i : Nat) (hi : i < S.size) (w : World) :
    (Instr.index 9 (.string S) (.int .i64 (i : Int))).run Try.prog w = .ok (.int .u8 (byteAt S i : Int)) w := by
  rw [run_index_string w 9 S .i64 i Try.underlying9, dif_pos ⟨by omega, by omega⟩]
  have e : byteAt S i = (S[i]'hi).toNat := by
    unfold byteAt nums
    have h1 : S[i]'hi = S.data.toList[i]'(by rw [Array.length_toList]; exact hi) := rfl
    rw [List.getD_eq_getElem?_getD, List.getElem?_map, List.getElem?_eq_getElem (by rw [Array.length_toList]; exact hi), h1]
    rfl
  rw [e]
  rfl
/-- A byte of a name. -/
def chrB (x : Nat) : Bool := decide (33 ≤ x) && decide (x ≤ 126)
/-- May it be a name? -/
def okB (S : ByteArray) : Bool := decide (0 < S.size) && (decide (S.size ≤ 32) && (nums S).all chrB)
theorem okB_iff (S : ByteArray) : okB S = true ↔ 0 < S.size ∧ S.size ≤ 32 ∧ ∀ i, i < S.size → 33 ≤ byteAt S i ∧ byteAt S i ≤ 126 := by
  unfold okB
  simp only [Bool.and_eq_true, decide_eq_true_eq, List.all_eq_true]
  constructor
  · rintro ⟨h1, h2, h3⟩
    refine ⟨h1, h2, fun i hi => ?_⟩
    have hl : i < (nums S).length := by rw [nums_len]; exact hi
    have h4 := h3 _ (List.getElem_mem hl)
    unfold chrB at h4
    simp only [Bool.and_eq_true, decide_eq_true_eq] at h4
    unfold byteAt
    rw [List.getD_eq_getElem?_getD, List.getElem?_eq_getElem hl]
    exact h4
  · rintro ⟨h1, h2, h3⟩
    refine ⟨h1, h2, fun x hx => ?_⟩
    obtain ⟨i, hi, rfl⟩ := List.getElem_of_mem hx
    have h4 := h3 i (by rw [← nums_len]; exact hi)
    unfold byteAt at h4
    rw [List.getD_eq_getElem?_getD, List.getElem?_eq_getElem hi] at h4
    unfold chrB
    simpa using h4
instance decNam : DecidableEq ByteArray := fun a b => decidable_of_iff (a.data = b.data) ⟨fun h => by cases a; cases b; simp only at h; rw [h], fun h => by rw [h]⟩
end Go.Proofs.Ytpdihgmgcamgkaa
