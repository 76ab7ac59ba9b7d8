/- A string that reads as these bytes. -/
import Derived.Test.YtekmboolfjicbaaBytes
import Derived.Lib.Strings
namespace Go.Proofs.Ytekmboolfjicbaa
open Go.RowKit

theorem strB_list (s : List Nat) : (strB s).data.toList = s.map fun x => UInt8.ofNat x := by
  unfold strB
  rw [strOfNums_data, List.map_map]
  apply List.map_congr_left
  intro x _
  simp
/-- S is the string of these bytes. -/
structure IsS (S : ByteArray) (s : List Nat) : Prop where
  eq : S = strB s
  dig : ∀ x ∈ s, x < 256
theorem list_eq {S T : ByteArray} (h : S.data.toList = T.data.toList) : S = T := by
  apply ByteArray.ext
  exact Array.ext' h
theorem IsS.list {S : ByteArray} {s : List Nat} (h : IsS S s) : S.data.toList = s.map fun x => UInt8.ofNat x := by rw [h.eq, strB_list]
theorem IsS.of_list {S : ByteArray} {s : List Nat} (h : S.data.toList = s.map fun x => UInt8.ofNat x) (hd : ∀ x ∈ s, x < 256) : IsS S s := ⟨list_eq (by rw [h, strB_list]), hd⟩
theorem IsS.size {S : ByteArray} {s : List Nat} (h : IsS S s) : S.size = s.length := by
  have := congrArg List.length h.list
  rw [List.length_map, Array.length_toList] at this
  exact this
theorem IsS.all (S : ByteArray) : ∃ s, IsS S s := by
  refine ⟨S.data.toList.map (·.toNat), IsS.of_list ?_ ?_⟩
  · rw [List.map_map]
    conv => lhs; rw [← List.map_id S.data.toList]
    apply List.map_congr_left
    intro x _
    simp
  · intro x hx
    obtain ⟨y, _, rfl⟩ := List.mem_map.1 hx
    exact y.toNat_lt
theorem IsS.lit {S : ByteArray} (s : List Nat) (h : S.data.toList = s.map fun x => UInt8.ofNat x) (hd : ∀ x ∈ s, x < 256) : IsS S s := IsS.of_list h hd
theorem IsS.mk_ (s : List Nat) (hd : ∀ x ∈ s, x < 256) : IsS (strB s) s := ⟨rfl, hd⟩
theorem IsS.app {S T : ByteArray} {s t : List Nat} (h : IsS S s) (k : IsS T t) : IsS (S ++ T) (s ++ t) :=
  IsS.of_list (by rw [ByteArray.data_append, Array.toList_append, h.list, k.list, List.map_append]) (dig_append h.dig k.dig)
theorem IsS.ext {S : ByteArray} {s : List Nat} (h : IsS S s) (a b : Nat) : IsS (S.extract a b) ((s.drop a).take (b - a)) := by
  refine IsS.of_list ?_ (fun x hx => h.dig x (List.mem_of_mem_drop (List.mem_of_mem_take hx)))
  rw [ByteArray.data_extract, Array.toList_extract, List.extract_eq_take_drop, h.list, List.map_take, List.map_drop]
theorem IsS.at {S : ByteArray} {s : List Nat} (h : IsS S s) (i : Nat) (hi : i < S.size) : (S[i]'hi).toNat = s.getD i 0 := by
  have hs := h.size
  have e : S[i]'hi = S.data.toList[i]'(by rw [Array.length_toList]; exact hi) := rfl
  rw [e]
  have h2 : s[i]? = some (s[i]'(by omega)) := List.getElem?_eq_getElem (by omega)
  have h3 : S.data.toList[i]? = some (UInt8.ofNat (s[i]'(by omega))) := by rw [h.list, List.getElem?_map, h2]; rfl
  rw [List.getElem?_eq_getElem (by rw [Array.length_toList]; exact hi)] at h3
  rw [Option.some.inj h3, List.getD_eq_getElem?_getD, h2]
  show (UInt8.ofNat (s[i]'(by omega))).toNat = s[i]'(by omega)
  rw [UInt8.toNat_ofNat']
  exact Nat.mod_eq_of_lt (h.dig _ (List.getElem_mem _))
theorem IsS.inj {S : ByteArray} {s t : List Nat} (h : IsS S s) (k : IsS S t) : s = t := by
  refine strB_inj h.dig k.dig ?_
  rw [← h.eq, ← k.eq]
theorem IsS.eqT {S T : ByteArray} {s t : List Nat} (h : IsS S s) (k : IsS T t) : S = T ↔ s = t := by
  constructor
  · intro e; subst e; exact h.inj k
  · intro e; subst e; rw [h.eq, k.eq]
theorem toList_eq_iff {S T : ByteArray} : S.toList = T.toList ↔ S = T := by
  constructor
  · intro h
    rw [Go.Lib.toList_data, Go.Lib.toList_data] at h
    exact list_eq h
  · intro h; rw [h]
theorem IsS.yes {S T : ByteArray} {s t : List Nat} (h : IsS S s) (k : IsS T t) (e : s = t) : (S.toList == T.toList) = true := by
  rw [beq_iff_eq]; exact toList_eq_iff.2 ((h.eqT k).2 e)
theorem IsS.no {S T : ByteArray} {s t : List Nat} (h : IsS S s) (k : IsS T t) (e : s ≠ t) : (S.toList == T.toList) = false := by
  rw [beq_eq_false_iff_ne]; exact fun h2 => e ((h.eqT k).1 (toList_eq_iff.1 h2))
/-- A byte of it. -/
theorem IsS.index {S : ByteArray} {s : List Nat} (h : IsS S s) (i : Nat) (hi : i < s.length) (w : World) :
    (Instr.index 9 (.string S) (.int .i64 (i : Int))).run Try.prog w = .ok (.int .u8 ((s.getD i 0 : Nat) : Int)) w := by
  have hs := h.size
  rw [run_index_string w 9 S .i64 i Try.underlying9, dif_pos ⟨by omega, by omega⟩]
  have e := h.at i (by omega)
  rw [← e]
  rfl
end Go.Proofs.Ytekmboolfjicbaa
