/- A page's bytes. -/
import Derived.Test.YtldkmkgkllgckaaDoorRec
import Derived.Test.YtldkmkgkllgckaaDoorZer
set_option linter.unusedSimpArgs false
namespace Go.Proofs.YtldkmkgkllgckaaDoor
open Go.RowKit

def nums (S : ByteArray) : List Nat := S.data.toList.map fun b => b.toNat
theorem nums_len (S : ByteArray) : (nums S).length = S.size := by unfold nums; rw [List.length_map, Array.length_toList]; rfl
theorem nums_dig (S : ByteArray) : ∀ x ∈ nums S, x < 256 := fun x hx => by
  obtain ⟨b, _, rfl⟩ := List.mem_map.1 hx
  exact b.toNat_lt
theorem strCells_nums (S : ByteArray) : Lib.strCells S = u8s (nums S) := by
  unfold Lib.strCells u8s nums
  rw [List.map_map]; rfl
theorem strB_nums (S : ByteArray) : strB (nums S) = S := by
  have h : (strB (nums S)).data.toList = S.data.toList := by
    unfold strB nums
    rw [strOfNums_data, List.map_map, List.map_map]
    have : (((fun n : Int => UInt8.ofNat n.toNat) ∘ Int.ofNat) ∘ fun b : UInt8 => b.toNat) = id := by
      funext b
      simp
    rw [this, List.map_id]
  have h2 : (strB (nums S)).data = S.data := Array.ext' h
  cases S
  cases e : strB (nums _) with
  | mk d => rw [e] at h2; simp only at h2; rw [h2]
theorem nums_strB {bs : List Nat} (h : ∀ x ∈ bs, x < 256) : nums (strB bs) = bs := by
  have h2 := strB_nums (strB bs)
  exact strB_inj (nums_dig _) h (by rw [h2])
def szc (o : Sl) : Nat := if o.isSome = true then sz o + 1 else 0
def headM (l : List Sl) : List Nat := l.flatMap fun o => [szc o / 256, szc o % 256]
def recsM (l : List Sl) : List Nat := l.flatMap fun o => nums (recOf o)
def bytesM (l : List Sl) : List Nat := [l.length] ++ headM l ++ recsM l ++ List.replicate (512 - need l) 0
theorem headM_snoc (l : List Sl) (o : Sl) : headM (l ++ [o]) = headM l ++ [szc o / 256, szc o % 256] := by unfold headM; simp
theorem recsM_snoc (l : List Sl) (o : Sl) : recsM (l ++ [o]) = recsM l ++ nums (recOf o) := by unfold recsM; simp
theorem headM_len (l : List Sl) : (headM l).length = 2 * l.length := by
  unfold headM
  induction l with
  | nil => rfl
  | cons a l ih => simp only [List.flatMap_cons, List.length_append, List.length_cons, List.length_nil]; rw [ih]; omega
theorem recsM_len (l : List Sl) : (recsM l).length = tot l := by
  unfold recsM tot
  induction l with
  | nil => rfl
  | cons a l ih => simp only [List.flatMap_cons, List.length_append, List.map_cons, List.sum_cons]; rw [ih, nums_len]; rfl
theorem szc_le {o : Sl} (h : sz o ≤ 512) : szc o ≤ 513 := by unfold szc; split <;> omega
theorem headM_dig {l : List Sl} (h : ∀ o ∈ l, sz o ≤ 512) : ∀ x ∈ headM l, x < 256 := fun x hx => by
  obtain ⟨o, ho, hx⟩ := List.mem_flatMap.1 hx
  have := szc_le (h o ho)
  simp at hx
  rcases hx with rfl | rfl <;> omega
theorem recsM_dig (l : List Sl) : ∀ x ∈ recsM l, x < 256 := fun x hx => by
  obtain ⟨o, _, hx⟩ := List.mem_flatMap.1 hx
  exact nums_dig _ x hx
theorem Okp.sz512 {l : List Sl} (h : Okp l) : ∀ o ∈ l, Go.Proofs.YtldkmkgkllgckaaDoor.sz o ≤ 512 := fun o ho => by have := h.sz o ho; omega
theorem bytesM_dig {l : List Sl} (h : Okp l) : ∀ x ∈ bytesM l, x < 256 := by
  unfold bytesM
  refine dig_append (dig_append (dig_append (fun x hx => ?_) (headM_dig h.sz512)) (recsM_dig l)) (fun x hx => ?_)
  · simp at hx; have := h.len; omega
  · obtain rfl := (List.mem_replicate.1 hx).2; omega
theorem bytesM_len {l : List Sl} (h : Okp l) : (bytesM l).length = 512 := by
  unfold bytesM
  have := h.need
  rw [List.length_append, List.length_append, List.length_append, headM_len, recsM_len, List.length_replicate]
  unfold need at *
  simp; omega
/-- A page's bytes, as a string. -/
def bytesS (l : List Sl) : ByteArray := strB (bytesM l)
theorem bytesS_size {l : List Sl} (h : Okp l) : (bytesS l).size = 512 := by unfold bytesS; rw [strB_size, bytesM_len h]
end Go.Proofs.YtldkmkgkllgckaaDoor
