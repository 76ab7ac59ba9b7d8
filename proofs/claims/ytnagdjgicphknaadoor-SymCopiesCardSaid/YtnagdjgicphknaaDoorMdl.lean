/- Names, and the numbers of names: without memory. -/
import Derived.Test.YtnagdjgicphknaaDoorBytes
import Derived.Lib.Strings
import Derived.Lib.AppendStr
set_option linter.unusedSimpArgs false
namespace Go.Proofs.YtnagdjgicphknaaDoor
open Go.RowKit

theorem strB_size (bs : List Nat) : (strB bs).size = bs.length := by
  have h := congrArg List.length (strOfNums_data (bs.map Int.ofNat))
  simp only [List.length_map] at h
  unfold strB
  rw [← h]; rfl
def nums (S : ByteArray) : List Nat := S.data.toList.map fun b => b.toNat
theorem nums_len (S : ByteArray) : (nums S).length = S.size := by unfold nums; rw [List.length_map, Array.length_toList]; rfl
theorem nums_dig (S : ByteArray) : ∀ x ∈ nums S, x < 256 := fun x hx => by
  obtain ⟨b, _, rfl⟩ := List.mem_map.1 hx
  exact b.toNat_lt
theorem strCells_nums (S : ByteArray) : Lib.strCells S = u8s (nums S) := by
  unfold Lib.strCells u8s nums
  rw [List.map_map]; rfl
theorem strB_nums (S : ByteArray) : strB (nums S) = S := by
  have h : (strB (nums S)).data.toList = S.data.toList := by
    unfold strB nums
    rw [strOfNums_data, List.map_map, List.map_map]
    have : (((fun n : Int => UInt8.ofNat n.toNat) ∘ Int.ofNat) ∘ fun b : UInt8 => b.toNat) = id := by
      funext b
      simp
    rw [this, List.map_id]
  have h2 : (strB (nums S)).data = S.data := Array.ext' h
  cases S
  cases e : strB (nums _) with
  | mk d => rw [e] at h2; simp only at h2; rw [h2]
theorem nums_strB {bs : List Nat} (h : ∀ x ∈ bs, x < 256) : nums (strB bs) = bs := by
  have h2 := strB_nums (strB bs)
  exact strB_inj (nums_dig _) h (by rw [h2])
theorem nums_inj {S T : ByteArray} (h : nums S = nums T) : S = T := by rw [← strB_nums S, h, strB_nums T]
theorem strB_inj2 {xs ys : List Nat} (hx : ∀ x ∈ xs, x < 256) (hy : ∀ x ∈ ys, x < 256) (h : strB xs = strB ys) : xs = ys := strB_inj hx hy (by rw [h])
theorem nums_extract (S : ByteArray) (a b : Nat) : nums (S.extract a b) = ((nums S).drop a).take (b - a) := by
  unfold nums
  rw [ByteArray.data_extract, Array.toList_extract, List.extract_eq_take_drop, List.map_take, List.map_drop]
theorem extract_size (S : ByteArray) (a b : Nat) (h1 : a ≤ b) (h2 : b ≤ S.size) : (S.extract a b).size = b - a := by
  rw [← nums_len, nums_extract, List.length_take, List.length_drop, nums_len]; omega
def byteAt (S : ByteArray) (i : Nat) : Nat := (nums S).getD i 0
theorem byteAt_lt (S : ByteArray) (i : Nat) : byteAt S i < 256 := by
  unfold byteAt
  rw [List.getD_eq_getElem?_getD]
  cases e : (nums S)[i]? with
  | none => decide
  | some x => exact nums_dig S x (List.mem_of_getElem? e)
theorem index_any (S : ByteArray) (i : Nat) (hi : i < S.size) (w : World) :
    (Instr.index 9 (.string S) (.int .i64 (i : Int))).run Tryd.prog w = .ok (.int .u8 (byteAt S i : Int)) w := by
  rw [run_index_string w 9 S .i64 i Tryd.underlying9, dif_pos ⟨by omega, by omega⟩]
  have e : byteAt S i = (S[i]'hi).toNat := by
    unfold byteAt nums
    have h1 : S[i]'hi = S.data.toList[i]'(by rw [Array.length_toList]; exact hi) := rfl
    rw [List.getD_eq_getElem?_getD, List.getElem?_map, List.getElem?_eq_getElem (by rw [Array.length_toList]; exact hi), h1]
    rfl
  rw [e]
  rfl
/-- A byte of a name. -/
def chrB (x : Nat) : Bool := decide (33 ≤ x) && decide (x ≤ 126)
/-- May it be a name? -/
def okB (S : ByteArray) : Bool := decide (0 < S.size) && (decide (S.size ≤ 32) && (nums S).all chrB)
theorem okB_iff (S : ByteArray) : okB S = true ↔ 0 < S.size ∧ S.size ≤ 32 ∧ ∀ i, i < S.size → 33 ≤ byteAt S i ∧ byteAt S i ≤ 126 := by
  unfold okB
  simp only [Bool.and_eq_true, decide_eq_true_eq, List.all_eq_true]
  constructor
  · rintro ⟨h1, h2, h3⟩
    refine ⟨h1, h2, fun i hi => ?_⟩
    have hl : i < (nums S).length := by rw [nums_len]; exact hi
    have h4 := h3 _ (List.getElem_mem hl)
    unfold chrB at h4
    simp only [Bool.and_eq_true, decide_eq_true_eq] at h4
    unfold byteAt
    rw [List.getD_eq_getElem?_getD, List.getElem?_eq_getElem hl]
    exact h4
  · rintro ⟨h1, h2, h3⟩
    refine ⟨h1, h2, fun x hx => ?_⟩
    obtain ⟨i, hi, rfl⟩ := List.getElem_of_mem hx
    have h4 := h3 i (by rw [← nums_len]; exact hi)
    unfold byteAt at h4
    rw [List.getD_eq_getElem?_getD, List.getElem?_eq_getElem hi] at h4
    unfold chrB
    simpa using h4
instance decNam : DecidableEq ByteArray := fun a b => decidable_of_iff (a.data = b.data) ⟨fun h => by cases a; cases b; simp only at h; rw [h], fun h => by rw [h]⟩
instance decMem (S : ByteArray) : (L : List ByteArray) → Decidable (S ∈ L)
  | [] => isFalse (by simp)
  | x :: r => haveI := decMem S r; decidable_of_iff (S = x ∨ S ∈ r) List.mem_cons.symm
/-- The place of a name that is there. -/
def atN : List ByteArray → ByteArray → Nat
  | [], _ => 0
  | x :: r, S => if x = S then 0 else atN r S + 1
/-- The place of a name; -1: it isn't there. -/
def atI (L : List ByteArray) (S : ByteArray) : Int := if S ∈ L then (atN L S : Int) else -1
theorem atN_get : ∀ {L : List ByteArray} {S : ByteArray}, S ∈ L → L[atN L S]? = some S
  | [], S, h => by cases h
  | x :: r, S, h => by
    unfold atN
    by_cases e : x = S
    · rw [if_pos e, e]; rfl
    · rw [if_neg e]
      rcases List.mem_cons.1 h with h1 | h1
      · exact absurd h1.symm e
      · exact atN_get h1
theorem atN_lt {L : List ByteArray} {S : ByteArray} (h : S ∈ L) : atN L S < L.length := (List.getElem?_eq_some_iff.1 (atN_get h)).1
theorem atN_eq : ∀ {L : List ByteArray} {S : ByteArray} {i : Nat}, L.Nodup → L[i]? = some S → atN L S = i
  | [], S, i, _, h => by simp at h
  | x :: r, S, i, hn, h => by
    obtain ⟨h1, h2⟩ := List.nodup_cons.1 hn
    unfold atN
    cases i with
    | zero => simp at h; rw [if_pos h]
    | succ i =>
      simp only [List.getElem?_cons_succ] at h
      rw [if_neg (fun e => h1 (by rw [e]; exact List.mem_of_getElem? h)), atN_eq h2 h]
/-- A number's digits, below 1000. -/
def digs (n : Nat) : List Nat := if n < 10 then [48 + n] else if n < 100 then [48 + n / 10, 48 + n % 10] else [48 + n / 100, 48 + n / 10 % 10, 48 + n % 10]
theorem digs_step {n : Nat} (h1 : 10 ≤ n) (h2 : n < 1000) : digs n = digs (n / 10) ++ [48 + n % 10] := by
  unfold digs
  rw [if_neg (by omega)]
  by_cases h3 : n < 100
  · rw [if_pos h3, if_pos (by omega)]; rfl
  · rw [if_neg h3, if_neg (by omega), if_pos (by omega), show n / 10 / 10 = n / 100 by omega]; rfl
def tailM (n : Nat) : List Nat := 37 :: digs n
def candL (s : List Nat) (n : Nat) : List Nat := s.take (32 - (tailM n).length) ++ tailM n
/-- The name that is tried with this number. -/
def cand (S : ByteArray) (n : Nat) : ByteArray := strB (candL (nums S) n)
theorem tailM_len (n : Nat) : 2 ≤ (tailM n).length ∧ (tailM n).length ≤ 4 := by unfold tailM digs; split <;> (try split) <;> simp
theorem tailM_chr {n : Nat} (hn : n < 1000) : ∀ x ∈ tailM n, 33 ≤ x ∧ x ≤ 126 := by
  intro x hx
  unfold tailM digs at hx
  split at hx
  · simp at hx; omega
  · split at hx
    · simp at hx; omega
    · simp at hx; omega
theorem candL_dig {S : ByteArray} {n : Nat} (hn : n < 1000) : ∀ x ∈ candL (nums S) n, x < 256 := by
  intro x hx
  unfold candL at hx
  rcases List.mem_append.1 hx with h | h
  · exact nums_dig S x (List.mem_of_mem_take h)
  · have := tailM_chr hn x h; omega
theorem nums_cand {S : ByteArray} {n : Nat} (hn : n < 1000) : nums (cand S n) = candL (nums S) n := nums_strB (candL_dig hn)
theorem candL_inj {s : List Nat} {n m : Nat} (hn : n < 1000) (hm : m < 1000) (h : candL s n = candL s m) : n = m := by
  have hr := congrArg List.reverse h
  unfold candL tailM digs at hr
  simp only [List.reverse_append, List.reverse_cons] at hr
  by_cases h1 : n < 10 <;> by_cases h2 : m < 10 <;> by_cases h3 : n < 100 <;> by_cases h4 : m < 100 <;>
    first
      | (exfalso; omega)
      | (simp only [h1, h2, h3, h4, if_true, if_false] at hr; simp at hr; omega)
theorem cand_inj {S : ByteArray} {n m : Nat} (hn : n < 1000) (hm : m < 1000) (h : cand S n = cand S m) : n = m :=
  candL_inj hn hm (by rw [← nums_cand hn, ← nums_cand hm, h])
theorem cand_ok {S : ByteArray} (hS : okB S = true) {n : Nat} (hn : n < 1000) : okB (cand S n) = true := by
  unfold okB at hS ⊢
  simp only [Bool.and_eq_true, decide_eq_true_eq, List.all_eq_true] at hS ⊢
  have hl : (candL (nums S) n).length = min (32 - (tailM n).length) S.size + (tailM n).length := by
    unfold candL; rw [List.length_append, List.length_take, nums_len]
  have ht := tailM_len n
  rw [nums_cand hn, show (cand S n).size = (candL (nums S) n).length from strB_size _, hl]
  refine ⟨by omega, by omega, fun x hx => ?_⟩
  unfold candL at hx
  rcases List.mem_append.1 hx with h | h
  · exact hS.2.2 x (List.mem_of_mem_take h)
  · have := tailM_chr hn x h
    unfold chrB; simpa using this
theorem php {α : Type} [DecidableEq α] : ∀ (l L : List α), l.Nodup → (∀ x ∈ l, x ∈ L) → l.length ≤ L.length
  | [], _, _, _ => by simp
  | x :: r, L, hn, hs => by
    obtain ⟨h1, h2⟩ := List.nodup_cons.1 hn
    have hx : x ∈ L := hs x (by simp)
    have h3 := php r (L.erase x) h2 (fun y hy => (List.mem_erase_of_ne (fun e => h1 (by rw [← e]; exact hy))).2 (hs y (by simp [hy])))
    rw [List.length_erase_of_mem hx] at h3
    have := List.length_pos_of_mem hx
    simp only [List.length_cons]
    omega
/-- The least number from n on, among so many, whose name isn't there. -/
def seekN (L : List ByteArray) (S : ByteArray) : Nat → Nat → Nat
  | 0, n => n
  | f + 1, n => if cand S n ∈ L then seekN L S f (n + 1) else n
def frN (L : List ByteArray) (S : ByteArray) : Nat := seekN L S L.length 1
theorem seekN_spec (L : List ByteArray) (S : ByteArray) : ∀ (f n : Nat), n ≤ seekN L S f n ∧ seekN L S f n ≤ n + f ∧ (∀ k, n ≤ k → k < seekN L S f n → cand S k ∈ L) ∧ (seekN L S f n < n + f → cand S (seekN L S f n) ∉ L)
  | 0, n => ⟨Nat.le_refl _, by simp [seekN], fun k h1 h2 => by simp [seekN] at h2; omega, fun h => by simp [seekN] at h⟩
  | f + 1, n => by
    unfold seekN
    by_cases hc : cand S n ∈ L
    · rw [if_pos hc]
      obtain ⟨a1, a2, a3, a4⟩ := seekN_spec L S f (n + 1)
      refine ⟨by omega, by omega, fun k h1 h2 => ?_, fun h => a4 (by omega)⟩
      by_cases e : k = n
      · rw [e]; exact hc
      · exact a3 k (by omega) h2
    · rw [if_neg hc]
      exact ⟨Nat.le_refl _, by omega, fun k h1 h2 => by omega, fun _ => hc⟩
structure FrN (L : List ByteArray) (S : ByteArray) (n : Nat) : Prop where
  pos : 1 ≤ n
  le : n ≤ L.length + 1
  not_ : cand S n ∉ L
  all : ∀ k, 1 ≤ k → k < n → cand S k ∈ L
theorem frN_spec {L : List ByteArray} (S : ByteArray) (hL : L.length ≤ 998) : FrN L S (frN L S) := by
  obtain ⟨a1, a2, a3, a4⟩ := seekN_spec L S L.length 1
  refine ⟨a1, by unfold frN; omega, ?_, a3⟩
  intro hc
  have heq : frN L S = 1 + L.length := by
    rcases Nat.lt_or_ge (frN L S) (1 + L.length) with h | h
    · exact absurd hc (a4 h)
    · unfold frN at h ⊢; omega
  have h := php ((List.range (L.length + 1)).map fun k => cand S (k + 1)) L (by
    unfold List.Nodup
    rw [List.pairwise_map]
    refine List.nodup_range.imp_of_mem fun {a b} ha hb hab e => hab ?_
    rw [List.mem_range] at ha hb
    have := cand_inj (by omega) (by omega) e
    omega) (fun x hx => by
    obtain ⟨k, hk, rfl⟩ := List.mem_map.1 hx
    rw [List.mem_range] at hk
    by_cases e : k + 1 = frN L S
    · rw [e]; exact hc
    · exact a3 (k + 1) (by omega) (by show k + 1 < frN L S; omega))
  rw [List.length_map, List.length_range] at h
  omega
theorem FrN.eq {L : List ByteArray} {S : ByteArray} {n m : Nat} (h : FrN L S n) (k : FrN L S m) : n = m := by
  rcases Nat.lt_trichotomy n m with h1 | h1 | h1
  · exact absurd (k.all n h.pos h1) h.not_
  · exact h1
  · exact absurd (h.all m k.pos h1) k.not_
/-- The new name. -/
def fr (L : List ByteArray) (S : ByteArray) : ByteArray := cand S (frN L S)
/-- A table's names. -/
structure Okn (L : List ByteArray) : Prop where
  nd : L.Nodup
  ok : ∀ S ∈ L, okB S = true
theorem Okn.nil_ : Okn [] := ⟨List.nodup_nil, by simp⟩
theorem Okn.snoc {L : List ByteArray} (h : Okn L) {S : ByteArray} (hS : okB S = true) (hn : S ∉ L) : Okn (L ++ [S]) :=
  ⟨List.nodup_append.2 ⟨h.nd, by simp, fun a ha b hb e => by
    simp only [List.mem_singleton] at hb
    subst hb; subst e; exact hn ha⟩,
   fun T hT => by
    rcases List.mem_append.1 hT with h1 | h1
    · exact h.ok T h1
    · simp only [List.mem_singleton] at h1; subst h1; exact hS⟩
theorem fr_not {L : List ByteArray} (S : ByteArray) (hL : L.length ≤ 998) : fr L S ∉ L := (frN_spec S hL).not_
theorem fr_ok {L : List ByteArray} {S : ByteArray} (hS : okB S = true) (hL : L.length ≤ 998) : okB (fr L S) = true := cand_ok hS (by have := (frN_spec S hL).le; omega)
/-- A step as it is handed in. -/
structure Opv where
  kind : Int
  name : ByteArray
def Opv.val (o : Opv) : Value := .agg #[.int .i64 o.kind, .string o.name]
def numM (L : List ByteArray) (S : ByteArray) : List ByteArray := if okB S = true then (if S ∈ L then L else L ++ [S]) else L
def frM (L : List ByteArray) (S : ByteArray) : List ByteArray := if okB S = true then L ++ [fr L S] else L
/-- What a step makes of the names. -/
def opM (L : List ByteArray) (o : Opv) : List ByteArray := if o.kind = 0 then numM L o.name else if o.kind = 1 then frM L o.name else L
theorem numM_len (L : List ByteArray) (S : ByteArray) : (numM L S).length ≤ L.length + 1 := by unfold numM; split <;> (try split) <;> simp
theorem frM_len (L : List ByteArray) (S : ByteArray) : (frM L S).length ≤ L.length + 1 := by unfold frM; split <;> simp
theorem opM_len (L : List ByteArray) (o : Opv) : (opM L o).length ≤ L.length + 1 := by
  unfold opM
  split
  · exact numM_len _ _
  · split
    · exact frM_len _ _
    · omega
theorem Okn.num {L : List ByteArray} (h : Okn L) (S : ByteArray) : Okn (numM L S) := by
  unfold numM
  split
  · rename_i h1
    split
    · exact h
    · rename_i h2; exact h.snoc h1 h2
  · exact h
theorem Okn.fr {L : List ByteArray} (h : Okn L) (S : ByteArray) (hL : L.length ≤ 998) : Okn (frM L S) := by
  unfold frM
  split
  · rename_i h1; exact h.snoc (fr_ok h1 hL) (fr_not S hL)
  · exact h
theorem Okn.op {L : List ByteArray} (h : Okn L) (o : Opv) (hL : L.length ≤ 998) : Okn (opM L o) := by
  unfold opM
  split
  · exact h.num _
  · split
    · exact h.fr _ hL
    · exact h
end Go.Proofs.YtnagdjgicphknaaDoor
