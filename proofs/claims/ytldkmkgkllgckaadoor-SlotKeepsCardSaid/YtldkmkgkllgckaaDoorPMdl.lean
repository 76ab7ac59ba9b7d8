/- The page of bytes. -/
import Derived.Test.YtldkmkgkllgckaaDoorBMdl
import Derived.Test.YtldkmkgkllgckaaDoorRBytes
import Derived.Lib.Strings
set_option linter.unusedSimpArgs false
namespace Go.Proofs.YtldkmkgkllgckaaDoor
open Go.RowKit

theorem nums_inj {S T : ByteArray} (h : nums S = nums T) : S = T := by rw [← strB_nums S, h, strB_nums T]
theorem nums_extract (S : ByteArray) (a b : Nat) : nums (S.extract a b) = ((nums S).drop a).take (b - a) := by
  unfold nums
  rw [ByteArray.data_extract, Array.toList_extract, List.extract_eq_take_drop, List.map_take, List.map_drop]
def byteAt (S : ByteArray) (i : Nat) : Nat := (nums S).getD i 0
theorem byteAt_lt (S : ByteArray) (i : Nat) : byteAt S i < 256 := by
  unfold byteAt
  rw [List.getD_eq_getElem?_getD]
  cases e : (nums S)[i]? with
  | none => decide
  | some x => exact nums_dig S x (List.mem_of_getElem? e)
theorem index_any (S : ByteArray) (i : Nat) (hi : i < S.size) (w : World) :
    (Instr.index 9 (.string S) (.int .i64 (i : Int))).run Tryd.prog w = .ok (.int .u8 (byteAt S i : Int)) w := by
  rw [run_index_string w 9 S .i64 i Tryd.underlying9, dif_pos ⟨by omega, by omega⟩]
  have e : byteAt S i = (S[i]'hi).toNat := by
    unfold byteAt nums
    have h1 : S[i]'hi = S.data.toList[i]'(by rw [Array.length_toList]; exact hi) := rfl
    rw [List.getD_eq_getElem?_getD, List.getElem?_map, List.getElem?_eq_getElem (by rw [Array.length_toList]; exact hi), h1]
    rfl
  rw [e]
  rfl
def cntA (S : ByteArray) : Nat := byteAt S 0
def szA (S : ByteArray) (i : Nat) : Nat := byteAt S (1 + 2 * i) * 256 + byteAt S (2 + 2 * i)
theorem szA_le (S : ByteArray) (i : Nat) : szA S i ≤ 65535 := by have := byteAt_lt S (1 + 2 * i); have := byteAt_lt S (2 + 2 * i); unfold szA; omega
/-- One slot more. -/
def goS (S : ByteArray) (s : Nat) (l : List Sl) (a : Nat) : Option (List Sl × Nat) :=
  if s = 0 then some (l ++ [none], a) else if 480 < s - 1 ∨ 512 - a < s - 1 then none else some (l ++ [some (S.extract a (a + (s - 1)))], a + (s - 1))
def goF (S : ByteArray) : Nat → Option (List Sl × Nat)
  | 0 => some ([], 1 + 2 * cntA S)
  | k + 1 => match goF S k with | none => none | some (l, a) => goS S (szA S k) l a
def zeroB (S : ByteArray) (a : Nat) : Bool := ((nums S).drop a).all (· == 0)
def parseM (S : ByteArray) : Option (List Sl) :=
  if 64 < cntA S then none else match goF S (cntA S) with
    | none => none
    | some (l, a) => if 0 < cntA S ∧ szA S (cntA S - 1) = 0 then none else if zeroB S a = true then some l else none
def parseE (S : ByteArray) : Int := if S.size < 512 then 3 else if 512 < S.size then 2 else if (parseM S).isSome = true then 0 else 4
theorem goF_none {S : ByteArray} {k : Nat} (h : goF S k = none) : ∀ j, k ≤ j → goF S j = none := by
  intro j hj
  induction j with
  | zero => obtain rfl : k = 0 := Nat.le_zero.1 hj; exact h
  | succ j ih =>
    by_cases e : k = j + 1
    · subst e; exact h
    · show (match goF S j with | none => none | some (l, a) => goS S (szA S j) l a) = none
      rw [ih (by omega)]
theorem goF_some {S : ByteArray} {k : Nat} {l : List Sl} {a : Nat} (h : goF S k = some (l, a)) : goF S (k + 1) = goS S (szA S k) l a := by
  show (match goF S k with | none => none | some (l, a) => goS S (szA S k) l a) = _
  rw [h]
/-- What holds of the slots so far. -/
structure Go9 (S : ByteArray) (k : Nat) (l : List Sl) (a : Nat) : Prop where
  len : l.length = k
  at_ : a = 1 + 2 * cntA S + tot l
  le : a ≤ 512
  szs : ∀ i, i < k → szc (slot l i) = szA S i
  sz : ∀ i, i < k → Go.Proofs.YtldkmkgkllgckaaDoor.sz (slot l i) ≤ 480
  head : headM l = ((nums S).drop 1).take (2 * k)
  recs : recsM l = ((nums S).drop (1 + 2 * cntA S)).take (tot l)
theorem take_getD (a : List Nat) (k : Nat) (h : k < a.length) : a.take (k + 1) = a.take k ++ [a.getD k 0] := by
  rw [List.take_succ_eq_append_getElem h, List.getD_eq_getElem?_getD, List.getElem?_eq_getElem h]; rfl
theorem go9 (S : ByteArray) (hS : S.size = 512) (hc : cntA S ≤ 64) (k : Nat) (hk : k ≤ cntA S) {l : List Sl} {a : Nat} (h : goF S k = some (l, a)) : Go9 S k l a := by
  have hl : (nums S).length = 512 := by rw [nums_len, hS]
  induction k generalizing l a with
  | zero => cases h; exact ⟨rfl, rfl, by omega, fun i hi => absurd hi (Nat.not_lt_zero i), fun i hi => absurd hi (Nat.not_lt_zero i), rfl, rfl⟩
  | succ k ih =>
    cases hg : goF S k with
    | none => rw [goF_none hg (k + 1) (Nat.le_succ k)] at h; cases h
    | some x =>
      obtain ⟨l0, a0⟩ := x
      have i0 := ih (by omega) hg
      rw [goF_some hg] at h
      have hhd : ∀ z, z = szA S k → headM l0 ++ [z / 256, z % 256] = ((nums S).drop 1).take (2 * (k + 1)) := by
        intro z hz
        have h1 := byteAt_lt S (1 + 2 * k)
        have h2 := byteAt_lt S (2 + 2 * k)
        rw [show 2 * (k + 1) = 2 * k + 1 + 1 by omega, take_getD _ (2 * k + 1) (by rw [List.length_drop]; omega), take_getD _ (2 * k) (by rw [List.length_drop]; omega), i0.head, List.append_assoc, getD_drop, getD_drop]
        congr 1
        show [z / 256, z % 256] = [byteAt S (1 + 2 * k), byteAt S (1 + (2 * k + 1))]
        rw [show 1 + (2 * k + 1) = 2 + 2 * k by omega, hz]
        unfold szA
        congr 1
        · omega
        · congr 1; omega
      have hrc : ∀ n, a0 + n ≤ 512 → recsM l0 ++ nums (S.extract a0 (a0 + n)) = ((nums S).drop (1 + 2 * cntA S)).take (tot l0 + n) := by
        intro n hn
        rw [nums_extract, Nat.add_sub_cancel_left, i0.recs, i0.at_, List.take_add, List.drop_drop]
      have hsl : ∀ o i, i < k + 1 → slot (l0 ++ [o]) i = if i = k then o else slot l0 i := fun o i hi => by rw [slot_snoc, i0.len]
      unfold goS at h
      split at h
      · rename_i hs
        cases h
        refine ⟨by rw [List.length_append, i0.len]; rfl, by rw [tot_append, tot_one, sz_none, Nat.add_zero]; exact i0.at_, i0.le, fun i hi => ?_, fun i hi => ?_, ?_, ?_⟩
        · rw [hsl _ i hi]
          split
          · rename_i e; subst e; rw [hs]; rfl
          · exact i0.szs i (by omega)
        · rw [hsl _ i hi]
          split
          · decide
          · exact i0.sz i (by omega)
        · rw [headM_snoc]; exact hhd _ (by rw [hs]; rfl)
        · rw [recsM_snoc, tot_append, tot_one, sz_none, Nat.add_zero, show nums (recOf none) = [] from rfl, List.append_nil]; exact i0.recs
      · rename_i hs
        split at h
        · cases h
        · rename_i hn
          cases h
          have hn1 : szA S k - 1 ≤ 480 := by omega
          have hn2 : a0 + (szA S k - 1) ≤ 512 := by have := i0.le; omega
          have hes : (S.extract a0 (a0 + (szA S k - 1))).size = szA S k - 1 := by
            rw [← nums_len, nums_extract, List.length_take, List.length_drop]; omega
          have hsz1 : Go.Proofs.YtldkmkgkllgckaaDoor.sz (some (S.extract a0 (a0 + (szA S k - 1)))) = szA S k - 1 := hes
          have hzc : szc (some (S.extract a0 (a0 + (szA S k - 1)))) = szA S k := by unfold szc; rw [hsz1]; simp; omega
          refine ⟨by rw [List.length_append, i0.len]; rfl, by rw [tot_append, tot_one, hsz1, ← Nat.add_assoc, ← i0.at_], hn2, fun i hi => ?_, fun i hi => ?_, ?_, ?_⟩
          · rw [hsl _ i hi]
            split
            · rename_i e; subst e; exact hzc
            · exact i0.szs i (by omega)
          · rw [hsl _ i hi]
            split
            · rw [hsz1]; exact hn1
            · exact i0.sz i (by omega)
          · rw [headM_snoc]; exact hhd _ hzc
          · rw [recsM_snoc, tot_append, tot_one, hsz1]
            exact hrc _ hn2
theorem zero_drop {S : ByteArray} {a : Nat} (h : zeroB S a = true) : (nums S).drop a = List.replicate ((nums S).length - a) 0 := by
  unfold zeroB at h
  apply List.eq_replicate_iff.2
  refine ⟨List.length_drop, fun x hx => ?_⟩
  simpa using List.all_eq_true.1 h x hx
/-- What is parsed is a page with just these bytes. -/
theorem parse_ok {S : ByteArray} (hS : S.size = 512) {l : List Sl} (h : parseM S = some l) : Okp l ∧ bytesS l = S := by
  have hl : (nums S).length = 512 := by rw [nums_len, hS]
  unfold parseM at h
  split at h
  · cases h
  · rename_i hc
    cases hg : goF S (cntA S) with
    | none => rw [hg] at h; cases h
    | some x =>
      obtain ⟨l0, a⟩ := x
      rw [hg] at h
      simp only at h
      split at h
      · cases h
      · rename_i hlast
        split at h
        · rename_i hz
          cases h
          have i0 := go9 S hS (by omega) _ (Nat.le_refl _) hg
          have hneed : need l = a := by unfold need; rw [i0.at_, i0.len]
          have hok : Okp l := okp_of (by rw [i0.len]; omega) (by rw [hneed]; exact i0.le) (by
            rcases Nat.eq_zero_or_pos (cntA S) with e | e
            · left; exact List.length_eq_zero_iff.1 (by rw [i0.len, e])
            · right
              rw [i0.len]
              have h1 := i0.szs (cntA S - 1) (by omega)
              have h2 : szA S (cntA S - 1) ≠ 0 := fun e2 => hlast ⟨e, e2⟩
              unfold szc at h1
              split at h1
              · assumption
              · omega) (fun i hi => i0.sz i (by rw [← i0.len]; exact hi))
          refine ⟨hok, nums_inj ?_⟩
          unfold bytesS
          rw [nums_strB (bytesM_dig hok)]
          unfold bytesM
          have hzd := zero_drop hz
          rw [hl] at hzd
          rw [hneed, ← hzd, i0.head, i0.recs, i0.len]
          have e1 : nums S = [cntA S] ++ (nums S).drop 1 := by
            show nums S = [(nums S).getD 0 0] ++ (nums S).drop 1
            have := take_getD (nums S) 0 (by omega)
            have h2 := List.take_append_drop 1 (nums S)
            rw [show (1 : Nat) = 0 + 1 from rfl, this] at h2
            simpa using h2.symm
          have e2 : (nums S).drop 1 = ((nums S).drop 1).take (2 * cntA S) ++ (nums S).drop (1 + 2 * cntA S) := by
            have := List.take_append_drop (2 * cntA S) ((nums S).drop 1)
            rw [List.drop_drop] at this
            exact this.symm
          have e3 : (nums S).drop (1 + 2 * cntA S) = ((nums S).drop (1 + 2 * cntA S)).take (tot l) ++ (nums S).drop a := by
            have := List.take_append_drop (tot l) ((nums S).drop (1 + 2 * cntA S))
            rw [List.drop_drop] at this
            rw [i0.at_]
            exact this.symm
          conv => rhs; rw [e1, e2, e3]
          simp only [List.append_assoc]
        · cases h
theorem headM_get (l : List Sl) (i : Nat) (h : i < l.length) : (headM l).getD (2 * i) 0 = szc (slot l i) / 256 ∧ (headM l).getD (2 * i + 1) 0 = szc (slot l i) % 256 := by
  induction l generalizing i with
  | nil => cases h
  | cons a l ih =>
    cases i with
    | zero => exact ⟨rfl, rfl⟩
    | succ i =>
      have h2 := ih i (by simpa using h)
      have e : headM (a :: l) = szc a / 256 :: szc a % 256 :: headM l := rfl
      rw [e, show 2 * (i + 1) = 2 * i + 1 + 1 by omega]
      exact h2
theorem recsM_split (l : List Sl) (k : Nat) (h : k < l.length) : recsM l = recsM (l.take k) ++ (nums (recOf (slot l k)) ++ recsM (l.drop (k + 1))) := by
  have e : l = l.take k ++ ([slot l k] ++ l.drop (k + 1)) := by
    rw [← List.append_assoc, ← take_slot h, List.take_append_drop]
  conv => lhs; rw [e]
  unfold recsM
  rw [List.flatMap_append, List.flatMap_append]
  simp
/-- A page's bytes are parsed as it. -/
theorem parse_back {l : List Sl} (h : Okp l) : parseM (bytesS l) = some l := by
  have hn : nums (bytesS l) = bytesM l := by unfold bytesS; exact nums_strB (bytesM_dig h)
  have hB : bytesM l = l.length :: (headM l ++ (recsM l ++ List.replicate (512 - need l) 0)) := by unfold bytesM; simp
  have hc : cntA (bytesS l) = l.length := by unfold cntA byteAt; rw [hn, hB]; rfl
  have hs : ∀ i, i < l.length → szA (bytesS l) i = szc (slot l i) := by
    intro i hi
    obtain ⟨h1, h2⟩ := headM_get l i hi
    have hl1 : 2 * i + 1 < (headM l).length := by rw [headM_len]; omega
    have b1 : byteAt (bytesS l) (1 + 2 * i) = szc (slot l i) / 256 := by
      unfold byteAt; rw [hn, hB, show 1 + 2 * i = 2 * i + 1 by omega]
      show (headM l ++ _).getD (2 * i) 0 = _
      rw [List.getD_eq_getElem?_getD, List.getElem?_append_left (by omega), ← List.getD_eq_getElem?_getD]; exact h1
    have b2 : byteAt (bytesS l) (2 + 2 * i) = szc (slot l i) % 256 := by
      unfold byteAt; rw [hn, hB, show 2 + 2 * i = 2 * i + 1 + 1 by omega]
      show (headM l ++ _).getD (2 * i + 1) 0 = _
      rw [List.getD_eq_getElem?_getD, List.getElem?_append_left hl1, ← List.getD_eq_getElem?_getD]; exact h2
    unfold szA
    rw [b1, b2]; omega
  have hrec : ∀ k, k < l.length → (bytesS l).extract (1 + 2 * l.length + tot (l.take k)) (1 + 2 * l.length + tot (l.take k) + sz (slot l k)) = recOf (slot l k) := by
    intro k hk
    apply nums_inj
    rw [nums_extract, Nat.add_sub_cancel_left, hn, hB]
    have e1 : (l.length :: (headM l ++ (recsM l ++ List.replicate (512 - need l) 0))).drop (1 + 2 * l.length + tot (l.take k)) = nums (recOf (slot l k)) ++ (recsM (l.drop (k + 1)) ++ List.replicate (512 - need l) 0) := by
      rw [show 1 + 2 * l.length + tot (l.take k) = ((2 * l.length) + tot (l.take k)) + 1 by omega, List.drop_succ_cons, ← List.drop_drop, List.drop_left' (headM_len l), recsM_split l k hk, List.append_assoc, List.append_assoc, List.drop_left' (recsM_len _)]
    rw [e1]
    exact List.take_left' (nums_len (recOf (slot l k)))
  have hg : ∀ k, k ≤ l.length → goF (bytesS l) k = some (l.take k, 1 + 2 * l.length + tot (l.take k)) := by
    intro k
    induction k with
    | zero => intro _; show some (([] : List Sl), 1 + 2 * cntA (bytesS l)) = _; rw [hc]; rfl
    | succ k ih =>
      intro hk
      rw [goF_some (ih (by omega)), hs k (by omega), take_slot (by omega), tot_append, tot_one]
      have h1 := h.szs k
      have h2 := hrec k (by omega)
      have h3 := tot_take_succ (l := l) (k := k) (by omega)
      have h4 := tot_take_le l (k + 1)
      have h5 := h.need
      unfold need at h5
      unfold goS
      cases e : slot l k with
      | none => rw [if_pos (show szc none = 0 from rfl), sz_none, Nat.add_zero]
      | some r =>
        rw [e] at h1 h2 h3
        have e2 : szc (some r) = sz (some r) + 1 := rfl
        rw [e2, if_neg (by omega), if_neg (by omega), Nat.add_sub_cancel, h2, Nat.add_assoc]
        rfl
  unfold parseM
  rw [hc, if_neg (by have := h.len; omega), hg l.length (Nat.le_refl _), List.take_length]
  simp only
  rw [if_neg, if_pos]
  · unfold zeroB
    rw [hn]
    unfold bytesM
    rw [List.drop_left' (by rw [List.length_append, List.length_append, headM_len, recsM_len]; rfl)]
    simp
  · rintro ⟨h1, h2⟩
    rw [hs _ (by omega)] at h2
    have := h.last.resolve_left (fun e => by subst e; simp at h1)
    unfold szc at h2
    rw [if_pos this] at h2
    omega
end Go.Proofs.YtldkmkgkllgckaaDoor
