/- A number that is laid into bytes. -/
import Derived.Test.YtnjlhallkgacjaaOnly
namespace Go.Proofs.Ytnjlhallkgacjaa
open Go.RowKit

def putN (us : List Nat) (o k n : Nat) : Nat → List Nat
  | 0 => us
  | j + 1 => (putN us o k n j).set (o + (k - 1 - j)) (n / 256 ^ j % 256)
theorem putN_len (us : List Nat) (o k n j : Nat) : (putN us o k n j).length = us.length := by
  induction j with
  | zero => rfl
  | succ j ih => show ((putN us o k n j).set _ _).length = _; rw [List.length_set, ih]
theorem getD_set (l : List Nat) (i v j : Nat) (h : i < l.length) : (l.set i v).getD j 0 = if i = j then v else l.getD j 0 := by
  rw [List.getD_eq_getElem?_getD, List.getD_eq_getElem?_getD, List.getElem?_set]
  split
  · rename_i e
    subst e
    rfl
  · rfl
theorem putN_get (us : List Nat) (o k n j i : Nat) (h : o + k ≤ us.length) (hj : j ≤ k) :
    (putN us o k n j).getD i 0 = if o + k - j ≤ i ∧ i < o + k then n / 256 ^ (o + k - 1 - i) % 256 else us.getD i 0 := by
  induction j with
  | zero => rw [if_neg (by omega)]; rfl
  | succ j ih =>
    show ((putN us o k n j).set (o + (k - 1 - j)) (n / 256 ^ j % 256)).getD i 0 = _
    rw [getD_set _ _ _ _ (by rw [putN_len]; omega), ih (by omega)]
    by_cases h1 : o + (k - 1 - j) = i
    · rw [if_pos h1, if_pos (by omega), show o + k - 1 - i = j by omega]
    · rw [if_neg h1]
      by_cases h2 : o + k - j ≤ i ∧ i < o + k
      · rw [if_pos h2, if_pos (by omega)]
      · rw [if_neg h2, if_neg (by omega)]
theorem list_ext_getD {a b : List Nat} (hl : a.length = b.length) (h : ∀ i, i < a.length → a.getD i 0 = b.getD i 0) : a = b := by
  apply List.ext_getElem hl
  intro i h1 h2
  have := h i h1
  rw [List.getD_eq_getElem?_getD, List.getD_eq_getElem?_getD, List.getElem?_eq_getElem h1, List.getElem?_eq_getElem h2] at this
  exact this
/-- Bytes laid over others. -/
def lay (us : List Nat) (o : Nat) (bs : List Nat) : List Nat := us.take o ++ (bs ++ us.drop (o + bs.length))
theorem lay_len (us : List Nat) (o : Nat) (bs : List Nat) (h : o + bs.length ≤ us.length) : (lay us o bs).length = us.length := by
  unfold lay; rw [List.length_append, List.length_append, List.length_take, List.length_drop]; omega
theorem getD_app (a b : List Nat) (i : Nat) : (a ++ b).getD i 0 = if i < a.length then a.getD i 0 else b.getD (i - a.length) 0 := by
  rw [List.getD_eq_getElem?_getD, List.getD_eq_getElem?_getD, List.getD_eq_getElem?_getD]
  split
  · rename_i h; rw [List.getElem?_append_left h]
  · rename_i h; rw [List.getElem?_append_right (by omega)]
theorem lay_get (us : List Nat) (o : Nat) (bs : List Nat) (h : o + bs.length ≤ us.length) (i : Nat) :
    (lay us o bs).getD i 0 = if o ≤ i ∧ i < o + bs.length then bs.getD (i - o) 0 else us.getD i 0 := by
  unfold lay
  have hl : (us.take o).length = o := by rw [List.length_take]; omega
  rw [getD_app, hl]
  by_cases h1 : i < o
  · rw [if_pos h1, if_neg (by omega), getD_take _ _ _ h1]
  · rw [if_neg h1, getD_app]
    by_cases h2 : i - o < bs.length
    · rw [if_pos h2, if_pos (by omega)]
    · rw [if_neg h2, if_neg (by omega), getD_drop]
      congr 1; omega
theorem putN_all (us : List Nat) (o k n : Nat) (h : o + k ≤ us.length) : putN us o k n k = lay us o (be k n) := by
  have hl : o + (be k n).length ≤ us.length := by rw [be_len]; exact h
  refine list_ext_getD (by rw [putN_len, lay_len _ _ _ hl]) fun i _ => ?_
  rw [putN_get _ _ _ _ _ _ h (Nat.le_refl _), lay_get _ _ _ hl, be_len]
  by_cases h1 : o ≤ i ∧ i < o + k
  · rw [if_pos (by omega), if_pos h1, be_get _ _ _ (by omega)]
    congr 3; omega
  · rw [if_neg (by omega), if_neg h1]
structure PutRel (w wr : World) (g N : Nat) (us : List Nat) (o k n j : Nat) : Prop where
  row : Row5 wr g N (putN us o k n j)
  only : Only g w wr
theorem PutRel.next {w wr : World} {g N : Nat} {us : List Nat} {o k n j : Nat} (h : PutRel w wr g N us o k n j) :
    PutRel w (wr.setCell ⟨g, o + (k - 1 - j), none⟩ (.int .u8 ((n / 256 ^ j % 256 : Nat) : Int))) g N us o k n (j + 1) :=
  ⟨h.row.put _ _, h.only.trans (Only.setCell _ _ _ _)⟩
set_option maxHeartbeats 1600000 in
theorem put_4 (g N o c n : Nat) (us : List Nat) (w : World) (hR : Row5 w g N us) (hk : o + 4 ≤ N) (hn : n ≤ 4611686018427387904) :
    Calls Try.prog 25 #[.slice (some ⟨g, o, none⟩) 4 c, .int .i64 (n : Int)] w fun e w' => e = .returned (.tuple #[]) ∧ Row5 w' g N (lay us o (be 4 n)) ∧ Only g w w' := by
  have HP := Lib.hid (putN_all us o 4 n (by rw [hR.len]; exact hk))
  have H0 : Hid (PutRel w w g N us o 4 n 0) := Lib.hid ⟨hR, Only.refl _ _⟩
  clear hR
  go_enter Try.func25, Try.ntmps25
  go_wp2_with fail
  go_loopw [7] (fun iv wr => ∃ j : Nat, j ≤ 4 ∧ iv = .int .i64 (j : Int) ∧ Hid (PutRel w wr g N us o 4 n j)) (fun iv _ => 4 - (intOf iv).toNat)
  case atStart => exact ⟨0, by omega, by go_num, H0⟩
  case round =>
    obtain ⟨j, hj, rfl, HR⟩ := hrel
    by_cases hlt : j < 4
    · have hf := HR.out.row.fz (o + (4 - 1 - j))
      have hc := HR.out.row.cell (o + (4 - 1 - j)) (by omega)
      have HN := Lib.hid HR.out.next
      clear HR H0
      generalize (putN us o 4 n j).getD (o + (4 - 1 - j)) 0 = old at *
      rcases (show j = 0 ∨ j = 1 ∨ j = 2 ∨ j = 3 by omega) with rfl | rfl | rfl | rfl
      all_goals
        simp only [Nat.reduceSub, Nat.add_zero] at hc hf
        go_wp2_with fail
        go_roundw
        case rel =>
          refine ⟨_, hlt, by go_num, ?_⟩
          first
            | exact HN
            | (rw [Nat.pow_zero, Nat.div_one] at HN; exact HN)
            | (rw [Nat.mod_eq_of_lt (show n / 256 ^ 7 < 256 by omega)] at HN; exact HN)
        case measure => simp [intOf]
    · obtain rfl : j = 4 := by omega
      have HE := Lib.hid HR.out.row
      rw [HP.out] at HE
      have HO := Lib.hid HR.out.only
      clear HR H0 HP
      go_wp2_with fail
      go_end0
      exact ⟨rfl, HE.out, HO.out⟩
set_option maxHeartbeats 1600000 in
theorem put_8 (g N o c n : Nat) (us : List Nat) (w : World) (hR : Row5 w g N us) (hk : o + 8 ≤ N) (hn : n ≤ 4611686018427387904) :
    Calls Try.prog 25 #[.slice (some ⟨g, o, none⟩) 8 c, .int .i64 (n : Int)] w fun e w' => e = .returned (.tuple #[]) ∧ Row5 w' g N (lay us o (be 8 n)) ∧ Only g w w' := by
  have HP := Lib.hid (putN_all us o 8 n (by rw [hR.len]; exact hk))
  have H0 : Hid (PutRel w w g N us o 8 n 0) := Lib.hid ⟨hR, Only.refl _ _⟩
  clear hR
  go_enter Try.func25, Try.ntmps25
  go_wp2_with fail
  go_loopw [7] (fun iv wr => ∃ j : Nat, j ≤ 8 ∧ iv = .int .i64 (j : Int) ∧ Hid (PutRel w wr g N us o 8 n j)) (fun iv _ => 8 - (intOf iv).toNat)
  case atStart => exact ⟨0, by omega, by go_num, H0⟩
  case round =>
    obtain ⟨j, hj, rfl, HR⟩ := hrel
    by_cases hlt : j < 8
    · have hf := HR.out.row.fz (o + (8 - 1 - j))
      have hc := HR.out.row.cell (o + (8 - 1 - j)) (by omega)
      have HN := Lib.hid HR.out.next
      clear HR H0
      generalize (putN us o 8 n j).getD (o + (8 - 1 - j)) 0 = old at *
      rcases (show j = 0 ∨ j = 1 ∨ j = 2 ∨ j = 3 ∨ j = 4 ∨ j = 5 ∨ j = 6 ∨ j = 7 by omega) with rfl | rfl | rfl | rfl | rfl | rfl | rfl | rfl
      all_goals
        simp only [Nat.reduceSub, Nat.add_zero] at hc hf
        go_wp2_with fail
        go_roundw
        case rel =>
          refine ⟨_, hlt, by go_num, ?_⟩
          first
            | exact HN
            | (rw [Nat.pow_zero, Nat.div_one] at HN; exact HN)
            | (rw [Nat.mod_eq_of_lt (show n / 256 ^ 7 < 256 by omega)] at HN; exact HN)
        case measure => simp [intOf]
    · obtain rfl : j = 8 := by omega
      have HE := Lib.hid HR.out.row
      rw [HP.out] at HE
      have HO := Lib.hid HR.out.only
      clear HR H0 HP
      go_wp2_with fail
      go_end0
      exact ⟨rfl, HE.out, HO.out⟩
end Go.Proofs.Ytnjlhallkgacjaa
