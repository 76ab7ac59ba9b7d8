/- The small calls: New, Len, Find, Name, full, Less; of none. -/
import Derived.Test.YtnagdjgicphknaaDoorMay
import Derived.Deep.AppendLies
set_option linter.unusedSimpArgs false
namespace Go.Proofs.YtnagdjgicphknaaDoor
open Go.RowKit

/-- The name by its number, empty. -/
def nameM (L : List ByteArray) (i : Int) : ByteArray := if 0 ≤ i then (L[i.toNat]?).getD ⟨#[]⟩ else ⟨#[]⟩
theorem new_any (w : World) : Calls Tryd.prog 9 #[] w fun e w' => ∃ g F, e = .returned (.pointer (some ⟨g, 0, none⟩)) ∧ Tb w' g F [] ∧ (∀ k ∈ F, w.heap.size ≤ k) ∧ Below w.heap.size w w' := by
  have hmm := @run_makeMap Tryd.prog
  go_enter Tryd.func9, Tryd.ntmps9
  go_wp2_with fail
  go_ret
  refine ⟨_, foot (w.heap.size + 1) (.slice none 0 0) w.heap.size, rfl, ⟨_, w.heap.size, ⟨?_, Rf.nil_ _, ?_, Okn.nil_⟩, rfl⟩, ?_, ((Below.refl _ _).alloc (Nat.le_refl _) _).alloc (by simp) _⟩
  · have h1 := heap_alloc_new (w.alloc (.map #[] 0)) (.cells #[.slice none 0 0, .map (some w.heap.size)] 49)
    rwa [show (w.alloc (.map #[] 0)).heap.size = w.heap.size + 1 by simp] at h1
  · exact (Frs.made w).same (Below.heap_alloc _ _ _ (by simp))
  · intro k hk
    simp [foot, Value.ownBlock] at hk
    omega
section
variable {w : World} {g : Nat} {F : List Nat} {L : List ByteArray}
theorem len_any (h : Tb w g F L) : Calls Tryd.prog 19 #[.pointer (some ⟨g, 0, none⟩)] w fun e w' => e = .returned (.int .i64 (L.length : Int)) ∧ w = w' := by
  obtain ⟨v, mb, h, rfl⟩ := h
  have c0 := h.c0
  obtain ⟨q, c, rfl⟩ := h.form
  clear h
  go_enter Tryd.func19, Tryd.ntmps19
  go_wp2_with fail
  go_ret
  exact ⟨rfl, rfl⟩
theorem len_nil (w : World) : Calls Tryd.prog 19 #[.pointer none] w fun e w' => e = .returned (.int .i64 0) ∧ w = w' := by
  go_enter Tryd.func19, Tryd.ntmps19
  go_wp2_with fail
  go_ret
  exact ⟨rfl, rfl⟩
theorem full_any (h : Tb w g F L) (hl : L.length ≤ 1000) : Calls Tryd.prog 23 #[.pointer (some ⟨g, 0, none⟩)] w fun e w' => e = .returned (.bool false) ∧ w = w' := by
  obtain ⟨v, mb, h, rfl⟩ := h
  have c0 := h.c0
  obtain ⟨q, c, rfl⟩ := h.form
  clear h
  have hd : decide ((16384 : Int) ≤ (L.length : Int)) = false := by simp; omega
  go_enter Tryd.func23, Tryd.ntmps23
  go_wp2_with fail
  go_ret
  exact ⟨rfl, rfl⟩
theorem find_any (h : Tb w g F L) (S : ByteArray) (hS : S.size ≤ 140737488355328) : Calls Tryd.prog 15 #[.pointer (some ⟨g, 0, none⟩), .string S] w fun e w' => e = .returned (.tuple #[.int .i64 (numI L S), .bool (decide (S ∈ L))]) ∧ w = w' := by
  obtain ⟨v, mb, h, rfl⟩ := h
  have c1 := h.c1
  have hlk := h.map.look S hS
  clear h
  generalize numI L S = x at *
  generalize decide (S ∈ L) = y at *
  go_enter Tryd.func15, Tryd.ntmps15
  go_wp2_with fail
  go_ret2
  exact ⟨rfl, rfl⟩
theorem find_nil (S : ByteArray) (w : World) : Calls Tryd.prog 15 #[.pointer none, .string S] w fun e w' => e = .returned (.tuple #[.int .i64 0, .bool false]) ∧ w = w' := by
  go_enter Tryd.func15, Tryd.ntmps15
  go_wp2_with fail
  go_ret2
  exact ⟨rfl, rfl⟩
theorem name_any (h : Tb w g F L) (i : Int) : Calls Tryd.prog 16 #[.pointer (some ⟨g, 0, none⟩), .int .i64 i] w fun e w' => e = .returned (.string (nameM L i)) ∧ w = w' := by
  have HLEN := Lib.hid (len_any h)
  by_cases h0 : i < 0
  · have hd : decide (i < 0) = true := by simpa using h0
    rw [show nameM L i = ⟨#[]⟩ by unfold nameM; rw [if_neg (by omega)]]
    clear h
    go_enter Tryd.func16, Tryd.ntmps16
    go_wp2_with fail
    go_ret
    exact ⟨rfl, rfl⟩
  · have hd : decide (i < 0) = false := by simpa using h0
    obtain ⟨k, rfl⟩ : ∃ k : Nat, i = (k : Int) := ⟨i.toNat, by omega⟩
    have hnm : nameM L (k : Int) = (L[k]?).getD ⟨#[]⟩ := by unfold nameM; rw [if_pos (by omega), Int.toNat_natCast]
    rw [hnm]
    clear hnm h0
    cases hk : L[k]? with
    | none =>
      have hle : L.length ≤ k := List.getElem?_eq_none_iff.1 hk
      have hd2 : decide ((L.length : Int) ≤ (k : Int)) = true := by simp; omega
      clear h hk
      go_enter Tryd.func16, Tryd.ntmps16
      go_wp2_with (refine HLEN.out.mono ?_; rintro e w1 ⟨rfl, rfl⟩)
      go_ret
      exact ⟨rfl, rfl⟩
    | some S =>
      have hlt : k < L.length := (List.getElem?_eq_some_iff.1 hk).1
      have hd2 : decide ((L.length : Int) ≤ (k : Int)) = false := by simp; omega
      obtain ⟨v, mb, h, rfl⟩ := h
      have c0 := h.c0
      obtain ⟨b, c, rfl, hc, hcell⟩ := h.row.at hk
      clear h hk
      have hki : (k : Int) < (L.length : Int) := by omega
      go_enter Tryd.func16, Tryd.ntmps16
      go_wp2_with (refine HLEN.out.mono ?_; rintro e w1 ⟨rfl, rfl⟩)
      go_ret
      exact ⟨rfl, rfl⟩
theorem name_nil (i : Int) (w : World) : Calls Tryd.prog 16 #[.pointer none, .int .i64 i] w fun e w' => e = .returned (.string ⟨#[]⟩) ∧ w = w' := by
  have HLEN := Lib.hid (len_nil w)
  by_cases h0 : i < 0
  · have hd : decide (i < 0) = true := by simpa using h0
    go_enter Tryd.func16, Tryd.ntmps16
    go_wp2_with fail
    go_ret
    exact ⟨rfl, rfl⟩
  · have hd : decide (i < 0) = false := by simpa using h0
    have hd2 : decide ((0 : Int) ≤ i) = true := by simp; omega
    go_enter Tryd.func16, Tryd.ntmps16
    go_wp2_with (refine HLEN.out.mono ?_; rintro e w1 ⟨rfl, rfl⟩)
    go_ret
    exact ⟨rfl, rfl⟩
/-- Does a name come ahead? -/
def lessM (a b : ByteArray) : Bool := if a.size = b.size then Op.bytesLess a.toList b.toList else decide (a.size < b.size)
theorem less_any (a b : ByteArray) (w : World) : Calls Tryd.prog 21 #[.string a, .string b] w fun e w' => e = .returned (.bool (lessM a b)) ∧ w = w' := by
  by_cases hl : a.size = b.size
  · have he : ((a.size : Int) == (b.size : Int)) = true := by rw [hl]; simp
    rw [show lessM a b = Op.bytesLess a.toList b.toList by unfold lessM; rw [if_pos hl]]
    go_enter Tryd.func21, Tryd.ntmps21
    go_wp2_with fail
    go_ret
    exact ⟨rfl, rfl⟩
  · have he : ((a.size : Int) == (b.size : Int)) = false := by simp; omega
    rw [show lessM a b = decide (a.size < b.size) by unfold lessM; rw [if_neg hl]]
    have hb : ((a.size : Int) != (b.size : Int)) = true := by simp; omega
    go_enter Tryd.func21, Tryd.ntmps21
    go_wp2_with fail
    go_ret
    exact ⟨rfl, rfl⟩
end
end Go.Proofs.YtnagdjgicphknaaDoor
