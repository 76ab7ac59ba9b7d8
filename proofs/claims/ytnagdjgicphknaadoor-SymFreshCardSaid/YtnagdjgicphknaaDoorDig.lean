/- A number's digits, by the library and by the document. -/
import Derived.Test.YtnagdjgicphknaaDoorStr
set_option linter.unusedSimpArgs false
set_option maxRecDepth 20000
namespace Go.Proofs.YtnagdjgicphknaaDoor
open Go.RowKit

def kDig : ByteArray := ⟨#[48, 49, 50, 51, 52, 53, 54, 55, 56, 57, 97, 98, 99, 100, 101, 102, 103, 104, 105, 106, 107, 108, 109, 110, 111, 112, 113, 114, 115, 116, 117, 118, 119, 120, 121, 122]⟩
def kTwo : ByteArray := ⟨#[48, 48, 48, 49, 48, 50, 48, 51, 48, 52, 48, 53, 48, 54, 48, 55, 48, 56, 48, 57, 49, 48, 49, 49, 49, 50, 49, 51, 49, 52, 49, 53, 49, 54, 49, 55, 49, 56, 49, 57, 50, 48, 50, 49, 50, 50, 50, 51, 50, 52, 50, 53, 50, 54, 50, 55, 50, 56, 50, 57, 51, 48, 51, 49, 51, 50, 51, 51, 51, 52, 51, 53, 51, 54, 51, 55, 51, 56, 51, 57, 52, 48, 52, 49, 52, 50, 52, 51, 52, 52, 52, 53, 52, 54, 52, 55, 52, 56, 52, 57, 53, 48, 53, 49, 53, 50, 53, 51, 53, 52, 53, 53, 53, 54, 53, 55, 53, 56, 53, 57, 54, 48, 54, 49, 54, 50, 54, 51, 54, 52, 54, 53, 54, 54, 54, 55, 54, 56, 54, 57, 55, 48, 55, 49, 55, 50, 55, 51, 55, 52, 55, 53, 55, 54, 55, 55, 55, 56, 55, 57, 56, 48, 56, 49, 56, 50, 56, 51, 56, 52, 56, 53, 56, 54, 56, 55, 56, 56, 56, 57, 57, 48, 57, 49, 57, 50, 57, 51, 57, 52, 57, 53, 57, 54, 57, 55, 57, 56, 57, 57]⟩
theorem kDig_at : ∀ n, n < 10 → nums (kDig.extract n (n + 1)) = digs n := by decide +kernel
theorem kTwo_at : ∀ n, n < 100 → 10 ≤ n → nums (kTwo.extract (n * 2) (n * 2 + 2)) = digs n := by decide +kernel
theorem digs_dig {n : Nat} (hn : n < 100) : ∀ x ∈ digs n, x < 256 := by
  intro x hx
  unfold digs at hx
  split at hx <;> simp at hx <;> omega
theorem digs_len (n : Nat) : 1 ≤ (digs n).length ∧ (digs n).length ≤ 2 := by unfold digs; split <;> simp
theorem small_any (n : Nat) (hn : n < 100) (w : World) : Calls Tryd.prog 35 #[.int .i64 (n : Int)] w fun e w' => e = .returned (.string (strB (digs n))) ∧ w = w' := by
  by_cases h1 : n < 10
  · have hd : decide ((n : Int) < 10) = true := by simp; omega
    have HE : Hid (kDig.extract n (n + 1) = strB (digs n)) := Lib.hid (nums_inj (by rw [nums_strB (digs_dig hn)]; exact kDig_at n h1))
    go_enter Tryd.func35, Tryd.ntmps35
    go_wp2_with fail
    go_ret
    exact ⟨congrArg (fun s => Ending.returned (Value.string s)) HE.out, rfl⟩
  · have hd : decide ((n : Int) < 10) = false := by simp; omega
    have HE : Hid (kTwo.extract (n * 2) (n * 2 + 2) = strB (digs n)) := Lib.hid (nums_inj (by rw [nums_strB (digs_dig hn)]; exact kTwo_at n hn (by omega)))
    go_enter Tryd.func35, Tryd.ntmps35
    go_wp2_with fail
    go_ret
    exact ⟨congrArg (fun s => Ending.returned (Value.string s)) HE.out, rfl⟩
section
variable {w : World} {B : Nat} {v : Value} {bs : List Nat}
/-- What the three calls that write a number's digits leave. -/
def DigR (w : World) (B : Nat) (v : Value) (bs : List Nat) (n : Nat) (e : Ending) (w' : World) : Prop := ∃ v', e = .returned v' ∧ Byr w' B v' (bs ++ digs n) ∧ Apd w w' v v'
theorem uint_any (h : Byr w B v bs) (hB : B ≤ w.heap.size) (hl : bs.length ≤ 1000) (n : Nat) (hn : n < 100) : Calls Tryd.prog 34 #[v, .int .u64 (n : Int), .int .i64 10] w (DigR w B v bs n) := by
  have HB := Lib.hid h
  have HS := Lib.hid (small_any n hn w)
  have HL : Hid (bs.length + (strB (digs n)).size ≤ 1000000) := Lib.hid (by rw [strB_size]; have := (digs_len n).2; omega)
  have HN : Hid (nums (strB (digs n)) = digs n) := Lib.hid (nums_strB (digs_dig hn))
  obtain ⟨q, c, rfl⟩ := h.form
  have hd : decide ((n : Int) < 100) = true := by simp; omega
  generalize strB (digs n) = S at *
  clear h
  go_enter Tryd.func34, Tryd.ntmps34
  go_wp2_with (first
    | (go_at_call 35; refine HS.out.mono ?_; rintro e w1 ⟨rfl, rfl⟩)
    | (at_builtin; refine wpList_append_str _ rfl (.tmp 13) (.tmp 16) rfl B _ bs rfl HB.out S rfl HL.out hB ?_; intro v1 w1 hv1 ha1))
  go_ret
  exact ⟨_, rfl, by rw [← HN.out]; exact hv1, ha1⟩
theorem iint_any (h : Byr w B v bs) (hB : B ≤ w.heap.size) (hl : bs.length ≤ 1000) (n : Nat) (hn : n < 100) : Calls Tryd.prog 33 #[v, .int .i64 (n : Int), .int .i64 10] w (DigR w B v bs n) := by
  have HS := Lib.hid (uint_any h hB hl n hn)
  obtain ⟨q, c, rfl⟩ := h.form
  have hd : decide ((n : Int) < 0) = false := by simp
  clear h
  go_enter Tryd.func33, Tryd.ntmps33
  go_wp2_with (refine HS.out.mono ?_; rintro e w1 ⟨v1, rfl, h1, h2⟩)
  go_ret
  exact ⟨_, rfl, h1, h2⟩
theorem int_any (h : Byr w B v bs) (hB : B ≤ w.heap.size) (hl : bs.length ≤ 1000) (n : Nat) (hn : n < 100) : Calls Tryd.prog 31 #[v, .int .i64 (n : Int), .int .i64 10] w (DigR w B v bs n) := by
  have HS := Lib.hid (iint_any h hB hl n hn)
  obtain ⟨q, c, rfl⟩ := h.form
  clear h
  go_enter Tryd.func31, Tryd.ntmps31
  go_wp2_with (refine HS.out.mono ?_; rintro e w1 ⟨v1, rfl, h1, h2⟩)
  go_ret
  exact ⟨_, rfl, h1, h2⟩
end
end Go.Proofs.YtnagdjgicphknaaDoor
