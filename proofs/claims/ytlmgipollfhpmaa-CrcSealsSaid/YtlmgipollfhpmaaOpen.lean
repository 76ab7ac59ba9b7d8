/- What is told of sealed bytes, or of others. -/
import Derived.Test.YtlmgipollfhpmaaSeal
import Derived.Test.YtlmgipollfhpmaaShelf
import Derived.Deep.QuietTactic
import Derived.BigQuiet
import Derived.Deep.RegionWith
import Derived.Deep.CutBlock
import Derived.Deep.DeepCutAuto
namespace Go.Proofs.Ytlmgipollfhpmaa
open Go.RowKit

set_option maxHeartbeats 400000 in
theorem open_short (p : Option Addr) (n c : Nat) (w : World) (hn : n < 4) :
    Calls Try.prog 14 #[.slice p n c] w fun e w' => e = .returned (.tuple #[.slice none 0 0, .bool false]) ∧ w = w' := by
  go_enter Try.func14, Try.ntmps14
  go_wp2
  go_ret2
  exact ⟨rfl, rfl⟩

theorem getD_take (a : List Nat) (k i : Nat) (h : i < k) : (a.take k).getD i 0 = a.getD i 0 := by
  rw [List.getD_eq_getElem?_getD, List.getD_eq_getElem?_getD, List.getElem?_take_of_lt h]
theorem getD_drop (a : List Nat) (k i : Nat) : (a.drop k).getD i 0 = a.getD (k + i) 0 := by
  rw [List.getD_eq_getElem?_getD, List.getD_eq_getElem?_getD, List.getElem?_drop]
theorem Bys.take {w : World} {p : Option Addr} {n : Nat} {bs : List Nat} (h : Bys w p n bs) {k : Nat} (hk : k ≤ n) : Bys w p k (bs.take k) :=
  ⟨by rw [List.length_take, h.len]; omega, fun x hx => h.dig x (List.mem_of_mem_take hx), fun hn => by
    obtain ⟨b, o, e, hc⟩ := h.at (by omega)
    exact ⟨b, o, e, fun i hi => by rw [hc i (by omega), map_getD, getD_take _ _ _ hi]⟩⟩
theorem Bys.drop {w : World} {b o n : Nat} {bs : List Nat} (h : Bys w (some ⟨b, o, none⟩) n bs) {k j : Nat} (hk : k + j = n) : Bys w (some ⟨b, o + k, none⟩) j (bs.drop k) :=
  ⟨by rw [List.length_drop, h.len]; omega, fun x hx => h.dig x (List.mem_of_mem_drop hx), fun hn => by
    obtain ⟨b2, o2, e, hc⟩ := h.at (by omega)
    cases e
    exact ⟨b, o + k, rfl, fun i hi => by rw [Nat.add_assoc, hc (k + i) (by omega), map_getD, getD_drop]⟩⟩
theorem bytesOf_inj {xs ys : List Nat} (hx : ∀ x ∈ xs, x < 256) (hy : ∀ x ∈ ys, x < 256) (h : Lib.bytesOf (xs.map Int.ofNat) = Lib.bytesOf (ys.map Int.ofNat)) : xs = ys := by
  induction xs generalizing ys with
  | nil => cases ys with
    | nil => rfl
    | cons y ys => simp [Lib.bytesOf] at h
  | cons x xs ih => cases ys with
    | nil => simp [Lib.bytesOf] at h
    | cons y ys =>
      simp only [Lib.bytesOf, List.map_cons, List.cons.injEq] at h
      have h1 := congrArg UInt8.toNat h.1
      have hx1 := hx x (by simp)
      have hy1 := hy y (by simp)
      have e : x = y := by simpa [Nat.mod_eq_of_lt hx1, Nat.mod_eq_of_lt hy1] using h1
      rw [e, ih (fun z hz => hx z (by simp [hz])) (fun z hz => hy z (by simp [hz])) h.2]
theorem equal_any (p1 p2 : Option Addr) (n c m d : Nat) (xs ys : List Nat) (w : World) (v : Bool) (hv : Hid (decide (xs = ys) = v)) (h1 : Bys w p1 n xs) (h2 : Bys w p2 m ys) :
    Calls Try.prog 23 #[.slice p1 n c, .slice p2 m d] w fun e w' => e = .returned (.bool v) ∧ w = w' :=
  (Try.bytes_Equal_all p1 p2 n c m d (xs.map Int.ofNat) (ys.map Int.ofNat) w (by rw [List.length_map, h1.len]) (by rw [List.length_map, h2.len]) h1.inn h2.inn).mono fun e w' ⟨he, hw⟩ => ⟨by
    rw [he, ← hv.out]
    congr 2
    rw [Bool.eq_iff_iff]
    simp only [beq_iff_eq, decide_eq_true_eq]
    exact ⟨bytesOf_inj h1.dig h2.dig, fun h => by rw [h]⟩, hw.symm⟩
/-- Is it sealed? -/
def isSealed (m : Nat) (bs : List Nat) : Bool := decide (bs.drop m = tailOf (more 0 (bs.take m)))

set_option maxHeartbeats 800000 in
theorem open_no (b o m c : Nat) (bs : List Nat) (w : World) (hm : m ≤ 140737488351232) (hnc : m + 4 ≤ c) (_hcm : c ≤ 9223372036854775807) (hB : Bys w (some ⟨b, o, none⟩) (m + 4) bs) (hno : isSealed m bs = false) :
    Calls Try.prog 14 #[.slice (some ⟨b, o, none⟩) (m + 4) c] w fun e w' => e = .returned (.tuple #[.slice none 0 0, .bool false]) ∧ Below w.heap.size w w' := by
  have HB := Lib.hid hB
  have hS := more_lt (s := 0) (by decide) (hB.take (k := m) (by omega)).dig
  obtain ⟨S, HS⟩ : ∃ S, Hid (more 0 (bs.take m) = S) := ⟨_, rfl⟩
  rw [HS.out] at hS
  have HN : Hid (decide (bs.drop m = tailOf S) = false) := Lib.hid (by rw [← HS.out]; exact hno)
  clear hB hno
  have HW := Lib.hid (Below.refl w.heap.size w)
  go_enter Try.func14, Try.ntmps14
  go_wp2_with fail
  go_region_with (first
    | (go_at_call 9; refine (sum_any (some ⟨b, o, none⟩) m c (bs.take m) _ (by omega) (by first | exact (HB.out.take (by omega)) | exact ((HB.out.take (by omega)).below HW.out.drew))).mono ?_; rintro e w1 ⟨rfl, rfl⟩; rw [HS.out])
    | (go_at_call 22; refine (tail_any S _ hS).mono ?_; rintro e w1 ⟨⟨g, rfl, hT⟩, hb⟩; have HW := Lib.hid (by first | exact HW.out.trans (hb.mono HW.out.size) | exact HW.out.drew.trans (hb.mono HW.out.size)); have HT := Lib.hid hT; clear hT hb)
    | (go_at_call 23; refine (equal_any (some ⟨b, o + m, none⟩) _ 4 (c - m) 4 4 (bs.drop m) (tailOf S) _ false HN (HB.out.below HW.out |>.drop rfl) HT.out).mono ?_; rintro e w1 ⟨rfl, rfl⟩))
  all_goals
    go_wp2_with fail
    go_ret2
  all_goals exact ⟨rfl, by first | exact HW.out | exact HW.out.drew⟩
end Go.Proofs.Ytlmgipollfhpmaa
