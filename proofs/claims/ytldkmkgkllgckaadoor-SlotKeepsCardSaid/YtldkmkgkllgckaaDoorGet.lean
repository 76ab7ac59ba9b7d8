/- What a slot has; how much is left. -/
import Derived.Test.YtldkmkgkllgckaaDoorSmall
import Derived.Deep.RegionWith
set_option linter.unusedSimpArgs false
namespace Go.Proofs.YtldkmkgkllgckaaDoor
open Go.RowKit

section
variable {w : World} {g : Nat} {v : Value} {l : List Sl}
def getS (l : List Sl) (i : Int) : ByteArray := if fullI l i = true then recOf (slot l i.toNat) else ⟨#[]⟩
theorem getS_bare {l : List Sl} {k : Nat} (h : slot l k = none) : recOf (slot l k) = ⟨#[]⟩ := by rw [h]; rfl
theorem getS_nat (l : List Sl) (k : Nat) : getS l (k : Int) = recOf (slot l k) := by
  unfold getS
  rw [fullI_nat, Int.toNat_natCast]
  cases e : slot l k with
  | none => simp [recOf]
  | some r => simp
set_option maxHeartbeats 800000 in
theorem get_any (h : Pg0 w g v l) (i : Int) : Calls Tryd.prog 15 #[.pointer (some ⟨g, 0, none⟩), .int .i64 i] w fun e w' => e = .returned (.tuple #[.string (getS l i), .bool (fullI l i)]) ∧ Below w.heap.size w w' := by
  have HL := Lib.hid (len_any h)
  by_cases h0 : i < 0
  · have hd : decide (i < 0) = true := decide_eq_true h0
    rw [show getS l i = ⟨#[]⟩ by unfold getS; rw [if_neg (by unfold fullI; simp; omega)], show fullI l i = false by unfold fullI; simp; omega]
    clear h
    go_enter Tryd.func15, Tryd.ntmps15
    go_wp2_with fail
    go_ret2
    exact ⟨rfl, Below.refl _ _⟩
  · obtain ⟨k, rfl⟩ : ∃ k : Nat, i = (k : Int) := ⟨i.toNat, by omega⟩
    have hd : decide ((k : Int) < 0) = false := by simp
    rw [getS_nat, fullI_nat]
    by_cases h1 : k < l.length
    · obtain ⟨b, c, rfl, hc, a1, a2⟩ := h.at h1
      have c0 := h.c0
      have hn : l.length ≤ 64 := h.ok.len
      have hk : (k : Int) < (l.length : Int) := by omega
      have hd2 : decide ((l.length : Int) ≤ (k : Int)) = false := by simp; omega
      obtain ⟨N, HN⟩ : ∃ N, Hid (l.length = N) := ⟨_, Lib.hid rfl⟩
      rw [HN.out] at HL c0 hn hk hd2 hc h1
      clear h
      generalize (slot l k).isSome = bb at *
      generalize recOf (slot l k) = rr at *
      go_enter Tryd.func15, Tryd.ntmps15
      go_wp2_with (go_at_call 16; refine HL.out.mono ?_; rintro e w1 ⟨rfl, rfl⟩)
      go_quiet (fail)
      go_wp2_with fail
      go_ret2
      refine ⟨rfl, ?_⟩
      exact ⟨rfl, rfl, rfl, Nat.le_refl _, fun _ _ => rfl⟩
    · rw [slot_ge (by omega)]
      have hd2 : decide ((l.length : Int) ≤ (k : Int)) = true := by simp; omega
      clear h
      go_enter Tryd.func15, Tryd.ntmps15
      go_wp2_with (go_at_call 16; refine HL.out.mono ?_; rintro e w1 ⟨rfl, rfl⟩)
      go_ret2
      exact ⟨rfl, Below.refl _ _⟩
set_option maxHeartbeats 800000 in
theorem get_nil (i : Int) (w : World) : Calls Tryd.prog 15 #[.pointer none, .int .i64 i] w fun e w' => e = .returned (.tuple #[.string ⟨#[]⟩, .bool false]) ∧ Below w.heap.size w w' := by
  have HL := Lib.hid (len_nil w)
  by_cases h0 : i < 0
  · have hd : decide (i < 0) = true := decide_eq_true h0
    go_enter Tryd.func15, Tryd.ntmps15
    go_wp2_with fail
    go_ret2
    exact ⟨rfl, Below.refl _ _⟩
  · obtain ⟨k, rfl⟩ : ∃ k : Nat, i = (k : Int) := ⟨i.toNat, by omega⟩
    have hd : decide ((k : Int) < 0) = false := by simp
    have hd2 : decide ((0 : Int) ≤ (k : Int)) = true := by simp
    go_enter Tryd.func15, Tryd.ntmps15
    go_wp2_with (go_at_call 16; refine HL.out.mono ?_; rintro e w1 ⟨rfl, rfl⟩)
    go_ret2
    exact ⟨rfl, Below.refl _ _⟩
theorem tot_le {l : List Sl} (h : Okp l) : tot l ≤ 512 := by have := h.need; unfold need at this; omega
set_option maxHeartbeats 1600000 in
theorem left_any (h : Pg0 w g v l) : Calls Tryd.prog 24 #[.pointer (some ⟨g, 0, none⟩)] w fun e w' => e = .returned (.int .i64 (left l)) ∧ Below w.heap.size w w' := by
  have HP := Lib.hid h
  obtain ⟨q, c, rfl⟩ := h.form
  have c0 := h.c0
  have hl := h.ok.len
  have ht := tot_le h.ok
  have hg := h.lt
  clear h
  obtain ⟨N, HN⟩ : ∃ N, Hid (l.length = N) := ⟨_, Lib.hid rfl⟩
  rw [HN.out] at c0 hl
  have HB := Lib.hid (behind_any N · (by omega))
  have HT : Hid (∀ i, i ≤ N → tot (l.take i) ≤ 512) := Lib.hid (fun i _ => Nat.le_trans (tot_take_le l i) ht)
  clear ht
  go_enter Tryd.func24, Tryd.ntmps24
  go_wp2_with (go_at_call 20; refine (HB.out _).mono ?_; rintro e w1 ⟨rfl, rfl⟩)
  go_wp2_with fail
  go_loopw [3, 18] (fun sv iv wr => ∃ i s : Nat, i ≤ N ∧ iv = .int .i64 (i : Int) ∧ sv = .int .i64 (512 - (1 + (N : Int) * 2) - (s : Int)) ∧ s ≤ 512 ∧ Hid (tot (l.take i) = s) ∧ Below w.heap.size w wr) (fun _ iv _ => N - (intOf iv).toNat)
  case atStart => exact ⟨0, 0, by omega, by go_num, by simp, by omega, Lib.hid rfl, Below.refl _ _⟩
  case round =>
    obtain ⟨i, s, hi, rfl, rfl, hs, HS, hb⟩ := hrel
    have c1 := (hb.cell (p := ⟨g, 0, none⟩) hg).trans c0
    by_cases hlt : i < N
    · obtain ⟨b, c', e, hc, a1, a2⟩ := HP.out.at (k := i) (by rw [HN.out]; exact hlt)
      rw [HN.out] at e hc
      cases e
      have x1 := (hb.cell (p := ⟨b, i * 2, none⟩) (World.block_lt_of_cell? w _ a1)).trans a1
      have x2 := (hb.cell (p := ⟨b, i * 2 + 1, none⟩) (World.block_lt_of_cell? w _ a2)).trans a2
      have HBL := Lib.hid hb
      have HS2 : Hid (tot (l.take (i + 1)) = s + sz (slot l i)) := Lib.hid (by rw [tot_take_succ (by rw [HN.out]; exact hlt), HS.out])
      have hs2 : s + (recOf (slot l i)).size ≤ 512 := by have := HT.out (i + 1) (by omega); rw [HS2.out] at this; exact this
      have HSZ : Hid (sz (slot l i) = (recOf (slot l i)).size) := Lib.hid rfl
      rw [HSZ.out] at HS2
      clear hb a1 a2 HSZ
      generalize (slot l i).isSome = bb at *
      generalize recOf (slot l i) = rr at *
      obtain ⟨z, HZ⟩ : ∃ z, Hid (rr.size = z) := ⟨_, Lib.hid rfl⟩
      rw [HZ.out] at hs2 HS2
      have hz := HZ.out
      go_wp2_with fail
      go_roundw
      case rel => exact ⟨i + 1, s + z, by omega, by go_num, by congr 1; omega, hs2, HS2, HBL.out.alloc HBL.out.size _⟩
      case measure => simp [intOf]; omega
    · obtain rfl : i = N := by omega
      have HB := Lib.hid hb
      clear hb
      go_wp2_with fail
      go_ret
      refine ⟨?_, HB.out⟩
      have h1 := HS.out
      have h2 := HN.out
      rw [List.take_of_length_le (by omega)] at h1
      have h3 : (512 - (1 + (i : Int) * 2) - (s : Int)) = left l := by unfold left need; omega
      rw [h3]
      rfl
end
end Go.Proofs.YtldkmkgkllgckaaDoor
