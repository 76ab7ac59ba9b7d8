/- What was sealed is told, in memory of the call's own. -/
import Derived.Test.YtlmgipollfhpmaaOpen
namespace Go.Proofs.Ytlmgipollfhpmaa
open Go.RowKit

theorem u8s_ints (bs : List Nat) : (bs.map Int.ofNat).map (Value.int .u8) = u8s bs := by
  unfold u8s; rw [List.map_map]; rfl
theorem clone_any (b o n c : Nat) (bs : List Nat) (w : World) (hn : 0 < n) (hm : n ≤ 140737488355328) (hB : Bys w (some ⟨b, o, none⟩) n bs) :
    Calls Try.prog 24 #[.slice (some ⟨b, o, none⟩) n c] w fun e w' => (∃ g cap, e = .returned (.slice (some ⟨g, 0, none⟩) n cap) ∧ w.heap.size ≤ g ∧ n ≤ cap ∧ cap ≤ 9223372036854775807 ∧ Bys w' (some ⟨g, 0, none⟩) n bs) ∧ Below w.heap.size w w' :=
  (Try.bytes_Clone_at ⟨b, o, none⟩ n c (bs.map Int.ofNat) w (by rw [List.length_map, hB.len]) hm (fun i hi => by
    obtain ⟨b2, o2, e, hc⟩ := hB.at hn
    cases e
    rw [Go.WideShapes.add_plain, hc i hi, map_getD])).mono fun e w' ⟨v, he, hown, hne, hb⟩ => ⟨by
    rw [u8s_ints] at hown
    have hown2 := hown
    rcases hown.2 with ⟨h0, h1⟩ | ⟨g, cap, cur, e1, hg, hh, hc1, hc2, _⟩
    · omega
    · subst e1
      exact ⟨g, cap, he, hg, hc1, hc2, Bys.of_row hown2 hB.dig⟩, hb⟩

set_option maxHeartbeats 800000 in
theorem open_yes (b o m c : Nat) (bs : List Nat) (w : World) (hm : m ≤ 140737488351232) (hnc : m + 4 ≤ c) (_hcm : c ≤ 9223372036854775807) (hB : Bys w (some ⟨b, o, none⟩) (m + 4) bs) (hyes : isSealed m bs = true) :
    Calls Try.prog 14 #[.slice (some ⟨b, o, none⟩) (m + 4) c] w fun e w' => (∃ g, e = .returned (.tuple #[.slice (some ⟨g, 0, none⟩) m m, .bool true]) ∧ w.heap.size ≤ g ∧ Bys w' (some ⟨g, 0, none⟩) m (bs.take m)) ∧ Below w.heap.size w w' := by
  have HB := Lib.hid hB
  have hS := more_lt (s := 0) (by decide) (hB.take (k := m) (by omega)).dig
  obtain ⟨S, HS⟩ : ∃ S, Hid (more 0 (bs.take m) = S) := ⟨_, rfl⟩
  rw [HS.out] at hS
  have HN : Hid (decide (bs.drop m = tailOf S) = true) := Lib.hid (by rw [← HS.out]; exact hyes)
  clear hB hyes
  have HW := Lib.hid (Below.refl w.heap.size w)
  go_enter Try.func14, Try.ntmps14
  go_wp2_with fail
  go_region_with (first
    | (go_at_call 9; refine (sum_any (some ⟨b, o, none⟩) m c (bs.take m) _ (by omega) (by first | exact (HB.out.take (by omega)) | exact ((HB.out.take (by omega)).below HW.out.drew))).mono ?_; rintro e w1 ⟨rfl, rfl⟩; rw [HS.out])
    | (go_at_call 22; refine (tail_any S _ hS).mono ?_; rintro e w1 ⟨⟨g, rfl, hT⟩, hb⟩; have HW := Lib.hid (by first | exact HW.out.trans (hb.mono HW.out.size) | exact HW.out.drew.trans (hb.mono HW.out.size)); have HT := Lib.hid hT; clear hT hb)
    | (go_at_call 23; refine (equal_any (some ⟨b, o + m, none⟩) _ 4 (c - m) 4 4 (bs.drop m) (tailOf S) _ true HN (HB.out.below HW.out |>.drop rfl) HT.out).mono ?_; rintro e w1 ⟨rfl, rfl⟩))
  all_goals
    clear HT HN HS hS
    go_wp2_with fail
  all_goals
    refine (clone_any b o (m + 4) c bs _ (by omega) (by omega) (by first | exact HB.out.below HW.out | exact HB.out.below HW.out.drew)).mono ?_
    rintro e w5 ⟨⟨g5, cap5, rfl, hg5, hn5, hc5, hB5⟩, hb5⟩
    have HG := Lib.hid (by first | exact Nat.le_trans HW.out.size hg5 | exact Nat.le_trans HW.out.drew.size hg5)
    have HX := Lib.hid (hB5.take (k := m) (by omega))
    have HY := Lib.hid (by first | exact HW.out.trans (hb5.mono HW.out.size) | exact HW.out.drew.trans (hb5.mono HW.out.drew.size))
    clear hB5 hb5 hg5
    go_wp2_with fail
    go_ret2
  all_goals exact ⟨⟨g5, rfl, HG.out, HX.out⟩, HY.out⟩
end Go.Proofs.Ytlmgipollfhpmaa
