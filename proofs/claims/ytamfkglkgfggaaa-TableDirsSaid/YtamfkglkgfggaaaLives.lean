/- The chapter's example. -/
import Derived.Test.YtamfkglkgfggaaaLoad
set_option linter.unusedSimpArgs false
namespace Go.Proofs.Ytamfkglkgfggaaa
open Go.RowKit

def exF : Nat → Nat := updN (fun _ => 0) 130 7
theorem ex_leaf : (fours (leafF exF 1) 128).getD 11 0 = 7 := by decide +kernel
theorem ex_chg : mems (difB exF fun _ => 0) 4 = [1] := by decide +kernel
set_option maxRecDepth 100000 in
set_option maxHeartbeats 800000 in
theorem lives_any (w : World) : Calls Try.prog 11 #[] w fun e w' => e = .returned (.bool true) ∧ Below w.heap.size w w' := by
  have HNew := Lib.hid (new_any w)
  go_enter Try.func11, Try.ntmps11
  go_wp2_with (go_at_call 17; refine HNew.out.mono ?_; rintro e w1 ⟨rfl, hT1, hb1⟩)
  have HS := Lib.hid (set_in hT1 130 7 (by decide) rfl)
  have HB1 := Lib.hid hb1
  clear hT1 hb1
  go_wp2_with (go_at_call 33; refine HS.out.mono ?_; rintro e w2 ⟨rfl, hT2, ho2⟩)
  have hT2' : Tab w2 w.heap.size exF := hT2
  have HB2 := Lib.hid (ho2.below HB1.out HB1.out.size (Nat.le_refl _))
  have HT2 := Lib.hid hT2'
  obtain ⟨n, hn, HL⟩ : ∃ n, Hid (n = 512) ∧ Hid (Calls Try.prog 12 #[.pointer (some ⟨w.heap.size, 0, none⟩), .int .i64 1] w2 fun e w' => (∃ p c', e = .returned (.slice p n c') ∧ Bys w' p n (fours (leafF exF 1) 128) ∧ n ≤ c' ∧ c' ≤ 9223372036854775807) ∧ Below w2.heap.size w2 w') :=
    ⟨512, Lib.hid rfl, Lib.hid (leaf_in hT2' 1 (by decide))⟩
  clear hT2 hT2' ho2
  go_wp2_with (go_at_call 12; refine HL.out.mono ?_; rintro e w3 ⟨⟨p, c', rfl, hB, hc⟩, hb3⟩)
  have HT3 := Lib.hid (HT2.out.below hb3)
  have HB3 := Lib.hid (HB2.out.trans (hb3.mono HB2.out.size))
  have HBY := Lib.hid hB
  have HC := Lib.hid (chg_all (k := fun _ => 0) HT3.out none (.inr ⟨rfl, rfl⟩))
  clear hB hb3 hc
  go_upto_region 5 with (go_at_call 18; refine HC.out.mono ?_; rintro e w4 ⟨⟨v, rfl, hv⟩, hb4⟩)
  rw [ex_chg] at hv
  obtain ⟨g4, cap4, cur, rfl, hg4, hh4, hn4, hm4, hs4, hx4⟩ := hv.2.resolve_left (fun h => by cases h.2)
  have HB4 := Lib.hid (HB3.out.trans (hb4.mono HB3.out.size))
  obtain ⟨b, o, rfl, hcell⟩ := (HBY.out.below hb4).at (by have := hn.out; omega)
  have c1 := hcell 11 (by have := hn.out; omega)
  rw [ex_leaf] at c1
  have c2 : w4.cell? ⟨g4, 0, none⟩ = some (.int .i64 1) := by
    rw [cell_of_row _ _ _ _ _ _ hh4]
    have h3 : (cur.toList.take 1)[0]? = some (Value.int .i64 1) := by
      have : cur.toList.take ([1].length * 1) = ivs [1] := hx4
      rw [show ([1].length * 1 : Nat) = 1 from rfl] at this
      rw [this]; rfl
    rw [List.getElem?_take_of_lt (by omega)] at h3
    simpa using h3
  clear hcell hx4 hh4 hs4 hb4 hv hg4 hn4 hm4
  have hn1 : ((n : Int) == 512) = true := by rw [hn.out]; rfl
  have hn2 : (11 : Int) < (n : Int) := by have := hn.out; omega
  have hn3 : 11 < n := by have := hn.out; omega
  have hl1 : [1].length = 1 := rfl
  go_wp2_with fail
  go_ret
  exact ⟨rfl, HB4.out⟩
end Go.Proofs.Ytamfkglkgfggaaa
