/- A copy of a table. -/
import Derived.Test.YtnagdjgicphknaaDoorSlCl
import Derived.Deep.RegionWith
set_option linter.unusedSimpArgs false
set_option maxRecDepth 20000
namespace Go.Proofs.YtnagdjgicphknaaDoor
open Go.RowKit

theorem own_mono {w : World} {base E m n B : Nat} {v : Value} {xs : List Value} (h : w.ownsRow base E m v n xs) (hB : B ≤ base) : w.ownsRow B E m v n xs := by
  refine ⟨h.1, ?_⟩
  rcases h.2 with h2 | ⟨g, cap, cur, e, hb, hg, hr⟩
  · exact .inl h2
  · exact .inr ⟨g, cap, cur, e, Nat.le_trans hB hb, hg, hr⟩
/-- What a copy leaves. -/
def CopR (w : World) (L : List ByteArray) (e : Ending) (w' : World) : Prop := ∃ g F, e = .returned (.pointer (some ⟨g, 0, none⟩)) ∧ Tb w' g F L ∧ (∀ k ∈ F, w.heap.size ≤ k) ∧ Below w.heap.size w w'
theorem copR_end {w W : World} {L : List ByteArray} {v : Value} {b : Nat} (hb : Below w.heap.size w W) (hv : W.ownsRow w.heap.size 9 1 v L.length (strs L)) (hm : Frs W b L) (hlt : w.heap.size ≤ b) (hok : Okn L) :
    CopR w L (.returned (.pointer (some ⟨W.heap.size, 0, none⟩))) (W.alloc (.cells #[v, .map (some b)] 49)) := by
  refine ⟨W.heap.size, foot W.heap.size v b, rfl, ⟨v, b, ⟨heap_alloc_new W _, ?_, ?_, hok⟩, rfl⟩, ?_, hb.alloc hb.size _⟩
  · exact Rf.below (base0 hv) ((Below.refl _ _).alloc (Nat.le_refl _) _)
  · exact hm.same (Below.heap_alloc W _ b hm.lt)
  · intro k hk
    unfold foot at hk
    simp only [List.mem_cons, Option.mem_toList] at hk
    rcases hk with rfl | rfl | hk
    · exact hb.size
    · exact hlt
    · exact (World.ownsRow.lt hv k hk).1
section
variable {w : World} {g : Nat} {F : List Nat} {L : List ByteArray}
set_option maxHeartbeats 1600000 in
theorem copy_any (h : Tb w g F L) (hl : L.length ≤ 1000) : Calls Tryd.prog 20 #[.pointer (some ⟨g, 0, none⟩)] w (CopR w L) := by
  obtain ⟨v, mb, h, rfl⟩ := h
  have HOK := Lib.hid h.ok
  have HSL : Hid (∀ w1, Below w.heap.size w w1 → Calls Tryd.prog 27 #[v] w1 fun e w' => (∃ v', e = .returned v' ∧ w'.ownsRow w1.heap.size 9 1 v' L.length (strs L)) ∧ Below w1.heap.size w1 w') := Lib.hid (fun w1 hb => slclone_any (h.row.below hb) hl)
  have HMC : Hid (∀ w1, Below w.heap.size w w1 → Calls Tryd.prog 28 #[.map (some mb)] w1 fun e w' => (∃ b', e = .returned (.map (some b')) ∧ w1.heap.size ≤ b' ∧ Frs w' b' L) ∧ Below w1.heap.size w1 w') := Lib.hid (fun w1 hb => mclone_any (h.map.same (hb.block mb h.map.lt)))
  have HC0 : Hid (∀ w1, Below w.heap.size w w1 → w1.cell? ⟨g, 0, none⟩ = some v) := Lib.hid (fun w1 hb => (h.below hb).c0)
  have HC1 : Hid (∀ w1, Below w.heap.size w w1 → w1.cell? ⟨g, 1, none⟩ = some (.map (some mb))) := Lib.hid (fun w1 hb => (h.below hb).c1)
  have HBD : Hid (Below w.heap.size w w.drew) := Lib.hid (Below.refl _ _).drew
  have c0 := HC0.out w.drew HBD.out
  have c1 := HC1.out w.drew HBD.out
  obtain ⟨q, c, rfl⟩ := h.form
  clear h
  go_enter Tryd.func20, Tryd.ntmps20
  go_upto_region 3 with fail
  go_region_with (first
    | (go_at_call 27; refine (HSL.out _ (by first | exact HB2.out | exact HBD.out)).mono ?_; rintro e w1 ⟨⟨v1, rfl, hv1⟩, hb1⟩; obtain ⟨q1, c1, rfl⟩ := own_form hv1; have HB1 := Lib.hid ((by first | exact HB2.out | exact HBD.out : Below w.heap.size w _).trans (hb1.mono (by first | exact HB2.out.size | exact HBD.out.size))); have d1 := HC1.out w1 HB1.out)
    | (go_at_call 28; refine (HMC.out _ (by first | exact HB1.out | exact HBD.out)).mono ?_; rintro e w2 ⟨⟨b2, rfl, hlt2, hm2⟩, hb2⟩; have HB2 := Lib.hid ((by first | exact HB1.out | exact HBD.out : Below w.heap.size w _).trans (hb2.mono (by first | exact HB1.out.size | exact HBD.out.size))); have d0 := HC0.out w2 HB2.out))
  all_goals go_wp2_with fail
  all_goals
    go_ret
    first
      | exact copR_end HB2.out (own_mono (own_below hv1 hb2) HBD.out.size) (hm2) (Nat.le_trans HB1.out.size hlt2) HOK.out
      | exact copR_end HB1.out (own_mono hv1 HB2.out.size) (hm2.same (hb1.block _ hm2.lt)) hlt2 HOK.out
end
end Go.Proofs.YtnagdjgicphknaaDoor
