/- A copy of a row of names; of a map. -/
import Derived.Test.YtnagdjgicphknaaDoorFresh
import Derived.Shelf.SlMaps.Clone
import Derived.Lib.SliceRun
set_option linter.unusedSimpArgs false
set_option maxRecDepth 20000
namespace Go.Proofs.YtnagdjgicphknaaDoor
open Go.RowKit

section
variable {w : World} {g : Nat} {F : List Nat} {L : List ByteArray}
set_option maxHeartbeats 800000 in
theorem slclone_any {v : Value} (h : Rf w v L) (hl : L.length ≤ 1000) : Calls Tryd.prog 27 #[v] w fun e w' => (∃ v', e = .returned v' ∧ w'.ownsRow w.heap.size 9 1 v' L.length (strs L)) ∧ Below w.heap.size w w' := by
  obtain ⟨i0, hi0, hz0, hz1, hz2⟩ := info_parts info9
  have HI0 := Lib.hid hi0
  have HZ0 := Lib.hid hz0
  have HZ1 := Lib.hid hz1
  have HZ2 := Lib.hid hz2
  clear hi0 hz0 hz1 hz2
  have HP := Lib.hid h
  rcases h.2 with ⟨rfl, hL⟩ | ⟨b, c, cur, rfl, _, _, hc, _⟩
  · obtain rfl : L = [] := List.length_eq_zero_iff.1 hL
    clear h
    have q27 := Lib.run_eql_slice_nil (P := Tryd.prog) w _ _ none 0 0 0 0 Tryd.underlying27
    go_enter Tryd.func27, Tryd.ntmps27
    go_wp2_with fail
    go_ret
    exact ⟨⟨_, rfl, World.ownsRow_nil _ _ _ _⟩, Below.refl _ _⟩
  · have HB0 : Hid (Below w.heap.size w (w.alloc (.cells #[] 9))) := Lib.hid ((Below.refl _ _).alloc (Nat.le_refl _) _)
    have HNEW : Hid (∀ j u, (strs L)[j]? = some u → (w.alloc (.cells #[] 9)).cell? ((⟨b, 0, none⟩ : Addr).add j) = some u) := Lib.hid (World.ownsRow.cells (h.below HB0.out) rfl)
    have HLEN : Hid ((strs L).length = L.length * 1) := Lib.hid (by rw [strs_len]; omega)
    have HONE := Lib.hid (strs_one L)
    have HE : Hid ((w.alloc (.cells #[] 9)).ownsRow w.heap.size 9 1 (.slice (some ⟨w.heap.size, 0, none⟩) 0 0) 0 []) := Lib.hid (World.ownsRow_made w #[] 0 (Nat.le_refl _) (by unfold maxLen; omega) rfl)
    have H63 : Hid (0 + L.length ≤ maxLen) := Lib.hid (by unfold maxLen; omega)
    have HSZ : Hid (w.heap.size ≤ (w.alloc (.cells #[] 9)).heap.size) := Lib.hid (by simp)
    clear h
    have q27 := Lib.run_eql_slice_nil (P := Tryd.prog) w _ _ (some ⟨b, 0, none⟩) L.length c 0 0 Tryd.underlying27
    go_enter Tryd.func27, Tryd.ntmps27
    go_wp2_with (at_builtin; refine wpList_append_own _ rfl (.tmp 5) (.tmp 6) 27 rfl w.heap.size 9 i0 (.string ⟨#[]⟩) 1 16 Tryd.underlying27 HI0.out HZ0.out HZ1.out HZ2.out rfl (by decide) (.slice (some ⟨w.heap.size, 0, none⟩) 0 0) 0 [] (by rfl) HE.out ⟨b, 0, none⟩ L.length c (strs L) (by rfl) HLEN.out HNEW.out HONE.out H63.out (by omega) HSZ.out ?_; intro v1 w1 hown1 hgrow1 _)
    go_ret
    refine ⟨⟨_, rfl, ?_⟩, HB0.out.grown hgrow1 HSZ.out (fun k e => by cases e; exact Nat.le_refl _)⟩
    simpa using hown1
set_option maxHeartbeats 800000 in
theorem mclone_any {b : Nat} (h : Frs w b L) : Calls Tryd.prog 28 #[.map (some b)] w fun e w' => (∃ b', e = .returned (.map (some b')) ∧ w.heap.size ≤ b' ∧ Frs w' b' L) ∧ Below w.heap.size w w' := by
  obtain ⟨es, clock, h⟩ := h
  have hb := h.hb
  have HB : Hid (Below w.heap.size w (w.alloc (.map es clock))) := Lib.hid ((Below.refl _ _).alloc (Nat.le_refl _) _)
  have hq := fun w => run_eql_map_nil_sl (P := Tryd.prog) w 47 _ _ (some b) Tryd.underlying47
  have HF : Hid (Frs (w.alloc (.map es clock)) w.heap.size L) := Lib.hid ⟨es, clock, (MapKept.heap_alloc w _).1, h.fit, h.only, h.all⟩
  clear h
  go_enter Tryd.func28, Tryd.ntmps28
  go_wp2
  rw [run_callFunc_extern Tryd.func32 (by kernel_rfl) (by kernel_rfl) (by kernel_rfl) (e := Extern.MapsClone.clone) (by kernel_rfl), run_maps_clone_sl w 47 hb]
  simp only [Result.andThen]
  rw [Oper.upon_value]
  go_wp2
  rw [run_typeAssert_map_sl _ 47 20 _ _ _ Tryd.underlying47]
  simp only [Result.andThen]
  rw [Oper.upon_value]
  go_wp2
  go_ret
  exact ⟨⟨_, rfl, Nat.le_refl _, HF.out⟩, HB.out⟩
end
end Go.Proofs.YtnagdjgicphknaaDoor
