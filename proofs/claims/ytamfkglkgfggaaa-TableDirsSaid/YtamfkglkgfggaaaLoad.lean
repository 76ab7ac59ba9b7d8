/- Are bytes a page, are they zeros; bytes loaded into a leaf. -/
import Derived.Test.YtamfkglkgfggaaaTake
set_option linter.unusedSimpArgs false
namespace Go.Proofs.Ytamfkglkgfggaaa
open Go.RowKit

/-- Why bytes are no page. -/
def wholeE (n : Nat) : Int := if n < 512 then 3 else if 512 < n then 2 else 0
theorem whole_any (p : Option Addr) (n c : Nat) (w : World) (hn : n ≤ 9223372036854775807) : Calls Try.prog 39 #[.slice p n c] w fun e w' => e = .returned (.int .i64 (wholeE n)) ∧ w = w' := by
  unfold wholeE
  have hz : (n : Int) ≤ 9223372036854775807 := by omega
  by_cases h : n < 512
  · have hd : decide ((n : Int) < 512) = true := decide_eq_true (by omega)
    have hd' : decide (n < 512) = true := decide_eq_true h
    rw [if_pos h]
    have H := Lib.hid h
    clear h hn
    go_enter Try.func39, Try.ntmps39
    go_wp2_with fail
    go_ret
    exact ⟨rfl, rfl⟩
  · have hd : decide ((n : Int) < 512) = false := decide_eq_false (by omega)
    have hd' : decide (n < 512) = false := decide_eq_false h
    rw [if_neg h]
    by_cases h2 : 512 < n
    · have hd2 : decide ((512 : Int) < (n : Int)) = true := decide_eq_true (by omega)
      have hd2' : decide (512 < n) = true := decide_eq_true h2
      rw [if_pos h2]
      clear h h2 hn
      go_enter Try.func39, Try.ntmps39
      go_wp2_with fail
      go_ret
      exact ⟨rfl, rfl⟩
    · have hd2 : decide ((512 : Int) < (n : Int)) = false := decide_eq_false (by omega)
      have hd2' : decide (512 < n) = false := decide_eq_false h2
      rw [if_neg h2]
      clear h h2 hn
      go_enter Try.func39, Try.ntmps39
      go_wp2_with fail
      go_ret
      exact ⟨rfl, rfl⟩
/-- What loading bytes into a leaf returns. -/
def loadE (i : Int) (bs : List Nat) : Int := if ¬ (0 ≤ i ∧ i < 4) then 7 else if wholeE bs.length ≠ 0 then wholeE bs.length else if okV (valB bs) 128 then 0 else 4
/-- What a row tells behind it. -/
def loadF (f : Nat → Nat) (i : Int) (bs : List Nat) : Nat → Nat := if loadE i bs = 0 then over f (128 * i.toNat) (valB bs) 0 128 else f
theorem wholeE_zero {n : Nat} (h : wholeE n = 0) : n = 512 := by
  unfold wholeE at h
  split at h
  · cases h
  · split at h
    · cases h
    · omega
set_option maxRecDepth 100000 in
theorem load_not {w : World} {g : Nat} {f : Nat → Nat} (_ : Tab w g f) (x : Int) (p : Option Addr) (n c : Nat) (bs : List Nat) (hB : Bys w p n bs) (hc : n ≤ c) (hc2 : c ≤ 9223372036854775807) (hx : ¬ (0 ≤ x ∧ x < 4) ∨ wholeE n ≠ 0) :
    Calls Try.prog 16 #[.pointer (some ⟨g, 0, none⟩), .int .i64 x, .slice p n c] w fun e w' => e = .returned (.int .i64 (loadE x bs)) ∧ w = w' := by
  have hl := hB.len
  unfold loadE
  rw [hl]
  by_cases hx0 : 0 ≤ x ∧ x < 4
  · have hw : wholeE n ≠ 0 := hx.resolve_left (not_not_intro hx0)
    rw [if_neg (not_not_intro hx0), if_pos hw]
    obtain ⟨i, rfl⟩ := Int.eq_ofNat_of_zero_le hx0.1
    have HY := Lib.hid (fun w' => leaf_yes i g (by have := hx0.2; omega) w')
    have HW := Lib.hid (fun w => whole_any p n c w (by omega))
    have hne : (wholeE n == 0) = false := by simpa using hw
    clear hw hx hx0 hl hB hc hc2
    generalize wholeE n = z at *
    go_enter Try.func16, Try.ntmps16
    go_wp2_with (first
      | (go_at_call 34; refine (HY.out _).mono ?_; rintro e w7 ⟨rfl, rfl⟩)
      | (go_at_call 39; refine (HW.out _).mono ?_; rintro e w7 ⟨rfl, rfl⟩))
    go_ret
    exact ⟨rfl, rfl⟩
  · rw [if_pos hx0]
    have HY := Lib.hid (leaf_no x g hx0)
    clear hx hx0 hl hB hc hc2
    go_enter Try.func16, Try.ntmps16
    go_wp2_with (go_at_call 34; refine (HY.out _).mono ?_; rintro e w7 ⟨rfl, rfl⟩)
    go_ret
    exact ⟨rfl, rfl⟩
set_option maxRecDepth 100000 in
set_option maxHeartbeats 300000 in
theorem load_in {w : World} {g : Nat} {f : Nat → Nat} (h : Tab w g f) (i : Nat) (hi : i < 4) (p : Option Addr) (c : Nat) (bs : List Nat) (hB : Bys w p 512 bs) (hc : 512 ≤ c) (hc2 : c ≤ 9223372036854775807) :
    Calls Try.prog 16 #[.pointer (some ⟨g, 0, none⟩), .int .i64 (i : Int), .slice p 512 c] w fun e w' => e = .returned (.int .i64 (loadE (i : Int) bs)) ∧ Tab w' g (loadF f (i : Int) bs) ∧ Only g w w' := by
  have hl := hB.len
  have HE : Hid (loadE (i : Int) bs = if okV (valB bs) 128 then 0 else 4) := Lib.hid (by
    unfold loadE
    rw [if_neg (not_not_intro ⟨by omega, by omega⟩), hl, if_neg (by decide)])
  have HF : Hid (loadF f (i : Int) bs = if okV (valB bs) 128 = true then over f (128 * i) (valB bs) 0 128 else f) := Lib.hid (by
    unfold loadF
    rw [HE.out, Int.toNat_natCast]
    cases okV (valB bs) 128 <;> rfl)
  have HY := Lib.hid (fun w' => leaf_yes i g hi w')
  have HW := Lib.hid (fun w => whole_any p 512 c w (by omega))
  obtain ⟨hz, -⟩ := zero_of_info (P := Try.prog) info81
  have HT := Lib.hid h
  have HN : Hid (IsT (w.alloc (.cells (rowA (fun _ => 0) 128) 81)) w.heap.size 81 (fun _ => 0) 128) := Lib.hid (heap_alloc_new w _)
  have HB1 : Hid (Below w.heap.size w (w.alloc (.cells (rowA (fun _ => 0) 128) 81))) := Lib.hid ((Below.refl _ _).alloc (Nat.le_refl _) _)
  have HBy := Lib.hid (hB.below HB1.out)
  have HLT := Lib.hid (hB.lt (by omega))
  have HTK := Lib.hid (take_any w.heap.size 128 128 512 c p bs _ (by omega) (by omega) (HN.out.there 0 128 (by omega)) HBy.out (by omega) hc hc2 (fun b o e => by have := HLT.out b o e; omega))
  have HOK : Hid (∀ j, okV (valB bs) 128 = true → j < 128 → pgN (valB bs j) = true) := Lib.hid fun j h hj => of_decide_eq_true h j hj
  have hg1 := HT.out.lt
  have hiz : (i : Int) < 4 := by omega
  have HI := Lib.hid hi
  clear h hl hB hc hc2 hi HBy
  generalize rowA (fun _ => 0) 128 = Z at *
  generalize hW1 : w.alloc (.cells Z 81) = W1 at *
  have HW1 := Lib.hid hW1
  clear hW1
  go_enter Try.func16, Try.ntmps16
  go_wp2_with (first
    | (go_at_call 34; refine (HY.out _).mono ?_; rintro e w7 ⟨rfl, rfl⟩)
    | (go_at_call 39; refine (HW.out _).mono ?_; rintro e w7 ⟨rfl, rfl⟩))
  rw [HW1.out]
  refine HTK.out.mono ?_
  rintro e w8 ⟨rfl, k, hk, hw8, hfull⟩
  have HW8 := Lib.hid hw8
  have HK := Lib.hid hfull
  clear hk hw8 hfull HTK
  have HO8 : Hid (Only w.heap.size W1 w8) := Lib.hid (by rw [HW8.out]; exact only_segs _ _ _ _)
  have HB8 : Hid (Below w.heap.size w w8) := Lib.hid (HO8.out.below HB1.out HB1.out.size (Nat.le_refl _))
  have HT8 : Hid (Tab w8 g f) := Lib.hid (HT.out.below HB8.out)
  cases hok : okV (valB bs) 128 with
  | false =>
    rw [hok] at HE HF
    clear hok
    go_wp2_with fail
    go_ret
    refine ⟨by rw [HE.out]; rfl, ?_, Only.of_below HB8.out⟩
    rw [HF.out, if_neg (by decide)]; exact HT8.out
  | true =>
    have HX : Hid (w8.rangeAt w.heap.size 0 (ints (valB bs) 0 128)) := Lib.hid (by
      have h1 := IsT.segs (v := valB bs) 128 0 0 _ _ HN.out
      rw [HK.out hok] at HW8
      rw [HW8.out]
      have h2 := h1.range 0 128 (by omega)
      rwa [ints_congr (f := over (fun _ => 0) 0 (valB bs) 0 128) (g := valB bs) (a := 0) (b := 0) (fun j hj => over_in _ _ _ _ _ _ hj)] at h2)
    have HTH : Hid (w8.there g (i * 128) 128) := Lib.hid (HT8.out.row.there _ _ (by have := HI.out; omega))
    have HFin : Hid (Tab (w8.drew.setCells g (i * 128) (ints (valB bs) 0 128)) g (loadF f (i : Int) bs)) := Lib.hid (by
      rw [HF.out, hok, if_pos rfl, Nat.mul_comm 128 i]
      exact ⟨IsT.segs 128 (i * 128) 0 f w8.drew HT8.out.drew.row, HT8.out.ok.over _ _ _ fun j hj => by rw [Nat.zero_add]; exact HOK.out j hok hj⟩)
    have HOF : Hid (Only g w (w8.drew.setCells g (i * 128) (ints (valB bs) 0 128))) := Lib.hid ((Only.of_below HB8.out.drew).trans (only_segs _ _ _ _))
    have HS : Hid ((Try.prog.info? 81).map (·.size) = some (ints (valB bs) 0 128).length) := Lib.hid (by rw [size81, ints_len])
    have HS2 : Hid ((Try.prog.info? 81).map (·.size) = some (ints (valB bs) 0 128).toArray.size) := Lib.hid (by rw [size81]; simp [ints_len])
    have HLN : Hid ((ints (valB bs) 0 128).toArray.size = 128) := Lib.hid (by simp [ints_len])
    have H1 := Lib.hid (all_oneCell_toArray (ints_one (valB bs) 0 128))
    rw [hok] at HE HF
    clear hok
    generalize ints (valB bs) 0 128 = X at *
    go_wp2_with fail
    refine wp_region_held_drew (S := fun w' => w'.rangeAt w.heap.size 0 X ∧ w'.there g (i * 128) 128) (by kernel_rfl) ⟨(World.rangeAt_drew _ _ _ _).2 HX.out, (World.there_drew _ _ _ _).2 HTH.out⟩ (fun hS => ?_)
    refine wpAnyH_take (i := 0) (v := .pointer (some ⟨g, 0, none⟩)) rfl (by kernel_rfl) (by kernel_rfl) (by kernel_rfl) (fun _ _ _ h => h) (Or.inl ⟨by rfl, fun w _ => by go_simp⟩) hS ?_
    refine wpAnyH_take (i := 1) (v := .int .i64 (i : Int)) rfl (by kernel_rfl) (by kernel_rfl) (by kernel_rfl) (fun _ _ _ h => h) (Or.inl ⟨by rfl, fun w _ => by go_simp⟩) hS ?_
    refine wpAnyH_take (i := 2) (v := .agg X.toArray) rfl (by kernel_rfl) (by kernel_rfl) (by kernel_rfl) (fun _ _ _ h => h) (yieldsIf_load_mid rfl 81 (.tmp 8) rfl w.heap.size 0 rfl X _ (fun w h => h.1) Try.underlying81 rfl HS.out) hS ?_
    refine wpAnyH_take (i := 3) (v := .pointer (some ⟨g, 0, none⟩)) rfl (by kernel_rfl) (by kernel_rfl) (by kernel_rfl) (fun _ _ _ h => h) (Or.inl ⟨by rfl, fun w _ => by go_simp⟩) hS ?_
    refine wpAnyH_take (i := 4) (v := .pointer (some ⟨g, 0, none⟩)) rfl (by kernel_rfl) (by kernel_rfl) (by kernel_rfl) (fun _ _ _ h => h) (Or.inl ⟨by rfl, fun w _ => by go_simp⟩) hS ?_
    refine wpAnyH_take (i := 5) (v := .pointer (some ⟨g, i * 128, none⟩)) rfl (by kernel_rfl) (by kernel_rfl) (by kernel_rfl) (fun _ _ _ h => h) (Or.inl ⟨by rfl, fun w _ => by go_simp⟩) hS ?_
    simp only [List.getElem_toArray, List.getElem_cons_succ, List.getElem_cons_zero, Act.put, List.setIfInBounds_toArray, List.set_cons_succ, List.set_cons_zero]
    refine wpAnyH_ready (rs := [6]) (by kernel_rfl) (by simp) ?_
    refine AllReadyH.cons rfl (fun K hK => ?_) AllReadyH.nil
    rw [if_pos (by rfl)]
    simp only [List.getElem_toArray, List.getElem_cons_succ, List.getElem_cons_zero, Act.put, List.setIfInBounds_toArray, List.set_cons_succ, List.set_cons_zero]
    refine wp_store_mid 81 (.tmp 31) (.tmp 28) ?sa g (i * 128) X.toArray ?sb ?sc ?sd HS2.out H1.out ?se
    case sa => exact rfl
    case sb => exact rfl
    case sc => exact rfl
    case sd => rw [HLN.out]; exact hS.2
    refine hK.out _ _ ⟨World.rangeAt_setCells_apart hS.1 _ _ _ (.inl (by omega)), World.there_setCells hS.2 _ _ _⟩ fun _ => ?_
    refine wpAnyH_done (by kernel_rfl) ?_ _
    clear hK K
    go_wp2_with fail
    go_ret
    exact ⟨by rw [HE.out, if_pos trivial]; rfl, HFin.out, HOF.out⟩
theorem load_any {w : World} {g : Nat} {f : Nat → Nat} (h : Tab w g f) (x : Int) (p : Option Addr) (n c : Nat) (bs : List Nat) (hB : Bys w p n bs) (hc : n ≤ c) (hc2 : c ≤ 9223372036854775807) :
    Calls Try.prog 16 #[.pointer (some ⟨g, 0, none⟩), .int .i64 x, .slice p n c] w fun e w' => e = .returned (.int .i64 (loadE x bs)) ∧ Tab w' g (loadF f x bs) ∧ Only g w w' := by
  by_cases hx : ¬ (0 ≤ x ∧ x < 4) ∨ wholeE n ≠ 0
  · refine (load_not h x p n c bs hB hc hc2 hx).mono ?_
    rintro e w' ⟨rfl, rfl⟩
    refine ⟨rfl, ?_, Only.refl _ _⟩
    have : loadE x bs ≠ 0 := by
      unfold loadE
      rw [hB.len]
      rcases hx with hx | hx
      · rw [if_pos hx]; decide
      · by_cases hx0 : 0 ≤ x ∧ x < 4
        · rw [if_neg (not_not_intro hx0), if_pos hx]; exact hx
        · rw [if_pos hx0]; decide
    unfold loadF
    rw [if_neg this]; exact h
  · have h1 : 0 ≤ x ∧ x < 4 := Classical.not_not.1 fun h => hx (.inl h)
    have h2 : n = 512 := wholeE_zero (Classical.not_not.1 fun h => hx (.inr h))
    subst h2
    obtain ⟨i, rfl⟩ := Int.eq_ofNat_of_zero_le h1.1
    exact load_in h i (by omega) p c bs hB hc hc2
end Go.Proofs.Ytamfkglkgfggaaa
