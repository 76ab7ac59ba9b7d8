/- Texts TLoad to BRuns0 of this seat, laid into one. -/
import Derived.Laws.CopyOwn
import Derived.Lib.SlBytesConst
import Derived.Test.YtmbecjlioogbhaaGreatDoorM02
import Derived.Test.YtmbecjlioogbhaaGreatDoorM03
import Derived.Test.YtmbecjlioogbhaaGreatDoorM04
set_option linter.unusedVariables false
set_option linter.unusedSimpArgs false
set_option linter.constructorNameAsVariable false
section
/-! Are bytes a page, are they zeros; bytes loaded into a leaf. -/
set_option linter.unusedSimpArgs false
set_option maxRecDepth 20000
namespace Go.Proofs.YtmbecjlioogbhaaGreatDoor.Tb
open Go.Proofs.YtmbecjlioogbhaaGreatDoor.Bi
open Go.RowKit

/-- Why bytes are no page. -/
def wholeE (n : Nat) : Int := if n < 512 then 3 else if 512 < n then 2 else 0
theorem whole_any (p : Option Addr) (n c : Nat) (w : World) (hn : n ≤ 9223372036854775807) : Calls Tryz.prog 188 #[.slice p n c] w fun e w' => e = .returned (.int .i64 (wholeE n)) ∧ w = w' := by
  unfold wholeE
  have hz : (n : Int) ≤ 9223372036854775807 := by omega
  by_cases h : n < 512
  · have hd : decide ((n : Int) < 512) = true := decide_eq_true (by omega)
    have hd' : decide (n < 512) = true := decide_eq_true h
    rw [if_pos h]
    have H := Lib.hid h
    clear h hn
    go_enter Tryz.func188, Tryz.ntmps188
    go_wp2_with fail
    go_ret
    exact ⟨rfl, rfl⟩
  · have hd : decide ((n : Int) < 512) = false := decide_eq_false (by omega)
    have hd' : decide (n < 512) = false := decide_eq_false h
    rw [if_neg h]
    by_cases h2 : 512 < n
    · have hd2 : decide ((512 : Int) < (n : Int)) = true := decide_eq_true (by omega)
      have hd2' : decide (512 < n) = true := decide_eq_true h2
      rw [if_pos h2]
      clear h h2 hn
      go_enter Tryz.func188, Tryz.ntmps188
      go_wp2_with fail
      go_ret
      exact ⟨rfl, rfl⟩
    · have hd2 : decide ((512 : Int) < (n : Int)) = false := decide_eq_false (by omega)
      have hd2' : decide (512 < n) = false := decide_eq_false h2
      rw [if_neg h2]
      clear h h2 hn
      go_enter Tryz.func188, Tryz.ntmps188
      go_wp2_with fail
      go_ret
      exact ⟨rfl, rfl⟩
/-- What loading bytes into a leaf returns. -/
def loadE (i : Int) (bs : List Nat) : Int := if ¬ (0 ≤ i ∧ i < 4) then 7 else if wholeE bs.length ≠ 0 then wholeE bs.length else if okV (valB bs) 128 then 0 else 4
/-- What a row tells behind it. -/
def loadF (f : Nat → Nat) (i : Int) (bs : List Nat) : Nat → Nat := if loadE i bs = 0 then over f (128 * i.toNat) (valB bs) 0 128 else f
theorem wholeE_zero {n : Nat} (h : wholeE n = 0) : n = 512 := by
  unfold wholeE at h
  split at h
  · cases h
  · split at h
    · cases h
    · omega
set_option maxRecDepth 100000 in
theorem load_not {w : World} {g : Nat} {f : Nat → Nat} (_ : Tab w g f) (x : Int) (p : Option Addr) (n c : Nat) (bs : List Nat) (hB : Bys w p n bs) (hc : n ≤ c) (hc2 : c ≤ 9223372036854775807) (hx : ¬ (0 ≤ x ∧ x < 4) ∨ wholeE n ≠ 0) :
    Calls Tryz.prog 192 #[.pointer (some ⟨g, 0, none⟩), .int .i64 x, .slice p n c] w fun e w' => e = .returned (.int .i64 (loadE x bs)) ∧ w = w' := by
  have hl := hB.len
  unfold loadE
  rw [hl]
  by_cases hx0 : 0 ≤ x ∧ x < 4
  · have hw : wholeE n ≠ 0 := hx.resolve_left (not_not_intro hx0)
    rw [if_neg (not_not_intro hx0), if_pos hw]
    obtain ⟨i, rfl⟩ := Int.eq_ofNat_of_zero_le hx0.1
    have HY := Lib.hid (fun w' => leaf_yes i g (by have := hx0.2; omega) w')
    have HW := Lib.hid (fun w => whole_any p n c w (by omega))
    have hne : (wholeE n == 0) = false := by simpa using hw
    clear hw hx hx0 hl hB hc hc2
    generalize wholeE n = z at *
    go_enter Tryz.func192, Tryz.ntmps192
    go_wp2_with (first
      | (go_at_call 175; refine (HY.out _).mono ?_; rintro e w7 ⟨rfl, rfl⟩)
      | (go_at_call 188; refine (HW.out _).mono ?_; rintro e w7 ⟨rfl, rfl⟩))
    go_ret
    exact ⟨rfl, rfl⟩
  · rw [if_pos hx0]
    have HY := Lib.hid (leaf_no x g hx0)
    clear hx hx0 hl hB hc hc2
    go_enter Tryz.func192, Tryz.ntmps192
    go_wp2_with (go_at_call 175; refine (HY.out _).mono ?_; rintro e w7 ⟨rfl, rfl⟩)
    go_ret
    exact ⟨rfl, rfl⟩
set_option maxRecDepth 100000 in
set_option maxHeartbeats 300000 in
theorem load_in {w : World} {g : Nat} {f : Nat → Nat} (h : Tab w g f) (i : Nat) (hi : i < 4) (p : Option Addr) (c : Nat) (bs : List Nat) (hB : Bys w p 512 bs) (hc : 512 ≤ c) (hc2 : c ≤ 9223372036854775807) :
    Calls Tryz.prog 192 #[.pointer (some ⟨g, 0, none⟩), .int .i64 (i : Int), .slice p 512 c] w fun e w' => e = .returned (.int .i64 (loadE (i : Int) bs)) ∧ Tab w' g (loadF f (i : Int) bs) ∧ Only g w w' := by
  have hl := hB.len
  have HE : Hid (loadE (i : Int) bs = if okV (valB bs) 128 then 0 else 4) := Lib.hid (by
    unfold loadE
    rw [if_neg (not_not_intro ⟨by omega, by omega⟩), hl, if_neg (by decide)])
  have HF : Hid (loadF f (i : Int) bs = if okV (valB bs) 128 = true then over f (128 * i) (valB bs) 0 128 else f) := Lib.hid (by
    unfold loadF
    rw [HE.out, Int.toNat_natCast]
    cases okV (valB bs) 128 <;> rfl)
  have HY := Lib.hid (fun w' => leaf_yes i g hi w')
  have HW := Lib.hid (fun w => whole_any p 512 c w (by omega))
  obtain ⟨hz, -⟩ := zero_of_info (P := Tryz.prog) info184
  have HT := Lib.hid h
  have HN : Hid (IsT (w.alloc (.cells (rowA (fun _ => 0) 128) 184)) w.heap.size 184 (fun _ => 0) 128) := Lib.hid (heap_alloc_new w _)
  have HB1 : Hid (Below w.heap.size w (w.alloc (.cells (rowA (fun _ => 0) 128) 184))) := Lib.hid ((Below.refl _ _).alloc (Nat.le_refl _) _)
  have HBy := Lib.hid (hB.below HB1.out)
  have HLT := Lib.hid (hB.lt (by omega))
  have HTK := Lib.hid (take_any w.heap.size 128 128 512 c p bs _ (by omega) (by omega) (HN.out.there 0 128 (by omega)) HBy.out (by omega) hc hc2 (fun b o e => by have := HLT.out b o e; omega))
  have HOK : Hid (∀ j, okV (valB bs) 128 = true → j < 128 → pgN (valB bs j) = true) := Lib.hid fun j h hj => of_decide_eq_true h j hj
  have hg1 := HT.out.lt
  have hiz : (i : Int) < 4 := by omega
  have HI := Lib.hid hi
  clear h hl hB hc hc2 hi HBy
  generalize rowA (fun _ => 0) 128 = Z at *
  generalize hW1 : w.alloc (.cells Z 184) = W1 at *
  have HW1 := Lib.hid hW1
  clear hW1
  go_enter Tryz.func192, Tryz.ntmps192
  go_wp2_with (first
    | (go_at_call 175; refine (HY.out _).mono ?_; rintro e w7 ⟨rfl, rfl⟩)
    | (go_at_call 188; refine (HW.out _).mono ?_; rintro e w7 ⟨rfl, rfl⟩))
  rw [HW1.out]
  refine HTK.out.mono ?_
  rintro e w8 ⟨rfl, k, hk, hw8, hfull⟩
  have HW8 := Lib.hid hw8
  have HK := Lib.hid hfull
  clear hk hw8 hfull HTK
  have HO8 : Hid (Only w.heap.size W1 w8) := Lib.hid (by rw [HW8.out]; exact only_segs _ _ _ _)
  have HB8 : Hid (Below w.heap.size w w8) := Lib.hid (HO8.out.below HB1.out HB1.out.size (Nat.le_refl _))
  have HT8 : Hid (Tab w8 g f) := Lib.hid (HT.out.below HB8.out)
  cases hok : okV (valB bs) 128 with
  | false =>
    rw [hok] at HE HF
    clear hok
    go_wp2_with fail
    go_ret
    refine ⟨by rw [HE.out]; rfl, ?_, Only.of_below HB8.out⟩
    rw [HF.out, if_neg (by decide)]; exact HT8.out
  | true =>
    have HX : Hid (w8.rangeAt w.heap.size 0 (ints (valB bs) 0 128)) := Lib.hid (by
      have h1 := IsT.segs (v := valB bs) 128 0 0 _ _ HN.out
      rw [HK.out hok] at HW8
      rw [HW8.out]
      have h2 := h1.range 0 128 (by omega)
      rwa [ints_congr (f := over (fun _ => 0) 0 (valB bs) 0 128) (g := valB bs) (a := 0) (b := 0) (fun j hj => over_in _ _ _ _ _ _ hj)] at h2)
    have HTH : Hid (w8.there g (i * 128) 128) := Lib.hid (HT8.out.row.there _ _ (by have := HI.out; omega))
    have HFin : Hid (Tab (w8.drew.setCells g (i * 128) (ints (valB bs) 0 128)) g (loadF f (i : Int) bs)) := Lib.hid (by
      rw [HF.out, hok, if_pos rfl, Nat.mul_comm 128 i]
      exact ⟨IsT.segs 128 (i * 128) 0 f w8.drew HT8.out.drew.row, HT8.out.ok.over _ _ _ fun j hj => by rw [Nat.zero_add]; exact HOK.out j hok hj⟩)
    have HOF : Hid (Only g w (w8.drew.setCells g (i * 128) (ints (valB bs) 0 128))) := Lib.hid ((Only.of_below HB8.out.drew).trans (only_segs _ _ _ _))
    have HS : Hid ((Tryz.prog.info? 184).map (·.size) = some (ints (valB bs) 0 128).length) := Lib.hid (by rw [size184, ints_len])
    have HS2 : Hid ((Tryz.prog.info? 184).map (·.size) = some (ints (valB bs) 0 128).toArray.size) := Lib.hid (by rw [size184]; simp [ints_len])
    have HLN : Hid ((ints (valB bs) 0 128).toArray.size = 128) := Lib.hid (by simp [ints_len])
    have H1 := Lib.hid (all_oneCell_toArray (ints_one (valB bs) 0 128))
    rw [hok] at HE HF
    clear hok
    generalize ints (valB bs) 0 128 = X at *
    go_wp2_with fail
    refine wp_region_held_drew (S := fun w' => w'.rangeAt w.heap.size 0 X ∧ w'.there g (i * 128) 128) (by kernel_rfl) ⟨(World.rangeAt_drew _ _ _ _).2 HX.out, (World.there_drew _ _ _ _).2 HTH.out⟩ (fun hS => ?_)
    refine wpAnyH_take (i := 0) (v := .pointer (some ⟨g, 0, none⟩)) rfl (by kernel_rfl) (by kernel_rfl) (by kernel_rfl) (fun _ _ _ h => h) (Or.inl ⟨by rfl, fun w _ => by go_simp⟩) hS ?_
    refine wpAnyH_take (i := 1) (v := .int .i64 (i : Int)) rfl (by kernel_rfl) (by kernel_rfl) (by kernel_rfl) (fun _ _ _ h => h) (Or.inl ⟨by rfl, fun w _ => by go_simp⟩) hS ?_
    refine wpAnyH_take (i := 2) (v := .agg X.toArray) rfl (by kernel_rfl) (by kernel_rfl) (by kernel_rfl) (fun _ _ _ h => h) (yieldsIf_load_mid rfl 184 (.tmp 8) rfl w.heap.size 0 rfl X _ (fun w h => h.1) Tryz.underlying184 rfl HS.out) hS ?_
    refine wpAnyH_take (i := 3) (v := .pointer (some ⟨g, 0, none⟩)) rfl (by kernel_rfl) (by kernel_rfl) (by kernel_rfl) (fun _ _ _ h => h) (Or.inl ⟨by rfl, fun w _ => by go_simp⟩) hS ?_
    refine wpAnyH_take (i := 4) (v := .pointer (some ⟨g, 0, none⟩)) rfl (by kernel_rfl) (by kernel_rfl) (by kernel_rfl) (fun _ _ _ h => h) (Or.inl ⟨by rfl, fun w _ => by go_simp⟩) hS ?_
    refine wpAnyH_take (i := 5) (v := .pointer (some ⟨g, i * 128, none⟩)) rfl (by kernel_rfl) (by kernel_rfl) (by kernel_rfl) (fun _ _ _ h => h) (Or.inl ⟨by rfl, fun w _ => by go_simp⟩) hS ?_
    simp only [List.getElem_toArray, List.getElem_cons_succ, List.getElem_cons_zero, Act.put, List.setIfInBounds_toArray, List.set_cons_succ, List.set_cons_zero]
    refine wpAnyH_ready (rs := [6]) (by kernel_rfl) (by simp) ?_
    refine AllReadyH.cons rfl (fun K hK => ?_) AllReadyH.nil
    rw [if_pos (by rfl)]
    simp only [List.getElem_toArray, List.getElem_cons_succ, List.getElem_cons_zero, Act.put, List.setIfInBounds_toArray, List.set_cons_succ, List.set_cons_zero]
    refine wp_store_mid 184 (.tmp 31) (.tmp 28) ?sa g (i * 128) X.toArray ?sb ?sc ?sd HS2.out H1.out ?se
    case sa => exact rfl
    case sb => exact rfl
    case sc => exact rfl
    case sd => rw [HLN.out]; exact hS.2
    refine hK.out _ _ ⟨World.rangeAt_setCells_apart hS.1 _ _ _ (.inl (by omega)), World.there_setCells hS.2 _ _ _⟩ fun _ => ?_
    refine wpAnyH_done (by kernel_rfl) ?_ _
    clear hK K
    go_wp2_with fail
    go_ret
    exact ⟨by rw [HE.out, if_pos trivial]; rfl, HFin.out, HOF.out⟩
theorem load_any {w : World} {g : Nat} {f : Nat → Nat} (h : Tab w g f) (x : Int) (p : Option Addr) (n c : Nat) (bs : List Nat) (hB : Bys w p n bs) (hc : n ≤ c) (hc2 : c ≤ 9223372036854775807) :
    Calls Tryz.prog 192 #[.pointer (some ⟨g, 0, none⟩), .int .i64 x, .slice p n c] w fun e w' => e = .returned (.int .i64 (loadE x bs)) ∧ Tab w' g (loadF f x bs) ∧ Only g w w' := by
  by_cases hx : ¬ (0 ≤ x ∧ x < 4) ∨ wholeE n ≠ 0
  · refine (load_not h x p n c bs hB hc hc2 hx).mono ?_
    rintro e w' ⟨rfl, rfl⟩
    refine ⟨rfl, ?_, Only.refl _ _⟩
    have : loadE x bs ≠ 0 := by
      unfold loadE
      rw [hB.len]
      rcases hx with hx | hx
      · rw [if_pos hx]; decide
      · by_cases hx0 : 0 ≤ x ∧ x < 4
        · rw [if_neg (not_not_intro hx0), if_pos hx]; exact hx
        · rw [if_pos hx0]; decide
    unfold loadF
    rw [if_neg this]; exact h
  · have h1 : 0 ≤ x ∧ x < 4 := Classical.not_not.1 fun h => hx (.inl h)
    have h2 : n = 512 := wholeE_zero (Classical.not_not.1 fun h => hx (.inr h))
    subst h2
    obtain ⟨i, rfl⟩ := Int.eq_ofNat_of_zero_le h1.1
    exact load_in h i (by omega) p c bs hB hc hc2
end Go.Proofs.YtmbecjlioogbhaaGreatDoor.Tb
end
section
/-! Directories as bytes: zeros told; what Encode writes. -/
set_option linter.unusedSimpArgs false
set_option maxRecDepth 20000
namespace Go.Proofs.YtmbecjlioogbhaaGreatDoor.Tb
open Go.Proofs.YtmbecjlioogbhaaGreatDoor.Bi
open Go.RowKit

/-- Are so many bytes all 0? -/
def allZ (bs : List Nat) (n : Nat) : Bool := decide (∀ j, j < n → bs.getD j 0 = 0)
set_option maxRecDepth 100000 in
set_option maxHeartbeats 800000 in
theorem zeros_any (p : Option Addr) (n c : Nat) (bs : List Nat) (w : World) (hB : Bys w p n bs) (hn : n ≤ 1099511627776) :
    Calls Tryz.prog 190 #[.slice p n c] w fun e w' => e = .returned (.bool (allZ bs n)) ∧ w = w' := by
  have HB := Lib.hid hB
  have hnz : (n : Int) ≤ 1099511627776 := by omega
  clear hB hn
  go_enter Tryz.func190, Tryz.ntmps190
  go_wp2_with fail
  go_loop [7] (fun iv => ∃ i : Nat, i ≤ n ∧ iv = .int .i64 (i : Int) ∧ ∀ j, j < i → bs.getD j 0 = 0) (fun iv => n - (RowKit.intOf iv).toNat)
  case atStart => exact ⟨0, by omega, by go_num, fun j hj => absurd hj (Nat.not_lt_zero j)⟩
  case round =>
    obtain ⟨i, hi, rfl, hz⟩ := hrel
    have HZ := Lib.hid hz
    clear hz
    by_cases hlt : i < n
    · obtain ⟨b, o, rfl, hc⟩ := HB.out.at (by omega)
      have hcell := hc i hlt
      have hd : decide ((i : Int) < (n : Int)) = true := decide_eq_true (by omega)
      have HL := Lib.hid hlt
      have hin : i < n := hlt
      clear hc hlt hi
      by_cases h0 : bs.getD i 0 = 0
      · rw [h0] at hcell
        have HN : Hid (∀ j, j < i + 1 → bs.getD j 0 = 0) := Lib.hid fun j hj => by
          by_cases e : j = i
          · rw [e]; exact h0
          · exact HZ.out j (by omega)
        clear h0
        go_wp2_with fail
        go_round
        case rel => exact ⟨i + 1, by have := HL.out; omega, by go_num, HN.out⟩
        case measure => have := HL.out; simp [RowKit.intOf]; omega
      · have HA : Hid (allZ bs n = false) := Lib.hid (decide_eq_false fun h => h0 (h i HL.out))
        have hne : (((bs.getD i 0 : Nat) : Int) != 0) = true := by simpa using h0
        clear h0
        generalize bs.getD i 0 = y at *
        go_wp2_with fail
        go_ret
        exact ⟨by rw [HA.out]; rfl, rfl⟩
    · have hd : decide ((i : Int) < (n : Int)) = false := decide_eq_false (by omega)
      have hd2 : decide (i < n) = false := decide_eq_false hlt
      have HA : Hid (allZ bs n = true) := Lib.hid (decide_eq_true fun j hj => HZ.out j (by omega))
      clear hi
      go_wp2_with fail
      go_ret
      exact ⟨by rw [HA.out]; rfl, rfl⟩
/-- A leaves' pages, as a row. -/
def lvF (x y z u : Int) : Nat → Nat
  | 0 => x.toNat
  | 1 => y.toNat
  | 2 => z.toNat
  | 3 => u.toNat
  | _ => 0
/-- May all four be? -/
def okL (x y z u : Int) : Bool := mayI x && mayI y && mayI z && mayI u
theorem mayI_nn {x : Int} (h : mayI x = true) : 0 ≤ x ∧ x < 512 := by
  unfold mayI pgI at h
  simp only [Bool.or_eq_true, beq_iff_eq, Bool.and_eq_true, decide_eq_true_eq] at h
  omega
theorem okL_nat {x y z u : Int} (h : okL x y z u = true) : (0 ≤ x ∧ x < 512) ∧ (0 ≤ y ∧ y < 512) ∧ (0 ≤ z ∧ z < 512) ∧ (0 ≤ u ∧ u < 512) := by
  unfold okL at h
  simp only [Bool.and_eq_true] at h
  exact ⟨mayI_nn h.1.1.1, mayI_nn h.1.1.2, mayI_nn h.1.2, mayI_nn h.2⟩
theorem lvF_lt {x y z u : Int} (h : okL x y z u = true) (j : Nat) : lvF x y z u j < 512 := by
  obtain ⟨h1, h2, h3, h4⟩ := okL_nat h
  unfold lvF
  split <;> omega
/-- A directory's bytes. -/
def dirB (x y z u : Int) (f : Nat → Bool) : List Nat := fours (lvF x y z u) 4 ++ rowF f 64 ++ List.replicate 432 0
theorem dirB_len (x y z u : Int) (f : Nat → Bool) : (dirB x y z u f).length = 512 := by
  unfold dirB; rw [List.length_append, List.length_append, fours_len, rowF_len, List.length_replicate]
theorem dirB_dig {x y z u : Int} (h : okL x y z u = true) (f : Nat → Bool) : ∀ b ∈ dirB x y z u f, b < 256 :=
  dig_append (dig_append (fours_dig (lvF_lt h) 4) (rowF_dig _ _)) (by intro b hb; rw [List.mem_replicate] at hb; omega)
end Go.Proofs.YtmbecjlioogbhaaGreatDoor.Tb
end
section
/-! What one of two sets has, and what one has and the other one hasn't; are two sets the same? -/
set_option maxRecDepth 20000
namespace Go.Proofs.YtmbecjlioogbhaaGreatDoor.Bi
open Go.RowKit

theorem or_any (x y : Nat) (w : World) (hx : x < 256) (hy : y < 256) : Calls Tryz.prog 236 #[.int .u8 (x : Int), .int .u8 (y : Int)] w fun e w' => e = .returned (.int .u8 ((x ||| y : Nat) : Int)) ∧ w = w' := by
  have h := u8_or_nat x y hx hy
  go_enter Tryz.func236, Tryz.ntmps236
  go_wp2_with fail
  go_ret
  exact ⟨rfl, rfl⟩
def both (t : Bool) (f k : Nat → Bool) : Nat → Bool := fun i => if t then f i || k i else f i && !k i
/-- Bytes, likewise. -/
def join (t : Bool) (x y : Nat) : Nat := if t then x ||| y else x &&& (255 - y)
theorem not_bit (y k : Nat) (hy : y < 256) (hk : k < 8) : (255 - y).testBit k = !y.testBit k := by
  have : ∀ (y : Fin 256) (k : Fin 8), (255 - y.val).testBit k.val = !y.val.testBit k.val := by decide +kernel
  exact this ⟨y, hy⟩ ⟨k, hk⟩
theorem byt_join (t : Bool) (f k : Nat → Bool) (j : Nat) : join t (byt f j) (byt k j) = byt (both t f k) j := by
  apply Nat.eq_of_testBit_eq
  intro i
  unfold join
  rw [byt_bit]
  unfold both
  by_cases hi : i < 8
  · rw [decide_eq_true hi, Bool.true_and]
    cases t
    · simp only [Bool.false_eq_true, if_false]
      rw [Nat.testBit_and, not_bit _ _ (byt_lt _ _) hi, byt_bit, byt_bit, decide_eq_true hi, Bool.true_and, Bool.true_and]
    · simp only [if_true]
      rw [Nat.testBit_or, byt_bit, byt_bit, decide_eq_true hi, Bool.true_and, Bool.true_and]
  · rw [decide_eq_false hi, Bool.false_and]
    cases t
    · simp only [Bool.false_eq_true, if_false]
      rw [Nat.testBit_and, byt_bit, decide_eq_false hi, Bool.false_and, Bool.false_and]
    · simp only [if_true]
      rw [Nat.testBit_or, byt_bit, byt_bit, decide_eq_false hi]; rfl
set_option maxHeartbeats 1600000 in
theorem same_any {w : World} {g b n g2 b2 m : Nat} {f k : Nat → Bool} (h : Sat w g b n f) (h2 : Sat w g2 b2 m k) :
    Calls Tryz.prog 150 #[.pointer (some ⟨g, 0, none⟩), .pointer (some ⟨g2, 0, none⟩)] w fun e w' => e = .returned (.bool (decide (n = m ∧ rowF f (need n) = rowF k (need m)))) ∧ Below w.heap.size w w' := by
  have l0 : ∀ s : In w, s.1.cell? ⟨g, 0, none⟩ = some (.int .i64 (n : Int)) := fun s => (h.below s.2).c0
  have l1 : ∀ s : In w, s.1.cell? ⟨g, 1, none⟩ = some (.slice (some ⟨b, 0, none⟩) (need n) (need n)) := fun s => (h.below s.2).c1
  have l2 : ∀ s : In w, s.1.cell? ⟨g2, 0, none⟩ = some (.int .i64 (m : Int)) := fun s => (h2.below s.2).c0
  have l3 : ∀ s : In w, s.1.cell? ⟨g2, 1, none⟩ = some (.slice (some ⟨b2, 0, none⟩) (need m) (need m)) := fun s => (h2.below s.2).c1
  have HE : Hid (∀ s : In w, Calls Tryz.prog 193 #[.slice (some ⟨b, 0, none⟩) (need n) (need n), .slice (some ⟨b2, 0, none⟩) (need m) (need m)] s.1 fun e w' => e = .returned (.bool (decide (rowF f (need n) = rowF k (need m)))) ∧ s.1 = w') := Lib.hid fun s => equal_any _ _ _ _ _ _ _ _ _ (h.below s.2).bys (h2.below s.2).bys
  clear h h2
  have hne := In.some w
  by_cases hnm : n = m
  · have he : ((n : Int) == (m : Int)) = true := by rw [hnm]; simp
    have hd : decide (n = m ∧ rowF f (need n) = rowF k (need m)) = decide (rowF f (need n) = rowF k (need m)) := by
      by_cases hr : rowF f (need n) = rowF k (need m)
      · rw [decide_eq_true hr, decide_eq_true ⟨hnm, hr⟩]
      · rw [decide_eq_false hr, decide_eq_false (fun h => hr h.2)]
    rw [hd]
    generalize decide (rowF f (need n) = rowF k (need m)) = v at *
    clear hnm hd
    go_enter Tryz.func150, Tryz.ntmps150
    go_upto_region 3 with fail
    refine region_in w (by kernel_rfl) (by kernel_rfl) (Below.refl _ _) ?_
    repeat (go_big_quiet_step ((go_at_call 193; exact Calls.quiet_in_same (HE.out _))))
    refine wpQuiet_nil ?_
    intro w12 hw'
    have hb12 : Below w.heap.size w w12 := by
      obtain ⟨⟨wz, hbz⟩, hw''⟩ := hw'
      subst hw''
      exact hbz
    clear hw'
    go_wp2_with fail
    go_ret
    exact ⟨rfl, hb12⟩
  · have he : ((n : Int) == (m : Int)) = false := by simp; omega
    rw [decide_eq_false (fun h => hnm h.1)]
    clear hnm HE
    go_enter Tryz.func150, Tryz.ntmps150
    go_upto_region 3 with fail
    refine region_in w (by kernel_rfl) (by kernel_rfl) (Below.refl _ _) ?_
    repeat (go_big_quiet_step (fail))
    refine wpQuiet_nil ?_
    intro w12 hw'
    have hb12 : Below w.heap.size w w12 := by
      obtain ⟨⟨wz, hbz⟩, hw''⟩ := hw'
      subst hw''
      exact hbz
    clear hw'
    go_wp2_with fail
    go_ret
    exact ⟨rfl, hb12⟩
end Go.Proofs.YtmbecjlioogbhaaGreatDoor.Bi
end
section
/-! What Encode returns. -/
set_option linter.unusedSimpArgs false
set_option maxRecDepth 20000
namespace Go.Proofs.YtmbecjlioogbhaaGreatDoor.Tb
open Go.Proofs.YtmbecjlioogbhaaGreatDoor.Bi
open Go.RowKit

theorem spl1 (A : List Nat) (h : A.length = 16) : splice (u8s (List.replicate 512 0)) 0 (u8s A) = u8s (A ++ List.replicate 496 0) := by
  unfold splice
  rw [List.take_zero, List.nil_append, u8s_len, h, Nat.zero_add, u8s_drop, ← u8s_append, List.drop_replicate]
theorem spl2 (A R : List Nat) (h : A.length = 16) (hr : R.length = 64) : splice (u8s (A ++ List.replicate 496 0)) 16 (u8s R) = u8s (A ++ R ++ List.replicate 432 0) := by
  unfold splice
  rw [u8s_take, List.take_append_of_le_length (by omega), List.take_of_length_le (by omega), u8s_len, hr, u8s_drop, List.drop_append, List.drop_of_length_le (by omega), List.nil_append, h, List.drop_replicate, ← u8s_append, ← u8s_append, List.append_assoc]
theorem run_index48 (cs : Array Value) (k : Nat) (v : Value) (w : World) (hk : k < 4) (hv : cs[k]? = some v) : (Instr.index 94 (.agg cs) (.int .i64 (k : Int))).run Tryz.prog w = .ok v w := by
  have hu := Tryz.underlying94
  have hp := run_part3 cs k v w hv
  obtain ⟨i0, hi, hz0, hz1, hz2⟩ := info_parts Tryz.info3
  have hs : (sizeOf 3).run Tryz.prog w = .ok 1 w := by simp [sizeOf, typeInfo, hi, hz1]
  have ha : (asIntOf (.int .i64 (k : Int))).run Tryz.prog w = .ok (.i64, (k : Int)) w := by simp [asIntOf]
  have hc : (0 : Int) ≤ (k : Int) ∧ (k : Int) < ((4 : Nat) : Int) := ⟨by omega, by omega⟩
  unfold Instr.index
  simp only [Sem.run_bind, ha, Result.andThen_ok, run_underlying hu w, if_pos hc, hs, Int.toNat_natCast, hp]
theorem wpList_index48 {ops : Array Oper} {rest : List Oper} {o : Oper} {a : Act} {w : World} {Q : Exit → Act → World → Prop} (hgd : o.guard = none) (x y : Operand) (ho : o.op = .index 94 x y)
    (cs : Array Value) (k : Nat) (v : Value) (hx : a.eval x = .agg cs) (hy : a.eval y = .int .i64 (k : Int)) (hk : k < 4) (hv : cs[k]? = some v) (h : wpList Tryz.prog ops Q rest (a.put o.dst v) w) : wpList Tryz.prog ops Q (o :: rest) a w :=
  wpList_plain hgd fun _ hK => by
    unfold Oper.wp execOp
    simp only [ho, hx, hy, Sem.run_bind, run_index48 cs k v w hk hv, Result.andThen_ok, Sem.run_pure]
    exact hK _ _ h
def okN (x y z u : Int) : Nat → Bool
  | 0 => mayI x
  | 1 => mayI y
  | 2 => mayI z
  | 3 => mayI u
  | _ => true
theorem okN_all {x y z u : Int} (h : ∀ j, j < 4 → okN x y z u j = true) : okL x y z u = true := by
  have h0 := h 0 (by omega); have h1 := h 1 (by omega); have h2 := h 2 (by omega); have h3 := h 3 (by omega)
  have g0 : mayI x = true := h0
  have g1 : mayI y = true := h1
  have g2 : mayI z = true := h2
  have g3 : mayI u = true := h3
  unfold okL
  rw [g0, g1, g2, g3]; rfl
set_option maxRecDepth 100000 in
set_option maxHeartbeats 1600000 in
theorem enc_any (x y z u : Int) (gs bs : Nat) (f : Nat → Bool) (w : World) (hS : Sat w gs bs 512 f) :
    Calls Tryz.prog 143 #[.agg #[.int .i64 x, .int .i64 y, .int .i64 z, .int .i64 u, .pointer (some ⟨gs, 0, none⟩)]] w fun e w' =>
      ((okL x y z u = true ∧ ∃ p c, e = .returned (.tuple #[.slice p 512 c, .int .i64 0]) ∧ Bys w' p 512 (dirB x y z u f) ∧ 512 ≤ c ∧ c ≤ 9223372036854775807) ∨ (okL x y z u = false ∧ e = .returned (.tuple #[.slice none 0 0, .int .i64 1]))) ∧ Below w.heap.size w w' := by
  have HB0 : Hid (Below w.heap.size w (w.alloc (.cells #[.int .i64 x, .int .i64 y, .int .i64 z, .int .i64 u, .pointer (some ⟨gs, 0, none⟩)] 199))) := Lib.hid ((Below.refl _ _).alloc (Nat.le_refl _) _)
  have HDB := heap_alloc_new w (.cells #[.int .i64 x, .int .i64 y, .int .i64 z, .int .i64 u, .pointer (some ⟨gs, 0, none⟩)] 199)
  have HD := Lib.hid HDB
  have HSZ : Hid ((w.alloc (.cells #[.int .i64 x, .int .i64 y, .int .i64 z, .int .i64 u, .pointer (some ⟨gs, 0, none⟩)] 199)).heap.size = w.heap.size + 1) := Lib.hid (by simp)
  have k0 : (w.alloc (.cells #[.int .i64 x, .int .i64 y, .int .i64 z, .int .i64 u, .pointer (some ⟨gs, 0, none⟩)] 199)).cell? ⟨w.heap.size, 0, none⟩ = some (.int .i64 x) := by rw [cell_of_row _ _ _ _ _ _ HDB]; rfl
  have k1 : (w.alloc (.cells #[.int .i64 x, .int .i64 y, .int .i64 z, .int .i64 u, .pointer (some ⟨gs, 0, none⟩)] 199)).cell? ⟨w.heap.size, 1, none⟩ = some (.int .i64 y) := by rw [cell_of_row _ _ _ _ _ _ HDB]; rfl
  have k2 : (w.alloc (.cells #[.int .i64 x, .int .i64 y, .int .i64 z, .int .i64 u, .pointer (some ⟨gs, 0, none⟩)] 199)).cell? ⟨w.heap.size, 2, none⟩ = some (.int .i64 z) := by rw [cell_of_row _ _ _ _ _ _ HDB]; rfl
  have k3 : (w.alloc (.cells #[.int .i64 x, .int .i64 y, .int .i64 z, .int .i64 u, .pointer (some ⟨gs, 0, none⟩)] 199)).cell? ⟨w.heap.size, 3, none⟩ = some (.int .i64 u) := by rw [cell_of_row _ _ _ _ _ _ HDB]; rfl
  have k4 : (w.alloc (.cells #[.int .i64 x, .int .i64 y, .int .i64 z, .int .i64 u, .pointer (some ⟨gs, 0, none⟩)] 199)).cell? ⟨w.heap.size, 4, none⟩ = some (.pointer (some ⟨gs, 0, none⟩)) := by rw [cell_of_row _ _ _ _ _ _ HDB]; rfl
  have HS := Lib.hid (hS.below HB0.out)
  have HSize := Lib.hid (size_any HS.out)
  clear hS HDB
  go_enter Tryz.func143, Tryz.ntmps143
  go_upto_region 1 with fail
  generalize w.alloc _ = W at *
  go_wp2_with (go_at_call 180; refine HSize.out.mono ?_; rintro e w7 ⟨rfl, rfl⟩)
  go_loop [13] (fun iv => ∃ i : Nat, i ≤ 4 ∧ iv = .int .i64 (i : Int) ∧ ∀ j, j < i → okN x y z u j = true) (fun iv => 4 - (RowKit.intOf iv).toNat)
  case atStart => exact ⟨0, by omega, by go_num, fun j hj => absurd hj (Nat.not_lt_zero j)⟩
  case round =>
    obtain ⟨i, hi, rfl, hok⟩ := hrel
    rcases (show i = 0 ∨ i = 1 ∨ i = 2 ∨ i = 3 ∨ i = 4 by omega) with rfl | rfl | rfl | rfl | rfl
    · have hd : decide ((0 : Int) < 4) = true := rfl
      cases hm : mayI x with
      | false =>
        have HO : Hid (okL x y z u = false) := Lib.hid (by unfold okL; rw [hm]; simp)
        have HMA := Lib.hid (fun w => may_any7 x w)
        rw [hm] at HMA
        clear hm hok
        go_wp2_with (first
          | (go_at_call 181; refine (HMA.out _).mono ?_; rintro e w7 ⟨rfl, rfl⟩)
          | (refine wpList_index48 rfl (.tmp 12) (.tmp 13) rfl _ 0 _ rfl rfl (by decide) rfl ?_))
        go_ret2
        exact ⟨.inr ⟨HO.out, rfl⟩, HB0.out⟩
      | true =>
        have HMA := Lib.hid (fun w => may_any7 x w)
        have HO : Hid (∀ j, j < 1 → okN x y z u j = true) := Lib.hid fun j hj => by
          by_cases e : j = 0
          · subst e; exact hm
          · exact hok j (by omega)
        rw [hm] at HMA
        clear hm hok
        go_wp2_with (first
          | (go_at_call 181; refine (HMA.out _).mono ?_; rintro e w7 ⟨rfl, rfl⟩)
          | (refine wpList_index48 rfl (.tmp 12) (.tmp 13) rfl _ 0 _ rfl rfl (by decide) rfl ?_))
        go_round
        case rel => exact ⟨1, by omega, by go_num, HO.out⟩
        case measure => simp [RowKit.intOf]
    · have hd : decide ((1 : Int) < 4) = true := rfl
      cases hm : mayI y with
      | false =>
        have HO : Hid (okL x y z u = false) := Lib.hid (by unfold okL; rw [hm]; simp)
        have HMA := Lib.hid (fun w => may_any7 y w)
        rw [hm] at HMA
        clear hm hok
        go_wp2_with (first
          | (go_at_call 181; refine (HMA.out _).mono ?_; rintro e w7 ⟨rfl, rfl⟩)
          | (refine wpList_index48 rfl (.tmp 12) (.tmp 13) rfl _ 1 _ rfl rfl (by decide) rfl ?_))
        go_ret2
        exact ⟨.inr ⟨HO.out, rfl⟩, HB0.out⟩
      | true =>
        have HMA := Lib.hid (fun w => may_any7 y w)
        have HO : Hid (∀ j, j < 2 → okN x y z u j = true) := Lib.hid fun j hj => by
          by_cases e : j = 1
          · subst e; exact hm
          · exact hok j (by omega)
        rw [hm] at HMA
        clear hm hok
        go_wp2_with (first
          | (go_at_call 181; refine (HMA.out _).mono ?_; rintro e w7 ⟨rfl, rfl⟩)
          | (refine wpList_index48 rfl (.tmp 12) (.tmp 13) rfl _ 1 _ rfl rfl (by decide) rfl ?_))
        go_round
        case rel => exact ⟨2, by omega, by go_num, HO.out⟩
        case measure => simp [RowKit.intOf]
    · have hd : decide ((2 : Int) < 4) = true := rfl
      cases hm : mayI z with
      | false =>
        have HO : Hid (okL x y z u = false) := Lib.hid (by unfold okL; rw [hm]; simp)
        have HMA := Lib.hid (fun w => may_any7 z w)
        rw [hm] at HMA
        clear hm hok
        go_wp2_with (first
          | (go_at_call 181; refine (HMA.out _).mono ?_; rintro e w7 ⟨rfl, rfl⟩)
          | (refine wpList_index48 rfl (.tmp 12) (.tmp 13) rfl _ 2 _ rfl rfl (by decide) rfl ?_))
        go_ret2
        exact ⟨.inr ⟨HO.out, rfl⟩, HB0.out⟩
      | true =>
        have HMA := Lib.hid (fun w => may_any7 z w)
        have HO : Hid (∀ j, j < 3 → okN x y z u j = true) := Lib.hid fun j hj => by
          by_cases e : j = 2
          · subst e; exact hm
          · exact hok j (by omega)
        rw [hm] at HMA
        clear hm hok
        go_wp2_with (first
          | (go_at_call 181; refine (HMA.out _).mono ?_; rintro e w7 ⟨rfl, rfl⟩)
          | (refine wpList_index48 rfl (.tmp 12) (.tmp 13) rfl _ 2 _ rfl rfl (by decide) rfl ?_))
        go_round
        case rel => exact ⟨3, by omega, by go_num, HO.out⟩
        case measure => simp [RowKit.intOf]
    · have hd : decide ((3 : Int) < 4) = true := rfl
      cases hm : mayI u with
      | false =>
        have HO : Hid (okL x y z u = false) := Lib.hid (by unfold okL; rw [hm]; simp)
        have HMA := Lib.hid (fun w => may_any7 u w)
        rw [hm] at HMA
        clear hm hok
        go_wp2_with (first
          | (go_at_call 181; refine (HMA.out _).mono ?_; rintro e w7 ⟨rfl, rfl⟩)
          | (refine wpList_index48 rfl (.tmp 12) (.tmp 13) rfl _ 3 _ rfl rfl (by decide) rfl ?_))
        go_ret2
        exact ⟨.inr ⟨HO.out, rfl⟩, HB0.out⟩
      | true =>
        have HMA := Lib.hid (fun w => may_any7 u w)
        have HO : Hid (∀ j, j < 4 → okN x y z u j = true) := Lib.hid fun j hj => by
          by_cases e : j = 3
          · subst e; exact hm
          · exact hok j (by omega)
        rw [hm] at HMA
        clear hm hok
        go_wp2_with (first
          | (go_at_call 181; refine (HMA.out _).mono ?_; rintro e w7 ⟨rfl, rfl⟩)
          | (refine wpList_index48 rfl (.tmp 12) (.tmp 13) rfl _ 3 _ rfl rfl (by decide) rfl ?_))
        go_round
        case rel => exact ⟨4, by omega, by go_num, HO.out⟩
        case measure => simp [RowKit.intOf]
    · have HO := Lib.hid (okN_all hok)
      clear hok hi
      have hd : decide ((4 : Int) < 4) = false := rfl
      have HLV := Lib.hid (lvF_lt HO.out)
      obtain ⟨Z0, HZ0⟩ : ∃ Z0, Hid (Z0 = List.replicate 512 0) := ⟨_, Lib.hid rfl⟩
      obtain ⟨hx, hy, hzz, hu⟩ := okL_nat HO.out
      obtain ⟨i0, hi, hz0, hz1, hz2⟩ := info_parts Tryz.info5
      have hmk : ∀ w : World, (Instr.makeSlice 71 (.int .i64 512) (.int .i64 512)).run Tryz.prog w = .ok (.slice (some ⟨w.heap.size, 0, none⟩) 512 512) (w.alloc (.cells (u8s Z0).toArray 5)) := fun w => by
        have h := run_make (P := Tryz.prog) w 71 5 i0 _ Tryz.underlying71 hi hz0 .i64 .i64 ((512 : Nat) : Int) ((512 : Nat) : Int) (by omega) (by omega) (by rw [hz2]; omega) (by omega)
        rw [hz1, Int.toNat_natCast, Nat.mul_one] at h
        rw [HZ0.out, ← zeros_of 512, Array.toArray_toList]
        exact h
      have hl0 : (Tryz.prog.info? 5).map (·.size) = some 1 := by kernel_rfl
      have HP := Lib.hid hl0
      have HW1 : Hid (Below W.heap.size W (W.alloc (.cells (u8s Z0).toArray 5))) := Lib.hid ((Below.refl _ _).alloc (Nat.le_refl _) _)
      have HH1 : Hid ((W.alloc (.cells (u8s Z0).toArray 5)).heap[W.heap.size]? = some (.cells (u8s Z0).toArray 5 (0, 0))) := Lib.hid (heap_alloc_new W _)
      have HDW : Hid (w.heap.size < W.heap.size) := Lib.hid (by rw [HSZ.out]; omega)
      have HLay := Lib.hid (lay_any w.heap.size 0 4 4 (lvF x y z u) (W.alloc (.cells (u8s Z0).toArray 5)) (by omega) HLV.out (fun j hj => by
        have e : ∀ t : Int, 0 ≤ t → ((t.toNat : Nat) : Int) = t := fun t ht => Int.toNat_of_nonneg ht
        rw [Nat.zero_add]
        refine (HW1.out.cell (p := ⟨w.heap.size, j, none⟩) HDW.out).trans ?_
        rcases (show j = 0 ∨ j = 1 ∨ j = 2 ∨ j = 3 by omega) with rfl | rfl | rfl | rfl
        · rw [k0]; show some (Value.int .i64 x) = some (.int .i64 ((x.toNat : Nat) : Int)); rw [e x hx.1]
        · rw [k1]; show some (Value.int .i64 y) = some (.int .i64 ((y.toNat : Nat) : Int)); rw [e y hy.1]
        · rw [k2]; show some (Value.int .i64 z) = some (.int .i64 ((z.toNat : Nat) : Int)); rw [e z hzz.1]
        · rw [k3]; show some (Value.int .i64 u) = some (.int .i64 ((u.toNat : Nat) : Int)); rw [e u hu.1]))
      have HK4 := Lib.hid k4
      clear hi hz0 hz1 hz2 hl0 hx hy hzz hu k0 k1 k2 k3 k4 HD HSize HSZ
      go_upto_region 10 with fail
      generalize W.alloc _ = W1 at *
      have HB2 : Hid (Below w.heap.size w W1) := Lib.hid (HB0.out.trans (HW1.out.mono HB0.out.size))
      have HL16 : Hid ((u8s (fours (lvF x y z u) 4)).length = 16) := Lib.hid (by rw [u8s_len, fours_len])
      have HL512 : Hid ((u8s Z0).length = 512) := Lib.hid (by rw [HZ0.out, u8s_len, List.length_replicate])
      go_upto_region 11 with (first
        | (go_at_call 176; refine HLay.out.mono ?_; rintro e w2 ⟨⟨p1, c1, rfl, hB1, hc1, hd1⟩, hb2⟩)
        | (refine wpList_copy_splice (w := w2) rfl (.tmp 21) (.tmp 24) 71 71 rfl 5 Tryz.underlying71 HP.out (some ⟨W.heap.size, 0, none⟩) p1 512 512 (4 * 4) c1 rfl rfl W.heap.size 0 (u8s Z0) 5 ((hb2.block W.heap.size (lt_of_block HH1.out)).trans HH1.out) (u8s (fours (lvF x y z u) 4)) (by rw [HL16.out]; rfl)
            (fun h => ⟨rfl, hB1.cells (by omega)⟩) (by rw [HL16.out, HL512.out]; omega) (u8s_one _) W.heap.size w2 (Below.refl _ _) (Nat.le_refl _) ?_; intro w3 hh3 hb3))
      have HW3 : Hid (Below W.heap.size W w3) := Lib.hid ((HW1.out.trans (hb2.mono HW1.out.size)).trans hb3)
      have HH3 : Hid (w3.heap[W.heap.size]? = some (.cells (u8s (fours (lvF x y z u) 4 ++ List.replicate 496 0)).toArray 5 (0, 0))) := Lib.hid (by
        have h := hh3.out
        rwa [HZ0.out, spl1 _ (fours_len _ _)] at h)
      have HC3 : Hid (w3.cell? ⟨w.heap.size, 4, none⟩ = some (.pointer (some ⟨gs, 0, none⟩))) := Lib.hid ((HW3.out.cell (p := ⟨w.heap.size, 4, none⟩) HDW.out).trans HK4.out)
      have HS3 := Lib.hid (HS.out.below HW3.out)
      have HBt : Hid (∀ w', Sat w' gs bs 512 f → Calls Tryz.prog 182 #[.pointer (some ⟨gs, 0, none⟩)] w' fun e w'' => (∃ p c, e = .returned (.slice p 64 c) ∧ Bys w'' p 64 (rowF f 64)) ∧ Below w'.heap.size w' w'') := Lib.hid fun w' h => bytes_any h
      have HL3 : Hid ((u8s (fours (lvF x y z u) 4 ++ List.replicate 496 0)).length = 512) := Lib.hid (by rw [u8s_len, List.length_append, fours_len, List.length_replicate])
      have HL64 : Hid ((u8s (rowF f 64)).length = 64) := Lib.hid (by rw [u8s_len, rowF_len])
      clear hh3 hb3 hb2 hB1 hc1 hd1 HLay hmk
      have HCU : Hid (splice (u8s (fours (lvF x y z u) 4 ++ List.replicate 496 0)) 16 (u8s (rowF f 64)) = u8s (dirB x y z u f)) := Lib.hid (spl2 _ _ (fours_len _ _) (rowF_len _ _))
      generalize u8s (fours (lvF x y z u) 4 ++ List.replicate 496 0) = CU at *
      refine wp_region_held_drew (S := fun w' => w'.cell? ⟨w.heap.size, 4, none⟩ = some (.pointer (some ⟨gs, 0, none⟩))) (by kernel_rfl) HC3.out (fun hS => ?_)
      try simp only [List.getElem_toArray, List.getElem_cons_succ, List.getElem_cons_zero, Act.put, List.setIfInBounds_toArray, List.set_cons_succ, List.set_cons_zero]
      refine wpAnyH_take (i := 0) (v := .slice (some ⟨W.heap.size, 0, none⟩) 512 512) rfl (by kernel_rfl) (by kernel_rfl) (by kernel_rfl) (fun _ _ _ h => h) (Or.inl ⟨by rfl, fun w' hw => by go_simp⟩) hS ?_
      try simp only [List.getElem_toArray, List.getElem_cons_succ, List.getElem_cons_zero, Act.put, List.setIfInBounds_toArray, List.set_cons_succ, List.set_cons_zero]
      refine wpAnyH_take (i := 1) (v := .slice (some ⟨W.heap.size, 16, none⟩) 496 496) rfl (by kernel_rfl) (by kernel_rfl) (by kernel_rfl) (fun _ _ _ h => h) (Or.inl ⟨by rfl, fun w' hw => by go_simp⟩) hS ?_
      try simp only [List.getElem_toArray, List.getElem_cons_succ, List.getElem_cons_zero, Act.put, List.setIfInBounds_toArray, List.set_cons_succ, List.set_cons_zero]
      refine wpAnyH_take (i := 2) (v := .pointer (some ⟨w.heap.size, 4, none⟩)) rfl (by kernel_rfl) (by kernel_rfl) (by kernel_rfl) (fun _ _ _ h => h) (Or.inl ⟨by rfl, fun w' hw => by go_simp⟩) hS ?_
      try simp only [List.getElem_toArray, List.getElem_cons_succ, List.getElem_cons_zero, Act.put, List.setIfInBounds_toArray, List.set_cons_succ, List.set_cons_zero]
      refine wpAnyH_take (i := 3) (v := .pointer (some ⟨gs, 0, none⟩)) rfl (by kernel_rfl) (by kernel_rfl) (by kernel_rfl) (fun _ _ _ h => h) (Or.inl ⟨by rfl, fun w' hw => by go_simp⟩) hS ?_
      try simp only [List.getElem_toArray, List.getElem_cons_succ, List.getElem_cons_zero, Act.put, List.setIfInBounds_toArray, List.set_cons_succ, List.set_cons_zero]
      refine wpAnyH_ready (rs := [4]) (by kernel_rfl) (by simp) ?_
      refine AllReadyH.cons rfl (fun K hK => ?_) AllReadyH.nil
      rw [if_pos (by rfl)]
      try simp only [List.getElem_toArray, List.getElem_cons_succ, List.getElem_cons_zero, Act.put, List.setIfInBounds_toArray, List.set_cons_succ, List.set_cons_zero]
      go_simp
      go_at_call 182
      refine (HBt.out _ HS3.out.drew).mono ?_
      rintro e w5 ⟨⟨p2, c2, rfl, hB2⟩, hb5⟩
      refine hK.out _ _ ((hb5.cell (p := ⟨w.heap.size, 4, none⟩) (World.block_lt_of_cell? w3 _ HC3.out)).trans hS) (fun hS5 => ?_)
      clear hK K
      refine wpAnyH_ready (rs := [5]) (by kernel_rfl) (by simp) ?_
      refine AllReadyH.cons rfl (fun K hK => ?_) AllReadyH.nil
      refine step_copy_splice rfl (.tmp 27) (.tmp 30) 71 71 rfl 5 Tryz.underlying71 HP.out (some ⟨W.heap.size, 16, none⟩) p2 496 496 64 c2 rfl rfl W.heap.size 16 CU 5 ((hb5.block W.heap.size (lt_of_block HH3.out)).trans HH3.out) (u8s (rowF f 64)) (by rw [HL64.out]; rfl)
        (fun h => ⟨rfl, hB2.cells (by omega)⟩) (by rw [HL64.out, HL3.out]; omega) (u8s_one _) W.heap.size w5 (Below.refl _ _) (Nat.le_refl _) ?_
      intro w6 hh6 hb6
      have HH6 := Lib.hid hh6.out
      rw [HCU.out] at HH6
      refine hK.out _ _ ((hb6.cell (p := ⟨w.heap.size, 4, none⟩) HDW.out).trans hS5) (fun _ => ?_)
      clear hK K hh6
      refine wpAnyH_done (by kernel_rfl) ?_ _
      have HBF : Hid (Below w.heap.size w w6) := Lib.hid ((((HB0.out.trans (HW3.out.mono HB0.out.size)).drew).trans (hb5.mono (by have := HB0.out.size; have := HW3.out.size; show w.heap.size ≤ w3.heap.size; omega))).trans (hb6.mono (by have := HDW.out; omega)))
      clear hb5 hb6 hB2
      go_wp2_with fail
      go_ret2
      refine ⟨.inl ⟨HO.out, _, _, rfl, ⟨dirB_len _ _ _ _ _, dirB_dig HO.out f, fun _ => ⟨W.heap.size, 0, rfl, fun j hj => ?_⟩⟩, by omega, by omega⟩, HBF.out⟩
      rw [cell_of_row _ _ _ _ _ _ HH6.out, Nat.zero_add, ← Array.getElem?_toList]
      exact u8s_get _ _ (by rw [dirB_len]; exact hj)
end Go.Proofs.YtmbecjlioogbhaaGreatDoor.Tb
end
section
/-! A part of the table: its text. -/
set_option maxRecDepth 20000
set_option linter.unusedSimpArgs false
namespace Go.Proofs.YtmbecjlioogbhaaGreatDoor
open Go.RowKit

/-- Spots in four bytes each. -/
def spsB (sp : Nat → Nat) : Nat → List Nat
  | 0 => []
  | n + 1 => spsB sp n ++ be 4 (sp n)
theorem spsB_len (sp : Nat → Nat) : ∀ n, (spsB sp n).length = 4 * n
  | 0 => rfl
  | n + 1 => by show (spsB sp n ++ be 4 (sp n)).length = _; rw [List.length_append, spsB_len sp n, be_len]; omega
theorem spsB_dig (sp : Nat → Nat) : ∀ n, ∀ x ∈ spsB sp n, x < 256
  | 0, x, h => by cases h
  | n + 1, x, h => (List.mem_append.1 h).elim (spsB_dig sp n x) (be_dig _ _ x)
/-- A part by value. -/
def partL (pg : Nat) (sp : Nat → Nat) : List Value := .int .i64 (pg : Int) :: Tb.ints sp 0 128
theorem partL_len (pg : Nat) (sp : Nat → Nat) : (partL pg sp).length = 129 := by unfold partL; rw [List.length_cons, Tb.ints_len]
theorem run_partS (xs : Array Value) (i : Nat) (v : Value) (w : World) (h : xs[i]? = some v) : (part 79 xs (i * 1)).run Tryz.prog w = .ok v w := by
  have hu := Tryz.underlying79
  unfold part
  simp [isAgg, Sem.run_bind, run_underlying hu w, h]
theorem run_index128 (cs : Array Value) (k : Nat) (v : Value) (w : World) (hk : k < 128) (hv : cs[k]? = some v) : (Instr.index 80 (.agg cs) (.int .i64 (k : Int))).run Tryz.prog w = .ok v w := by
  have hu := Tryz.underlying80
  have hp := run_partS cs k v w hv
  obtain ⟨i0, hi, hz0, hz1, hz2⟩ := info_parts (show (Tryz.prog.info? 79).map (fun i => (i.zero, i.size, i.bytes)) = some (some (.int .i64 0), 1, 8) by kernel_rfl)
  have hs : (sizeOf 79).run Tryz.prog w = .ok 1 w := by simp [sizeOf, typeInfo, hi, hz1]
  have ha : (asIntOf (.int .i64 (k : Int))).run Tryz.prog w = .ok (.i64, (k : Int)) w := by simp [asIntOf]
  have hc : (0 : Int) ≤ (k : Int) ∧ (k : Int) < ((128 : Nat) : Int) := ⟨by omega, by omega⟩
  unfold Instr.index
  simp only [Sem.run_bind, ha, Result.andThen_ok, run_underlying hu w, if_pos hc, hs, Int.toNat_natCast, hp]
theorem wpList_index128 {ops : Array Oper} {rest : List Oper} {o : Oper} {a : Act} {w : World} {Q : Exit → Act → World → Prop} (hgd : o.guard = none) (x y : Operand) (ho : o.op = .index 80 x y)
    (cs : Array Value) (k : Nat) (v : Value) (hx : a.eval x = .agg cs) (hy : a.eval y = .int .i64 (k : Int)) (hk : k < 128) (hv : cs[k]? = some v) (h : wpList Tryz.prog ops Q rest (a.put o.dst v) w) : wpList Tryz.prog ops Q (o :: rest) a w :=
  wpList_plain hgd fun _ hK => by
    unfold Oper.wp execOp
    simp only [ho, hx, hy, Sem.run_bind, run_index128 cs k v w hk hv, Result.andThen_ok, Sem.run_pure]
    exact hK _ _ h
theorem size128 : (Tryz.prog.info? 80).map (·.size) = some 128 := by kernel_rfl
set_option maxHeartbeats 1600000 in
/-- A part's page. -/
theorem partText_any (pg : Nat) (sp : Nat → Nat) (w : World) (hsp : ∀ j, j < 128 → sp j ≤ 1099511627776) :
    Calls Tryz.prog 114 #[.agg (partL pg sp).toArray] w fun e w' => e = .returned (.string (strB (pageT (spsB sp 128)))) ∧ Below w.heap.size w w' := by
  have HB0 := Lib.hid (alloc_below w (.cells (partL pg sp).toArray 82))
  have HR : Hid ((w.alloc (.cells (partL pg sp).toArray 82)).rangeAt w.heap.size 1 (Tb.ints sp 0 128)) := Lib.hid fun j v hv => by
    rw [cell_of_row _ _ _ _ _ _ (heap_alloc_new w _)]
    rw [List.getElem?_toArray]
    unfold partL
    rw [Nat.add_comm, List.getElem?_cons_succ]
    exact hv
  have HS : Hid ((Tryz.prog.info? 80).map (·.size) = some (Tb.ints sp 0 128).length) := Lib.hid (by rw [size128, Tb.ints_len])
  have HIX : Hid (∀ j, j < 128 → (Tb.ints sp 0 128).toArray[j]? = some (.int .i64 ((sp j : Nat) : Int))) := Lib.hid fun j hj => by
    rw [List.getElem?_toArray, Tb.ints_get sp 0 128 j hj, Nat.zero_add]
  have HSP := Lib.hid hsp
  clear hsp
  generalize (partL pg sp).toArray = Z at *
  go_enter Tryz.func114, Tryz.ntmps114
  go_upto_region 1 with fail
  have HBX := Lib.hid HB0.out.size
  generalize w.alloc (.cells Z 82) = W at *
  generalize Tb.ints sp 0 128 = L at *
  go_upto_region 3 with (refine wpList_load_mid rfl 80 (.tmp 6) rfl w.heap.size 1 rfl L _ HR.out Tryz.underlying80 rfl HS.out ?_)
  go_loopw [3, 8] (fun bv iv wr => ∃ i : Nat, i ≤ 128 ∧ iv = .int .i64 (i : Int) ∧ Hid (Bo W.heap.size wr bv (spsB sp i) ∧ Below W.heap.size W wr)) (fun _ iv _ => 128 - (RowKit.intOf iv).toNat)
  case atStart => exact ⟨0, by omega, by go_num, Lib.hid ⟨⟨none, 0, rfl, World.ownsRow_nil _ _ _ _⟩, Below.refl _ _⟩⟩
  case round =>
    obtain ⟨i, hi, rfl, hr⟩ := hrel
    by_cases hlt : i < 128
    · have hd : decide ((i : Int) < 128) = true := decide_eq_true (by omega)
      have hiI : (i : Int) ≤ 127 := by omega
      have hz := HIX.out i hlt
      have HP := Lib.hid (putS_any W.heap.size wr u3 (spsB sp i) (sp i) 4 hr.out.2.size hr.out.1 (HSP.out i hlt) (by omega) (by rw [spsB_len]; omega))
      rw [show ((4 : Nat) : Int) = 4 from rfl] at HP
      have HI := Lib.hid hlt
      go_wp2_with (first
        | (refine wpList_index128 rfl (.tmp 7) (.tmp 8) rfl _ i _ rfl rfl HI.out hz ?_)
        | (go_at_call 119; with_reducible refine HP.out.mono ?_; rintro e w4 ⟨v4, rfl, hv4, hb4⟩))
      have HR4 : Hid (Bo W.heap.size w4 v4 (spsB sp (i + 1)) ∧ Below W.heap.size W w4) := Lib.hid ⟨hv4, hr.out.2.trans hb4⟩
      go_roundw
      case rel => exact ⟨i + 1, HI.out, by go_num, HR4⟩
      case measure => have := HI.out; simp [RowKit.intOf]; omega
    · obtain rfl : i = 128 := by omega
      have hd : decide (((128 : Nat) : Int) < 128) = false := by decide
      obtain ⟨⟨p, c, e, ho⟩, hb⟩ := hr.out
      have HPT := Lib.hid (pageText_any p _ c (spsB sp 128) wr (by rw [spsB_len]; omega) (Bys.own ho (spsB_dig sp 128)))
      have HB := Lib.hid hb
      subst e
      clear hr ho hb HIX HR
      generalize (spsB sp 128).length = N at *
      go_wp2_with (go_at_call 120; with_reducible refine HPT.out.mono ?_; rintro e w5 ⟨rfl, hb5⟩)
      go_ret
      exact ⟨rfl, HB0.out.trans ((Below.more HB.out hb5 HB.out.size).mono HBX.out)⟩
end Go.Proofs.YtmbecjlioogbhaaGreatDoor
end
section
/-! The head's text. -/
set_option maxRecDepth 20000
set_option linter.unusedSimpArgs false
namespace Go.Proofs.YtmbecjlioogbhaaGreatDoor
open Go.RowKit

/-- Pages in two bytes each. -/
def twoB (f : Nat → Nat) : Nat → List Nat
  | 0 => []
  | n + 1 => twoB f n ++ be 2 (f n)
theorem twoB_len (f : Nat → Nat) : ∀ n, (twoB f n).length = 2 * n
  | 0 => rfl
  | n + 1 => by show (twoB f n ++ be 2 (f n)).length = _; rw [List.length_append, twoB_len f n, be_len]; omega
theorem twoB_dig (f : Nat → Nat) : ∀ n, ∀ x ∈ twoB f n, x < 256
  | 0, x, h => by cases h
  | n + 1, x, h => (List.mem_append.1 h).elim (twoB_dig f n x) (be_dig _ _ x)
theorem twoB_congr {f g : Nat → Nat} : ∀ {n}, (∀ i, i < n → f i = g i) → twoB f n = twoB g n
  | 0, _ => rfl
  | n + 1, h => by show twoB f n ++ be 2 (f n) = twoB g n ++ be 2 (g n); rw [twoB_congr (fun i hi => h i (by omega)), h n (by omega)]
/-- The head of a table of so many parts. -/
def headB (n : Nat) (f : Nat → Nat) : List Nat := [72, 79, 66, 74] ++ [n % 256] ++ twoB f n
theorem headB_len (n : Nat) (f : Nat → Nat) : (headB n f).length = 5 + 2 * n := by unfold headB; rw [List.length_append, twoB_len]; rfl
theorem headB_dig (n : Nat) (f : Nat → Nat) : ∀ x ∈ headB n f, x < 256 := fun x hx => by
  rcases List.mem_append.1 hx with h | h
  · simp at h
    rcases h with rfl | rfl | rfl | rfl | rfl <;> omega
  · exact twoB_dig f n x h
/-- Parts in a row. -/
def PtsR (w : World) (q : Option Addr) (n : Nat) (P : Nat → Nat × (Nat → Nat)) : Prop := ∀ i, i < n → ∃ b, q = some ⟨b, 0, none⟩ ∧ b < w.heap.size ∧ w.rangeAt b (i * 129) (partL (P i).1 (P i).2)
theorem range_block {w w' : World} {b o : Nat} {cs : List Value} (h : w.rangeAt b o cs) (hb : w'.heap[b]? = w.heap[b]?) : w'.rangeAt b o cs := fun j v hv => (World.cell?_of_block hb).trans (h j v hv)
theorem PtsR.below {w w' : World} {q : Option Addr} {n : Nat} {P : Nat → Nat × (Nat → Nat)} (h : PtsR w q n P) (hb : Below w.heap.size w w') : PtsR w' q n P := fun i hi => by
  obtain ⟨b, e, hl, hr⟩ := h i hi
  exact ⟨b, e, Nat.lt_of_lt_of_le hl hb.size, range_block hr (hb.block b hl)⟩
theorem sizePart : (Tryz.prog.info? 82).map (·.size) = some 129 := by kernel_rfl
theorem infoPart : (Tryz.prog.info? 82).map (fun i => (i.zero, i.size)) = some (some (.agg (partL 0 fun _ => 0).toArray), 129) := by kernel_rfl
theorem partL_one (pg : Nat) (sp : Nat → Nat) : ∀ v ∈ partL pg sp, v.oneCell' = true := fun v hv => by
  unfold partL at hv
  rcases List.mem_cons.1 hv with rfl | h
  · rfl
  · exact Tb.ints_one sp 0 128 v h
theorem below_rowY {B g : Nat} {w0 w : World} (hb : Below B w0 w) (hBg : B ≤ g) (cs : Array Value) : Below B w0 (w.setRow g cs) :=
  hb.trans ⟨rfl, rfl, rfl, by simp [World.setRow], fun k hk => setRow_other w g k cs (by omega)⟩
set_option maxHeartbeats 3200000 in
theorem headText_any (q : Option Addr) (n c : Nat) (P : Nat → Nat × (Nat → Nat)) (w : World) (hn : n ≤ 64) (hq : PtsR w q n P) (hp : ∀ i, i < n → (P i).1 ≤ 1099511627776) :
    Calls Tryz.prog 63 #[.slice q n c] w fun e w' => e = .returned (.string (strB (pageT (headB n fun i => (P i).1)))) ∧ Below w.heap.size w w' := by
  obtain ⟨i0, hi, hz0, hz1, hz2⟩ := info_parts Tryz.info5
  have HI := Lib.hid hi
  have HZ0 := Lib.hid hz0
  have HZ1 := Lib.hid hz1
  have HZ2 := Lib.hid hz2
  obtain ⟨hz, hiP⟩ := zero_of_info (P := Tryz.prog) infoPart
  have HPQ := Lib.hid hq
  have HPP := Lib.hid hp
  clear hi hz0 hz1 hz2 hiP hq hp
  have hnI : (n : Int) ≤ 64 := by omega
  obtain ⟨W1, hW1⟩ : ∃ W1, (w.alloc (.cells #[.int .u8 72, .int .u8 79, .int .u8 66, .int .u8 74] 5 (4, 5))).alloc (.cells #[.int .u8 (n : Int)] 5) = W1 := ⟨_, rfl⟩
  have HL0 : Hid (W1.heap[w.heap.size]? = some (.cells #[.int .u8 72, .int .u8 79, .int .u8 66, .int .u8 74] 5 (4, 5))) := Lib.hid (by rw [← hW1]; exact ((alloc_below _ _).block w.heap.size (by simp)).trans (heap_alloc_new _ _))
  have HL1 : Hid (W1.heap[w.heap.size + 1]? = some (.cells #[.int .u8 (n : Int)] 5)) := Lib.hid (by rw [← hW1]; have h := heap_alloc_new (w.alloc (.cells #[.int .u8 72, .int .u8 79, .int .u8 66, .int .u8 74] 5 (4, 5))) (.cells #[.int .u8 (n : Int)] 5); rw [show (w.alloc (.cells #[.int .u8 72, .int .u8 79, .int .u8 66, .int .u8 74] 5 (4, 5))).heap.size = w.heap.size + 1 by simp] at h; exact h)
  have HB0 : Hid (Below w.heap.size w W1) := Lib.hid (by rw [← hW1]; exact ((Below.refl _ _).alloc (Nat.le_refl _) _).alloc (by simp) _)
  have HC0 : Hid (∀ b, (some ⟨w.heap.size, 0, none⟩ : Option Addr) = some b → ∀ (j : Nat) (u : Value), [Value.int .u8 72, .int .u8 79, .int .u8 66, .int .u8 74][j]? = some u → W1.cell? (b.add j) = some u) := Lib.hid fun b hb j u hu => by
    cases hb
    rw [Addr.add_lit, cell_of_row _ _ _ _ _ _ HL0.out, Nat.zero_add, ← hu, ← List.getElem?_toArray]
  have HC1 : Hid (∀ (j : Nat) (u : Value), [Value.int .u8 (n : Int)][j]? = some u → W1.cell? ((⟨w.heap.size + 1, 0, none⟩ : Addr).add j) = some u) := Lib.hid fun j u hu => by
    rw [Addr.add_lit, cell_of_row _ _ _ _ _ _ HL1.out, Nat.zero_add, ← hu, ← List.getElem?_toArray]
  have hwr : IntKind.u8.wrap (n : Int) = (n : Int) := by rw [IntKind.wrap_u8]; omega
  have hzs : (partL 0 fun _ => 0).toArray.size = 129 := by rw [List.size_toArray, partL_len]
  generalize (partL 0 fun _ => 0).toArray = Z at *
  go_enter Tryz.func63, Tryz.ntmps63
  have hcv := fun (w : World) (C : Array Value) (n c : Nat) => Lib.run_convert_bytes_const (P := Tryz.prog) w 71 5 C n c Tryz.underlying71 Tryz.underlying5
  have m1 : (Value.int .u8 0).cells.size = 1 := rfl
  have m2 : [Value.int .u8 72, .int .u8 79, .int .u8 66, .int .u8 74].length = 4 * 1 := rfl
  have m3 : [Value.int .u8 (n : Int)].length = 1 * 1 := rfl
  have m4 : (4 : Nat) < 4 + 1 := by decide
  have m5 : 4 + 1 ≤ maxLen := by decide
  have m6 : (4 + 1) * 1 ≤ 140737488355328 := by decide
  have m7 : ∀ u ∈ [Value.int .u8 (n : Int)], u.oneCell' = true := fun u hu => by cases List.mem_singleton.1 hu; rfl
  have m8 : (some ⟨w.heap.size, 0, none⟩ : Option Addr) = none → 4 = 0 ∧ 4 = 0 := fun h => nomatch h
  go_upto_region 3 with (with_reducible refine wpList_append_grows (w := W1) rfl (.tmp 7) (.tmp 11) 71 rfl 5 i0 (.int .u8 0) 1 1 Tryz.underlying71 HI.out HZ0.out HZ1.out HZ2.out m1 (by decide) (some ⟨w.heap.size, 0, none⟩) 4 4 [.int .u8 72, .int .u8 79, .int .u8 66, .int .u8 74] rfl m8 m2 HC0.out ⟨w.heap.size + 1, 0, none⟩ 1 1 [.int .u8 (n : Int)] rfl m3 HC1.out m7 m4 m5 m6 ?_; intro v2 w2 hr2 hg2)
  have HBW : Hid (W1.heap.size ≤ w2.heap.size) := Lib.hid hg2.size
  have HS0 : Hid (Bo W1.heap.size w2 v2 ([72, 79, 66, 74] ++ [n % 256] ++ twoB (fun i => (P i).1) 0) ∧ Below W1.heap.size W1 w2) := Lib.hid (by
    obtain ⟨p4, c4, e4⟩ := Sl.own_form hr2
    subst e4
    refine ⟨⟨p4, c4, rfl, ?_⟩, (Below.refl W1.heap.size W1).grown hg2 (Nat.le_refl _) (fun k e => nomatch e)⟩
    have hn2 : ((n % 256 : Nat) : Int) = (n : Int) := by omega
    show w2.ownsRow _ 5 1 _ _ [.int .u8 72, .int .u8 79, .int .u8 66, .int .u8 74, .int .u8 ((n % 256 : Nat) : Int)]
    rw [hn2]
    exact hr2)
  have HZS : Hid (Z.size = 129) := Lib.hid hzs
  have hb1 := HB0.out.size
  clear hr2 hg2 HL0 HL1 HC0 HC1 hW1 m1 m2 m3 m4 m5 m6 m7 m8 hwr hcv
  have HN := Lib.hid hn
  go_loopw [3, 15] (fun bv iv wr => ∃ i : Nat, i ≤ n ∧ iv = .int .i64 (i : Int) ∧ Hid (Bo W1.heap.size wr bv ([72, 79, 66, 74] ++ [n % 256] ++ twoB (fun i => (P i).1) i) ∧ Below W1.heap.size W1 wr)) (fun _ iv _ => n - (RowKit.intOf iv).toNat)
  case atStart => exact ⟨0, by omega, by go_num, HS0⟩
  case round =>
    obtain ⟨i, hi, rfl, hr⟩ := hrel
    by_cases hlt : i < n
    · have hd : decide ((i : Int) < (n : Int)) = true := decide_eq_true (by omega)
      have hiI : (i : Int) < (n : Int) := by omega
      have hi6 : (i : Int) ≤ 63 := by omega
      have HI2 := Lib.hid hlt
      have HBR : Hid (Below w.heap.size w wr) := Lib.hid (HB0.out.trans (hr.out.2.mono hb1))
      obtain ⟨b, e, hl, hra⟩ := (HPQ.out.below HBR.out) i hlt
      subst e
      have HRA := Lib.hid hra
      have HSR : Hid ((Tryz.prog.info? 82).map (·.size) = some (partL (P i).1 (P i).2).length) := Lib.hid (by rw [sizePart, partL_len])
      have HSA : Hid ((Tryz.prog.info? 82).map (·.size) = some (partL (P i).1 (P i).2).toArray.size) := Lib.hid (by rw [sizePart, List.size_toArray, partL_len])
      have HNW : Hid ((wr.alloc (.cells Z 82)).heap[wr.heap.size]? = some (.cells Z 82 (0, 0))) := Lib.hid (heap_alloc_new _ _)
      have HOL : Hid (Z.size = (partL (P i).1 (P i).2).toArray.size) := Lib.hid (by rw [HZS.out, List.size_toArray, partL_len])
      have HON : Hid ((partL (P i).1 (P i).2).toArray.all (·.oneCell') = true) := Lib.hid (by rw [Array.all_eq_true_iff_forall_mem]; intro x hx; exact partL_one _ _ x (by simpa using hx))
      obtain ⟨W5, hW5⟩ : ∃ W5, (wr.alloc (.cells Z 82)).setRow wr.heap.size (partL (P i).1 (P i).2).toArray = W5 := ⟨_, rfl⟩
      have HB5 : Hid (Below wr.heap.size wr W5) := Lib.hid (by rw [← hW5]; exact below_rowY (alloc_below wr _) (Nat.le_refl _) _)
      have hc5 : W5.cell? ⟨wr.heap.size, 0, none⟩ = some (.int .i64 (((P i).1 : Nat) : Int)) := by
        rw [← hW5, cell_of_row _ _ _ _ _ _ (setRow_heap (wr.alloc (.cells Z 82)) wr.heap.size _ _ _ _ HNW.out)]
        rfl
      have HP := Lib.hid (putS_any W1.heap.size W5 u3 ([72, 79, 66, 74] ++ [n % 256] ++ twoB (fun i => (P i).1) i) (P i).1 2 (Nat.le_trans hr.out.2.size HB5.out.size) (hr.out.1.below HB5.out) (HPP.out i hlt) (by omega) (by rw [List.length_append, twoB_len]; simp; omega))
      rw [show ((2 : Nat) : Int) = 2 from rfl] at HP
      go_wp2_with (first
        | (refine wpList_load_mid rfl 82 (.tmp 17) rfl b (i * 129) rfl (partL (P i).1 (P i).2) _ HRA.out Tryz.underlying82 rfl HSR.out ?_)
        | (refine wpList_store_row rfl 82 (.tmp 5) (.tmp 18) rfl wr.heap.size (partL (P i).1 (P i).2).toArray rfl rfl 82 Z HNW.out HSA.out HOL.out HON.out ?_; rw [hW5])
        | (go_at_call 119; with_reducible refine HP.out.mono ?_; rintro e w4 ⟨v4, rfl, hv4, hb4⟩))
      have HR4 : Hid (Bo W1.heap.size w4 v4 ([72, 79, 66, 74] ++ [n % 256] ++ twoB (fun i => (P i).1) (i + 1)) ∧ Below W1.heap.size W1 w4) := Lib.hid ⟨by
        show Bo _ _ _ (_ ++ (twoB _ i ++ be 2 _))
        rw [← List.append_assoc]
        exact hv4, hr.out.2.trans ((HB5.out.mono hr.out.2.size).trans hb4)⟩
      go_roundw
      case rel => exact ⟨i + 1, HI2.out, by go_num, HR4⟩
      case measure => have := HI2.out; simp [RowKit.intOf]; omega
    · obtain rfl : i = n := by omega
      have hd : decide ((i : Int) < (i : Int)) = false := decide_eq_false (by omega)
      obtain ⟨⟨p, c, e, ho⟩, hb⟩ := hr.out
      have hlen : ([72, 79, 66, 74] ++ [i % 256] ++ twoB (fun i => (P i).1) i).length = 5 + 2 * i := headB_len i _
      have HPT := Lib.hid (pageText_any p _ c (headB i fun i => (P i).1) wr (by rw [hlen]; omega) (Bys.own ho (headB_dig i _)))
      have HB := Lib.hid hb
      subst e
      clear hr ho hb
      rw [hlen] at *
      go_wp2_with (go_at_call 120; with_reducible refine HPT.out.mono ?_; rintro e w5 ⟨rfl, hb5⟩)
      go_ret
      exact ⟨rfl, HB0.out.trans ((Below.more HB.out hb5 HB.out.size).mono hb1)⟩
end Go.Proofs.YtmbecjlioogbhaaGreatDoor
end
section
/-! Spots and pages, told from bytes. -/
set_option maxRecDepth 20000
set_option linter.unusedSimpArgs false
namespace Go.Proofs.YtmbecjlioogbhaaGreatDoor
open Go.RowKit

/-- The i-th number of so many bytes each. -/
def cutV (s : List Nat) (k i : Nat) : Nat := val ((s.drop (i * k)).take k)
theorem cutV_lt {s : List Nat} (hd : ∀ x ∈ s, x < 256) (k i : Nat) : cutV s k i < 256 ^ k := by
  refine Nat.lt_of_lt_of_le (val_lt _ fun x hx => hd x (List.mem_of_mem_drop (List.mem_of_mem_take hx))) (Nat.pow_le_pow_right (by omega) ?_)
  rw [List.length_take]; exact Nat.min_le_left _ _
theorem IsS.cutS {S : ByteArray} {s : List Nat} (h : IsS S s) (o k L : Nat) (_ : s.length = L) (hk : o + k ≤ L) : IsS ((S.extract o L).extract 0 k) ((s.drop o).take k) := by
  have h1 := (h.ext o L).ext 0 k
  rw [List.drop_zero, Nat.sub_zero, List.take_take, Nat.min_eq_left (by omega)] at h1
  exact h1
end Go.Proofs.YtmbecjlioogbhaaGreatDoor
end
section
/-! The numbers of a set, rising, and its runs. -/
namespace Go.Proofs.YtmbecjlioogbhaaGreatDoor.Bi

/-- A number from 0 to 2048. -/
def sp (j : Nat) : Fin 2049 := ⟨j % 2049, Nat.mod_lt _ (by decide)⟩
abbrev Run := Fin 2049 × Fin 2049
/-- The runs from a place on, so many at most. -/
def runsF (f : Nat → Bool) (n : Nat) : Nat → Nat → List Run
  | 0, _ => []
  | k + 1, s => match nxt f n s with
    | none => []
    | some j => (sp j, sp (endF f n j - j)) :: runsF f n k (endF f n j)
/-- All runs. -/
def runs (f : Nat → Bool) (n : Nat) : List Run := runsF f n (n + 1) 0
/-- The numbers of a set below a place. -/
def mems (f : Nat → Bool) (s : Nat) : List Nat := (List.range s).filter f
theorem mems_skip {f : Nat → Bool} {i j : Nat} (hij : i ≤ j) (h : ∀ x, i ≤ x → x < j → f x = false) : mems f j = mems f i := by
  induction j with
  | zero => have : i = 0 := by omega
            subst this; rfl
  | succ j ih =>
    by_cases e : i = j + 1
    · subst e; rfl
    · unfold mems
      rw [List.range_succ, List.filter_append]
      have hj := h j (by omega) (by omega)
      rw [show List.filter f [j] = [] by simp [hj], List.append_nil]
      exact ih (by omega) (fun x hx hy => h x hx (by omega))
theorem mems_hit {f : Nat → Bool} {j : Nat} (h : f j = true) : mems f (j + 1) = mems f j ++ [j] := by
  unfold mems
  rw [List.range_succ, List.filter_append, show List.filter f [j] = [j] by simp [h]]
theorem mems_len (f : Nat → Bool) (s : Nat) : (mems f s).length ≤ s := by
  unfold mems
  have := List.length_filter_le f (List.range s)
  simpa using this
theorem mems_cnt (f : Nat → Bool) (s : Nat) : (mems f s).length = cnt f s := by
  induction s with
  | zero => rfl
  | succ s ih =>
    cases h : f s with
    | true => rw [mems_hit h, List.length_append, ih]; show _ = cnt f s + (f s).toNat; rw [h]; rfl
    | false => rw [mems_skip (Nat.le_succ s) (fun x hx hy => by have : x = s := by omega
                                                                subst this; exact h), ih]; show _ = cnt f s + (f s).toNat; rw [h]; rfl
end Go.Proofs.YtmbecjlioogbhaaGreatDoor.Bi
end
