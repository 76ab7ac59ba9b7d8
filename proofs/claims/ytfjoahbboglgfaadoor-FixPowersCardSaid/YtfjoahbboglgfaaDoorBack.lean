/- The law FixBack returns true for any three numbers. -/
import Derived.Test.YtfjoahbboglgfaaDoorParse
namespace Go.Proofs.YtfjoahbboglgfaaDoor
open Go.ChangeShapes Go.WideShapes Go.ChangeAt Go.RowKit

theorem bd_ne (b f u : Nat) : bd b f u ≠ [] := by
  rcases f with _ | f
  · simp [bd]
  · rw [bd]; split <;> simp
theorem bd_dig (b : Nat) (hb : 2 ≤ b) : ∀ (f u : Nat), ∀ d ∈ bd b f u, d < b
  | 0, u, d, h => by
    have : d = 0 := by simpa [bd] using h
    omega
  | f + 1, u, d, h => by
    rw [bd] at h
    split at h
    · have : d = u := by simpa using h
      omega
    · rcases List.mem_cons.1 h with rfl | h1
      · exact Nat.mod_lt _ (by omega)
      · exact bd_dig b hb f _ d h1
theorem cut_text (b : Nat) (a : Int) (hb : 2 ≤ b) (hb2 : b ≤ 16) : cutG (numText b a) = (if a < 0 then -1 else 1) ∧ cutR (numText b a) = (bd b 64 a.natAbs).reverse.map ch := by
  unfold numText
  by_cases ha : a < 0
  · rw [if_pos ha, if_pos ha]; exact ⟨rfl, rfl⟩
  · rw [if_neg ha, if_neg ha, List.nil_append]
    have hall : ∀ c ∈ (bd b 64 a.natAbs).reverse.map ch, c ≠ 45 ∧ c ≠ 43 := by
      intro c hc
      obtain ⟨d, hd, rfl⟩ := List.mem_map.1 hc
      have h1 := ch_not d (by have := bd_dig b hb 64 a.natAbs d (List.mem_reverse.1 hd); omega)
      exact ⟨fun h => h1.1 (by rw [h]; rfl), fun h => h1.2 (by rw [h]; rfl)⟩
    generalize (bd b 64 a.natAbs).reverse.map ch = l at hall
    rcases l with _ | ⟨c, t⟩
    · exact ⟨rfl, rfl⟩
    · obtain ⟨h1, h2⟩ := hall c (by simp)
      constructor
      · unfold cutG; split <;> simp_all
      · unfold cutR; split <;> simp_all
theorem back_num (b : Nat) (a : Int) (hb : 2 ≤ b) (hb2 : b ≤ 16) (h1 : -9223372036854775808 ≤ a) (h2 : a ≤ 9223372036854775807) : parseV b (numText b a) = a ∧ parseE b (numText b a) = 0 := by
  obtain ⟨hg, hr⟩ := cut_text b a hb hb2
  obtain ⟨hok, hv⟩ := valT_digits b hb2 64 a.natAbs (by omega) hb
  have hne : (bd b 64 a.natAbs).reverse.map ch ≠ [] := by
    intro h
    exact bd_ne b 64 a.natAbs (by simpa using h)
  have hz : (if a < 0 then (-1 : Int) else 1) * (a.natAbs : Int) = a := by split <;> omega
  unfold parseV parseE
  rw [hr, hg, hok, hv, hz, if_neg (by simpa using hne), if_neg (by simpa using hne), fitV_yes ⟨h1, h2⟩, fitB_yes ⟨h1, h2⟩]
  exact ⟨rfl, rfl⟩
theorem bd_len (b : Nat) : ∀ (f u : Nat), (bd b f u).length ≤ f + 1
  | 0, u => by simp [bd]
  | f + 1, u => by
    rw [bd]
    split
    · simp
    · have := bd_len b f (u / b); simp; omega
theorem text_len (b : Nat) (a : Int) : (numText b a).length ≤ 1000 := by
  unfold numText
  have := bd_len b 64 a.natAbs
  split <;> simp <;> omega

set_option maxHeartbeats 400000 in
theorem parse_no (b : Int) (s : ByteArray) (w : World) (hb : baseB b = false) :
    Calls Tryd.prog 28 #[.string s, .int .i64 b] w fun e w' => e = .returned (.tuple #[.int .i64 0, .int .i64 1]) ∧ w = w' := by
  have hc := base_any b
  rw [hb] at hc
  have HC := Lib.hid hc
  clear hc hb
  go_enter Tryd.func28, Tryd.ntmps28
  go_wp2_with fail
  refine (HC.out _).mono ?_
  rintro e w' ⟨rfl, rfl⟩
  go_wp2_with fail
  go_ret2
  exact ⟨rfl, rfl⟩

/-- What Parse of a number's Text returns. -/
theorem back_parse (b : Nat) (a : Int) (w : World) (hb : 2 ≤ b) (hb2 : b ≤ 16) (h1 : -9223372036854775808 ≤ a) (h2 : a ≤ 9223372036854775807) :
    Calls Tryd.prog 28 #[.string ⟨(numText b a).toArray⟩, .int .i64 (b : Int)] w fun e w' => e = .returned (.tuple #[.int .i64 a, .int .i64 0]) ∧ Below w.heap.size w w' := by
  have h := parse_any b (numText b a) w hb hb2 (text_len b a)
  rw [(back_num b a hb hb2 h1 h2).1, (back_num b a hb hb2 h1 h2).2] at h
  exact h

theorem add_yes (a b s : Int) (w : World) (h1 : -9223372036854775808 ≤ a) (h2 : a ≤ 9223372036854775807) (h3 : -9223372036854775808 ≤ b) (h4 : b ≤ 9223372036854775807) (hs : Hid (a + b = s)) (hf : Is64 s) :
    Calls Tryd.prog 11 #[.int .i64 a, .int .i64 b] w fun e w' => e = .returned (.tuple #[.int .i64 s, .bool true]) ∧ w = w' := by
  have h := add_any a b w h1 h2 h3 h4
  rw [hs.out, fitV_yes hf, fitB_yes hf] at h
  exact h
theorem add_no (a b : Int) (w : World) (h1 : -9223372036854775808 ≤ a) (h2 : a ≤ 9223372036854775807) (h3 : -9223372036854775808 ≤ b) (h4 : b ≤ 9223372036854775807) (hf : ¬ Is64 (a + b)) :
    Calls Tryd.prog 11 #[.int .i64 a, .int .i64 b] w fun e w' => e = .returned (.tuple #[.int .i64 0, .bool false]) ∧ w = w' := by
  have h := add_any a b w h1 h2 h3 h4
  rw [fitV_no hf, fitB_no hf] at h
  exact h
theorem sub_back (a b s : Int) (w : World) (h1 : -9223372036854775808 ≤ a) (h2 : a ≤ 9223372036854775807) (h3 : -9223372036854775808 ≤ b) (h4 : b ≤ 9223372036854775807) (hs : Hid (a + b = s)) (hf : Is64 s) :
    Calls Tryd.prog 12 #[.int .i64 s, .int .i64 b] w fun e w' => e = .returned (.tuple #[.int .i64 a, .bool true]) ∧ w = w' := by
  have h := sub_any s b w hf.1 hf.2 h3 h4
  rw [show s - b = a by rw [← hs.out]; omega, fitV_yes ⟨h1, h2⟩, fitB_yes ⟨h1, h2⟩] at h
  exact h
theorem sub_some (b : Int) (u : Int) (v : Bool) (w : World) (h3 : -9223372036854775808 ≤ b) (h4 : b ≤ 9223372036854775807) (hu : Hid (fitV (0 - b) = u)) (hv : Hid (fitB (0 - b) = v)) :
    Calls Tryd.prog 12 #[.int .i64 0, .int .i64 b] w fun e w' => e = .returned (.tuple #[.int .i64 u, .bool v]) ∧ w = w' := by
  have h := sub_any 0 b w (by omega) (by omega) h3 h4
  rw [hu.out, hv.out] at h
  exact h
theorem neg_val (a n : Int) (w : World) (h1 : -9223372036854775808 ≤ a) (h2 : a ≤ 9223372036854775807) (hn : Hid (-a = n)) (hf : Is64 n) :
    Calls Tryd.prog 13 #[.int .i64 a] w fun e w' => e = .returned (.tuple #[.int .i64 n, .bool true]) ∧ w = w' := by
  have h := neg_any a w h1 h2
  rw [hn.out, fitV_yes hf, fitB_yes hf] at h
  exact h
theorem neg_least (w : World) : Calls Tryd.prog 13 #[.int .i64 (-9223372036854775808)] w fun e w' => e = .returned (.tuple #[.int .i64 0, .bool false]) ∧ w = w' := by
  have h := neg_any (-9223372036854775808) w (by omega) (by omega)
  rw [fitV_no (by unfold Is64; omega), fitB_no (by unfold Is64; omega)] at h
  exact h
theorem neg_zero (w : World) : Calls Tryd.prog 13 #[.int .i64 0] w fun e w' => e = .returned (.tuple #[.int .i64 0, .bool true]) ∧ w = w' := neg_val 0 0 w (by omega) (by omega) rfl (by unfold Is64; omega)

set_option maxHeartbeats 1600000 in
set_option maxRecDepth 100000 in
theorem back_v_m (c : Int) (b : Nat) (hb : 2 ≤ b) (hb2 : b ≤ 16) (w : World) (ht : Tabs w) (h3 : -9223372036854775808 ≤ c) (h4 : c ≤ 9223372036854775807) :
    Calls Tryd.prog 9 #[.int .i64 (-9223372036854775808), .int .i64 c, .int .i64 (b : Int)] w fun e w' => e = .returned (.bool true) ∧ Below w.heap.size w w' := by
  have h1 : (-9223372036854775808 : Int) ≤ -9223372036854775808 := by omega
  have h2 : (-9223372036854775808 : Int) ≤ 9223372036854775807 := by omega
  have hbd1 : decide ((2 : Int) ≤ (b : Int)) = true := decide_eq_true (by omega)
  have hbd2 : decide ((b : Int) ≤ 16) = true := decide_eq_true (by omega)
  by_cases hf : Is64 ((-9223372036854775808) + c)
  · obtain ⟨s, HS⟩ : ∃ s : Int, Hid ((-9223372036854775808) + c = s) := ⟨_, rfl⟩
    have HF : Hid (Is64 s) := by unfold Hid; rw [← HS.out]; exact hf
    clear hf
    go_enter Tryd.func9, Tryd.ntmps9
    go_wp2_with fail
    refine (text_any b (-9223372036854775808) _ ht hb hb2 h1 h2).mono ?_
    rintro e wz ⟨rfl, hbl⟩
    have HB := Lib.hid hbl
    clear hbl
    go_wp2_with fail
    refine (back_parse b (-9223372036854775808) _ hb hb2 h1 h2).mono ?_
    rintro e wz ⟨rfl, hbl⟩
    have HB := Lib.hid (HB.out.trans (hbl.mono HB.out.size))
    clear hbl
    go_wp2_with fail
    refine (add_yes (-9223372036854775808) c s _ h1 h2 h3 h4 HS HF.out).mono ?_
    rintro e wz ⟨rfl, rfl⟩
    go_wp2_with fail
    refine (sub_back (-9223372036854775808) c s _ h1 h2 h3 h4 HS HF.out).mono ?_
    rintro e wz ⟨rfl, rfl⟩
    go_wp2_with fail
    refine (neg_least _).mono ?_
    rintro e wz ⟨rfl, rfl⟩
    go_wp2_with fail
    refine (neg_zero _).mono ?_
    rintro e wz ⟨rfl, rfl⟩
    go_wp2_with fail
    refine (lives_any _ (ht.below HB.out)).mono ?_
    rintro e wz ⟨rfl, hbl⟩
    have HB := Lib.hid (HB.out.trans (hbl.mono HB.out.size))
    clear hbl
    go_wp2_with fail
    go_ret
    exact ⟨rfl, HB.out⟩
  · have HF := Lib.hid hf
    obtain ⟨u, HU⟩ : ∃ u, Hid (fitV (0 - c) = u) := ⟨_, rfl⟩
    obtain ⟨v, HV⟩ : ∃ v, Hid (fitB (0 - c) = v) := ⟨_, rfl⟩
    clear hf
    go_enter Tryd.func9, Tryd.ntmps9
    go_wp2_with fail
    refine (text_any b (-9223372036854775808) _ ht hb hb2 h1 h2).mono ?_
    rintro e wz ⟨rfl, hbl⟩
    have HB := Lib.hid hbl
    clear hbl
    go_wp2_with fail
    refine (back_parse b (-9223372036854775808) _ hb hb2 h1 h2).mono ?_
    rintro e wz ⟨rfl, hbl⟩
    have HB := Lib.hid (HB.out.trans (hbl.mono HB.out.size))
    clear hbl
    go_wp2_with fail
    refine (add_no (-9223372036854775808) c _ h1 h2 h3 h4 HF.out).mono ?_
    rintro e wz ⟨rfl, rfl⟩
    go_wp2_with fail
    refine (sub_some c u v _ h3 h4 HU HV).mono ?_
    rintro e wz ⟨rfl, rfl⟩
    go_wp2_with fail
    refine (neg_least _).mono ?_
    rintro e wz ⟨rfl, rfl⟩
    go_wp2_with fail
    refine (neg_zero _).mono ?_
    rintro e wz ⟨rfl, rfl⟩
    go_wp2_with fail
    refine (lives_any _ (ht.below HB.out)).mono ?_
    rintro e wz ⟨rfl, hbl⟩
    have HB := Lib.hid (HB.out.trans (hbl.mono HB.out.size))
    clear hbl
    go_wp2_with fail
    go_ret
    exact ⟨rfl, HB.out⟩

set_option maxHeartbeats 1600000 in
set_option maxRecDepth 100000 in
theorem back_v_o (a c : Int) (b : Nat) (hb : 2 ≤ b) (hb2 : b ≤ 16) (w : World) (ht : Tabs w) (h1 : -9223372036854775808 ≤ a) (h2 : a ≤ 9223372036854775807) (ha : (a != -9223372036854775808) = true) (h3 : -9223372036854775808 ≤ c) (h4 : c ≤ 9223372036854775807) :
    Calls Tryd.prog 9 #[.int .i64 a, .int .i64 c, .int .i64 (b : Int)] w fun e w' => e = .returned (.bool true) ∧ Below w.heap.size w w' := by
  obtain ⟨n, HN⟩ : ∃ n, Hid (-a = n) := ⟨_, rfl⟩
  have hal : a ≠ -9223372036854775808 := bne_iff_ne.1 ha
  have HNF : Hid (Is64 n) := by have h9 := HN.out; unfold Hid Is64; omega
  have HN2 : Hid (-n = a) := by have h9 := HN.out; unfold Hid; omega
  clear hal
  have hbd1 : decide ((2 : Int) ≤ (b : Int)) = true := decide_eq_true (by omega)
  have hbd2 : decide ((b : Int) ≤ 16) = true := decide_eq_true (by omega)
  by_cases hf : Is64 (a + c)
  · obtain ⟨s, HS⟩ : ∃ s : Int, Hid (a + c = s) := ⟨_, rfl⟩
    have HF : Hid (Is64 s) := by unfold Hid; rw [← HS.out]; exact hf
    clear hf
    go_enter Tryd.func9, Tryd.ntmps9
    go_wp2_with fail
    refine (text_any b a _ ht hb hb2 h1 h2).mono ?_
    rintro e wz ⟨rfl, hbl⟩
    have HB := Lib.hid hbl
    clear hbl
    go_wp2_with fail
    refine (back_parse b a _ hb hb2 h1 h2).mono ?_
    rintro e wz ⟨rfl, hbl⟩
    have HB := Lib.hid (HB.out.trans (hbl.mono HB.out.size))
    clear hbl
    go_wp2_with fail
    refine (add_yes a c s _ h1 h2 h3 h4 HS HF.out).mono ?_
    rintro e wz ⟨rfl, rfl⟩
    go_wp2_with fail
    refine (sub_back a c s _ h1 h2 h3 h4 HS HF.out).mono ?_
    rintro e wz ⟨rfl, rfl⟩
    go_wp2_with fail
    refine (neg_val a n _ h1 h2 HN HNF.out).mono ?_
    rintro e wz ⟨rfl, rfl⟩
    go_wp2_with fail
    refine (neg_val n a _ HNF.out.1 HNF.out.2 HN2 ⟨h1, h2⟩).mono ?_
    rintro e wz ⟨rfl, rfl⟩
    go_wp2_with fail
    refine (lives_any _ (ht.below HB.out)).mono ?_
    rintro e wz ⟨rfl, hbl⟩
    have HB := Lib.hid (HB.out.trans (hbl.mono HB.out.size))
    clear hbl
    go_wp2_with fail
    go_ret
    exact ⟨rfl, HB.out⟩
  · have HF := Lib.hid hf
    obtain ⟨u, HU⟩ : ∃ u, Hid (fitV (0 - c) = u) := ⟨_, rfl⟩
    obtain ⟨v, HV⟩ : ∃ v, Hid (fitB (0 - c) = v) := ⟨_, rfl⟩
    clear hf
    go_enter Tryd.func9, Tryd.ntmps9
    go_wp2_with fail
    refine (text_any b a _ ht hb hb2 h1 h2).mono ?_
    rintro e wz ⟨rfl, hbl⟩
    have HB := Lib.hid hbl
    clear hbl
    go_wp2_with fail
    refine (back_parse b a _ hb hb2 h1 h2).mono ?_
    rintro e wz ⟨rfl, hbl⟩
    have HB := Lib.hid (HB.out.trans (hbl.mono HB.out.size))
    clear hbl
    go_wp2_with fail
    refine (add_no a c _ h1 h2 h3 h4 HF.out).mono ?_
    rintro e wz ⟨rfl, rfl⟩
    go_wp2_with fail
    refine (sub_some c u v _ h3 h4 HU HV).mono ?_
    rintro e wz ⟨rfl, rfl⟩
    go_wp2_with fail
    refine (neg_val a n _ h1 h2 HN HNF.out).mono ?_
    rintro e wz ⟨rfl, rfl⟩
    go_wp2_with fail
    refine (neg_val n a _ HNF.out.1 HNF.out.2 HN2 ⟨h1, h2⟩).mono ?_
    rintro e wz ⟨rfl, rfl⟩
    go_wp2_with fail
    refine (lives_any _ (ht.below HB.out)).mono ?_
    rintro e wz ⟨rfl, hbl⟩
    have HB := Lib.hid (HB.out.trans (hbl.mono HB.out.size))
    clear hbl
    go_wp2_with fail
    go_ret
    exact ⟨rfl, HB.out⟩

set_option maxHeartbeats 1600000 in
set_option maxRecDepth 100000 in
theorem back_n1_m (c : Int) (b : Int) (hbx : b < 2) (hbb : Hid (baseB b = false)) (w : World) (ht : Tabs w) (h3 : -9223372036854775808 ≤ c) (h4 : c ≤ 9223372036854775807) :
    Calls Tryd.prog 9 #[.int .i64 (-9223372036854775808), .int .i64 c, .int .i64 b] w fun e w' => e = .returned (.bool true) ∧ Below w.heap.size w w' := by
  have h1 : (-9223372036854775808 : Int) ≤ -9223372036854775808 := by omega
  have h2 : (-9223372036854775808 : Int) ≤ 9223372036854775807 := by omega
  have hbd : decide ((2 : Int) ≤ b) = false := decide_eq_false (by omega)
  by_cases hf : Is64 ((-9223372036854775808) + c)
  · obtain ⟨s, HS⟩ : ∃ s : Int, Hid ((-9223372036854775808) + c = s) := ⟨_, rfl⟩
    have HF : Hid (Is64 s) := by unfold Hid; rw [← HS.out]; exact hf
    clear hf
    go_enter Tryd.func9, Tryd.ntmps9
    go_wp2_with fail
    refine (text_no b (-9223372036854775808) _ hbb.out).mono ?_
    rintro e wz ⟨rfl, rfl⟩
    have HB := Lib.hid (Below.refl w.heap.size w)
    go_wp2_with fail
    refine (parse_no b _ _ hbb.out).mono ?_
    rintro e wz ⟨rfl, rfl⟩
    go_wp2_with fail
    refine (add_yes (-9223372036854775808) c s _ h1 h2 h3 h4 HS HF.out).mono ?_
    rintro e wz ⟨rfl, rfl⟩
    go_wp2_with fail
    refine (sub_back (-9223372036854775808) c s _ h1 h2 h3 h4 HS HF.out).mono ?_
    rintro e wz ⟨rfl, rfl⟩
    go_wp2_with fail
    refine (neg_least _).mono ?_
    rintro e wz ⟨rfl, rfl⟩
    go_wp2_with fail
    refine (neg_zero _).mono ?_
    rintro e wz ⟨rfl, rfl⟩
    go_wp2_with fail
    refine (lives_any _ (ht.below HB.out)).mono ?_
    rintro e wz ⟨rfl, hbl⟩
    have HB := Lib.hid (HB.out.trans (hbl.mono HB.out.size))
    clear hbl
    go_wp2_with fail
    go_ret
    exact ⟨rfl, HB.out⟩
  · have HF := Lib.hid hf
    obtain ⟨u, HU⟩ : ∃ u, Hid (fitV (0 - c) = u) := ⟨_, rfl⟩
    obtain ⟨v, HV⟩ : ∃ v, Hid (fitB (0 - c) = v) := ⟨_, rfl⟩
    clear hf
    go_enter Tryd.func9, Tryd.ntmps9
    go_wp2_with fail
    refine (text_no b (-9223372036854775808) _ hbb.out).mono ?_
    rintro e wz ⟨rfl, rfl⟩
    have HB := Lib.hid (Below.refl w.heap.size w)
    go_wp2_with fail
    refine (parse_no b _ _ hbb.out).mono ?_
    rintro e wz ⟨rfl, rfl⟩
    go_wp2_with fail
    refine (add_no (-9223372036854775808) c _ h1 h2 h3 h4 HF.out).mono ?_
    rintro e wz ⟨rfl, rfl⟩
    go_wp2_with fail
    refine (sub_some c u v _ h3 h4 HU HV).mono ?_
    rintro e wz ⟨rfl, rfl⟩
    go_wp2_with fail
    refine (neg_least _).mono ?_
    rintro e wz ⟨rfl, rfl⟩
    go_wp2_with fail
    refine (neg_zero _).mono ?_
    rintro e wz ⟨rfl, rfl⟩
    go_wp2_with fail
    refine (lives_any _ (ht.below HB.out)).mono ?_
    rintro e wz ⟨rfl, hbl⟩
    have HB := Lib.hid (HB.out.trans (hbl.mono HB.out.size))
    clear hbl
    go_wp2_with fail
    go_ret
    exact ⟨rfl, HB.out⟩

set_option maxHeartbeats 1600000 in
set_option maxRecDepth 100000 in
theorem back_n1_o (a c : Int) (b : Int) (hbx : b < 2) (hbb : Hid (baseB b = false)) (w : World) (ht : Tabs w) (h1 : -9223372036854775808 ≤ a) (h2 : a ≤ 9223372036854775807) (ha : (a != -9223372036854775808) = true) (h3 : -9223372036854775808 ≤ c) (h4 : c ≤ 9223372036854775807) :
    Calls Tryd.prog 9 #[.int .i64 a, .int .i64 c, .int .i64 b] w fun e w' => e = .returned (.bool true) ∧ Below w.heap.size w w' := by
  obtain ⟨n, HN⟩ : ∃ n, Hid (-a = n) := ⟨_, rfl⟩
  have hal : a ≠ -9223372036854775808 := bne_iff_ne.1 ha
  have HNF : Hid (Is64 n) := by have h9 := HN.out; unfold Hid Is64; omega
  have HN2 : Hid (-n = a) := by have h9 := HN.out; unfold Hid; omega
  clear hal
  have hbd : decide ((2 : Int) ≤ b) = false := decide_eq_false (by omega)
  by_cases hf : Is64 (a + c)
  · obtain ⟨s, HS⟩ : ∃ s : Int, Hid (a + c = s) := ⟨_, rfl⟩
    have HF : Hid (Is64 s) := by unfold Hid; rw [← HS.out]; exact hf
    clear hf
    go_enter Tryd.func9, Tryd.ntmps9
    go_wp2_with fail
    refine (text_no b a _ hbb.out).mono ?_
    rintro e wz ⟨rfl, rfl⟩
    have HB := Lib.hid (Below.refl w.heap.size w)
    go_wp2_with fail
    refine (parse_no b _ _ hbb.out).mono ?_
    rintro e wz ⟨rfl, rfl⟩
    go_wp2_with fail
    refine (add_yes a c s _ h1 h2 h3 h4 HS HF.out).mono ?_
    rintro e wz ⟨rfl, rfl⟩
    go_wp2_with fail
    refine (sub_back a c s _ h1 h2 h3 h4 HS HF.out).mono ?_
    rintro e wz ⟨rfl, rfl⟩
    go_wp2_with fail
    refine (neg_val a n _ h1 h2 HN HNF.out).mono ?_
    rintro e wz ⟨rfl, rfl⟩
    go_wp2_with fail
    refine (neg_val n a _ HNF.out.1 HNF.out.2 HN2 ⟨h1, h2⟩).mono ?_
    rintro e wz ⟨rfl, rfl⟩
    go_wp2_with fail
    refine (lives_any _ (ht.below HB.out)).mono ?_
    rintro e wz ⟨rfl, hbl⟩
    have HB := Lib.hid (HB.out.trans (hbl.mono HB.out.size))
    clear hbl
    go_wp2_with fail
    go_ret
    exact ⟨rfl, HB.out⟩
  · have HF := Lib.hid hf
    obtain ⟨u, HU⟩ : ∃ u, Hid (fitV (0 - c) = u) := ⟨_, rfl⟩
    obtain ⟨v, HV⟩ : ∃ v, Hid (fitB (0 - c) = v) := ⟨_, rfl⟩
    clear hf
    go_enter Tryd.func9, Tryd.ntmps9
    go_wp2_with fail
    refine (text_no b a _ hbb.out).mono ?_
    rintro e wz ⟨rfl, rfl⟩
    have HB := Lib.hid (Below.refl w.heap.size w)
    go_wp2_with fail
    refine (parse_no b _ _ hbb.out).mono ?_
    rintro e wz ⟨rfl, rfl⟩
    go_wp2_with fail
    refine (add_no a c _ h1 h2 h3 h4 HF.out).mono ?_
    rintro e wz ⟨rfl, rfl⟩
    go_wp2_with fail
    refine (sub_some c u v _ h3 h4 HU HV).mono ?_
    rintro e wz ⟨rfl, rfl⟩
    go_wp2_with fail
    refine (neg_val a n _ h1 h2 HN HNF.out).mono ?_
    rintro e wz ⟨rfl, rfl⟩
    go_wp2_with fail
    refine (neg_val n a _ HNF.out.1 HNF.out.2 HN2 ⟨h1, h2⟩).mono ?_
    rintro e wz ⟨rfl, rfl⟩
    go_wp2_with fail
    refine (lives_any _ (ht.below HB.out)).mono ?_
    rintro e wz ⟨rfl, hbl⟩
    have HB := Lib.hid (HB.out.trans (hbl.mono HB.out.size))
    clear hbl
    go_wp2_with fail
    go_ret
    exact ⟨rfl, HB.out⟩

set_option maxHeartbeats 1600000 in
set_option maxRecDepth 100000 in
theorem back_n2_m (c : Int) (b : Int) (hbx : 2 ≤ b) (hby : 16 < b) (hbb : Hid (baseB b = false)) (w : World) (ht : Tabs w) (h3 : -9223372036854775808 ≤ c) (h4 : c ≤ 9223372036854775807) :
    Calls Tryd.prog 9 #[.int .i64 (-9223372036854775808), .int .i64 c, .int .i64 b] w fun e w' => e = .returned (.bool true) ∧ Below w.heap.size w w' := by
  have h1 : (-9223372036854775808 : Int) ≤ -9223372036854775808 := by omega
  have h2 : (-9223372036854775808 : Int) ≤ 9223372036854775807 := by omega
  have hbd : decide (b ≤ 16) = false := decide_eq_false (by omega)
  by_cases hf : Is64 ((-9223372036854775808) + c)
  · obtain ⟨s, HS⟩ : ∃ s : Int, Hid ((-9223372036854775808) + c = s) := ⟨_, rfl⟩
    have HF : Hid (Is64 s) := by unfold Hid; rw [← HS.out]; exact hf
    clear hf
    go_enter Tryd.func9, Tryd.ntmps9
    go_wp2_with fail
    refine (text_no b (-9223372036854775808) _ hbb.out).mono ?_
    rintro e wz ⟨rfl, rfl⟩
    have HB := Lib.hid (Below.refl w.heap.size w)
    go_wp2_with fail
    refine (parse_no b _ _ hbb.out).mono ?_
    rintro e wz ⟨rfl, rfl⟩
    go_wp2_with fail
    refine (add_yes (-9223372036854775808) c s _ h1 h2 h3 h4 HS HF.out).mono ?_
    rintro e wz ⟨rfl, rfl⟩
    go_wp2_with fail
    refine (sub_back (-9223372036854775808) c s _ h1 h2 h3 h4 HS HF.out).mono ?_
    rintro e wz ⟨rfl, rfl⟩
    go_wp2_with fail
    refine (neg_least _).mono ?_
    rintro e wz ⟨rfl, rfl⟩
    go_wp2_with fail
    refine (neg_zero _).mono ?_
    rintro e wz ⟨rfl, rfl⟩
    go_wp2_with fail
    refine (lives_any _ (ht.below HB.out)).mono ?_
    rintro e wz ⟨rfl, hbl⟩
    have HB := Lib.hid (HB.out.trans (hbl.mono HB.out.size))
    clear hbl
    go_wp2_with fail
    go_ret
    exact ⟨rfl, HB.out⟩
  · have HF := Lib.hid hf
    obtain ⟨u, HU⟩ : ∃ u, Hid (fitV (0 - c) = u) := ⟨_, rfl⟩
    obtain ⟨v, HV⟩ : ∃ v, Hid (fitB (0 - c) = v) := ⟨_, rfl⟩
    clear hf
    go_enter Tryd.func9, Tryd.ntmps9
    go_wp2_with fail
    refine (text_no b (-9223372036854775808) _ hbb.out).mono ?_
    rintro e wz ⟨rfl, rfl⟩
    have HB := Lib.hid (Below.refl w.heap.size w)
    go_wp2_with fail
    refine (parse_no b _ _ hbb.out).mono ?_
    rintro e wz ⟨rfl, rfl⟩
    go_wp2_with fail
    refine (add_no (-9223372036854775808) c _ h1 h2 h3 h4 HF.out).mono ?_
    rintro e wz ⟨rfl, rfl⟩
    go_wp2_with fail
    refine (sub_some c u v _ h3 h4 HU HV).mono ?_
    rintro e wz ⟨rfl, rfl⟩
    go_wp2_with fail
    refine (neg_least _).mono ?_
    rintro e wz ⟨rfl, rfl⟩
    go_wp2_with fail
    refine (neg_zero _).mono ?_
    rintro e wz ⟨rfl, rfl⟩
    go_wp2_with fail
    refine (lives_any _ (ht.below HB.out)).mono ?_
    rintro e wz ⟨rfl, hbl⟩
    have HB := Lib.hid (HB.out.trans (hbl.mono HB.out.size))
    clear hbl
    go_wp2_with fail
    go_ret
    exact ⟨rfl, HB.out⟩

set_option maxHeartbeats 1600000 in
set_option maxRecDepth 100000 in
theorem back_n2_o (a c : Int) (b : Int) (hbx : 2 ≤ b) (hby : 16 < b) (hbb : Hid (baseB b = false)) (w : World) (ht : Tabs w) (h1 : -9223372036854775808 ≤ a) (h2 : a ≤ 9223372036854775807) (ha : (a != -9223372036854775808) = true) (h3 : -9223372036854775808 ≤ c) (h4 : c ≤ 9223372036854775807) :
    Calls Tryd.prog 9 #[.int .i64 a, .int .i64 c, .int .i64 b] w fun e w' => e = .returned (.bool true) ∧ Below w.heap.size w w' := by
  obtain ⟨n, HN⟩ : ∃ n, Hid (-a = n) := ⟨_, rfl⟩
  have hal : a ≠ -9223372036854775808 := bne_iff_ne.1 ha
  have HNF : Hid (Is64 n) := by have h9 := HN.out; unfold Hid Is64; omega
  have HN2 : Hid (-n = a) := by have h9 := HN.out; unfold Hid; omega
  clear hal
  have hbd : decide (b ≤ 16) = false := decide_eq_false (by omega)
  by_cases hf : Is64 (a + c)
  · obtain ⟨s, HS⟩ : ∃ s : Int, Hid (a + c = s) := ⟨_, rfl⟩
    have HF : Hid (Is64 s) := by unfold Hid; rw [← HS.out]; exact hf
    clear hf
    go_enter Tryd.func9, Tryd.ntmps9
    go_wp2_with fail
    refine (text_no b a _ hbb.out).mono ?_
    rintro e wz ⟨rfl, rfl⟩
    have HB := Lib.hid (Below.refl w.heap.size w)
    go_wp2_with fail
    refine (parse_no b _ _ hbb.out).mono ?_
    rintro e wz ⟨rfl, rfl⟩
    go_wp2_with fail
    refine (add_yes a c s _ h1 h2 h3 h4 HS HF.out).mono ?_
    rintro e wz ⟨rfl, rfl⟩
    go_wp2_with fail
    refine (sub_back a c s _ h1 h2 h3 h4 HS HF.out).mono ?_
    rintro e wz ⟨rfl, rfl⟩
    go_wp2_with fail
    refine (neg_val a n _ h1 h2 HN HNF.out).mono ?_
    rintro e wz ⟨rfl, rfl⟩
    go_wp2_with fail
    refine (neg_val n a _ HNF.out.1 HNF.out.2 HN2 ⟨h1, h2⟩).mono ?_
    rintro e wz ⟨rfl, rfl⟩
    go_wp2_with fail
    refine (lives_any _ (ht.below HB.out)).mono ?_
    rintro e wz ⟨rfl, hbl⟩
    have HB := Lib.hid (HB.out.trans (hbl.mono HB.out.size))
    clear hbl
    go_wp2_with fail
    go_ret
    exact ⟨rfl, HB.out⟩
  · have HF := Lib.hid hf
    obtain ⟨u, HU⟩ : ∃ u, Hid (fitV (0 - c) = u) := ⟨_, rfl⟩
    obtain ⟨v, HV⟩ : ∃ v, Hid (fitB (0 - c) = v) := ⟨_, rfl⟩
    clear hf
    go_enter Tryd.func9, Tryd.ntmps9
    go_wp2_with fail
    refine (text_no b a _ hbb.out).mono ?_
    rintro e wz ⟨rfl, rfl⟩
    have HB := Lib.hid (Below.refl w.heap.size w)
    go_wp2_with fail
    refine (parse_no b _ _ hbb.out).mono ?_
    rintro e wz ⟨rfl, rfl⟩
    go_wp2_with fail
    refine (add_no a c _ h1 h2 h3 h4 HF.out).mono ?_
    rintro e wz ⟨rfl, rfl⟩
    go_wp2_with fail
    refine (sub_some c u v _ h3 h4 HU HV).mono ?_
    rintro e wz ⟨rfl, rfl⟩
    go_wp2_with fail
    refine (neg_val a n _ h1 h2 HN HNF.out).mono ?_
    rintro e wz ⟨rfl, rfl⟩
    go_wp2_with fail
    refine (neg_val n a _ HNF.out.1 HNF.out.2 HN2 ⟨h1, h2⟩).mono ?_
    rintro e wz ⟨rfl, rfl⟩
    go_wp2_with fail
    refine (lives_any _ (ht.below HB.out)).mono ?_
    rintro e wz ⟨rfl, hbl⟩
    have HB := Lib.hid (HB.out.trans (hbl.mono HB.out.size))
    clear hbl
    go_wp2_with fail
    go_ret
    exact ⟨rfl, HB.out⟩

theorem back_walk (a c b : Int) (w : World) (ht : Tabs w) (h1 : -9223372036854775808 ≤ a) (h2 : a ≤ 9223372036854775807) (h3 : -9223372036854775808 ≤ c) (h4 : c ≤ 9223372036854775807) (_h5 : -9223372036854775808 ≤ b) (_h6 : b ≤ 9223372036854775807) :
    Calls Tryd.prog 9 #[.int .i64 a, .int .i64 c, .int .i64 b] w fun e w' => e = .returned (.bool true) ∧ Below w.heap.size w w' := by
  by_cases ha : a = -9223372036854775808
  · subst ha
    by_cases hb1 : b < 2
    · exact back_n1_m c b hb1 (decide_eq_false (by omega)) w ht h3 h4
    · by_cases hb2 : 16 < b
      · exact back_n2_m c b (by omega) hb2 (decide_eq_false (by omega)) w ht h3 h4
      · obtain ⟨n, rfl⟩ : ∃ n : Nat, b = n := ⟨b.toNat, by omega⟩
        exact back_v_m c n (by omega) (by omega) w ht h3 h4
  · have hab : (a != -9223372036854775808) = true := bne_iff_ne.2 ha
    by_cases hb1 : b < 2
    · exact back_n1_o a c b hb1 (decide_eq_false (by omega)) w ht h1 h2 hab h3 h4
    · by_cases hb2 : 16 < b
      · exact back_n2_o a c b (by omega) hb2 (decide_eq_false (by omega)) w ht h1 h2 hab h3 h4
      · obtain ⟨n, rfl⟩ : ∃ n : Nat, b = n := ⟨b.toNat, by omega⟩
        exact back_v_o a c n (by omega) (by omega) w ht h1 h2 hab h3 h4

set_option maxRecDepth 100000 in
theorem back_lifted (os : Os) (started : os.Started) (H : Type) (enc : TypeId × Value → H) :
    ReturnsInHanded {} Tryd.checked os 9 .any (fun w args => (Rows.fixBackSpec.pre enc Tryd.prog Tryd.f9 [] false w args ∧ laidMetH Tryd.prog laid3 w) ∧ sizedMet enc Tryd.prog Tryd.f9 (OpenSpec.ofChange Rows.fixBackSpec) false w args)
      (Rows.fixBackSpec.post enc Tryd.prog Tryd.f9 false true false false) := by
  refine returnsInHanded_of_change_and (C := Tryd.checked) (X := fun w _ => laidMetH Tryd.prog laid3 w) (fun _ _ _ hh h => h.of_heap hh) own started (by kernel_rfl) Tryd.func9
    (ChangeSpec.witness_shaped (enc := enc) (C := Tryd.checked) (os := os) (X := fun w _ => laidMetH Tryd.prog laid3 w) false (World.doorLaid Tryd.prog 400 os) #[.int .i64 0, .int .i64 0, .int .i64 0] 8 rfl (World.shaped_of_RefB (by kernel_rfl) (by kernel_rfl)) (by kernel_rfl) (by kernel_rfl) (by kernel_rfl) (door_met os _)) ?_
  intro W base args ds gs before hval0 hW _ _ hL _
  have hval : ∀ (j : Nat) t v, Tryd.f9.params[j]? = some t → args[j]? = some v → Value.okWide Tryd.prog W .any base t v := hval0
  have hW' := hW
  obtain ⟨p, q, hA0, hV, rfl, hfz, hnd⟩ := hW
  have hA : DataW.TrodAll enc Tryd.prog W 0 (fun _ => true) true Tryd.f9.params.toList args.toList ds p := hA0
  rw [Tryd.params9] at hA hval
  obtain ⟨v0, vs0, d0, ds0, p0, q0, hargs, rfl, rfl, h0, r0⟩ := trodAll_cons hA
  obtain ⟨v1, vs1, d1, ds1, p1, q1, rfl, rfl, rfl, h1, r1⟩ := trodAll_cons r0
  obtain ⟨v2, vs2, d2, ds2, p2, q2, rfl, rfl, rfl, h2, r2⟩ := trodAll_cons r1
  obtain ⟨rfl, rfl, rfl⟩ := trodAll_nil r2
  obtain rfl : args = #[v0, v1, v2] := by cases args; simp_all
  obtain ⟨rfl, rfl⟩ := trodVars_none hV
  obtain ⟨a0, rfl, rfl, rfl, w0⟩ := open_int Tryd.underlying3 (hval 0 3 v0 rfl rfl) h0
  obtain ⟨a1, rfl, rfl, rfl, w1⟩ := open_int Tryd.underlying3 (hval 1 3 v1 rfl rfl) h1
  obtain ⟨a2, rfl, rfl, rfl, w2⟩ := open_int Tryd.underlying3 (hval 2 3 v2 rfl rfl) h2
  clear hA0 hval0
  simp only [List.append_nil] at hW'
  refine (back_walk a0 a1 a2 W (of_laid hL) (i64_of w0).1 (i64_of w0).2 (i64_of w1).1 (i64_of w1).2 (i64_of w2).1 (i64_of w2).2).mono fun e W' ⟨he, hg⟩ => ?_
  subst he
  exact ⟨_, rfl, law_post (pa := []) (pv := []) hW' (fun _ _ _ => (trodAll_cons_mk (shut_bool Tryd.underlying4 _) trodAll_mk0)) (fun sp => (trodAll_cons_mk (shut_int Tryd.underlying3 w0) (trodAll_cons_mk (shut_int Tryd.underlying3 w1) (trodAll_cons_mk (shut_int Tryd.underlying3 w2) trodAll_mk0)))) (fun _ => rfl) rfl hg⟩

theorem back_holds : Rows.FixBackSaid :=
  OpenClaim.holds_of_wide 9 Tryd.f9 rfl rfl rfl rfl rfl rfl rfl ⟨rfl, rfl, rfl, rfl, rfl⟩ rfl rfl rfl rfl rfl (by kernel_rfl) Tryd.func9 (by kernel_rfl)
    (of_decide_eq_true (by kernel_rfl)) (by unfold Func.isWrapper; first | (rw [if_pos (by decide +kernel)]; kernel_rfl) | (rw [if_neg (by decide +kernel)]; exact ⟨rfl, rfl⟩))
    (fun os started H enc _ => back_lifted os started H enc)

end Go.Proofs.YtfjoahbboglgfaaDoor
