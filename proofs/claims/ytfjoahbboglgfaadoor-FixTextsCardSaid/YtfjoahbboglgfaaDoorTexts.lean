/- The law FixTexts returns true for any number, any text and any base. -/
import Derived.Test.YtfjoahbboglgfaaDoorRParseN
import Derived.Test.YtfjoahbboglgfaaDoorRParseM
import Derived.Test.YtfjoahbboglgfaaDoorRParseP
import Derived.Test.YtfjoahbboglgfaaDoorRPall
import Derived.ShutString
import Derived.ChangeMaps5
namespace Go.Proofs.YtfjoahbboglgfaaDoor
open Go.ChangeMaps (open_string shut_string)
open Go.ChangeShapes Go.WideShapes Go.ChangeAt Go.RowKit

theorem rparse_any (b : Nat) (L : List UInt8) (w : World) (hb : 2 ≤ b) (hb2 : b ≤ 16) (hl : L.length ≤ 1000) :
    Calls Tryd.prog 29 #[.string ⟨L.toArray⟩, .int .i64 (b : Int)] w fun e w' => e = .returned (.tuple #[.int .i64 (parseV b L), .int .i64 (parseE b L)]) ∧ Below w.heap.size w w' := by
  rcases L with _ | ⟨c, t⟩
  · exact rparse_0 b w hb hb2
  · by_cases h1 : c = 45
    · subst h1
      rcases t with _ | ⟨c0, t0⟩
      · exact rparse_45 b w hb hb2
      · exact rparse_m b c0 t0 w hb hb2 hl
    · by_cases h2 : c = 43
      · subst h2
        rcases t with _ | ⟨c0, t0⟩
        · exact rparse_43 b w hb hb2
        · exact rparse_p b c0 t0 w hb hb2 hl
      · exact rparse_n b c t w hb hb2 hl h1 h2

set_option maxHeartbeats 1600000 in
set_option maxRecDepth 100000 in
theorem texts_long (a b : Int) (L : List UInt8) (w : World) (ht : Tabs w) (hl : 300 < L.length) :
    Calls Tryd.prog 8 #[.int .i64 a, .string ⟨L.toArray⟩, .int .i64 b] w fun e w' => e = .returned (.bool true) ∧ Below w.heap.size w w' := by
  have hd : decide ((300 : Int) < (L.length : Int)) = true := decide_eq_true (by omega)
  go_enter Tryd.func8, Tryd.ntmps8
  go_wp2_with fail
  refine (lives_any _ ht).mono ?_
  rintro e w1 ⟨rfl, hbl⟩
  have HB := Lib.hid hbl
  clear hbl
  go_wp2_with fail
  go_ret
  exact ⟨rfl, HB.out⟩

set_option maxHeartbeats 1600000 in
set_option maxRecDepth 100000 in
theorem texts_base (a : Int) (b : Nat) (L : List UInt8) (w : World) (ht : Tabs w) (h1 : -9223372036854775808 ≤ a) (h2 : a ≤ 9223372036854775807) (hl : L.length ≤ 300) (hb : 2 ≤ b) (hb2 : b ≤ 16) :
    Calls Tryd.prog 8 #[.int .i64 a, .string ⟨L.toArray⟩, .int .i64 (b : Int)] w fun e w' => e = .returned (.bool true) ∧ Below w.heap.size w w' := by
  have hd : decide ((300 : Int) < (L.length : Int)) = false := decide_eq_false (by omega)
  have hbd1 : decide ((b : Int) < 2) = false := decide_eq_false (by omega)
  have hbd2 : decide ((16 : Int) < (b : Int)) = false := decide_eq_false (by omega)
  obtain ⟨V, HV⟩ : ∃ V, Hid (parseV b L = V) := ⟨_, rfl⟩
  obtain ⟨E, HE⟩ : ∃ E, Hid (parseE b L = E) := ⟨_, rfl⟩
  obtain ⟨T, HT⟩ : ∃ T, Hid (numText b a = T) := ⟨_, rfl⟩
  have p1 := fun w => parse_any b L w hb hb2 (by omega)
  have p2 := fun w => rparse_any b L w hb hb2 (by omega)
  have p3 := fun w ht => text_any b a w ht hb hb2 h1 h2
  have p4 := fun w => rtext_any b a w hb hb2 h1 h2
  rw [HV.out, HE.out] at p1 p2
  rw [HT.out] at p3 p4
  have P1 := Lib.hid p1
  have P2 := Lib.hid p2
  have P3 := Lib.hid p3
  have P4 := Lib.hid p4
  clear p1 p2 p3 p4
  go_enter Tryd.func8, Tryd.ntmps8
  go_wp2_with fail
  refine (P1.out _).mono ?_
  rintro e w1 ⟨rfl, hbl⟩
  have HB := Lib.hid hbl
  clear hbl
  go_wp2_with fail
  refine (P2.out _).mono ?_
  rintro e w1 ⟨rfl, hbl⟩
  have HB := Lib.hid (HB.out.trans (hbl.mono HB.out.size))
  clear hbl
  go_wp2_with fail
  refine (P3.out _ (ht.below HB.out)).mono ?_
  rintro e w1 ⟨rfl, hbl⟩
  have HB := Lib.hid (HB.out.trans (hbl.mono HB.out.size))
  clear hbl
  go_wp2_with fail
  refine (P4.out _).mono ?_
  rintro e w1 ⟨rfl, hbl⟩
  have HB := Lib.hid (HB.out.trans (hbl.mono HB.out.size))
  clear hbl
  go_wp2_with fail
  refine (lives_any _ (ht.below HB.out)).mono ?_
  rintro e w1 ⟨rfl, hbl⟩
  have HB := Lib.hid (HB.out.trans (hbl.mono HB.out.size))
  clear hbl
  go_wp2_with fail
  go_ret
  exact ⟨rfl, HB.out⟩

set_option maxHeartbeats 1600000 in
set_option maxRecDepth 100000 in
theorem texts_none (a b : Int) (L : List UInt8) (w : World) (ht : Tabs w) (hl : L.length ≤ 300) (hb : b < 2 ∨ 16 < b) :
    Calls Tryd.prog 8 #[.int .i64 a, .string ⟨L.toArray⟩, .int .i64 b] w fun e w' => e = .returned (.bool true) ∧ Below w.heap.size w w' := by
  have hd : decide ((300 : Int) < (L.length : Int)) = false := decide_eq_false (by omega)
  have HBB : Hid (baseB b = false) := Lib.hid (decide_eq_false (by omega))
  have HBO := Lib.hid hb
  have hb3 : b < 2 ∨ (2 ≤ b ∧ 16 < b) := by omega
  clear hb
  rcases hb3 with h | ⟨h, h9⟩
  all_goals
    go_enter Tryd.func8, Tryd.ntmps8
    go_wp2_with fail
    refine (parse_no b _ _ HBB.out).mono ?_
    rintro e w1 ⟨rfl, rfl⟩
    go_wp2_with fail
    refine (rparse_no b _ _ HBO.out).mono ?_
    rintro e w1 ⟨rfl, rfl⟩
    go_wp2_with fail
    refine (text_no b a _ HBB.out).mono ?_
    rintro e w1 ⟨rfl, rfl⟩
    go_wp2_with fail
    refine (lives_any _ ht).mono ?_
    rintro e w1 ⟨rfl, hbl⟩
    have HB := Lib.hid hbl
    clear hbl
    go_wp2_with fail
    go_ret
    exact ⟨rfl, HB.out⟩

theorem texts_walk (a : Int) (s : ByteArray) (b : Int) (w : World) (ht : Tabs w) (h1 : -9223372036854775808 ≤ a) (h2 : a ≤ 9223372036854775807) :
    Calls Tryd.prog 8 #[.int .i64 a, .string s, .int .i64 b] w fun e w' => e = .returned (.bool true) ∧ Below w.heap.size w w' := by
  obtain ⟨L, rfl⟩ : ∃ L : List UInt8, s = ⟨L.toArray⟩ := ⟨s.data.toList, by cases s; simp⟩
  by_cases hl : 300 < L.length
  · exact texts_long a b L w ht hl
  · by_cases hb : b < 2 ∨ 16 < b
    · exact texts_none a b L w ht (by omega) hb
    · obtain ⟨n, rfl⟩ : ∃ n : Nat, b = n := ⟨b.toNat, by omega⟩
      exact texts_base a n L w ht h1 h2 (by omega) (by omega) (by omega)

set_option maxRecDepth 100000 in
theorem texts_lifted (os : Os) (started : os.Started) (H : Type) (enc : TypeId × Value → H) :
    ReturnsInHanded {} Tryd.checked os 8 .any (fun w args => (Rows.fixTextsSpec.pre enc Tryd.prog Tryd.f8 [] false w args ∧ laidMetH Tryd.prog laid3 w) ∧ sizedMet enc Tryd.prog Tryd.f8 (OpenSpec.ofChange Rows.fixTextsSpec) false w args)
      (Rows.fixTextsSpec.post enc Tryd.prog Tryd.f8 false true false false) := by
  refine returnsInHanded_of_change_and (C := Tryd.checked) (X := fun w _ => laidMetH Tryd.prog laid3 w) (fun _ _ _ hh h => h.of_heap hh) own started (by kernel_rfl) Tryd.func8
    (ChangeSpec.witness_shaped (enc := enc) (C := Tryd.checked) (os := os) (X := fun w _ => laidMetH Tryd.prog laid3 w) false (World.doorLaid Tryd.prog 400 os) #[.int .i64 0, .string ⟨#[]⟩, .int .i64 0] 8 rfl (World.shaped_of_RefB (by kernel_rfl) (by kernel_rfl)) (by kernel_rfl) (by kernel_rfl) (by kernel_rfl) (door_met os _)) ?_
  intro W base args ds gs before hval0 hW _ _ hL _
  have hval : ∀ (j : Nat) t v, Tryd.f8.params[j]? = some t → args[j]? = some v → Value.okWide Tryd.prog W .any base t v := hval0
  have hW' := hW
  obtain ⟨p, q, hA0, hV, rfl, hfz, hnd⟩ := hW
  have hA : DataW.TrodAll enc Tryd.prog W 0 (fun _ => true) true Tryd.f8.params.toList args.toList ds p := hA0
  rw [Tryd.params8] at hA hval
  obtain ⟨v0, vs0, d0, ds0, p0, q0, hargs, rfl, rfl, h0, r0⟩ := trodAll_cons hA
  obtain ⟨v1, vs1, d1, ds1, p1, q1, rfl, rfl, rfl, h1, r1⟩ := trodAll_cons r0
  obtain ⟨v2, vs2, d2, ds2, p2, q2, rfl, rfl, rfl, h2, r2⟩ := trodAll_cons r1
  obtain ⟨rfl, rfl, rfl⟩ := trodAll_nil r2
  obtain rfl : args = #[v0, v1, v2] := by cases args; simp_all
  obtain ⟨rfl, rfl⟩ := trodVars_none hV
  obtain ⟨a0, rfl, rfl, rfl, w0⟩ := open_int Tryd.underlying3 (hval 0 3 v0 rfl rfl) h0
  obtain ⟨s1, rfl, rfl, rfl, w1⟩ := open_string Tryd.underlying9 (hval 1 9 v1 rfl rfl) h1
  obtain ⟨a2, rfl, rfl, rfl, w2⟩ := open_int Tryd.underlying3 (hval 2 3 v2 rfl rfl) h2
  clear hA0 hval0
  simp only [List.append_nil] at hW'
  refine (texts_walk a0 s1 a2 W (of_laid hL) (i64_of w0).1 (i64_of w0).2).mono fun e W' ⟨he, hg⟩ => ?_
  subst he
  exact ⟨_, rfl, law_post (pa := []) (pv := []) hW' (fun _ _ _ => (trodAll_cons_mk (shut_bool Tryd.underlying4 _) trodAll_mk0)) (fun sp => (trodAll_cons_mk (shut_int Tryd.underlying3 w0) (trodAll_cons_mk (shut_string Tryd.underlying9 w1) (trodAll_cons_mk (shut_int Tryd.underlying3 w2) trodAll_mk0)))) (fun _ => rfl) rfl hg⟩

theorem texts_holds : Rows.FixTextsSaid :=
  OpenClaim.holds_of_wide 8 Tryd.f8 rfl rfl rfl rfl rfl rfl rfl ⟨rfl, rfl, rfl, rfl, rfl⟩ rfl rfl rfl rfl rfl (by kernel_rfl) Tryd.func8 (by kernel_rfl)
    (of_decide_eq_true (by kernel_rfl)) (by unfold Func.isWrapper; first | (rw [if_pos (by decide +kernel)]; kernel_rfl) | (rw [if_neg (by decide +kernel)]; exact ⟨rfl, rfl⟩))
    (fun os started H enc _ => texts_lifted os started H enc)

end Go.Proofs.YtfjoahbboglgfaaDoor
