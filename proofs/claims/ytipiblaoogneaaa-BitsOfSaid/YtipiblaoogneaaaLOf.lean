/- The set of any bytes, or why there is none, is the document's, and it has those bytes; at whatever size and bytes. -/
import Derived.Test.YtipiblaoogneaaaLaw
namespace Go.Proofs.Ytipiblaoogneaaa
open Go.ChangeShapes Go.WideShapes Go.ChangeAt Go.RowKit

theorem OfR.yes {W w' : World} {x : Int} {bs : List Nat} {v : Value} (h : OfR W w' x bs v) (he : ofE x bs = 0) : ∃ g b, v = .pointer (some ⟨g, 0, none⟩) ∧ W.heap.size ≤ g ∧ W.heap.size ≤ b ∧ Sat w' g b x.toNat (trs bs) := by
  rcases h with ⟨_, h⟩ | ⟨h, _⟩
  · exact h
  · exact absurd he h
theorem OfR.no {W w' : World} {x : Int} {bs : List Nat} {v : Value} (h : OfR W w' x bs v) (he : ofE x bs ≠ 0) : v = .pointer none := by
  rcases h with ⟨h, _⟩ | ⟨_, h⟩
  · exact absurd h he
  · exact h
theorem ROf.yes {W w' : World} {x : Int} {bs : List Nat} {v : Value} (h : ROf W w' x bs v) (he : ofE x bs = 0) : ∃ p c, v = .slice p x.toNat c ∧ Bls w' p x.toNat (trs bs) := by
  rcases h with ⟨_, p, c, h1, h2, _⟩ | ⟨h, _⟩
  · exact ⟨p, c, h1, h2⟩
  · exact absurd he h
theorem ROf.no {W w' : World} {x : Int} {bs : List Nat} {v : Value} (h : ROf W w' x bs v) (he : ofE x bs ≠ 0) : v = .slice none 0 0 := by
  rcases h with ⟨h, _⟩ | ⟨_, h⟩
  · exact absurd h he
  · exact h
theorem ofE_row {x : Int} {bs : List Nat} (hd : ∀ y ∈ bs, y < 256) (he : ofE x bs = 0) : rowF (trs bs) (need x.toNat) = bs := by
  unfold ofE at he
  split at he
  · cases he
  · split at he
    · cases he
    · split at he
      · cases he
      · exact rowF_trs (by omega) hd
set_option maxHeartbeats 1600000 in
/-- Where the law asks for the example alone. -/
theorem of_out (x : Int) (p : Option Addr) (n c : Nat) (w : World) (h : 500 < n ∨ (200 < x ∧ x ≤ 2048)) :
    Calls Try.prog 4 #[.int .i64 x, .slice p n c] w fun e w' => e = .returned (.bool true) ∧ Below w.heap.size w w' := by
  by_cases h5 : 500 < n
  · have hd : decide ((500 : Int) < (n : Int)) = true := decide_eq_true (by omega)
    clear h h5
    go_enter Try.func4, Try.ntmps4
    go_wp2_with (go_at_call 8; refine (lives_any _).mono ?_; rintro e w1 ⟨rfl, hb⟩)
    go_ret
    exact ⟨rfl, hb⟩
  · have hd : decide ((500 : Int) < (n : Int)) = false := decide_eq_false (by omega)
    have hd2 : decide (200 < x) = true := decide_eq_true (by omega)
    have hd3 : decide (x ≤ 2048) = true := decide_eq_true (by omega)
    clear h h5
    go_enter Try.func4, Try.ntmps4
    go_wp2_with (go_at_call 8; refine (lives_any _).mono ?_; rintro e w1 ⟨rfl, hb⟩)
    go_ret
    exact ⟨rfl, hb⟩
set_option maxHeartbeats 3200000 in
theorem of_in (x : Int) (p : Option Addr) (n c : Nat) (bs : List Nat) (w : World) (hn : n ≤ 500) (hB : Bys w p n bs) (hg2 : (decide (200 < x) = false) ∨ (decide (200 < x) = true ∧ decide (x ≤ 2048) = false)) :
    Calls Try.prog 4 #[.int .i64 x, .slice p n c] w fun e w' => e = .returned (.bool true) ∧ Below w.heap.size w w' := by
  have hd : decide ((500 : Int) < (n : Int)) = false := decide_eq_false (by omega)
  have HO := Lib.hid (of_any x p n c bs w (by omega) hB)
  have HB := Lib.hid hB
  have HR : Hid (∀ w1, Below w.heap.size w w1 → _) := Lib.hid fun w1 hb => rof_any x p n c bs w1 (hB.below hb)
  have HD := Lib.hid hB.dig
  clear hn hB
  by_cases hE : ofE x bs = 0
  · have HE := Lib.hid hE
    rw [hE] at HO HR
    have HRW : Hid (strB (rowF (trs bs) (need x.toNat)) = strB bs) := Lib.hid (by rw [ofE_row HD.out hE])
    obtain ⟨S, hS⟩ : ∃ S, strB bs = S := ⟨_, rfl⟩
    have HS := Lib.hid hS
    rw [hS] at HRW
    have hSS : (S.toList == S.toList) = true := by simp
    clear hE hS
    rcases hg2 with hz | ⟨hz, hz2⟩
    · go_enter Try.func4, Try.ntmps4
      go_upto_region 9 with (first
        | (go_at_call 15; refine HO.out.mono ?_; rintro e w1 ⟨⟨v, rfl, hO⟩, hb1⟩; obtain ⟨g, b, rfl, hg, hbb, hS1⟩ := hO.yes HE.out)
        | (go_at_call 16; refine (HR.out _ hb1).mono ?_; rintro e w2 ⟨⟨v2, rfl, hR2⟩, hb2⟩; obtain ⟨p2, c2, rfl, hBl⟩ := hR2.yes HE.out))
      have HW2 := Lib.hid (Below.more hb1 hb2 hb1.size)
      have HS2 := Lib.hid (hS1.below hb2)
      have HBL := Lib.hid hBl
      clear hO hS1 hR2 hBl hb1 hb2 hg hbb
      go_region_with (first
        | (go_at_call 14; refine (alike_any (HS2.out.below (by exact (Below.refl _ _).drew)) p2 c2 (HBL.out.below (by exact (Below.refl _ _).drew))).mono ?_; rintro e w3 ⟨rfl, hb3⟩; have hw3 := Below.trans (Below.refl _ _).drew hb3; have hc3 := (HB.out.below (Below.more HW2.out hw3 HW2.out.size)).conv c; rw [HS.out] at hc3)
        | (go_at_call 17; refine (bytes_any (HS2.out.below hw3)).mono ?_; rintro e w4 ⟨⟨pb, cb, rfl, hY⟩, hb4⟩; have hcv := hY.conv cb; rw [HRW.out] at hcv; have hw4 := Below.more hw3 hb4 hw3.size; have hc4 := (HB.out.below (Below.more HW2.out hw4 HW2.out.size)).conv c; rw [HS.out] at hc4)
        | (go_at_call 8; refine (lives_any _).mono ?_; rintro e w5 ⟨rfl, hb5⟩; have hw5 := Below.more hw4 hb5 hw4.size))
      all_goals
        go_wp2_with fail
        go_ret
        exact ⟨rfl, Below.more HW2.out hw5 HW2.out.size⟩
    · go_enter Try.func4, Try.ntmps4
      go_upto_region 9 with (first
        | (go_at_call 15; refine HO.out.mono ?_; rintro e w1 ⟨⟨v, rfl, hO⟩, hb1⟩; obtain ⟨g, b, rfl, hg, hbb, hS1⟩ := hO.yes HE.out)
        | (go_at_call 16; refine (HR.out _ hb1).mono ?_; rintro e w2 ⟨⟨v2, rfl, hR2⟩, hb2⟩; obtain ⟨p2, c2, rfl, hBl⟩ := hR2.yes HE.out))
      have HW2 := Lib.hid (Below.more hb1 hb2 hb1.size)
      have HS2 := Lib.hid (hS1.below hb2)
      have HBL := Lib.hid hBl
      clear hO hS1 hR2 hBl hb1 hb2 hg hbb
      go_region_with (first
        | (go_at_call 14; refine (alike_any (HS2.out.below (by exact (Below.refl _ _).drew)) p2 c2 (HBL.out.below (by exact (Below.refl _ _).drew))).mono ?_; rintro e w3 ⟨rfl, hb3⟩; have hw3 := Below.trans (Below.refl _ _).drew hb3; have hc3 := (HB.out.below (Below.more HW2.out hw3 HW2.out.size)).conv c; rw [HS.out] at hc3)
        | (go_at_call 17; refine (bytes_any (HS2.out.below hw3)).mono ?_; rintro e w4 ⟨⟨pb, cb, rfl, hY⟩, hb4⟩; have hcv := hY.conv cb; rw [HRW.out] at hcv; have hw4 := Below.more hw3 hb4 hw3.size; have hc4 := (HB.out.below (Below.more HW2.out hw4 HW2.out.size)).conv c; rw [HS.out] at hc4)
        | (go_at_call 8; refine (lives_any _).mono ?_; rintro e w5 ⟨rfl, hb5⟩; have hw5 := Below.more hw4 hb5 hw4.size))
      all_goals
        go_wp2_with fail
        go_ret
        exact ⟨rfl, Below.more HW2.out hw5 HW2.out.size⟩
  · have HE := Lib.hid hE
    have he1 : (ofE x bs != ofE x bs) = false := by simp
    have he2 : (ofE x bs != 0) = true := by simpa using hE
    clear hE
    generalize hEE : ofE x bs = E at HO HR he1 he2
    rcases hg2 with hz | ⟨hz, hz2⟩
    · go_enter Try.func4, Try.ntmps4
      go_wp2_with (first
        | (go_at_call 15; refine HO.out.mono ?_; rintro e w1 ⟨⟨v, rfl, hO⟩, hb1⟩; obtain rfl := hO.no HE.out)
        | (go_at_call 16; refine (HR.out _ hb1).mono ?_; rintro e w2 ⟨⟨v2, rfl, hR2⟩, hb2⟩; obtain rfl := hR2.no HE.out)
        | (go_at_call 8; refine (lives_any _).mono ?_; rintro e w5 ⟨rfl, hb5⟩))
      go_ret
      exact ⟨rfl, Below.more (Below.more hb1 hb2 hb1.size) hb5 (Nat.le_trans hb1.size hb2.size)⟩
    · go_enter Try.func4, Try.ntmps4
      go_wp2_with (first
        | (go_at_call 15; refine HO.out.mono ?_; rintro e w1 ⟨⟨v, rfl, hO⟩, hb1⟩; obtain rfl := hO.no HE.out)
        | (go_at_call 16; refine (HR.out _ hb1).mono ?_; rintro e w2 ⟨⟨v2, rfl, hR2⟩, hb2⟩; obtain rfl := hR2.no HE.out)
        | (go_at_call 8; refine (lives_any _).mono ?_; rintro e w5 ⟨rfl, hb5⟩))
      go_ret
      exact ⟨rfl, Below.more (Below.more hb1 hb2 hb1.size) hb5 (Nat.le_trans hb1.size hb2.size)⟩
/-- The law's walk. -/
theorem of_walk (x : Int) (p : Option Addr) (n c : Nat) (bs : List Nat) (w : World) (_h1 : -9223372036854775808 ≤ x) (_h2 : x ≤ 9223372036854775807) (hB : Bys w p n bs) (_hf : Fit p n c) (_hc : c ≤ 140737488351232) :
    Calls Try.prog 4 #[.int .i64 x, .slice p n c] w fun e w' => e = .returned (.bool true) ∧ Below w.heap.size w w' := by
  by_cases h : 500 < n ∨ (200 < x ∧ x ≤ 2048)
  · exact of_out x p n c w h
  · refine of_in x p n c bs w (by omega) hB ?_
    by_cases h2 : 200 < x
    · exact .inr ⟨decide_eq_true h2, decide_eq_false (by omega)⟩
    · exact .inl (decide_eq_false h2)
set_option maxRecDepth 100000 in
theorem of_lifted (os : Os) (started : os.Started) (H : Type) (enc : TypeId × Value → H) :
    ReturnsInHanded {} Try.checked os 4 .any (fun w args => Rows.bitsOfSpec.pre enc Try.prog Try.f4 [] false w args ∧ sizedMet enc Try.prog Try.f4 (OpenSpec.ofChange Rows.bitsOfSpec) false w args)
      (Rows.bitsOfSpec.post enc Try.prog Try.f4 false true false false) := by
  refine returnsInHanded_of_change_sized (C := Try.checked) own started (by kernel_rfl) Try.func4
    (ChangeSpec.witness6 (enc := enc) (C := Try.checked) false ⟨#[], #[.int .i64 0, .slice none 0 0], []⟩ 8 (by kernel_rfl) (by kernel_rfl) (by kernel_rfl) (by kernel_rfl)) ?_
  intro W base args ds gs before hval0 hW _ hsz0 _
  have hval : ∀ (j : Nat) t v, Try.f4.params[j]? = some t → args[j]? = some v → Value.okWide Try.prog W .any base t v := hval0
  have hlt := fun x hx => hW.lt (p := x) hx
  have hW' := hW
  obtain ⟨p, q, hA0, hV, rfl, hfz, hnd⟩ := hW
  have hA : DataW.TrodAll enc Try.prog W 0 (fun _ => true) true Try.f4.params.toList args.toList ds p := hA0
  have hsz : (DataW.weightsEach Try.prog (Try.f4.params.toList ++ Rows.bitsOfSpec.plain.varTypes Try.prog) (ds ++ gs)).all (· ≤ reachBytes) = true := hsz0
  rw [Try.params4] at hA hval hsz
  obtain ⟨v0, vs0, d0, ds0, p0, q0, hargs, rfl, rfl, h0, r0⟩ := trodAll_cons hA
  obtain ⟨v1, vs1, d1, ds1, p1, q1, rfl, rfl, rfl, h1, r1⟩ := trodAll_cons r0
  obtain ⟨rfl, rfl, rfl⟩ := trodAll_nil r1
  obtain rfl : args = #[v0, v1] := by cases args; simp_all
  obtain ⟨rfl, rfl⟩ := trodVars_none hV
  obtain ⟨a0, rfl, rfl, rfl, w0⟩ := open_int Try.underlying3 (hval 0 3 v0 rfl rfl) h0
  obtain ⟨a1, n1, c1, b1, rfl, hb1, hn1, hc1⟩ := open_bys (hval 1 37 v1 rfl rfl) h1 (fun el sp e => sized_slice hsz (j := 1) rfl (by rw [← e]; rfl) Try.underlying37)
  clear hA0 hval0
  simp only [List.append_nil] at hW'
  refine (of_walk a0 a1 n1 c1 b1 W (i64_of w0).1 (i64_of w0).2 hb1 hn1 hc1).mono fun e W' ⟨he, hg⟩ => ?_
  subst he
  exact ⟨_, rfl, law_post hW' (fun _ _ _ => (trodAll_cons_mk (shut_bool Try.underlying4 _) trodAll_mk0)) (trodAll_cons_mk (shut_int Try.underlying3 w0) (trodAll_cons_mk (Below.trod laidOut (by kernel_rfl) (by decide +kernel) h1 hg (fun x hx => hlt x (by simp [hx]))) trodAll_mk0)) rfl (by simp) hg⟩

theorem of_holds : Rows.BitsOfSaid :=
  OpenClaim.holds_of_wide 4 Try.f4 rfl rfl rfl rfl rfl rfl rfl ⟨rfl, rfl, rfl, rfl, rfl⟩ rfl rfl rfl rfl rfl (by kernel_rfl) Try.func4 (by kernel_rfl)
    (of_decide_eq_true (by kernel_rfl)) (by unfold Func.isWrapper; first | (rw [if_pos (by decide +kernel)]; kernel_rfl) | (rw [if_neg (by decide +kernel)]; exact ⟨rfl, rfl⟩))
    (fun os started H enc _ => of_lifted os started H enc)
#print axioms of_holds

end Go.Proofs.Ytipiblaoogneaaa
