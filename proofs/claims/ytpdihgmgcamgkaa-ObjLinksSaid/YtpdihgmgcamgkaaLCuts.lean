/- ObjCuts: the walk. -/
import Derived.Test.YtpdihgmgcamgkaaDecode
import Derived.Test.YtpdihgmgcamgkaaLivesT
set_option linter.unusedSimpArgs false
set_option maxRecDepth 20000
namespace Go.Proofs.Ytpdihgmgcamgkaa
open Go.RowKit Go.Shelf

theorem rcB_len {r : Rc} (hm : mayM r = true) (hB : ∀ p ∈ r.parts, PtB p) : (rcB r).length ≤ 30000 := by
  obtain ⟨h1, h2, h3⟩ := may_size hm
  have h4 := ptsB_len (l := r.parts) (fun p hp => ⟨hB p hp, h3 p hp⟩)
  have h5 := numB_ten (n := r.parts.length) (by omega)
  have h6 := numB_ten (n := r.bytes.size) (by omega)
  have h7 := nums_len r.bytes
  unfold rcB
  simp only [List.length_append, List.length_cons, List.length_nil]
  omega
theorem rcB_pos (r : Rc) : 0 < (rcB r).length := by unfold rcB; simp
theorem nums_app (a b : List Nat) (ha : ∀ x ∈ a, x < 256) (hb : ∀ x ∈ b, x < 256) : nums (strB a ++ strB b) = a ++ b := by
  rw [← strB_append]; exact nums_strB (dig_append ha hb)
theorem enc_zero {r : Rc} (h : encE r = 0) : mayM r = true := by
  unfold encE at h
  split at h
  · simp at h
  · split at h
    · simp at h
    · simp_all
theorem encE_b (r : Rc) : encE r = 0 ∨ (encE r != 0) = true := by
  by_cases h : encE r = 0
  · exact .inl h
  · exact .inr (by simpa using h)
set_option maxHeartbeats 3200000 in
theorem cuts_walk (r : Rc) (q : Option Addr) (c : Nat) (cut : Int) (more : Nat) (W : World) (hn : r.parts.length ≤ 9223372036854775807) (hS : r.bytes.size ≤ 9223372036854775807) (hB : ∀ p ∈ r.parts, PtB p) (hP : Pts W q r.parts.length r.parts)
    (hc1 : cut ≤ 9223372036854775807) (hmo : more < 256) :
    Calls Try.prog 4 #[r.val q c, .int .i64 cut, .int .u8 (more : Int)] W fun e w' => e = .returned (.bool true) ∧ Below W.heap.size W w' := by
  have HP := Lib.hid hP
  have HB := Lib.hid hB
  clear hP hB
  have HX : Hid ((W.alloc (.cells #[.int .i64 r.kind, .slice q r.parts.length c, .string r.bytes] 24)).heap[W.heap.size]? = some (.cells #[.int .i64 r.kind, .slice q r.parts.length c, .string r.bytes] 24 (0, 0))) := Lib.hid (heap_alloc_new W _)
  have HBW : Hid (Below W.heap.size W (W.alloc (.cells #[.int .i64 r.kind, .slice q r.parts.length c, .string r.bytes] 24))) := Lib.hid ((Below.refl _ _).alloc (Nat.le_refl _) _)
  have HSM := Lib.hid (fun w (h : Pts w q r.parts.length r.parts) => small_any r q c w hn h)
  have HMI := Lib.hid (fun (hn : r.parts.length ≤ 1000) w (h : Pts w q r.parts.length r.parts) => mine_any r q c w hn h)
  unfold Rc.val at HSM HMI ⊢
  go_enter Try.func4, Try.ntmps4
  go_wp2_with fail
  refine (HSM.out _ (HP.out.below HBW.out)).mono ?_
  rintro e w1 ⟨rfl, hb1⟩
  have HB1 := Lib.hid (HBW.out.trans (hb1.mono HBW.out.size))
  have HX1 := Lib.hid ((hb1.block _ (lt_of_block HX.out)).trans HX.out)
  clear hb1
  by_cases hs : smallM r = false
  · rw [hs]
    go_wp2_with fail
    refine (lives_any _).mono ?_
    rintro e w2 ⟨rfl, hb2⟩
    have HB2 := Lib.hid (HB1.out.trans (hb2.mono HB1.out.size))
    clear hb2
    go_wp2_with fail
    go_ret
    exact ⟨rfl, HB2.out⟩
  · have hs' : smallM r = true := by simpa using hs
    rw [hs']
    have hl3 : r.parts.length ≤ 1000 := by
      unfold smallM at hs'
      rw [Bool.and_eq_true, decide_eq_true_eq] at hs'
      omega
    have x0 := cell_of_row _ _ 0 _ _ _ HX1.out
    have x1 := cell_of_row _ _ 1 _ _ _ HX1.out
    have x2 := cell_of_row _ _ 2 _ _ _ HX1.out
    simp at x0 x1 x2
    clear hs hs'
    go_wp2_with fail
    refine (HMI.out hl3 _ (HP.out.below (HB1.out.mono (Nat.le_refl _)))).mono ?_
    rintro e w2 ⟨q2, c2, rfl, hp2, hb2⟩
    have HB2 := Lib.hid (HB1.out.trans (hb2.mono HB1.out.size))
    have HX2 := Lib.hid ((hb2.block _ (lt_of_block HX1.out)).trans HX1.out)
    have HEN := Lib.hid (encode_any r q2 c2 w2 hn hS HB.out hp2)
    unfold Rc.val at HEN ⊢
    clear hp2 hb2 x0 x1 x2
    go_wp2_with fail
    refine HEN.out.mono ?_
    rintro e w3 ⟨rfl, hb3⟩
    have HB3 := Lib.hid (HB2.out.trans (hb3.mono HB2.out.size))
    clear hb3
    rcases encE_b r with he | he
    · have hm := enc_zero he
      rw [he, show encS r = strB (rcB r) by unfold encS; rw [hm]; rfl]
      have HLE := Lib.hid (rcB_len hm HB.out)
      have HPOS := Lib.hid (rcB_pos r)
      have HD1 := Lib.hid (fun w => decode_any r (strB (rcB r) ++ strB [more]) [more] false w hm HB.out (by rw [ByteArray.size_append, strB_size, strB_size]; have := HLE.out; simp; omega) (by simp)
        (by rw [nums_app _ _ (rcB_dig r) (by intro x hx; simp at hx; omega)]; exact Fd.whole rfl))
      have HD2 := Lib.hid (fun (k : Nat) (hk : k < (rcB r).length) w => decode_any r ((strB (rcB r)).extract 0 k) [] true w hm HB.out (by rw [extract_size _ _ _ (by omega) (by rw [strB_size]; omega)]; have := HLE.out; omega) (by simp)
        (by
          rw [nums_extract, nums_strB (rcB_dig r), List.drop_zero, Nat.sub_zero]
          exact Fd.cut_ (X := (rcB r).drop k) (by intro e; have := congrArg List.length e; rw [List.length_drop] at this; simp at this; omega) (List.take_append_drop k _).symm))
      have hsz : (strB (rcB r)).size = (rcB r).length := strB_size _
      have hsz1 : (strB [more]).size = 1 := strB_size _
      obtain ⟨m, hm2⟩ : ∃ m, Hid ((rcB r).length = m) := ⟨_, Lib.hid rfl⟩
      rw [hm2.out] at hsz HLE HPOS HD2
      have hle := HLE.out
      have hcv := fun w2 => str_cell w3 w2 more hmo
      generalize strB (rcB r) = B at *
      go_wp2_with fail
      refine (HD1.out _).mono ?_
      rintro e w4 ⟨k4, q4, n4, c4, s4, E4, rfl, hb4, _, h4, _⟩
      have hE4 := h4 rfl (by simp)
      subst hE4
      have HB4 := Lib.hid ((HB3.out.alloc HB3.out.size (.cells #[.int .u8 (more : Int)] 5)).trans (hb4.mono (by have := HB3.out.size; simp; omega)))
      have HB5 := Lib.hid (HB4.out.alloc HB4.out.size (.cells #[.int .i64 k4, .slice q4 n4 c4, .string s4] 33))
      clear hb4 h4 hcv
      by_cases hc : cut < 0
      · have hd : decide (cut < 0) = true := decide_eq_true hc
        go_wp2_with fail
        refine (lives_any _).mono ?_
        rintro e w7 ⟨rfl, hb7⟩
        have HB7 := Lib.hid (HB5.out.trans (hb7.mono HB5.out.size))
        clear hb7
        go_wp2_with fail
        go_ret
        exact ⟨rfl, HB7.out⟩
      · have hd : decide (cut < 0) = false := decide_eq_false hc
        by_cases hcm : (m : Int) ≤ cut
        · have hd2 : decide ((m : Int) ≤ cut) = true := decide_eq_true hcm
          go_wp2_with fail
          refine (lives_any _).mono ?_
          rintro e w7 ⟨rfl, hb7⟩
          have HB7 := Lib.hid (HB5.out.trans (hb7.mono HB5.out.size))
          clear hb7
          go_wp2_with fail
          go_ret
          exact ⟨rfl, HB7.out⟩
        · have hd2 : decide ((m : Int) ≤ cut) = false := decide_eq_false hcm
          obtain ⟨k, rfl⟩ : ∃ k : Nat, cut = (k : Int) := ⟨cut.toNat, by omega⟩
          have hkm : k ≤ B.size := by omega
          have hkb : (k : Int) ≤ (B.size : Int) := by omega
          go_wp2_with fail
          refine (HD2.out k (by omega) _).mono ?_
          rintro e w6 ⟨k6, q6, n6, c6, s6, E6, rfl, hb6, h6, _, _⟩
          have hE6 := h6 rfl
          subst hE6
          have HB6 := Lib.hid (HB5.out.trans (hb6.mono HB5.out.size))
          have HB5 := Lib.hid (HB6.out.alloc HB6.out.size (.cells #[.int .i64 k6, .slice q6 n6 c6, .string s6] 33))
          clear hb6 h6
          go_wp2_with fail
          refine (lives_any _).mono ?_
          rintro e w7 ⟨rfl, hb7⟩
          have HB7 := Lib.hid (HB5.out.trans (hb7.mono HB5.out.size))
          clear hb7
          go_wp2_with fail
          go_ret
          exact ⟨rfl, HB7.out⟩
    · generalize encE r = E at *
      generalize encS r = S at *
      go_wp2_with fail
      refine (lives_any _).mono ?_
      rintro e w4 ⟨rfl, hb4⟩
      have HB4 := Lib.hid (HB3.out.trans (hb4.mono HB3.out.size))
      clear hb4
      go_wp2_with fail
      go_ret
      exact ⟨rfl, HB4.out⟩
end Go.Proofs.Ytpdihgmgcamgkaa
