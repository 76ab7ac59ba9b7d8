/- Escapes, and what stands between quotes. -/
import Derived.Test.YtjpbbooeihdnfaaDoorLC7
set_option maxRecDepth 20000
set_option linter.unusedSimpArgs false
set_option linter.unusedVariables false
namespace Go.Proofs.YtjpbbooeihdnfaaDoor
open Go.RowKit

theorem esc0 (W : World) : (Instr.index 9 (.string ⟨#[34, 92, 10, 9, 13, 7, 8]⟩) (.int .i64 (Lib.indexByte escL 34))).run Tryd.prog W = .ok (.int .u8 ((escB.getD (escL.idxOf 34) 0).toNat : Int)) W := by kernel_rfl
theorem esc1 (W : World) : (Instr.index 9 (.string ⟨#[34, 92, 10, 9, 13, 7, 8]⟩) (.int .i64 (Lib.indexByte escL 92))).run Tryd.prog W = .ok (.int .u8 ((escB.getD (escL.idxOf 92) 0).toNat : Int)) W := by kernel_rfl
theorem esc2 (W : World) : (Instr.index 9 (.string ⟨#[34, 92, 10, 9, 13, 7, 8]⟩) (.int .i64 (Lib.indexByte escL 110))).run Tryd.prog W = .ok (.int .u8 ((escB.getD (escL.idxOf 110) 0).toNat : Int)) W := by kernel_rfl
theorem esc3 (W : World) : (Instr.index 9 (.string ⟨#[34, 92, 10, 9, 13, 7, 8]⟩) (.int .i64 (Lib.indexByte escL 116))).run Tryd.prog W = .ok (.int .u8 ((escB.getD (escL.idxOf 116) 0).toNat : Int)) W := by kernel_rfl
theorem esc4 (W : World) : (Instr.index 9 (.string ⟨#[34, 92, 10, 9, 13, 7, 8]⟩) (.int .i64 (Lib.indexByte escL 114))).run Tryd.prog W = .ok (.int .u8 ((escB.getD (escL.idxOf 114) 0).toNat : Int)) W := by kernel_rfl
theorem esc5 (W : World) : (Instr.index 9 (.string ⟨#[34, 92, 10, 9, 13, 7, 8]⟩) (.int .i64 (Lib.indexByte escL 97))).run Tryd.prog W = .ok (.int .u8 ((escB.getD (escL.idxOf 97) 0).toNat : Int)) W := by kernel_rfl
theorem esc6 (W : World) : (Instr.index 9 (.string ⟨#[34, 92, 10, 9, 13, 7, 8]⟩) (.int .i64 (Lib.indexByte escL 98))).run Tryd.prog W = .ok (.int .u8 ((escB.getD (escL.idxOf 98) 0).toNat : Int)) W := by kernel_rfl
theorem esc_tab (c : UInt8) (h : escL.contains c = true) (i : Int) (hi : i = Lib.indexByte escL c) (W : World) :
    (Instr.index 9 (.string ⟨#[34, 92, 10, 9, 13, 7, 8]⟩) (.int .i64 i)).run Tryd.prog W = .ok (.int .u8 ((escB.getD (escL.idxOf c) 0).toNat : Int)) W := by
  have h2 : c = 34 ∨ c = 92 ∨ c = 110 ∨ c = 116 ∨ c = 114 ∨ c = 97 ∨ c = 98 := by
    have := List.contains_iff_mem.1 h
    simpa [escL] using this
  subst hi
  clear h
  rcases h2 with rfl | rfl | rfl | rfl | rfl | rfl | rfl
  · exact esc0 W
  · exact esc1 W
  · exact esc2 W
  · exact esc3 W
  · exact esc4 W
  · exact esc5 W
  · exact esc6 W
def escV (L : List UInt8) : Value := .tuple #[.int .u8 ((esc L).1 : Int), .int .i64 ((esc L).2 : Int)]
set_option maxHeartbeats 3200000 in
theorem escaped_any (S : ByteArray) (w : World) (hE : Env w) (hS : S.size ≤ 5000) (h2 : 2 ≤ S.size) : Calls Tryd.prog 47 #[.string S] w fun e w' => e = .returned (escV (tl S)) ∧ Below w.heap.size w w' := by
  have hi1 : ∀ w, (Instr.index 9 (.string S) (.int .i64 1)).run Tryd.prog w = .ok (.int .u8 (((tl S).getD 1 0).toNat : Int)) w := fun w => idx_any S 1 (by omega) w
  obtain ⟨RV, hRV⟩ : ∃ RV, escV (tl S) = RV := ⟨_, rfl⟩
  rw [hRV]
  unfold escV esc at hRV
  obtain ⟨c, hc⟩ : ∃ c, (tl S).getD 1 0 = c := ⟨_, rfl⟩
  rw [hc] at hi1 hRV
  have hmem := fun w => member_any ⟨#[34, 92, 110, 116, 114, 97, 98]⟩ c w
  rw [show tl ⟨#[34, 92, 110, 116, 114, 97, 98]⟩ = escL from rfl] at hmem
  have htab := esc_tab c
  clear hc
  rcases hm : escL.contains c with _ | _
  · rw [hm] at hmem hRV
    rw [if_neg (by simp)] at hRV
    have HM := Lib.hid hmem
    clear hmem htab hm
    obtain ⟨m, hmx⟩ := hE.mx
    have hcp := fun w => Tryd.strings_CutPrefix S ⟨#[92, 120]⟩ w
    rw [show Lib.hasPrefix S.data.toList (⟨#[92, 120]⟩ : ByteArray).data.toList = [92, 120].isPrefixOf (tl S) from rfl] at hcp
    rcases hp : [92, 120].isPrefixOf (tl S) with _ | _
    · rw [hp] at hcp hRV
      rw [if_neg (by simp)] at hRV
      have ht : (⟨(Lib.trimPrefix S.data.toList (⟨#[92, 120]⟩ : ByteArray).data.toList).toArray⟩ : ByteArray) = S := by
        unfold Lib.trimPrefix Lib.hasPrefix
        rw [show (⟨#[92, 120]⟩ : ByteArray).data.toList = [92, 120] from rfl, hp]; rfl
      rw [ht] at hcp
      have HCP := Lib.hid hcp
      have hcut := fun w (hm : w.cell? ⟨2, 0, none⟩ = some (.int .i64 m)) => Tryd.strings_Cut S ⟨#[59]⟩ m w (by omega) hm
      rw [show (⟨#[59]⟩ : ByteArray).data.toList = [59] from rfl] at hcut
      obtain ⟨A, hA⟩ : ∃ A, Lib.cut S.data.toList [59] = A := ⟨_, rfl⟩
      have hA1 : A.1.length ≤ 5000 := by
        rw [← hA, (cut_one _ _).1]
        exact Nat.le_trans ((List.takeWhile_sublist _).length_le) (by show (tl S).length ≤ 5000; rw [tl_len]; exact hS)
      rw [hA] at hcut
      obtain ⟨A1, A2, A3⟩ := A
      have HCU := Lib.hid hcut
      have hbo := fun w => byteOf_any ⟨A1.toArray⟩ w (by exact hA1)
      obtain ⟨V, b, hV⟩ : ∃ V b, bofV (tl (⟨A1.toArray⟩ : ByteArray)) = .tuple #[.int .i64 V, .bool b] := by
        unfold bofV; split <;> exact ⟨_, _, rfl⟩
      rw [hV] at hbo
      have HBO := Lib.hid hbo
      have HV : Hid (.tuple #[.int .u8 0, .int .i64 0] = RV) := hRV
      clear hRV hcp hcut hbo hp ht hA hV hE
      go_enter Tryd.func47, Tryd.ntmps47
      go_wp2_with (first
        | (go_at_call 14; refine (HM.out _).mono ?_; rintro e w' ⟨⟨i, rfl, -, hi⟩, rfl⟩)
        | (go_at_call 35; refine (HCP.out _).mono ?_; rintro e w' ⟨rfl, rfl⟩)
        | (go_at_call 30; refine (HCU.out _ hmx).mono ?_; rintro e w' ⟨rfl, n, rfl⟩)
        | (go_at_call 64; refine (HBO.out _).mono ?_; rintro e w2 ⟨rfl, hb2⟩; have HB2 := Lib.hid ((below_drewN (Below.refl _ _) n).trans hb2); clear hb2))
      all_goals
        go_ret2
        exact ⟨by rw [← HV.out]; rfl, HB2.out⟩
    · rw [hp] at hcp hRV
      have ht : (⟨(Lib.trimPrefix S.data.toList (⟨#[92, 120]⟩ : ByteArray).data.toList).toArray⟩ : ByteArray) = ⟨((tl S).drop 2).toArray⟩ := by
        unfold Lib.trimPrefix Lib.hasPrefix
        rw [show (⟨#[92, 120]⟩ : ByteArray).data.toList = [92, 120] from rfl, hp]; rfl
      rw [ht] at hcp
      obtain ⟨R, hR⟩ : ∃ R : ByteArray, R = ⟨((tl S).drop 2).toArray⟩ := ⟨_, rfl⟩
      have hRt : tl R = (tl S).drop 2 := by rw [hR]
      have hRl : R.size ≤ 5000 := by rw [← tl_len, hRt, List.length_drop, tl_len]; omega
      rw [← hR] at hcp
      rw [← hRt] at hRV
      have HCP := Lib.hid hcp
      have hcut := fun w (hm : w.cell? ⟨2, 0, none⟩ = some (.int .i64 m)) => Tryd.strings_Cut R ⟨#[59]⟩ m w (by omega) hm
      rw [show (⟨#[59]⟩ : ByteArray).data.toList = [59] from rfl] at hcut
      obtain ⟨A, hA⟩ : ∃ A, Lib.cut R.data.toList [59] = A := ⟨_, rfl⟩
      have hA0 := cut_one (tl R) 59
      rw [hA] at hcut hA0
      obtain ⟨A1, A2, A3⟩ := A
      obtain ⟨hA1, hA2⟩ := hA0
      dsimp only at hA1 hA2
      have hAl : A1.length ≤ 5000 := by
        rw [hA1]
        exact Nat.le_trans ((List.takeWhile_sublist _).length_le) (by rw [tl_len]; exact hRl)
      rw [← hA1, ← hA2] at hRV
      have HCU := Lib.hid hcut
      have hbo := fun w => byteOf_any ⟨A1.toArray⟩ w (by exact hAl)
      rw [show tl (⟨A1.toArray⟩ : ByteArray) = A1 from rfl] at hbo
      unfold bofV at hbo
      have hlen : (((⟨A1.toArray⟩ : ByteArray).size : Nat) : Int) = (A1.length : Int) := rfl
      have hnn := byteOk_nn (h := A1)
      have hlt : byteOk A1 = true → parseV 16 A1 < 128 := fun h => by
        unfold byteOk at h
        rw [Bool.and_eq_true, Bool.and_eq_true] at h
        exact of_decide_eq_true h.2.2
      clear hcp hcut hA hA1 hA2 hE hp ht hR hRt
      rcases A3 with _ | _
      · rw [if_neg (by simp)] at hRV
        have HV : Hid (.tuple #[.int .u8 0, .int .i64 0] = RV) := hRV
        obtain ⟨V, b, hV⟩ : ∃ V b, (if byteOk A1 = true then Value.tuple #[.int .i64 (parseV 16 A1), .bool true] else .tuple #[.int .i64 0, .bool false]) = .tuple #[.int .i64 V, .bool b] := by
          split <;> exact ⟨_, _, rfl⟩
        rw [hV] at hbo
        have HBO := Lib.hid hbo
        clear hRV hbo hV hnn hlt
        go_enter Tryd.func47, Tryd.ntmps47
        go_wp2_with (first
          | (go_at_call 14; refine (HM.out _).mono ?_; rintro e w' ⟨⟨i, rfl, -, hi⟩, rfl⟩)
          | (go_at_call 35; refine (HCP.out _).mono ?_; rintro e w' ⟨rfl, rfl⟩)
          | (go_at_call 30; refine (HCU.out _ hmx).mono ?_; rintro e w' ⟨rfl, n, rfl⟩)
          | (go_at_call 64; refine (HBO.out _).mono ?_; rintro e w2 ⟨rfl, hb2⟩; have HB2 := Lib.hid ((below_drewN (Below.refl _ _) n).trans hb2); clear hb2))
        all_goals
          go_ret2
          exact ⟨by rw [← HV.out]; rfl, HB2.out⟩
      · rcases hb : byteOk A1 with _ | _
        · rw [hb] at hbo hRV
          rw [if_neg (by simp)] at hRV
          have HV : Hid (.tuple #[.int .u8 0, .int .i64 0] = RV) := hRV
          have HBO := Lib.hid hbo
          clear hRV hbo hb hnn hlt
          go_enter Tryd.func47, Tryd.ntmps47
          go_wp2_with (first
            | (go_at_call 14; refine (HM.out _).mono ?_; rintro e w' ⟨⟨i, rfl, -, hi⟩, rfl⟩)
            | (go_at_call 35; refine (HCP.out _).mono ?_; rintro e w' ⟨rfl, rfl⟩)
            | (go_at_call 30; refine (HCU.out _ hmx).mono ?_; rintro e w' ⟨rfl, n, rfl⟩)
            | (go_at_call 64; refine (HBO.out _).mono ?_; rintro e w2 ⟨rfl, hb2⟩; have HB2 := Lib.hid ((below_drewN (Below.refl _ _) n).trans hb2); clear hb2))
          all_goals
            go_ret2
            exact ⟨by rw [← HV.out]; rfl, HB2.out⟩
        · have hv1 := hnn hb
          have hv2 := hlt hb
          rw [hb] at hbo hRV
          rw [if_pos ⟨rfl, rfl, rfl⟩] at hRV
          obtain ⟨V, hV⟩ : ∃ V, parseV 16 A1 = V := ⟨_, rfl⟩
          rw [hV] at hv1 hv2 hbo hRV
          have HV : Hid (.tuple #[.int .u8 V, .int .i64 (2 + (A1.length : Int) + 1)] = RV) := by
            unfold Hid
            rw [← hRV, show ((V.toNat : Nat) : Int) = V by omega, show (((A1.length + 3 : Nat)) : Int) = 2 + (A1.length : Int) + 1 by omega]
          have hw : IntKind.u8.wrap V = V := by rw [IntKind.wrap_u8]; omega
          have HBO := Lib.hid hbo
          have hAlI : (A1.length : Int) ≤ 5000 := by omega
          clear hRV hbo hb hV hnn hlt
          go_enter Tryd.func47, Tryd.ntmps47
          go_wp2_with (first
            | (go_at_call 14; refine (HM.out _).mono ?_; rintro e w' ⟨⟨i, rfl, -, hi⟩, rfl⟩)
            | (go_at_call 35; refine (HCP.out _).mono ?_; rintro e w' ⟨rfl, rfl⟩)
            | (go_at_call 30; refine (HCU.out _ hmx).mono ?_; rintro e w' ⟨rfl, n, rfl⟩)
            | (go_at_call 64; refine (HBO.out _).mono ?_; rintro e w2 ⟨rfl, hb2⟩; have HB2 := Lib.hid ((below_drewN (Below.refl _ _) n).trans hb2); clear hb2))
          all_goals
            go_ret2
            exact ⟨by rw [← HV.out]; rfl, HB2.out⟩
  · rw [hm] at hmem hRV
    rw [if_pos rfl] at hRV
    have HT := Lib.hid (htab hm)
    have HM := Lib.hid hmem
    generalize (escB.getD (escL.idxOf c) 0).toNat = b at *
    have HV : Hid (.tuple #[.int .u8 (b : Int), .int .i64 2] = RV) := hRV
    clear hRV hmem htab hm hE
    go_enter Tryd.func47, Tryd.ntmps47
    go_upto_region 2 with (go_at_call 14; refine (HM.out _).mono ?_; rintro e w' ⟨⟨i, rfl, hi2, hi⟩, rfl⟩; have ht := HT.out i hi2; clear hi2)
    go_wp2_with fail
    go_ret2
    exact ⟨by rw [← HV.out]; rfl, Below.refl _ _⟩
end Go.Proofs.YtjpbbooeihdnfaaDoor
