/- The law CrcSeals returns true for any bytes. -/
import Derived.Test.YtlmgipollfhpmaaRSeal
import Derived.RegionTactic
import Derived.Deep.RegionWith
import Derived.Deep.DeepCutAuto
namespace Go.Proofs.Ytlmgipollfhpmaa
open Go.ChangeShapes Go.WideShapes Go.ChangeAt Go.RowKit

set_option maxHeartbeats 400000 in
theorem seals_long (p : Option Addr) (n c : Nat) (w : World) (hn : 400 < n) (hm : n ≤ 140737488351232) :
    Calls Try.prog 4 #[.slice p n c] w fun e w' => e = .returned (.bool true) ∧ Below w.heap.size w w' := by
  have hd : decide ((400 : Int) < (n : Int)) = true := decide_eq_true (by omega)
  go_enter Try.func4, Try.ntmps4
  go_wp2_with fail
  refine (lives_any _).mono ?_
  rintro e w1 ⟨rfl, hb⟩
  have HB := Lib.hid hb
  clear hb
  go_wp2_with fail
  go_ret
  exact ⟨rfl, HB.out⟩

theorem dig_seal {bs : List Nat} (h : ∀ x ∈ bs, x < 256) : ∀ x ∈ bs ++ tailOf (more 0 bs), x < 256 := fun x hx => (List.mem_append.1 hx).elim (h x) fun h2 => by simp [tailOf] at h2; omega
/-- What was sealed, with its text. -/
theorem seal_ex (p : Option Addr) (n c : Nat) (bs : List Nat) (T : ByteArray) (w : World) (hm : n ≤ 140737488351232) (hT : Hid (str (bs ++ tailOf (more 0 bs)) = T)) (hB : Bys w p n bs) :
    Calls Try.prog 12 #[.slice p n c] w fun e w' => (∃ g, e = .returned (.slice (some ⟨g, 0, none⟩) (n + 4) (n + 4)) ∧ Bys w' (some ⟨g, 0, none⟩) (n + 4) (bs ++ tailOf (more 0 bs)) ∧ (convert 22 9 (.slice (some ⟨g, 0, none⟩) (n + 4) (n + 4))).run Try.prog w' = .ok (.string T) w') ∧ Below w.heap.size w w' :=
  (seal_any p n c bs w hm hB).mono fun e w' ⟨he, hrow, hb⟩ => by
    have hs := Bys.of_row hrow (dig_seal hB.dig)
    have hc := hs.conv (n + 4)
    rw [show strOfNums (List.map Int.ofNat (bs ++ tailOf (more 0 bs))) = T from hT.out] at hc
    exact ⟨⟨_, he, hs, hc⟩, hb⟩

set_option maxHeartbeats 1600000 in
theorem seals_small (p : Option Addr) (n c : Nat) (bs : List Nat) (w : World) (hn : n < 4) (hB : Bys w p n bs) :
    Calls Try.prog 4 #[.slice p n c] w fun e w' => e = .returned (.bool true) ∧ Below w.heap.size w w' := by
  have hd : decide ((400 : Int) < (n : Int)) = false := decide_eq_false (by omega)
  have hd4 : decide ((n : Int) < 4) = true := decide_eq_true (by omega)
  have HB := Lib.hid hB
  clear hB
  obtain ⟨T, HT⟩ : ∃ T, Hid (str (bs ++ tailOf (more 0 bs)) = T) := ⟨_, rfl⟩
  have HW := Lib.hid (Below.refl w.heap.size w)
  go_enter Try.func4, Try.ntmps4
  go_upto_region 3 with fail
  go_cut [14] (fun v wx => v = .bool false ∧ Below w.heap.size w wx)
  case first =>
    go_region_with (first
      | (go_at_call 12; refine (seal_ex p n c bs T _ (by omega) HT (by first | exact HB.out.below HW.out | exact HB.out.below HW.out.drew)).mono ?_; rintro e w1 ⟨⟨g, rfl, hs, hc⟩, hb⟩; have HS := Lib.hid hs; have HW := Lib.hid (by first | exact HW.out.trans (hb.mono HW.out.size) | exact HW.out.drew.trans (hb.mono HW.out.drew.size)); clear hs hb)
      | (go_at_call 13; refine (rseal_any p n c bs _ (by omega) (by first | exact HB.out.below HW.out | exact HB.out.below HW.out.drew)).mono ?_; rintro e w2 ⟨rfl, hb⟩; rw [HT.out]; (try have HS := Lib.hid (HS.out.below hb)); (try have hc := HS.out.conv (n + 4)); (try rw [show strOfNums (List.map Int.ofNat (bs ++ tailOf (more 0 bs))) = T from HT.out] at hc); have HW := Lib.hid (by first | exact HW.out.trans (hb.mono HW.out.size) | exact HW.out.drew.trans (hb.mono HW.out.drew.size)); clear hb))
    all_goals
      go_wp2_with fail
      go_meet
      exact ⟨rfl, by first | exact HW.out | exact HW.out.drew⟩
  case rest =>
    obtain ⟨rfl, hw⟩ := hcut
    have HW := Lib.hid hw
    clear hw
    go_wp2_with fail
    refine (open_short p n c _ hn).mono ?_
    rintro e w1 ⟨rfl, rfl⟩
    go_wp2_with fail
    go_region
    all_goals
      go_wp2_with fail
      refine (lives_any _).mono ?_
      rintro e w2 ⟨rfl, hb⟩
      have HZ := Lib.hid (HW.out.drew.trans (Below.mono hb HW.out.drew.size))
      clear hb
      go_wp2_with fail
      go_ret
    all_goals exact ⟨rfl, HZ.out⟩

theorem text_ne {m : Nat} {bs : List Nat} (hd : ∀ x ∈ bs, x < 256) (h : isSealed m bs = false) : ((str (bs.take m ++ tailOf (more 0 (bs.take m)))).toList == (str bs).toList) = false := by
  rw [beq_eq_false_iff_ne]
  intro he
  unfold str at he
  rw [Go.Lib.strOfNums_toList, Go.Lib.strOfNums_toList] at he
  have h2 := bytesOf_inj (dig_seal fun x hx => hd x (List.mem_of_mem_take hx)) hd he
  unfold isSealed at h
  have h3 := of_decide_eq_false h
  apply h3
  have h4 : bs.take m ++ bs.drop m = bs.take m ++ tailOf (more 0 (bs.take m)) := by rw [List.take_append_drop, h2]
  exact List.append_cancel_left h4
theorem text_eq {m : Nat} {bs : List Nat} (h : isSealed m bs = true) : str (bs.take m ++ tailOf (more 0 (bs.take m))) = str bs := by
  unfold isSealed at h
  rw [← of_decide_eq_true h, List.take_append_drop]

set_option maxHeartbeats 6400000 in
set_option maxRecDepth 20000 in
theorem seals_big (b o m c : Nat) (bs : List Nat) (w : World) (hn : m + 4 ≤ 400) (hnc : m + 4 ≤ c) (hcm : c ≤ 9223372036854775807) (hB : Bys w (some ⟨b, o, none⟩) (m + 4) bs) :
    Calls Try.prog 4 #[.slice (some ⟨b, o, none⟩) (m + 4) c] w fun e w' => e = .returned (.bool true) ∧ Below w.heap.size w w' := by
  have hd : decide ((400 : Int) < (m : Int) + 4) = false := decide_eq_false (by omega)
  have hd4 : decide ((m : Int) + 4 < 4) = false := decide_eq_false (by omega)
  have HB := Lib.hid hB
  clear hB
  obtain ⟨T, HT⟩ : ∃ T, Hid (str (bs ++ tailOf (more 0 bs)) = T) := ⟨_, rfl⟩
  have HW := Lib.hid (Below.refl w.heap.size w)
  go_enter Try.func4, Try.ntmps4
  go_upto_region 3 with fail
  go_cut [14] (fun v wx => v = .bool false ∧ Below w.heap.size w wx)
  case first =>
    go_region_with (first
      | (go_at_call 12; refine (seal_ex (some ⟨b, o, none⟩) (m + 4) c bs T _ (by omega) HT (by first | exact HB.out.below HW.out | exact HB.out.below HW.out.drew)).mono ?_; rintro e w1 ⟨⟨g, rfl, hs, hc⟩, hb⟩; have HS := Lib.hid hs; have HW := Lib.hid (by first | exact HW.out.trans (hb.mono HW.out.size) | exact HW.out.drew.trans (hb.mono HW.out.drew.size)); clear hs hb)
      | (go_at_call 13; refine (rseal_any (some ⟨b, o, none⟩) (m + 4) c bs _ (by omega) (by first | exact HB.out.below HW.out | exact HB.out.below HW.out.drew)).mono ?_; rintro e w2 ⟨rfl, hb⟩; rw [HT.out]; (try have HS := Lib.hid (HS.out.below hb)); (try have hc := HS.out.conv (m + 4 + 4)); (try rw [show strOfNums (List.map Int.ofNat (bs ++ tailOf (more 0 bs))) = T from HT.out] at hc); have HW := Lib.hid (by first | exact HW.out.trans (hb.mono HW.out.size) | exact HW.out.drew.trans (hb.mono HW.out.drew.size)); clear hb))
    all_goals
      go_wp2_with fail
      go_meet
      exact ⟨rfl, by first | exact HW.out | exact HW.out.drew⟩
  case rest =>
    obtain ⟨rfl, hw⟩ := hcut
    have HW := Lib.hid hw
    clear hw
    obtain ⟨X, HX⟩ : ∃ X, Hid (str bs = X) := ⟨_, rfl⟩
    obtain ⟨Y, HY⟩ : ∃ Y, Hid (str (bs.take m ++ tailOf (more 0 (bs.take m))) = Y) := ⟨_, rfl⟩
    cases hs : isSealed m bs with
    | false =>
      have HS := Lib.hid hs
      have hne : (Y.toList == X.toList) = false := by rw [← HX.out, ← HY.out]; exact text_ne HB.out.dig hs
      have HNE := Lib.hid hne
      clear hs hne
      go_wp2_with fail
      refine (open_no b o m c bs _ (by omega) hnc hcm (HB.out.below HW.out) HS.out).mono ?_
      rintro e w1 ⟨rfl, hb⟩
      have HW := Lib.hid (HW.out.trans (hb.mono HW.out.size))
      clear hb
      have hc := (HB.out.below HW.out.drew).conv c
      rw [show strOfNums (List.map Int.ofNat bs) = X from HX.out] at hc
      go_wp2_with fail
      have hw1 : IntKind.i64.wrap ((m : Int) + 4 - 4) = (m : Int) := by rw [IntKind.wrap_i64]; omega
      have hw2 : IntKind.i64.wrap (m : Int) = (m : Int) := by rw [IntKind.wrap_i64]; omega
      have hle : (m : Int) ≤ (m : Int) + 4 := by omega
      have hnm : ¬ c = m := by omega
      have hmc : m ≤ c := by omega
      refine wp_region_any (by kernel_rfl) ?_
      refine wpAny_take (i := 0) (v := .slice (some ⟨b, o, none⟩) (m + 4) c) rfl (by kernel_rfl) (by kernel_rfl) (by kernel_rfl) (fun _ _ _ h => h) (Or.inl ⟨by kernel_rfl, fun w => by go_simp⟩) ?_
      refine wpAny_take (i := 1) (v := .int .i64 ((m : Int) + 4)) rfl (by kernel_rfl) (by kernel_rfl) (by kernel_rfl) (fun _ _ _ h => h) (Or.inl ⟨by kernel_rfl, fun w => by go_simp⟩) ?_
      refine wpAny_take (i := 2) (v := .bool false) rfl (by kernel_rfl) (by kernel_rfl) (by kernel_rfl) (fun _ _ _ h => h) (Or.inl ⟨by kernel_rfl, fun w => by go_simp⟩) ?_
      refine wpAny_take (i := 3) (v := .bool false) rfl (by kernel_rfl) (by kernel_rfl) (by kernel_rfl) (fun _ _ _ h => h) (Or.inl ⟨by kernel_rfl, fun w => by go_simp⟩) ?_
      refine wpAny_take (i := 4) (v := .slice (some ⟨b, o, none⟩) (m + 4) c) rfl (by kernel_rfl) (by kernel_rfl) (by kernel_rfl) (fun _ _ _ h => h) (Or.inl ⟨by kernel_rfl, fun w => by go_simp⟩) ?_
      refine wpAny_take (i := 5) (v := .slice (some ⟨b, o, none⟩) (m + 4) c) rfl (by kernel_rfl) (by kernel_rfl) (by kernel_rfl) (fun _ _ _ h => h) (Or.inl ⟨by kernel_rfl, fun w => by go_simp⟩) ?_
      refine wpAny_take (i := 6) (v := .int .i64 ((m : Int) + 4)) rfl (by kernel_rfl) (by kernel_rfl) (by kernel_rfl) (fun _ _ _ h => h) (Or.inl ⟨by kernel_rfl, fun w => by go_simp⟩) ?_
      refine wpAny_take (i := 7) (v := .int .i64 (m : Int)) rfl (by kernel_rfl) (by kernel_rfl) (by kernel_rfl) (fun _ _ _ h => h) (Or.inl ⟨by kernel_rfl, fun w => by go_simp⟩) ?_
      refine wpAny_take (i := 8) (v := .slice (some ⟨b, o, none⟩) m c) rfl (by kernel_rfl) (by kernel_rfl) (by kernel_rfl) (fun _ _ _ h => h) (Or.inl ⟨by kernel_rfl, fun w => by go_simp⟩) ?_
      refine wpAny_take (i := 10) (v := .slice (some ⟨b, o, none⟩) (m + 4) c) rfl (by kernel_rfl) (by kernel_rfl) (by kernel_rfl) (fun _ _ _ h => h) (Or.inl ⟨by kernel_rfl, fun w => by go_simp⟩) ?_
      clear hw1 hw2
      refine wpAny_ready (rs := [9, 11]) (by kernel_rfl) (by simp) ?_
      refine AllReady.cons rfl (fun K hK => ?_) ?_
      · go_simp
        go_wp2_with (go_at_call 13; refine (rseal_any (some ⟨b, o, none⟩) m c (bs.take m) _ (by omega) ((HB.out.below HW.out.drew).take (by omega))).mono ?_; rintro e w2 ⟨rfl, hb⟩; rw [HY.out]; have HW2 := Lib.hid (HW.out.drew.trans (Below.mono hb HW.out.drew.size)); clear hb)
        clear hc
        have hc := (HB.out.below HW2.out).conv c
        rw [show strOfNums (List.map Int.ofNat bs) = X from HX.out] at hc
        refine wpAny_ready (rs := [11]) (by kernel_rfl) (by simp) ?_
        refine AllReady.cons rfl (fun K hK => ?_) AllReady.nil
        go_simp
        refine hK _ _ ?_
        clear hK K
        refine wpAny_ready (rs := [12]) (by kernel_rfl) (by simp) ?_
        refine AllReady.cons rfl (fun K hK => ?_) AllReady.nil
        have hne := HNE.out
        go_simp
        refine hK _ _ ?_
        clear hK K
        refine wpAny_ready (rs := [13]) (by kernel_rfl) (by simp) ?_
        refine AllReady.cons rfl (fun K hK => ?_) AllReady.nil
        go_simp
        refine hK _ _ ?_
        clear hK K
        refine wpAny_done (by kernel_rfl) ?_ _
        clear hne
        go_wp2_with fail
        refine (lives_any _).mono ?_
        rintro e w3 ⟨rfl, hb⟩
        have HZ := Lib.hid (HW2.out.trans (hb.mono HW2.out.size))
        clear hb
        go_wp2_with fail
        go_ret
        exact ⟨rfl, HZ.out⟩
      · refine AllReady.cons rfl (fun K hK => ?_) AllReady.nil
        go_simp
        refine hK _ _ ?_
        clear hK K hc
        refine wpAny_ready (rs := [9]) (by kernel_rfl) (by simp) ?_
        refine AllReady.cons rfl (fun K hK => ?_) AllReady.nil
        go_simp
        go_wp2_with (go_at_call 13; refine (rseal_any (some ⟨b, o, none⟩) m c (bs.take m) _ (by omega) ((HB.out.below HW.out.drew).take (by omega))).mono ?_; rintro e w2 ⟨rfl, hb⟩; rw [HY.out]; have HW2 := Lib.hid (HW.out.drew.trans (Below.mono hb HW.out.drew.size)); clear hb)
        refine wpAny_ready (rs := [12]) (by kernel_rfl) (by simp) ?_
        refine AllReady.cons rfl (fun K hK => ?_) AllReady.nil
        have hne := HNE.out
        go_simp
        refine hK _ _ ?_
        clear hK K
        refine wpAny_ready (rs := [13]) (by kernel_rfl) (by simp) ?_
        refine AllReady.cons rfl (fun K hK => ?_) AllReady.nil
        go_simp
        refine hK _ _ ?_
        clear hK K
        refine wpAny_done (by kernel_rfl) ?_ _
        clear hne
        go_wp2_with fail
        refine (lives_any _).mono ?_
        rintro e w3 ⟨rfl, hb⟩
        have HZ := Lib.hid (HW2.out.trans (hb.mono HW2.out.size))
        clear hb
        go_wp2_with fail
        go_ret
        exact ⟨rfl, HZ.out⟩
    | true =>
      have HS := Lib.hid hs
      have HXY : Hid (Y = X) := Lib.hid (by rw [← HX.out, ← HY.out]; exact text_eq hs)
      obtain ⟨Z, HZ0⟩ : ∃ Z, Hid (str (bs.take m) = Z) := ⟨_, rfl⟩
      rw [HXY.out] at HY
      clear hs HXY
      go_wp2_with fail
      refine (open_yes b o m c bs _ (by omega) hnc hcm (HB.out.below HW.out) HS.out).mono ?_
      rintro e w1 ⟨⟨g, rfl, hg, hx⟩, hb⟩
      have HXB := Lib.hid hx
      have HW := Lib.hid (HW.out.trans (hb.mono HW.out.size))
      clear hb hg hx
      have hc := (HB.out.below HW.out.drew).conv c
      rw [show strOfNums (List.map Int.ofNat bs) = X from HX.out] at hc
      go_wp2_with fail
      have hw1 : IntKind.i64.wrap ((m : Int) + 4 - 4) = (m : Int) := by rw [IntKind.wrap_i64]; omega
      have hw2 : IntKind.i64.wrap (m : Int) = (m : Int) := by rw [IntKind.wrap_i64]; omega
      have hle : (m : Int) ≤ (m : Int) + 4 := by omega
      have hnm : ¬ c = m := by omega
      have hmc : m ≤ c := by omega
      refine wp_region_any (by kernel_rfl) ?_
      refine wpAny_take (i := 0) (v := .slice (some ⟨b, o, none⟩) (m + 4) c) rfl (by kernel_rfl) (by kernel_rfl) (by kernel_rfl) (fun _ _ _ h => h) (Or.inl ⟨by kernel_rfl, fun w => by go_simp⟩) ?_
      refine wpAny_take (i := 1) (v := .int .i64 ((m : Int) + 4)) rfl (by kernel_rfl) (by kernel_rfl) (by kernel_rfl) (fun _ _ _ h => h) (Or.inl ⟨by kernel_rfl, fun w => by go_simp⟩) ?_
      refine wpAny_take (i := 2) (v := .bool false) rfl (by kernel_rfl) (by kernel_rfl) (by kernel_rfl) (fun _ _ _ h => h) (Or.inl ⟨by kernel_rfl, fun w => by go_simp⟩) ?_
      refine wpAny_take (i := 3) (v := .bool false) rfl (by kernel_rfl) (by kernel_rfl) (by kernel_rfl) (fun _ _ _ h => h) (Or.inl ⟨by kernel_rfl, fun w => by go_simp⟩) ?_
      refine wpAny_take (i := 4) (v := .slice (some ⟨b, o, none⟩) (m + 4) c) rfl (by kernel_rfl) (by kernel_rfl) (by kernel_rfl) (fun _ _ _ h => h) (Or.inl ⟨by kernel_rfl, fun w => by go_simp⟩) ?_
      refine wpAny_take (i := 5) (v := .slice (some ⟨b, o, none⟩) (m + 4) c) rfl (by kernel_rfl) (by kernel_rfl) (by kernel_rfl) (fun _ _ _ h => h) (Or.inl ⟨by kernel_rfl, fun w => by go_simp⟩) ?_
      refine wpAny_take (i := 6) (v := .int .i64 ((m : Int) + 4)) rfl (by kernel_rfl) (by kernel_rfl) (by kernel_rfl) (fun _ _ _ h => h) (Or.inl ⟨by kernel_rfl, fun w => by go_simp⟩) ?_
      refine wpAny_take (i := 7) (v := .int .i64 (m : Int)) rfl (by kernel_rfl) (by kernel_rfl) (by kernel_rfl) (fun _ _ _ h => h) (Or.inl ⟨by kernel_rfl, fun w => by go_simp⟩) ?_
      refine wpAny_take (i := 8) (v := .slice (some ⟨b, o, none⟩) m c) rfl (by kernel_rfl) (by kernel_rfl) (by kernel_rfl) (fun _ _ _ h => h) (Or.inl ⟨by kernel_rfl, fun w => by go_simp⟩) ?_
      refine wpAny_take (i := 10) (v := .slice (some ⟨b, o, none⟩) (m + 4) c) rfl (by kernel_rfl) (by kernel_rfl) (by kernel_rfl) (fun _ _ _ h => h) (Or.inl ⟨by kernel_rfl, fun w => by go_simp⟩) ?_
      clear hw1 hw2
      refine wpAny_ready (rs := [9, 11]) (by kernel_rfl) (by simp) ?_
      refine AllReady.cons rfl (fun K hK => ?_) ?_
      · go_simp
        go_wp2_with (go_at_call 13; refine (rseal_any (some ⟨b, o, none⟩) m c (bs.take m) _ (by omega) ((HB.out.below HW.out.drew).take (by omega))).mono ?_; rintro e w2 ⟨rfl, hb⟩; rw [HY.out]; have HW2 := Lib.hid (HW.out.drew.trans (Below.mono hb HW.out.drew.size)); have hb2 := Lib.hid ((Below.refl _ w1).drew.trans hb); clear hb)
        clear hc
        have hc := (HB.out.below HW2.out).conv c
        rw [show strOfNums (List.map Int.ofNat bs) = X from HX.out] at hc
        refine wpAny_ready (rs := [11]) (by kernel_rfl) (by simp) ?_
        refine AllReady.cons rfl (fun K hK => ?_) AllReady.nil
        go_simp
        refine hK _ _ ?_
        clear hK K hc
        refine wpAny_ready (rs := [12]) (by kernel_rfl) (by simp) ?_
        refine AllReady.cons rfl (fun K hK => ?_) AllReady.nil
        go_simp
        refine hK _ _ ?_
        clear hK K
        refine wpAny_ready (rs := [13]) (by kernel_rfl) (by simp) ?_
        refine AllReady.cons rfl (fun K hK => ?_) AllReady.nil
        go_simp
        refine hK _ _ ?_
        clear hK K
        refine wpAny_done (by kernel_rfl) ?_ _
        have HXX := Lib.hid (HXB.out.below hb2.out)
        clear HXB hb2
        have hcx := (HXX.out.below (Below.refl _ _).drew).conv m
        have hcb := ((HB.out.below HW2.out.drew).take (k := m) (by omega)).conv c
        rw [show strOfNums (List.map Int.ofNat (bs.take m)) = Z from HZ0.out] at hcx hcb
        have hw1 : IntKind.i64.wrap ((m : Int) + 4 - 4) = (m : Int) := by rw [IntKind.wrap_i64]; omega
        have hw2 : IntKind.i64.wrap (m : Int) = (m : Int) := by rw [IntKind.wrap_i64]; omega
        go_wp2_with fail
        refine wp_region_any (by kernel_rfl) ?_
        refine wpAny_take (i := 0) (v := .bool true) rfl (by kernel_rfl) (by kernel_rfl) (by kernel_rfl) (fun _ _ _ h => h) (Or.inl ⟨by kernel_rfl, fun w => by go_simp⟩) ?_
        refine wpAny_take (i := 1) (v := .bool true) rfl (by kernel_rfl) (by kernel_rfl) (by kernel_rfl) (fun _ _ _ h => h) (Or.inl ⟨by kernel_rfl, fun w => by go_simp⟩) ?_
        refine wpAny_take (i := 2) (v := .slice (some ⟨g, 0, none⟩) m m) rfl (by kernel_rfl) (by kernel_rfl) (by kernel_rfl) (fun _ _ _ h => h) (Or.inl ⟨by kernel_rfl, fun w => by go_simp⟩) ?_
        refine wpAny_take (i := 4) (v := .slice (some ⟨b, o, none⟩) (m + 4) c) rfl (by kernel_rfl) (by kernel_rfl) (by kernel_rfl) (fun _ _ _ h => h) (Or.inl ⟨by kernel_rfl, fun w => by go_simp⟩) ?_
        refine wpAny_take (i := 5) (v := .slice (some ⟨b, o, none⟩) (m + 4) c) rfl (by kernel_rfl) (by kernel_rfl) (by kernel_rfl) (fun _ _ _ h => h) (Or.inl ⟨by kernel_rfl, fun w => by go_simp⟩) ?_
        refine wpAny_take (i := 6) (v := .int .i64 ((m : Int) + 4)) rfl (by kernel_rfl) (by kernel_rfl) (by kernel_rfl) (fun _ _ _ h => h) (Or.inl ⟨by kernel_rfl, fun w => by go_simp⟩) ?_
        refine wpAny_take (i := 7) (v := .int .i64 (m : Int)) rfl (by kernel_rfl) (by kernel_rfl) (by kernel_rfl) (fun _ _ _ h => h) (Or.inl ⟨by kernel_rfl, fun w => by go_simp⟩) ?_
        refine wpAny_take (i := 8) (v := .slice (some ⟨b, o, none⟩) m c) rfl (by kernel_rfl) (by kernel_rfl) (by kernel_rfl) (fun _ _ _ h => h) (Or.inl ⟨by kernel_rfl, fun w => by go_simp⟩) ?_
        clear hw1 hw2
        refine wpAny_ready (rs := [3, 9]) (by kernel_rfl) (by simp) ?_
        refine AllReady.cons rfl (fun K hK => ?_) (AllReady.cons rfl (fun K hK => ?_) AllReady.nil)
        · go_simp
          refine hK _ _ ?_
          clear hK K
          refine wpAny_ready (rs := [9]) (by kernel_rfl) (by simp) ?_
          refine AllReady.cons rfl (fun K hK => ?_) AllReady.nil
          go_simp
          refine hK _ _ ?_
          clear hK K hcx hcb
          refine wpAny_take (i := 10) (v := .bool true) rfl (by kernel_rfl) (by kernel_rfl) (by kernel_rfl) (fun _ _ _ h => h) (Or.inl ⟨by kernel_rfl, fun w => by go_simp⟩) ?_
          refine wpAny_take (i := 11) (v := .bool true) rfl (by kernel_rfl) (by kernel_rfl) (by kernel_rfl) (fun _ _ _ h => h) (Or.inl ⟨by kernel_rfl, fun w => by go_simp⟩) ?_
          refine wpAny_take (i := 12) (v := .bool true) rfl (by kernel_rfl) (by kernel_rfl) (by kernel_rfl) (fun _ _ _ h => h) (Or.inl ⟨by kernel_rfl, fun w => by go_simp⟩) ?_
          refine wpAny_ready (rs := [13]) (by kernel_rfl) (by simp) ?_
          refine AllReady.cons rfl (fun K hK => ?_) AllReady.nil
          go_simp
          go_wp2_with (go_at_call 8; refine (lives_any _).mono ?_; rintro e w3 ⟨rfl, hb⟩; have HZ := Lib.hid (HW2.out.drew.trans (Below.mono hb HW2.out.drew.size)); clear hb)
          refine wpAny_take (i := 14) (v := .bool true) rfl (by kernel_rfl) (by kernel_rfl) (by kernel_rfl) (fun _ _ _ h => h) (Or.inl ⟨by kernel_rfl, fun w => by go_simp⟩) ?_
          refine wpAny_ready (rs := [15]) (by kernel_rfl) (by simp) ?_
          refine AllReady.cons rfl (fun K hK => ?_) AllReady.nil
          go_simp
          refine hK _ _ ?_
          clear hK K
          refine wpAny_done (by kernel_rfl) ?_ _
          go_wp2_with fail
          go_ret
          exact ⟨rfl, HZ.out⟩
        · go_simp
          refine hK _ _ ?_
          clear hK K
          refine wpAny_ready (rs := [3]) (by kernel_rfl) (by simp) ?_
          refine AllReady.cons rfl (fun K hK => ?_) AllReady.nil
          go_simp
          refine hK _ _ ?_
          clear hK K hcx hcb
          refine wpAny_take (i := 10) (v := .bool true) rfl (by kernel_rfl) (by kernel_rfl) (by kernel_rfl) (fun _ _ _ h => h) (Or.inl ⟨by kernel_rfl, fun w => by go_simp⟩) ?_
          refine wpAny_take (i := 11) (v := .bool true) rfl (by kernel_rfl) (by kernel_rfl) (by kernel_rfl) (fun _ _ _ h => h) (Or.inl ⟨by kernel_rfl, fun w => by go_simp⟩) ?_
          refine wpAny_take (i := 12) (v := .bool true) rfl (by kernel_rfl) (by kernel_rfl) (by kernel_rfl) (fun _ _ _ h => h) (Or.inl ⟨by kernel_rfl, fun w => by go_simp⟩) ?_
          refine wpAny_ready (rs := [13]) (by kernel_rfl) (by simp) ?_
          refine AllReady.cons rfl (fun K hK => ?_) AllReady.nil
          go_simp
          go_wp2_with (go_at_call 8; refine (lives_any _).mono ?_; rintro e w3 ⟨rfl, hb⟩; have HZ := Lib.hid (HW2.out.drew.trans (Below.mono hb HW2.out.drew.size)); clear hb)
          refine wpAny_take (i := 14) (v := .bool true) rfl (by kernel_rfl) (by kernel_rfl) (by kernel_rfl) (fun _ _ _ h => h) (Or.inl ⟨by kernel_rfl, fun w => by go_simp⟩) ?_
          refine wpAny_ready (rs := [15]) (by kernel_rfl) (by simp) ?_
          refine AllReady.cons rfl (fun K hK => ?_) AllReady.nil
          go_simp
          refine hK _ _ ?_
          clear hK K
          refine wpAny_done (by kernel_rfl) ?_ _
          go_wp2_with fail
          go_ret
          exact ⟨rfl, HZ.out⟩
      · refine AllReady.cons rfl (fun K hK => ?_) AllReady.nil
        go_simp
        refine hK _ _ ?_
        clear hK K hc
        refine wpAny_ready (rs := [9]) (by kernel_rfl) (by simp) ?_
        refine AllReady.cons rfl (fun K hK => ?_) AllReady.nil
        go_simp
        go_wp2_with (go_at_call 13; refine (rseal_any (some ⟨b, o, none⟩) m c (bs.take m) _ (by omega) ((HB.out.below HW.out.drew).take (by omega))).mono ?_; rintro e w2 ⟨rfl, hb⟩; rw [HY.out]; have HW2 := Lib.hid (HW.out.drew.trans (Below.mono hb HW.out.drew.size)); have hb2 := Lib.hid ((Below.refl _ w1).drew.trans hb); clear hb)
        refine wpAny_ready (rs := [12]) (by kernel_rfl) (by simp) ?_
        refine AllReady.cons rfl (fun K hK => ?_) AllReady.nil
        go_simp
        refine hK _ _ ?_
        clear hK K
        refine wpAny_ready (rs := [13]) (by kernel_rfl) (by simp) ?_
        refine AllReady.cons rfl (fun K hK => ?_) AllReady.nil
        go_simp
        refine hK _ _ ?_
        clear hK K
        refine wpAny_done (by kernel_rfl) ?_ _
        have HXX := Lib.hid (HXB.out.below hb2.out)
        clear HXB hb2
        have hcx := (HXX.out.below (Below.refl _ _).drew).conv m
        have hcb := ((HB.out.below HW2.out.drew).take (k := m) (by omega)).conv c
        rw [show strOfNums (List.map Int.ofNat (bs.take m)) = Z from HZ0.out] at hcx hcb
        have hw1 : IntKind.i64.wrap ((m : Int) + 4 - 4) = (m : Int) := by rw [IntKind.wrap_i64]; omega
        have hw2 : IntKind.i64.wrap (m : Int) = (m : Int) := by rw [IntKind.wrap_i64]; omega
        go_wp2_with fail
        refine wp_region_any (by kernel_rfl) ?_
        refine wpAny_take (i := 0) (v := .bool true) rfl (by kernel_rfl) (by kernel_rfl) (by kernel_rfl) (fun _ _ _ h => h) (Or.inl ⟨by kernel_rfl, fun w => by go_simp⟩) ?_
        refine wpAny_take (i := 1) (v := .bool true) rfl (by kernel_rfl) (by kernel_rfl) (by kernel_rfl) (fun _ _ _ h => h) (Or.inl ⟨by kernel_rfl, fun w => by go_simp⟩) ?_
        refine wpAny_take (i := 2) (v := .slice (some ⟨g, 0, none⟩) m m) rfl (by kernel_rfl) (by kernel_rfl) (by kernel_rfl) (fun _ _ _ h => h) (Or.inl ⟨by kernel_rfl, fun w => by go_simp⟩) ?_
        refine wpAny_take (i := 4) (v := .slice (some ⟨b, o, none⟩) (m + 4) c) rfl (by kernel_rfl) (by kernel_rfl) (by kernel_rfl) (fun _ _ _ h => h) (Or.inl ⟨by kernel_rfl, fun w => by go_simp⟩) ?_
        refine wpAny_take (i := 5) (v := .slice (some ⟨b, o, none⟩) (m + 4) c) rfl (by kernel_rfl) (by kernel_rfl) (by kernel_rfl) (fun _ _ _ h => h) (Or.inl ⟨by kernel_rfl, fun w => by go_simp⟩) ?_
        refine wpAny_take (i := 6) (v := .int .i64 ((m : Int) + 4)) rfl (by kernel_rfl) (by kernel_rfl) (by kernel_rfl) (fun _ _ _ h => h) (Or.inl ⟨by kernel_rfl, fun w => by go_simp⟩) ?_
        refine wpAny_take (i := 7) (v := .int .i64 (m : Int)) rfl (by kernel_rfl) (by kernel_rfl) (by kernel_rfl) (fun _ _ _ h => h) (Or.inl ⟨by kernel_rfl, fun w => by go_simp⟩) ?_
        refine wpAny_take (i := 8) (v := .slice (some ⟨b, o, none⟩) m c) rfl (by kernel_rfl) (by kernel_rfl) (by kernel_rfl) (fun _ _ _ h => h) (Or.inl ⟨by kernel_rfl, fun w => by go_simp⟩) ?_
        clear hw1 hw2
        refine wpAny_ready (rs := [3, 9]) (by kernel_rfl) (by simp) ?_
        refine AllReady.cons rfl (fun K hK => ?_) (AllReady.cons rfl (fun K hK => ?_) AllReady.nil)
        · go_simp
          refine hK _ _ ?_
          clear hK K
          refine wpAny_ready (rs := [9]) (by kernel_rfl) (by simp) ?_
          refine AllReady.cons rfl (fun K hK => ?_) AllReady.nil
          go_simp
          refine hK _ _ ?_
          clear hK K hcx hcb
          refine wpAny_take (i := 10) (v := .bool true) rfl (by kernel_rfl) (by kernel_rfl) (by kernel_rfl) (fun _ _ _ h => h) (Or.inl ⟨by kernel_rfl, fun w => by go_simp⟩) ?_
          refine wpAny_take (i := 11) (v := .bool true) rfl (by kernel_rfl) (by kernel_rfl) (by kernel_rfl) (fun _ _ _ h => h) (Or.inl ⟨by kernel_rfl, fun w => by go_simp⟩) ?_
          refine wpAny_take (i := 12) (v := .bool true) rfl (by kernel_rfl) (by kernel_rfl) (by kernel_rfl) (fun _ _ _ h => h) (Or.inl ⟨by kernel_rfl, fun w => by go_simp⟩) ?_
          refine wpAny_ready (rs := [13]) (by kernel_rfl) (by simp) ?_
          refine AllReady.cons rfl (fun K hK => ?_) AllReady.nil
          go_simp
          go_wp2_with (go_at_call 8; refine (lives_any _).mono ?_; rintro e w3 ⟨rfl, hb⟩; have HZ := Lib.hid (HW2.out.drew.trans (Below.mono hb HW2.out.drew.size)); clear hb)
          refine wpAny_take (i := 14) (v := .bool true) rfl (by kernel_rfl) (by kernel_rfl) (by kernel_rfl) (fun _ _ _ h => h) (Or.inl ⟨by kernel_rfl, fun w => by go_simp⟩) ?_
          refine wpAny_ready (rs := [15]) (by kernel_rfl) (by simp) ?_
          refine AllReady.cons rfl (fun K hK => ?_) AllReady.nil
          go_simp
          refine hK _ _ ?_
          clear hK K
          refine wpAny_done (by kernel_rfl) ?_ _
          go_wp2_with fail
          go_ret
          exact ⟨rfl, HZ.out⟩
        · go_simp
          refine hK _ _ ?_
          clear hK K
          refine wpAny_ready (rs := [3]) (by kernel_rfl) (by simp) ?_
          refine AllReady.cons rfl (fun K hK => ?_) AllReady.nil
          go_simp
          refine hK _ _ ?_
          clear hK K hcx hcb
          refine wpAny_take (i := 10) (v := .bool true) rfl (by kernel_rfl) (by kernel_rfl) (by kernel_rfl) (fun _ _ _ h => h) (Or.inl ⟨by kernel_rfl, fun w => by go_simp⟩) ?_
          refine wpAny_take (i := 11) (v := .bool true) rfl (by kernel_rfl) (by kernel_rfl) (by kernel_rfl) (fun _ _ _ h => h) (Or.inl ⟨by kernel_rfl, fun w => by go_simp⟩) ?_
          refine wpAny_take (i := 12) (v := .bool true) rfl (by kernel_rfl) (by kernel_rfl) (by kernel_rfl) (fun _ _ _ h => h) (Or.inl ⟨by kernel_rfl, fun w => by go_simp⟩) ?_
          refine wpAny_ready (rs := [13]) (by kernel_rfl) (by simp) ?_
          refine AllReady.cons rfl (fun K hK => ?_) AllReady.nil
          go_simp
          go_wp2_with (go_at_call 8; refine (lives_any _).mono ?_; rintro e w3 ⟨rfl, hb⟩; have HZ := Lib.hid (HW2.out.drew.trans (Below.mono hb HW2.out.drew.size)); clear hb)
          refine wpAny_take (i := 14) (v := .bool true) rfl (by kernel_rfl) (by kernel_rfl) (by kernel_rfl) (fun _ _ _ h => h) (Or.inl ⟨by kernel_rfl, fun w => by go_simp⟩) ?_
          refine wpAny_ready (rs := [15]) (by kernel_rfl) (by simp) ?_
          refine AllReady.cons rfl (fun K hK => ?_) AllReady.nil
          go_simp
          refine hK _ _ ?_
          clear hK K
          refine wpAny_done (by kernel_rfl) ?_ _
          go_wp2_with fail
          go_ret
          exact ⟨rfl, HZ.out⟩

theorem seals_walk (p : Option Addr) (n c : Nat) (bs : List Nat) (w : World) (hB : Bys w p n bs) (hn : n ≤ c) (hc : c ≤ 140737488351232) :
    Calls Try.prog 4 #[.slice p n c] w fun e w' => e = .returned (.bool true) ∧ Below w.heap.size w w' := by
  by_cases h : 400 < n
  · exact seals_long p n c w h (by omega)
  · by_cases h4 : n < 4
    · exact seals_small p n c bs w h4 hB
    · obtain ⟨m, rfl⟩ : ∃ m, n = m + 4 := ⟨n - 4, by omega⟩
      obtain ⟨b, o, rfl, _⟩ := hB.at (by omega)
      exact seals_big b o m c bs w (by omega) hn (by omega) hB

set_option maxRecDepth 100000 in
theorem seals_lifted (os : Os) (started : os.Started) (H : Type) (enc : TypeId × Value → H) :
    ReturnsInHanded {} Try.checked os 4 .any (fun w args => Rows.crcSealsSpec.pre enc Try.prog Try.f4 [] false w args ∧ sizedMet enc Try.prog Try.f4 (OpenSpec.ofChange Rows.crcSealsSpec) false w args)
      (Rows.crcSealsSpec.post enc Try.prog Try.f4 false true false false) := by
  refine returnsInHanded_of_change_sized (C := Try.checked) own started (by kernel_rfl) Try.func4
    (ChangeSpec.witness6 (enc := enc) (C := Try.checked) false ⟨#[], #[.slice none 0 0], []⟩ 8 (by kernel_rfl) (by kernel_rfl) (by kernel_rfl) (by kernel_rfl)) ?_
  intro W base args ds gs before hval0 hW _ hsz0 _
  have hval : ∀ (j : Nat) t v, Try.f4.params[j]? = some t → args[j]? = some v → Value.okWide Try.prog W .any base t v := hval0
  have hlt := fun x hx => hW.lt (p := x) hx
  have hW' := hW
  obtain ⟨p, q, hA0, hV, rfl, hfz, hnd⟩ := hW
  have hA : DataW.TrodAll enc Try.prog W 0 (fun _ => true) true Try.f4.params.toList args.toList ds p := hA0
  have hsz : (DataW.weightsEach Try.prog (Try.f4.params.toList ++ Rows.crcSealsSpec.plain.varTypes Try.prog) (ds ++ gs)).all (· ≤ reachBytes) = true := hsz0
  rw [Try.params4] at hA hval hsz
  obtain ⟨v0, vs0, d0, ds0, p0, q0, hargs, rfl, rfl, h0, r0⟩ := trodAll_cons hA
  obtain ⟨rfl, rfl, rfl⟩ := trodAll_nil r0
  obtain rfl : args = #[v0] := by cases args; simp_all
  obtain ⟨rfl, rfl⟩ := trodVars_none hV
  obtain ⟨a0, n0, c0, b0, rfl, hb0, hn0, hc0⟩ := open_bys (hval 0 22 v0 rfl rfl) h0 (fun el sp e => sized_slice hsz (j := 0) rfl (by rw [← e]; rfl) Try.underlying22)
  clear hA0 hval0
  simp only [List.append_nil] at hW'
  refine (seals_walk a0 n0 c0 b0 W hb0 hn0 hc0).mono fun e W' ⟨he, hg⟩ => ?_
  subst he
  exact ⟨_, rfl, law_post hW' (fun _ _ _ => (trodAll_cons_mk (shut_bool Try.underlying4 _) trodAll_mk0)) (trodAll_cons_mk (Below.trod laidOut (by kernel_rfl) (by decide +kernel) h0 hg (fun x hx => hlt x (by simp [hx]))) trodAll_mk0) rfl (by simp) hg⟩

theorem seals_holds : Rows.CrcSealsSaid :=
  OpenClaim.holds_of_wide 4 Try.f4 rfl rfl rfl rfl rfl rfl rfl ⟨rfl, rfl, rfl, rfl, rfl⟩ rfl rfl rfl rfl rfl (by kernel_rfl) Try.func4 (by kernel_rfl)
    (of_decide_eq_true (by kernel_rfl)) (by unfold Func.isWrapper; first | (rw [if_pos (by decide +kernel)]; kernel_rfl) | (rw [if_neg (by decide +kernel)]; exact ⟨rfl, rfl⟩))
    (fun os started H enc _ => seals_lifted os started H enc)
#print axioms seals_holds

end Go.Proofs.Ytlmgipollfhpmaa
