/- What the document's decoder returns. -/
import Derived.Test.YtnjlhallkgacjaaRDecA
namespace Go.Proofs.Ytnjlhallkgacjaa
open Go.RowKit
section
variable (S : ByteArray) (s : List Nat) (w : World)
theorem zeros7 : (⟨#[0, 0, 0, 0, 0, 0, 0]⟩ : ByteArray).toList = [0, 0, 0, 0, 0, 0, 0] := by rw [Go.Lib.toList_data]
theorem set_ep {w wc : World} {q : Nat} {v0 v1 v2 v3 : Int} (h : RtAt wc q 23 ⟨v0, v1, v2, v3⟩) (hx : RtAt wc w.heap.size 23 Rt.none_) (hb : Below w.heap.size w wc) (hq : w.heap.size < q) :
    RtAt (wc.setCell ⟨q, 0, none⟩ (.int .i64 4611686018427387904)) q 23 ⟨4611686018427387904, v1, v2, v3⟩ ∧ RtAt (wc.setCell ⟨q, 0, none⟩ (.int .i64 4611686018427387904)) w.heap.size 23 Rt.none_ ∧ Below w.heap.size w (wc.setCell ⟨q, 0, none⟩ (.int .i64 4611686018427387904)) :=
  ⟨heap_setCell_same wc q 0 _ _ _ h, (heap_setCell_other wc ⟨q, 0, none⟩ w.heap.size _ (Nat.ne_of_lt hq)).trans hx, hb.setCell (Nat.le_of_lt hq) _⟩
set_option maxHeartbeats 1600000 in
theorem rdecode_far (hS : IsS S s) (hl : s.length = 128) (h : s ≠ zs128) (h8 : s.take 8 = s.drop 120) :
    Calls Try.prog 13 #[.string S] w fun e w' => e = .returned (.tuple #[(if may (toldR s) = true ∧ block (toldR s) = s then toldR s else Rt.none_).val, .int .i64 (if may (toldR s) = true ∧ block (toldR s) = s then 0 else 13)]) ∧ Below w.heap.size w w' := by
  have hsz : S.size = 128 := by rw [hS.size, hl]
  have e1 := hS.ext 0 8
  have e2 := hS.ext 120 128
  rw [List.drop_zero, Nat.sub_zero] at e1
  rw [List.take_of_length_le (by rw [List.length_drop]; omega)] at e2
  have hd := e1.yes e2 h8
  have e12 := hS.ext 12 16
  have e16 := hS.ext 16 20
  have e20 := hS.ext 20 24
  have e17 := hS.ext 1 8
  have z12 : ((s.drop 12).take (16 - 12)).length = 4 := by rw [List.length_take, List.length_drop]; omega
  have z16 : ((s.drop 16).take (20 - 16)).length = 4 := by rw [List.length_take, List.length_drop]; omega
  have z20 : ((s.drop 20).take (24 - 20)).length = 4 := by rw [List.length_take, List.length_drop]; omega
  have z8 : (s.take 8).length = 8 := by rw [List.length_take]; omega
  have V8 := Lib.hid (fun w => value_any _ _ w e1 (Or.inr z8))
  have V12 := Lib.hid (fun w => value_any _ _ w e12 (Or.inl z12))
  have V16 := Lib.hid (fun w => value_any _ _ w e16 (Or.inl z16))
  have V20 := Lib.hid (fun w => value_any _ _ w e20 (Or.inl z20))
  have v4 : ∀ l : List Nat, l.length = 4 → valR l = (val l : Int) := fun l h => by unfold valR; rw [if_neg (by omega)]
  rw [v4 _ z12] at V12
  rw [v4 _ z16] at V16
  rw [v4 _ z20] at V20
  have HS := Lib.hid hS
  have hix0 : ∀ w, (Instr.index 9 (.string S) (.int .i64 0)).run Try.prog w = .ok (.int .u8 ((s.getD 0 0 : Nat) : Int)) w := hS.index 0 (by omega)
  have hRv : toldR s = ⟨rEp s, (val ((s.drop 12).take (16 - 12)) : Int), (val ((s.drop 16).take (20 - 16)) : Int), (val ((s.drop 20).take (24 - 20)) : Int)⟩ := rfl
  have HZ7 : Hid (((S.extract 1 8).toList == [0, 0, 0, 0, 0, 0, 0]) = decide ((s.drop 1).take 7 = List.replicate 7 0)) := Lib.hid (by
    have hz : IsS ⟨#[0, 0, 0, 0, 0, 0, 0]⟩ (List.replicate 7 0) := ⟨by decide +kernel, dig_zeros 7⟩
    by_cases hq : (s.drop 1).take 7 = List.replicate 7 0
    · rw [decide_eq_true hq]; have h9 := e17.yes hz hq; rw [zeros7] at h9; exact h9
    · rw [decide_eq_false hq]; have h9 := e17.no hz hq; rw [zeros7] at h9; exact h9)
  obtain ⟨X8, hx8⟩ : ∃ X, S.extract 0 8 = X := ⟨_, rfl⟩
  obtain ⟨X12, hx12⟩ : ∃ X, S.extract 12 16 = X := ⟨_, rfl⟩
  obtain ⟨X16, hx16⟩ : ∃ X, S.extract 16 20 = X := ⟨_, rfl⟩
  obtain ⟨X20, hx20⟩ : ∃ X, S.extract 20 24 = X := ⟨_, rfl⟩
  obtain ⟨X17, hx17⟩ : ∃ X, S.extract 1 8 = X := ⟨_, rfl⟩
  obtain ⟨XL, hxL⟩ : ∃ X, S.extract 120 128 = X := ⟨_, rfl⟩
  rw [hx8, hxL] at hd
  rw [hx8] at V8
  rw [hx12] at V12
  rw [hx16] at V16
  rw [hx20] at V20
  rw [hx17] at HZ7
  have HTP : Hid (top s = (decide (s.getD 0 0 = 64) && decide ((s.drop 1).take 7 = List.replicate 7 0))) := Lib.hid rfl
  have HEP : Hid (rEp s = if top s = true then 4611686018427387904 else valR (s.take 8)) := Lib.hid rfl
  rw [hRv] at *
  clear h8 e1 e2 e12 e16 e20 e17 z12 z16 z20 z8 v4 hRv
  generalize val ((s.drop 12).take (16 - 12)) = v1 at *
  generalize val ((s.drop 16).take (20 - 16)) = v2 at *
  generalize val ((s.drop 20).take (24 - 20)) = v3 at *
  generalize valR (s.take 8) = v0 at *
  generalize rEp s = ep at *
  have HIX := Lib.hid hS.index
  have HLN := Lib.hid hl
  have HSZ := Lib.hid hsz
  have hnz : ((S.size : Int) != 128) = false := by rw [hsz]; rfl
  clear hS hl hsz
  obtain ⟨XR, hXR⟩ : ∃ XR, (if may ⟨ep, (v1 : Int), (v2 : Int), (v3 : Int)⟩ = true ∧ block ⟨ep, (v1 : Int), (v2 : Int), (v3 : Int)⟩ = s then (⟨ep, (v1 : Int), (v2 : Int), (v3 : Int)⟩ : Rt) else Rt.none_) = XR := ⟨_, rfl⟩
  obtain ⟨XE, hXE⟩ : ∃ XE : Int, (if may ⟨ep, (v1 : Int), (v2 : Int), (v3 : Int)⟩ = true ∧ block ⟨ep, (v1 : Int), (v2 : Int), (v3 : Int)⟩ = s then (0 : Int) else 13) = XE := ⟨_, rfl⟩
  have HXR := Lib.hid hXR
  have HXE := Lib.hid hXE
  rw [hXR, hXE]
  clear hXR hXE
  go_enter Try.func13, Try.ntmps13
  go_wp2_with fail
  have HBX : Hid (RtAt (w.alloc (.cells #[.int .i64 0, .int .i64 0, .int .i64 0, .int .i64 0] 23)) w.heap.size 23 Rt.none_) := Lib.hid (RtAt.new w Rt.none_ 23)
  have HB2 : Hid (Below w.heap.size w (w.alloc (.cells #[.int .i64 0, .int .i64 0, .int .i64 0, .int .i64 0] 23))) := Lib.hid ((Below.refl _ _).alloc (Nat.le_refl _) _)
  generalize w.alloc (.cells #[.int .i64 0, .int .i64 0, .int .i64 0, .int .i64 0] 23) = w2 at *
  clear hnz
  obtain ⟨N, hN⟩ : ∃ N, Hid (N = 128) := ⟨_, Lib.hid rfl⟩
  go_loop [4, 5] (fun zv iv => ∃ j : Nat, j ≤ 128 ∧ iv = .int .i64 (j : Int) ∧ zv = .bool (zer s j)) (fun _ i => N - (intOf i).toNat)
  case atStart => exact ⟨0, by omega, by go_num, rfl⟩
  case round =>
    obtain ⟨j, hj, rfl, rfl⟩ := hrel
    by_cases hlt : j < 128
    · have hix := HIX.out j (by rw [HLN.out]; exact hlt)
      have HNX : Hid (zer s (j + 1) = (zer s j && decide (s.getD j 0 = 0))) := Lib.hid rfl
      generalize s.getD j 0 = c at *
      have HLT := Lib.hid hlt
      have hI : (j : Int) < 128 := by omega
      clear HIX hlt hj
      cases hz : zer s j with
      | false =>
        rw [hz] at HNX
        clear hz
        go_wp2_with fail
        go_round
        case rel => exact ⟨j + 1, HLT.out, by go_num, by rw [HNX.out]; rfl⟩
        case measure => have := hN.out; have := HLT.out; simp [intOf]; omega
      | true =>
        rw [hz] at HNX
        clear hz
        by_cases hc : c = 0
        · have hb : ((c : Int) == 0) = true := by rw [beq_iff_eq]; omega
          have HE : Hid (zer s (j + 1) = true) := Lib.hid (by rw [HNX.out]; simp [hc])
          clear hc
          go_wp2_with fail
          go_round
          case rel => exact ⟨j + 1, HLT.out, by go_num, by rw [HE.out]⟩
          case measure => have := hN.out; have := HLT.out; simp [intOf]; omega
        · have hb : ((c : Int) == 0) = false := by rw [beq_eq_false_iff_ne]; omega
          have HE : Hid (zer s (j + 1) = false) := Lib.hid (by rw [HNX.out]; simp [hc])
          clear hc
          go_wp2_with fail
          go_round
          case rel => exact ⟨j + 1, HLT.out, by go_num, by rw [HE.out]⟩
          case measure => have := hN.out; have := HLT.out; simp [intOf]; omega
    · obtain rfl : j = 128 := by omega
      rw [zer_all s HLN.out]
      have hsz := HSZ.out
      clear hj hlt
      rw [decide_eq_false h]
      clear HIX h HLN
      go_wp2_with fail
      go_quiet (fail)
      have hbq : Below w2.heap.size w2 (w2.drewN nq) := below_drewN (Below.refl _ _) nq
      have HBX3 := Lib.hid (HBX.out.below hbq)
      have HB3 := Lib.hid (HB2.out.trans (Below.mono hbq HB2.out.size))
      clear hbq HBX HB2
      generalize w2.drewN nq = w3 at *
      go_upto_region 12 with fail
      go_cut [6] (fun v6 wx => ∃ q, v6 = .pointer (some ⟨q, 0, none⟩) ∧ Hid (RtAt wx q 23 ⟨v0, (v1 : Int), (v2 : Int), (v3 : Int)⟩ ∧ RtAt wx w.heap.size 23 Rt.none_ ∧ Below w.heap.size w wx ∧ w.heap.size < q))
      case first =>
        have HFIN : Hid (RtAt (w3.alloc (.cells #[.int .i64 v0, .int .i64 (v1 : Int), .int .i64 (v2 : Int), .int .i64 (v3 : Int)] 23)).drew w3.heap.size 23 ⟨v0, (v1 : Int), (v2 : Int), (v3 : Int)⟩ ∧ RtAt (w3.alloc (.cells #[.int .i64 v0, .int .i64 (v1 : Int), .int .i64 (v2 : Int), .int .i64 (v3 : Int)] 23)).drew w.heap.size 23 Rt.none_ ∧ Below w.heap.size w (w3.alloc (.cells #[.int .i64 v0, .int .i64 (v1 : Int), .int .i64 (v2 : Int), .int .i64 (v3 : Int)] 23)).drew ∧ w.heap.size < w3.heap.size) :=
          Lib.hid ⟨RtAt.new w3 ⟨v0, (v1 : Int), (v2 : Int), (v3 : Int)⟩ 23, (HBX3.out.below ((Below.refl _ _).alloc (Nat.le_refl _) _)).below (Below.refl _ _).drew, (HB3.out.alloc HB3.out.size _).drew, HBX3.out.lt⟩
        refine wp_region_any (by kernel_rfl) ?_
        refine wpAny_take (i := 0) (v := .string S) rfl (by kernel_rfl) (by kernel_rfl) (by kernel_rfl) (fun _ _ _ h => h) (Or.inl ⟨by kernel_rfl, fun w => by first | (go_simp; done) | (go_simp; rfl) | rfl⟩) ?_
        refine wpAny_take (i := 1) (v := .string X8) rfl (by kernel_rfl) (by kernel_rfl) (by kernel_rfl) (fun _ _ _ h => h) (Or.inl ⟨by kernel_rfl, fun w => by first | (go_simp; done) | (go_simp; rfl) | rfl⟩) ?_
        refine wpAny_take (i := 3) (v := .string S) rfl (by kernel_rfl) (by kernel_rfl) (by kernel_rfl) (fun _ _ _ h => h) (Or.inl ⟨by kernel_rfl, fun w => by first | (go_simp; done) | (go_simp; rfl) | rfl⟩) ?_
        refine wpAny_take (i := 4) (v := .string X12) rfl (by kernel_rfl) (by kernel_rfl) (by kernel_rfl) (fun _ _ _ h => h) (Or.inl ⟨by kernel_rfl, fun w => by first | (go_simp; done) | (go_simp; rfl) | rfl⟩) ?_
        refine wpAny_take (i := 6) (v := .string S) rfl (by kernel_rfl) (by kernel_rfl) (by kernel_rfl) (fun _ _ _ h => h) (Or.inl ⟨by kernel_rfl, fun w => by first | (go_simp; done) | (go_simp; rfl) | rfl⟩) ?_
        refine wpAny_take (i := 7) (v := .string X16) rfl (by kernel_rfl) (by kernel_rfl) (by kernel_rfl) (fun _ _ _ h => h) (Or.inl ⟨by kernel_rfl, fun w => by first | (go_simp; done) | (go_simp; rfl) | rfl⟩) ?_
        refine wpAny_take (i := 9) (v := .string S) rfl (by kernel_rfl) (by kernel_rfl) (by kernel_rfl) (fun _ _ _ h => h) (Or.inl ⟨by kernel_rfl, fun w => by first | (go_simp; done) | (go_simp; rfl) | rfl⟩) ?_
        refine wpAny_take (i := 10) (v := .string X20) rfl (by kernel_rfl) (by kernel_rfl) (by kernel_rfl) (fun _ _ _ h => h) (Or.inl ⟨by kernel_rfl, fun w => by first | (go_simp; done) | (go_simp; rfl) | rfl⟩) ?_
        refine wpAny_ready (rs := [2, 13]) (by kernel_rfl) (by simp) ?_
        refine AllReady.cons rfl (fun K hK => ?_) (AllReady.cons rfl (fun K hK => ?_) (AllReady.nil))
        · go_simp
          refine ((V8.out _)).mono ?_
          rintro e w7 ⟨rfl, rfl⟩
          go_simp
          refine hK _ _ ?_
          clear hK K
          refine wpAny_ready (rs := [5, 13]) (by kernel_rfl) (by simp) ?_
          refine AllReady.cons rfl (fun K hK => ?_) (AllReady.cons rfl (fun K hK => ?_) (AllReady.nil))
          · go_simp
            refine ((V12.out _)).mono ?_
            rintro e w7 ⟨rfl, rfl⟩
            go_simp
            refine hK _ _ ?_
            clear hK K
            refine wpAny_ready (rs := [8, 13]) (by kernel_rfl) (by simp) ?_
            refine AllReady.cons rfl (fun K hK => ?_) (AllReady.cons rfl (fun K hK => ?_) (AllReady.nil))
            · go_simp
              refine ((V16.out _)).mono ?_
              rintro e w7 ⟨rfl, rfl⟩
              go_simp
              refine hK _ _ ?_
              clear hK K
              refine wpAny_ready (rs := [11, 13]) (by kernel_rfl) (by simp) ?_
              refine AllReady.cons rfl (fun K hK => ?_) (AllReady.cons rfl (fun K hK => ?_) (AllReady.nil))
              · go_simp
                refine ((V20.out _)).mono ?_
                rintro e w7 ⟨rfl, rfl⟩
                go_simp
                refine hK _ _ ?_
                clear hK K
                refine wpAny_ready (rs := [12, 13]) (by kernel_rfl) (by simp) ?_
                refine AllReady.cons rfl (fun K hK => ?_) (AllReady.cons rfl (fun K hK => ?_) (AllReady.nil))
                · go_simp
                  refine hK _ _ ?_
                  clear hK K
                  refine wpAny_ready (rs := [13]) (by kernel_rfl) (by simp) ?_
                  refine AllReady.cons rfl (fun K hK => ?_) (AllReady.nil)
                  go_simp
                  refine hK _ _ ?_
                  clear hK K
                  refine wpAny_ready (rs := [14]) (by kernel_rfl) (by simp) ?_
                  refine AllReady.cons rfl (fun K hK => ?_) AllReady.nil
                  go_simp
                  refine hK _ _ ?_
                  clear hK K
                  refine wpAny_done (by kernel_rfl) ?_ _
                  go_wp2_with fail
                  go_meet
                  exact ⟨_, rfl, HFIN⟩
                · go_simp
                  refine hK _ _ ?_
                  clear hK K
                  refine wpAny_ready (rs := [12]) (by kernel_rfl) (by simp) ?_
                  refine AllReady.cons rfl (fun K hK => ?_) (AllReady.nil)
                  go_simp
                  refine hK _ _ ?_
                  clear hK K
                  refine wpAny_ready (rs := [14]) (by kernel_rfl) (by simp) ?_
                  refine AllReady.cons rfl (fun K hK => ?_) AllReady.nil
                  go_simp
                  refine hK _ _ ?_
                  clear hK K
                  refine wpAny_done (by kernel_rfl) ?_ _
                  go_wp2_with fail
                  go_meet
                  exact ⟨_, rfl, HFIN⟩
              · go_simp
                refine hK _ _ ?_
                clear hK K
                refine wpAny_ready (rs := [11]) (by kernel_rfl) (by simp) ?_
                refine AllReady.cons rfl (fun K hK => ?_) (AllReady.nil)
                go_simp
                refine ((V20.out _)).mono ?_
                rintro e w7 ⟨rfl, rfl⟩
                go_simp
                refine hK _ _ ?_
                clear hK K
                refine wpAny_ready (rs := [12]) (by kernel_rfl) (by simp) ?_
                refine AllReady.cons rfl (fun K hK => ?_) (AllReady.nil)
                go_simp
                refine hK _ _ ?_
                clear hK K
                refine wpAny_ready (rs := [14]) (by kernel_rfl) (by simp) ?_
                refine AllReady.cons rfl (fun K hK => ?_) AllReady.nil
                go_simp
                refine hK _ _ ?_
                clear hK K
                refine wpAny_done (by kernel_rfl) ?_ _
                go_wp2_with fail
                go_meet
                exact ⟨_, rfl, HFIN⟩
            · go_simp
              refine hK _ _ ?_
              clear hK K
              refine wpAny_ready (rs := [8]) (by kernel_rfl) (by simp) ?_
              refine AllReady.cons rfl (fun K hK => ?_) (AllReady.nil)
              go_simp
              refine ((V16.out _)).mono ?_
              rintro e w7 ⟨rfl, rfl⟩
              go_simp
              refine hK _ _ ?_
              clear hK K
              refine wpAny_ready (rs := [11]) (by kernel_rfl) (by simp) ?_
              refine AllReady.cons rfl (fun K hK => ?_) (AllReady.nil)
              go_simp
              refine ((V20.out _)).mono ?_
              rintro e w7 ⟨rfl, rfl⟩
              go_simp
              refine hK _ _ ?_
              clear hK K
              refine wpAny_ready (rs := [12]) (by kernel_rfl) (by simp) ?_
              refine AllReady.cons rfl (fun K hK => ?_) (AllReady.nil)
              go_simp
              refine hK _ _ ?_
              clear hK K
              refine wpAny_ready (rs := [14]) (by kernel_rfl) (by simp) ?_
              refine AllReady.cons rfl (fun K hK => ?_) AllReady.nil
              go_simp
              refine hK _ _ ?_
              clear hK K
              refine wpAny_done (by kernel_rfl) ?_ _
              go_wp2_with fail
              go_meet
              exact ⟨_, rfl, HFIN⟩
          · go_simp
            refine hK _ _ ?_
            clear hK K
            refine wpAny_ready (rs := [5]) (by kernel_rfl) (by simp) ?_
            refine AllReady.cons rfl (fun K hK => ?_) (AllReady.nil)
            go_simp
            refine ((V12.out _)).mono ?_
            rintro e w7 ⟨rfl, rfl⟩
            go_simp
            refine hK _ _ ?_
            clear hK K
            refine wpAny_ready (rs := [8]) (by kernel_rfl) (by simp) ?_
            refine AllReady.cons rfl (fun K hK => ?_) (AllReady.nil)
            go_simp
            refine ((V16.out _)).mono ?_
            rintro e w7 ⟨rfl, rfl⟩
            go_simp
            refine hK _ _ ?_
            clear hK K
            refine wpAny_ready (rs := [11]) (by kernel_rfl) (by simp) ?_
            refine AllReady.cons rfl (fun K hK => ?_) (AllReady.nil)
            go_simp
            refine ((V20.out _)).mono ?_
            rintro e w7 ⟨rfl, rfl⟩
            go_simp
            refine hK _ _ ?_
            clear hK K
            refine wpAny_ready (rs := [12]) (by kernel_rfl) (by simp) ?_
            refine AllReady.cons rfl (fun K hK => ?_) (AllReady.nil)
            go_simp
            refine hK _ _ ?_
            clear hK K
            refine wpAny_ready (rs := [14]) (by kernel_rfl) (by simp) ?_
            refine AllReady.cons rfl (fun K hK => ?_) AllReady.nil
            go_simp
            refine hK _ _ ?_
            clear hK K
            refine wpAny_done (by kernel_rfl) ?_ _
            go_wp2_with fail
            go_meet
            exact ⟨_, rfl, HFIN⟩
        · go_simp
          refine hK _ _ ?_
          clear hK K
          refine wpAny_ready (rs := [2]) (by kernel_rfl) (by simp) ?_
          refine AllReady.cons rfl (fun K hK => ?_) (AllReady.nil)
          go_simp
          refine ((V8.out _)).mono ?_
          rintro e w7 ⟨rfl, rfl⟩
          go_simp
          refine hK _ _ ?_
          clear hK K
          refine wpAny_ready (rs := [5]) (by kernel_rfl) (by simp) ?_
          refine AllReady.cons rfl (fun K hK => ?_) (AllReady.nil)
          go_simp
          refine ((V12.out _)).mono ?_
          rintro e w7 ⟨rfl, rfl⟩
          go_simp
          refine hK _ _ ?_
          clear hK K
          refine wpAny_ready (rs := [8]) (by kernel_rfl) (by simp) ?_
          refine AllReady.cons rfl (fun K hK => ?_) (AllReady.nil)
          go_simp
          refine ((V16.out _)).mono ?_
          rintro e w7 ⟨rfl, rfl⟩
          go_simp
          refine hK _ _ ?_
          clear hK K
          refine wpAny_ready (rs := [11]) (by kernel_rfl) (by simp) ?_
          refine AllReady.cons rfl (fun K hK => ?_) (AllReady.nil)
          go_simp
          refine ((V20.out _)).mono ?_
          rintro e w7 ⟨rfl, rfl⟩
          go_simp
          refine hK _ _ ?_
          clear hK K
          refine wpAny_ready (rs := [12]) (by kernel_rfl) (by simp) ?_
          refine AllReady.cons rfl (fun K hK => ?_) (AllReady.nil)
          go_simp
          refine hK _ _ ?_
          clear hK K
          refine wpAny_ready (rs := [14]) (by kernel_rfl) (by simp) ?_
          refine AllReady.cons rfl (fun K hK => ?_) AllReady.nil
          go_simp
          refine hK _ _ ?_
          clear hK K
          refine wpAny_done (by kernel_rfl) ?_ _
          go_wp2_with fail
          go_meet
          exact ⟨_, rfl, HFIN⟩
      case rest =>
        obtain ⟨q, rfl, hc⟩ := hcut
        have HQ := Lib.hid hc.out.1
        have HX := Lib.hid hc.out.2.1
        have HB := Lib.hid hc.out.2.2.1
        have hqn := hc.out.2.2.2
        clear hc HBX3 HB3 V8 V12 V16 V20 hx8 hx12 hx16 hx20 hxL hd
        go_upto_region 13 with fail
        go_cut [50] (fun v wx => v = .bool (top s) ∧ Hid (RtAt wx q 23 ⟨v0, (v1 : Int), (v2 : Int), (v3 : Int)⟩ ∧ RtAt wx w.heap.size 23 Rt.none_ ∧ Below w.heap.size w wx))
        case first =>
          by_cases h0 : s.getD 0 0 = 64
          · have hz7 := HZ7.out
            have HE : Hid (top s = decide ((s.drop 1).take 7 = List.replicate 7 0)) := Lib.hid (by rw [HTP.out, decide_eq_true h0, Bool.true_and])
            rw [h0] at hix0
            clear HTP HZ7 HEP
            generalize decide ((s.drop 1).take 7 = List.replicate 7 0) = z7 at *
            clear h0
            go_wp2_with fail
            go_meet
            exact ⟨by rw [HE.out], Lib.hid ⟨HQ.out, HX.out, HB.out⟩⟩
          · have hb : (((s.getD 0 0 : Nat) : Int) == 64) = false := by rw [beq_eq_false_iff_ne]; omega
            have HE : Hid (top s = false) := Lib.hid (by rw [HTP.out, decide_eq_false h0, Bool.false_and])
            clear HTP HZ7 HEP
            generalize s.getD 0 0 = c0 at *
            clear h0
            go_wp2_with fail
            go_meet
            exact ⟨by rw [HE.out], Lib.hid ⟨HQ.out, HX.out, HB.out⟩⟩
        case rest =>
        obtain ⟨rfl, hc2⟩ := hcut
        clear HQ HX HB hix0 hx17 HZ7 HTP
        have HQ := Lib.hid hc2.out.1
        have HX := Lib.hid hc2.out.2.1
        have HB := Lib.hid hc2.out.2.2
        clear hc2
        go_upto_if 50 with fail
        go_cut [] (fun wx => Hid (RtAt wx q 23 ⟨ep, (v1 : Int), (v2 : Int), (v3 : Int)⟩ ∧ RtAt wx w.heap.size 23 Rt.none_ ∧ Below w.heap.size w wx))
        case first =>
          cases ht : top s with
          | true =>
            have he : ep = 4611686018427387904 := by rw [HEP.out, if_pos ht]
            subst he
            have q0 := HQ.out.c0
            have qf := HQ.out.fz
            have HN := Lib.hid (set_ep HQ.out HX.out HB.out hqn)
            clear ht HEP HQ HX HB
            go_wp2_with fail
            go_meet
            exact HN
          | false =>
            have he : ep = v0 := by rw [HEP.out, if_neg (by simp [ht])]
            subst he
            clear ht HEP
            go_wp2_with fail
            go_meet
            exact Lib.hid ⟨HQ.out, HX.out, HB.out⟩
        case rest =>
          clear HQ HX HB HEP
          obtain ⟨hQ, hX, hB⟩ := hcut.out
          have HQ := Lib.hid hQ
          have HX := Lib.hid hX
          have HB := Lib.hid hB
          clear hQ hX hB hcut
          obtain ⟨r, hr⟩ : ∃ r : Rt, r = ⟨ep, (v1 : Int), (v2 : Int), (v3 : Int)⟩ := ⟨_, rfl⟩
          have HM := Lib.hid (fun w => rmay_any r w)
          have HBL := Lib.hid (fun w => block_any r w)
          rw [← hr] at HQ HXR HXE
          have q0 := HQ.out.c0
          have q1 := HQ.out.c1
          have q2 := HQ.out.c2
          have q3 := HQ.out.c3
          have HCL : Hid (Rt.val r = .agg #[.int .i64 r.ep, .int .i64 r.pg, .int .i64 r.dr, .int .i64 r.wd]) := Lib.hid rfl
          clear hr
          by_cases hm : may r = true
          · have hM2 : Mays r := may_yes hm
            rw [hm] at HM
            go_wp2_with fail
            refine (HM.out _).mono ?_
            rintro e w5 ⟨rfl, hb5⟩
            have HQ5 := Lib.hid (HQ.out.below hb5)
            have HX5 := Lib.hid (HX.out.below hb5)
            have HB5 := Lib.hid (HB.out.trans (Below.mono hb5 HB.out.size))
            clear hb5 HQ HX HB q0 q1 q2 q3
            have q0 := HQ5.out.c0
            have q1 := HQ5.out.c1
            have q2 := HQ5.out.c2
            have q3 := HQ5.out.c3
            go_wp2_with fail
            refine (HBL.out _ hM2).mono ?_
            rintro e w6 ⟨rfl, hb6⟩
            have HQ6 := Lib.hid (HQ5.out.below hb6)
            have HX6 := Lib.hid (HX5.out.below hb6)
            have HB6 := Lib.hid (HB5.out.trans (Below.mono hb6 HB5.out.size))
            clear hb6 HQ5 HX5 HB5 q0 q1 q2 q3
            have q0 := HQ6.out.c0
            have q1 := HQ6.out.c1
            have q2 := HQ6.out.c2
            have q3 := HQ6.out.c3
            by_cases hb : block r = s
            · have hq := (IsS.mk_ (block r) (block_dig r)).yes HS.out hb
              have hxe : XE = 0 := by rw [← HXE.out, if_pos ⟨hm, hb⟩]
              have hxr : XR = r := by rw [← HXR.out, if_pos ⟨hm, hb⟩]
              subst hxe hxr
              clear HXE HXR hb hm hM2 HM HBL
              generalize strB (block XR) = B at *
              have b0 := HX6.out.c0
              have b1 := HX6.out.c1
              have b2 := HX6.out.c2
              have b3 := HX6.out.c3
              have bf := HX6.out.fz
              go_wp2_with fail
              exact bodyPost_ret (v := .tuple #[.agg #[.int .i64 XR.ep, .int .i64 XR.pg, .int .i64 XR.dr, .int .i64 XR.wd], .int .i64 0]) (by simp [results, Try.results13, go_sem, b0, b1, b2, b3]) rfl ⟨rfl, (((HB6.out.setCell (Nat.le_refl _) _).setCell (Nat.le_refl _) _).setCell (Nat.le_refl _) _).setCell (Nat.le_refl _) _⟩
            · have hq := (IsS.mk_ (block r) (block_dig r)).no HS.out hb
              have hxe : XE = 13 := by rw [← HXE.out, if_neg (fun h => hb h.2)]
              have hxr : XR = Rt.none_ := by rw [← HXR.out, if_neg (fun h => hb h.2)]
              subst hxe hxr
              clear HXE HXR hb hm hM2 HM HBL
              generalize strB (block r) = B at *
              have b0 := HX6.out.c0
              have b1 := HX6.out.c1
              have b2 := HX6.out.c2
              have b3 := HX6.out.c3
              have bf := HX6.out.fz
              go_wp2_with fail
              exact bodyPost_ret (v := .tuple #[.agg #[.int .i64 0, .int .i64 0, .int .i64 0, .int .i64 0], .int .i64 13]) (by simp [results, Try.results13, go_sem, b0, b1, b2, b3]) rfl ⟨rfl, (((HB6.out.setCell (Nat.le_refl _) _).setCell (Nat.le_refl _) _).setCell (Nat.le_refl _) _).setCell (Nat.le_refl _) _⟩
          · have hm0 : may r = false := by simpa using hm
            rw [hm0] at HM
            have hxe : XE = 13 := by rw [← HXE.out, if_neg (by simp [hm0])]
            have hxr : XR = Rt.none_ := by rw [← HXR.out, if_neg (by simp [hm0])]
            subst hxe hxr
            clear HXE HXR
            go_wp2_with fail
            refine (HM.out _).mono ?_
            rintro e w5 ⟨rfl, hb5⟩
            have HQ5 := Lib.hid (HQ.out.below hb5)
            have HX5 := Lib.hid (HX.out.below hb5)
            have HB5 := Lib.hid (HB.out.trans (Below.mono hb5 HB.out.size))
            clear hb5 HQ HX HB q0 q1 q2 q3
            have q0 := HQ5.out.c0
            have q1 := HQ5.out.c1
            have q2 := HQ5.out.c2
            have q3 := HQ5.out.c3
            have b0 := HX5.out.c0
            have b1 := HX5.out.c1
            have b2 := HX5.out.c2
            have b3 := HX5.out.c3
            have bf := HX5.out.fz
            go_wp2_with fail
            exact bodyPost_ret (v := .tuple #[.agg #[.int .i64 0, .int .i64 0, .int .i64 0, .int .i64 0], .int .i64 13]) (by simp [results, Try.results13, go_sem, b0, b1, b2, b3]) rfl ⟨rfl, (((HB5.out.setCell (Nat.le_refl _) _).setCell (Nat.le_refl _) _).setCell (Nat.le_refl _) _).setCell (Nat.le_refl _) _⟩
/-- The document's decoder, for any string. -/
theorem rdecode_any (hS : IsS S s) : Calls Try.prog 13 #[.string S] w fun e w' => e = .returned (.tuple #[(decR s).val, .int .i64 (decE s)]) ∧ Below w.heap.size w w' := by
  by_cases hl : s.length = 128
  · by_cases hz : s = zs128
    · have hE : decE s = 5 := by unfold decE; rw [if_neg (by simp [hl]), if_pos hz]
      rw [hE, decR_no (by rw [hE]; omega)]
      exact rdecode_zeros S s w hS hl hz
    · by_cases h8 : s.take 8 = s.drop 120
      · obtain ⟨h1, h2, h3⟩ := dec_other hl hz h8 (toldR_or s hl hS.dig)
        have hf := rdecode_far S s w hS hl hz h8
        by_cases hm : may (toldR s) = true
        · by_cases hb : block (toldR s) = s
          · obtain ⟨h4, h5⟩ := h3 hm hb
            rw [h4, h5]
            rw [if_pos ⟨hm, hb⟩, if_pos ⟨hm, hb⟩] at hf
            exact hf
          · have hE := h2 hm hb
            rw [hE, decR_no (by rw [hE]; omega)]
            rw [if_neg (fun h => hb h.2), if_neg (fun h => hb h.2)] at hf
            exact hf
        · have hm0 : may (toldR s) = false := by simpa using hm
          have hE := h1 hm0
          rw [hE, decR_no (by rw [hE]; omega)]
          rw [if_neg (fun h => hm h.1), if_neg (fun h => hm h.1)] at hf
          exact hf
      · have hE : decE s = 4 := by unfold decE; rw [if_neg (by simp [hl]), if_neg hz, if_pos h8]
        rw [hE, decR_no (by rw [hE]; omega)]
        exact rdecode_torn S s w hS hl hz h8
  · have hE : decE s = 1 := by unfold decE; rw [if_pos hl]
    rw [hE, decR_no (by rw [hE]; omega)]
    exact rdecode_len S s w hS hl
end
end Go.Proofs.Ytnjlhallkgacjaa
