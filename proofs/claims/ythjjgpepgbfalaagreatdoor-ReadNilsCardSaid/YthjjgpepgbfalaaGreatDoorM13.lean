/- Texts XLD5 to XLD7 of this seat, laid into one. -/
import Derived.Shelf.Strings.SlTrimAscii
import Derived.Test.YthjjgpepgbfalaaGreatDoorM12
set_option linter.unusedVariables false
set_option linter.unusedSimpArgs false
set_option linter.constructorNameAsVariable false
section
/-! The scanner takes a word. -/
set_option maxRecDepth 20000
set_option linter.unusedSimpArgs false
set_option linter.unusedVariables false
namespace Go.Proofs.YthjjgpepgbfalaaGreatDoor.Lx
open Go.RowKit

theorem wsz_le (L : List UInt8) : wsz L ≤ L.length := by
  unfold wsz pre
  have h1 : wordK L ≤ L.length := by unfold wordK; split <;> omega
  have h2 := (List.takeWhile_sublist (l := L.drop (wordK L)) inW).length_le
  rw [List.length_drop] at h2
  omega
section
variable {w w' : World} {B b a : Nat} {S : ByteArray} {v : Value} {tight : Bool} {l : List (Tk × Nat)}
set_option maxHeartbeats 3200000 in
theorem Scn.word (h : Scn w B b S a v tight l) (hE : Env w) (hS : S.size ≤ 5000) (ha : a < S.size) (hl : l.length ≤ a) :
    Calls Tryz.prog 94 #[.pointer (some ⟨b, 0, none⟩)] w fun e w' => StR w w' B b S a l (wrdM ((tl S).drop a)) e := by
  obtain ⟨⟨c0, c1, c2, c3⟩, fz⟩ := h.cells
  have HH := Lib.hid h
  obtain ⟨R, hR⟩ : ∃ R, S.extract a S.size = R := ⟨_, rfl⟩
  have hRt : tl R = (tl S).drop a := by rw [← hR, tl_from]
  have hxl : R.size = S.size - a := by rw [← tl_len, hRt, List.length_drop, tl_len]
  rw [← hRt]
  have hws := fun w => wordSize_any R w (by omega)
  obtain ⟨n, hn⟩ : ∃ n, wsz (tl R) = n := ⟨_, rfl⟩
  have hnR : n ≤ R.size := by rw [← hn, ← tl_len]; exact wsz_le _
  rw [hn] at hws
  obtain ⟨W, hW⟩ : ∃ W, R.extract 0 n = W := ⟨_, rfl⟩
  have hWt : tl W = (tl R).take n := by rw [← hW, tl_to]
  have hWl : W.size = n := by rw [← tl_len, hWt, List.length_take, tl_len]; omega
  obtain ⟨RQ, hRQ⟩ : ∃ RQ, wrdM (tl R) = RQ := ⟨_, rfl⟩
  rw [hRQ]
  unfold wrdM at hRQ
  rw [hn, ← hWt] at hRQ
  have hwo := fun w hE => wordOf_any W w hE (by omega)
  have hhb := fun w => highByte_any W w (by omega)
  obtain ⟨⟨⟨tk, tn, ts⟩, e0⟩, hM⟩ : ∃ M, wordM (tl W) = M := ⟨_, rfl⟩
  rw [hM] at hwo hRQ
  dsimp only at hRQ
  unfold askV tkC at hwo
  dsimp only at hwo
  obtain ⟨T, hT⟩ : ∃ T : ByteArray, T = ⟨ts.toArray⟩ := ⟨_, rfl⟩
  rw [← hT] at hwo
  have HWO := Lib.hid hwo
  have HWS := Lib.hid hws
  have haI : (a : Int) < (S.size : Int) := by omega
  have hSI : (S.size : Int) ≤ 5000 := by omega
  have hnI : (n : Int) ≤ (R.size : Int) := by omega
  have HAN : Hid (a + n ≤ S.size) := Lib.hid (by omega)
  have hlen : ((tl W).length : Nat) = n := by rw [tl_len]; exact hWl
  have HEW := Lib.hid hE
  have hb0 := fun w1 : World => alloc_below w1 (.cells #[.int .i64 (tk : Int), .int .i64 tn, .string T, .int .i64 0] 71)
  have HB0 := Lib.hid hb0
  clear hb0
  have HRN := Lib.hid hnR
  have HWL := Lib.hid hWl
  have HTT := Lib.hid hT
  rw [hlen] at hRQ
  clear h hE hwo hws hn hM hRt hWt hxl hlen fz hWl hT hnR
  by_cases h0 : e0 = 0
  · subst h0
    rw [if_neg (by decide)] at hRQ
    cases hq : hiB (tl W) with
    | some j =>
      rw [hq] at hRQ
      unfold hbV at hhb
      rw [hq] at hhb
      have HHB := Lib.hid hhb
      have HRQ : Hid (St.err j 4 = RQ) := hRQ
      have hj : j < n := by
        obtain ⟨h1, _⟩ := List.findIdx?_eq_some_iff_getElem.1 hq
        rw [tl_len, HWL.out] at h1; exact h1
      have hjI : (a : Int) + (j : Int) ≤ 5000 := by have := HAN.out; omega
      clear hRQ hhb hq
      go_enter Tryz.func94, Tryz.ntmps94
      go_wp2_with fail
      go_quiet (fail)
      have HS1 := Lib.hid (HH.out.below (below_drewN (Below.refl _ _) nq))
      have HB1 : Hid (Below w.heap.size w (w.drewN nq)) := Lib.hid (below_drewN (Below.refl _ _) nq)
      generalize w.drewN nq = w1 at *
      clear c0 c1 c2 c3
      go_upto_region 4 with (first
        | (go_at_call 119; refine (HWS.out _).mono ?_; rintro e w' ⟨rfl, rfl⟩)
        | (go_at_call 120; refine (HWO.out _ (HEW.out.below HB1.out)).mono ?_; rintro e w2 ⟨rfl, hb2⟩; have HB2 := Lib.hid hb2; clear hb2))
      have hb3 := HB0.out w2
      generalize w2.alloc (.cells #[.int .i64 (tk : Int), .int .i64 tn, .string T, .int .i64 0] 71) = w3 at *
      have HS3 := Lib.hid ((HS1.out.below HB2.out).below hb3)
      have HB3 : Hid (Below w.heap.size w w3) := Lib.hid (HB1.out.trans ((HB2.out.trans (hb3.mono HB2.out.size)).mono HB1.out.size))
      obtain ⟨⟨k0, k1, k2, k3⟩, kz⟩ := HS3.out.cells
      clear kz hb3
      go_wp2_with (go_at_call 110; refine (HHB.out _).mono ?_; rintro e w' ⟨rfl, rfl⟩)
      go_ret2
      rw [← HRQ.out]
      refine StR.err (HB3.out.mono HH.out.base) ?_
      rw [Int.natCast_add]
      rfl
    | none =>
      rw [hq] at hRQ
      unfold hbV at hhb
      rw [hq] at hhb
      have HHB := Lib.hid hhb
      have HRQ : Hid (St.tok ⟨tk, tn, ts⟩ n true = RQ) := hRQ
      have hWI : (W.size : Int) = (n : Int) := by rw [HWL.out]
      clear hRQ hhb hq
      go_enter Tryz.func94, Tryz.ntmps94
      go_wp2_with fail
      go_quiet (fail)
      have HS1 := Lib.hid (HH.out.below (below_drewN (Below.refl _ _) nq))
      have HB1 : Hid (Below w.heap.size w (w.drewN nq)) := Lib.hid (below_drewN (Below.refl _ _) nq)
      generalize w.drewN nq = w1 at *
      clear c0 c1 c2 c3
      go_upto_region 4 with (first
        | (go_at_call 119; refine (HWS.out _).mono ?_; rintro e w' ⟨rfl, rfl⟩)
        | (go_at_call 120; refine (HWO.out _ (HEW.out.below HB1.out)).mono ?_; rintro e w2 ⟨rfl, hb2⟩; have HB2 := Lib.hid hb2; clear hb2))
      have hb3 := HB0.out w2
      have hx3 := heap_alloc_new w2 (.cells #[.int .i64 (tk : Int), .int .i64 tn, .string T, .int .i64 0] 71)
      generalize w2.alloc (.cells #[.int .i64 (tk : Int), .int .i64 tn, .string T, .int .i64 0] 71) = w3 at *
      have HS3 := Lib.hid ((HS1.out.below HB2.out).below hb3)
      have HB3 : Hid (Below w.heap.size w w3) := Lib.hid (HB1.out.trans ((HB2.out.trans (hb3.mono HB2.out.size)).mono HB1.out.size))
      have d0 := cell_of_row _ _ 0 _ _ _ hx3
      have d1 := cell_of_row _ _ 1 _ _ _ hx3
      have d2 := cell_of_row _ _ 2 _ _ _ hx3
      have d3 := cell_of_row _ _ 3 _ _ _ hx3
      simp at d0 d1 d2 d3
      clear hb3 hx3
      have HTK : Hid (Calls Tryz.prog 115 #[.pointer (some ⟨b, 0, none⟩), .agg #[.int .i64 (tk : Int), .int .i64 tn, .string T, .int .i64 0], .int .i64 (n : Int), .bool true] w3 fun e w' => e = .returned (.tuple #[.int .i64 0, .int .i64 0]) ∧ Below B w3 w' ∧ ∃ v', Scn w' B b S (a + n) v' true (l ++ [(⟨tk, tn, ts⟩, a)])) := by
        have h := HS3.out.take hS ⟨tk, tn, ts⟩ n true HAN.out hl
        unfold tkC at h
        dsimp only at h
        rw [← HTT.out] at h
        exact h
      go_wp2_with (first
        | (go_at_call 110; refine (HHB.out _).mono ?_; rintro e w' ⟨rfl, rfl⟩)
        | (go_at_call 115; refine HTK.out.mono ?_; rintro e w5 ⟨rfl, hb5, hs5⟩; have HS5 := Lib.hid hs5; have HB5 := Lib.hid ((HB3.out.mono HH.out.base).trans hb5); clear hs5 hb5))
      go_ret2
      rw [← HRQ.out]
      exact StR.tok HB5.out rfl HS5.out
  · have hne : (e0 != 0) = true := bne_iff_ne.2 h0
    rw [if_pos h0] at hRQ
    have HRQ : Hid (St.err 0 e0 = RQ) := hRQ
    clear hRQ h0 hhb
    go_enter Tryz.func94, Tryz.ntmps94
    go_wp2_with fail
    go_quiet (fail)
    have HS1 := Lib.hid (HH.out.below (below_drewN (Below.refl _ _) nq))
    have HB1 : Hid (Below w.heap.size w (w.drewN nq)) := Lib.hid (below_drewN (Below.refl _ _) nq)
    generalize w.drewN nq = w1 at *
    clear c0 c1 c2 c3
    go_upto_region 4 with (first
      | (go_at_call 119; refine (HWS.out _).mono ?_; rintro e w' ⟨rfl, rfl⟩)
      | (go_at_call 120; refine (HWO.out _ (HEW.out.below HB1.out)).mono ?_; rintro e w2 ⟨rfl, hb2⟩; have HB2 := Lib.hid hb2; clear hb2))
    have hb3 := HB0.out w2
    generalize w2.alloc (.cells #[.int .i64 (tk : Int), .int .i64 tn, .string T, .int .i64 0] 71) = w3 at *
    have HS3 := Lib.hid ((HS1.out.below HB2.out).below hb3)
    have HB3 : Hid (Below w.heap.size w w3) := Lib.hid (HB1.out.trans ((HB2.out.trans (hb3.mono HB2.out.size)).mono HB1.out.size))
    obtain ⟨⟨k0, k1, k2, k3⟩, kz⟩ := HS3.out.cells
    clear kz hb3
    go_wp2_with fail
    go_ret2
    rw [← HRQ.out]
    exact StR.err (HB3.out.mono HH.out.base) rfl
end
end Go.Proofs.YthjjgpepgbfalaaGreatDoor.Lx
end
section
/-! The scanner takes a mark. -/
set_option maxRecDepth 20000
set_option linter.unusedSimpArgs false
set_option linter.unusedVariables false
namespace Go.Proofs.YthjjgpepgbfalaaGreatDoor.Lx
open Go.RowKit

/-- What mark tells, and what it makes of the scanner. -/
def MkR (w w' : World) (B b : Nat) (S : ByteArray) (a : Nat) (v : Value) (tight : Bool) (l : List (Tk × Nat)) (o : Option (Tk × Nat × Bool)) (e : Ending) : Prop :=
  Below B w w' ∧ match o with
  | some (t, n, tg) => e = .returned (.bool true) ∧ ∃ v', Scn w' B b S (a + n) v' tg (l ++ [(t, a)])
  | none => e = .returned (.bool false) ∧ Below w.heap.size w w'
def markT (L : List UInt8) : Option (Tk × Nat × Bool) := (markO L).map fun k => (⟨k, 0, []⟩, (mks.getD k []).length, false)
theorem mk_len : ∀ k, k < 9 → 1 ≤ (mks.getD k []).length ∧ (mks.getD k []).length ≤ 4 := by decide
theorem pre_len {p L : List UInt8} (h : p.isPrefixOf L = true) : p.length ≤ L.length := by
  obtain ⟨r, rfl⟩ := pre_of h
  simp
section
variable {w w' : World} {B b a : Nat} {S : ByteArray} {v : Value} {tight : Bool} {l : List (Tk × Nat)}
set_option maxHeartbeats 3200000 in
theorem Scn.mark (h : Scn w B b S a v tight l) (hE : Env w) (hS : S.size ≤ 5000) (ha : a < S.size) (hl : l.length ≤ a) :
    Calls Tryz.prog 92 #[.pointer (some ⟨b, 0, none⟩)] w fun e w' => MkR w w' B b S a v tight l (markT ((tl S).drop a)) e := by
  have HH := Lib.hid h
  have HEW := Lib.hid hE
  obtain ⟨R, hR⟩ : ∃ R, S.extract a S.size = R := ⟨_, rfl⟩
  have hRt : tl R = (tl S).drop a := by rw [← hR, tl_from]
  have hRl : (tl R).length = S.size - a := by rw [hRt, List.length_drop, tl_len]
  rw [← hRt]
  obtain ⟨RQ, hRQ⟩ : ∃ RQ, markT (tl R) = RQ := ⟨_, rfl⟩
  rw [hRQ]
  have HRQ := Lib.hid hRQ
  have haI : (a : Int) < (S.size : Int) := by omega
  have hSI : (S.size : Int) ≤ 5000 := by omega
  have HRL := Lib.hid hRl
  clear hRQ hRt h hE hRl
  go_enter Tryz.func92, Tryz.ntmps92
  go_wp2_with fail
  go_loopw [3] (fun kv wr => ∃ k : Nat, kv = .int .i64 ((k : Int) - 1) ∧ k ≤ 9 ∧ Hid (markO (tl R) = markGo (tl R) k ∧ Below w.heap.size w wr)) (fun kv _ => (RowKit.intOf kv + 1).toNat)
  case atStart => exact ⟨9, rfl, by omega, Lib.hid ⟨rfl, Below.refl _ _⟩⟩
  case round =>
    obtain ⟨k, rfl, hk, HK⟩ := hrel
    cases k with
    | zero =>
      have HV : Hid (none = RQ) := by
        unfold Hid
        rw [← HRQ.out]
        unfold markT
        rw [HK.out.1]; rfl
      go_wp2_with fail
      go_ret
      rw [← HV.out]
      exact ⟨HK.out.2.mono HH.out.base, rfl, HK.out.2⟩
    | succ k =>
      have HK9 : Hid (k < 9) := Lib.hid (by omega)
      have hc : ((k + 1 : Nat) : Int) - 1 = (k : Int) := by omega
      rw [hc]
      have hg := (HEW.out.below HK.out.2).mks k (by omega)
      obtain ⟨⟨c0, c1, c2, c3⟩, fz⟩ := (HH.out.below HK.out.2).cells
      have hml := mk_len k (by omega)
      obtain ⟨M, hM⟩ : ∃ M, mks.getD k [] = M := ⟨_, rfl⟩
      rw [hM] at hg hml
      obtain ⟨MB, hMB⟩ : ∃ MB : ByteArray, MB = ⟨M.toArray⟩ := ⟨_, rfl⟩
      rw [← hMB] at hg
      have hpf := fun w => Tryz.strings_HasPrefix R MB w
      rw [show Lib.hasPrefix R.data.toList MB.data.toList = M.isPrefixOf (tl R) by rw [hMB]; rfl] at hpf
      have HSR := Lib.hid (HH.out.below HK.out.2)
      have hms : (MB.size : Int) = (M.length : Int) := by rw [hMB]; rfl
      have hkI : (k : Int) < 9 := by omega
      have hk0 : (0 : Int) ≤ (k : Int) := by omega
      have hstep : markGo (tl R) (k + 1) = if M.isPrefixOf (tl R) then some k else markGo (tl R) k := by
        show (if (mks.getD k []).isPrefixOf (tl R) then some k else markGo (tl R) k) = _
        rw [hM]
      clear hMB fz hc
      rcases hp : M.isPrefixOf (tl R) with _ | _
      · rw [hp] at hpf hstep
        have HPF : Hid (∀ w, Calls Tryz.prog 89 #[.string R, .string MB] w fun e w' => e = .returned (.bool false) ∧ w' = w) := hpf
        have HK2 : Hid (markO (tl R) = markGo (tl R) k) := by
          unfold Hid
          rw [HK.out.1, hstep, if_neg (by simp)]
        clear hpf hp hstep hM hml
        go_wp2_with fail
        go_quiet ((go_at_call 89; exact Calls.quiet_of_same (HPF.out _)))
        have HB1 : Hid (Below wr.heap.size wr (wr.drewN nq)) := Lib.hid (below_drewN (Below.refl _ _) nq)
        generalize wr.drewN nq = w1 at *
        go_wp2_with fail
        go_roundw
        case rel => exact ⟨k, by go_num, by omega, Lib.hid ⟨HK2.out, HK.out.2.trans (HB1.out.mono HK.out.2.size)⟩⟩
        case measure => simp [RowKit.intOf]
      · rw [hp] at hpf hstep
        have HPF : Hid (∀ w, Calls Tryz.prog 89 #[.string R, .string MB] w fun e w' => e = .returned (.bool true) ∧ w' = w) := hpf
        have hlen := pre_len hp
        have HV : Hid (some (⟨k, 0, []⟩, M.length, false) = RQ) := by
          unfold Hid
          rw [← HRQ.out]
          unfold markT
          rw [HK.out.1, hstep, if_pos rfl]
          show _ = some (_, (mks.getD k []).length, false)
          rw [hM]
        have HLN : Hid (a + M.length ≤ S.size) := Lib.hid (by have := HRL.out; omega)
        have hbk := buildK (k : Int)
        clear hpf hp hstep hM hml hlen
        go_wp2_with fail
        go_quiet ((go_at_call 89; exact Calls.quiet_of_same (HPF.out _)))
        have HB1 : Hid (Below wr.heap.size wr (wr.drewN nq)) := Lib.hid (below_drewN (Below.refl _ _) nq)
        have HS1 := Lib.hid (HSR.out.below HB1.out)
        have hg1 := (HB1.out.cell (World.block_lt_of_cell? wr _ hg)).trans hg
        generalize wr.drewN nq = w1 at *
        have HTK : Hid (Calls Tryz.prog 115 #[.pointer (some ⟨b, 0, none⟩), .agg #[.int .i64 (k : Int), .int .i64 0, .string ⟨#[]⟩, .int .i64 0], .int .i64 (M.length : Int), .bool false] w1 fun e w' => e = .returned (.tuple #[.int .i64 0, .int .i64 0]) ∧ Below B w1 w' ∧ ∃ v', Scn w' B b S (a + M.length) v' false (l ++ [(⟨k, 0, []⟩, a)])) :=
          HS1.out.take hS ⟨k, 0, []⟩ M.length false HLN.out hl
        go_wp2_with (go_at_call 115; refine HTK.out.mono ?_; rintro e w5 ⟨rfl, hb5, hs5⟩; have HS5 := Lib.hid hs5; have HB5 := Lib.hid ((HK.out.2.mono HH.out.base).trans ((HB1.out.mono HSR.out.base).trans hb5)); clear hs5 hb5)
        go_ret
        rw [← HV.out]
        exact ⟨HB5.out, rfl, HS5.out⟩
end
end Go.Proofs.YthjjgpepgbfalaaGreatDoor.Lx
end
section
/-! The scanner takes a label. -/
set_option maxRecDepth 20000
set_option linter.unusedSimpArgs false
set_option linter.unusedVariables false
namespace Go.Proofs.YthjjgpepgbfalaaGreatDoor.Lx
open Go.RowKit

def digS : List UInt8 := [48, 49, 50, 51, 52, 53, 54, 55, 56, 57]
theorem dig_all : ∀ n, n < 256 → digS.contains (UInt8.ofNat n) = isDig (UInt8.ofNat n) := by decide +kernel
theorem dig_mem (c : UInt8) : digS.contains c = isDig c := by
  have := dig_all c.toNat c.toNat_lt
  rwa [UInt8.ofNat_toNat] at this
theorem drop_tw {p q : UInt8 → Bool} (h : ∀ c, p c = q c) : ∀ l : List UInt8, l.length - (l.dropWhile p).length = (l.takeWhile q).length
  | [] => rfl
  | c :: t => by
    rw [List.dropWhile_cons, List.takeWhile_cons, h c]
    rcases hq : q c with _ | _
    · simp
    · simp only [if_true, List.length_cons]
      have := drop_tw h t
      have h2 := (List.dropWhile_sublist (l := t) p).length_le
      omega
theorem tw_take (q : UInt8 → Bool) (l : List UInt8) : l.take (l.takeWhile q).length = l.takeWhile q := (List.prefix_iff_eq_take.1 (List.takeWhile_prefix (l := l) q)).symm
theorem trim_dig (X : ByteArray) (w : World) : Calls Tryz.prog 117 #[.string X, .string ⟨#[48, 49, 50, 51, 52, 53, 54, 55, 56, 57]⟩] w fun e w' => e = .returned (.string ⟨((tl X).dropWhile (digS.contains ·)).toArray⟩) ∧ Below w.heap.size w w' := by
  obtain ⟨hz, hi⟩ := zero_of_info (P := Tryz.prog) (t := 196) (v := .agg (Array.replicate 256 (.bool false))) (n := 256) (by kernel_rfl)
  have h := Any.strings_TrimLeft_ascii Tryz.lays161 hz hi X ⟨#[48, 49, 50, 51, 52, 53, 54, 55, 56, 57]⟩ w (by decide) (fun j b hj => by
    have h : b ∈ [(48 : UInt8), 49, 50, 51, 52, 53, 54, 55, 56, 57] := List.mem_of_getElem? hj
    clear hj
    revert b
    decide)
  exact h
def labT (L : List UInt8) : Option (Tk × Nat × Bool) := (labO L).map fun x => (⟨x.1, x.2.1, []⟩, x.2.2, decide (x.1 = 16))
section
variable {w w' : World} {B b a : Nat} {S : ByteArray} {v : Value} {tight : Bool} {l : List (Tk × Nat)}
set_option maxHeartbeats 3200000 in
theorem Scn.label (h : Scn w B b S a v tight l) (hE : Env w) (hS : S.size ≤ 5000) (ha : a < S.size) (hl : l.length ≤ a) :
    Calls Tryz.prog 93 #[.pointer (some ⟨b, 0, none⟩)] w fun e w' => MkR w w' B b S a v tight l (labT ((tl S).drop a)) e := by
  have HH := Lib.hid h
  obtain ⟨R, hR⟩ : ∃ R, S.extract a S.size = R := ⟨_, rfl⟩
  have hRt : tl R = (tl S).drop a := by rw [← hR, tl_from]
  have hRl : (tl R).length = S.size - a := by rw [hRt, List.length_drop, tl_len]
  rw [← hRt]
  obtain ⟨RQ, hRQ⟩ : ∃ RQ, labT (tl R) = RQ := ⟨_, rfl⟩
  rw [hRQ]
  unfold labT labO at hRQ
  have haI : (a : Int) < (S.size : Int) := by omega
  have hSI : (S.size : Int) ≤ 5000 := by omega
  have hcp := fun w => Tryz.strings_CutPrefix R ⟨#[35]⟩ w
  rw [show Lib.hasPrefix R.data.toList (⟨#[35]⟩ : ByteArray).data.toList = [35].isPrefixOf (tl R) from rfl] at hcp
  -- what is left behind the mark
  obtain ⟨ok, hok⟩ : ∃ ok, [35].isPrefixOf (tl R) = ok := ⟨_, rfl⟩
  obtain ⟨X, hX⟩ : ∃ X : ByteArray, X = ⟨(Lib.trimPrefix R.data.toList (⟨#[35]⟩ : ByteArray).data.toList).toArray⟩ := ⟨_, rfl⟩
  have hXt : tl X = if ok then (tl R).drop 1 else tl R := by
    rw [hX, ← hok]; rfl
  have hXl : X.size ≤ S.size - a := by
    rw [← tl_len, hXt, ← hRl]; split
    · simp
    · exact Nat.le_refl _
  rw [← hX, hok] at hcp
  have HCP := Lib.hid hcp
  have HTR := Lib.hid (trim_dig X)
  obtain ⟨D, hD⟩ : ∃ D, (tl X).takeWhile isDig = D := ⟨_, rfl⟩
  obtain ⟨Y, hY⟩ : ∃ Y : ByteArray, Y = ⟨((tl X).dropWhile (digS.contains ·)).toArray⟩ := ⟨_, rfl⟩
  rw [← hY] at HTR
  have hDX : D.length ≤ X.size := by rw [← hD, ← tl_len]; exact (List.takeWhile_sublist _).length_le
  have hYl : Y.size + D.length = X.size := by
    have h1 := drop_tw (p := (digS.contains ·)) (q := isDig) dig_mem (tl X)
    rw [hD, tl_len] at h1
    have h2 : Y.size = ((tl X).dropWhile (digS.contains ·)).length := by rw [hY]; rfl
    have h3 := (List.dropWhile_sublist (l := tl X) (digS.contains ·)).length_le
    rw [tl_len] at h3
    omega
  have hdif : (X.size : Int) - (Y.size : Int) = (D.length : Int) := by omega
  obtain ⟨N, hN⟩ : ∃ N, X.extract 0 D.length = N := ⟨_, rfl⟩
  have hNt : tl N = D := by rw [← hN, tl_to, ← hD]; exact tw_take _ _
  have hNl : N.size = D.length := by rw [← tl_len, hNt]
  have hNI : (N.size : Int) = (D.length : Int) := by rw [hNl]
  have hDI : (D.length : Int) ≤ (X.size : Int) := by omega
  have hXI : (X.size : Int) ≤ 5000 := by omega
  have HNH : Hid (tl N = D ∧ N.size = D.length) := Lib.hid ⟨hNt, hNl⟩
  obtain ⟨d, hd⟩ : ∃ d, D.length = d := ⟨_, rfl⟩
  rw [hd] at hdif hNI hDI hN hDX
  have HEWx := Lib.hid hE
  clear h hE hRt hcp hX hY hNt hNl hYl
  cases ok with
  | false =>
    rw [hok] at hRQ
    have HRQ : Hid (none = RQ) := hRQ
    obtain ⟨⟨c0, c1, c2, c3⟩, fz⟩ := HH.out.cells
    clear hRQ hok hD hXt fz hRl hXl hd
    go_enter Tryz.func93, Tryz.ntmps93
    go_wp2_with fail
    go_quiet ((go_at_call 116; exact Calls.quiet_of_same (HCP.out _)))
    have HB1 : Hid (Below w.heap.size w (w.drewN nq)) := Lib.hid (below_drewN (Below.refl _ _) nq)
    generalize w.drewN nq = w1 at *
    go_wp2_with (go_at_call 117; refine (HTR.out _).mono ?_; rintro e w2 ⟨rfl, hb2⟩; have HB2 := Lib.hid (HB1.out.trans (hb2.mono HB1.out.size)); clear hb2)
    go_ret
    rw [← HRQ.out]
    exact ⟨HB2.out.mono HH.out.base, rfl, HB2.out⟩
  | true =>
    rw [hok, if_pos rfl] at hRQ
    have hXt2 : (tl R).drop 1 = tl X := by rw [hXt]; rfl
    rw [hXt2] at hRQ
    dsimp only at hRQ
    rw [hD, hd, tl_len] at hRQ
    obtain ⟨⟨c0, c1, c2, c3⟩, fz⟩ := HH.out.cells
    have HDD := Lib.hid hd
    have HXL : Hid (X.size = S.size - a - 1) := by
      unfold Hid
      rw [← tl_len, ← hXt2, List.length_drop, hRl]
    clear hXt hXt2 hok hD fz hXl hRl hd
    by_cases k1 : d < 1
    · rw [if_pos (.inl k1)] at hRQ
      have HRQ : Hid (none = RQ) := hRQ
      have e1 : decide ((d : Int) < 1) = true := decide_eq_true (by omega)
      clear hRQ k1
      go_enter Tryz.func93, Tryz.ntmps93
      go_wp2_with fail
      go_quiet ((go_at_call 116; exact Calls.quiet_of_same (HCP.out _)))
      have HB1 : Hid (Below w.heap.size w (w.drewN nq)) := Lib.hid (below_drewN (Below.refl _ _) nq)
      generalize w.drewN nq = w1 at *
      go_wp2_with (first
        | (go_at_call 117; refine (HTR.out _).mono ?_; rintro e w2 ⟨rfl, hb2⟩; have HB2 := Lib.hid (HB1.out.trans (hb2.mono HB1.out.size)); clear hb2)
        | (go_at_call 118; refine (HPA.out _).mono ?_; rintro e w3 ⟨rfl, hb3⟩; have HB3 := Lib.hid (HB2.out.trans (hb3.mono HB2.out.size)); clear hb3))
      go_ret
      rw [← HRQ.out]
      exact ⟨HB2.out.mono HH.out.base, rfl, HB2.out⟩
    · have e1 : decide ((d : Int) < 1) = false := decide_eq_false (by omega)
      have e1b : decide (d < 1) = false := decide_eq_false k1
      by_cases k2 : 3 < d
      · rw [if_pos (.inr (.inl k2))] at hRQ
        have HRQ : Hid (none = RQ) := hRQ
        have e2 : decide ((3 : Int) < (d : Int)) = true := decide_eq_true (by omega)
        clear hRQ k1 k2
        go_enter Tryz.func93, Tryz.ntmps93
        go_wp2_with fail
        go_quiet ((go_at_call 116; exact Calls.quiet_of_same (HCP.out _)))
        have HB1 : Hid (Below w.heap.size w (w.drewN nq)) := Lib.hid (below_drewN (Below.refl _ _) nq)
        generalize w.drewN nq = w1 at *
        go_wp2_with (first
          | (go_at_call 117; refine (HTR.out _).mono ?_; rintro e w2 ⟨rfl, hb2⟩; have HB2 := Lib.hid (HB1.out.trans (hb2.mono HB1.out.size)); clear hb2)
          | (go_at_call 118; refine (HPA.out _).mono ?_; rintro e w3 ⟨rfl, hb3⟩; have HB3 := Lib.hid (HB2.out.trans (hb3.mono HB2.out.size)); clear hb3))
        go_ret
        rw [← HRQ.out]
        exact ⟨HB2.out.mono HH.out.base, rfl, HB2.out⟩
      · have e2 : decide ((3 : Int) < (d : Int)) = false := decide_eq_false (by omega)
        have e2b : decide (3 < d) = false := decide_eq_false k2
        by_cases k3 : d = X.size
        · rw [if_pos (.inr (.inr k3))] at hRQ
          have HRQ : Hid (none = RQ) := hRQ
          have e3 : ((d : Int) == (X.size : Int)) = true := by rw [k3]; exact beq_self_eq_true _
          clear hRQ k1 k2 k3
          go_enter Tryz.func93, Tryz.ntmps93
          go_wp2_with fail
          go_quiet ((go_at_call 116; exact Calls.quiet_of_same (HCP.out _)))
          have HB1 : Hid (Below w.heap.size w (w.drewN nq)) := Lib.hid (below_drewN (Below.refl _ _) nq)
          generalize w.drewN nq = w1 at *
          go_wp2_with (first
            | (go_at_call 117; refine (HTR.out _).mono ?_; rintro e w2 ⟨rfl, hb2⟩; have HB2 := Lib.hid (HB1.out.trans (hb2.mono HB1.out.size)); clear hb2)
            | (go_at_call 118; refine (HPA.out _).mono ?_; rintro e w3 ⟨rfl, hb3⟩; have HB3 := Lib.hid (HB2.out.trans (hb3.mono HB2.out.size)); clear hb3))
          go_ret
          rw [← HRQ.out]
          exact ⟨HB2.out.mono HH.out.base, rfl, HB2.out⟩
        · rw [if_neg (fun h => h.elim k1 (fun h => h.elim k2 k3))] at hRQ
          have e3 : ((d : Int) == (X.size : Int)) = false := by rw [beq_eq_false_iff_ne]; omega
          have hix := idx_any X d (by omega)
          obtain ⟨c, hc⟩ : ∃ c, (tl X).getD d 0 = c := ⟨_, rfl⟩
          rw [hc] at hix hRQ
          have hpa : ∀ w, Calls Tryz.prog 118 #[.string N, .int .i64 10] w fun e w' => e = .returned (.tuple #[.int .i64 (parseV 10 D), .int .i64 (parseE 10 D)]) ∧ Below w.heap.size w w' := fun w => by
            have h := parse_any 10 D w (by decide) (by decide) (by have := HNH.out.2; omega)
            rw [show (⟨D.toArray⟩ : ByteArray) = N by rw [← HNH.out.1]] at h
            exact h
          obtain ⟨V, hV⟩ : ∃ V, parseV 10 D = V := ⟨_, rfl⟩
          rw [hV] at hpa hRQ
          generalize parseE 10 D = E at hpa
          have HPA := Lib.hid hpa
          have hdX : (d : Int) < (X.size : Int) := by omega
          have HAN : Hid (a + (d + 2) ≤ S.size) := Lib.hid (by have := HXL.out; omega)
          have hd3 : (d : Int) ≤ 3 := by omega
          clear hpa hc hV k1 k2 k3
          by_cases c1' : c = 61
          · have e4 : ((c.toNat : Int) == 61) = true := by rw [c1']; rfl
            rw [if_pos c1'] at hRQ
            have HRQ : Hid (some (⟨15, V, []⟩, d + 2, false) = RQ) := hRQ
            have hbk := buildKN 15 V
            clear hRQ c1'
            go_enter Tryz.func93, Tryz.ntmps93
            go_wp2_with fail
            go_quiet ((go_at_call 116; exact Calls.quiet_of_same (HCP.out _)))
            have HB1 : Hid (Below w.heap.size w (w.drewN nq)) := Lib.hid (below_drewN (Below.refl _ _) nq)
            generalize w.drewN nq = w1 at *
            have HS1 := Lib.hid (HH.out.below HB1.out)
            go_wp2_with (first
              | (go_at_call 117; refine (HTR.out _).mono ?_; rintro e w2 ⟨rfl, hb2⟩; have HB2 := Lib.hid (HB1.out.trans (hb2.mono HB1.out.size)); clear hb2)
              | (go_at_call 118; refine (HPA.out _).mono ?_; rintro e w3 ⟨rfl, hb3⟩; have HB3 := Lib.hid (HB2.out.trans (hb3.mono HB2.out.size)); have HTK : Hid (Calls Tryz.prog 115 #[.pointer (some ⟨b, 0, none⟩), .agg #[.int .i64 15, .int .i64 V, .string ⟨#[]⟩, .int .i64 0], .int .i64 ((d : Int) + 2), .bool false] w3 fun e w' => e = .returned (.tuple #[.int .i64 0, .int .i64 0]) ∧ Below B w3 w' ∧ ∃ v', Scn w' B b S (a + (d + 2)) v' false (l ++ [(⟨15, V, []⟩, a)])) := (HH.out.below HB3.out).take hS ⟨15, V, []⟩ (d + 2) false HAN.out hl; clear hb3)
              | (go_at_call 115; refine HTK.out.mono ?_; rintro e w5 ⟨rfl, hb5, hs5⟩; have HS5 := Lib.hid hs5; have HB5 := Lib.hid ((HB3.out.mono HH.out.base).trans hb5); clear hs5 hb5))
            go_ret
            rw [← HRQ.out]
            exact ⟨HB5.out, rfl, HS5.out⟩
          · have e4 : ((c.toNat : Int) == 61) = false := u8_ne (k := 61) rfl c1'
            rw [if_neg c1'] at hRQ
            by_cases c2' : c = 35
            · have e5 : ((c.toNat : Int) == 35) = true := by rw [c2']; rfl
              rw [if_pos c2'] at hRQ
              have HRQ : Hid (some (⟨16, V, []⟩, d + 2, true) = RQ) := hRQ
              have hbk := buildKN 16 V
              clear hRQ c1' c2'
              go_enter Tryz.func93, Tryz.ntmps93
              go_wp2_with fail
              go_quiet ((go_at_call 116; exact Calls.quiet_of_same (HCP.out _)))
              have HB1 : Hid (Below w.heap.size w (w.drewN nq)) := Lib.hid (below_drewN (Below.refl _ _) nq)
              generalize w.drewN nq = w1 at *
              have HS1 := Lib.hid (HH.out.below HB1.out)
              go_wp2_with (first
                | (go_at_call 117; refine (HTR.out _).mono ?_; rintro e w2 ⟨rfl, hb2⟩; have HB2 := Lib.hid (HB1.out.trans (hb2.mono HB1.out.size)); clear hb2)
                | (go_at_call 118; refine (HPA.out _).mono ?_; rintro e w3 ⟨rfl, hb3⟩; have HB3 := Lib.hid (HB2.out.trans (hb3.mono HB2.out.size)); have HTK : Hid (Calls Tryz.prog 115 #[.pointer (some ⟨b, 0, none⟩), .agg #[.int .i64 16, .int .i64 V, .string ⟨#[]⟩, .int .i64 0], .int .i64 ((d : Int) + 2), .bool true] w3 fun e w' => e = .returned (.tuple #[.int .i64 0, .int .i64 0]) ∧ Below B w3 w' ∧ ∃ v', Scn w' B b S (a + (d + 2)) v' true (l ++ [(⟨16, V, []⟩, a)])) := (HH.out.below HB3.out).take hS ⟨16, V, []⟩ (d + 2) true HAN.out hl; clear hb3)
                | (go_at_call 115; refine HTK.out.mono ?_; rintro e w5 ⟨rfl, hb5, hs5⟩; have HS5 := Lib.hid hs5; have HB5 := Lib.hid ((HB3.out.mono HH.out.base).trans hb5); clear hs5 hb5))
              go_ret
              rw [← HRQ.out]
              exact ⟨HB5.out, rfl, HS5.out⟩
            · have e5 : ((c.toNat : Int) == 35) = false := u8_ne (k := 35) rfl c2'
              rw [if_neg c2'] at hRQ
              have HRQ : Hid (none = RQ) := hRQ
              clear hRQ c1' c2'
              go_enter Tryz.func93, Tryz.ntmps93
              go_wp2_with fail
              go_quiet ((go_at_call 116; exact Calls.quiet_of_same (HCP.out _)))
              have HB1 : Hid (Below w.heap.size w (w.drewN nq)) := Lib.hid (below_drewN (Below.refl _ _) nq)
              generalize w.drewN nq = w1 at *
              go_wp2_with (first
                | (go_at_call 117; refine (HTR.out _).mono ?_; rintro e w2 ⟨rfl, hb2⟩; have HB2 := Lib.hid (HB1.out.trans (hb2.mono HB1.out.size)); clear hb2)
                | (go_at_call 118; refine (HPA.out _).mono ?_; rintro e w3 ⟨rfl, hb3⟩; have HB3 := Lib.hid (HB2.out.trans (hb3.mono HB2.out.size)); clear hb3))
              go_ret
              rw [← HRQ.out]
              exact ⟨HB3.out.mono HH.out.base, rfl, HB3.out⟩
end
end Go.Proofs.YthjjgpepgbfalaaGreatDoor.Lx
end
