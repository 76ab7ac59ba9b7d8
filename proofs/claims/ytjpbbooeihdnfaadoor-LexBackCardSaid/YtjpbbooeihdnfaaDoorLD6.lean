/- The scanner takes a mark. -/
import Derived.Test.YtjpbbooeihdnfaaDoorLD5
set_option maxRecDepth 20000
set_option linter.unusedSimpArgs false
set_option linter.unusedVariables false
namespace Go.Proofs.YtjpbbooeihdnfaaDoor
open Go.RowKit

/-- What mark tells, and what it makes of the scanner. -/
def MkR (w w' : World) (B b : Nat) (S : ByteArray) (a : Nat) (v : Value) (tight : Bool) (l : List (Tk × Nat)) (o : Option (Tk × Nat × Bool)) (e : Ending) : Prop :=
  Below B w w' ∧ match o with
  | some (t, n, tg) => e = .returned (.bool true) ∧ ∃ v', Scn w' B b S (a + n) v' tg (l ++ [(t, a)])
  | none => e = .returned (.bool false) ∧ Below w.heap.size w w'
def markT (L : List UInt8) : Option (Tk × Nat × Bool) := (markO L).map fun k => (⟨k, 0, []⟩, (mks.getD k []).length, false)
theorem mk_len : ∀ k, k < 9 → 1 ≤ (mks.getD k []).length ∧ (mks.getD k []).length ≤ 4 := by decide
theorem pre_len {p L : List UInt8} (h : p.isPrefixOf L = true) : p.length ≤ L.length := by
  obtain ⟨r, rfl⟩ := pre_of h
  simp
section
variable {w w' : World} {B b a : Nat} {S : ByteArray} {v : Value} {tight : Bool} {l : List (Tk × Nat)}
set_option maxHeartbeats 3200000 in
theorem Scn.mark (h : Scn w B b S a v tight l) (hE : Env w) (hS : S.size ≤ 5000) (ha : a < S.size) (hl : l.length ≤ a) :
    Calls Tryd.prog 20 #[.pointer (some ⟨b, 0, none⟩)] w fun e w' => MkR w w' B b S a v tight l (markT ((tl S).drop a)) e := by
  have HH := Lib.hid h
  have HEW := Lib.hid hE
  obtain ⟨R, hR⟩ : ∃ R, S.extract a S.size = R := ⟨_, rfl⟩
  have hRt : tl R = (tl S).drop a := by rw [← hR, tl_from]
  have hRl : (tl R).length = S.size - a := by rw [hRt, List.length_drop, tl_len]
  rw [← hRt]
  obtain ⟨RQ, hRQ⟩ : ∃ RQ, markT (tl R) = RQ := ⟨_, rfl⟩
  rw [hRQ]
  have HRQ := Lib.hid hRQ
  have haI : (a : Int) < (S.size : Int) := by omega
  have hSI : (S.size : Int) ≤ 5000 := by omega
  have HRL := Lib.hid hRl
  clear hRQ hRt h hE hRl
  go_enter Tryd.func20, Tryd.ntmps20
  go_wp2_with fail
  go_loopw [3] (fun kv wr => ∃ k : Nat, kv = .int .i64 ((k : Int) - 1) ∧ k ≤ 9 ∧ Hid (markO (tl R) = markGo (tl R) k ∧ Below w.heap.size w wr)) (fun kv _ => (intOf kv + 1).toNat)
  case atStart => exact ⟨9, rfl, by omega, Lib.hid ⟨rfl, Below.refl _ _⟩⟩
  case round =>
    obtain ⟨k, rfl, hk, HK⟩ := hrel
    cases k with
    | zero =>
      have HV : Hid (none = RQ) := by
        unfold Hid
        rw [← HRQ.out]
        unfold markT
        rw [HK.out.1]; rfl
      go_wp2_with fail
      go_ret
      rw [← HV.out]
      exact ⟨HK.out.2.mono HH.out.base, rfl, HK.out.2⟩
    | succ k =>
      have HK9 : Hid (k < 9) := Lib.hid (by omega)
      have hc : ((k + 1 : Nat) : Int) - 1 = (k : Int) := by omega
      rw [hc]
      have hg := (HEW.out.below HK.out.2).mks k (by omega)
      obtain ⟨⟨c0, c1, c2, c3⟩, fz⟩ := (HH.out.below HK.out.2).cells
      have hml := mk_len k (by omega)
      obtain ⟨M, hM⟩ : ∃ M, mks.getD k [] = M := ⟨_, rfl⟩
      rw [hM] at hg hml
      obtain ⟨MB, hMB⟩ : ∃ MB : ByteArray, MB = ⟨M.toArray⟩ := ⟨_, rfl⟩
      rw [← hMB] at hg
      have hpf := fun w => Tryd.strings_HasPrefix R MB w
      rw [show Lib.hasPrefix R.data.toList MB.data.toList = M.isPrefixOf (tl R) by rw [hMB]; rfl] at hpf
      have HSR := Lib.hid (HH.out.below HK.out.2)
      have hms : (MB.size : Int) = (M.length : Int) := by rw [hMB]; rfl
      have hkI : (k : Int) < 9 := by omega
      have hk0 : (0 : Int) ≤ (k : Int) := by omega
      have hstep : markGo (tl R) (k + 1) = if M.isPrefixOf (tl R) then some k else markGo (tl R) k := by
        show (if (mks.getD k []).isPrefixOf (tl R) then some k else markGo (tl R) k) = _
        rw [hM]
      clear hMB fz hc
      rcases hp : M.isPrefixOf (tl R) with _ | _
      · rw [hp] at hpf hstep
        have HPF : Hid (∀ w, Calls Tryd.prog 17 #[.string R, .string MB] w fun e w' => e = .returned (.bool false) ∧ w' = w) := hpf
        have HK2 : Hid (markO (tl R) = markGo (tl R) k) := by
          unfold Hid
          rw [HK.out.1, hstep, if_neg (by simp)]
        clear hpf hp hstep hM hml
        go_wp2_with fail
        go_quiet ((go_at_call 17; exact Calls.quiet_of_same (HPF.out _)))
        have HB1 : Hid (Below wr.heap.size wr (wr.drewN nq)) := Lib.hid (below_drewN (Below.refl _ _) nq)
        generalize wr.drewN nq = w1 at *
        go_wp2_with fail
        go_roundw
        case rel => exact ⟨k, by go_num, by omega, Lib.hid ⟨HK2.out, HK.out.2.trans (HB1.out.mono HK.out.2.size)⟩⟩
        case measure => simp [intOf]
      · rw [hp] at hpf hstep
        have HPF : Hid (∀ w, Calls Tryd.prog 17 #[.string R, .string MB] w fun e w' => e = .returned (.bool true) ∧ w' = w) := hpf
        have hlen := pre_len hp
        have HV : Hid (some (⟨k, 0, []⟩, M.length, false) = RQ) := by
          unfold Hid
          rw [← HRQ.out]
          unfold markT
          rw [HK.out.1, hstep, if_pos rfl]
          show _ = some (_, (mks.getD k []).length, false)
          rw [hM]
        have HLN : Hid (a + M.length ≤ S.size) := Lib.hid (by have := HRL.out; omega)
        have hbk := buildK (k : Int)
        clear hpf hp hstep hM hml hlen
        go_wp2_with fail
        go_quiet ((go_at_call 17; exact Calls.quiet_of_same (HPF.out _)))
        have HB1 : Hid (Below wr.heap.size wr (wr.drewN nq)) := Lib.hid (below_drewN (Below.refl _ _) nq)
        have HS1 := Lib.hid (HSR.out.below HB1.out)
        have hg1 := (HB1.out.cell (World.block_lt_of_cell? wr _ hg)).trans hg
        generalize wr.drewN nq = w1 at *
        have HTK : Hid (Calls Tryd.prog 34 #[.pointer (some ⟨b, 0, none⟩), .agg #[.int .i64 (k : Int), .int .i64 0, .string ⟨#[]⟩, .int .i64 0], .int .i64 (M.length : Int), .bool false] w1 fun e w' => e = .returned (.tuple #[.int .i64 0, .int .i64 0]) ∧ Below B w1 w' ∧ ∃ v', Scn w' B b S (a + M.length) v' false (l ++ [(⟨k, 0, []⟩, a)])) :=
          HS1.out.take hS ⟨k, 0, []⟩ M.length false HLN.out hl
        go_wp2_with (go_at_call 34; refine HTK.out.mono ?_; rintro e w5 ⟨rfl, hb5, hs5⟩; have HS5 := Lib.hid hs5; have HB5 := Lib.hid ((HK.out.2.mono HH.out.base).trans ((HB1.out.mono HSR.out.base).trans hb5)); clear hs5 hb5)
        go_ret
        rw [← HV.out]
        exact ⟨HB5.out, rfl, HS5.out⟩
end
end Go.Proofs.YtjpbbooeihdnfaaDoor
