/- A string's text. -/
import Derived.Test.YtjpbbooeihdnfaaDoorLU1
import Derived.Test.YtjpbbooeihdnfaaDoorLT2
set_option maxRecDepth 20000
set_option linter.unusedSimpArgs false
set_option linter.unusedVariables false
namespace Go.Proofs.YtjpbbooeihdnfaaDoor
open Go.RowKit

theorem cat_str3 (a b c : List UInt8) : ((⟨a.toArray⟩ : ByteArray) ++ ⟨b.toArray⟩ ++ ⟨c.toArray⟩) = ⟨(a ++ b ++ c).toArray⟩ := by
  apply ByteArray.ext
  rw [ByteArray.data_append, ByteArray.data_append]
  simp
theorem piece_len (c : UInt8) : (piece c).length ≤ 5 := by
  unfold piece
  split
  · simp
  · split
    · simp [two]
    · simp
theorem body_len (s : List UInt8) : (bodyT s).length ≤ 5 * s.length := by
  induction s with
  | nil => simp [bodyT]
  | cons c s ih =>
    have := piece_len c
    rw [body_cons, List.length_append, List.length_cons]; omega
theorem body_snoc (l : List UInt8) (c : UInt8) : bodyT (l ++ [c]) = bodyT l ++ piece c := by simp [bodyT]
theorem letter_at (k : Nat) (h : k < 5) (W : World) : (Instr.index 9 (.string { data := #[34, 92, 110, 116, 114] }) (.int .i64 (k : Int))).run Tryd.prog W = .ok (.int .u8 ((escT.getD k 0).toNat : Int)) W :=
  match k, h with
  | 0, _ => by kernel_rfl
  | 1, _ => by kernel_rfl
  | 2, _ => by kernel_rfl
  | 3, _ => by kernel_rfl
  | 4, _ => by kernel_rfl
  | k + 5, h => absurd h (by omega)
/-- Which of the escaped bytes a byte is. -/
theorem esc_index (c : UInt8) (h : c.toNat < 128) : (escW.contains c = true → ∃ k : Nat, k < 5 ∧ Lib.indexByte escW c = (k : Int) ∧ piece c = [92, escT.getD k 0]) ∧ (escW.contains c = false → Lib.indexByte escW c = -1 ∧ piece c = if c.toNat < 32 ∨ c.toNat = 127 then [92, 120] ++ two c.toNat ++ [59] else [c]) := by
  have key : ∀ n : Fin 128, (escW.contains (UInt8.ofNat n.1) = true → ∃ k : Fin 5, Lib.indexByte escW (UInt8.ofNat n.1) = (k.1 : Int) ∧ piece (UInt8.ofNat n.1) = [92, escT.getD k.1 0]) ∧ (escW.contains (UInt8.ofNat n.1) = false → Lib.indexByte escW (UInt8.ofNat n.1) = -1 ∧ piece (UInt8.ofNat n.1) = if (UInt8.ofNat n.1).toNat < 32 ∨ (UInt8.ofNat n.1).toNat = 127 then [92, 120] ++ two (UInt8.ofNat n.1).toNat ++ [59] else [UInt8.ofNat n.1]) := by decide +kernel
  have hk := key ⟨c.toNat, h⟩
  have hcc : UInt8.ofNat c.toNat = c := UInt8.ofNat_toNat
  simp only [hcc] at hk
  exact ⟨fun e => by obtain ⟨k, h1, h2⟩ := hk.1 e; exact ⟨k.1, k.2, h1, h2⟩, hk.2⟩
set_option maxHeartbeats 6400000 in
theorem quote_any (S : ByteArray) (w : World) (hS : S.size ≤ 5000) (hb : ∀ c ∈ tl S, c.toNat < 128) : Calls Tryd.prog 27 #[.string S] w fun e w' => e = .returned (.string ⟨(quoT (tl S)).toArray⟩) ∧ Below w.heap.size w w' := by
  have hll := tl_len S
  have HBY := Lib.hid hb
  have HLL := Lib.hid hll
  have HS := Lib.hid hS
  have hSI : (S.size : Int) ≤ 5000 := by omega
  clear hb hll hS
  go_enter Tryd.func27, Tryd.ntmps27
  go_upto_region 2 with fail
  have HB0 := Lib.hid (alloc_below w (.cells #[.pointer none, .slice none 0 0] 40))
  have HD0 := Lib.hid (Bd.new w w.heap.size (Nat.le_refl _))
  have HW0 : Hid (w.heap.size ≤ (w.alloc (.cells #[.pointer none, .slice none 0 0] 40)).heap.size) := Lib.hid (by simp)
  generalize w.alloc (.cells #[.pointer none, .slice none 0 0] 40) = W0 at *
  go_wp2_with (go_at_call 10; refine (wbyte HD0.out 34 (by decide) HW0.out).mono ?_; rintro e w1 ⟨rfl, hd1, hb1⟩; have HD1 := Lib.hid hd1; have HB1 := Lib.hid hb1; clear hd1 hb1)
  have HB01 : Hid (Below w.heap.size w w1) := Lib.hid (HB0.out.trans HB1.out)
  go_loopw [10] (fun iv wr => ∃ i : Nat, iv = .int .i64 (i : Int) ∧ i ≤ S.size ∧ Hid (Bd wr w.heap.size w.heap.size (34 :: bodyT ((tl S).take i)) ∧ Below w.heap.size w wr)) (fun iv _ => S.size - (intOf iv).toNat)
  case atStart => exact ⟨0, rfl, Nat.zero_le _, Lib.hid ⟨HD1.out, HB01.out⟩⟩
  case round =>
    obtain ⟨i, rfl, hi, HI⟩ := hrel
    have HLN : Hid ((34 :: bodyT ((tl S).take i)).length ≤ 30000) := Lib.hid (by
      have h1 := body_len ((tl S).take i)
      have h2 := HLL.out
      have h3 := HS.out
      rw [List.length_take] at h1
      rw [List.length_cons]; omega)
    by_cases hlt : i < S.size
    · have hi0 := fun W => idx_any S i hlt W
      have hc0 : (tl S).getD i 0 ∈ tl S := by
        rw [List.getD_eq_getElem?_getD, List.getElem?_eq_getElem (by rw [HLL.out]; exact hlt)]
        exact List.getElem_mem _
      have hc := HBY.out _ hc0
      have hsn : (tl S).take (i + 1) = (tl S).take i ++ [(tl S).getD i 0] := by
        rw [List.take_add_one, List.getD_eq_getElem?_getD, List.getElem?_eq_getElem (by rw [HLL.out]; exact hlt)]
        rfl
      have hltI : (i : Int) < (S.size : Int) := by omega
      generalize (tl S).getD i 0 = c at *
      have hpc : 34 :: bodyT ((tl S).take (i + 1)) = 34 :: bodyT ((tl S).take i) ++ piece c := by rw [hsn, body_snoc]; rfl
      have HPC := Lib.hid hpc
      have HMB := Lib.hid (member_any ⟨#[34, 92, 10, 9, 13]⟩ c)
      obtain ⟨he1, he2⟩ := esc_index c hc
      have HC := Lib.hid hc
      clear hc0 hsn hpc hc
      cases hes : escW.contains c with
      | true =>
        obtain ⟨k, hk, hk2, hk3⟩ := he1 hes
        have hla := letter_at k hk
        have HMB2 : Hid (∀ W, Calls Tryd.prog 14 #[.string ⟨#[34, 92, 10, 9, 13]⟩, .int .u8 (c.toNat : Int)] W fun e w' => e = .returned (.int .i64 (k : Int)) ∧ W = w') := Lib.hid fun W => (HMB.out W).mono fun e w' ⟨⟨j, h1, h2, _⟩, h3⟩ => ⟨by rw [h1, h2]; show Ending.returned (.int .i64 (Lib.indexByte escW c)) = _; rw [hk2], h3.symm⟩
        have HPE := Lib.hid hk3
        have hkI : (k : Int) < 5 := by omega
        generalize escT.getD k 0 = d at *
        clear he1 he2 hes HMB hk2 hk3
        go_wp2_with (first
          | (go_at_call 14; refine (HMB2.out _).mono ?_; rintro e w' ⟨rfl, rfl⟩)
          | (go_at_call 10; refine (wbyte HD2.out d (by have := HLN.out; rw [List.length_append, List.length_singleton]; omega) HB2.out.size).mono ?_; rintro e w3 ⟨rfl, hd3, hb3⟩; have HD3 := Lib.hid hd3; have HB3 : Hid (Below w.heap.size w w3) := Lib.hid (HB2.out.trans hb3); clear hd3 hb3)
          | (go_at_call 10; refine (wbyte HI.out.1 92 (by have := HLN.out; omega) HI.out.2.size).mono ?_; rintro e w2 ⟨rfl, hd2, hb2⟩; have HD2 := Lib.hid hd2; have HB2 : Hid (Below w.heap.size w w2) := Lib.hid (HI.out.2.trans hb2); clear hd2 hb2))
        go_roundw
        case rel => exact ⟨i + 1, by go_num, by omega, Lib.hid ⟨by rw [HPC.out, HPE.out]; have h := HD3.out; rw [List.append_assoc] at h; exact h, HB3.out⟩⟩
        case measure => simp [intOf]; omega
      | false =>
        obtain ⟨hk2, hk3⟩ := he2 hes
        have HMB2 : Hid (∀ W, Calls Tryd.prog 14 #[.string ⟨#[34, 92, 10, 9, 13]⟩, .int .u8 (c.toNat : Int)] W fun e w' => e = .returned (.int .i64 (-1)) ∧ W = w') := Lib.hid fun W => (HMB.out W).mono fun e w' ⟨⟨j, h1, h2, _⟩, h3⟩ => ⟨by rw [h1, h2]; show Ending.returned (.int .i64 (Lib.indexByte escW c)) = _; rw [hk2], h3.symm⟩
        clear hk2 he1 he2 hes HMB
        by_cases hx : c.toNat < 32 ∨ c.toNat = 127
        · rw [if_pos hx] at hk3
          have HPE := Lib.hid hk3
          have HTW : Hid (∀ w, Calls Tryd.prog 44 #[.int .i64 (c.toNat : Int)] w fun e w' => e = .returned (.string ⟨(two c.toNat).toArray⟩) ∧ Below w.heap.size w w') := Lib.hid fun w => two_any c.toNat w HC.out
          have HWS : Hid (∀ w5, Below wr.heap.size wr w5 → Calls Tryd.prog 11 #[.pointer (some ⟨w.heap.size, 0, none⟩), .string (({ data := #[92, 120] } : ByteArray) ++ { data := (two c.toNat).toArray } ++ { data := #[59] })] w5 fun e w' => (∃ z : Int, e = .returned (.tuple #[.int .i64 z, .nilIface])) ∧ Hid (Bd w' w.heap.size w.heap.size (34 :: bodyT ((tl S).take (i + 1))) ∧ Below w.heap.size w w')) := Lib.hid fun w5 hb5 => by
            have hs : (({ data := #[92, 120] } : ByteArray) ++ { data := (two c.toNat).toArray } ++ { data := #[59] }) = ⟨([92, 120] ++ two c.toNat ++ [59]).toArray⟩ := cat_str3 [92, 120] (two c.toNat) [59]
            have h := wstr (HI.out.1.below hb5) (({ data := #[92, 120] } : ByteArray) ++ { data := (two c.toNat).toArray } ++ { data := #[59] }) (by
              rw [hs]
              have := HLN.out
              show _ + ([92, 120] ++ two c.toNat ++ [59]).toArray.size ≤ _
              rw [List.size_toArray]
              simp [two]; simp at this; omega) (Nat.le_trans HI.out.2.size hb5.size)
            refine h.mono ?_
            rintro e w' ⟨rfl, h1, h2⟩
            rw [hs] at h1
            refine ⟨⟨_, rfl⟩, Lib.hid ⟨?_, (HI.out.2.trans (hb5.mono HI.out.2.size)).trans h2⟩⟩
            rw [HPC.out, HPE.out]
            exact h1
          have hcc : IntKind.i64.wrap (c.toNat : Int) = (c.toNat : Int) := by have := HC.out; rw [IntKind.wrap_i64]; omega
          by_cases h3 : c.toNat < 32
          · have d1 : decide ((c.toNat : Int) < 32) = true := decide_eq_true (by omega)
            have d1n : decide (c.toNat < 32) = true := decide_eq_true h3
            clear hx hk3 h3
            go_wp2_with (first
              | (go_at_call 14; refine (HMB2.out _).mono ?_; rintro e w' ⟨rfl, rfl⟩)
              | (go_at_call 44; refine (HTW.out _).mono ?_; rintro e w5 ⟨rfl, hb5⟩; have HB5 := Lib.hid hb5; clear hb5)
              | (go_at_call 11; refine (HWS.out _ HB5.out).mono ?_; rintro e w6 ⟨⟨z, rfl⟩, HD6⟩))
            go_roundw
            case rel => exact ⟨i + 1, by go_num, by omega, HD6⟩
            case measure => simp [intOf]; omega
          · have d1 : decide ((c.toNat : Int) < 32) = false := decide_eq_false (by omega)
            have d1n : decide (c.toNat < 32) = false := decide_eq_false h3
            have d2 : ((c.toNat : Int) == 127) = true := by rw [beq_iff_eq]; omega
            have d2n : (c.toNat == 127) = true := by rw [beq_iff_eq]; omega
            clear hx hk3 h3
            go_wp2_with (first
              | (go_at_call 14; refine (HMB2.out _).mono ?_; rintro e w' ⟨rfl, rfl⟩)
              | (go_at_call 44; refine (HTW.out _).mono ?_; rintro e w5 ⟨rfl, hb5⟩; have HB5 := Lib.hid hb5; clear hb5)
              | (go_at_call 11; refine (HWS.out _ HB5.out).mono ?_; rintro e w6 ⟨⟨z, rfl⟩, HD6⟩))
            go_roundw
            case rel => exact ⟨i + 1, by go_num, by omega, HD6⟩
            case measure => simp [intOf]; omega
        · rw [if_neg hx] at hk3
          have HPE := Lib.hid hk3
          have d1 : decide ((c.toNat : Int) < 32) = false := decide_eq_false (by omega)
          have d1n : decide (c.toNat < 32) = false := decide_eq_false (by omega)
          have d2 : ((c.toNat : Int) == 127) = false := by rw [beq_eq_false_iff_ne]; omega
          have d2n : (c.toNat == 127) = false := by rw [beq_eq_false_iff_ne]; omega
          clear hx hk3
          go_wp2_with (first
            | (go_at_call 14; refine (HMB2.out _).mono ?_; rintro e w' ⟨rfl, rfl⟩)
            | (go_at_call 10; refine (wbyte HI.out.1 c (by have := HLN.out; omega) HI.out.2.size).mono ?_; rintro e w2 ⟨rfl, hd2, hb2⟩; have HD2 := Lib.hid hd2; have HB2 : Hid (Below w.heap.size w w2) := Lib.hid (HI.out.2.trans hb2); clear hd2 hb2))
          go_roundw
          case rel => exact ⟨i + 1, by go_num, by omega, Lib.hid ⟨by rw [HPC.out, HPE.out]; exact HD2.out, HB2.out⟩⟩
          case measure => simp [intOf]; omega
    · have hie : i = S.size := by omega
      have hta : (tl S).take i = tl S := List.take_of_length_le (by rw [HLL.out]; omega)
      rw [hta] at HI HLN
      clear hlt hta
      subst hie
      go_wp2_with (first
        | (go_at_call 10; refine (wbyte HI.out.1 34 (by have := HLN.out; omega) HI.out.2.size).mono ?_; rintro e w2 ⟨rfl, hd2, hb2⟩; have HD2 := Lib.hid hd2; have HB2 : Hid (Below w.heap.size w w2) := Lib.hid (HI.out.2.trans hb2); clear hd2 hb2)
        | (go_at_call 13; refine (bstring HD2.out HB2.out.size).mono ?_; rintro e w3 ⟨rfl, hb3⟩; have HB3 : Hid (Below w.heap.size w w3) := Lib.hid (HB2.out.trans hb3); clear hb3))
      go_ret
      exact ⟨rfl, HB3.out⟩
end Go.Proofs.YtjpbbooeihdnfaaDoor
