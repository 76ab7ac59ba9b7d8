/- A page's bytes, as the document tells them. -/
import Derived.Test.YtldkmkgkllgckaaDoorRef
import Derived.Test.YtldkmkgkllgckaaDoorBMdl
set_option linter.unusedSimpArgs false
namespace Go.Proofs.YtldkmkgkllgckaaDoor
open Go.RowKit

theorem strB_append (a b : List Nat) : strB a ++ strB b = strB (a ++ b) := by
  have h : (strB a ++ strB b).data = (strB (a ++ b)).data := by
    apply Array.ext'
    rw [ByteArray.data_append, Array.toList_append]
    unfold strB
    rw [strOfNums_data, strOfNums_data, strOfNums_data, List.map_append, List.map_append]
  cases e1 : strB a ++ strB b with
  | mk d1 => cases e2 : strB (a ++ b) with
    | mk d2 => rw [e1, e2] at h; simp only at h; rw [h]
theorem conv_lit (w : World) (bs : List Nat) (h : ∀ x ∈ bs, x < 256) (hl : bs.length ≤ 4096) : (convert 61 9 (.slice (some ⟨w.heap.size, 0, none⟩) bs.length bs.length)).run Tryd.prog (w.alloc (.cells (u8s bs).toArray 5)) = .ok (.string (strB bs)) (w.alloc (.cells (u8s bs).toArray 5)) := by
  have hown := World.ownsRow_lit (base := w.heap.size) (e := 5) (size := 1) w (u8s bs).toArray bs.length (Nat.le_refl _) (by unfold maxLen; omega) (by simp [u8s_len])
  exact (Bys.of_row hown h).conv _
section
variable {w : World} {v : Value} {l : List Sl}
/-- Amid the loop: the two strings so far. -/
structure Rb (w wr : World) (sv tv : Value) (N : Nat) (l : List Sl) : Prop where
  below : Below w.heap.size w wr
  s : ∃ S : ByteArray, sv = .string S ∧ S = strB ([N] ++ headM l)
  t : ∃ T : ByteArray, tv = .string T ∧ T = strB (recsM l)
set_option maxHeartbeats 1600000 in
theorem rbytes_any (h : Rf w v l) (ho : Okp l) : Calls Tryd.prog 22 #[v] w fun e w' => e = .returned (.string (bytesS l)) ∧ Below w.heap.size w w' := by
  have HP := Lib.hid h
  have HOK := Lib.hid ho
  obtain ⟨q, c, rfl⟩ := h.form
  have hl := ho.len
  clear h ho
  obtain ⟨i0, hi, hz0, hz1, hz2⟩ := info_parts Tryd.info5
  have HI := Lib.hid hi
  have HZ0 := Lib.hid hz0
  have HZ1 := Lib.hid hz1
  have HZ2 := Lib.hid hz2
  clear hi hz0 hz1 hz2
  obtain ⟨N, HN⟩ : ∃ N, Hid (l.length = N) := ⟨_, Lib.hid rfl⟩
  rw [HN.out] at hl ⊢
  have hcv0 := conv_lit w [N] (by intro x hx; simp at hx; omega) (by simp)
  have e0 : (u8s [N]).toArray = #[.int .u8 (N : Int)] := rfl
  rw [e0] at hcv0
  have hcv1 : (convert 61 9 (.slice (some ⟨w.heap.size, 0, none⟩) 1 1)).run Tryd.prog (w.alloc (.cells #[.int .u8 (N : Int)] 5)) = .ok (.string (strB [N])) (w.alloc (.cells #[.int .u8 (N : Int)] 5)) := hcv0
  clear hcv0 e0
  obtain ⟨S0, HS0⟩ : ∃ S0, Hid (S0 = strB [N]) := ⟨_, Lib.hid rfl⟩
  rw [← HS0.out] at hcv1
  go_enter Tryd.func22, Tryd.ntmps22
  go_upto_region 3 with fail
  clear hcv1
  have H0 : Hid (Rb w (w.alloc (.cells #[.int .u8 (N : Int)] 5)) (.string S0) (.string ⟨#[]⟩) N (l.take 0)) := Lib.hid ⟨(Below.refl _ _).alloc (Nat.le_refl _) _, ⟨S0, rfl, HS0.out⟩, ⟨_, rfl, rfl⟩⟩
  generalize w.alloc (.cells #[.int .u8 (N : Int)] 5) = w0 at *
  go_wp2_with fail
  go_loopw [3, 4, 5] (fun sv tv iv wr => ∃ i : Nat, i ≤ N ∧ iv = .int .i64 (i : Int) ∧ Hid (Rb w wr sv tv N (l.take i))) (fun _ _ iv _ => N - (intOf iv).toNat)
  case atStart => exact ⟨0, Nat.zero_le _, by go_num, H0⟩
  case round =>
    obtain ⟨i, hi, rfl, hr⟩ := hrel
    clear H0
    obtain ⟨hbel, ⟨S, rfl, hS⟩, ⟨T, rfl, hT⟩⟩ := hr.out
    have HS := Lib.hid hS
    have HT := Lib.hid hT
    have HBEL := Lib.hid hbel
    have htk : tot (l.take i) ≤ 512 := Nat.le_trans (tot_take_le l i) (tot_le HOK.out)
    have HSZ : Hid (S.size = 1 + 2 * i) := Lib.hid (by rw [hS, strB_size, List.length_append, headM_len, List.length_take, HN.out, Nat.min_eq_left hi]; rfl)
    have HTZ : Hid (T.size = tot (l.take i)) := Lib.hid (by rw [hT, strB_size, recsM_len])
    clear hr hS hT hbel
    by_cases hlt : i < N
    · have hil : i < l.length := by rw [HN.out]; exact hlt
      obtain ⟨b, c', e, hc, a1, a2⟩ := (HP.out.below HBEL.out).at hil
      rw [HN.out] at e hc
      cases e
      have hiN : (i : Int) < (N : Int) := by omega
      have hz1 : (recOf (slot l i)).size ≤ 480 := HOK.out.szs i
      have HZC : Hid (szc (slot l i) = if (slot l i).isSome = true then (recOf (slot l i)).size + 1 else 0) := Lib.hid rfl
      have hzc : szc (slot l i) ≤ 513 := szc_le (by have : sz (slot l i) ≤ 480 := hz1; omega)
      have HHD : Hid (headM (l.take (i + 1)) = headM (l.take i) ++ [szc (slot l i) / 256, szc (slot l i) % 256]) := Lib.hid (by rw [take_slot hil, headM_snoc])
      have HRD : Hid (recsM (l.take (i + 1)) = recsM (l.take i) ++ nums (recOf (slot l i))) := Lib.hid (by rw [take_slot hil, recsM_snoc])
      have HCV : Hid (∀ wx : World, (convert 61 9 (.slice (some ⟨wx.heap.size, 0, none⟩) 2 2)).run Tryd.prog (wx.alloc (.cells (u8s [szc (slot l i) / 256, szc (slot l i) % 256]).toArray 5)) = .ok (.string (strB [szc (slot l i) / 256, szc (slot l i) % 256])) (wx.alloc (.cells (u8s [szc (slot l i) / 256, szc (slot l i) % 256]).toArray 5))) := Lib.hid (fun wx => conv_lit wx [szc (slot l i) / 256, szc (slot l i) % 256] (by intro x hx; simp at hx; rcases hx with rfl | rfl <;> omega) (by simp))
      generalize hbb : (slot l i).isSome = bb at *
      generalize recOf (slot l i) = rr at *
      generalize szc (slot l i) = z at *
      clear hbb
      have HU : Hid ((u8s [z / 256, z % 256]).toArray = #[.int .u8 ((z : Int) / 256), .int .u8 ((z : Int) % 256)]) := Lib.hid (by simp [u8s])
      rw [HU.out] at HCV
      go_upto_region 7 with fail
      go_upto_if 22 with fail
      go_cut [6] (fun v wx => v = .int .i64 (z : Int) ∧ Hid (wx = wr))
      case first =>
        cases bb with
        | true =>
          have hz : (rr.size : Int) + 1 = (z : Int) := by have := HZC.out; rw [if_pos rfl] at this; omega
          have HZZ := Lib.hid hz
          clear hz
          go_wp2_with fail
          go_meet
          exact ⟨by rw [HZZ.out], Lib.hid rfl⟩
        | false =>
          have hz : z = 0 := by have := HZC.out; rw [if_neg (by simp)] at this; exact this
          have HZZ := Lib.hid hz
          clear hz
          go_wp2_with fail
          go_meet
          exact ⟨by rw [HZZ.out]; rfl, Lib.hid rfl⟩
      case rest =>
        obtain ⟨rfl, hw⟩ := hcut
        have hw2 := hw.out
        subst hw2
        have hcv := HCV.out wc
        have y1 := (((Below.refl wc.heap.size wc).alloc (Nat.le_refl _) (.cells #[.int .u8 ((z : Int) / 256), .int .u8 ((z : Int) % 256)] 5)).cell (p := ⟨b, i * 2, none⟩) (World.block_lt_of_cell? wc _ a1)).trans a1
        have y2 := (((Below.refl wc.heap.size wc).alloc (Nat.le_refl _) (.cells #[.int .u8 ((z : Int) / 256), .int .u8 ((z : Int) % 256)] 5)).cell (p := ⟨b, i * 2 + 1, none⟩) (World.block_lt_of_cell? wc _ a2)).trans a2
        have hs1 : S.size ≤ 129 := by have := HSZ.out; omega
        have ht1 : T.size ≤ 512 := by have := HTZ.out; omega
        have hb1 : (strB [z / 256, z % 256]).size = 2 := by rw [strB_size]; rfl
        have HR : Hid (Rb w (wc.alloc (.cells #[.int .u8 ((z : Int) / 256), .int .u8 ((z : Int) % 256)] 5)) (.string (S ++ strB [z / 256, z % 256])) (.string (T ++ rr)) N (l.take (i + 1))) := Lib.hid ⟨HBEL.out.alloc HBEL.out.size _, ⟨_, rfl, by rw [HS.out, strB_append, HHD.out, List.append_assoc]⟩, ⟨_, rfl, by rw [HT.out, HRD.out, ← strB_append, strB_nums]⟩⟩
        go_wp2_with fail
        go_roundw
        case rel => exact ⟨i + 1, by omega, by go_num, HR⟩
        case measure => simp [intOf]; omega
    · obtain rfl : i = N := by omega
      have hfull : l.take i = l := List.take_of_length_le (by rw [HN.out]; exact Nat.le_refl _)
      rw [hfull] at HS HT HTZ htk
      clear hfull
      have HST : Hid (S ++ T = strB ([i] ++ headM l ++ recsM l)) := Lib.hid (by rw [HS.out, HT.out, strB_append])
      have hs1 : S.size ≤ 129 := by have := HSZ.out; omega
      have ht1 : T.size ≤ 512 := by have := HTZ.out; omega
      have hst : (S ++ T).size = need l := by rw [ByteArray.size_append, HSZ.out, HTZ.out]; unfold need; have := HN.out; omega
      have hnd := HOK.out.need
      obtain ⟨z, HZ⟩ : ∃ z, Hid (512 - need l = z) := ⟨_, Lib.hid rfl⟩
      obtain ⟨y, HY⟩ : ∃ y, Hid (need l = y) := ⟨_, Lib.hid rfl⟩
      rw [HY.out] at hst hnd
      have hzy : 512 - (y : Int) = (z : Int) := by have := HZ.out; have := HY.out; omega
      have HZY := Lib.hid hzy
      have hsum : ((S ++ T).size : Int) = (y : Int) := by rw [hst]
      have H63 : Hid (z ≤ maxLen) := Lib.hid (by have := HZ.out; unfold maxLen; omega)
      have HBY : Hid (i0.bytes * z ≤ 281474976710656) := Lib.hid (by rw [HZ2.out]; have := HZ.out; omega)
      have HBS : Hid (w.heap.size ≤ wr.heap.size) := Lib.hid HBEL.out.size
      have HBYT : Hid (strB (bytesM l) = strB ([i] ++ headM l ++ recsM l) ++ strB (List.replicate z 0)) := Lib.hid (by rw [strB_append]; unfold bytesM; rw [HN.out, HZ.out])
      have hzz : z ≤ 512 := by have := HZ.out; omega
      have hsz3 : S.size + T.size = y := by rw [← ByteArray.size_append]; exact hst
      clear hzy
      go_wp2_with (refine wpList_make_full _ rfl _ _ 61 rfl w.heap.size 5 i0 (.int .u8 0) 1 Tryd.underlying61 HI.out HZ0.out HZ1.out .i64 .i64 _ _ z rfl rfl HZY.out HZY.out HBY.out H63.out HBS.out ?_; intro w1 hown hgrow; have HB1 := Lib.hid (HBEL.out.grown hgrow HBS.out (fun k e => by cases e)); have hz := zeros_of z; simp only [Value.cells, Nat.mul_one] at hown; rw [hz] at hown; have hconv := (Bys.of_row hown (fun d hd => by obtain rfl := (List.mem_replicate.1 hd).2; omega)).conv z; obtain ⟨Z, HZS⟩ : ∃ Z, Hid (Z = strB (List.replicate z 0)) := ⟨_, Lib.hid rfl⟩; rw [← HZS.out] at hconv; have hZs : Z.size = z := (by rw [HZS.out, strB_size, List.length_replicate]); clear hown hgrow hz)
      go_ret
      refine ⟨?_, HB1.out⟩
      have h9 : S ++ T ++ Z = bytesS l := by unfold bytesS; rw [HBYT.out, HST.out, HZS.out]
      rw [← h9]
      rfl
end
end Go.Proofs.YtldkmkgkllgckaaDoor
