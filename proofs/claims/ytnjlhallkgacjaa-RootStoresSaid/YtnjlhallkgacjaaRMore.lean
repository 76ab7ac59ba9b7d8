/- What the document's answer for the sum of bytes behind a sum returns. -/
import Derived.Test.YtnjlhallkgacjaaStep
namespace Go.Proofs.Ytnjlhallkgacjaa
open Go.RowKit

structure MoreRel (w wr : World) (g R k : Nat) (bs : List Nat) (R0 : Nat) : Prop where
  below : Below w.heap.size w wr
  far : w.heap.size ≤ g
  lt : R < 4294967296
  is : eats R0 (bs.take k) = R
  row : IsRow wr g R.testBit

set_option maxHeartbeats 1600000 in
theorem rmore_pos (s : Nat) (b o n c : Nat) (bs : List Nat) (w : World) (hs : s < 4294967296) (hm : n ≤ 9223372036854775807) (hB : Bys w (some ⟨b, o, none⟩) n bs) :
    Calls Try.prog 43 #[.int .u32 s, .slice (some ⟨b, o, none⟩) n c] w fun e w' => e = .returned (.int .u32 (more s bs : Nat)) ∧ Below w.heap.size w w' := by
  have HB := Lib.hid hB
  clear hB
  have hR : full ^^^ s < 4294967296 := xor_lt (by decide) hs
  have K1 := Lib.hid (rowF_one (full ^^^ s).testBit)
  have KI := Lib.hid (info84 (full ^^^ s).testBit)
  have KS : Hid ((rowF fun _ => false).size = (rowF (full ^^^ s).testBit).size) := Lib.hid (by rw [rowF_size, rowF_size])
  have hz : rowF (fun _ => false) = #[.bool false, .bool false, .bool false, .bool false, .bool false, .bool false, .bool false, .bool false, .bool false, .bool false, .bool false, .bool false, .bool false, .bool false, .bool false, .bool false, .bool false, .bool false, .bool false, .bool false, .bool false, .bool false, .bool false, .bool false, .bool false, .bool false, .bool false, .bool false, .bool false, .bool false, .bool false, .bool false] := rfl
  have HZ := Lib.hid hz
  clear hz
  go_enter Try.func43, Try.ntmps43
  go_wp2_with fail
  refine (of_any s _ hs).mono ?_
  rintro e w1 ⟨rfl, hb⟩
  have HO : Hid ((w1.alloc (.cells (rowF fun _ => false) 84)).heap[w1.heap.size]? = some (.cells (rowF fun _ => false) 84 (0, 0))) := Lib.hid (heap_alloc_new w1 _)
  have H0 : Hid (MoreRel w ((w1.alloc (.cells (rowF fun _ => false) 84)).setRow w1.heap.size (rowF (full ^^^ s).testBit)) w1.heap.size (full ^^^ s) 0 bs (full ^^^ s)) :=
    Lib.hid ⟨below_row (hb.alloc hb.size _) hb.size _, hb.size, hR, rfl, setRow_heap _ _ _ _ _ _ HO.out⟩
  rw [HZ.out] at HO H0 KS
  clear hb HZ
  go_wp2_with (refine wpList_store_row rfl 84 (.tmp 5) (.tmp 8) rfl w1.heap.size (rowF (full ^^^ s).testBit) rfl rfl 84 _ HO.out KI.out KS.out K1.out ?_)
  clear HO KS K1 KI
  generalize (World.setRow _ _ _) = W at *
  generalize w1.heap.size = g at *
  generalize hRe : full ^^^ s = R0 at *
  have HE : Hid (full ^^^ s = R0) := Lib.hid hRe
  clear hRe
  go_loopw [6] (fun iv wr => ∃ k R : Nat, k ≤ n ∧ iv = .int .i64 (k : Int) ∧ MoreRel w wr g R k bs R0) (fun i _ => n - (intOf i).toNat)
  case atStart => exact ⟨0, R0, by omega, by go_num, H0.out⟩
  case round =>
    obtain ⟨k, R, hk, rfl, hr⟩ := hrel
    have HR := Lib.hid hr
    clear hr H0
    by_cases hlt : k < n
    · have hd : decide ((k : Int) < (n : Int)) = true := decide_eq_true (by omega)
      obtain ⟨b2, o2, hbo, hc0⟩ := (HB.out.below HR.out.below).at (by omega)
      cases hbo
      have hcell := hc0 k hlt
      clear hc0
      have hx := HB.out.getD k
      have HS := Lib.hid (eats_snoc R0 bs k (by rw [HB.out.len]; exact hlt))
      generalize bs.getD k 0 = x at *
      have HG : Hid (wr.heap[g]? = some (.cells (rowF R.testBit) 84 (0, 0))) := Lib.hid HR.out.row
      have hRl := HR.out.lt
      go_wp2_with fail
      refine wp_region_any (by kernel_rfl) ?_
      refine wpAny_take (i := 1) (v := .slice (some ⟨b, o, none⟩) n c) rfl (by kernel_rfl) (by kernel_rfl) (by kernel_rfl) (fun _ _ _ h => h) (Or.inl ⟨by rfl, fun w => by go_simp⟩) ?_
      refine wpAny_take (i := 2) (v := .int .i64 (k : Int)) rfl (by kernel_rfl) (by kernel_rfl) (by kernel_rfl) (fun _ _ _ h => h) (Or.inl ⟨by rfl, fun w => by go_simp⟩) ?_
      refine wpAny_take (i := 3) (v := .pointer (some ⟨b, o + k, none⟩)) rfl (by kernel_rfl) (by kernel_rfl) (by kernel_rfl) (fun _ _ _ h => h) (Or.inl ⟨by rfl, fun w => by go_simp⟩) ?_
      refine wpAny_ready (rs := [0, 4]) (by kernel_rfl) (by simp) ?_
      refine AllReady.cons rfl (fun K hK => ?_) ?_
      · rw [if_pos (by rfl)]
        refine wp_load_row 84 (.tmp 5) rfl g rfl 84 (rowF R.testBit) (0, 0) _ HG.out Try.underlying84 rfl (info84 _) ?_
        refine hK _ _ ?_
        clear hK K
        refine wpAny_ready (rs := [4]) (by kernel_rfl) (by simp) ?_
        refine AllReady.cons rfl (fun K hK => ?_) AllReady.nil
        go_simp
        refine hK _ _ ?_
        clear hK K
        refine wpAny_ready (rs := [5]) (by kernel_rfl) (by simp) ?_
        refine AllReady.cons rfl (fun K hK => ?_) AllReady.nil
        go_simp
        go_wp2_with (go_at_call 49; refine (step_any R x _ hRl hx).mono ?_; rintro e w3 ⟨rfl, hb⟩; have HB3 : Hid (Below wr.heap.size wr w3) := Lib.hid (((Below.refl wr.heap.size wr).drew).trans hb); clear hb)
        have HG3 : Hid (w3.heap[g]? = some (.cells (rowF R.testBit) 84 (0, 0))) := Lib.hid (HR.out.row.below HB3.out)
        have HN : Hid (MoreRel w (w3.setRow g (rowF (eat R x).testBit)) g (eat R x) (k + 1) bs R0) :=
          Lib.hid ⟨below_row (HR.out.below.trans (Below.mono HB3.out HR.out.below.size)) HR.out.far _, HR.out.far, eat_lt hRl hx, by rw [HS.out, HR.out.is], setRow_heap _ _ _ _ _ _ HG3.out⟩
        refine wpAny_ready (rs := [6]) (by kernel_rfl) (by simp) ?_
        refine AllReady.cons rfl (fun K hK => ?_) AllReady.nil
        rw [if_pos (by rfl)]
        refine wp_store_row 84 (.tmp 5) (.tmp 20) rfl g (rowF (eat R x).testBit) rfl rfl 84 (rowF R.testBit) HG3.out (info84 _) (by rw [rowF_size, rowF_size]) (rowF_one _) ?_
        refine hK _ _ ?_
        clear hK K
        refine wpAny_done (by kernel_rfl) ?_ _
        go_wp2_with fail
        go_roundw
        case rel => exact ⟨k + 1, _, by omega, by go_num, HN.out⟩
        case measure => simp [intOf]; omega
      · refine AllReady.cons rfl (fun K hK => ?_) AllReady.nil
        go_simp
        refine hK _ _ ?_
        clear hK K
        refine wpAny_ready (rs := [0]) (by kernel_rfl) (by simp) ?_
        refine AllReady.cons rfl (fun K hK => ?_) AllReady.nil
        rw [if_pos (by rfl)]
        refine wp_load_row 84 (.tmp 5) rfl g rfl 84 (rowF R.testBit) (0, 0) _ HG.out Try.underlying84 rfl (info84 _) ?_
        refine hK _ _ ?_
        clear hK K
        refine wpAny_ready (rs := [5]) (by kernel_rfl) (by simp) ?_
        refine AllReady.cons rfl (fun K hK => ?_) AllReady.nil
        go_simp
        go_wp2_with (go_at_call 49; refine (step_any R x _ hRl hx).mono ?_; rintro e w3 ⟨rfl, hb⟩; have HB3 : Hid (Below wr.heap.size wr w3) := Lib.hid (((Below.refl wr.heap.size wr).drew).trans hb); clear hb)
        have HG3 : Hid (w3.heap[g]? = some (.cells (rowF R.testBit) 84 (0, 0))) := Lib.hid (HR.out.row.below HB3.out)
        have HN : Hid (MoreRel w (w3.setRow g (rowF (eat R x).testBit)) g (eat R x) (k + 1) bs R0) :=
          Lib.hid ⟨below_row (HR.out.below.trans (Below.mono HB3.out HR.out.below.size)) HR.out.far _, HR.out.far, eat_lt hRl hx, by rw [HS.out, HR.out.is], setRow_heap _ _ _ _ _ _ HG3.out⟩
        refine wpAny_ready (rs := [6]) (by kernel_rfl) (by simp) ?_
        refine AllReady.cons rfl (fun K hK => ?_) AllReady.nil
        rw [if_pos (by rfl)]
        refine wp_store_row 84 (.tmp 5) (.tmp 20) rfl g (rowF (eat R x).testBit) rfl rfl 84 (rowF R.testBit) HG3.out (info84 _) (by rw [rowF_size, rowF_size]) (rowF_one _) ?_
        refine hK _ _ ?_
        clear hK K
        refine wpAny_done (by kernel_rfl) ?_ _
        go_wp2_with fail
        go_roundw
        case rel => exact ⟨k + 1, _, by omega, by go_num, HN.out⟩
        case measure => simp [intOf]; omega
    · have hd : decide ((k : Int) < (n : Int)) = false := decide_eq_false (by omega)
      have hRl := HR.out.lt
      have HV : Hid (full ^^^ R = more s bs) := Lib.hid (by
        have h := HR.out.is
        rw [List.take_of_length_le (by rw [HB.out.len]; omega)] at h
        rw [← h, ← HE.out]; rfl)
      have HG : Hid (wr.heap[g]? = some (.cells (rowF R.testBit) 84 (0, 0))) := Lib.hid HR.out.row
      have KI := Lib.hid (info84 R.testBit)
      have HW := Lib.hid HR.out.below
      clear HR
      go_wp2_with (refine wpList_load_row rfl 84 (.tmp 5) rfl g rfl 84 (rowF R.testBit) (0, 0) _ HG.out Try.underlying84 rfl KI.out ?_)
      refine (number_any R _ hRl).mono ?_
      rintro e w4 ⟨rfl, hb⟩
      have HZ := Lib.hid (HW.out.trans (hb.mono HW.out.size))
      clear hb
      go_wp2_with fail
      go_ret
      exact ⟨ret_u32 HV.out, HZ.out⟩

set_option maxHeartbeats 1600000 in
theorem rmore_zero (s : Nat) (p : Option Addr) (c : Nat) (w : World) (hs : s < 4294967296) :
    Calls Try.prog 43 #[.int .u32 s, .slice p 0 c] w fun e w' => e = .returned (.int .u32 (s : Nat)) ∧ Below w.heap.size w w' := by
  have hR : full ^^^ s < 4294967296 := xor_lt (by decide) hs
  have hV : full ^^^ (full ^^^ s) = s := by rw [← Nat.xor_assoc, Nat.xor_self, Nat.zero_xor]
  have HV := Lib.hid hV
  clear hV
  generalize hRe : full ^^^ s = R0 at *
  have HE := Lib.hid hRe
  clear hRe
  have K1 := Lib.hid (rowF_one R0.testBit)
  have KI := Lib.hid (info84 R0.testBit)
  have KS : Hid ((rowF fun _ => false).size = (rowF R0.testBit).size) := Lib.hid (by rw [rowF_size, rowF_size])
  have hz : rowF (fun _ => false) = #[.bool false, .bool false, .bool false, .bool false, .bool false, .bool false, .bool false, .bool false, .bool false, .bool false, .bool false, .bool false, .bool false, .bool false, .bool false, .bool false, .bool false, .bool false, .bool false, .bool false, .bool false, .bool false, .bool false, .bool false, .bool false, .bool false, .bool false, .bool false, .bool false, .bool false, .bool false, .bool false] := rfl
  have HZ := Lib.hid hz
  clear hz
  go_enter Try.func43, Try.ntmps43
  go_wp2_with fail
  refine (of_any s _ hs).mono ?_
  rintro e w1 ⟨rfl, hb⟩
  rw [HE.out]
  have HO : Hid ((w1.alloc (.cells (rowF fun _ => false) 84)).heap[w1.heap.size]? = some (.cells (rowF fun _ => false) 84 (0, 0))) := Lib.hid (heap_alloc_new w1 _)
  have H0 : Hid (MoreRel w ((w1.alloc (.cells (rowF fun _ => false) 84)).setRow w1.heap.size (rowF R0.testBit)) w1.heap.size R0 0 [] R0) :=
    Lib.hid ⟨below_row (hb.alloc hb.size _) hb.size _, hb.size, hR, rfl, setRow_heap _ _ _ _ _ _ HO.out⟩
  rw [HZ.out] at HO H0 KS
  clear hb HZ
  go_wp2_with (refine wpList_store_row rfl 84 (.tmp 5) (.tmp 8) rfl w1.heap.size (rowF R0.testBit) rfl rfl 84 _ HO.out KI.out KS.out K1.out ?_)
  clear HO KS K1
  generalize (World.setRow _ _ _) = W at *
  generalize w1.heap.size = g at *
  go_loopw [6] (fun iv wr => iv = .int .i64 0 ∧ MoreRel w wr g R0 0 [] R0) (fun _ _ => 0)
  case atStart => exact ⟨by go_num, H0.out⟩
  case round =>
    obtain ⟨rfl, hr⟩ := hrel
    have HG : Hid (wr.heap[g]? = some (.cells (rowF R0.testBit) 84 (0, 0))) := Lib.hid hr.row
    have HW := Lib.hid hr.below
    clear hr H0
    go_wp2_with (refine wpList_load_row rfl 84 (.tmp 5) rfl g rfl 84 (rowF R0.testBit) (0, 0) _ HG.out Try.underlying84 rfl KI.out ?_)
    refine (number_any R0 _ hR).mono ?_
    rintro e w4 ⟨rfl, hb⟩
    have HZ := Lib.hid (HW.out.trans (hb.mono HW.out.size))
    clear hb
    go_wp2_with fail
    go_ret
    exact ⟨ret_u32 HV.out, HZ.out⟩

theorem rmore_any (s : Nat) (p : Option Addr) (n c : Nat) (bs : List Nat) (w : World) (hs : s < 4294967296) (hm : n ≤ 9223372036854775807) (hB : Bys w p n bs) :
    Calls Try.prog 43 #[.int .u32 s, .slice p n c] w fun e w' => e = .returned (.int .u32 (more s bs : Nat)) ∧ Below w.heap.size w w' := by
  rcases Nat.eq_zero_or_pos n with h | h
  · subst h
    rw [hB.nil_, more_nil]
    exact rmore_zero s p c w hs
  · obtain ⟨b, o, rfl, hc⟩ := hB.at h
    exact rmore_pos s b o n c bs w hs hm hB

end Go.Proofs.Ytnjlhallkgacjaa
