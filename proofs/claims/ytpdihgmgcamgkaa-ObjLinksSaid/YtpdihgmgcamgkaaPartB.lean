/- partBytes: a part's bytes. -/
import Derived.Test.YtpdihgmgcamgkaaTakeB
set_option linter.unusedSimpArgs false
set_option maxRecDepth 20000
namespace Go.Proofs.Ytpdihgmgcamgkaa
open Go.RowKit

theorem strB_get (b : List Nat) (i : Nat) (hi : i < b.length) : (strB b).data[i]? = some (UInt8.ofNat (b.getD i 0)) := by
  have h := strOfNums_data (b.map Int.ofNat)
  have h2 : (strB b).data[i]? = (strB b).data.toList[i]? := by rw [Array.getElem?_toList]
  rw [h2]
  unfold strB
  rw [h, List.map_map, List.getElem?_map, List.getElem?_eq_getElem hi, List.getD_eq_getElem?_getD, List.getElem?_eq_getElem hi]
  rfl
/-- '[]byte(s)'. -/
theorem conv_bytes (w : World) (b : List Nat) (hd : ∀ x ∈ b, x < 256) (hn : b.length ≤ 1099511627776) :
    ∃ cap W', (convert 9 42 (.string (strB b))).run Try.prog w = .ok (.slice (some ⟨w.heap.size, 0, none⟩) b.length cap) W' ∧ Below w.heap.size w W' ∧ Bys W' (some ⟨w.heap.size, 0, none⟩) b.length b ∧ b.length ≤ cap ∧ cap ≤ 9223372036854775807 := by
  have hrun := run_bytes_of_string (P := Try.prog) w 9 42 5 (strB b) Try.underlying9 Try.underlying42 Try.underlying5
  rw [strB_size] at hrun
  have hc1 := grownCap_ge w b.length 0 5
  have hc2 := grownCap_le_maxLen w b.length 0 5 (by unfold maxLen; omega)
  refine ⟨_, _, hrun, (Below.refl _ _).drew.alloc (Nat.le_refl _) _, ⟨rfl, hd, fun _ => ⟨w.heap.size, 0, rfl, fun i hi => ?_⟩⟩, hc1, by unfold maxLen at hc2; omega⟩
  rw [Nat.zero_add]
  show (w.drew.alloc _).cell? ⟨w.drew.heap.size, i, none⟩ = _
  rw [cell_of_row _ _ _ _ _ _ (heap_alloc_new w.drew _)]
  unfold bytesRow
  have hsz : ((strB b).data.map (fun c => Value.int .u8 (c.toNat : Int))).size = b.length := by
    rw [Array.size_map]; exact strB_size b
  rw [Array.getElem?_append_left (by rw [hsz]; exact hi), Array.getElem?_map, strB_get b i hi]
  have h3 : b.getD i 0 < 256 := by
    rw [List.getD_eq_getElem?_getD, List.getElem?_eq_getElem hi]
    exact hd _ (List.getElem_mem _)
  simp only [Option.map_some]
  rw [UInt8.toNat_ofNat_of_lt' h3]
theorem conv_str (w : World) (S : ByteArray) (hn : S.size ≤ 1099511627776) :
    ∃ cap W', (convert 9 42 (.string S)).run Try.prog w = .ok (.slice (some ⟨w.heap.size, 0, none⟩) S.size cap) W' ∧ Below w.heap.size w W' ∧ Bys W' (some ⟨w.heap.size, 0, none⟩) S.size (nums S) ∧ S.size ≤ cap ∧ cap ≤ 9223372036854775807 := by
  have h := conv_bytes w (nums S) (nums_dig S) (by rw [nums_len]; exact hn)
  rw [strB_nums, nums_len] at h
  exact h
theorem kB_lt (k : Int) : (k % 256).toNat < 256 := by omega
theorem one_bys (w : World) (x : Nat) (hx : x < 256) : Bys (w.alloc (.cells #[.int .u8 (x : Int)] 5)) (some ⟨w.heap.size, 0, none⟩) 1 [x] :=
  ⟨rfl, by intro y hy; simp at hy; omega, fun _ => ⟨_, 0, rfl, fun i hi => by
    obtain rfl : i = 0 := by omega
    exact World.cell?_alloc_new w _ _ 0⟩⟩
theorem ptB_count {p : Pt} (h : p.k = 1 ∨ p.k = 3 ∨ p.k = 5 ∨ p.k = 8) : ptB p = [(p.k % 256).toNat] ++ numB (cnt p.n) := by
  unfold ptB cnt
  rw [if_pos h, show (max p.n 0).toNat = p.n.toNat by omega]
theorem ptB_whole {p : Pt} (h : p.k = 2) : ptB p = [(p.k % 256).toNat] ++ numB (zig p.n) := by
  unfold ptB
  rw [if_neg (by omega), if_pos h]
theorem ptB_sym {p : Pt} (h : p.k = 4) : ptB p = [(p.k % 256).toNat] ++ numB p.s.size ++ nums p.s := by
  unfold ptB
  rw [if_neg (by omega), if_neg (by omega), if_pos h, List.append_assoc]
theorem ptB_bare {p : Pt} (h1 : p.k ≠ 1) (h3 : p.k ≠ 3) (h5 : p.k ≠ 5) (h8 : p.k ≠ 8) (h2 : p.k ≠ 2) (h4 : p.k ≠ 4) : ptB p = [(p.k % 256).toNat] := by
  unfold ptB
  rw [if_neg (by omega), if_neg h2, if_neg h4, List.append_nil]
theorem made_one (w : World) (x : Nat) (ob : Obj) : Made w.heap.size ((w.alloc ob).alloc (.cells #[.int .u8 (x : Int)] 5)) (.slice (some ⟨w.heap.size + 1, 0, none⟩) 1 1) [x] := by
  have h : ((w.alloc ob).alloc (.cells #[.int .u8 (x : Int)] 5)).heap[w.heap.size + 1]? = some (.cells #[.int .u8 (x : Int)] 5 (0, 0)) := by
    have := heap_alloc_new (w.alloc ob) (.cells #[.int .u8 (x : Int)] 5)
    simpa using this
  exact ⟨_, _, rfl, rfl, .inr ⟨w.heap.size + 1, 1, _, rfl, by omega, h, Nat.le_refl _, by unfold maxLen; omega, rfl, rfl⟩⟩
theorem one_bys2 (w : World) (x : Nat) (hx : x < 256) (ob : Obj) : Bys ((w.alloc ob).alloc (.cells #[.int .u8 (x : Int)] 5)) (some ⟨w.heap.size + 1, 0, none⟩) 1 [x] := by
  have := one_bys (w.alloc ob) x hx
  simpa using this
theorem below_two {w w2 : World} (o1 o2 : Obj) (h : Below ((w.alloc o1).alloc o2).heap.size ((w.alloc o1).alloc o2) w2) : Below w.heap.size w w2 :=
  (((Below.refl w.heap.size w).alloc (Nat.le_refl _) _).alloc (by simp) _).trans (h.mono (by simp; omega))
theorem Made.low {b1 b2 : Nat} {w : World} {v : Value} {bs : List Nat} (h : Made b1 w v bs) (hb : b2 ≤ b1) : Made b2 w v bs := by
  obtain ⟨p, c, e, ho⟩ := h
  exact ⟨p, c, e, own_base hb ho⟩
set_option maxHeartbeats 3200000 in
theorem partBytes_any (p : Pt) (w : World) (hp : PtB p) (hs : p.s.size ≤ 1000) :
    Calls Try.prog 23 #[p.val] w fun e w' => (∃ v, e = .returned v ∧ Made w.heap.size w' v (ptB p)) ∧ Below w.heap.size w w' := by
  have hn0 := hp.n.1
  have hn1 := hp.n.2
  have hw8 : IntKind.u8.wrap p.k = (((p.k % 256).toNat : Nat) : Int) := by rw [IntKind.wrap_u8']; omega
  have hb := kB_lt p.k
  have HC := Lib.hid (fun h => ptB_count (p := p) h)
  have HW := Lib.hid (fun h => ptB_whole (p := p) h)
  have HS := Lib.hid (fun h => ptB_sym (p := p) h)
  have HB := Lib.hid (fun h1 h3 h5 h8 h2 h4 => ptB_bare (p := p) h1 h3 h5 h8 h2 h4)
  clear hp
  obtain ⟨k, n, S⟩ := p
  unfold Pt.val
  simp only at hn0 hn1 hs HC HW HS HB hw8 hb ⊢
  generalize ptB ⟨k, n, S⟩ = B at *
  generalize (k % 256).toNat = x at *
  have H1 := Lib.hid (fun ob => one_bys2 w x hb ob)
  have H2 := Lib.hid (fun ob => made_one w x ob)
  by_cases hk : k = 1 ∨ k = 3 ∨ k = 5 ∨ k = 8
  · have HB2 := Lib.hid (HC.out hk)
    rw [HB2.out]
    clear HC HW HS HB
    rcases hk with rfl | rfl | rfl | rfl
    all_goals
      go_enter Try.func23, Try.ntmps23
      go_wp2_with fail
      refine (count_any _ 1 1 [x] n _ (by omega) (H1.out _) ⟨Nat.le_refl _, fun h => by cases h⟩ hn0 hn1).mono ?_
      rintro e w1 ⟨⟨v, rfl, hM⟩, hb1⟩
      have HM := Lib.hid (hM.low (b2 := w.heap.size) (by simp; omega))
      have HB1 := Lib.hid (below_two _ _ hb1)
      clear hM hb1
      go_wp2_with fail
      go_ret
      exact ⟨⟨_, rfl, HM.out⟩, HB1.out⟩
  · have b1 : (k == 1) = false := beq_eq_false_iff_ne.2 (by omega)
    have b3 : (k == 3) = false := beq_eq_false_iff_ne.2 (by omega)
    have b5 : (k == 5) = false := beq_eq_false_iff_ne.2 (by omega)
    have b8 : (k == 8) = false := beq_eq_false_iff_ne.2 (by omega)
    by_cases h2 : k = 2
    · have HB2 := Lib.hid (HW.out h2)
      rw [HB2.out]
      subst h2
      clear HC HW HS HB hk
      go_enter Try.func23, Try.ntmps23
      go_wp2_with fail
      refine (whole_any _ 1 1 [x] n _ (by omega) (H1.out _) ⟨Nat.le_refl _, fun h => by cases h⟩ hn0 hn1).mono ?_
      rintro e w1 ⟨⟨v, rfl, hM⟩, hb1⟩
      have HM := Lib.hid (hM.low (b2 := w.heap.size) (by simp; omega))
      have HB1 := Lib.hid (below_two _ _ hb1)
      clear hM hb1
      go_wp2_with fail
      go_ret
      exact ⟨⟨_, rfl, HM.out⟩, HB1.out⟩
    · have b2 : (k == 2) = false := beq_eq_false_iff_ne.2 h2
      by_cases h4 : k = 4
      · have HB2 := Lib.hid (HS.out h4)
        rw [HB2.out]
        subst h4
        clear HC HW HS HB hk h2
        go_enter Try.func23, Try.ntmps23
        go_upto_region 11 with fail
        obtain ⟨W, hW⟩ : ∃ W, Hid ((w.alloc (.cells #[.int .i64 4, .int .i64 n, .string S] 54)).alloc (.cells #[.int .u8 (x : Int)] 5) = W) := ⟨_, Lib.hid rfl⟩
        have H1W := Lib.hid (H1.out (.cells #[.int .i64 4, .int .i64 n, .string S] 54))
        have HBW : Hid (Below w.heap.size w W) := Lib.hid (by rw [← hW.out]; exact ((Below.refl _ _).alloc (Nat.le_refl _) _).alloc (by simp) _)
        have k0 : W.cell? ⟨w.heap.size, 2, none⟩ = some (.string S) := by
          rw [← hW.out, cell_of_row _ w.heap.size 2 _ _ _ ((Below.heap_alloc _ _ _ (by simp)).trans (heap_alloc_new w _))]; rfl
        rw [hW.out] at H1W ⊢
        clear hW H1 H2
        obtain ⟨cap, W1, hrun, hbW, hBy, hc1, hc2⟩ := conv_str W S (by omega)
        have H1X := Lib.hid (H1W.out.below hbW)
        have HBX := Lib.hid hBy
        have HBY := Lib.hid (HBW.out.trans (hbW.mono HBW.out.size))
        clear hBy hbW
        go_wp2_with fail
        refine (sized_any _ _ 1 1 S.size cap [x] (nums S) _ (by omega) (by omega) H1X.out ⟨Nat.le_refl _, fun h => by cases h⟩ HBX.out ⟨hc1, fun h => by cases h⟩).mono ?_
        rintro e w1 ⟨⟨v, rfl, hM⟩, hb1⟩
        have HM := Lib.hid (hM.low (b2 := w.heap.size) HBY.out.size)
        have HB1 := Lib.hid (HBY.out.trans (hb1.mono HBY.out.size))
        clear hM hb1 hrun
        go_wp2_with fail
        go_ret
        exact ⟨⟨_, rfl, HM.out⟩, HB1.out⟩
      · have b4 : (k == 4) = false := beq_eq_false_iff_ne.2 h4
        have HB2 := Lib.hid (HB.out (by omega) (by omega) (by omega) (by omega) h2 h4)
        rw [HB2.out]
        clear HC HW HS HB hk h2 h4
        go_enter Try.func23, Try.ntmps23
        go_wp2_with fail
        go_ret
        exact ⟨⟨_, rfl, H2.out _⟩, ((Below.refl _ _).alloc (Nat.le_refl _) _).alloc (by simp) _⟩
end Go.Proofs.Ytpdihgmgcamgkaa
