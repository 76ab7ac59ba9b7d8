/- The law RootHarms returns true for any root, any place and any mask. -/
import Derived.Test.YtnjlhallkgacjaaLBlk
import Derived.Test.YtnjlhallkgacjaaHarm5
import Derived.Laws.IdiomStrings
namespace Go.Proofs.Ytnjlhallkgacjaa
open Go.ChangeShapes Go.WideShapes Go.ChangeAt Go.RowKit

/-- A block of bytes that a conversion laid. -/
def BB (w : World) (g : Nat) (us : List Nat) : Prop :=
  ∃ (cur : Array Value) (lo hi : Nat), w.heap[g]? = some (.cells cur 5 (lo, hi)) ∧ 128 ≤ lo ∧ us.length = 128 ∧ (∀ x ∈ us, x < 256) ∧ ∀ i, i < 128 → cur[i]? = some (.int .u8 ((us.getD i 0 : Nat) : Int))
theorem BB.cell {w : World} {g : Nat} {us : List Nat} (h : BB w g us) (i : Nat) (hi : i < 128) : w.cell? ⟨g, i, none⟩ = some (.int .u8 ((us.getD i 0 : Nat) : Int)) := by
  obtain ⟨cur, lo, hi2, hh, _, _, _, hc⟩ := h
  rw [cell_of_row w g i _ _ _ hh]; exact hc i hi
theorem BB.fz {w : World} {g : Nat} {us : List Nat} (h : BB w g us) (i : Nat) (hi : i < 128) : w.frozen? ⟨g, i, none⟩ = false := by
  obtain ⟨cur, lo, hi2, hh, hl, _, _, hc⟩ := h
  simp only [World.frozen?, hh]
  rw [Bool.and_eq_false_iff]
  left
  exact decide_eq_false (by omega)
theorem BB.put {w : World} {g : Nat} {us : List Nat} (h : BB w g us) (i x : Nat) (hi : i < 128) (hx : x < 256) : BB (w.setCell ⟨g, i, none⟩ (.int .u8 (x : Int))) g (us.set i x) := by
  obtain ⟨cur, lo, hi2, hh, hl, hn, hd, hc⟩ := h
  refine ⟨cur.setIfInBounds i (.int .u8 (x : Int)), lo, hi2, ?_, hl, by rw [List.length_set, hn], fun y hy => ?_, fun j hj => ?_⟩
  · simp only [World.setCell, Array.getElem?_modify, hh]
    rfl
  · rcases List.mem_or_eq_of_mem_set hy with h1 | h1
    · exact hd y h1
    · rw [h1]; exact hx
  · rw [Array.getElem?_setIfInBounds, getD_set _ _ _ _ (by omega)]
    by_cases hij : i = j
    · rw [if_pos hij, if_pos hij, if_pos (by
        have := hc i hi
        rcases Nat.lt_or_ge i cur.size with h1 | h1
        · exact h1
        · rw [Array.getElem?_eq_none h1] at this; cases this)]
    · rw [if_neg hij, if_neg hij]; exact hc j hj
theorem BB.bys {w : World} {g : Nat} {us : List Nat} (h : BB w g us) : Bys w (some ⟨g, 0, none⟩) 128 us := by
  have h2 := h
  obtain ⟨cur, lo, hi2, hh, hl, hn, hd, hc⟩ := h2
  exact ⟨hn, hd, fun _ => ⟨g, 0, rfl, fun i hi => by rw [Nat.zero_add]; exact h.cell i hi⟩⟩
theorem BB.new (w : World) (s : List Nat) (cap : Nat) (hs : s.length = 128) (hd : ∀ d ∈ s, d < 256) :
    BB (w.alloc (.cells (bytesRow (strB s) cap) 5 ((bytesRow (strB s) cap).size, (bytesRow (strB s) cap).size + 1))) w.heap.size s := by
  have hc : ∀ i, i < 128 → (bytesRow (strB s) cap)[i]? = some (.int .u8 ((s.getD i 0 : Nat) : Int)) := fun i hi => by
    unfold bytesRow
    have hsz : ((strB s).data.map (fun b => Value.int .u8 (b.toNat : Int))).size = s.length := by
      rw [Array.size_map]; exact strB_size' s
    rw [Array.getElem?_append_left (by rw [hsz]; omega), Array.getElem?_map, strB_get' s i (by omega)]
    have h3 := getD_lt hd i
    simp only [Option.map_some]
    rw [UInt8.toNat_ofNat_of_lt' h3]
  refine ⟨_, _, _, heap_alloc_new w _, ?_, hs, hd, hc⟩
  have := hc 127 (by omega)
  rcases Nat.lt_or_ge 127 (bytesRow (strB s) cap).size with h1 | h1
  · exact h1
  · rw [Array.getElem?_eq_none h1] at this; cases this
/-- The law's loop. -/
structure HR (w wr : World) (g : Nat) (r : Rt) (t mk k : Nat) (us : List Nat) : Prop where
  bb : BB wr g us
  box : RtAt wr w.heap.size 23 r
  below : Below w.heap.size w wr
  lg : w.heap.size < g
  flips : Flips (block r) us t mk k
theorem HR.no {w wr : World} {g : Nat} {r : Rt} {t mk k : Nat} {us : List Nat} (h : HR w wr g r t mk k us) (hb : mk / 2 ^ k % 2 ≠ 1) : HR w wr g r t mk (k + 1) us := ⟨h.bb, h.box, h.below, h.lg, h.flips.no hb⟩
theorem HR.yes {w wr : World} {g : Nat} {r : Rt} {t mk k : Nat} {us : List Nat} (h : HR w wr g r t mk k us) (hb : mk / 2 ^ k % 2 = 1) (ht : t ≤ 992) (hk : k < 32) :
    ∃ z : Nat, z < 256 ∧ wr.cell? ⟨g, (t + k) / 8, none⟩ = some (.int .u8 (z : Int)) ∧ wr.frozen? ⟨g, (t + k) / 8, none⟩ = false ∧
      HR w (wr.setCell ⟨g, (t + k) / 8, none⟩ (.int .u8 ((z ^^^ 2 ^ ((t + k) % 8) : Nat) : Int))) g r t mk (k + 1) (us.set ((t + k) / 8) (z ^^^ 2 ^ ((t + k) % 8))) := by
  have hi : (t + k) / 8 < 128 := by omega
  have hz : us.getD ((t + k) / 8) 0 < 2 ^ 8 := getD_lt h.flips.dig _
  have hp : 2 ^ ((t + k) % 8) < 2 ^ 8 := Nat.pow_lt_pow_right (by omega) (Nat.mod_lt _ (by omega))
  exact ⟨us.getD ((t + k) / 8) 0, hz, h.bb.cell _ hi, h.bb.fz _ hi, h.bb.put _ _ hi (Nat.xor_lt_two_pow hz hp), (heap_setCell_other wr ⟨g, (t + k) / 8, none⟩ w.heap.size _ (Nat.ne_of_lt h.lg)).trans h.box, h.below.setCell (Nat.le_of_lt h.lg) _, h.lg, h.flips.yes hb ht hk⟩
section
variable (w : World)
set_option maxRecDepth 20000 in
set_option maxHeartbeats 1600000 in
theorem harms_no (r : Rt) (t : Int) (mk : Int) (hm0 : may r = false) : Calls Try.prog 6 #[r.val, .int .i64 t, .int .u32 mk] w fun e w' => e = .returned (.bool true) ∧ Below w.heap.size w w' := by
  have HMI := Lib.hid (fun w => mine_any r w)
  have HRM := Lib.hid (fun w => rmay_any r w)
  rw [hm0] at HRM
  have HEN := Lib.hid (fun w => encode_no r w hm0)
  clear hm0
  have HR0 := Lib.hid (RtAt.new w r 23)
  have HB0 := Lib.hid (alloc_below w (.cells #[.int .i64 r.ep, .int .i64 r.pg, .int .i64 r.dr, .int .i64 r.wd] 23))
  unfold Rt.val at *
  go_enter Try.func6, Try.ntmps6
  go_upto_region 1 with fail
  generalize w.alloc (.cells #[.int .i64 r.ep, .int .i64 r.pg, .int .i64 r.dr, .int .i64 r.wd] 23) = w1 at *
  have r0 := HR0.out.c0
  have r1 := HR0.out.c1
  have r2 := HR0.out.c2
  have r3 := HR0.out.c3
  go_wp2_with fail
  refine (HMI.out _).mono ?_
  rintro e w2 ⟨rfl, hb⟩
  have HR2 := Lib.hid (HR0.out.below hb)
  have HB2 := Lib.hid (Below.more HB0.out hb HB0.out.size)
  clear hb r0 r1 r2 r3 HR0 HB0 HMI
  go_wp2_with fail
  refine (HEN.out _).mono ?_
  rintro e w3 ⟨rfl, hb⟩
  have HR3 := Lib.hid (HR2.out.below hb)
  have HB3 := Lib.hid (Below.more HB2.out hb HB2.out.size)
  clear hb HR2 HB2 HEN
  have r0 := HR3.out.c0
  have r1 := HR3.out.c1
  have r2 := HR3.out.c2
  have r3 := HR3.out.c3
  go_wp2_with fail
  refine (HRM.out _).mono ?_
  rintro e w4 ⟨rfl, hb⟩
  have HB4 := Lib.hid (Below.more HB3.out hb HB3.out.size)
  clear hb HR3 HB3 HRM r0 r1 r2 r3
  go_wp2_with (go_at_call 8; refine (lives_any _).mono ?_; rintro e w9 ⟨rfl, hb9⟩)
  go_ret
  exact ⟨rfl, Below.more HB4.out hb9 HB4.out.size⟩
set_option maxRecDepth 20000 in
set_option maxHeartbeats 2400000 in
theorem harms_yes (r : Rt) (t : Int) (mk : Nat) (hm : Mays r) (hmk : mk < 4294967296) : Calls Try.prog 6 #[r.val, .int .i64 t, .int .u32 (mk : Int)] w fun e w' => e = .returned (.bool true) ∧ Below w.heap.size w w' := by
  have HMI := Lib.hid (fun w => mine_any r w)
  have HRM := Lib.hid (fun w => rmay_any r w)
  rw [hm.may] at HRM
  have HEN := Lib.hid (fun w => encode_yes r w hm)
  have HBL := Lib.hid (block_len r)
  have HBD := Lib.hid (block_dig r)
  have HDB : Hid (decE (block r) = 0 ∧ decR (block r) = r) := Lib.hid ⟨decE_block hm, decR_block hm⟩
  obtain ⟨FS, hFS⟩ : ∃ FS, strB (block r) = FS := ⟨_, rfl⟩
  have HFS : Hid (FS.size = 128) := Lib.hid (by rw [← hFS, strB_size', block_len])
  rw [hFS] at HEN
  have HNEW : Hid (∀ (w : World) (cap : Nat), BB (w.alloc (.cells (bytesRow FS cap) 5 ((bytesRow FS cap).size, (bytesRow FS cap).size + 1))) w.heap.size (block r)) := Lib.hid (fun w cap => by rw [← hFS]; exact BB.new w _ cap HBL.out HBD.out)
  have HFL : Hid (∀ t : Nat, Flips (block r) (block r) t mk 0) := Lib.hid (fun t => Flips.start HBL.out HBD.out t mk)
  clear hm hFS
  have HR0 := Lib.hid (RtAt.new w r 23)
  have HB0 := Lib.hid (alloc_below w (.cells #[.int .i64 r.ep, .int .i64 r.pg, .int .i64 r.dr, .int .i64 r.wd] 23))
  have HTR := Lib.hid (fun w => theirs_any r w)
  unfold Rt.val at *
  go_enter Try.func6, Try.ntmps6
  go_upto_region 1 with fail
  generalize w.alloc (.cells #[.int .i64 r.ep, .int .i64 r.pg, .int .i64 r.dr, .int .i64 r.wd] 23) = w1 at *
  have r0 := HR0.out.c0
  have r1 := HR0.out.c1
  have r2 := HR0.out.c2
  have r3 := HR0.out.c3
  go_wp2_with fail
  refine (HMI.out _).mono ?_
  rintro e w2 ⟨rfl, hb⟩
  have HR2 := Lib.hid (HR0.out.below hb)
  have HB2 := Lib.hid (Below.more HB0.out hb HB0.out.size)
  clear hb r0 r1 r2 r3 HR0 HB0 HMI
  go_wp2_with fail
  refine (HEN.out _).mono ?_
  rintro e w3 ⟨rfl, hb⟩
  have HR3 := Lib.hid (HR2.out.below hb)
  have HB3 := Lib.hid (Below.more HB2.out hb HB2.out.size)
  clear hb HR2 HB2 HEN
  have r0 := HR3.out.c0
  have r1 := HR3.out.c1
  have r2 := HR3.out.c2
  have r3 := HR3.out.c3
  have s1 : ((FS.size : Int) != 128) = false := by rw [HFS.out]; rfl
  have s3 : ((FS.size : Int) == 128) = true := by rw [HFS.out]; rfl
  by_cases ht0 : t < 0
  · go_wp2_with (first
      | (go_at_call 9; refine (HRM.out _).mono ?_; rintro e w4 ⟨rfl, hb⟩; have HB4 := Lib.hid (Below.more HB3.out hb HB3.out.size); clear hb)
      | (go_at_call 8; refine (lives_any _).mono ?_; rintro e w9 ⟨rfl, hb9⟩))
    go_ret
    exact ⟨rfl, Below.more HB4.out hb9 HB4.out.size⟩
  · have d2 : decide (t < 0) = false := decide_eq_false ht0
    by_cases ht1 : 992 < t
    · go_wp2_with (first
        | (go_at_call 9; refine (HRM.out _).mono ?_; rintro e w4 ⟨rfl, hb⟩; have HB4 := Lib.hid (Below.more HB3.out hb HB3.out.size); clear hb)
        | (go_at_call 8; refine (lives_any _).mono ?_; rintro e w9 ⟨rfl, hb9⟩))
      go_ret
      exact ⟨rfl, Below.more HB4.out hb9 HB4.out.size⟩
    · have d3 : decide ((992 : Int) < t) = false := decide_eq_false ht1
      obtain ⟨tn, rfl⟩ := Int.eq_ofNat_of_zero_le (show 0 ≤ t by omega)
      have htn : tn ≤ 992 := by omega
      have hconv := run_bytes_of_string (P := Try.prog) w3 9 45 5 FS Try.underlying9 Try.underlying45 Try.underlying5
      rw [HFS.out] at hconv
      clear ht0 ht1 s3 HRM r0 r1 r2 r3
      go_upto_region 5 with fail
      clear hconv s1 d2 d3
      have H0 : Hid (HR w (w3.alloc (.cells (bytesRow FS (grownCap w3 128 0 5)) 5 ((bytesRow FS (grownCap w3 128 0 5)).size, (bytesRow FS (grownCap w3 128 0 5)).size + 1))) w3.heap.size r tn mk 0 (block r)) :=
        Lib.hid ⟨HNEW.out w3 _, HR3.out.below (alloc_below _ _), Below.more HB3.out (alloc_below _ _) HB3.out.size, HR3.out.lt, HFL.out tn⟩
      clear HNEW HFL HR3 HB3 HBL HBD
      generalize w3.alloc (.cells (bytesRow FS (grownCap w3 128 0 5)) 5 ((bytesRow FS (grownCap w3 128 0 5)).size, (bytesRow FS (grownCap w3 128 0 5)).size + 1)) = w5 at *
      generalize grownCap w3 128 0 5 = cap at *
      generalize w3.heap.size = g at *
      go_wp2_with fail
      go_loopw [10] (fun iv wr => ∃ (k : Nat) (us : List Nat), k ≤ 32 ∧ iv = .int .i64 (k : Int) ∧ Hid (HR w wr g r tn mk k us)) (fun i _ => 32 - (intOf i).toNat)
      case atStart => exact ⟨0, block r, by omega, by go_num, Lib.hid ⟨H0.out.bb, H0.out.box, H0.out.below.drew, H0.out.lg, H0.out.flips⟩⟩
      case round =>
        obtain ⟨k, us, hk, rfl, HX⟩ := hrel
        clear H0
        by_cases hlt : k < 32
        · have hd : decide ((k : Int) < 32) = true := decide_eq_true (by omega)
          have hq : mk / 2 ^ k < 4294967296 := Nat.lt_of_le_of_lt (Nat.div_le_self _ _) hmk
          have hand : bits .and .u32 ((mk : Int) / 2 ^ k) 1 = ((mk / 2 ^ k % 2 : Nat) : Int) := by
            have h := u32_and_nat (mk / 2 ^ k) 1 hq (by omega)
            rw [Nat.and_one_is_mod] at h
            rw [← h]; congr 1
          by_cases ho : mk / 2 ^ k % 2 = 1
          · have hb : (bits .and .u32 ((mk : Int) / 2 ^ k) 1 == 1) = true := by rw [hand, ho]; rfl
            obtain ⟨z, hz, hc, hf, hnext⟩ := HX.out.yes ho htn hlt
            have HN := Lib.hid hnext
            have hp : 2 ^ ((tn + k) % 8) < 2 ^ 8 := Nat.pow_lt_pow_right (by omega) (Nat.mod_lt _ (by omega))
            have hx : bits .xor .u8 (z : Int) (2 ^ ((tn + k) % 8) % 256) = ((z ^^^ 2 ^ ((tn + k) % 8) : Nat) : Int) := by
              have h := u8_xor_nat z (2 ^ ((tn + k) % 8)) hz hp
              rw [← h]; congr 1
              have e : ((2 ^ ((tn + k) % 8) : Nat) : Int) = (2 : Int) ^ ((tn + k) % 8) := by rw [Int.natCast_pow]; rfl
              rw [← e]
              generalize 2 ^ ((tn + k) % 8) = q at hp ⊢
              omega
            have HXX := Lib.hid hx
            clear hand hq hnext hx ho hp HX
            go_wp2_with fail
            go_roundw
            case rel => exact ⟨k + 1, _, by omega, by go_num, by rw [HXX.out]; exact HN⟩
            case measure => simp [intOf]; omega
          · have hb : (bits .and .u32 ((mk : Int) / 2 ^ k) 1 == 1) = false := by rw [hand, show mk / 2 ^ k % 2 = 0 by omega]; rfl
            have HN := Lib.hid (HX.out.no ho)
            clear hand hq ho HX
            go_wp2_with fail
            go_roundw
            case rel => exact ⟨k + 1, _, by omega, by go_num, HN⟩
            case measure => simp [intOf]; omega
        · have hd : decide ((k : Int) < 32) = false := decide_eq_false (by omega)
          obtain rfl : k = 32 := by omega
          have HBY := HX.out.bb.bys
          have hcv := HBY.conv cap
          have HDE := Lib.hid (fun w => decode_any _ us w (IsS.mk_ us HX.out.flips.dig))
          have HNO : Hid (mk ≠ 0 → decE us ≠ 0) := Lib.hid (harm_no HX.out.flips hmk)
          have HYE : Hid (mk = 0 → decE us = 0 ∧ decR us = r) := Lib.hid (fun h => by rw [HX.out.flips.none_ h]; exact HDB.out)
          have HNR : Hid (decE us ≠ 0 → decR us = Rt.none_) := Lib.hid decR_no
          have HBX := Lib.hid HX.out.box
          have HBW := Lib.hid HX.out.below
          clear HBY HX HDB
          obtain ⟨US, hUS⟩ : ∃ US, strB us = US := ⟨_, rfl⟩
          rw [hUS] at hcv HDE
          generalize decE us = E at *
          generalize decR us = x at *
          clear hUS
          unfold Rt.val at HDE
          go_wp2_with fail
          refine (HDE.out _).mono ?_
          rintro e w6 ⟨rfl, hb⟩
          have HBX6 := Lib.hid (HBX.out.below hb)
          have HBW6 := Lib.hid (Below.more HBW.out hb HBW.out.size)
          clear hb hcv HBX HBW HDE
          go_upto_region 11 with fail
          have X1 := HBX6.out.below (alloc_below w6 (.cells #[.int .i64 x.ep, .int .i64 x.pg, .int .i64 x.dr, .int .i64 x.wd] 29))
          have X2 := RtAt.new w6 x 29
          have HBW7 := Lib.hid (Below.more HBW6.out (alloc_below w6 (.cells #[.int .i64 x.ep, .int .i64 x.pg, .int .i64 x.dr, .int .i64 x.wd] 29)) HBW6.out.size)
          clear HBX6 HBW6
          generalize w6.alloc (.cells #[.int .i64 x.ep, .int .i64 x.pg, .int .i64 x.dr, .int .i64 x.wd] 29) = w7 at *
          generalize w6.heap.size = q at *
          by_cases h0 : mk = 0
          · obtain ⟨hE, hR⟩ := HYE.out h0
            have hz : ((mk : Int) == 0) = true := by rw [h0]; rfl
            have hR2 := hR.symm
            subst hE hR2
            clear HNO HYE HNR h0 hmk
            go_upto_region 12 with fail
            have lX10 : ∀ s : In w7, s.1.cell? ⟨w.heap.size, 0, none⟩ = some (.int .i64 r.ep) := fun s => (X1.below s.2).c0
            have lX11 : ∀ s : In w7, s.1.cell? ⟨w.heap.size, 1, none⟩ = some (.int .i64 r.pg) := fun s => (X1.below s.2).c1
            have lX12 : ∀ s : In w7, s.1.cell? ⟨w.heap.size, 2, none⟩ = some (.int .i64 r.dr) := fun s => (X1.below s.2).c2
            have lX13 : ∀ s : In w7, s.1.cell? ⟨w.heap.size, 3, none⟩ = some (.int .i64 r.wd) := fun s => (X1.below s.2).c3
            have lX20 : ∀ s : In w7, s.1.cell? ⟨q, 0, none⟩ = some (.int .i64 r.ep) := fun s => (X2.below s.2).c0
            have lX21 : ∀ s : In w7, s.1.cell? ⟨q, 1, none⟩ = some (.int .i64 r.pg) := fun s => (X2.below s.2).c1
            have lX22 : ∀ s : In w7, s.1.cell? ⟨q, 2, none⟩ = some (.int .i64 r.dr) := fun s => (X2.below s.2).c2
            have lX23 : ∀ s : In w7, s.1.cell? ⟨q, 3, none⟩ = some (.int .i64 r.wd) := fun s => (X2.below s.2).c3
            clear X1 X2
            have hne := In.some w7
            refine region_in w7 (by kernel_rfl) (by kernel_rfl) (Below.refl _ _) ?_
            repeat (go_big_quiet_step ((first
              | (go_at_call 17; exact Calls.quiet_in (HTR.out _))
              | (go_at_call 8; exact Calls.quiet_in (lives_any _)))))
            refine wpQuiet_nil ?_
            intro w12 hw'
            have hb12 : Below w7.heap.size w7 w12 := by
              obtain ⟨⟨wz, hbz⟩, hw''⟩ := hw'
              subst hw''
              exact hbz
            clear hw'
            go_wp2_with fail
            go_ret
            exact ⟨rfl, Below.more HBW7.out hb12 HBW7.out.size⟩
          · have hE := HNO.out h0
            have hR := HNR.out hE
            have hz : ((mk : Int) == 0) = false := by simpa using h0
            have hE2 : (E != 0) = true := by simpa using hE
            subst hR
            have q0 : w7.cell? ⟨q, 0, none⟩ = some (.int .i64 0) := X2.c0
            have q1 : w7.cell? ⟨q, 1, none⟩ = some (.int .i64 0) := X2.c1
            have q2 : w7.cell? ⟨q, 2, none⟩ = some (.int .i64 0) := X2.c2
            have q3 : w7.cell? ⟨q, 3, none⟩ = some (.int .i64 0) := X2.c3
            clear HNO HYE HNR h0 hmk X1 X2 hE
            go_wp2_with (go_at_call 8; refine (lives_any _).mono ?_; rintro e w9 ⟨rfl, hb9⟩)
            go_ret
            exact ⟨rfl, Below.more HBW7.out hb9 HBW7.out.size⟩
/-- The law's walk. -/
theorem harms_walk (r : Rt) (t mk : Int) (w : World) (_h1 : Ints r) (_h2 : -9223372036854775808 ≤ t) (_h3 : t ≤ 9223372036854775807) (h4 : 0 ≤ mk) (h5 : mk < 4294967296) :
    Calls Try.prog 6 #[r.val, .int .i64 t, .int .u32 mk] w fun e w' => e = .returned (.bool true) ∧ Below w.heap.size w w' := by
  by_cases hm : may r = true
  · obtain ⟨m, rfl⟩ := Int.eq_ofNat_of_zero_le h4
    exact harms_yes w r t m (may_yes hm) (by omega)
  · exact harms_no w r t mk (by simpa using hm)
end
set_option maxRecDepth 100000 in
theorem harms_lifted (os : Os) (started : os.Started) (H : Type) (enc : TypeId × Value → H) :
    ReturnsInHanded {} Try.checked os 6 .any (fun w args => Rows.rootHarmsSpec.pre enc Try.prog Try.f6 [] false w args ∧ sizedMet enc Try.prog Try.f6 (OpenSpec.ofChange Rows.rootHarmsSpec) false w args)
      (Rows.rootHarmsSpec.post enc Try.prog Try.f6 false true false false) := by
  refine returnsInHanded_of_change_sized (C := Try.checked) own started (by kernel_rfl) Try.func6
    (ChangeSpec.witness6 (enc := enc) (C := Try.checked) false ⟨#[], #[.agg #[.int .i64 0, .int .i64 0, .int .i64 0, .int .i64 0], .int .i64 0, .int .u32 0], []⟩ 8 (by kernel_rfl) (by kernel_rfl) (by kernel_rfl) (by kernel_rfl)) ?_
  intro W base args ds gs before hval0 hW _ hsz0 _
  have hval : ∀ (j : Nat) t v, Try.f6.params[j]? = some t → args[j]? = some v → Value.okWide Try.prog W .any base t v := hval0
  have hlt := fun x hx => hW.lt (p := x) hx
  have hW' := hW
  obtain ⟨p, q, hA0, hV, rfl, hfz, hnd⟩ := hW
  have hA : DataW.TrodAll enc Try.prog W 0 (fun _ => true) true Try.f6.params.toList args.toList ds p := hA0
  have hsz : (DataW.weightsEach Try.prog (Try.f6.params.toList ++ Rows.rootHarmsSpec.plain.varTypes Try.prog) (ds ++ gs)).all (· ≤ reachBytes) = true := hsz0
  rw [Try.params6] at hA hval hsz
  obtain ⟨v0, vs0, d0, ds0, p0, q0, hargs, rfl, rfl, h0, r0⟩ := trodAll_cons hA
  obtain ⟨v1, vs1, d1, ds1, p1, q1, rfl, rfl, rfl, h1, r1⟩ := trodAll_cons r0
  obtain ⟨v2, vs2, d2, ds2, p2, q2, rfl, rfl, rfl, h2, r2⟩ := trodAll_cons r1
  obtain ⟨rfl, rfl, rfl⟩ := trodAll_nil r2
  obtain rfl : args = #[v0, v1, v2] := by cases args; simp_all
  obtain ⟨rfl, rfl⟩ := trodVars_none hV
  obtain ⟨a0, rfl, hi0⟩ := open_root (hval 0 23 v0 rfl rfl) h0
  obtain ⟨a1, rfl, rfl, rfl, w1⟩ := open_int Try.underlying3 (hval 1 3 v1 rfl rfl) h1
  obtain ⟨a2, rfl, rfl, rfl, w2⟩ := open_int Try.underlying47 (hval 2 47 v2 rfl rfl) h2
  clear hA0 hval0
  simp only [List.append_nil] at hW'
  refine (harms_walk a0 a1 a2 W hi0 (i64_of w1).1 (i64_of w1).2 (u32_of w2).1 (u32_of w2).2).mono fun e W' ⟨he, hg⟩ => ?_
  subst he
  exact ⟨_, rfl, law_post hW' (fun _ _ _ => (trodAll_cons_mk (shut_bool Try.underlying4 _) trodAll_mk0)) (trodAll_cons_mk (Below.trod laidOut (by kernel_rfl) (by decide +kernel) h0 hg (fun x hx => hlt x (by simp [hx]))) (trodAll_cons_mk (shut_int Try.underlying3 w1) (trodAll_cons_mk (shut_int Try.underlying47 w2) trodAll_mk0))) rfl (by simp) hg⟩

theorem harms_holds : Rows.RootHarmsSaid :=
  OpenClaim.holds_of_wide 6 Try.f6 rfl rfl rfl rfl rfl rfl rfl ⟨rfl, rfl, rfl, rfl, rfl⟩ rfl rfl rfl rfl rfl (by kernel_rfl) Try.func6 (by kernel_rfl)
    (of_decide_eq_true (by kernel_rfl)) (by unfold Func.isWrapper; first | (rw [if_pos (by decide +kernel)]; kernel_rfl) | (rw [if_neg (by decide +kernel)]; exact ⟨rfl, rfl⟩))
    (fun os started H enc _ => harms_lifted os started H enc)
#print axioms harms_holds

end Go.Proofs.Ytnjlhallkgacjaa
