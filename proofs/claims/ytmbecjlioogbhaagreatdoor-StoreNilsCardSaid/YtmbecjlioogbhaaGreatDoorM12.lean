/- Texts YParts to PClaim of this seat, laid into one. -/
import Derived.Deep.RegionHeldLaw
import Derived.Test.YtmbecjlioogbhaaGreatDoorM02
import Derived.Test.YtmbecjlioogbhaaGreatDoorM04
import Derived.Test.YtmbecjlioogbhaaGreatDoorM10
import Derived.Test.YtmbecjlioogbhaaGreatDoorM11
set_option linter.unusedVariables false
set_option linter.unusedSimpArgs false
set_option linter.constructorNameAsVariable false
section
/-! The parts that a head tells. -/
set_option maxRecDepth 20000
set_option linter.unusedSimpArgs false
namespace Go.Proofs.YtmbecjlioogbhaaGreatDoor
open Go.RowKit

theorem partL_ints (F : Nat → Nat) (a : Nat) : partL (F a) (fun j => F (a + 1 + j)) = Tb.ints F a 129 := by
  rw [Tb.ints_cons]
  unfold partL
  rw [Tb.ints_congr (f := fun j => F (a + 1 + j)) (g := F) (a := 0) (b := a + 1) (fun j _ => by rw [Nat.zero_add])]
theorem rowA_parts (N : Nat) : madeCells (partL 0 fun _ => 0).toArray N = Tb.rowA (fun _ => 0) N := by
  have hp : (partL 0 fun _ => 0).toArray = Tb.rowA (fun _ => 0) 129 := by
    have := partL_ints (fun _ => 0) 0
    rw [this]; rfl
  rw [hp]
  apply Array.ext_getElem?
  intro j
  unfold madeCells
  by_cases hj : j < N
  · rw [Tb.rowA_get _ _ _ hj, Array.getElem?_map, Array.getElem?_range, if_pos hj]
    show some _ = _
    have hm : j % (Tb.rowA (fun _ => 0) 129).size < 129 := by rw [Tb.rowA_size]; exact Nat.mod_lt _ (by decide)
    show some ((Tb.rowA (fun _ => 0) 129)[j % (Tb.rowA (fun _ => 0) 129).size]!) = _
    rw [getElem!_def, Tb.rowA_get _ _ _ hm]
  · rw [Array.getElem?_eq_none (by simp; omega), Array.getElem?_eq_none (by rw [Tb.rowA_size]; omega)]
/-- The i-th part of a row of numbers. -/
def partAt (F : Nat → Nat) (i : Nat) : Nat × (Nat → Nat) := (F (i * 129), fun j => F (i * 129 + 1 + j))
theorem pts_of_row {w : World} {g n N t : Nat} {F : Nat → Nat} (h : Tb.IsT w g t F N) (hn : n * 129 ≤ N) : PtsR w (some ⟨g, 0, none⟩) n (partAt F) := fun i hi => by
  refine ⟨g, rfl, h.lt, ?_⟩
  show w.rangeAt g (i * 129) (partL (F (i * 129)) fun j => F (i * 129 + 1 + j))
  rw [partL_ints]
  exact h.range (i * 129) 129 (by have := Nat.mul_le_mul_right 129 (show i + 1 ≤ n by omega); omega)
/-- What a head tells. -/
def headN (s : List Nat) : Nat := s.getD 4 0
def headF (s : List Nat) : Nat → Nat := cutV (s.drop 5) 2
def isHead (s : List Nat) : Bool := decide (pageT (headB (headN s) (headF s)) = s)
theorem info_part : (Tryz.prog.info? 82).map (fun i => (i.zero, i.size, i.bytes)) = some (some (.agg (partL 0 fun _ => 0).toArray), 129, 1032) := by kernel_rfl
/-- Parts with these pages so far. -/
structure Pas (w w3 wr : World) (n i : Nat) (s : List Nat) : Prop where
  row : ∃ F, Tb.IsT wr w.heap.size 82 F (n * 129) ∧ (∀ j, j < i → F (j * 129) = headF s j) ∧ (∀ j, i ≤ j → F (j * 129) = 0) ∧ (∀ j, j % 129 ≠ 0 → F j = 0)
  pgs : wr.heap[w.heap.size + 1]? = w3.heap[w.heap.size + 1]?
  below : Below w.heap.size w wr
set_option maxHeartbeats 3200000 in
theorem partsOf_any (S : ByteArray) (s : List Nat) (w : World) (hS : IsS S s) (hl : s.length = 512) :
    Calls Tryz.prog 67 #[.string S] w fun e w' => Below w.heap.size w w' ∧ ((64 < headN s ∧ e = .returned (.tuple #[.slice none 0 0, .bool false])) ∨
      (headN s ≤ 64 ∧ e = .returned (.tuple #[.slice (some ⟨w.heap.size, 0, none⟩) (headN s) (headN s), .bool (isHead s)]) ∧
        ∃ F, Tb.IsT w' w.heap.size 82 F (headN s * 129) ∧ (∀ j, j < headN s → F (j * 129) = headF s j) ∧ (∀ j, j % 129 ≠ 0 → F j = 0))) := by
  obtain ⟨i0, hi, hz0, hz1, hz2⟩ := info_parts info_part
  have hsz := hS.size
  rw [hl] at hsz
  have HS := Lib.hid hS
  have HL := Lib.hid hl
  have hix : ∀ w, (Instr.index 9 (.string S) (.int .i64 4)).run Tryz.prog w = .ok (.int .u8 ((headN s : Nat) : Int)) w := fun w => hS.index 4 (by omega) w
  have hlt : headN s < 256 := getD_lt hS.dig 4
  have hmk : ∀ w : World, headN s ≤ 64 → (Instr.makeSlice 75 (.int .i64 (headN s : Int)) (.int .i64 (headN s : Int))).run Tryz.prog w = .ok (.slice (some ⟨w.heap.size, 0, none⟩) (headN s) (headN s)) (w.alloc (.cells (Tb.rowA (fun _ => 0) (headN s * 129)) 82)) := fun w hn => by
    have h := run_make (P := Tryz.prog) w 75 82 i0 _ Tryz.underlying75 hi hz0 .i64 .i64 (headN s : Int) (headN s : Int) (by omega) (by omega) (by rw [hz2]; omega) (by omega)
    rw [hz1, Int.toNat_natCast, show (Value.agg (partL 0 fun _ => 0).toArray).cells = (partL 0 fun _ => 0).toArray from rfl, rowA_parts] at h
    exact h
  have HB5 : Hid (IsS (S.extract 5 512) (s.drop 5)) := Lib.hid (by
    have h := hS.ext 5 512
    rw [List.take_of_length_le (by rw [List.length_drop]; omega)] at h
    exact h)
  clear hi hz0 hz1 hz2 hS hl
  obtain ⟨n, hn⟩ : ∃ n, headN s = n := ⟨_, rfl⟩
  have HN := Lib.hid hn
  rw [hn] at hix hlt hmk ⊢
  clear hn
  have hnI : (n : Int) < 256 := by omega
  by_cases h64 : n ≤ 64
  case neg =>
    have hd : decide ((64 : Int) < (n : Int)) = true := decide_eq_true (by omega)
    have H6 : Hid (64 < n) := Lib.hid (by omega)
    clear h64 hmk
    go_enter Tryz.func67, Tryz.ntmps67
    go_wp2_with fail
    go_ret2
    exact ⟨Below.refl _ _, .inl ⟨H6.out, rfl⟩⟩
  case pos =>
    have hd : decide ((64 : Int) < (n : Int)) = false := decide_eq_false (by omega)
    have hmk2 := fun w => hmk w h64
    have HG0 : Hid (Tb.IsT (w.alloc (.cells (Tb.rowA (fun _ => 0) (n * 129)) 82)) w.heap.size 82 (fun _ => 0) (n * 129) ∧ Below w.heap.size w (w.alloc (.cells (Tb.rowA (fun _ => 0) (n * 129)) 82))) := Lib.hid ⟨heap_alloc_new _ _, alloc_below _ _⟩
    have hsz1 : (w.alloc (.cells (Tb.rowA (fun _ => 0) (n * 129)) 82)).heap.size = w.heap.size + 1 := by simp
    have HP := Lib.hid (pagesOfS_any (S.extract 5 512) (s.drop 5) n (w.alloc (.cells (Tb.rowA (fun _ => 0) (n * 129)) 82)) HB5.out (by omega) (by rw [List.length_drop, HL.out]; omega) (by rw [List.length_drop, HL.out]; omega))
    rw [hsz1] at HP
    clear hmk
    have H64 := Lib.hid h64
    generalize Tb.rowA (fun _ => 0) (n * 129) = Z at *
    generalize hW1 : w.alloc (.cells Z 82) = W1 at *
    go_enter Tryz.func67, Tryz.ntmps67
    go_upto_region 6 with (go_at_call 122; with_reducible refine HP.out.mono ?_; rintro e w3 ⟨v, rfl, rfl, ho, hb3⟩)
    have HCP : Hid (∀ i, i < n → w3.cell? ⟨w.heap.size + 1, i, none⟩ = some (.int .i64 ((headF s i : Nat) : Int))) := Lib.hid fun i hi => by
      have h2 : w3.ownsRow (w.heap.size + 1) 3 1 (.slice (some ⟨w.heap.size + 1, 0, none⟩) n n) n (Tb.rowA (cutV (s.drop 5) 2) n).toList := by
        rw [← ivs_pgs]
        have h := ho
        unfold OwnI at h
        rw [pgsL_len] at h
        exact h
      rw [h2.cellAt i (by omega), Array.getElem?_toList, Tb.rowA_get _ _ _ hi]
      rfl
    have H0 : Hid (Pas w w3 w3 n 0 s) := Lib.hid ⟨⟨_, HG0.out.1.below (by rw [hsz1]; exact hb3), fun j hj => absurd hj (Nat.not_lt_zero j), fun _ _ => rfl, fun _ _ => rfl⟩, rfl, HG0.out.2.trans (hb3.mono (Nat.le_succ _))⟩
    clear ho hb3 HG0 hmk2 HP hW1 hix hsz1
    go_loopw [20] (fun iv wr => ∃ i : Nat, i ≤ n ∧ iv = .int .i64 (i : Int) ∧ Hid (Pas w w3 wr n i s)) (fun iv _ => n - (RowKit.intOf iv).toNat)
    case atStart => exact ⟨0, by omega, by go_num, H0⟩
    case round =>
      obtain ⟨i, hi, rfl, hr⟩ := hrel
      by_cases hlt2 : i < n
      · have hd : decide ((i : Int) < (n : Int)) = true := decide_eq_true (by omega)
        have hiI : (i : Int) < 64 := by omega
        have hiI2 : (i : Int) < (n : Int) := by omega
        have HI2 := Lib.hid hlt2
        obtain ⟨⟨F, hrow, hf1, hf2, hf3⟩, hpg, hb⟩ := hr.out
        have hcp := (World.cell?_of_block (w := w3) (a := ⟨w.heap.size + 1, i, none⟩) hpg).trans (HCP.out i hlt2)
        have hcl := hrow.cell (i * 129) (by have := Nat.mul_le_mul_right 129 (show i + 1 ≤ n by omega); omega)
        have hfz := hrow.free (i * 129)
        have HR4 : Hid (Pas w w3 (wr.setCell ⟨w.heap.size, i * 129, none⟩ (.int .i64 ((headF s i : Nat) : Int))) n (i + 1) s) := Lib.hid
          ⟨⟨Tb.updN F (i * 129) (headF s i), hrow.put (i * 129) _, fun j hj => by
              by_cases e : j = i
              · rw [e, Tb.updN_same]
              · rw [Tb.updN_other _ _ _ _ (by omega), hf1 j (by omega)], fun j hj => by rw [Tb.updN_other _ _ _ _ (by omega), hf2 j (by omega)], fun j hj => by rw [Tb.updN_other _ _ _ _ (fun e => hj (by rw [e]; exact Nat.mul_mod_left _ _)), hf3 j hj]⟩,
            (heap_setCell_other wr ⟨w.heap.size, i * 129, none⟩ (w.heap.size + 1) _ (by simp)).trans hpg, hb.setCell (Nat.le_refl _) _⟩
        clear hr hrow hf1 hf2 hf3 hpg hb hi
        generalize headF s i = V at *
        go_wp2_with fail
        go_roundw
        case rel => exact ⟨i + 1, HI2.out, by go_num, HR4⟩
        case measure => have := HI2.out; simp [RowKit.intOf]; omega
      · obtain rfl : i = n := by omega
        have hd2 : decide ((i : Int) < (i : Int)) = false := decide_eq_false (by omega)
        obtain ⟨⟨F, hrow, hf1, hf2, hf3⟩, hpg, hb⟩ := hr.out
        have hps : headB i (fun j => (partAt F j).1) = headB i (headF s) := by
          unfold headB
          rw [twoB_congr (f := fun j => (partAt F j).1) (g := headF s) (fun j hj => hf1 j hj)]
        have hpl : ∀ j, j < i → (partAt F j).1 ≤ 1099511627776 := fun j hj => by
          show F (j * 129) ≤ _
          rw [hf1 j hj]
          have := cutV_lt (s := s.drop 5) (fun x hx => HS.out.dig x (List.mem_of_mem_drop hx)) 2 j
          have h2 : headF s j = cutV (s.drop 5) 2 j := rfl
          have h3 : (256 : Nat) ^ 2 = 65536 := by decide
          omega
        have HH := Lib.hid (headText_any (some ⟨w.heap.size, 0, none⟩) i i (partAt F) wr h64 (pts_of_row hrow (Nat.le_refl _)) hpl)
        rw [hps] at HH
        have HRW := Lib.hid hrow
        have HF1 := Lib.hid hf1
        have HF3 := Lib.hid hf3
        have HBL := Lib.hid hb
        have HEQ : Hid (((strB (pageT (headB i (headF s)))).toList == S.toList) = isHead s) := Lib.hid (by
          have hk : IsS (strB (pageT (headB i (headF s)))) (pageT (headB i (headF s))) := IsS.mk_ _ (pageT_dig (headB_dig i _))
          unfold isHead
          rw [HN.out]
          by_cases e : pageT (headB i (headF s)) = s
          · rw [decide_eq_true e]; exact hk.yes HS.out e
          · rw [decide_eq_false e]; exact hk.no HS.out e)
        have heq := HEQ.out
        clear hr hrow hf1 hf2 hf3 hpg hb hps hpl HEQ
        generalize strB (pageT (headB i (headF s))) = T at *
        go_wp2_with (go_at_call 63; with_reducible refine HH.out.mono ?_; rintro e w7 ⟨rfl, hb7⟩)
        go_ret2
        refine ⟨Below.more HBL.out hb7 HBL.out.size, .inr ⟨H64.out, ?_, F, HRW.out.below hb7, HF1.out, HF3.out⟩⟩
        rfl
end Go.Proofs.YtmbecjlioogbhaaGreatDoor
end
section
/-! The record of a thing. -/
set_option maxRecDepth 20000
set_option linter.unusedSimpArgs false
namespace Go.Proofs.YtmbecjlioogbhaaGreatDoor
open Go.RowKit

theorem lt_of_cellY {w : World} {b o : Nat} {v : Value} (h : w.cell? ⟨b, o, none⟩ = some v) : b < w.heap.size := by
  refine Nat.lt_of_not_le fun h2 => ?_
  unfold World.cell? at h
  simp only at h
  rw [Array.getElem?_eq_none h2] at h
  cases h
/-- Pages in two bytes each. -/
def pgB (l : List Nat) : List Nat := twoB (fun i => l.getD i 0) l.length
/-- A record's bytes. -/
def recB (ds l : List Nat) : List Nat := if l = [] then 0 :: ds else [1] ++ be 4 ds.length ++ pgB l
set_option maxHeartbeats 3200000 in
theorem recordText_any (S : ByteArray) (ds : List Nat) (v : Value) (l : List Nat) (B : Nat) (w : World) (hS : IsS S ds) (hd : ds.length ≤ 1000000) (hv : OwnI w B v l) (hl : l.length ≤ 64) (hlp : ∀ x ∈ l, x ≤ 1099511627776) :
    Calls Tryz.prog 108 #[.string S, v] w fun e w' => e = .returned (.string (strB (recB ds l))) ∧ Below w.heap.size w w' := by
  have hsz := hS.size
  obtain ⟨p, c, rfl, hcl⟩ := hv.cells
  have hlt : ∀ g, p = some ⟨g, 0, none⟩ → 0 < l.length → g < w.heap.size := fun g e h0 => by
    obtain ⟨g2, e2, h2⟩ := hcl 0 h0
    rw [e] at e2
    cases e2
    exact lt_of_cellY h2
  obtain ⟨n, hn⟩ : ∃ n, l.length = n := ⟨_, rfl⟩
  obtain ⟨D, hD⟩ : ∃ D, ds.length = D := ⟨_, rfl⟩
  rw [hD] at hsz hd
  have HSD := Lib.hid hS.dig
  have HD := Lib.hid hD
  have HS := Lib.hid hS
  rw [hn] at hcl hl hlt ⊢
  have HC := Lib.hid hcl
  have HN := Lib.hid hn
  have HLT := Lib.hid hlt
  have HLP := Lib.hid hlp
  clear hcl hv hlp hS hD hlt
  have hnI : (n : Int) ≤ 64 := by omega
  have hDI : (D : Int) ≤ 1000000 := by omega
  by_cases h0 : n = 0
  · subst h0
    have HRB : Hid (recB ds l = 0 :: ds) := Lib.hid (by unfold recB; rw [if_pos (List.eq_nil_of_length_eq_zero HN.out)])
    have hown := World.ownsRow_lit (base := w.heap.size) (e := 5) (size := 1) w #[.int .u8 0] 1 (Nat.le_refl _) (by unfold maxLen; omega) rfl
    have hcv : (convert 71 9 (.slice (some ⟨w.heap.size, 0, none⟩) 1 1)).run Tryz.prog (w.alloc (.cells #[.int .u8 0] 5)) = .ok (.string (strB [0])) (w.alloc (.cells #[.int .u8 0] 5)) := (Bys.own (bs := [0]) hown (by decide)).conv _
    have HB0 := Lib.hid (alloc_below w (.cells #[.int .u8 0] 5))
    have HST : Hid (strB [0] ++ S = strB (0 :: ds)) := Lib.hid (((IsS.mk_ [0] (by decide)).app HS.out).eq)
    have hts : (strB [0]).size = 1 := by rw [strB_size]; rfl
    clear hown
    generalize strB [0] = T0 at *
    go_enter Tryz.func108, Tryz.ntmps108
    go_wp2_with fail
    go_ret
    exact ⟨by rw [HRB.out, ← HST.out]; rfl, HB0.out⟩
  · have hne : ((n : Int) == 0) = false := by rw [beq_eq_false_iff_ne]; omega
    have HRB : Hid (recB ds l = [1] ++ be 4 D ++ twoB (fun i => l.getD i 0) n) := Lib.hid (by
      unfold recB pgB
      rw [if_neg (fun e => h0 (by rw [← HN.out, e]; rfl)), HD.out, HN.out])
    obtain ⟨W1, hW1⟩ : ∃ W1, w.alloc (.cells #[.int .u8 1] 5) = W1 := ⟨_, rfl⟩
    have HB0 : Hid (Below w.heap.size w W1) := by rw [← hW1]; exact Lib.hid (alloc_below w _)
    have hbo : Bo w.heap.size W1 (.slice (some ⟨w.heap.size, 0, none⟩) 1 1) [1] := by
      rw [← hW1]
      exact ⟨_, 1, rfl, World.ownsRow_lit w #[.int .u8 1] 1 (Nat.le_refl _) (by unfold maxLen; omega) rfl⟩
    have HP := Lib.hid (putS_any w.heap.size W1 _ [1] D 4 HB0.out.size hbo (by omega) (by omega) (by decide))
    rw [show ((4 : Nat) : Int) = 4 from rfl] at HP
    have hpos := Nat.pos_of_ne_zero h0
    clear h0 hbo
    go_enter Tryz.func108, Tryz.ntmps108
    go_upto_region 5 with (go_at_call 119; with_reducible refine HP.out.mono ?_; rintro e w4 ⟨v4, rfl, hv4, hb4⟩)
    have H0 : Hid (Bo w.heap.size w4 v4 ([1] ++ be 4 D ++ twoB (fun i => l.getD i 0) 0) ∧ Below w.heap.size w w4) := Lib.hid ⟨by
      show Bo _ _ _ ([1] ++ be 4 D ++ [])
      rw [List.append_nil]; exact hv4, HB0.out.trans hb4⟩
    clear hv4 hb4 HP HB0 hW1
    go_loopw [5, 21] (fun bv iv wr => ∃ i : Nat, i ≤ n ∧ iv = .int .i64 (i : Int) ∧ Hid (Bo w.heap.size wr bv ([1] ++ be 4 D ++ twoB (fun i => l.getD i 0) i) ∧ Below w.heap.size w wr)) (fun _ iv _ => n - (RowKit.intOf iv).toNat)
    case atStart => exact ⟨0, by omega, by go_num, H0⟩
    case round =>
      obtain ⟨i, hi, rfl, hr⟩ := hrel
      by_cases hlt2 : i < n
      · have hd : decide ((i : Int) < (n : Int)) = true := decide_eq_true (by omega)
        have hiI : (i : Int) < 64 := by omega
        have hiI2 : (i : Int) < (n : Int) := by omega
        have HI2 := Lib.hid hlt2
        obtain ⟨g, e, hc0⟩ := HC.out i hlt2
        have hgl := HLT.out g e hpos
        subst e
        have hcl := (hr.out.2.cell (p := ⟨g, i, none⟩) hgl).trans hc0
        have HP := Lib.hid (putS_any w.heap.size wr u5 ([1] ++ be 4 D ++ twoB (fun i => l.getD i 0) i) (l.getD i 0) 2 hr.out.2.size hr.out.1 (HLP.out _ (by
          rw [List.getD_eq_getElem?_getD, List.getElem?_eq_getElem (by rw [HN.out]; exact hlt2)]; exact List.getElem_mem _)) (by omega) (by rw [List.length_append, List.length_append, twoB_len, be_len]; simp; omega))
        rw [show ((2 : Nat) : Int) = 2 from rfl] at HP
        obtain ⟨x, hx⟩ : ∃ x, l.getD i 0 = x := ⟨_, rfl⟩
        have HX := Lib.hid hx
        rw [hx] at hcl HP
        clear hc0 hgl HC HLT hi hx
        go_wp2_with (go_at_call 119; with_reducible refine HP.out.mono ?_; rintro e w4 ⟨v4, rfl, hv4, hb4⟩)
        have HR4 : Hid (Bo w.heap.size w4 v4 ([1] ++ be 4 D ++ twoB (fun i => l.getD i 0) (i + 1)) ∧ Below w.heap.size w w4) := Lib.hid ⟨by
          show Bo _ _ _ (_ ++ (twoB _ i ++ be 2 _))
          rw [← List.append_assoc]
          show Bo _ _ _ (_ ++ be 2 (l.getD i 0))
          rw [HX.out]
          exact hv4, hr.out.2.trans hb4⟩
        go_roundw
        case rel => exact ⟨i + 1, HI2.out, by go_num, HR4⟩
        case measure => have := HI2.out; simp [RowKit.intOf]; omega
      · obtain rfl : i = n := by omega
        have hd2 : decide ((i : Int) < (i : Int)) = false := decide_eq_false (by omega)
        obtain ⟨⟨p5, c5, e5, ho⟩, hb⟩ := hr.out
        have hcv : (convert 71 9 u5).run Tryz.prog wr = .ok (.string (strB ([1] ++ be 4 D ++ twoB (fun i => l.getD i 0) i))) wr := by
          rw [e5]
          exact (Bys.own ho (fun x hx => by
            rcases List.mem_append.1 hx with h | h
            · rcases List.mem_append.1 h with h | h
              · cases List.mem_singleton.1 h; decide
              · exact be_dig _ _ x h
            · exact twoB_dig _ _ x h)).conv _
        have HB := Lib.hid hb
        clear hr ho hb e5
        rw [← HRB.out] at hcv
        go_wp2_with fail
        go_ret
        exact ⟨rfl, HB.out⟩
end Go.Proofs.YtmbecjlioogbhaaGreatDoor
end
section
/-! What a long record tells. -/
set_option maxRecDepth 20000
set_option linter.unusedSimpArgs false
namespace Go.Proofs.YtmbecjlioogbhaaGreatDoor
open Go.RowKit

end Go.Proofs.YtmbecjlioogbhaaGreatDoor
end
section
/-! What a record tells. -/
set_option maxRecDepth 20000
set_option linter.unusedSimpArgs false
namespace Go.Proofs.YtmbecjlioogbhaaGreatDoor
open Go.RowKit

end Go.Proofs.YtmbecjlioogbhaaGreatDoor
end
section
/-! The pages that a commit may take, one by one. -/
set_option maxRecDepth 20000
set_option linter.unusedSimpArgs false
namespace Go.Proofs.YtmbecjlioogbhaaGreatDoor
open Go.RowKit

/-- Some blocks lie as they lay. -/
def Keep (L : List Nat) (A B : World) : Prop := ∀ k ∈ L, B.heap[k]? = A.heap[k]?
theorem Keep.refl (L : List Nat) (A : World) : Keep L A A := fun _ _ => rfl
theorem Keep.trans {L : List Nat} {A B C : World} (h : Keep L A B) (k : Keep L B C) : Keep L A C := fun x hx => (k x hx).trans (h x hx)
theorem Keep.of_below {L : List Nat} {n : Nat} {A B : World} (h : Below n A B) (hL : ∀ k ∈ L, k < n) : Keep L A B := fun x hx => h.block x (hL x hx)
theorem Keep.put {w : World} {L : List Nat} (hL : ∀ k ∈ L, k < w.heap.size) (W : World) (l : Nat) (o o' : Obj) (hl : w.heap.size ≤ l) (h : W.heap[l]? = some o) (h1 : o.isCells = false) (h2 : o.isWalk = false) : Keep L W (W.putObj l o') :=
  Keep.of_below (belowK_b (w := w) (Nat.le_refl _) W l o o' hl h h1 h2) hL
theorem grown_of_below {A B : World} (h : Below A.heap.size A B) : A.grownBy B none := ⟨h.os, h.tape, h.output, h.size, fun k hk _ => h.block k hk⟩
/-- Block g holds a space of so many pages. -/
def PgBox (w : World) (g : Nat) (r : Rt) : Prop := ∃ d lv pt pu po pk mb ch, w.heap[g]? = some (.cells (spA d r lv pt pu po pk mb ch) 101 (0, 0))
theorem Spc0.pgBox {w : World} {g d pt pk mb : Nat} {pu po : Option Addr} {s : Sp} (h : Spc0 w g d pt pk mb pu po s) : PgBox w g s.g.r := ⟨_, _, _, _, _, _, _, _, h.box⟩
theorem PgBox.same {w w' : World} {g : Nat} {r : Rt} (h : PgBox w g r) (hb : w'.heap[g]? = w.heap[g]?) : PgBox w' g r := by
  obtain ⟨d, lv, pt, pu, po, pk, mb, ch, h⟩ := h
  exact ⟨d, lv, pt, pu, po, pk, mb, ch, hb.trans h⟩
theorem PgBox.lt {w : World} {g : Nat} {r : Rt} (h : PgBox w g r) : g < w.heap.size := by
  obtain ⟨d, lv, pt, pu, po, pk, mb, ch, h⟩ := h
  exact lt_of_block h
theorem PgBox.cell {w : World} {g : Nat} {r : Rt} (h : PgBox w g r) : w.cell? ⟨g, 1, none⟩ = some (.int .i64 r.ep) ∧ w.cell? ⟨g, 2, none⟩ = some (.int .i64 r.pg) ∧ w.cell? ⟨g, 3, none⟩ = some (.int .i64 r.dr) ∧ w.cell? ⟨g, 4, none⟩ = some (.int .i64 r.wd) := by
  obtain ⟨d, lv, pt, pu, po, pk, mb, ch, h⟩ := h
  exact ⟨by rw [cell_of_row _ _ _ _ _ _ h]; rfl, by rw [cell_of_row _ _ _ _ _ _ h]; rfl, by rw [cell_of_row _ _ _ _ _ _ h]; rfl, by rw [cell_of_row _ _ _ _ _ _ h]; rfl⟩
theorem root_box {w : World} {g : Nat} {r : Rt} (h : PgBox w g r) : Calls Tryz.prog 84 #[.pointer (some ⟨g, 0, none⟩)] w fun e w' => e = .returned r.val ∧ Below w.heap.size w w' := by
  obtain ⟨B1, hB1⟩ : ∃ B1, w.alloc (.cells #[.int .i64 0, .int .i64 0, .int .i64 0, .int .i64 0] 93) = B1 := ⟨_, rfl⟩
  have hb : Below w.heap.size w B1 := by rw [← hB1]; exact alloc_below _ _
  have HR : Hid (RtAt B1 w.heap.size 93 Rt.none_) := Lib.hid (by rw [← hB1]; exact RtAt.new w Rt.none_ 93)
  obtain ⟨c1, c2, c3, c4⟩ := (h.same (hb.block g h.lt)).cell
  have k0 := HR.out.c0
  have k1 := HR.out.c1
  have k2 := HR.out.c2
  have k3 := HR.out.c3
  have fz := HR.out.fz
  have HB := Lib.hid hb
  have HF : Hid (Below w.heap.size w (set4 B1 w.heap.size r)) := Lib.hid (below_set4 HB.out (Nat.le_refl _) _)
  unfold set4 at HF
  clear h hb HR
  unfold Rt.val
  generalize r.ep = x at *
  generalize r.pg = y at *
  generalize r.dr = z at *
  generalize r.wd = u at *
  go_enter Tryz.func84, Tryz.ntmps84
  go_wp2_with fail
  exact bodyPost_ret (v := .agg #[.int .i64 x, .int .i64 y, .int .i64 z, .int .i64 u]) (by simp [results, Tryz.results84, go_sem, k0, k1, k2, k3]) rfl ⟨rfl, HF.out⟩
theorem pages_box {w : World} {g : Nat} {r : Rt} (h : PgBox w g r) : Calls Tryz.prog 86 #[.pointer (some ⟨g, 0, none⟩)] w fun e w' => e = .returned (.int .i64 r.pg) ∧ Below w.heap.size w w' := by
  have HR := Lib.hid (root_box h)
  clear h
  unfold Rt.val at HR
  obtain ⟨f0, f1, f2, f3⟩ := field_root r.ep r.pg r.dr r.wd
  go_enter Tryz.func86, Tryz.ntmps86
  go_wp2_with (go_at_call 84; refine HR.out.mono ?_; rintro e w7 ⟨rfl, hb⟩)
  go_ret
  exact ⟨rfl, hb⟩
/-- May a page be taken? -/
def frB (held : Nat → Bool) (p : Nat) : Bool := decide (2 ≤ p) && !held p
/-- What the iterator leans on. -/
structure FrK (W : World) (B1 B2 g gh bh : Nat) (r : Rt) (held : Nat → Bool) : Prop where
  c1 : W.cell? ⟨B1, 0, none⟩ = some (.pointer (some ⟨g, 0, none⟩))
  c2 : W.cell? ⟨B2, 0, none⟩ = some (.pointer (some ⟨gh, 0, none⟩))
  pb : PgBox W g r
  st : Bi.Sat W gh bh 512 held
theorem FrK.keep {W W' : World} {B1 B2 g gh bh : Nat} {r : Rt} {held : Nat → Bool} (h : FrK W B1 B2 g gh bh r held) (hk : Keep [B1, B2, g, gh, bh] W W') : FrK W' B1 B2 g gh bh r held :=
  ⟨(World.cell?_of_block (hk B1 (by simp))).trans h.c1, (World.cell?_of_block (hk B2 (by simp))).trans h.c2, h.pb.same (hk g (by simp)), h.st.same (hk gh (by simp)) (hk bh (by simp))⟩
theorem FrK.lt {W : World} {B1 B2 g gh bh : Nat} {r : Rt} {held : Nat → Bool} (h : FrK W B1 B2 g gh bh r held) : ∀ k ∈ [B1, B2, g, gh, bh], k < W.heap.size := by
  intro k hk
  simp only [List.mem_cons, List.not_mem_nil, or_false] at hk
  rcases hk with rfl | rfl | rfl | rfl | rfl
  · exact World.block_lt_of_cell? W _ h.c1
  · exact World.block_lt_of_cell? W _ h.c2
  · exact h.pb.lt
  · exact h.st.glt
  · exact h.st.blt
theorem FrK.below {W W' : World} {B1 B2 g gh bh : Nat} {r : Rt} {held : Nat → Bool} (h : FrK W B1 B2 g gh bh r held) (hb : Below W.heap.size W W') : FrK W' B1 B2 g gh bh r held := h.keep (Keep.of_below hb h.lt)
set_option maxRecDepth 100000 in
set_option maxHeartbeats 2000000 in
theorem free1_in (n : Nat) (hn : 1 ≤ n) (l B1 B2 g gh bh pg : Nat) (r : Rt) (hr : r.pg = (pg : Int)) (hpg : pg ≤ 512) (held : Nat → Bool) (J Jx : List Nat → World → Prop)
    (hY : ∀ (pre : List Nat) (x : Nat) W, J pre W → pre.length < 513 → YieldAt Fence.wide (n - 1) Tryz.prog l #[.int .i64 (x : Int)] W fun e W' =>
      (e = .returned (.bool true) ∧ J (pre ++ [x]) W' ∧ Keep [B1, B2, g, gh, bh] W W') ∨ (e = .returned (.bool false) ∧ Jx (pre ++ [x]) W'))
    (W : World) (hJ : AbidesFrom W.heap.size J) (hK : FrK W B1 B2 g gh bh r held) (h0 : J [] W) :
    CallsIn Fence.wide n Tryz.prog 170 #[.func (.yield l) #[] #[], .pointer (some ⟨B1, 0, none⟩), .pointer (some ⟨B2, 0, none⟩)] W fun e W' => (∃ v, e = .returned v) ∧
      ((∃ ys, ys = Tb.mems (frB held) pg ∧ J ys W') ∨ (∃ pre, True ∧ Jx pre W')) := by
  have HY := Lib.hid hY
  have HJ := Lib.hid hJ
  have HK := Lib.hid hK
  have HR := Lib.hid hr
  have HP := Lib.hid hpg
  clear hY hJ hK hr hpg
  refine callsIn_of_wp Tryz.func170 rfl trivial ?_ rfl
  simp only [Tryz.ntmps170, List.size_toArray, List.length_cons, List.length_nil, Nat.reduceAdd, Nat.reduceSub, Array.replicate_succ, Array.replicate_zero, List.push_toArray, List.append_toArray, List.nil_append, List.cons_append]
  gi_wp2
  gi_loopw [4] (fun i wr => ∃ s : Nat, 2 ≤ s ∧ i = .int .i64 (s : Int) ∧ s ≤ 512 ∧ Hid (J (Tb.mems (frB held) s) wr ∧ Keep [B1, B2, g, gh, bh] W wr ∧ True ∧ (s ≤ pg ∨ s = 2)))
    (fun i _ => 512 - (RowKit.intOf i).toNat)
  case atStart => exact ⟨2, by omega, rfl, by omega, Lib.hid ⟨h0, Keep.refl _ _, trivial, .inr rfl⟩⟩
  case round =>
    obtain ⟨s, hs2, rfl, hs5, HS⟩ := hrel
    have HKr := Lib.hid (HK.out.keep HS.out.2.1)
    have hb1 := HKr.out.c1
    have HPG := Lib.hid (pages_box HKr.out.pb)
    rw [HR.out] at HPG
    by_cases hlt : s < pg
    · have hd : decide ((s : Int) < (pg : Int)) = true := decide_eq_true (by omega)
      have hd2 : decide (s < pg) = true := decide_eq_true hlt
      have hz : (s : Int) ≤ 511 := by have := HP.out; omega
      have HL := Lib.hid hlt
      have HS2 := Lib.hid hs2
      clear hs2 hs5
      have HPL : Hid (s + 1 ≤ pg) := Lib.hid hlt
      have HSP : Hid (s < 512) := Lib.hid (by have := HP.out; omega)
      have HY2 : Hid (∀ wa wb, Below wr.heap.size wr wa → Below wa.heap.size wa wb → J (Tb.mems (frB held) s) wb ∧ Keep [B1, B2, g, gh, bh] W wb ∧ True) := Lib.hid fun wa wb ha hb => by
        have hab := Below.more ha hb ha.size
        exact ⟨HJ.out _ wr wb none HS.out.1 (grown_of_below hab) (fun r e => by cases e), HS.out.2.1.trans (Keep.of_below hab HKr.out.lt), trivial⟩
      clear hlt HS
      cases hh : held s with
      | true =>
        have HM : Hid (Tb.mems (frB held) (s + 1) = Tb.mems (frB held) s) := Lib.hid (Tb.mems_miss (by unfold frB; rw [hh]; simp))
        have HH : Hid (∀ wa, Below wr.heap.size wr wa → Calls Tryz.prog 171 #[.pointer (some ⟨gh, 0, none⟩), .int .i64 (s : Int)] wa fun e w' => e = .returned (.bool true) ∧ Below wa.heap.size wa w') := Lib.hid fun wa ha => by
          have h1 := Bi.has_in (HKr.out.below ha).st s HSP.out
          rwa [hh] at h1
        clear hh
        gi_wp2_with (refine ⟨trivial, ?_⟩; first
          | (gi_at_call 86; refine (callsIn_wide.2 HPG.out).mono ?_; rintro e wa ⟨rfl, hba⟩; have ha2 := (HKr.out.below hba).c2)
          | (gi_at_call 171; refine (callsIn_wide.2 (HH.out wa hba)).mono ?_; rintro e wb ⟨rfl, hbb⟩))
        refine ⟨fun _ h => (by cases h), ?_⟩
        gi_wp2
        go_roundw
        case rel => exact ⟨s + 1, by have := HS2.out; omega, by go_num, by have := HSP.out; omega, by rw [HM.out]; exact Lib.hid ⟨(HY2.out wa wb hba hbb).1, (HY2.out wa wb hba hbb).2.1, (HY2.out wa wb hba hbb).2.2, .inl HPL.out⟩⟩
        case measure => have := HSP.out; simp [RowKit.intOf]; omega
      | false =>
        have HM : Hid (Tb.mems (frB held) s ++ [s] = Tb.mems (frB held) (s + 1)) := Lib.hid (Tb.mems_hit (by unfold frB; rw [hh]; simp [HS2.out])).symm
        have HH : Hid (∀ wa, Below wr.heap.size wr wa → Calls Tryz.prog 171 #[.pointer (some ⟨gh, 0, none⟩), .int .i64 (s : Int)] wa fun e w' => e = .returned (.bool false) ∧ Below wa.heap.size wa w') := Lib.hid fun wa ha => by
          have h1 := Bi.has_in (HKr.out.below ha).st s HSP.out
          rwa [hh] at h1
        have HYY : Hid (∀ wa wb, Below wr.heap.size wr wa → Below wa.heap.size wa wb → YieldAt Fence.wide (n - 1) Tryz.prog l #[.int .i64 (s : Int)] wb fun e W' =>
            (e = .returned (.bool true) ∧ J (Tb.mems (frB held) (s + 1)) W' ∧ Keep [B1, B2, g, gh, bh] wb W') ∨ (e = .returned (.bool false) ∧ Jx (Tb.mems (frB held) (s + 1)) W')) := Lib.hid fun wa wb ha hb => by
          have h1 := HY.out _ s wb (HY2.out wa wb ha hb).1 (by have := Tb.mems_len (frB held) s; have := HSP.out; omega)
          rwa [HM.out] at h1
        clear hh
        gi_wp2_with (refine ⟨trivial, ?_⟩; first
          | (gi_at_call 86; refine (callsIn_wide.2 HPG.out).mono ?_; rintro e wa ⟨rfl, hba⟩; have ha2 := (HKr.out.below hba).c2)
          | (gi_at_call 171; refine (callsIn_wide.2 (HH.out wa hba)).mono ?_; rintro e wb ⟨rfl, hbb⟩; obtain ⟨fn, tmps, assign, body, hy, hR⟩ := HYY.out wa wb hba hbb))
        refine hR.mono ?_
        rintro e W3 (⟨rfl, hJ3, hk3⟩ | ⟨rfl, hJx3⟩)
        · have HK3 : Hid (Keep [B1, B2, g, gh, bh] W W3) := Lib.hid ((HY2.out wa wb hba hbb).2.1.trans hk3)
          clear hk3
          gi_wp2
          go_roundw
          case rel => exact ⟨s + 1, by have := HS2.out; omega, by go_num, by have := HSP.out; omega, Lib.hid ⟨hJ3, HK3.out, trivial, .inl HPL.out⟩⟩
          case measure => have := HSP.out; simp [RowKit.intOf]; omega
        · gi_wp2
          refine bodyPost_ret (results_none rfl _ _ _) rfl ?_
          exact ⟨⟨_, rfl⟩, .inr ⟨_, trivial, hJx3⟩⟩
    · have hd : decide ((s : Int) < (pg : Int)) = false := decide_eq_false (by omega)
      have hd2 : decide (s < pg) = false := decide_eq_false hlt
      have HE : Hid (Tb.mems (frB held) pg = Tb.mems (frB held) s) := Lib.hid (by
        rcases HS.out.2.2.2 with h | h
        · rw [show s = pg by omega]
        · subst h
          rcases (show pg = 0 ∨ pg = 1 ∨ pg = 2 by omega) with e | e | e <;> subst e <;> rfl)
      clear hlt hs2 hs5
      gi_wp2_with (refine ⟨trivial, ?_⟩; gi_at_call 86; refine (callsIn_wide.2 HPG.out).mono ?_; rintro e wa ⟨rfl, hba⟩)
      have HJa : Hid (J (Tb.mems (frB held) s) wa) := Lib.hid (HJ.out _ wr wa none HS.out.1 (grown_of_below hba) (fun r e => by cases e))
      gi_wp2
      go_end0
      exact ⟨⟨_, rfl⟩, .inl ⟨_, rfl, by rw [HE.out]; exact HJa.out⟩⟩
end Go.Proofs.YtmbecjlioogbhaaGreatDoor
end
section
/-! How many pages a commit needs, and how many are free. -/
set_option maxRecDepth 20000
set_option linter.unusedSimpArgs false
namespace Go.Proofs.YtmbecjlioogbhaaGreatDoor
open Go.RowKit Go.Shelf
attribute [local go_sem] Oper.semAt_some

theorem free_stops (n : Nat) (hn : 1 ≤ n) (B1 B2 g gh bh pg : Nat) (r : Rt) (hr : r.pg = (pg : Int)) (hpg : pg ≤ 512) (held : Nat → Bool) (w : World) (hK : FrK w B1 B2 g gh bh r held) :
    SeqStopsK Fence.wide n Tryz.prog 170 #[.pointer (some ⟨B1, 0, none⟩), .pointer (some ⟨B2, 0, none⟩)] (fun x : Nat => #[Value.int .i64 (x : Int)]) (Keep [B1, B2, g, gh, bh]) (fun ys => ys = Tb.mems (frB held) pg) (fun _ => True) 513 w := fun l J Jx W hW hJ _ hY h0 =>
  free1_in n hn l B1 B2 g gh bh pg r hr hpg held J Jx hY W hJ (hK.below hW) h0
section
variable {w : World} {g d pt pk mb : Nat} {pu po : Option Addr} {s : Sp}
/-- Fresh blocks of what free told. -/
structure FrN (W w' : World) (B1 B2 g gh bh : Nat) (r : Rt) (held : Nat → Bool) : Prop where
  k : FrK w' B1 B2 g gh bh r held
  n : W.heap.size ≤ B1 ∧ W.heap.size ≤ B2 ∧ W.heap.size ≤ gh ∧ W.heap.size ≤ bh
set_option maxHeartbeats 800000 in
theorem free_any (h : Spc0 w g d pt pk mb pu po s) :
    Calls Tryz.prog 133 #[.pointer (some ⟨g, 0, none⟩)] w fun e w' => (∃ B1 B2 gh bh, e = .returned (.func (.func 170) #[] #[.pointer (some ⟨B1, 0, none⟩), .pointer (some ⟨B2, 0, none⟩)]) ∧ FrN w w' B1 B2 g gh bh s.g.r (heldS s)) ∧ Below w.heap.size w w' := by
  have HA : Hid (Below w.heap.size w (w.alloc (.cells #[.pointer (some ⟨g, 0, none⟩)] 51))) := Lib.hid (alloc_below _ _)
  have k1 : (w.alloc (.cells #[.pointer (some ⟨g, 0, none⟩)] 51)).cell? ⟨w.heap.size, 0, none⟩ = some (.pointer (some ⟨g, 0, none⟩)) := World.cell?_alloc_new w _ _ 0
  have HX := Lib.hid (h.below HA.out)
  have HH := Lib.hid (held_any HX.out)
  clear h
  have HS1 : Hid ((w.alloc (.cells #[.pointer (some ⟨g, 0, none⟩)] 51)).heap.size = w.heap.size + 1) := Lib.hid (by simp)
  have HK1 := Lib.hid k1
  go_enter Tryz.func133, Tryz.ntmps133
  go_wp2_with (go_at_call 169; refine HH.out.mono ?_; rintro e w2 ⟨⟨gh, bh, rfl, ha, hb, hS⟩, hb2⟩; have e1 : (w2.alloc (.cells #[.pointer none] 96)).cell? ⟨w2.heap.size, 0, none⟩ = some (.pointer none) := World.cell?_alloc_new w2 _ _ 0; have e2 : (w2.alloc (.cells #[.pointer none] 96)).frozen? ⟨w2.heap.size, 0, none⟩ = false := free_of_one (heap_alloc_new w2 _))
  go_ret
  have hsz := HS1.out
  have hs2 := hb2.size
  have hb3 := alloc_below w2 (.cells #[.pointer (some ⟨gh, 0, none⟩)] 96)
  have hbw : Below w.heap.size w w2 := Below.more HA.out hb2 HA.out.size
  refine ⟨⟨w.heap.size, w2.heap.size, gh, bh, rfl, ⟨⟨?_, World.cell?_alloc_new w2 _ _ 0, (((HX.out.below hb2).below hb3).pgBox), hS.below hb3⟩, by omega, by omega, by omega, by omega⟩⟩, Below.more hbw hb3 hbw.size⟩
  rw [hb3.cell (p := ⟨w.heap.size, 0, none⟩) (by show w.heap.size < w2.heap.size; omega), hb2.cell (p := ⟨w.heap.size, 0, none⟩) (by show w.heap.size < _; omega)]
  exact HK1.out
/-- A box that holds a number. -/
structure BxN (w : World) (g : Nat) (v : Int) : Prop where
  cell : w.cell? ⟨g, 0, none⟩ = some (.int .i64 v)
  fz : w.frozen? ⟨g, 0, none⟩ = false
theorem BxN.own {g : Nat} (v : List Nat → Int) : Own (fun (pre : List Nat) W => BxN W g (v pre)) := fun _ _ _ _ hs hg hr =>
  ⟨cell_kept hs.cell hg hr, (frozen_kept hs.cell hg hr).trans hs.fz⟩
theorem Keep.setCell {L : List Nat} {g i : Nat} (hg : ∀ k ∈ L, k ≠ g) (v : Value) (w : World) : Keep L w (w.setCell ⟨g, i, none⟩ v) := fun k hk => Below.heap_setCell w _ v k (hg k hk)
/-- The pages that may be taken, rising. -/
def freeL (s : Sp) : List Nat := Tb.mems (frB (heldS s)) s.g.r.pg.toNat
set_option maxRecDepth 100000 in
set_option maxHeartbeats 2000000 in
theorem Free_any (h : Spc0 w g d pt pk mb pu po s) (pg : Nat) (hr : s.g.r.pg = (pg : Int)) (hpg : pg ≤ 512) :
    Calls Tryz.prog 83 #[.pointer (some ⟨g, 0, none⟩)] w fun e w' => e = .returned (.int .i64 ((freeL s).length : Int)) ∧ Below w.heap.size w w' := by
  have HT : Hid (∀ w1, Below w.heap.size w w1 → Calls Tryz.prog 133 #[.pointer (some ⟨g, 0, none⟩)] w1 fun e w' => (∃ B1 B2 gh bh, e = .returned (.func (.func 170) #[] #[.pointer (some ⟨B1, 0, none⟩), .pointer (some ⟨B2, 0, none⟩)]) ∧ FrN w1 w' B1 B2 g gh bh s.g.r (heldS s)) ∧ Below w1.heap.size w1 w') := Lib.hid fun w1 hb => free_any (h.below hb)
  have HFN : Hid (Tb.mems (frB (heldS s)) pg = freeL s) := Lib.hid (by unfold freeL; rw [hr, Int.toNat_natCast])
  have HG := Lib.hid h.lts.1
  clear h
  refine (callsIn_wide (n := 5)).1 ?_
  refine callsIn_of_wp_marks Tryz.func83 rfl trivial ?_ rfl
  simp only [Tryz.ntmps83, List.size_toArray, List.length_cons, List.length_nil, Nat.reduceAdd, Nat.reduceSub, Array.replicate_succ, Array.replicate_zero, List.push_toArray, List.append_toArray, List.nil_append, List.cons_append]
  gi_wp2_with (refine ⟨trivial, ?_⟩; gi_at_call 133; refine (callsIn_wide.2 (HT.out _ ((Below.refl _ _).alloc (Nat.le_refl _) _))).mono ?_; rintro e w7 ⟨⟨B1, B2, gh, bh, rfl, hTo⟩, hb⟩)
  obtain ⟨hF, t1, t2, t3, t4⟩ := hTo
  have hbB : Below w.heap.size w w7 := ((Below.refl _ _).alloc (Nat.le_refl _) (.cells #[.int .i64 0] 3)).trans (hb.mono (by simp))
  have hbx : BxN w7 w.heap.size 0 := ⟨(hb.cell (p := ⟨w.heap.size, 0, none⟩) (by simp)).trans (World.cell?_alloc_new w _ _ 0), (World.frozen?_of_block (hb.block w.heap.size (by simp))).trans (free_of_one (heap_alloc_new w _))⟩
  have hsz : w.heap.size < w7.heap.size := by have := hb.size; simp at this; omega
  have hL : ∀ k ∈ [B1, B2, g, gh, bh], k ≠ w.heap.size := by
    intro k hk
    simp only [List.mem_cons, List.not_mem_nil, or_false] at hk
    have hg := HG.out
    simp at t1 t2 t3 t4
    rcases hk with rfl | rfl | rfl | rfl | rfl <;> omega
  have HLT := Lib.hid hF.lt
  refine wpIn_rangeFunc_ownG rfl (by omega) (gf := 170) (lb := #[.pointer (some ⟨B1, 0, none⟩), .pointer (some ⟨B2, 0, none⟩)]) rfl trivial (enters_of Tryz.func170 (by kernel_rfl) rfl)
    (free_stops 4 (by omega) B1 B2 g gh bh pg s.g.r hr hpg (heldS s) w7 hF) Keep.trans (Keep.put HLT.out) (Below.refl _ _) (fun _ => rfl)
    (fun pre W => BxN W w.heap.size (pre.length : Int) ∧ Below w.heap.size w W)
    (fun _ _ _ => False)
    (OwnFrom.and (Own.from (BxN.own (fun pre => (pre.length : Int))) _) (ownFrom_below (by omega) (by omega)))
    (fun c => ownFrom_pure _ _)
    ⟨hbx, hbB⟩
    (fun x => { tmps := #[.pointer (some ⟨g, 0, none⟩), undef, .int .i64 0, .pointer (some ⟨w.heap.size, 0, none⟩), .pointer (some ⟨g, 0, none⟩), .func (.func 170) #[] #[.pointer (some ⟨B1, 0, none⟩), .pointer (some ⟨B2, 0, none⟩)], .int .i64 (x : Int), undef, undef, undef], defers := [] }) ?assign ?body ?done ?stop
  case assign =>
    intro l x W K hK
    gi_wp2
    first
      | exact hK
      | (simp; exact hK)
  case body =>
    rintro l pre x W ⟨hbx2, hB2⟩ hlen
    have hc := hbx2.cell
    have hf := hbx2.fz
    have hb1 : (pre.length : Int) ≤ 512 := by omega
    have hb0 : (0 : Int) ≤ (pre.length : Int) := by omega
    have HTS : Hid (((pre ++ [x]).length : Int) = (pre.length : Int) + 1) := Lib.hid (by rw [List.length_append]; simp)
    have HB2 := Lib.hid hB2
    clear hbx2 hB2 hlen
    generalize pre.length = tp at *
    gi_wp2
    refine ⟨(KeepsOthers.setCell _ _ _).from _, Keep.setCell hL _ _, ⟨?_, ?_⟩, HB2.out.setCell (p := ⟨w.heap.size, 0, none⟩) (Nat.le_refl _) _⟩
    · rw [HTS.out]; exact World.cell?_setCell_same' _ _ _ (by rw [hc]; rfl)
    · rw [World.frozen?_setCell]; exact hf
  case done =>
    rintro D ys W hD rfl ⟨hbx2, hB2⟩ hK
    rw [HFN.out] at hbx2
    have hc := hbx2.cell
    clear hbx2
    have HB2 := Lib.hid (hB2.trans (belowK_b (w := w) (Nat.le_refl _) W D _ (.deferred none) (by omega) hK rfl rfl))
    have HK := Lib.hid hK
    clear hB2 hK
    generalize hN : (freeL s).length = N at *
    gi_wp2
    refine ⟨by simp, .inl ⟨_, _, rfl, run_takeDeferred HK.out, ?_⟩⟩
    refine ⟨.int .i64 (N : Int), ?_, by rw [hN], HB2.out⟩
    simp [results, Tryz.f83, go_sem]
  case stop =>
    rintro D cd pre W hD _ hf hK
    exact hf.elim
/-- How many pages a commit needs. -/
def needS (s : Sp) : Nat := s.fr.keys.length + (movL s).length + 1
theorem movL_len (s : Sp) : (movL s).length ≤ 4 := Tb.mems_len _ _
theorem need_any (h : Spc0 w g d pt pk mb pu po s) :
    Calls Tryz.prog 82 #[.pointer (some ⟨g, 0, none⟩)] w fun e w' => e = .returned (.int .i64 (needS s : Int)) ∧ Below w.heap.size w w' := by
  have HR := Lib.hid (refusal_any h)
  have HM := Lib.hid (moved_any h)
  have c13 := h.c13
  have hLen := h.map.len
  have h1 := s.fr.keys_le
  have h2 := movL_len s
  have HE : Hid (needS s = s.fr.keys.length + (movL s).length + 1) := Lib.hid rfl
  rw [HE.out]
  clear h HE
  go_enter Tryz.func82, Tryz.ntmps82
  go_wp2_with (first | (go_at_call 47; refine HR.out.mono ?_; rintro e w7 ⟨rfl, rfl⟩) | (go_at_call 132; refine HM.out.mono ?_; rintro e w8 ⟨⟨v, rfl, hv⟩, hb8⟩; obtain ⟨p, c, rfl, hc⟩ := OwnI.cells hv))
  go_ret
  exact ⟨by simp, hb8⟩
end
end Go.Proofs.YtmbecjlioogbhaaGreatDoor
end
section
/-! A space with nothing changed; all as it was committed. -/
set_option maxRecDepth 20000
set_option linter.unusedSimpArgs false
namespace Go.Proofs.YtmbecjlioogbhaaGreatDoor
open Go.RowKit

/-- With nothing changed. -/
def settleS (s : Sp) : Sp := { s with kp := s.g.tb, fr := fun _ => none, ch := false }
set_option maxHeartbeats 1600000 in
theorem settle_any {w : World} {g d pt : Nat} {pu po pk0 : Option Addr} {mb0 : Option Nat} {ch0 : Bool} {s : Sp}
    (hbox : w.heap[g]? = some (.cells (spA d s.g.r s.g.lv (some ⟨pt, 0, none⟩) pu po pk0 mb0 ch0) 101 (0, 0))) (hT : Tb.Tab w pt s.g.tb) (hu : Stp w pu s.g.us) (ho : Stp w po s.od) :
    Calls Tryz.prog 76 #[.pointer (some ⟨g, 0, none⟩)] w fun e w' => e = .returned (.tuple #[]) ∧ (∃ pk mb, w.heap.size ≤ pk ∧ w.heap.size ≤ mb ∧ Spc0 w' g d pt pk mb pu po (settleS s)) ∧ Only g w w' := by
  have hmm := @run_makeMap Tryz.prog
  have c9 : w.cell? ⟨g, 9, none⟩ = some (.pointer (some ⟨pt, 0, none⟩)) := by rw [cell_of_row _ _ _ _ _ _ hbox]; rfl
  have HC := Lib.hid (Tb.copy_any hT)
  have HX := Lib.hid hbox
  have HT := Lib.hid hT
  have HU := Lib.hid hu
  have HO := Lib.hid ho
  clear hbox hT hu ho
  have HFX : Hid (∀ w1, Below w.heap.size w w1 → (w1.alloc (.map #[] 0)).heap[g]? = some (.cells (spA d s.g.r s.g.lv (some ⟨pt, 0, none⟩) pu po pk0 mb0 ch0) 101 (0, 0)) ∧
      (w1.alloc (.map #[] 0)).cell? ⟨g, 12, none⟩ = some (.pointer pk0) ∧ (w1.alloc (.map #[] 0)).cell? ⟨g, 13, none⟩ = some (.map mb0) ∧ (w1.alloc (.map #[] 0)).cell? ⟨g, 14, none⟩ = some (.bool ch0) ∧ ∀ i, (w1.alloc (.map #[] 0)).frozen? ⟨g, i, none⟩ = false) := Lib.hid fun w1 hb1 => by
    have hX2 : (w1.alloc (.map #[] 0)).heap[g]? = some (.cells (spA d s.g.r s.g.lv (some ⟨pt, 0, none⟩) pu po pk0 mb0 ch0) 101 (0, 0)) := ((alloc_below w1 (.map #[] 0)).block g (by have := lt_of_block HX.out; have := hb1.size; omega)).trans ((hb1.block g (lt_of_block HX.out)).trans HX.out)
    exact ⟨hX2, by rw [cell_of_row _ _ _ _ _ _ hX2]; rfl, by rw [cell_of_row _ _ _ _ _ _ hX2]; rfl, by rw [cell_of_row _ _ _ _ _ _ hX2]; rfl, fun i => frozen_of_row _ g i _ _ hX2⟩
  go_enter Tryz.func76, Tryz.ntmps76
  go_wp2_with (go_at_call 129; refine HC.out.mono ?_; rintro e w1 ⟨rfl, hT1, hb1⟩; obtain ⟨hX2, e12, e13, e14, fz⟩ := HFX.out w1 hb1)
  go_end0
  have hlg := lt_of_block HX.out
  have hs1 := hb1.size
  have hlt1 : w.heap.size < w1.heap.size := hT1.lt
  have hb2 := alloc_below w1 (.map #[] 0)
  have hb12 := Below.more hb1 hb2 hb1.size
  have hM := Frs.made w1
  have g1 := heap_setCell_same _ g 12 _ _ (.pointer (some ⟨w.heap.size, 0, none⟩)) hX2
  have g2 := heap_setCell_same _ g 13 _ _ (.map (some w1.heap.size)) g1
  have g3 := heap_setCell_same _ g 14 _ _ (.bool false) g2
  have hO : Only g (w1.alloc (.map #[] 0)) ((((w1.alloc (.map #[] 0)).setCell ⟨g, 12, none⟩ (.pointer (some ⟨w.heap.size, 0, none⟩))).setCell ⟨g, 13, none⟩ (.map (some w1.heap.size))).setCell ⟨g, 14, none⟩ (.bool false)) :=
    ((Only.setCell g 12 _ _).trans (Only.setCell g 13 _ _)).trans (Only.setCell g 14 _ _)
  have hk : Kin (w1.alloc (.map #[] 0)) [g] := fun k hk => by
    obtain rfl : k = g := by simpa using hk
    exact .inr ⟨_, _, _, hX2, by simp⟩
  have n1 : pt ≠ g := fun e => by have h2 := HT.out.row; unfold Tb.IsT at h2; rw [e, HX.out] at h2; simp at h2
  generalize hW : (((w1.alloc (.map #[] 0)).setCell ⟨g, 12, none⟩ (.pointer (some ⟨w.heap.size, 0, none⟩))).setCell ⟨g, 13, none⟩ (.map (some w1.heap.size))).setCell ⟨g, 14, none⟩ (.bool false) = W at *
  refine ⟨rfl, ⟨w.heap.size, w1.heap.size, Nat.le_refl _, hs1, ?_⟩, (Only.of_below hb12).trans hO⟩
  have hTc : Tb.Tab (w1.alloc (.map #[] 0)) w.heap.size s.g.tb := hT1.below hb2
  exact ⟨g3, (HT.out.below hb12).only hO n1, hTc.only hO (by omega), hM.same (hO.block _ (by simp) (by omega)), (HU.out.below hb12).chg2 (Chg.of_only (G := [g]) hO (by simp)) hk, (HO.out.below hb12).chg2 (Chg.of_only (G := [g]) hO (by simp)) hk, by have := HT.out.lt; omega⟩
end Go.Proofs.YtmbecjlioogbhaaGreatDoor
end
section
/-! What a put and a drop make of a set: all cases. -/
set_option maxRecDepth 20000
namespace Go.Proofs.YtmbecjlioogbhaaGreatDoor.Bi
open Go.RowKit

set_option maxHeartbeats 800000 in
theorem put_not {w : World} {g b n : Nat} {f : Nat → Bool} (h : Sat w g b n f) (x : Int) (hx : newI n f x = false) : Calls Tryz.prog 179 #[.pointer (some ⟨g, 0, none⟩), .int .i64 x] w fun e w' => e = .returned (.bool false) ∧ Below w.heap.size w w' := by
  have H := Lib.hid h
  clear h
  by_cases hin : 0 ≤ x ∧ x < (n : Int)
  · have hd1 : decide ((0 : Int) ≤ x) = true := decide_eq_true hin.1
    have hd2 : decide (x < (n : Int)) = true := decide_eq_true hin.2
    have hh : hasI f x = true := by unfold newI at hx; rw [decide_eq_true hin] at hx; simpa using hx
    go_enter Tryz.func179, Tryz.ntmps179
    go_wp2_with (go_at_call 205; refine (reach_any H.out _).mono ?_; rintro e w7 ⟨rfl, rfl⟩)
    refine (has_any H.out x).mono ?_
    rintro e w7 ⟨rfl, hb7⟩
    rw [hh]
    go_wp2_with fail
    go_ret
    exact ⟨rfl, hb7⟩
  · have hr : (decide (0 ≤ x) && decide (x < (n : Int))) = false := by
      by_cases h0 : 0 ≤ x
      · rw [decide_eq_false (show ¬ x < (n : Int) by omega), Bool.and_false]
      · rw [decide_eq_false h0, Bool.false_and]
    have HR := Lib.hid (reach_any H.out x)
    rw [hr] at HR
    go_enter Tryz.func179, Tryz.ntmps179
    go_wp2_with (go_at_call 205; refine (HR.out).mono ?_; rintro e w7 ⟨rfl, rfl⟩)
    go_ret
    exact ⟨rfl, Below.refl _ _⟩
/-- Put. -/
theorem put_any {w : World} {g b n : Nat} {f : Nat → Bool} (h : Sat w g b n f) (x : Int) : Calls Tryz.prog 179 #[.pointer (some ⟨g, 0, none⟩), .int .i64 x] w fun e w' => e = .returned (.bool (newI n f x)) ∧ Sat w' g b n (putI n f x) ∧ Only b w w' := by
  cases hx : newI n f x with
  | false =>
    refine (put_not h x hx).mono ?_
    rintro e w' ⟨rfl, hb⟩
    refine ⟨rfl, ?_, Only.of_below hb⟩
    have e : putI n f x = f := by
      unfold putI
      by_cases hin : 0 ≤ x ∧ x < (n : Int)
      · rw [if_pos hin]
        have hh : hasI f x = true := by unfold newI at hx; rw [decide_eq_true hin] at hx; simpa using hx
        have h2 : f x.toNat = true := by unfold hasI at hh; rw [decide_eq_true hin.1] at hh; simpa using hh
        funext j
        by_cases hj : j = x.toNat
        · subst hj; rw [upd_same, h2]
        · rw [upd_other _ _ _ _ hj]
      · rw [if_neg hin]
    rw [e]; exact h.below hb
  | true =>
    unfold newI at hx
    simp only [Bool.and_eq_true, decide_eq_true_eq, Bool.not_eq_true'] at hx
    obtain ⟨hin, hh⟩ := hx
    obtain ⟨i, rfl⟩ := Int.eq_ofNat_of_zero_le hin.1
    rw [hasI_nat] at hh
    refine (put_new h i (by omega) hh).mono ?_
    rintro e w' ⟨rfl, hs, ho⟩
    refine ⟨rfl, ?_, ho⟩
    unfold putI
    rw [if_pos hin, Int.toNat_natCast]; exact hs

end Go.Proofs.YtmbecjlioogbhaaGreatDoor.Bi
end
section
/-! The pages that a state lies on, and whether each stands for one thing alone. -/
set_option maxRecDepth 20000
set_option linter.unusedSimpArgs false
namespace Go.Proofs.YtmbecjlioogbhaaGreatDoor
open Go.RowKit

/-- What a claim makes of a set, and of whether all are apart. -/
def clm (pg : Int) (c : (Nat → Bool) × Bool) (x : Int) : (Nat → Bool) × Bool :=
  if x < pg then (Bi.putI 512 c.1 x, c.2 && Bi.newI 512 c.1 x) else (c.1, false)
/-- What is claimed of a state. -/
def claims (r : Rt) (lv tb : Nat → Nat) : List Int :=
  r.dr :: ((((List.range 4).filter fun i => !(lv i == 0)).map fun i => ((lv i : Nat) : Int)) ++ (Tb.mems (Tb.told tb) 512).map fun l => ((tb l : Nat) : Int))
def pgsM (r : Rt) (lv tb : Nat → Nat) : (Nat → Bool) × Bool := (claims r lv tb).foldl (clm r.pg) (fun _ => false, true)
/-- A state's cells. -/
def stA (r : Rt) (lv : Nat → Nat) (pt pu : Option Addr) : Array Value :=
  #[.int .i64 r.ep, .int .i64 r.pg, .int .i64 r.dr, .int .i64 r.wd, .int .i64 (lv 0 : Nat), .int .i64 (lv 1 : Nat), .int .i64 (lv 2 : Nat), .int .i64 (lv 3 : Nat), .pointer pt, .pointer pu]
/-- Block g holds a state. -/
structure Stt (w : World) (g pt : Nat) (pu : Option Addr) (r : Rt) (lv tb : Nat → Nat) : Prop where
  box : w.heap[g]? = some (.cells (stA r lv (some ⟨pt, 0, none⟩) pu) 98 (0, 0))
  tab : Tb.Tab w pt tb
section
variable {w w' : World} {g pt : Nat} {pu : Option Addr} {r : Rt} {lv tb : Nat → Nat}
theorem Stt.cell (h : Stt w g pt pu r lv tb) (i : Nat) (v : Value) (hv : (stA r lv (some ⟨pt, 0, none⟩) pu)[i]? = some v) : w.cell? ⟨g, i, none⟩ = some v := by
  rw [cell_of_row _ _ _ _ _ _ h.box]; exact hv
theorem Stt.same (h : Stt w g pt pu r lv tb) (h1 : w'.heap[g]? = w.heap[g]?) (h2 : w'.heap[pt]? = w.heap[pt]?) : Stt w' g pt pu r lv tb := ⟨h1.trans h.box, h.tab.same h2⟩
theorem Stt.lt (h : Stt w g pt pu r lv tb) : g < w.heap.size := lt_of_block h.box
theorem Stt.below (h : Stt w g pt pu r lv tb) (hb : Below w.heap.size w w') : Stt w' g pt pu r lv tb := h.same (hb.block g h.lt) (hb.block pt h.tab.lt)
end
/-- Amid the claims: the boxes, the state, the set. -/
structure Clm (W : World) (B1 B2 B3 g pt gu bu : Nat) (pu : Option Addr) (r : Rt) (lv tb : Nat → Nat) (c : (Nat → Bool) × Bool) : Prop where
  c1 : W.cell? ⟨B1, 0, none⟩ = some (.pointer (some ⟨g, 0, none⟩))
  c2 : W.cell? ⟨B2, 0, none⟩ = some (.pointer (some ⟨gu, 0, none⟩))
  c3 : W.cell? ⟨B3, 0, none⟩ = some (.bool c.2)
  f3 : W.frozen? ⟨B3, 0, none⟩ = false
  st : Stt W g pt pu r lv tb
  sat : Bi.Sat W gu bu 512 c.1
  n1 : B1 ≠ B3 ∧ B2 ≠ B3 ∧ g ≠ B3 ∧ pt ≠ B3 ∧ gu ≠ B3 ∧ bu ≠ B3
  n2 : B1 ≠ bu ∧ B2 ≠ bu ∧ g ≠ bu ∧ pt ≠ bu ∧ B3 ≠ bu
section
variable {W W' : World} {B1 B2 B3 g pt gu bu : Nat} {pu : Option Addr} {r : Rt} {lv tb : Nat → Nat} {c : (Nat → Bool) × Bool}
theorem Clm.keep (h : Clm W B1 B2 B3 g pt gu bu pu r lv tb c) (hk : Keep [B1, B2, B3, g, pt, gu, bu] W W') : Clm W' B1 B2 B3 g pt gu bu pu r lv tb c :=
  ⟨(World.cell?_of_block (hk B1 (by simp))).trans h.c1, (World.cell?_of_block (hk B2 (by simp))).trans h.c2, (World.cell?_of_block (hk B3 (by simp))).trans h.c3, (World.frozen?_of_block (hk B3 (by simp))).trans h.f3,
    h.st.same (hk g (by simp)) (hk pt (by simp)), h.sat.same (hk gu (by simp)) (hk bu (by simp)), h.n1, h.n2⟩
theorem Clm.lt (h : Clm W B1 B2 B3 g pt gu bu pu r lv tb c) : ∀ k ∈ [B1, B2, B3, g, pt, gu, bu], k < W.heap.size := by
  intro k hk
  simp only [List.mem_cons, List.not_mem_nil, or_false] at hk
  rcases hk with rfl | rfl | rfl | rfl | rfl | rfl | rfl
  · exact World.block_lt_of_cell? W _ h.c1
  · exact World.block_lt_of_cell? W _ h.c2
  · exact World.block_lt_of_cell? W _ h.c3
  · exact h.st.lt
  · exact h.st.tab.lt
  · exact h.sat.glt
  · exact h.sat.blt
theorem Clm.below (h : Clm W B1 B2 B3 g pt gu bu pu r lv tb c) (hb : Below W.heap.size W W') : Clm W' B1 B2 B3 g pt gu bu pu r lv tb c := h.keep (Keep.of_below hb h.lt)
/-- The set's bytes change. -/
theorem Clm.setSat (h : Clm W B1 B2 B3 g pt gu bu pu r lv tb c) {f : Nat → Bool} (hs : Bi.Sat W' gu bu 512 f) (ho : Only bu W W') : Clm W' B1 B2 B3 g pt gu bu pu r lv tb (f, c.2) :=
  ⟨(World.cell?_of_block (ho.block B1 (h.lt B1 (by simp)) h.n2.1)).trans h.c1, (World.cell?_of_block (ho.block B2 (h.lt B2 (by simp)) h.n2.2.1)).trans h.c2, (World.cell?_of_block (ho.block B3 (h.lt B3 (by simp)) h.n2.2.2.2.2)).trans h.c3, (World.frozen?_of_block (ho.block B3 (h.lt B3 (by simp)) h.n2.2.2.2.2)).trans h.f3,
    h.st.same (ho.block g h.st.lt h.n2.2.2.1) (ho.block pt h.st.tab.lt h.n2.2.2.2.1), hs, h.n1, h.n2⟩
/-- They aren't apart. -/
theorem Clm.setOff (h : Clm W B1 B2 B3 g pt gu bu pu r lv tb c) (b : Bool) : Clm (W.setCell ⟨B3, 0, none⟩ (.bool b)) B1 B2 B3 g pt gu bu pu r lv tb (c.1, b) := by
  have ho : Only B3 W (W.setCell ⟨B3, 0, none⟩ (.bool b)) := Only.setCell B3 0 _ W
  exact ⟨(World.cell?_of_block (ho.block B1 (h.lt B1 (by simp)) h.n1.1)).trans h.c1, (World.cell?_of_block (ho.block B2 (h.lt B2 (by simp)) h.n1.2.1)).trans h.c2, World.cell?_setCell_same' _ _ _ (by rw [h.c3]; rfl), by rw [World.frozen?_setCell]; exact h.f3,
    h.st.same (ho.block g h.st.lt h.n1.2.2.1) (ho.block pt h.st.tab.lt h.n1.2.2.2.1), h.sat.same (ho.block gu h.sat.glt h.n1.2.2.2.2.1) (ho.block bu h.sat.blt h.n1.2.2.2.2.2), h.n1, h.n2⟩
set_option maxHeartbeats 1600000 in
theorem claim_any (h : Clm W B1 B2 B3 g pt gu bu pu r lv tb c) (x : Int) :
    Calls Tryz.prog 178 #[.int .i64 x, .pointer (some ⟨B1, 0, none⟩), .pointer (some ⟨B2, 0, none⟩), .pointer (some ⟨B3, 0, none⟩)] W fun e W' => e = .returned (.tuple #[]) ∧ Clm W' B1 B2 B3 g pt gu bu pu r lv tb (clm r.pg c x) ∧ Chg [bu, B3] [bu, B3] W W' := by
  have c1 := h.c1
  have c2 := h.c2
  have c3 := h.c3
  have f3 := h.f3
  have p1 : W.cell? ⟨g, 1, none⟩ = some (.int .i64 r.pg) := h.st.cell 1 _ rfl
  have HX := Lib.hid h
  have HP := Lib.hid (Bi.put_any h.sat x)
  have HC : Hid (clm r.pg c x = if x < r.pg then (Bi.putI 512 c.1 x, c.2 && Bi.newI 512 c.1 x) else (c.1, false)) := Lib.hid rfl
  rw [HC.out]
  clear h HC
  generalize r.pg = pg at *
  by_cases hx : x < pg
  · have hd : decide (pg ≤ x) = false := decide_eq_false (by omega)
    have hd2 : decide (x ≥ pg) = false := decide_eq_false (by omega)
    rw [if_pos hx]
    clear hx
    cases hn : Bi.newI 512 c.1 x with
    | true =>
      rw [hn] at HP
      rw [Bool.and_true]
      generalize Bi.putI 512 c.1 x = f2 at *
      clear hn
      go_enter Tryz.func178, Tryz.ntmps178
      go_wp2_with (go_at_call 179; refine HP.out.mono ?_; rintro e w7 ⟨rfl, hS, hO⟩)
      go_end0
      exact ⟨rfl, HX.out.setSat hS hO, Chg.of_only hO (by simp)⟩
    | false =>
      rw [hn] at HP
      rw [Bool.and_false]
      generalize Bi.putI 512 c.1 x = f2 at *
      clear hn
      go_enter Tryz.func178, Tryz.ntmps178
      go_upto_region 1 with (go_at_call 179; refine HP.out.mono ?_; rintro e w7 ⟨rfl, hS, hO⟩)
      have HX7 := Lib.hid (HX.out.setSat hS hO)
      have HC7 : Hid (Chg [bu, B3] [bu, B3] W w7) := Lib.hid (Chg.of_only hO (by simp))
      have d3 := HX7.out.c3
      have e3 := HX7.out.f3
      have HX8 := Lib.hid (HX7.out.setOff false)
      clear hS hO HX7 HX HP c1 c2 c3 f3 p1
      go_wp2_with fail
      go_end0
      exact ⟨rfl, HX8.out, HC7.out.trans (Chg.setCell (by simp) _ _)⟩
  · have hd : decide (pg ≤ x) = true := decide_eq_true (by omega)
    have hd2 : decide (x ≥ pg) = true := decide_eq_true (by omega)
    rw [if_neg hx]
    have HX8 := Lib.hid (HX.out.setOff false)
    clear hx
    go_enter Tryz.func178, Tryz.ntmps178
    go_wp2_with fail
    go_end0
    exact ⟨rfl, HX8.out, Chg.setCell (by simp) _ _⟩
end
end Go.Proofs.YtmbecjlioogbhaaGreatDoor
end
