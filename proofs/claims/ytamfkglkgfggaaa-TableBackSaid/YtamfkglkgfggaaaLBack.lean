/- A table is made of its leaves' bytes: the walk of the law. -/
import Derived.Test.YtamfkglkgfggaaaLaw
set_option linter.unusedSimpArgs false
namespace Go.Proofs.Ytamfkglkgfggaaa
open Go.ChangeShapes Go.WideShapes Go.ChangeAt Go.RowKit

/-- What the law has made. -/
structure Bk (w W : World) (g1 g2 g3 : Nat) (f k : Nat → Nat) : Prop where
  t1 : Tab W g1 f
  t2 : Tab W g2 k
  t3 : Tab W g3 fun _ => 0
  n1 : g1 ≠ g3
  n2 : g2 ≠ g3
  l3 : w.heap.size ≤ g3
  bel : Below w.heap.size w W
/-- Amid the first loop. -/
structure B1 (W wr : World) (g3 : Nat) (f : Nat → Nat) (i : Nat) : Prop where
  tab : ∃ h, Tab wr g3 h ∧ ∀ l, l < 128 * i → h l = f l
  only : Only g3 W wr
/-- Amid the second loop. -/
structure B2 (W wr : World) (g3 : Nat) (f k : Nat → Nat) (i : Nat) : Prop where
  tab : ∃ h, Tab wr g3 h ∧ ∀ l, l < 512 → h l = if l < 128 * i then k l else f l
  only : Only g3 W wr
theorem mems_at {p : Nat → Bool} {i : Nat} (hp : p i = true) : ∀ n, i < n → (mems p n)[(mems p i).length]? = some i := by
  intro n
  induction n with
  | zero => intro h; omega
  | succ n ih =>
    intro h
    by_cases e : i = n
    · subst e
      rw [mems_hit hp, List.getElem?_append_right (Nat.le_refl _), Nat.sub_self]; rfl
    · have h1 := ih (by omega)
      cases hn : p n with
      | false => rw [mems_miss hn]; exact h1
      | true => rw [mems_hit hn, List.getElem?_append_left (List.getElem?_eq_some_iff.1 h1).1]; exact h1
theorem own_ivs {w : World} {base c : Nat} {p : Option Addr} {l : List Nat} (h : w.ownsRow base 3 1 (.slice p l.length c) l.length (ivs l)) (j x : Nat) (hx : l[j]? = some x) :
    ∃ g, p = some ⟨g, 0, none⟩ ∧ base ≤ g ∧ g < w.heap.size ∧ w.cell? ⟨g, j, none⟩ = some (.int .i64 (x : Int)) := by
  have hj := (List.getElem?_eq_some_iff.1 hx).1
  rcases h.2 with ⟨_, h0⟩ | ⟨g, cap, cur, e, hb, hh, _, _, _, ht⟩
  · omega
  · cases e
    refine ⟨g, rfl, hb, lt_of_block hh, ?_⟩
    have h3 : (cur.toList.take (l.length * 1))[j]? = cur.toList[j]? := List.getElem?_take_of_lt (by omega)
    rw [cell_of_row _ _ _ _ _ _ hh, ← Array.getElem?_toList, ← h3, ht]
    unfold ivs
    rw [List.getElem?_map, hx]; rfl
theorem dif_false {f k : Nat → Nat} {i : Nat} (h : difB f k i = false) : ∀ l, 128 * i ≤ l → l < 128 * i + 128 → f l = k l := by
  intro l h1 h2
  unfold difB sameN leafF at h
  rw [Bool.not_eq_false'] at h
  have h3 := of_decide_eq_true h
  have := h3 (l - 128 * i) (by omega)
  rwa [show 128 * i + (l - 128 * i) = l by omega] at this
set_option maxRecDepth 100000 in
set_option maxHeartbeats 2400000 in
theorem back_walk (p1 : Option Addr) (n1 c1 : Nat) (f1 : Nat → Op3) (p2 : Option Addr) (n2 c2 : Nat) (f2 : Nat → Op3) (w : World) (hn1 : n1 ≤ 9223372036854775807) (hO1 : OpsIn w p1 n1 f1) (hn2 : n2 ≤ 9223372036854775807) (hO2 : OpsIn w p2 n2 f2) :
    Calls Try.prog 5 #[.slice p1 n1 c1, .slice p2 n2 c2] w fun e w' => e = .returned (.bool true) ∧ Below w.heap.size w w' := by
  obtain ⟨hz, -⟩ := zero_of_info (P := Try.prog) info25
  have KI : Hid (∀ F, (Try.prog.info? 25).map (·.size) = some (rowA F 512).size) := Lib.hid fun F => by rw [size25, rowA_size]
  have HZS : Hid ((rowA (fun _ => 0) 512).size = 512) := Lib.hid (rowA_size _ _)
  have HM1 := Lib.hid (made_any p1 n1 c1 f1 w hn1 hO1)
  have HM2 : Hid (∀ w', Below w.heap.size w w' → Calls Try.prog 7 #[.slice p2 n2 c2] w' fun e w'' => e = .returned (.tuple #[.pointer (some ⟨w'.heap.size + 1, 0, none⟩), .agg (rowA (fsF f2 (min n2 40)) 512), .bool true]) ∧ Tab w'' (w'.heap.size + 1) (fsF f2 (min n2 40)) ∧ Below w'.heap.size w' w'') := Lib.hid fun w' hb => made_any p2 n2 c2 f2 w' hn2 (hO2.below hb)
  clear hn1 hn2 hO1 hO2
  generalize fsF f1 (min n1 40) = f at *
  generalize fsF f2 (min n2 40) = k at *
  generalize rowA (fun _ => 0) 512 = Z at *
  go_enter Try.func5, Try.ntmps5
  go_upto_region 2 with (first
    | (go_at_call 7; refine HM1.out.mono ?_; rintro e w1 ⟨rfl, hT1, hb1⟩)
    | (refine wpList_store_row rfl 25 (.tmp 6) (.tmp 20) rfl _ (rowA f 512) rfl rfl 25 Z (heap_alloc_new _ _) (KI.out _) (by rw [rowA_size]; exact HZS.out) (rowA_one _ _) ?_))
  have HT1 : Hid (Tab ((w1.alloc (.cells Z 25)).setRow w1.heap.size (rowA f 512)) (w.heap.size + 1) f) := Lib.hid (by
    rw [World.setRow_alloc_new]; exact hT1.below ((Below.refl _ _).alloc (Nat.le_refl _) _))
  have HB1 : Hid (Below w.heap.size w ((w1.alloc (.cells Z 25)).setRow w1.heap.size (rowA f 512))) := Lib.hid (by
    rw [World.setRow_alloc_new]; exact hb1.trans ((Below.refl w.heap.size w1).alloc hb1.size _))
  clear hT1 hb1 HM1
  generalize World.setRow _ _ _ = w2 at *
  go_upto_region 3 with (first
    | (go_at_call 7; refine (HM2.out _ HB1.out).mono ?_; rintro e w3 ⟨rfl, hT2, hb2⟩)
    | (refine wpList_store_row rfl 25 (.tmp 9) (.tmp 26) rfl _ (rowA k 512) rfl rfl 25 Z (heap_alloc_new _ _) (KI.out _) (by rw [rowA_size]; exact HZS.out) (rowA_one _ _) ?_))
  have HT2 : Hid (Tab ((w3.alloc (.cells Z 25)).setRow w3.heap.size (rowA k 512)) (w2.heap.size + 1) k) := Lib.hid (by
    rw [World.setRow_alloc_new]; exact hT2.below ((Below.refl _ _).alloc (Nat.le_refl _) _))
  have HB2 : Hid (Below w2.heap.size w2 ((w3.alloc (.cells Z 25)).setRow w3.heap.size (rowA k 512))) := Lib.hid (by
    rw [World.setRow_alloc_new]; exact hb2.trans ((Below.refl w2.heap.size w3).alloc hb2.size _))
  clear hT2 hb2 HM2
  generalize World.setRow _ _ _ = w4 at *
  go_upto_region 4 with (go_at_call 17; refine (new_any _).mono ?_; rintro e w5 ⟨rfl, hT3, hb3⟩)
  have HG : Hid (Bk w w5 (w.heap.size + 1) (w2.heap.size + 1) w4.heap.size f k) := Lib.hid
    ⟨(HT1.out.below HB2.out).below hb3, HT2.out.below hb3, hT3, by have := HT1.out.lt; have := HB2.out.size; omega, by have := HT2.out.lt; omega, by have := HB1.out.size; have := HB2.out.size; omega,
      (HB1.out.trans (HB2.out.mono HB1.out.size)).trans (hb3.mono (by have := HB1.out.size; have := HB2.out.size; omega))⟩
  clear HT1 HB1 HT2 HB2 hT3 hb3
  generalize w.heap.size + 1 = g1 at *
  generalize w2.heap.size + 1 = g2 at *
  generalize w4.heap.size = g3 at *
  go_wp2_with fail
  go_loopw [12] (fun iv wr => ∃ i : Nat, i ≤ 4 ∧ iv = .int .i64 (i : Int) ∧ B1 w5 wr g3 f i) (fun iv _ => 4 - (intOf iv).toNat)
  case atStart => exact ⟨0, by omega, by go_num, ⟨_, HG.out.t3, fun l hl => by omega⟩, Only.refl _ _⟩
  case round =>
    obtain ⟨i, hi, rfl, hB⟩ := hrel
    have HR := Lib.hid hB
    clear hB
    by_cases hlt : i < 4
    · have hd : decide ((i : Int) < 4) = true := decide_eq_true (by omega)
      have hiz : (i : Int) < 4 := by omega
      have HL := Lib.hid hlt
      have HLF := Lib.hid (leaf_in (HG.out.t1.only HR.out.only HG.out.n1) i hlt)
      obtain ⟨h, hTh, hh⟩ := HR.out.tab
      have HTH := Lib.hid hTh
      have HHH := Lib.hid hh
      have HLD : Hid (∀ w', Below wr.heap.size wr w' → ∀ p c, Bys w' p 512 (fours (leafF f i) 128) → 512 ≤ c → c ≤ 9223372036854775807 → Calls Try.prog 16 #[.pointer (some ⟨g3, 0, none⟩), .int .i64 (i : Int), .slice p 512 c] w' fun e w'' => e = .returned (.int .i64 0) ∧
        (∃ h2, Tab w'' g3 h2 ∧ ∀ l, l < 512 → h2 l = if 128 * i ≤ l ∧ l < 128 * i + 128 then f l else h l) ∧ Only g3 w' w'') := Lib.hid fun w' hb p c hBy hc hc2 => load_leaf (hTh.below hb) HG.out.t1.ok i hlt p c hBy hc hc2
      clear hTh hh hlt hi
      go_wp2_with (first
        | (go_at_call 12; refine HLF.out.mono ?_; rintro e w6 ⟨⟨p, c, rfl, hBy, hc, hc2⟩, hb6⟩)
        | (go_at_call 16; refine (HLD.out _ hb6 p c hBy hc hc2).mono ?_; rintro e w7 ⟨rfl, hT7, ho7⟩))
      go_roundw
      case rel =>
        obtain ⟨h2, hT2, hh2⟩ := hT7
        exact ⟨i + 1, by have := HL.out; omega, by go_num, ⟨h2, hT2, fun l hl => by
          rw [hh2 l (by have := HL.out; omega)]
          split
          · rfl
          · exact HHH.out l (by omega)⟩, (HR.out.only.trans (Only.of_below hb6)).trans ho7⟩
      case measure => have := HL.out; simp [intOf]; omega
    · have hd : decide ((i : Int) < 4) = false := decide_eq_false (by omega)
      obtain rfl : i = 4 := by omega
      obtain ⟨h, hTh, hh⟩ := HR.out.tab
      have HTH := Lib.hid hTh
      have HHH := Lib.hid hh
      have HOR := Lib.hid HR.out.only
      have HT1 := Lib.hid (HG.out.t1.only HR.out.only HG.out.n1)
      have HT2 := Lib.hid (HG.out.t2.only HR.out.only HG.out.n2)
      have hb0 := Below.refl wr.heap.size wr
      have HCA : Hid (∀ w', Below wr.heap.size wr w' → Calls Try.prog 18 #[.pointer (some ⟨g3, 0, none⟩), .pointer (some ⟨g1, 0, none⟩)] w' fun e w'' => (∃ p c, e = .returned (.slice p 0 c)) ∧ Below wr.heap.size wr w'') := Lib.hid fun w' hb =>
        (chg_none (HTH.out.below hb) (HT1.out.below hb) (fun l hl => HHH.out l (by omega))).mono fun e w'' h => ⟨h.1, hb.trans (h.2.mono hb.size)⟩
      have HCB : Hid (∀ w', Below wr.heap.size wr w' → Calls Try.prog 18 #[.pointer (some ⟨g1, 0, none⟩), .pointer (some ⟨g3, 0, none⟩)] w' fun e w'' => (∃ p c, e = .returned (.slice p 0 c)) ∧ Below wr.heap.size wr w'') := Lib.hid fun w' hb =>
        (chg_none (HT1.out.below hb) (HTH.out.below hb) (fun l hl => (HHH.out l (by omega)).symm)).mono fun e w'' h => ⟨h.1, hb.trans (h.2.mono hb.size)⟩
      have HTC : Hid ((cnt (told h) 512 : Int) = (cnt (told f) 512 : Int)) := Lib.hid (by rw [told_congr (fun l hl => HHH.out l (by omega)) 512 (Nat.le_refl _)])
      have HLA : Hid (∀ w', Below wr.heap.size wr w' → Calls Try.prog 10 #[.pointer (some ⟨g3, 0, none⟩)] w' fun e w'' => e = .returned (.int .i64 (cnt (told f) 512 : Int)) ∧ Below wr.heap.size wr w'') := Lib.hid fun w' hb =>
        (len_any (HTH.out.below hb)).mono fun e w'' h => ⟨by rw [h.1, HTC.out], hb.trans (h.2.mono hb.size)⟩
      have HLB : Hid (∀ w', Below wr.heap.size wr w' → Calls Try.prog 10 #[.pointer (some ⟨g1, 0, none⟩)] w' fun e w'' => e = .returned (.int .i64 (cnt (told f) 512 : Int)) ∧ Below wr.heap.size wr w'') := Lib.hid fun w' hb =>
        (len_any (HT1.out.below hb)).mono fun e w'' h => ⟨h.1, hb.trans (h.2.mono hb.size)⟩
      have HCC : Hid (∀ w', Below wr.heap.size wr w' → Calls Try.prog 18 #[.pointer (some ⟨g1, 0, none⟩), .pointer (some ⟨g2, 0, none⟩)] w' fun e w'' => (∃ v, e = .returned v ∧ w''.ownsRow w'.heap.size 3 1 v (mems (difB f k) 4).length (ivs (mems (difB f k) 4))) ∧ Below wr.heap.size wr w'') := Lib.hid fun w' hb =>
        (chg_all (HT1.out.below hb) (some ⟨g2, 0, none⟩) (.inl ⟨g2, rfl, HT2.out.below hb⟩)).mono fun e w'' h => ⟨h.1, hb.trans (h.2.mono hb.size)⟩
      have HXX : Hid (∀ w' x y, ((x = g3 ∧ y = g1) ∨ (x = g1 ∧ y = g3)) → Below wr.heap.size wr w' → Calls Try.prog 18 #[.pointer (some ⟨x, 0, none⟩), .pointer (some ⟨y, 0, none⟩)] w' fun e w'' => (∃ p c, e = .returned (.slice p 0 c)) ∧ Below wr.heap.size wr w'') := Lib.hid fun w' x y hxy hb => by
        rcases hxy with ⟨rfl, rfl⟩ | ⟨rfl, rfl⟩
        · exact HCA.out w' hb
        · exact HCB.out w' hb
      have HYY : Hid (∀ w' x, (x = g3 ∨ x = g1) → Below wr.heap.size wr w' → Calls Try.prog 10 #[.pointer (some ⟨x, 0, none⟩)] w' fun e w'' => e = .returned (.int .i64 (cnt (told f) 512 : Int)) ∧ Below wr.heap.size wr w'') := Lib.hid fun w' x hx hb => by
        rcases hx with rfl | rfl
        · exact HLA.out w' hb
        · exact HLB.out w' hb
      clear HCA HCB HLA HLB
      clear hTh hh hlt hi HTC
      generalize cnt (told f) 512 = N at *
      have hbA := hb0
      go_upto_region 11 with (first
        | (go_at_call 18; refine (HXX.out _ _ _ (by first | exact .inl ⟨rfl, rfl⟩ | exact .inr ⟨rfl, rfl⟩) hbA).mono ?_; rintro e w7 ⟨⟨p, c, rfl⟩, hbA⟩)
        | (go_at_call 10; refine (HYY.out _ _ (by first | exact .inl rfl | exact .inr rfl) hbA).mono ?_; rintro e w7 ⟨rfl, hbA⟩))
      go_upto_region 12 with (go_at_call 18; refine (HCC.out _ hbA).mono ?_; rintro e w8 ⟨⟨v, rfl, hv⟩, hb8⟩)
      obtain ⟨pc, cc, rfl⟩ := vslice hv
      have HV := Lib.hid hv
      have HB8 := Lib.hid hb8
      have HT18 := Lib.hid (HT1.out.below hb8)
      have HT28 := Lib.hid (HT2.out.below hb8)
      have HTH8 := Lib.hid (HTH.out.below hb8)
      have HOL : Hid (g3 < w7.heap.size) := Lib.hid (by have := HTH.out.lt; have := hbA.size; omega)
      have HBW : Hid (Below w.heap.size w w8) := Lib.hid ((HOR.out.below HG.out.bel HG.out.bel.size HG.out.l3).trans (hb8.mono (by have := HG.out.bel.size; have := HOR.out.size; omega)))
      clear hv hb8 hbA hb0 HXX HYY HCC HT1 HT2 HTH HOR
      generalize hL : (mems (difB f k) 4).length = L at *
      have HLL := Lib.hid hL
      clear hL
      go_wp2_with fail
      go_loopw [15, 14] (fun iv nv wr => ∃ i : Nat, i ≤ 4 ∧ iv = .int .i64 (i : Int) ∧ nv = .int .i64 ((mems (difB f k) i).length : Int) ∧ B2 w8 wr g3 f k i) (fun iv _ _ => 4 - (intOf iv).toNat)
      case atStart => exact ⟨0, by omega, by go_num, rfl, ⟨_, HTH8.out, fun l hl => by rw [if_neg (by omega)]; exact HHH.out l (by omega)⟩, Only.refl _ _⟩
      case round =>
        obtain ⟨i, hi, rfl, rfl, hB⟩ := hrel
        have HR2 := Lib.hid hB
        clear hB
        obtain ⟨h2, hTh2, hh2⟩ := HR2.out.tab
        have HTH2 := Lib.hid hTh2
        have HHH2 := Lib.hid hh2
        clear hTh2 hh2
        by_cases hlt : i < 4
        · have hd : decide ((i : Int) < 4) = true := decide_eq_true (by omega)
          have hiz : (i : Int) < 4 := by omega
          have HL := Lib.hid hlt
          have HT1r := Lib.hid (HT18.out.only HR2.out.only HG.out.n1)
          have HT2r := Lib.hid (HT28.out.only HR2.out.only HG.out.n2)
          have HLF : Hid (∀ w', Below wr.heap.size wr w' → Calls Try.prog 12 #[.pointer (some ⟨g1, 0, none⟩), .int .i64 (i : Int)] w' fun e w'' => (∃ p c', e = .returned (.slice p 512 c') ∧ Bys w'' p 512 (fours (leafF f i) 128) ∧ 512 ≤ c' ∧ c' ≤ 9223372036854775807) ∧ Below wr.heap.size wr w'') := Lib.hid fun w' hb =>
            (leaf_in (HT1r.out.below hb) i hlt).mono fun e w'' h => ⟨h.1, hb.trans (h.2.mono hb.size)⟩
          have HLK : Hid (∀ w', Below wr.heap.size wr w' → Calls Try.prog 12 #[.pointer (some ⟨g2, 0, none⟩), .int .i64 (i : Int)] w' fun e w'' => (∃ p c', e = .returned (.slice p 512 c') ∧ Bys w'' p 512 (fours (leafF k i) 128) ∧ 512 ≤ c' ∧ c' ≤ 9223372036854775807) ∧ Below wr.heap.size wr w'' ∧ Below w'.heap.size w' w'') := Lib.hid fun w' hb =>
            (leaf_in (HT2r.out.below hb) i hlt).mono fun e w'' h => ⟨h.1, hb.trans (h.2.mono hb.size), h.2⟩
          have HDE : Hid (((strB (fours (leafF f i) 128)).toList == (strB (fours (leafF k i) 128)).toList) = !difB f k i) := Lib.hid (by
            rw [strB_beq (fours_dig (f := leafF f i) (fun j => HT18.out.ok.lt _) _) (fours_dig (f := leafF k i) (fun j => HT28.out.ok.lt _) _), fours_dif])
          clear hlt hi
          go_upto_region 16 with fail
          go_cut [74] (fun v wx => v = .bool (!difB f k i) ∧ Below wr.heap.size wr wx)
          case first =>
            refine wp_region_any (by kernel_rfl) ?_
            refine wpAny_take (i := 0) (v := .pointer (some ⟨g1, 0, none⟩)) rfl (by kernel_rfl) (by kernel_rfl) (by kernel_rfl) (fun _ _ _ h => h) (Or.inl ⟨by rfl, fun w => by go_simp⟩) ?_
            simp only [List.getElem_toArray, List.getElem_cons_succ, List.getElem_cons_zero, Act.put, List.setIfInBounds_toArray, List.set_cons_succ, List.set_cons_zero]
            refine wpAny_take (i := 1) (v := .int .i64 (i : Int)) rfl (by kernel_rfl) (by kernel_rfl) (by kernel_rfl) (fun _ _ _ h => h) (Or.inl ⟨by rfl, fun w => by go_simp⟩) ?_
            simp only [List.getElem_toArray, List.getElem_cons_succ, List.getElem_cons_zero, Act.put, List.setIfInBounds_toArray, List.set_cons_succ, List.set_cons_zero]
            refine wpAny_take (i := 4) (v := .pointer (some ⟨g2, 0, none⟩)) rfl (by kernel_rfl) (by kernel_rfl) (by kernel_rfl) (fun _ _ _ h => h) (Or.inl ⟨by rfl, fun w => by go_simp⟩) ?_
            simp only [List.getElem_toArray, List.getElem_cons_succ, List.getElem_cons_zero, Act.put, List.setIfInBounds_toArray, List.set_cons_succ, List.set_cons_zero]
            refine wpAny_take (i := 5) (v := .int .i64 (i : Int)) rfl (by kernel_rfl) (by kernel_rfl) (by kernel_rfl) (fun _ _ _ h => h) (Or.inl ⟨by rfl, fun w => by go_simp⟩) ?_
            simp only [List.getElem_toArray, List.getElem_cons_succ, List.getElem_cons_zero, Act.put, List.setIfInBounds_toArray, List.set_cons_succ, List.set_cons_zero]
            refine wpAny_ready (rs := [2]) (by kernel_rfl) (by simp) ?_
            refine AllReady.cons rfl (fun K hK => ?_) AllReady.nil
            rw [if_pos (by rfl)]
            simp only [List.getElem_toArray, List.getElem_cons_succ, List.getElem_cons_zero, Act.put, List.setIfInBounds_toArray, List.set_cons_succ, List.set_cons_zero]
            go_simp
            go_at_call 12
            refine (HLF.out _ (Below.refl _ _).drew).mono ?_
            rintro e wA ⟨⟨pA, cA, rfl, hBA, hcA, hdA⟩, hbA⟩
            refine hK _ _ ?_
            clear hK K
            refine wpAny_ready (rs := [3, 6]) (by kernel_rfl) (by simp) ?_
            refine AllReady.cons rfl (fun K hK => ?_) ?_
            · rw [if_pos (by rfl)]
              have hcv := Bys.conv (hBA) cA
              try simp only [List.getElem_toArray, List.getElem_cons_succ, List.getElem_cons_zero, Act.put, List.setIfInBounds_toArray, List.set_cons_succ, List.set_cons_zero]
              go_simp
              refine hK _ _ ?_
              clear hK K hcv
              refine wpAny_ready (rs := [6]) (by kernel_rfl) (by simp) ?_
              refine AllReady.cons rfl (fun K hK => ?_) AllReady.nil
              rw [if_pos (by rfl)]
              simp only [List.getElem_toArray, List.getElem_cons_succ, List.getElem_cons_zero, Act.put, List.setIfInBounds_toArray, List.set_cons_succ, List.set_cons_zero]
              go_simp
              go_at_call 12
              refine (HLK.out _ hbA).mono ?_
              rintro e wB ⟨⟨pB, cB, rfl, hBB, hcB, hdB⟩, hbB, hstep⟩
              refine hK _ _ ?_
              clear hK K
              refine wpAny_ready (rs := [7]) (by kernel_rfl) (by simp) ?_
              refine AllReady.cons rfl (fun K hK => ?_) AllReady.nil
              rw [if_pos (by rfl)]
              have hcv := Bys.conv (hBB) cB
              try simp only [List.getElem_toArray, List.getElem_cons_succ, List.getElem_cons_zero, Act.put, List.setIfInBounds_toArray, List.set_cons_succ, List.set_cons_zero]
              go_simp
              refine hK _ _ ?_
              clear hK K hcv
              refine wpAny_ready (rs := [8]) (by kernel_rfl) (by simp) ?_
              refine AllReady.cons rfl (fun K hK => ?_) AllReady.nil
              rw [if_pos (by rfl)]
              try simp only [List.getElem_toArray, List.getElem_cons_succ, List.getElem_cons_zero, Act.put, List.setIfInBounds_toArray, List.set_cons_succ, List.set_cons_zero]
              go_simp
              refine hK _ _ ?_
              clear hK K
              refine wpAny_done (by kernel_rfl) ?_ _
              go_wp2_with fail
              go_meet
              exact ⟨by rw [HDE.out], hbB⟩
            · refine AllReady.cons rfl (fun K hK => ?_) AllReady.nil
              rw [if_pos (by rfl)]
              simp only [List.getElem_toArray, List.getElem_cons_succ, List.getElem_cons_zero, Act.put, List.setIfInBounds_toArray, List.set_cons_succ, List.set_cons_zero]
              go_simp
              go_at_call 12
              refine (HLK.out _ hbA).mono ?_
              rintro e wB ⟨⟨pB, cB, rfl, hBB, hcB, hdB⟩, hbB, hstep⟩
              have HBA2 := Lib.hid (hBA.below hstep)
              refine hK _ _ ?_
              clear hK K
              refine wpAny_ready (rs := [3, 7]) (by kernel_rfl) (by simp) ?_
              refine AllReady.cons rfl (fun K hK => ?_) ?_
              · rw [if_pos (by rfl)]
                have hcv := Bys.conv (HBA2.out) cA
                try simp only [List.getElem_toArray, List.getElem_cons_succ, List.getElem_cons_zero, Act.put, List.setIfInBounds_toArray, List.set_cons_succ, List.set_cons_zero]
                go_simp
                refine hK _ _ ?_
                clear hK K hcv
                refine wpAny_ready (rs := [7]) (by kernel_rfl) (by simp) ?_
                refine AllReady.cons rfl (fun K hK => ?_) AllReady.nil
                rw [if_pos (by rfl)]
                have hcv := Bys.conv (hBB) cB
                try simp only [List.getElem_toArray, List.getElem_cons_succ, List.getElem_cons_zero, Act.put, List.setIfInBounds_toArray, List.set_cons_succ, List.set_cons_zero]
                go_simp
                refine hK _ _ ?_
                clear hK K hcv
                refine wpAny_ready (rs := [8]) (by kernel_rfl) (by simp) ?_
                refine AllReady.cons rfl (fun K hK => ?_) AllReady.nil
                rw [if_pos (by rfl)]
                try simp only [List.getElem_toArray, List.getElem_cons_succ, List.getElem_cons_zero, Act.put, List.setIfInBounds_toArray, List.set_cons_succ, List.set_cons_zero]
                go_simp
                refine hK _ _ ?_
                clear hK K
                refine wpAny_done (by kernel_rfl) ?_ _
                go_wp2_with fail
                go_meet
                exact ⟨by rw [HDE.out], hbB⟩
              · refine AllReady.cons rfl (fun K hK => ?_) AllReady.nil
                rw [if_pos (by rfl)]
                have hcv := Bys.conv (hBB) cB
                try simp only [List.getElem_toArray, List.getElem_cons_succ, List.getElem_cons_zero, Act.put, List.setIfInBounds_toArray, List.set_cons_succ, List.set_cons_zero]
                go_simp
                refine hK _ _ ?_
                clear hK K hcv
                refine wpAny_ready (rs := [3]) (by kernel_rfl) (by simp) ?_
                refine AllReady.cons rfl (fun K hK => ?_) AllReady.nil
                rw [if_pos (by rfl)]
                have hcv := Bys.conv (HBA2.out) cA
                try simp only [List.getElem_toArray, List.getElem_cons_succ, List.getElem_cons_zero, Act.put, List.setIfInBounds_toArray, List.set_cons_succ, List.set_cons_zero]
                go_simp
                refine hK _ _ ?_
                clear hK K hcv
                refine wpAny_ready (rs := [8]) (by kernel_rfl) (by simp) ?_
                refine AllReady.cons rfl (fun K hK => ?_) AllReady.nil
                rw [if_pos (by rfl)]
                try simp only [List.getElem_toArray, List.getElem_cons_succ, List.getElem_cons_zero, Act.put, List.setIfInBounds_toArray, List.set_cons_succ, List.set_cons_zero]
                go_simp
                refine hK _ _ ?_
                clear hK K
                refine wpAny_done (by kernel_rfl) ?_ _
                go_wp2_with fail
                go_meet
                exact ⟨by rw [HDE.out], hbB⟩
          case rest =>
            obtain ⟨rfl, hbx⟩ := hcut
            have HBX := Lib.hid hbx
            clear hbx
            cases hdf : difB f k i with
            | false =>
              have HM : Hid (mems (difB f k) (i + 1) = mems (difB f k) i) := Lib.hid (mems_miss hdf)
              have HEQ := Lib.hid (dif_false hdf)
              clear hdf
              go_wp2_with fail
              go_roundw
              case rel => exact ⟨i + 1, by have := HL.out; omega, by go_num, by rw [HM.out], ⟨h2, HTH2.out.below HBX.out, fun l hl => by
                rw [HHH2.out l hl]
                by_cases h1 : l < 128 * i
                · rw [if_pos h1, if_pos (by omega)]
                · rw [if_neg h1]
                  by_cases h3 : l < 128 * (i + 1)
                  · rw [if_pos h3]; exact HEQ.out l (by omega) (by omega)
                  · rw [if_neg h3]⟩, HR2.out.only.trans (Only.of_below HBX.out)⟩
              case measure => have := HL.out; simp [intOf]; omega
            | true =>
              have HM : Hid ((mems (difB f k) (i + 1)).length = (mems (difB f k) i).length + 1) := Lib.hid (by rw [mems_hit hdf, List.length_append]; rfl)
              have hat := mems_at hdf 4 HL.out
              have hml : (mems (difB f k) i).length < L := by rw [← HLL.out]; exact (List.getElem?_eq_some_iff.1 hat).1
              have hV := HV.out
              rw [← HLL.out] at hV
              obtain ⟨gc, rfl, hgc, hgl, hcell⟩ := own_ivs hV _ _ hat
              have hcell2 : wc.cell? ⟨gc, (mems (difB f k) i).length, none⟩ = some (.int .i64 (i : Int)) := by
                have e1 := HR2.out.only.block gc hgl (by have := HOL.out; omega)
                have e2 := HBX.out.block gc (by have := HR2.out.only.size; omega)
                exact (World.cell?_of_block (e2.trans e1)).trans hcell
              have hmz : ((mems (difB f k) i).length : Int) ≤ 4 := by have := mems_len (difB f k) i; have := HL.out; omega
              have hmn : ((mems (difB f k) i).length : Int) < (L : Int) := by omega
              have hmd : decide ((L : Int) ≤ ((mems (difB f k) i).length : Int)) = false := decide_eq_false (by omega)
              have hmd2 : decide (L ≤ (mems (difB f k) i).length) = false := decide_eq_false (by omega)
              have hLD : ∀ w', Below wc.heap.size wc w' → ∀ p c, Bys w' p 512 (fours (leafF k i) 128) → 512 ≤ c → c ≤ 9223372036854775807 → Calls Try.prog 16 #[.pointer (some ⟨g3, 0, none⟩), .int .i64 (i : Int), .slice p 512 c] w' fun e w'' => e = .returned (.int .i64 0) ∧
                  (∃ h3, Tab w'' g3 h3 ∧ ∀ l, l < 512 → h3 l = if 128 * i ≤ l ∧ l < 128 * i + 128 then k l else h2 l) ∧ Only g3 w' w'' := fun w' hb p c hBy hc hc2 => load_leaf ((HTH2.out.below HBX.out).below hb) HT28.out.ok i HL.out p c hBy hc hc2
              have HLD := Lib.hid hLD
              have HLQ := Lib.hid (leaf_in (HT2r.out.below HBX.out) i HL.out)
              clear hLD hV hcell hat hdf
              generalize (mems (difB f k) i).length = m at *
              go_wp2_with (first
                | (go_at_call 12; refine HLQ.out.mono ?_; rintro e w9 ⟨⟨p, c, rfl, hBy, hc, hc2⟩, hb9⟩)
                | (go_at_call 16; refine (HLD.out _ hb9 p c hBy hc hc2).mono ?_; rintro e w10 ⟨rfl, hT10, ho10⟩))
              go_roundw
              case rel =>
                obtain ⟨h3, hT3, hh3⟩ := hT10
                exact ⟨i + 1, by have := HL.out; omega, by go_num, by rw [HM.out]; go_num, ⟨h3, hT3, fun l hl => by
                  rw [hh3 l hl]
                  by_cases h1 : 128 * i ≤ l ∧ l < 128 * i + 128
                  · rw [if_pos h1, if_pos (by omega)]
                  · rw [if_neg h1, HHH2.out l hl]
                    by_cases h4 : l < 128 * i
                    · rw [if_pos h4, if_pos (by omega)]
                    · rw [if_neg h4, if_neg (by omega)]⟩, ((HR2.out.only.trans (Only.of_below HBX.out)).trans (Only.of_below hb9)).trans ho10⟩
              case measure => have := HL.out; simp [intOf]; omega
        · have hd : decide ((i : Int) < 4) = false := decide_eq_false (by omega)
          obtain rfl : i = 4 := by omega
          have HT2r := Lib.hid (HT28.out.only HR2.out.only HG.out.n2)
          have HCZ := Lib.hid (chg_none HTH2.out HT2r.out (fun l hl => by rw [HHH2.out l hl, if_pos (by omega)]))
          have HBR : Hid (Below w.heap.size w wr) := Lib.hid (HR2.out.only.below HBW.out HBW.out.size HG.out.l3)
          rw [HLL.out]
          clear hlt hi
          go_wp2_with (first
            | (go_at_call 18; refine HCZ.out.mono ?_; rintro e w9 ⟨⟨p, c, rfl⟩, hb9⟩)
            | (go_at_call 11; refine (lives_any _).mono ?_; rintro e w10 ⟨rfl, hb10⟩))
          go_ret
          exact ⟨rfl, (HBR.out.trans (hb9.mono HBR.out.size)).trans (hb10.mono (by have := HBR.out.size; have := hb9.size; omega))⟩
set_option maxRecDepth 100000 in
theorem back_lifted (os : Os) (started : os.Started) (H : Type) (enc : TypeId × Value → H) :
    ReturnsInHanded {} Try.checked os 5 .any (fun w args => Rows.tableBackSpec.pre enc Try.prog Try.f5 [] false w args ∧ sizedMet enc Try.prog Try.f5 (OpenSpec.ofChange Rows.tableBackSpec) false w args)
      (Rows.tableBackSpec.post enc Try.prog Try.f5 false true false false) := by
  refine returnsInHanded_of_change_sized (C := Try.checked) own started (by kernel_rfl) Try.func5
    (ChangeSpec.witness6 (enc := enc) (C := Try.checked) false ⟨#[], #[.slice none 0 0, .slice none 0 0], []⟩ 8 (by kernel_rfl) (by kernel_rfl) (by kernel_rfl) (by kernel_rfl)) ?_
  intro W base args ds gs before hval0 hW _ hsz0 _
  have hval : ∀ (j : Nat) t v, Try.f5.params[j]? = some t → args[j]? = some v → Value.okWide Try.prog W .any base t v := hval0
  have hlt := fun x hx => hW.lt (p := x) hx
  have hW' := hW
  obtain ⟨p, q, hA0, hV, rfl, hfz, hnd⟩ := hW
  have hA : DataW.TrodAll enc Try.prog W 0 (fun _ => true) true Try.f5.params.toList args.toList ds p := hA0
  have hsz : (DataW.weightsEach Try.prog (Try.f5.params.toList ++ Rows.tableBackSpec.plain.varTypes Try.prog) (ds ++ gs)).all (· ≤ reachBytes) = true := hsz0
  rw [Try.params5] at hA hval hsz
  obtain ⟨v0, vs0, d0, ds0, p0, q0, hargs, rfl, rfl, h0, r0⟩ := trodAll_cons hA
  obtain ⟨v1, vs1, d1, ds1, p1, q1, rfl, rfl, rfl, h1, r1⟩ := trodAll_cons r0
  obtain ⟨rfl, rfl, rfl⟩ := trodAll_nil r1
  obtain rfl : args = #[v0, v1] := by cases args; simp_all
  obtain ⟨rfl, rfl⟩ := trodVars_none hV
  obtain ⟨a0, n0, c0, b0, rfl, hb0, hn0⟩ := open_ops (hval 0 22 v0 rfl rfl) h0
  obtain ⟨a1, n1, c1, b1, rfl, hb1, hn1⟩ := open_ops (hval 1 22 v1 rfl rfl) h1
  clear hA0 hval0
  simp only [List.append_nil] at hW'
  refine (back_walk a0 n0 c0 b0 a1 n1 c1 b1 W hn0 hb0 hn1 hb1).mono fun e W' ⟨he, hg⟩ => ?_
  subst he
  exact ⟨_, rfl, law_post hW' (fun _ _ _ => (trodAll_cons_mk (shut_bool Try.underlying4 _) trodAll_mk0)) (trodAll_cons_mk (Below.trod laidOut (by kernel_rfl) (by decide +kernel) h0 hg (fun x hx => hlt x (by simp [hx]))) (trodAll_cons_mk (Below.trod laidOut (by kernel_rfl) (by decide +kernel) h1 hg (fun x hx => hlt x (by simp [hx]))) trodAll_mk0)) rfl (by simp) hg⟩

theorem back_holds : Rows.TableBackSaid :=
  OpenClaim.holds_of_wide 5 Try.f5 rfl rfl rfl rfl rfl rfl rfl ⟨rfl, rfl, rfl, rfl, rfl⟩ rfl rfl rfl rfl rfl (by kernel_rfl) Try.func5 (by kernel_rfl)
    (of_decide_eq_true (by kernel_rfl)) (by unfold Func.isWrapper; first | (rw [if_pos (by decide +kernel)]; kernel_rfl) | (rw [if_neg (by decide +kernel)]; exact ⟨rfl, rfl⟩))
    (fun os started H enc _ => back_lifted os started H enc)
#print axioms back_holds

end Go.Proofs.Ytamfkglkgfggaaa
