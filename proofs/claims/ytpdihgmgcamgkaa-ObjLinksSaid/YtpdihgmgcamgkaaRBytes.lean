/- The document's Bytes. -/
import Derived.Test.YtpdihgmgcamgkaaEncode
import Derived.Test.YtpdihgmgcamgkaaDecK
import Derived.Deep.RegionHeldLaw
import Derived.Deep.Cut
import Derived.Deep.DeepCutAuto
set_option linter.unusedSimpArgs false
set_option maxRecDepth 20000
namespace Go.Proofs.Ytpdihgmgcamgkaa
open Go.RowKit

theorem rcount_any (x : Int) (w : World) (h0 : -9223372036854775808 ≤ x) (h1 : x ≤ 9223372036854775807) :
    Calls Try.prog 37 #[.int .i64 x] w fun e w' => e = .returned (.string (strB (numB (cnt x)))) ∧ Below w.heap.size w w' :=
  rcount_at x (cnt x) w h0 h1 (cnt_lt h1) (Lib.hid (by unfold cnt; omega))
/-- A part's bytes behind its kind. -/
def tailB (p : Pt) : List Nat := if p.k = 1 ∨ p.k = 3 ∨ p.k = 5 ∨ p.k = 8 then numB (cnt p.n) else if p.k = 2 then numB (zig p.n) else if p.k = 4 then numB p.s.size ++ nums p.s else []
theorem ptB_tail (p : Pt) : ptB p = [(p.k % 256).toNat] ++ tailB p := by
  unfold ptB tailB cnt
  rw [show (max p.n 0).toNat = p.n.toNat by omega]
set_option maxHeartbeats 6400000 in
theorem rbytes_any (r : Rc) (q : Option Addr) (c : Nat) (w : World) (hm : mayM r = true) (hB : ∀ p ∈ r.parts, PtB p) (hp : Pts w q r.parts.length r.parts) :
    Calls Try.prog 14 #[r.val q c] w fun e w' => e = .returned (.string (strB (rcB r))) ∧ Below w.heap.size w w' := by
  obtain ⟨hz1, hz2, hz3⟩ := may_size hm
  have HP := Lib.hid hp
  have HZ : Hid (∀ i, i < r.parts.length → PtB (r.parts.getD i default) ∧ (r.parts.getD i default).s.size ≤ 32) := Lib.hid (fun i hi => by
    rw [List.getD_eq_getElem?_getD, List.getElem?_eq_getElem hi]
    exact ⟨hB _ (List.getElem_mem hi), hz3 _ (List.getElem_mem hi)⟩)
  have HLT : Hid (∀ i, i ≤ r.parts.length → (ptsB (r.parts.take i)).length ≤ 60 * 256) := Lib.hid (fun i hi => by
    have := ptsB_len (l := r.parts.take i) (fun p hp => ⟨hB p (List.mem_of_mem_take hp), hz3 p (List.mem_of_mem_take hp)⟩)
    rw [List.length_take] at this
    omega)
  have hw8 : IntKind.u8.wrap r.kind = (((r.kind % 256).toNat : Nat) : Int) := by rw [IntKind.wrap_u8']; omega
  have hkb := kB_lt r.kind
  have HST := Lib.hid (fun i (h : i < r.parts.length) => ptsB_take r.parts i h)
  clear hp hB hm hz3
  obtain ⟨k, l, S⟩ := r
  unfold Rc.val rcB
  simp only at HP HZ HLT HST hw8 hkb hz1 hz2 ⊢
  generalize (k % 256).toNat = x at *
  obtain ⟨n, HN⟩ : ∃ n, Hid (l.length = n) := ⟨_, Lib.hid rfl⟩
  rw [HN.out] at HP HZ HLT HST hz1 ⊢
  have HTK : Hid (l.take n = l) := Lib.hid (by rw [← HN.out, List.take_length])
  have HRS := Lib.hid (fun w => rsized_any (nums S) w (by rw [nums_len]; omega))
  rw [strB_nums] at HRS
  rw [nums_len] at HRS
  obtain ⟨RS, HRS2⟩ : ∃ RS, Hid (strB ([x] ++ numB n ++ ptsB l ++ (numB S.size ++ nums S)) = RS) := ⟨_, Lib.hid rfl⟩
  rw [HRS2.out]
  have HL10 := Lib.hid (numB_ten (n := n) (by omega))
  have HL11 := Lib.hid (numB_ten (n := S.size) (by omega))
  have HRC := Lib.hid (fun w => rcount_any (n : Int) w (by omega) (by omega))
  rw [show cnt (n : Int) = n by unfold cnt; omega] at HRC
  have hsz : (strB [x]).size + (strB (numB n)).size ≤ 9223372036854775807 := by
    rw [strB_size, strB_size]
    have := HL10.out
    simp; omega
  have hszi : ((strB [x]).size : Int) + ((strB (numB n)).size : Int) ≤ 9223372036854775807 := by omega
  have HA0 : Hid (strB [x] ++ strB (numB n) = strB ([x] ++ numB n)) := Lib.hid (strB_append _ _).symm
  go_enter Try.func14, Try.ntmps14
  go_upto_region 1 with fail
  have hx : (w.alloc (.cells #[.int .i64 k, .slice q n c, .string S] 24)).heap[w.heap.size]? = some (.cells #[.int .i64 k, .slice q n c, .string S] 24 (0, 0)) := heap_alloc_new w _
  have hbx : Below w.heap.size w (w.alloc (.cells #[.int .i64 k, .slice q n c, .string S] 24)) := (Below.refl _ _).alloc (Nat.le_refl _) _
  generalize w.alloc (.cells #[.int .i64 k, .slice q n c, .string S] 24) = V at *
  have HX := Lib.hid hx
  have HBX := Lib.hid hbx
  have k0 := cell_of_row _ _ 0 _ _ _ hx
  have k1 := cell_of_row _ _ 1 _ _ _ hx
  simp at k0 k1
  have HCL : Hid (∀ u, Below V.heap.size V u → u.cell? ⟨w.heap.size, 0, none⟩ = some (.int .i64 k) ∧ u.cell? ⟨w.heap.size, 1, none⟩ = some (.slice q n c)) := Lib.hid (fun u hu => ⟨(hu.cell (lt_of_block hx)).trans k0, (hu.cell (lt_of_block hx)).trans k1⟩)
  have hc := fun u => str_one u x hkb
  have hc2 := fun u => str_drew u x hkb
  have HC := Lib.hid (fun u u2 => str_cell u u2 x hkb)
  have hne : w.heap.size ≠ V.heap.size := by have := lt_of_block hx; omega
  clear hx hbx
  go_cut [3] (fun sv wx => sv = .string (strB ([x] ++ numB n)) ∧ Hid (Below V.heap.size V wx))
  case first =>
    generalize strB [x] = T at *
    generalize strB (numB n) = U at *
    go_region_held_law (fun u => u.cell? ⟨w.heap.size, 0, none⟩ = some (.int .i64 k) ∧ u.cell? ⟨w.heap.size, 1, none⟩ = some (.slice q n c)) ((first
        | with_reducible exact ⟨z0, z1⟩
        | go_keep)) (first
      | (go_at_call 37
         refine (HRC.out _).mono ?_
         rintro e w1 ⟨rfl, hb⟩
         first
           | (have hb1 : Below V.heap.size V w1 := (Below.refl _ _).drew.trans hb
              obtain ⟨z0, z1⟩ := HCL.out w1 hb1
              have hzn : w.heap.size ≠ w1.heap.size := by have := hb1.size; have := lt_of_block HX.out; omega)
           | (have hA := (Below.refl V.heap.size V).alloc (Nat.le_refl _) (.cells #[.int .u8 (x : Int)] 5)
              have hb0 := (Below.refl _ (V.alloc (.cells #[.int .u8 (x : Int)] 5))).drew.trans hb
              have hb1 : Below V.heap.size V w1 := hA.trans (hb0.mono hA.size)
              obtain ⟨z0, z1⟩ := HCL.out w1 hb1
              have hc5 := HC.out V w1 (by rw [hb0.cell (p := ⟨V.heap.size, 0, none⟩) (by simp)]; exact World.cell?_alloc_new V _ _ 0))))
    all_goals
      go_wp2_with fail
      go_meet
      exact ⟨by rw [HA0.out], Lib.hid (by first | exact hb1.alloc hb1.size _ | exact hb1 | exact hb1.drew | exact (hb1.alloc hb1.size _).drew)⟩
  case rest =>
    obtain ⟨rfl, HY⟩ := hcut
    clear hc hc2 HC hne HA0
    have HBY := Lib.hid (HBX.out.trans (HY.out.mono HBX.out.size))
    have HXY := Lib.hid ((HY.out.block _ (lt_of_block HX.out)).trans HX.out)
    go_wp2_with fail
    go_loopw [3, 4, 5] (fun sv iv _ wr => ∃ i : Nat, i ≤ n ∧ iv = .int .i64 (i : Int) ∧ sv = .string (strB ([x] ++ numB n ++ ptsB (l.take i))) ∧ Hid (Below w.heap.size w wr) ∧ Hid (wr.heap[w.heap.size]? = some (.cells #[.int .i64 k, .slice q n c, .string S] 24 (0, 0)))) (fun _ iv _ _ => n - (intOf iv).toNat)
    case atStart => exact ⟨0, by omega, by go_num, by simp [ptsB], HBY, HXY⟩
    case round =>
      obtain ⟨i, hi, rfl, rfl, HBr, HXr⟩ := hrel
      have e1 := cell_of_row _ _ 1 _ _ _ HXr.out
      have e2 := cell_of_row _ _ 2 _ _ _ HXr.out
      simp at e1 e2
      by_cases hlt : i < n
      · obtain ⟨b, o, rfl, hcp⟩ := (HP.out.below (HBr.out.mono (Nat.le_refl _))).2 (by omega)
        obtain ⟨p0, p1, p2⟩ := hcp i hlt
        have hzi := HZ.out i hlt
        have hst := HST.out i hlt
        have hd1 : decide ((i : Int) < (n : Int)) = true := by simp; omega
        obtain ⟨p, hpe⟩ : ∃ p, l.getD i default = p := ⟨_, rfl⟩
        rw [hpe] at p0 p1 p2 hzi hst
        have HI0 := Lib.hid hzi.1.n.1
        have HI1 := Lib.hid hzi.1.n.2
        have HLi := Lib.hid (HLT.out i hi)
        have HPL := Lib.hid (ptB_len hzi.1 hzi.2)
        have H32 := Lib.hid hzi.2
        generalize hpre : [x] ++ numB n ++ ptsB (l.take i) = pre at *
        have HPRE : Hid (pre.length ≤ 20000) := Lib.hid (by rw [← hpre, List.length_append, List.length_append]; have := HLi.out; have := HL10.out; simp; omega)
        have HNX : Hid ([x] ++ numB n ++ ptsB (l.take (i + 1)) = pre ++ ([(p.k % 256).toNat] ++ tailB p)) := Lib.hid (by rw [hst, ← hpre, ptB_tail, ← List.append_assoc])
        have HTLN : Hid ((tailB p).length ≤ 100) := Lib.hid (by have h := HPL.out; rw [ptB_tail, List.length_append] at h; simp at h; omega)
        clear hcp hst hzi hpe hpre
        have hkp : IntKind.u8.wrap p.k = (((p.k % 256).toNat : Nat) : Int) := by rw [IntKind.wrap_u8']; omega
        have hkl := kB_lt p.k
        obtain ⟨y, hy⟩ : ∃ y, Hid ((p.k % 256).toNat = y) := ⟨_, Lib.hid rfl⟩
        rw [hy.out] at hkp hkl HNX
        have hcs := fun ob => (one_bys2 wr y hkl ob).conv 1
        have hs1 : (strB pre).size + (strB [y]).size ≤ 9223372036854775807 := by rw [strB_size, strB_size]; have := HPRE.out; simp; omega
        have hs2 : ((strB pre).size : Int) + ((strB [y]).size : Int) ≤ 9223372036854775807 := by omega
        have HS3 : Hid (∀ b : List Nat, b.length ≤ 100 → (strB (pre ++ [y])).size + (strB b).size ≤ 9223372036854775807) := Lib.hid (fun b hb => by rw [strB_size, strB_size, List.length_append]; have := HPRE.out; simp; omega)
        have HAP : Hid (strB pre ++ strB [y] = strB (pre ++ [y])) := Lib.hid (strB_append _ _).symm
        have HFN : Hid (∀ b, tailB p = b → strB ([x] ++ numB n ++ ptsB (l.take (i + 1))) = strB (pre ++ [y]) ++ strB b) := Lib.hid (fun b e => by rw [HNX.out, e, ← strB_append, List.append_assoc])
        obtain ⟨k2, n2, s2⟩ := p
        simp only at p0 p1 p2 hkp HI0 HI1 H32
        have HTC : Hid (k2 = 1 ∨ k2 = 3 ∨ k2 = 5 ∨ k2 = 8 → tailB ⟨k2, n2, s2⟩ = numB (cnt n2)) := Lib.hid (fun h => by unfold tailB; rw [if_pos h])
        have HTW : Hid (k2 = 2 → tailB ⟨k2, n2, s2⟩ = numB (zig n2)) := Lib.hid (fun h => by unfold tailB; rw [if_neg (by simp only; omega), if_pos h])
        have HTS : Hid (k2 = 4 → tailB ⟨k2, n2, s2⟩ = numB s2.size ++ nums s2) := Lib.hid (fun h => by unfold tailB; rw [if_neg (by simp only; omega), if_neg (by simp only; omega), if_pos h])
        have HTN : Hid (¬ (k2 = 1 ∨ k2 = 3 ∨ k2 = 5 ∨ k2 = 8) → k2 ≠ 2 → k2 ≠ 4 → tailB ⟨k2, n2, s2⟩ = []) := Lib.hid (fun h1 h2 h3 => by unfold tailB; rw [if_neg h1, if_neg h2, if_neg h3])
        generalize tailB ⟨k2, n2, s2⟩ = TB at *
        obtain ⟨A1, hA1⟩ : ∃ A, strB pre = A := ⟨_, rfl⟩
        obtain ⟨A2, hA2⟩ : ∃ A, strB [y] = A := ⟨_, rfl⟩
        rw [hA1] at hs1 hs2 HAP ⊢
        rw [hA2] at hs1 hs2 HAP hcs
        clear hA1 hA2
        have HXp : Hid (∀ u, Below (wr.alloc (.cells #[.int .i64 k2, .int .i64 n2, .string s2] 50)).heap.size (wr.alloc (.cells #[.int .i64 k2, .int .i64 n2, .string s2] 50)) u → Below w.heap.size w u ∧ u.heap[w.heap.size]? = some (.cells #[.int .i64 k, .slice (some ⟨b, o, none⟩) n c, .string S] 24 (0, 0)) ∧ u.heap[wr.heap.size]? = some (.cells #[.int .i64 k2, .int .i64 n2, .string s2] 50 (0, 0))) := Lib.hid (fun u hu => by
          have h1 : Below wr.heap.size wr u := ((Below.refl wr.heap.size wr).alloc (Nat.le_refl _) _).trans (hu.mono (by simp))
          exact ⟨HBr.out.trans (h1.mono HBr.out.size), (h1.block _ (lt_of_block HXr.out)).trans HXr.out, (hu.block _ (by simp)).trans (heap_alloc_new wr _)⟩)
        clear e2
        go_upto_region 7 with fail
        rw [HAP.out]
        obtain ⟨b5, b6, b7⟩ := HXp.out ((wr.alloc (.cells #[.int .i64 k2, .int .i64 n2, .string s2] 50)).alloc (.cells #[.int .u8 (y : Int)] 5)) ((Below.refl _ _).alloc (Nat.le_refl _) _)
        generalize (wr.alloc (.cells #[.int .i64 k2, .int .i64 n2, .string s2] 50)).alloc (.cells #[.int .u8 (y : Int)] 5) = w6 at b5 b6 b7 ⊢
        have HB6 := Lib.hid b5
        have HX6 := Lib.hid b6
        have HP6 := Lib.hid b7
        have r0 := cell_of_row _ _ 0 _ _ _ HP6.out
        have r1 := cell_of_row _ _ 1 _ _ _ HP6.out
        have r2 := cell_of_row _ _ 2 _ _ _ HP6.out
        simp at r0 r1 r2
        clear b5 b6 b7 p0 p1 p2 hcs hs1 hs2
        by_cases hk : k2 = 1 ∨ k2 = 3 ∨ k2 = 5 ∨ k2 = 8
        · have HEQ := Lib.hid (HTC.out hk)
          clear HTC HTW HTS HTN
          have hs4 := HS3.out (numB (cnt n2)) (by rw [← HEQ.out]; exact HTLN.out)
          have hs5 : ((strB (pre ++ [y])).size : Int) + ((strB (numB (cnt n2))).size : Int) ≤ 9223372036854775807 := by omega
          have HFI := Lib.hid (HFN.out _ HEQ.out)
          generalize strB (pre ++ [y]) = A3 at *
          have HCC := Lib.hid (fun u => rcount_any n2 u HI0.out HI1.out)
          generalize strB (numB (cnt n2)) = A4 at *
          rcases hk with rfl | rfl | rfl | rfl
          all_goals
            go_wp2_with fail
            refine (HCC.out _).mono ?_
            rintro e w8 ⟨rfl, hb8⟩
            have HB8 := Lib.hid (HB6.out.trans (hb8.mono HB6.out.size))
            have HX8 := Lib.hid ((hb8.block _ (lt_of_block HX6.out)).trans HX6.out)
            have HP8 := Lib.hid ((hb8.block _ (lt_of_block HP6.out)).trans HP6.out)
            have r0 := cell_of_row _ _ 0 _ _ _ HP8.out
            simp at r0
            clear hb8
            go_wp2_with fail
            go_roundw
            case rel => exact ⟨i + 1, by omega, by go_num, by rw [HFI.out], HB8, HX8⟩
            case measure => simp [intOf]; omega
        · have g1 : (k2 == 1) = false := beq_eq_false_iff_ne.2 (by omega)
          have g3 : (k2 == 3) = false := beq_eq_false_iff_ne.2 (by omega)
          have g5 : (k2 == 5) = false := beq_eq_false_iff_ne.2 (by omega)
          have g8 : (k2 == 8) = false := beq_eq_false_iff_ne.2 (by omega)
          by_cases h2 : k2 = 2
          · have HEQ := Lib.hid (HTW.out h2)
            clear HTC HTW HTS HTN hk
            have hs4 := HS3.out (numB (zig n2)) (by rw [← HEQ.out]; exact HTLN.out)
            have hs5 : ((strB (pre ++ [y])).size : Int) + ((strB (numB (zig n2))).size : Int) ≤ 9223372036854775807 := by omega
            have HFI := Lib.hid (HFN.out _ HEQ.out)
            generalize strB (pre ++ [y]) = A3 at *
            have HCC := Lib.hid (fun u => rwhole_any n2 u HI0.out HI1.out)
            generalize strB (numB (zig n2)) = A4 at *
            subst h2
            go_wp2_with fail
            refine (HCC.out _).mono ?_
            rintro e w8 ⟨rfl, hb8⟩
            have HB8 := Lib.hid (HB6.out.trans (hb8.mono HB6.out.size))
            have HX8 := Lib.hid ((hb8.block _ (lt_of_block HX6.out)).trans HX6.out)
            have HP8 := Lib.hid ((hb8.block _ (lt_of_block HP6.out)).trans HP6.out)
            have r0 := cell_of_row _ _ 0 _ _ _ HP8.out
            simp at r0
            clear hb8
            go_wp2_with fail
            go_roundw
            case rel => exact ⟨i + 1, by omega, by go_num, by rw [HFI.out], HB8, HX8⟩
            case measure => simp [intOf]; omega
          · have g2 : (k2 == 2) = false := beq_eq_false_iff_ne.2 h2
            by_cases h4 : k2 = 4
            · have HEQ := Lib.hid (HTS.out h4)
              clear HTC HTW HTS HTN hk h2
              have hs4 := HS3.out (numB s2.size ++ nums s2) (by rw [← HEQ.out]; exact HTLN.out)
              have hs5 : ((strB (pre ++ [y])).size : Int) + ((strB (numB s2.size ++ nums s2)).size : Int) ≤ 9223372036854775807 := by omega
              have HFI := Lib.hid (HFN.out _ HEQ.out)
              generalize strB (pre ++ [y]) = A3 at *
              have HCC : Hid (∀ u, Calls Try.prog 39 #[.string s2] u fun e w' => e = .returned (.string (strB (numB s2.size ++ nums s2))) ∧ Below u.heap.size u w') := Lib.hid (fun u => by
                have h := rsized_any (nums s2) u (by rw [nums_len]; have := H32.out; omega)
                rw [strB_nums, nums_len] at h
                rw [strB_append, strB_nums]
                exact h)
              generalize strB (numB s2.size ++ nums s2) = A4 at *
              subst h4
              go_wp2_with fail
              refine (HCC.out _).mono ?_
              rintro e w8 ⟨rfl, hb8⟩
              have HB8 := Lib.hid (HB6.out.trans (hb8.mono HB6.out.size))
              have HX8 := Lib.hid ((hb8.block _ (lt_of_block HX6.out)).trans HX6.out)
              have HP8 := Lib.hid ((hb8.block _ (lt_of_block HP6.out)).trans HP6.out)
              have r0 := cell_of_row _ _ 0 _ _ _ HP8.out
              simp at r0
              clear hb8
              go_wp2_with fail
              go_roundw
              case rel => exact ⟨i + 1, by omega, by go_num, by rw [HFI.out], HB8, HX8⟩
              case measure => simp [intOf]; omega
            · have g4 : (k2 == 4) = false := beq_eq_false_iff_ne.2 h4
              have HEQ := Lib.hid (HTN.out hk h2 h4)
              have HFI : Hid (strB ([x] ++ numB n ++ ptsB (l.take (i + 1))) = strB (pre ++ [y])) := Lib.hid (by rw [HNX.out, HEQ.out, List.append_nil])
              clear HTC HTW HTS HTN hk h2 h4
              generalize strB (pre ++ [y]) = A3 at *
              go_wp2_with fail
              go_roundw
              case rel => exact ⟨i + 1, by omega, by go_num, by rw [HFI.out], HB6, HX6⟩
              case measure => simp [intOf]; omega
      · obtain rfl : i = n := by omega
        have HRSS := HRS2.out
        rw [HTK.out]
        have hs1 : (strB ([x] ++ numB i ++ ptsB l)).size + (strB (numB S.size) ++ S).size ≤ 9223372036854775807 := by
          have h := HLT.out i (Nat.le_refl _)
          rw [HTK.out] at h
          rw [strB_size, ByteArray.size_append, strB_size, List.length_append, List.length_append]
          have := HL10.out
          have := HL11.out
          simp; omega
        have hs2 : ((strB ([x] ++ numB i ++ ptsB l)).size : Int) + ((strB (numB S.size) ++ S).size : Int) ≤ 9223372036854775807 := by omega
        have HF : Hid (strB ([x] ++ numB i ++ ptsB l) ++ (strB (numB S.size) ++ S) = RS) := Lib.hid (by rw [← HRS2.out, strB_append ([x] ++ numB i ++ ptsB l), strB_append (numB S.size), strB_nums])
        clear HRSS
        generalize strB ([x] ++ numB i ++ ptsB l) = A1 at *
        generalize strB (numB S.size) ++ S = A2 at *
        go_wp2_with fail
        refine (HRS.out _).mono ?_
        rintro e w8 ⟨rfl, hb8⟩
        have HB8 := Lib.hid (HBr.out.trans (hb8.mono HBr.out.size))
        clear hb8
        go_wp2_with fail
        go_ret
        rw [HF.out]
        exact ⟨rfl, HB8.out⟩
end Go.Proofs.Ytpdihgmgcamgkaa
