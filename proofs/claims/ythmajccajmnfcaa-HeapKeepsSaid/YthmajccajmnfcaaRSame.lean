/- The document's Same. -/
import Derived.Test.YthmajccajmnfcaaHVal
import Derived.Test.YthmajccajmnfcaaStr
import Derived.Deep.Cut
set_option maxRecDepth 20000
set_option linter.unusedSimpArgs false
namespace Go.Proofs.Ythmajccajmnfcaa
open Go.RowKit

def sameO (a b : Ob) : Bool := decide (a.k = b.k) && (decide (a.bs = b.bs) && decide (a.vs = b.vs))
theorem sameO_iff {a b : Ob} : sameO a b = true ↔ a = b := by
  unfold sameO
  simp only [Bool.and_eq_true, decide_eq_true_iff]
  constructor
  · rintro ⟨h1, h2, h3⟩; cases a; cases b; simp only at h1 h2 h3; rw [h1, h2, h3]
  · rintro rfl; exact ⟨rfl, rfl, rfl⟩
/-- An object as it is handed on: it reads so. -/
structure ObW (w : World) (q : Option Addr) (n : Nat) (p : Option Addr) (d : Nat) (o : Ob) : Prop where
  vs : Vls w q n o.vs
  bs : Bys w p d o.bs
theorem ObW.below {w w' : World} {q p : Option Addr} {n d : Nat} {o : Ob} (h : ObW w q n p d o) (hb : Below w.heap.size w w') : ObW w' q n p d o := ⟨h.vs.below hb, h.bs.below hb⟩
theorem ObV.w {w : World} {q p : Option Addr} {n d : Nat} {o : Ob} (h : ObV w q n p d o) : ObW w q n p d o := ⟨h.vs, h.bs⟩
set_option maxHeartbeats 3200000 in
theorem same_any (a b : Ob) (q1 p1 q2 p2 : Option Addr) (n1 c1 d1 e1 n2 c2 d2 e2 : Nat) (w : World) (ha : ObW w q1 n1 p1 d1 a) (hb : ObW w q2 n2 p2 d2 b) (hn1 : n1 ≤ 9223372036854775807) (hn2 : n2 ≤ 9223372036854775807) :
    Calls Try.prog 14 #[.agg #[.int .i64 a.k, .slice q1 n1 c1, .slice p1 d1 e1], .agg #[.int .i64 b.k, .slice q2 n2 c2, .slice p2 d2 e2]] w fun e w' => e = .returned (.bool (sameO a b)) ∧ Below w.heap.size w w' := by
  have hS := (IsS.mk_ a.bs ha.bs.dig)
  have hT := (IsS.mk_ b.bs hb.bs.dig)
  have HA := Lib.hid ha
  have HB := Lib.hid hb
  have l1 := ha.vs.len
  have l2 := hb.vs.len
  by_cases hk : a.k = b.k
  · have hkd : (a.k != b.k) = false := by simp [hk]
    by_cases hbs : a.bs = b.bs
    · have hst := hS.yes hT hbs
      by_cases hn : n1 = n2
      · subst hn
        have hnd : ((n1 : Int) != (n1 : Int)) = false := by simp
        have HR : Hid (sameO a b = decide (a.vs = b.vs)) := Lib.hid (by unfold sameO; rw [decide_eq_true hk, decide_eq_true hbs, Bool.true_and, Bool.true_and])
        rw [HR.out]
        have HCV : Hid (∀ u, Below w.heap.size w u → (convert 25 9 (.slice p1 d1 e1)).run Try.prog u = .ok (.string (strB a.bs)) u ∧ (convert 25 9 (.slice p2 d2 e2)).run Try.prog u = .ok (.string (strB b.bs)) u) := Lib.hid fun u hu => ⟨(HA.out.below hu).bs.conv e1, (HB.out.below hu).bs.conv e2⟩
        obtain ⟨k, HK⟩ : ∃ k, Hid (a.k = k) := ⟨_, Lib.hid rfl⟩
        have HK2 : Hid (b.k = k) := Lib.hid (by rw [← hk, HK.out])
        rw [HK.out, HK2.out] at hkd ⊢
        have HVA := Lib.hid ha.vs
        have HVB := Lib.hid hb.vs
        clear ha hb hS hT hk hbs HR
        generalize strB a.bs = Sa at *
        generalize strB b.bs = Sb at *
        have HB0 : Hid (Below w.heap.size w ((w.alloc (.cells #[.int .i64 k, .slice q1 n1 c1, .slice p1 d1 e1] 27)).alloc (.cells #[.int .i64 k, .slice q2 n1 c2, .slice p2 d2 e2] 27))) := Lib.hid (b2 _ _ _)
        obtain ⟨cv1, cv2⟩ := HCV.out _ HB0.out
        go_enter Try.func14, Try.ntmps14
        go_upto_region 3 with fail
        have x1 : ((w.alloc (.cells #[.int .i64 k, .slice q1 n1 c1, .slice p1 d1 e1] 27)).alloc (.cells #[.int .i64 k, .slice q2 n1 c2, .slice p2 d2 e2] 27)).cell? ⟨w.heap.size, 1, none⟩ = some (.slice q1 n1 c1) := by rw [cell_of_row _ _ 1 _ _ _ (heap_alloc2_old w _ _)]; rfl
        have x2 : ((w.alloc (.cells #[.int .i64 k, .slice q1 n1 c1, .slice p1 d1 e1] 27)).alloc (.cells #[.int .i64 k, .slice q2 n1 c2, .slice p2 d2 e2] 27)).cell? ⟨w.heap.size + 1, 1, none⟩ = some (.slice q2 n1 c2) := by rw [cell_of_row _ _ 1 _ _ _ (heap_alloc2_new w _ _)]; rfl
        have hsz : ((w.alloc (.cells #[.int .i64 k, .slice q1 n1 c1, .slice p1 d1 e1] 27)).alloc (.cells #[.int .i64 k, .slice q2 n1 c2, .slice p2 d2 e2] 27)).heap.size = w.heap.size + 2 := by simp
        generalize (w.alloc (.cells #[.int .i64 k, .slice q1 n1 c1, .slice p1 d1 e1] 27)).alloc (.cells #[.int .i64 k, .slice q2 n1 c2, .slice p2 d2 e2] 27) = W1 at *
        have HX1 : Hid (∀ u, Below W1.heap.size W1 u → u.cell? ⟨w.heap.size, 1, none⟩ = some (.slice q1 n1 c1) ∧ u.cell? ⟨w.heap.size + 1, 1, none⟩ = some (.slice q2 n1 c2)) := Lib.hid fun u hu => ⟨(hu.cell (show w.heap.size < _ by omega)).trans x1, (hu.cell (show w.heap.size + 1 < _ by omega)).trans x2⟩
        have HSZ := Lib.hid hsz
        clear cv1 cv2 HCV x1 x2 hsz hst hkd hnd
        go_wp2_with fail
        go_loopw [5] (fun iv wr => ∃ i : Nat, i ≤ n1 ∧ iv = .int .i64 (i : Int) ∧ Hid (Below W1.heap.size W1 wr) ∧ Hid (∀ j, j < i → a.vs.getD j (0, 0) = b.vs.getD j (0, 0))) (fun iv _ => n1 - (intOf iv).toNat)
        case atStart => exact ⟨0, by omega, by go_num, Lib.hid (Below.refl _ _), Lib.hid (fun j hj => absurd hj (Nat.not_lt_zero j))⟩
        case round =>
          obtain ⟨i, hi, rfl, HL, HJ⟩ := hrel
          obtain ⟨y1, y2⟩ := HX1.out _ HL.out
          have HLW := Lib.hid (HB0.out.trans (HL.out.mono (by have := HSZ.out; omega)))
          by_cases hlt : i < n1
          · obtain ⟨b1, o1, rfl, hc1⟩ := (HVA.out.below HLW.out).2 (by omega)
            obtain ⟨b2, o2, rfl, hc2⟩ := (HVB.out.below HLW.out).2 (by omega)
            obtain ⟨r0, r1⟩ := hc1 i hlt
            obtain ⟨s0, s1⟩ := hc2 i hlt
            have hin : (i : Int) < (n1 : Int) := by omega
            clear hc1 hc2
            obtain ⟨x, HX⟩ : ∃ x, Hid (a.vs.getD i (0, 0) = x) := ⟨_, Lib.hid rfl⟩
            obtain ⟨y, HY⟩ : ∃ y, Hid (b.vs.getD i (0, 0) = y) := ⟨_, Lib.hid rfl⟩
            rw [HX.out] at r0 r1
            rw [HY.out] at s0 s1
            have hNE := fun w => neqV x y w
            have hG := guardV
            go_upto_region 6 with fail
            by_cases hxy : x = y
            · have hd2 : decide (x = y) = true := decide_eq_true hxy
              rw [hd2] at hNE
              have HJ2 : Hid (∀ j, j < i + 1 → a.vs.getD j (0, 0) = b.vs.getD j (0, 0)) := Lib.hid (fun j hj => (Nat.lt_succ_iff_lt_or_eq.1 hj).elim (HJ.out j) (fun e => by rw [e, HX.out, HY.out, hxy]))
              clear hxy hd2
              go_quiet (fail)
              go_wp2_with fail
              go_roundw
              case rel => exact ⟨i + 1, by omega, by go_num, Lib.hid (by first | exact HL.out | exact below_drewN HL.out _), HJ2⟩
              case measure => simp [intOf]; omega
            · have hd2 : decide (x = y) = false := decide_eq_false hxy
              rw [hd2] at hNE
              have HR : Hid (decide (a.vs = b.vs) = false) := Lib.hid (decide_eq_false (fun e => hxy (by rw [← HX.out, ← HY.out, e])))
              clear hxy hd2
              go_quiet (fail)
              go_wp2_with fail
              go_ret
              rw [HR.out]
              exact ⟨rfl, below_drewN HLW.out _⟩
          · obtain rfl : i = n1 := by omega
            have HR : Hid (decide (a.vs = b.vs) = true) := Lib.hid (decide_eq_true (by
              apply List.ext_getElem (by omega)
              intro j h1 h2
              have := HJ.out j (by omega)
              rw [List.getD_eq_getElem?_getD, List.getD_eq_getElem?_getD, List.getElem?_eq_getElem h1, List.getElem?_eq_getElem h2] at this
              exact this))
            go_wp2_with fail
            go_ret
            rw [HR.out]
            exact ⟨rfl, HLW.out⟩
      · have hnd : ((n1 : Int) != (n2 : Int)) = true := by simp; omega
        have HR : Hid (sameO a b = false) := Lib.hid (by
          have : a.vs ≠ b.vs := fun e => hn (by rw [← l1, ← l2, e])
          unfold sameO; rw [decide_eq_false this]; simp)
        rw [HR.out]
        have HCV : Hid (∀ u, Below w.heap.size w u → (convert 25 9 (.slice p1 d1 e1)).run Try.prog u = .ok (.string (strB a.bs)) u ∧ (convert 25 9 (.slice p2 d2 e2)).run Try.prog u = .ok (.string (strB b.bs)) u) := Lib.hid fun u hu => ⟨(HA.out.below hu).bs.conv e1, (HB.out.below hu).bs.conv e2⟩
        obtain ⟨cv1, cv2⟩ := HCV.out _ (b2 w (.cells #[.int .i64 a.k, .slice q1 n1 c1, .slice p1 d1 e1] 27) (.cells #[.int .i64 b.k, .slice q2 n2 c2, .slice p2 d2 e2] 27))
        clear ha hb hS hT hbs HR hk hn l1 l2
        generalize strB a.bs = Sa at *
        generalize strB b.bs = Sb at *
        generalize a.k = ka at *
        generalize b.k = kb at *
        go_enter Try.func14, Try.ntmps14
        go_wp2_with fail
        go_ret
        exact ⟨rfl, b2 _ _ _⟩
    · have hst := hS.no hT hbs
      have HR : Hid (sameO a b = false) := Lib.hid (by unfold sameO; rw [decide_eq_false hbs]; simp)
      rw [HR.out]
      have HCV : Hid (∀ u, Below w.heap.size w u → (convert 25 9 (.slice p1 d1 e1)).run Try.prog u = .ok (.string (strB a.bs)) u ∧ (convert 25 9 (.slice p2 d2 e2)).run Try.prog u = .ok (.string (strB b.bs)) u) := Lib.hid fun u hu => ⟨(HA.out.below hu).bs.conv e1, (HB.out.below hu).bs.conv e2⟩
      obtain ⟨cv1, cv2⟩ := HCV.out _ (b2 w (.cells #[.int .i64 a.k, .slice q1 n1 c1, .slice p1 d1 e1] 27) (.cells #[.int .i64 b.k, .slice q2 n2 c2, .slice p2 d2 e2] 27))
      clear ha hb hS hT hbs HR hk l1 l2
      generalize strB a.bs = Sa at *
      generalize strB b.bs = Sb at *
      generalize a.k = ka at *
      generalize b.k = kb at *
      go_enter Try.func14, Try.ntmps14
      go_wp2_with fail
      go_ret
      exact ⟨rfl, b2 _ _ _⟩
  · have hkd : (a.k != b.k) = true := by simp [hk]
    have HR : Hid (sameO a b = false) := Lib.hid (by unfold sameO; rw [decide_eq_false hk]; simp)
    rw [HR.out]
    clear ha hb hS hT HR hk l1 l2
    generalize a.k = ka at *
    generalize b.k = kb at *
    go_enter Try.func14, Try.ntmps14
    go_wp2_with fail
    go_ret
    exact ⟨rfl, b2 _ _ _⟩
end Go.Proofs.Ythmajccajmnfcaa
