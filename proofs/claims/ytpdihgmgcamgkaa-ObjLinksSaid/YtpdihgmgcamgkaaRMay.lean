/- The document's May. -/
import Derived.Test.YtpdihgmgcamgkaaRMayP
import Derived.Deep.DeepCutAuto
set_option linter.unusedSimpArgs false
set_option maxRecDepth 20000
namespace Go.Proofs.Ytpdihgmgcamgkaa
open Go.RowKit

def leastL : List Int := [2, 0, 0, 0, 1, 2, 1, 1, 2, 0]
def mostL : List Int := [2, 256, 0, 0, 1, 2, 256, 256, 2, 256]
theorem need_tab {j : Nat} (h : j ≤ 9) : (needM (j : Int)).least = leastL.getD j 0 ∧ (needM (j : Int)).most = mostL.getD j 0 := by
  rcases (show j = 0 ∨ j = 1 ∨ j = 2 ∨ j = 3 ∨ j = 4 ∨ j = 5 ∨ j = 6 ∨ j = 7 ∨ j = 8 ∨ j = 9 by omega) with rfl | rfl | rfl | rfl | rfl | rfl | rfl | rfl | rfl | rfl <;> exact ⟨rfl, rfl⟩
def tabO (L : List Int) : Obj := .cells (L.map (Value.int .i64)).toArray 3
theorem tab_cell (W : World) (L : List Int) (j : Nat) (h : j < L.length) : (W.alloc (tabO L)).cell? ⟨W.heap.size, j, none⟩ = some (.int .i64 (L.getD j 0)) := by
  unfold tabO
  rw [World.cell?_alloc_new]
  simp [List.getD_eq_getElem?_getD, List.getElem?_eq_getElem h]
theorem exs5 {l : List Pt} (h : l.length = 2) : exs (needM ((5 : Nat) : Int)) 0 l = (decide ((l.getD 0 default).k = 8) && (decide ((l.getD 1 default).k = 8) || decide ((l.getD 1 default).k = 0))) := by
  match l, h with
  | [a, b], _ => simp [exs, needM, Nd.at, ex]
theorem exs6 {l : List Pt} (h : 1 ≤ l.length) : exs (needM ((6 : Nat) : Int)) 0 l = (decide ((l.getD 0 default).k = 8) || decide ((l.getD 0 default).k = 0)) := by
  match l, h with
  | a :: t, _ =>
    rw [exs, exs_any _ _ _ (by exact Nat.le_refl 1)]
    simp [needM, Nd.at, ex]
theorem exs7 {l : List Pt} (h : 1 ≤ l.length) : exs (needM ((7 : Nat) : Int)) 0 l = (decide ((l.getD 0 default).k = 2) && (decide (0 ≤ (l.getD 0 default).n) && decide ((l.getD 0 default).n < 64))) := by
  match l, h with
  | a :: t, _ =>
    rw [exs, exs_any _ _ _ (by exact Nat.le_refl 1)]
    simp [needM, Nd.at, ex]
theorem exsO {j : Nat} (l : List Pt) (h5 : j ≠ 5) (h6 : j ≠ 6) (h7 : j ≠ 7) : exs (needM (j : Int)) 0 l = true :=
  exs_any _ _ _ (by rw [needM_other (by omega) (by omega) (by omega)]; exact Nat.le_refl 0)
set_option maxHeartbeats 12800000 in
theorem rmay_rec (r : Rc) (q : Option Addr) (c : Nat) (w : World) (hI : I64 r.kind) (hn : r.parts.length ≤ 9223372036854775807) (hS : r.bytes.size ≤ 9223372036854775807) (hB : ∀ p ∈ r.parts, PtB p) (hp : Pts w q r.parts.length r.parts) :
    Calls Try.prog 8 #[r.val q c] w fun e w' => e = .returned (.bool (mayM r)) ∧ Below w.heap.size w w' := by
  have HP := Lib.hid hp
  have HPB : Hid (∀ i, i < r.parts.length → PtB (r.parts.getD i default)) := Lib.hid (fun i hi => by
    rw [List.getD_eq_getElem?_getD, List.getElem?_eq_getElem hi]
    exact hB _ (List.getElem_mem hi))
  have F1 := Lib.hid (fun h => may_out (r := r) h)
  have F2 := Lib.hid (fun h => may_long (r := r) h)
  have F3 := Lib.hid (fun h => may_fat (r := r) h)
  have F4 := Lib.hid (fun h h2 h3 => may_nobytes (r := r) h h2 h3)
  have F5 := Lib.hid (fun (i : Nat) (hi : i < r.parts.length) h => may_part (r := r) hi h)
  have F6 := Lib.hid (fun (i : Nat) h2 (hi : i < r.bytes.size) h => may_ascii (r := r) h2 hi h)
  have F7 := Lib.hid (fun h => may_few (r := r) h)
  have F8 := Lib.hid (fun h => may_many (r := r) h)
  have F9 := Lib.hid (fun a b c d e f g h => may_last (r := r) a b c d e f g h)
  clear hp hB
  obtain ⟨k, l, S⟩ := r
  unfold Rc.val
  simp only at HP HPB F1 F2 F3 F4 F5 F6 F7 F8 F9 hn hS hI ⊢
  generalize mayM ⟨k, l, S⟩ = res at *
  obtain ⟨n, HN⟩ : ∃ n, Hid (l.length = n) := ⟨_, Lib.hid rfl⟩
  rw [HN.out] at HP HPB F2 F5 F7 F8 F9 hn ⊢
  obtain ⟨m, HM⟩ : ∃ m, Hid (S.size = m) := ⟨_, Lib.hid rfl⟩
  have HIX : Hid (∀ i, i < S.size → ∀ w, (Instr.index 9 (.string S) (.int .i64 (i : Int))).run Try.prog w = .ok (.int .u8 (byteAt S i : Int)) w) := Lib.hid (fun i hi w => index_any S i hi w)
  have HE0 : Hid (S.size = 0 → S.toList.isEmpty = true) := Lib.hid (fun h => by rw [empty_of h, ByteArray.toList_eq]; rfl)
  have HE1 : Hid (S.size ≠ 0 → S.toList.isEmpty = false) := Lib.hid (fun h => isEmpty_false (by omega))
  rw [HM.out] at F3 F4 F6 F9 HIX HE0 HE1 hS
  have hm := HM.out
  have HBW : Hid (Below w.heap.size w (w.alloc (.cells #[.int .i64 k, .slice q n c, .string S] 24))) := Lib.hid ((Below.refl _ _).alloc (Nat.le_refl _) _)
  by_cases h0 : k < 0
  · obtain rfl := F1.out (.inl h0)
    have hd : decide (k < 0) = true := decide_eq_true h0
    go_enter Try.func8, Try.ntmps8
    go_wp2_with fail
    go_ret
    exact ⟨rfl, HBW.out⟩
  have d0 : decide (k < 0) = false := decide_eq_false h0
  by_cases h9 : 9 < k
  · obtain rfl := F1.out (.inr h9)
    have hd : decide (9 < k) = true := decide_eq_true h9
    go_enter Try.func8, Try.ntmps8
    go_wp2_with fail
    go_ret
    exact ⟨rfl, HBW.out⟩
  have d9 : decide (9 < k) = false := decide_eq_false h9
  by_cases hl : 256 < n
  · obtain rfl := F2.out hl
    have hd : decide ((256 : Int) < (n : Int)) = true := decide_eq_true (by omega)
    go_enter Try.func8, Try.ntmps8
    go_wp2_with fail
    go_ret
    exact ⟨rfl, HBW.out⟩
  have dl : decide ((256 : Int) < (n : Int)) = false := decide_eq_false (by omega)
  by_cases hz : 4096 < m
  · obtain rfl := F3.out hz
    have hd : decide ((4096 : Int) < (m : Int)) = true := decide_eq_true (by omega)
    go_enter Try.func8, Try.ntmps8
    go_wp2_with fail
    go_ret
    exact ⟨rfl, HBW.out⟩
  have dz : decide ((4096 : Int) < (m : Int)) = false := decide_eq_false (by omega)
  by_cases hbad : m ≠ 0 ∧ k ≠ 2 ∧ k ≠ 3
  · obtain rfl := F4.out hbad.1 hbad.2.1 hbad.2.2
    have e1 := HE1.out hbad.1
    have e2 : (k != 2) = true := by simpa using hbad.2.1
    have e3 : (k != 3) = true := by simpa using hbad.2.2
    clear hbad
    go_enter Try.func8, Try.ntmps8
    go_wp2_with fail
    go_ret
    exact ⟨rfl, HBW.out⟩
  have HBY : Hid (m = 0 ∨ k = 2 ∨ k = 3) := Lib.hid (by omega)
  go_enter Try.func8, Try.ntmps8
  go_upto_region 2 with fail
  obtain ⟨W, hW⟩ : ∃ W, Hid (w.alloc (.cells #[.int .i64 k, .slice q n c, .string S] 24) = W) := ⟨_, Lib.hid rfl⟩
  have HX : Hid (W.heap[w.heap.size]? = some (.cells #[.int .i64 k, .slice q n c, .string S] 24 (0, 0))) := Lib.hid (by rw [← hW.out]; exact heap_alloc_new w _)
  rw [hW.out] at HBW ⊢
  clear hW
  have x0 := cell_of_row _ _ 0 _ _ _ HX.out
  have x2 := cell_of_row _ _ 2 _ _ _ HX.out
  simp at x0 x2
  go_cut [43] (fun v wx => v = .bool false ∧ Hid (wx = W))
  case first =>
    by_cases hm0 : m = 0
    · have e1 := HE0.out hm0
      go_wp2_with fail
      go_meet
      exact ⟨rfl, Lib.hid rfl⟩
    · have e1 := HE1.out hm0
      rcases HBY.out with h | rfl | rfl
      · exact absurd h hm0
      · go_wp2_with fail
        go_meet
        exact ⟨rfl, Lib.hid rfl⟩
      · go_wp2_with fail
        go_meet
        exact ⟨rfl, Lib.hid rfl⟩
  case rest =>
    obtain ⟨rfl, hwx⟩ := hcut
    obtain rfl := hwx.out
    obtain ⟨j, rfl⟩ : ∃ j : Nat, k = (j : Int) := ⟨k.toNat, by omega⟩
    have hj9 : j ≤ 9 := by omega
    have HJ9 := Lib.hid hj9
    have HZ4 : Hid (m ≤ 4096) := Lib.hid (by omega)
    clear h0 h9 d0 d9 hl dl hz dz hbad x0 x2 hwx hI
    go_wp2_with fail
    go_loopw [4] (fun iv wr => ∃ i : Nat, i ≤ n ∧ iv = .int .i64 (i : Int) ∧ Hid (Below wc.heap.size wc wr) ∧ Hid (∀ t, t < i → pm (l.getD t default) = true)) (fun iv _ => n - (intOf iv).toNat)
    case atStart => exact ⟨0, by omega, by go_num, Lib.hid (Below.refl _ _), Lib.hid (fun t ht => absurd ht (Nat.not_lt_zero t))⟩
    case round =>
      obtain ⟨i, hi, rfl, HR, HJ⟩ := hrel
      have HBR := Lib.hid (HBW.out.trans (HR.out.mono HBW.out.size))
      have HXR := Lib.hid ((HR.out.block _ (lt_of_block HX.out)).trans HX.out)
      have e0 := cell_of_row _ _ 0 _ _ _ HXR.out
      have e1 := cell_of_row _ _ 1 _ _ _ HXR.out
      have e2 := cell_of_row _ _ 2 _ _ _ HXR.out
      simp at e0 e1 e2
      by_cases hlt : i < n
      · obtain ⟨b, o, rfl, hcp⟩ := (HP.out.below (HBR.out.mono (Nat.le_refl _))).2 (by omega)
        obtain ⟨p0, p1, p2⟩ := hcp i hlt
        have hpb := HPB.out i hlt
        have hf5 := F5.out i hlt
        have hd1 : decide ((i : Int) < (n : Int)) = true := by simp; omega
        obtain ⟨p, hpe⟩ : ∃ p, Hid (l.getD i default = p) := ⟨_, Lib.hid rfl⟩
        rw [hpe.out] at p0 p1 p2 hpb hf5
        have HRP := Lib.hid (fun u => rpart_any p u hpb.n)
        have HF5 := Lib.hid hf5
        unfold Pt.val at HRP
        clear hcp hpb hf5
        go_wp2_with fail
        refine (HRP.out _).mono ?_
        rintro e w5 ⟨rfl, hb5⟩
        have HR5 := Lib.hid (HR.out.trans (hb5.mono HR.out.size))
        clear hb5 p0 p1 p2 e0 e1 e2
        cases hpm : pm p with
        | false =>
          obtain rfl := HF5.out hpm
          go_wp2_with fail
          go_ret
          exact ⟨rfl, HBW.out.trans (HR5.out.mono HBW.out.size)⟩
        | true =>
          have HJ2 : Hid (∀ t, t < i + 1 → pm (l.getD t default) = true) := Lib.hid (fun t ht => (Nat.lt_succ_iff_lt_or_eq.1 ht).elim (HJ.out t) (fun e => by rw [e, hpe.out, hpm]))
          clear hpm
          go_wp2_with fail
          go_roundw
          case rel => exact ⟨i + 1, by omega, by go_num, HR5, HJ2⟩
          case measure => simp [intOf]; omega
      · obtain rfl : i = n := by omega
        go_wp2_with fail
        go_loop [5] (fun iv => ∃ t : Nat, t ≤ m ∧ iv = .int .i64 (t : Int) ∧ Hid ((j : Int) = 2 → ∀ u, u < t → byteAt S u ≤ 127)) (fun iv => m - (intOf iv).toNat)
        case atStart => exact ⟨0, by omega, by go_num, Lib.hid (fun _ u hu => absurd hu (Nat.not_lt_zero u))⟩
        case round =>
          obtain ⟨t, ht, rfl, HT⟩ := hrel
          by_cases hlt2 : t < m
          · have hd2 : decide ((t : Int) < (m : Int)) = true := by simp; omega
            have hix := HIX.out t hlt2
            have hf6 := fun h2 => F6.out t h2 hlt2
            obtain ⟨y, hy⟩ : ∃ y, Hid (byteAt S t = y) := ⟨_, Lib.hid rfl⟩
            rw [hy.out] at hix hf6
            have HF6 := Lib.hid hf6
            clear hf6
            by_cases h2 : (j : Int) = 2
            · have hb2 : ((j : Int) == 2) = true := by simpa using h2
              by_cases hyy : 127 < y
              · obtain rfl := HF6.out h2 hyy
                have hd3 : decide ((127 : Int) < (y : Int)) = true := by simp; omega
                clear h2
                go_wp2_with fail
                go_ret
                exact ⟨rfl, HBR.out⟩
              · have hd3 : decide ((127 : Int) < (y : Int)) = false := by simp; omega
                have HT2 : Hid ((j : Int) = 2 → ∀ u, u < t + 1 → byteAt S u ≤ 127) := Lib.hid (fun h u hu => (Nat.lt_succ_iff_lt_or_eq.1 hu).elim (HT.out h u) (fun e => by rw [e, hy.out]; omega))
                clear h2
                go_wp2_with fail
                go_round
                case rel => exact ⟨t + 1, by omega, by go_num, HT2⟩
                case measure => simp [intOf]; omega
            · have hb2 : ((j : Int) == 2) = false := beq_eq_false_iff_ne.2 h2
              have HT2 : Hid ((j : Int) = 2 → ∀ u, u < t + 1 → byteAt S u ≤ 127) := Lib.hid (fun h => absurd h h2)
              clear h2
              go_wp2_with fail
              go_round
              case rel => exact ⟨t + 1, by omega, by go_num, HT2⟩
              case measure => simp [intOf]; omega
          · obtain rfl : t = m := by omega
            go_upto_region 16 with fail
            have hT1 := tab_cell wr leastL j (by show j < 10; have := HJ9.out; omega)
            have hT2 := tab_cell (wr.alloc (tabO leastL)) mostL j (by show j < 10; have := HJ9.out; omega)
            have hbz : Below wr.heap.size wr ((wr.alloc (tabO leastL)).alloc (tabO mostL)) := ((Below.refl _ _).alloc (Nat.le_refl _) _).alloc (by simp) _
            have hsz : (wr.alloc (tabO leastL)).heap.size = wr.heap.size + 1 := by simp
            have hT1' := (Below.cell ((Below.refl (wr.alloc (tabO leastL)).heap.size (wr.alloc (tabO leastL))).alloc (Nat.le_refl _) (tabO mostL)) (p := ⟨wr.heap.size, j, none⟩) (by show wr.heap.size < (wr.alloc (tabO leastL)).heap.size; omega)).trans hT1
            rw [hsz] at hT2
            have HBZ := Lib.hid (HBR.out.trans (hbz.mono HBR.out.size))
            have HXZ := Lib.hid ((hbz.block _ (lt_of_block HXR.out)).trans HXR.out)
            have HPZ := Lib.hid (HP.out.below (HBZ.out.mono (Nat.le_refl _)))
            change Code.wp _ _ _ _ ((wr.alloc (tabO leastL)).alloc (tabO mostL))
            generalize (wr.alloc (tabO leastL)).alloc (tabO mostL) = Z at hT1' hT2 HBZ HXZ HPZ ⊢
            clear hT1 hbz hsz e0 e1 e2
            obtain ⟨hne1, hne2⟩ := need_tab HJ9.out
            rw [← hne1] at hT1'
            rw [← hne2] at hT2
            obtain ⟨LE, hLE⟩ : ∃ x, Hid ((needM (j : Int)).least = x) := ⟨_, Lib.hid rfl⟩
            obtain ⟨MO, hMO⟩ : ∃ x, Hid ((needM (j : Int)).most = x) := ⟨_, Lib.hid rfl⟩
            rw [hLE.out] at hT1'
            rw [hMO.out] at hT2
            have z0 := cell_of_row _ _ 0 _ _ _ HXZ.out
            have z1 := cell_of_row _ _ 1 _ _ _ HXZ.out
            simp at z0 z1
            have hj10 : (j : Int) < 10 := by have := HJ9.out; omega
            clear hne1 hne2
            by_cases hfew : (i : Int) < (needM (j : Int)).least
            · obtain rfl := F7.out hfew
              have hd5 : decide ((i : Int) < LE) = true := decide_eq_true (by rw [← hLE.out]; exact hfew)
              clear hfew
              go_wp2_with fail
              go_ret
              exact ⟨rfl, HBZ.out⟩
            have hd5 : decide ((i : Int) < LE) = false := decide_eq_false (by rw [← hLE.out]; exact hfew)
            by_cases hmany : (needM (j : Int)).most < (i : Int)
            · obtain rfl := F8.out hmany
              have hd6 : decide (MO < (i : Int)) = true := decide_eq_true (by rw [← hMO.out]; exact hmany)
              clear hmany
              go_wp2_with fail
              go_ret
              exact ⟨rfl, HBZ.out⟩
            have hd6 : decide (MO < (i : Int)) = false := decide_eq_false (by rw [← hMO.out]; exact hmany)
            have HRES := Lib.hid (F9.out (by omega) (by have := HJ9.out; omega) HJ.out HBY.out (by have := HZ4.out; omega) HT.out (by omega) (by omega))
            have HL1 := Lib.hid hfew
            have HL2 := Lib.hid hmany
            clear hfew hmany
            by_cases j5 : j = 5
            · have hj : Hid (j = 5) := Lib.hid j5
              have nj : ((j : Int) == 5) = true := by rw [j5]; rfl
              clear j5
              have hi2 : i = 2 := by
                have h1 := HL1.out
                have h2 := HL2.out
                rw [hj.out, show (needM ((5 : Nat) : Int)).least = 2 from rfl] at h1
                rw [hj.out, show (needM ((5 : Nat) : Int)).most = 2 from rfl] at h2
                omega
              have hI0 : (0 : Int) < (i : Int) := by omega
              have hI1 : (1 : Int) < (i : Int) := by omega
              have HI2 := Lib.hid hi2
              clear hi2
              rw [hj.out] at HRES
              obtain ⟨b, o, rfl, hcp⟩ := HPZ.out.2 (by omega)
              obtain ⟨p0, p1, p2⟩ := hcp 0 (by omega)
              obtain ⟨q0, q1, q2⟩ := hcp 1 (by omega)
              rw [exs5 (by rw [HN.out]; exact HI2.out)] at HRES
              obtain ⟨k0, hk0⟩ : ∃ x, Hid ((l.getD 0 default).k = x) := ⟨_, Lib.hid rfl⟩
              obtain ⟨k1, hk1⟩ : ∃ x, Hid ((l.getD 1 default).k = x) := ⟨_, Lib.hid rfl⟩
              rw [hk0.out] at p0 HRES
              rw [hk1.out] at q0 HRES
              rw [Nat.zero_mul, Nat.add_zero] at p0
              rw [Nat.one_mul] at q0
              have b8 : (k0 == 8) = decide (k0 = 8) := by by_cases h : k0 = 8 <;> simp [h]
              have c8 : (k1 == 8) = decide (k1 = 8) := by by_cases h : k1 = 8 <;> simp [h]
              have c0 : (k1 == 0) = decide (k1 = 0) := by by_cases h : k1 = 0 <;> simp [h]
              clear hcp p1 p2 q1 q2
              generalize decide (k0 = 8) = a at *
              generalize decide (k1 = 8) = a1 at *
              generalize decide (k1 = 0) = a2 at *
              obtain rfl := HRES.out
              cases a with
              | false =>
                go_wp2_with fail
                go_ret
                exact ⟨rfl, HBZ.out⟩
              | true =>
                cases a1 with
                | false =>
                  go_wp2_with fail
                  go_ret
                  exact ⟨rfl, HBZ.out⟩
                | true =>
                  go_wp2_with fail
                  go_ret
                  exact ⟨rfl, HBZ.out⟩
            have nj5 : ((j : Int) == 5) = false := by rw [beq_eq_false_iff_ne]; omega
            by_cases j6 : j = 6
            · have hj : Hid (j = 6) := Lib.hid j6
              have nj : ((j : Int) == 6) = true := by rw [j6]; rfl
              have njn : ((j : Int) != 7) = true := by rw [j6]; rfl
              clear j6
              have hi1 : 1 ≤ i := by
                have h1 := HL1.out
                rw [hj.out, show (needM ((6 : Nat) : Int)).least = 1 from rfl] at h1
                omega
              rw [hj.out] at HRES
              have hi1i : (0 : Int) < (i : Int) := by omega
              obtain ⟨b, o, rfl, hcp⟩ := HPZ.out.2 (by omega)
              obtain ⟨p0, p1, p2⟩ := hcp 0 (by omega)
              rw [exs6 (by rw [HN.out]; exact hi1)] at HRES
              obtain ⟨k0, hk0⟩ : ∃ x, Hid ((l.getD 0 default).k = x) := ⟨_, Lib.hid rfl⟩
              rw [hk0.out] at p0 HRES
              rw [Nat.zero_mul, Nat.add_zero] at p0
              have b8 : (k0 == 8) = decide (k0 = 8) := by by_cases h : k0 = 8 <;> simp [h]
              have c0 : (k0 == 0) = decide (k0 = 0) := by by_cases h : k0 = 0 <;> simp [h]
              clear hcp p1 p2
              generalize decide (k0 = 8) = a at *
              generalize decide (k0 = 0) = a2 at *
              obtain rfl := HRES.out
              cases a with
              | false =>
                go_wp2_with fail
                go_ret
                exact ⟨rfl, HBZ.out⟩
              | true =>
                go_wp2_with fail
                go_ret
                exact ⟨rfl, HBZ.out⟩
            have nj6 : ((j : Int) == 6) = false := by rw [beq_eq_false_iff_ne]; omega
            by_cases j7 : j = 7
            · have hj : Hid (j = 7) := Lib.hid j7
              have nj : ((j : Int) == 7) = true := by rw [j7]; rfl
              have njn : ((j : Int) != 7) = false := by rw [j7]; rfl
              clear j7
              have hi1 : 1 ≤ i := by
                have h1 := HL1.out
                rw [hj.out, show (needM ((7 : Nat) : Int)).least = 1 from rfl] at h1
                omega
              rw [hj.out] at HRES
              have hi1i : (0 : Int) < (i : Int) := by omega
              obtain ⟨b, o, rfl, hcp⟩ := HPZ.out.2 (by omega)
              obtain ⟨p0, p1, p2⟩ := hcp 0 (by omega)
              rw [exs7 (by rw [HN.out]; exact hi1)] at HRES
              obtain ⟨k0, hk0⟩ : ∃ x, Hid ((l.getD 0 default).k = x) := ⟨_, Lib.hid rfl⟩
              obtain ⟨n0, hn0⟩ : ∃ x, Hid ((l.getD 0 default).n = x) := ⟨_, Lib.hid rfl⟩
              rw [hk0.out, hn0.out] at HRES
              rw [hk0.out] at p0
              rw [hn0.out] at p1
              rw [Nat.zero_mul, Nat.add_zero] at p0 p1
              have b2 : (k0 == 2) = decide (k0 = 2) := by by_cases h : k0 = 2 <;> simp [h]
              clear hcp p2
              obtain ⟨a1, ha1⟩ : ∃ a, decide (0 ≤ n0) = a := ⟨_, rfl⟩
              obtain ⟨a2, ha2⟩ : ∃ a, decide (n0 < 64) = a := ⟨_, rfl⟩
              rw [ha1, ha2] at HRES
              generalize decide (k0 = 2) = a at *
              obtain rfl := HRES.out
              cases a with
              | false =>
                go_wp2_with fail
                go_ret
                exact ⟨rfl, HBZ.out⟩
              | true =>
                cases a1 with
                | false =>
                  go_wp2_with fail
                  go_ret
                  exact ⟨rfl, HBZ.out⟩
                | true =>
                  go_wp2_with fail
                  go_ret
                  exact ⟨rfl, HBZ.out⟩
            have nj7 : ((j : Int) != 7) = true := by simp; omega
            rw [exsO (j := j) l j5 j6 j7] at HRES
            obtain rfl := HRES.out
            go_wp2_with fail
            go_ret
            exact ⟨rfl, HBZ.out⟩
end Go.Proofs.Ytpdihgmgcamgkaa
