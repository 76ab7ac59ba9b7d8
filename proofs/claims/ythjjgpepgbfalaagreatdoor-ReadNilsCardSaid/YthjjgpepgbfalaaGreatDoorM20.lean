/- Texts HSet to RdD3 of this seat, laid into one. -/
import Derived.Laws.StructEq
import Derived.Lib.Strings
import Derived.Lib.ConvBytes
import Derived.Test.YthjjgpepgbfalaaGreatDoorM01
import Derived.Test.YthjjgpepgbfalaaGreatDoorM19
set_option linter.unusedVariables false
set_option linter.unusedSimpArgs false
set_option linter.constructorNameAsVariable false
section
/-! An object's value set; its byte set. -/
set_option maxRecDepth 20000
set_option linter.unusedSimpArgs false
namespace Go.Proofs.YthjjgpepgbfalaaGreatDoor
open Go.RowKit

def setE (L : Pls) (v : Int × Int) (i : Int) (y : Int × Int) : Int := if hasP L v = false then 5 else if i < 0 ∨ ((obAt L v).vs.length : Int) ≤ i then 7 else if mayV L y = false then 1 else 0
def setC (c : Cl) (i : Int) (y : Int × Int) : Cl := { c with o := { c.o with vs := c.o.vs.set i.toNat y }, ch := true }
def setM (m : Hm) (v : Int × Int) (i : Int) (y : Int × Int) : Hm := if setE m.L v i y = 0 then (match clAt m.L v.2.toNat with | some c => m.set v.2.toNat (setC c i y) | none => m) else m
section
variable {w w' : World} {g mb : Nat} {vr : Value} {S : Nat → Option Pos} {m : Hm}
set_option maxHeartbeats 3200000 in
theorem Hp.setI (h : Hp w g vr mb S m) (hh : Here m.L) (K N : Int) (h0 : -9223372036854775808 ≤ N) (h1 : N ≤ 9223372036854775807) (i : Int) (yk yn : Int) (hy : I64 yn) :
    Calls Tryz.prog 54 #[.pointer (some ⟨g, 0, none⟩), .agg #[.int .i64 K, .int .i64 N], .int .i64 i, .agg #[.int .i64 yk, .int .i64 yn]] w fun e w' => e = .returned (.int .i64 (setE m.L (K, N) i (yk, yn))) ∧ WentH (footH g vr mb S) g (setM m (K, N) i (yk, yn)) w w' := by
  have HP := Lib.hid h
  have HB0 : Hid (Below w.heap.size w ((w.alloc (.cells #[.int .i64 K, .int .i64 N] 36)).alloc (.cells #[.int .i64 yk, .int .i64 yn] 36))) := Lib.hid (((Below.refl _ _).alloc (Nat.le_refl _) _).alloc (by simp) _)
  have hx2 : ((w.alloc (.cells #[.int .i64 K, .int .i64 N] 36)).alloc (.cells #[.int .i64 yk, .int .i64 yn] 36)).heap[w.heap.size + 1]? = some (.cells #[.int .i64 yk, .int .i64 yn] 36 (0, 0)) := heap_alloc2_new w _ _
  have HX2 := Lib.hid hx2
  have hsz : ((w.alloc (.cells #[.int .i64 K, .int .i64 N] 36)).alloc (.cells #[.int .i64 yk, .int .i64 yn] 36)).heap.size = w.heap.size + 2 := by simp
  have HSZ := Lib.hid hsz
  have HC := h.thereH hh K N h0 h1
  have HMV : Hid (∀ w1, Below w.heap.size w w1 → Calls Tryz.prog 84 #[.pointer (some ⟨g, 0, none⟩), .agg #[.int .i64 yk, .int .i64 yn]] w1 fun e w' => e = .returned (.bool (mayV m.L (yk, yn))) ∧ Below w1.heap.size w1 w') := Lib.hid fun _ hb => (h.below hb).mayVal yk yn hy.1 hy.2
  clear hx2 hsz hy
  cases hv : hasP m.L (K, N) with
  | false =>
    have HE : Hid (setE m.L (K, N) i (yk, yn) = 5) := Lib.hid (if_pos hv)
    have HM : Hid (setM m (K, N) i (yk, yn) = m) := Lib.hid (if_neg (by rw [HE.out]; decide))
    rw [HE.out, HM.out]
    rw [cellV_nil _ _ _ hv, hasE_none hv] at HC
    clear h hv
    go_enter Tryz.func54, Tryz.ntmps54
    go_wp2_with (go_at_call 40; with_reducible refine (HC.out _ HB0.out).mono ?_; rintro e w1 ⟨rfl, hb⟩)
    go_ret
    exact ⟨rfl, WentH.below HP.out.hep (HB0.out.trans (hb.mono HB0.out.size))⟩
  | true =>
    obtain ⟨_, _, c, hc⟩ := hasP_iff.1 hv
    obtain ⟨x, hx, hca, e⟩ := h.cellV_some hv hc
    rw [e, hasE_some hv] at HC
    have hc2 : clAt m.L N.toNat = some c := hc
    have c4 := hca.c1
    have hvs := hca.vs
    obtain ⟨q, d, e1⟩ := hca.vform
    rw [e1] at c4 hvs
    have HA : Hid ((obAt m.L (K, N)).vs = c.o.vs) := Lib.hid (by rw [obAt_some hv hc])
    obtain ⟨n, HN⟩ : ∃ n, Hid (c.o.vs.length = n) := ⟨_, Lib.hid rfl⟩
    rw [HN.out] at c4 hvs
    have HY : Hid (∀ w1, Below w.heap.size w w1 → w1.cell? ⟨x.1, 1, none⟩ = some (.slice q n d)) := Lib.hid fun w1 hb => (hb.cell (World.block_lt_of_cell? w _ c4)).trans c4
    by_cases hr : i < 0 ∨ (n : Int) ≤ i
    · have HE : Hid (setE m.L (K, N) i (yk, yn) = 7) := Lib.hid (by unfold setE; rw [if_neg (by rw [hv]; decide), HA.out, HN.out, if_pos hr])
      have HM : Hid (setM m (K, N) i (yk, yn) = m) := Lib.hid (if_neg (by rw [HE.out]; decide))
      rw [HE.out, HM.out]
      clear h hv e hca hc e1 hvs c4
      by_cases h2 : i < 0
      · have d1 : decide (i < 0) = true := decide_eq_true h2
        go_enter Tryz.func54, Tryz.ntmps54
        go_wp2_with (go_at_call 40; with_reducible refine (HC.out _ HB0.out).mono ?_; rintro e w1 ⟨rfl, hb⟩)
        go_ret
        exact ⟨rfl, WentH.below HP.out.hep (HB0.out.trans (hb.mono HB0.out.size))⟩
      · have d1 : decide (i < 0) = false := decide_eq_false h2
        have d2 : decide ((n : Int) ≤ i) = true := decide_eq_true (hr.resolve_left h2)
        go_enter Tryz.func54, Tryz.ntmps54
        go_wp2_with (go_at_call 40; with_reducible refine (HC.out _ HB0.out).mono ?_; rintro e w1 ⟨rfl, hb⟩; have y4 := HY.out _ (HB0.out.trans (hb.mono HB0.out.size)))
        go_ret
        exact ⟨rfl, WentH.below HP.out.hep (HB0.out.trans (hb.mono HB0.out.size))⟩
    · obtain ⟨j, rfl⟩ : ∃ j : Nat, i = (j : Int) := ⟨i.toNat, by omega⟩
      have hj : j < n := by omega
      have d1 : decide ((j : Int) < 0) = false := by simp
      have d2 : decide ((n : Int) ≤ (j : Int)) = false := by simp; omega
      have d3 : decide (n ≤ j) = false := by simp; omega
      have hjn : (j : Int) < (n : Int) := by omega
      cases hmv : mayV m.L (yk, yn) with
      | false =>
        have HE : Hid (setE m.L (K, N) (j : Int) (yk, yn) = 1) := Lib.hid (by unfold setE; rw [if_neg (by rw [hv]; decide), HA.out, HN.out, if_neg hr, if_pos hmv])
        have HM : Hid (setM m (K, N) (j : Int) (yk, yn) = m) := Lib.hid (if_neg (by rw [HE.out]; decide))
        rw [HE.out, HM.out]
        rw [hmv] at HMV
        clear h hv e hca hc e1 hvs c4 hr hmv
        go_enter Tryz.func54, Tryz.ntmps54
        go_wp2_with (first
          | (go_at_call 40; with_reducible refine (HC.out _ HB0.out).mono ?_; rintro e w1 ⟨rfl, hb⟩; have HB1 := Lib.hid (HB0.out.trans (hb.mono HB0.out.size)); have y4 := HY.out _ HB1.out; have hx3 := (hb.block (w.heap.size + 1) (by have := HSZ.out; omega)).trans HX2.out; have y0 := cell_of_row _ _ 0 _ _ _ hx3; have y1 := cell_of_row _ _ 1 _ _ _ hx3; simp at y0 y1; clear hb hx3)
          | (go_at_call 84; with_reducible refine (HMV.out _ HB1.out).mono ?_; rintro e w2 ⟨rfl, hb⟩))
        go_ret
        exact ⟨rfl, WentH.below HP.out.hep (HB1.out.trans (hb.mono HB1.out.size))⟩
      | true =>
        have HE : Hid (setE m.L (K, N) (j : Int) (yk, yn) = 0) := Lib.hid (by unfold setE; rw [if_neg (by rw [hv]; decide), HA.out, HN.out, if_neg hr, if_neg (by rw [hmv]; decide)])
        have HM : Hid (setM m (K, N) (j : Int) (yk, yn) = m.set N.toNat (setC c (j : Int) (yk, yn))) := Lib.hid (by unfold setM; rw [if_pos HE.out, show ((K, N) : Int × Int).2.toNat = N.toNat from rfl, hc2])
        rw [HE.out, HM.out]
        rw [hmv] at HMV
        obtain ⟨b, dd, eq⟩ := own_some hvs (by omega)
        cases eq
        have hbx : x.2.1.ownBlock = some b := by rw [e1]; rfl
        have hne := hca.ne
        have nbx : x.1 ≠ b := fun e2 => hne.1 (by rw [hbx, e2])
        have HNB := Lib.hid nbx
        have HXX := Lib.hid hx
        have HC2 := Lib.hid hc2
        have HBX := Lib.hid hbx
        have HCA := Lib.hid hca
        have HJN : Hid (j < c.o.vs.length) := Lib.hid (by rw [HN.out]; exact hj)
        have HFIN : Hid (∀ w2, Below w.heap.size w w2 → WentH (footH g vr mb S) g (m.set N.toNat (setC c (j : Int) (yk, yn))) w (((w2.setCell ⟨b, j * 2, none⟩ (.int .i64 yk)).setCell ⟨b, j * 2 + 1, none⟩ (.int .i64 yn)).setCell ⟨x.1, 5, none⟩ (.bool true)).drew) := Lib.hid (by
          intro w2 hb2
          have hp2 := HP.out.below hb2
          have hc3 := (HCA.out.below hb2).setV HJN.out (yk, yn) HBX.out
          have hc4 := hc3.set (j := 5) (v := .bool true) (c' := setC c (j : Int) (yk, yn)) (by unfold setC; rw [Int.toNat_natCast]) (by unfold setC; rw [Int.toNat_natCast]; rfl)
          have hfx : footH g vr mb S x.1 := .inr (.inr (.inr ⟨_, x, HXX.out, .inl rfl⟩))
          have hfb : footH g vr mb S b := .inr (.inr (.inr ⟨_, x, HXX.out, .inr (.inl HBX.out)⟩))
          have hch : Chp (footH g vr mb S) (footH g vr mb S) w (((w2.setCell ⟨b, j * 2, none⟩ (.int .i64 yk)).setCell ⟨b, j * 2 + 1, none⟩ (.int .i64 yn)).setCell ⟨x.1, 5, none⟩ (.bool true)) := (((Chp.of_below hb2).trans (Chp.setCell hfb _ _)).trans (Chp.setCell hfb _ _)).trans (Chp.setCell hfx _ _)
          have hfin := hp2.setCl (w' := ((w2.setCell ⟨b, j * 2, none⟩ (.int .i64 yk)).setCell ⟨b, j * 2 + 1, none⟩ (.int .i64 yn)).setCell ⟨x.1, 5, none⟩ (.bool true)) HXX.out HC2.out (c := setC c (j : Int) (yk, yn)) rfl (fun k _ hk => by
            have n1 : k ≠ x.1 := fun e2 => hk (.inl e2)
            have n2 : k ≠ b := fun e2 => hk (.inr (.inl (by rw [e2]; exact HBX.out)))
            exact (heap_setCell_other _ _ _ _ n1).trans ((heap_setCell_other _ _ _ _ n2).trans (heap_setCell_other _ _ _ _ n2))) hc4
          exact ⟨_, (hfin.below (Below.refl _ _).drew).hep, hch.drew⟩)
        have HCB : Hid (∀ w1, Below w.heap.size w w1 → w1.cell? ⟨b, j * 2, none⟩ = some (.int .i64 (c.o.vs.getD j (0, 0)).1) ∧ w1.cell? ⟨b, j * 2 + 1, none⟩ = some (.int .i64 (c.o.vs.getD j (0, 0)).2) ∧ w1.frozen? ⟨b, j * 2, none⟩ = false ∧ w1.frozen? ⟨b, j * 2 + 1, none⟩ = false ∧ w1.frozen? ⟨x.1, 5, none⟩ = false ∧ w1.cell? ⟨x.1, 5, none⟩ = some (.bool c.ch)) := Lib.hid fun w1 hb => by
          have hcx := HCA.out.below hb
          have hv2 := own_below hvs hb
          obtain ⟨g0, g1⟩ := flatV_get c.o.vs j HJN.out
          exact ⟨(hv2.cellAt (j * 2) (by omega)).trans g0, (hv2.cellAt (j * 2 + 1) (by omega)).trans g1, hv2.frozenAt _, hv2.frozenAt _, hcx.fz 5, hcx.c5⟩
        have nxw : ∀ k2, k2 < 2 → w.heap.size + k2 ≠ b ∧ w.heap.size + k2 ≠ x.1 := fun k2 _ => by
          have h2 := hca.lt x.1 (.inl rfl)
          have h3 := hca.lt b (.inr (.inl hbx))
          omega
        have nw1 := (nxw 1 (by omega)).1
        have nw2 := (nxw 1 (by omega)).2
        clear h hv e hca hc hc2 hx e1 hvs c4 hr hmv hbx hne HE HM HA nxw
        generalize (c.o.vs.getD j (0, 0)).1 = u1 at *
        generalize (c.o.vs.getD j (0, 0)).2 = u2 at *
        generalize c.ch = u3 at *
        go_enter Tryz.func54, Tryz.ntmps54
        go_upto_region 8 with (first
          | (go_at_call 40; with_reducible refine (HC.out _ HB0.out).mono ?_; rintro e w1 ⟨rfl, hb⟩; have HB1 := Lib.hid (HB0.out.trans (hb.mono HB0.out.size)); have y4 := HY.out _ HB1.out; have hx3 := (hb.block (w.heap.size + 1) (by have := HSZ.out; omega)).trans HX2.out; have y0 := cell_of_row _ _ 0 _ _ _ hx3; have y1 := cell_of_row _ _ 1 _ _ _ hx3; simp at y0 y1; clear hb)
          | (go_at_call 84; with_reducible refine (HMV.out _ HB1.out).mono ?_; rintro e w2 ⟨rfl, hb⟩))
        have HB2 := Lib.hid (HB1.out.trans (hb.mono HB1.out.size))
        have hx4 := (hb.block _ (lt_of_block hx3)).trans hx3
        have z0 := cell_of_row _ _ 0 _ _ _ hx4
        have z1 := cell_of_row _ _ 1 _ _ _ hx4
        simp at z0 z1
        have z4 := HY.out _ HB2.out
        obtain ⟨t0, t1, t2, t3, t4, t5⟩ := HCB.out _ HB2.out
        have HF := Lib.hid (HFIN.out _ HB2.out)
        clear hb hx3 hx4 y0 y1 y4 HCB HFIN HMV HC
        go_region
        go_wp2_with fail
        go_ret
        exact ⟨rfl, HF.out⟩
end
end Go.Proofs.YthjjgpepgbfalaaGreatDoor
end
section
/-! Two values held against each other. -/
set_option maxRecDepth 20000
set_option linter.unusedSimpArgs false
namespace Go.Proofs.YthjjgpepgbfalaaGreatDoor
open Go.RowKit

theorem decV_eq (p r : Int × Int) : decide (p = r) = (decide (p.1 = r.1) && decide (p.2 = r.2)) := by
  obtain ⟨a, b⟩ := p
  obtain ⟨c, d⟩ := r
  by_cases h1 : a = c <;> by_cases h2 : b = d <;> simp [h1, h2]
theorem eqlV (p r : Int × Int) (w : World) : (binOp .eql 36 (.agg #[.int .i64 p.1, .int .i64 p.2]) (.agg #[.int .i64 r.1, .int .i64 r.2])).run Tryz.prog w = .ok (.bool (decide (p = r))) w := by
  have u3 := Tryz.underlying3
  have u9 := Tryz.underlying34
  have a3 := Tryz.isAgg3
  have z3 := Tryz.sizeOf3
  have a9 := Tryz.isAgg34
  have z9 := Tryz.sizeOf34
  have hS : Tryz.prog.underlying 36 = some (.struct (Tryz.prog.fieldsOf 36)) := by kernel_rfl
  have hp : Tryz.prog.stoodInHeld 36 = false := by kernel_rfl
  rw [run_eql_struct, show (10000 : Nat) = 9999 + 1 from rfl, run_equalIn_agg w 9999 36 _ _ hS hp]
  simp only [Program.fieldsOf, Tryz.underlying36]
  go_simp
  rw [decV_eq p r]
  by_cases h1 : p.1 = r.1 <;> by_cases h2 : p.2 = r.2 <;> simp [h1, h2]
end Go.Proofs.YthjjgpepgbfalaaGreatDoor
end
section
/-! A string that reads as these bytes. -/
namespace Go.Proofs.YthjjgpepgbfalaaGreatDoor
open Go.RowKit

theorem strB_list (s : List Nat) : (strB s).data.toList = s.map fun x => UInt8.ofNat x := by
  unfold strB
  rw [strOfNums_data, List.map_map]
  apply List.map_congr_left
  intro x _
  simp
/-- S is the string of these bytes. -/
structure IsS (S : ByteArray) (s : List Nat) : Prop where
  eq : S = strB s
  dig : ∀ x ∈ s, x < 256
theorem list_eq {S T : ByteArray} (h : S.data.toList = T.data.toList) : S = T := by
  apply ByteArray.ext
  exact Array.ext' h
theorem IsS.list {S : ByteArray} {s : List Nat} (h : IsS S s) : S.data.toList = s.map fun x => UInt8.ofNat x := by rw [h.eq, strB_list]
theorem IsS.of_list {S : ByteArray} {s : List Nat} (h : S.data.toList = s.map fun x => UInt8.ofNat x) (hd : ∀ x ∈ s, x < 256) : IsS S s := ⟨list_eq (by rw [h, strB_list]), hd⟩
theorem IsS.size {S : ByteArray} {s : List Nat} (h : IsS S s) : S.size = s.length := by
  have := congrArg List.length h.list
  rw [List.length_map, Array.length_toList] at this
  exact this
theorem IsS.all (S : ByteArray) : ∃ s, IsS S s := by
  refine ⟨S.data.toList.map (·.toNat), IsS.of_list ?_ ?_⟩
  · rw [List.map_map]
    conv => lhs; rw [← List.map_id S.data.toList]
    apply List.map_congr_left
    intro x _
    simp
  · intro x hx
    obtain ⟨y, _, rfl⟩ := List.mem_map.1 hx
    exact y.toNat_lt
theorem IsS.lit {S : ByteArray} (s : List Nat) (h : S.data.toList = s.map fun x => UInt8.ofNat x) (hd : ∀ x ∈ s, x < 256) : IsS S s := IsS.of_list h hd
theorem IsS.ext {S : ByteArray} {s : List Nat} (h : IsS S s) (a b : Nat) : IsS (S.extract a b) ((s.drop a).take (b - a)) := by
  refine IsS.of_list ?_ (fun x hx => h.dig x (List.mem_of_mem_drop (List.mem_of_mem_take hx)))
  rw [ByteArray.data_extract, Array.toList_extract, List.extract_eq_take_drop, h.list, List.map_take, List.map_drop]
theorem IsS.at {S : ByteArray} {s : List Nat} (h : IsS S s) (i : Nat) (hi : i < S.size) : (S[i]'hi).toNat = s.getD i 0 := by
  have hs := h.size
  have e : S[i]'hi = S.data.toList[i]'(by rw [Array.length_toList]; exact hi) := rfl
  rw [e]
  have h2 : s[i]? = some (s[i]'(by omega)) := List.getElem?_eq_getElem (by omega)
  have h3 : S.data.toList[i]? = some (UInt8.ofNat (s[i]'(by omega))) := by rw [h.list, List.getElem?_map, h2]; rfl
  rw [List.getElem?_eq_getElem (by rw [Array.length_toList]; exact hi)] at h3
  rw [Option.some.inj h3, List.getD_eq_getElem?_getD, h2]
  show (UInt8.ofNat (s[i]'(by omega))).toNat = s[i]'(by omega)
  rw [UInt8.toNat_ofNat']
  exact Nat.mod_eq_of_lt (h.dig _ (List.getElem_mem _))
theorem IsS.inj {S : ByteArray} {s t : List Nat} (h : IsS S s) (k : IsS S t) : s = t := by
  refine strB_inj h.dig k.dig ?_
  rw [← h.eq, ← k.eq]
theorem IsS.eqT {S T : ByteArray} {s t : List Nat} (h : IsS S s) (k : IsS T t) : S = T ↔ s = t := by
  constructor
  · intro e; subst e; exact h.inj k
  · intro e; subst e; rw [h.eq, k.eq]
theorem toList_eq_iff {S T : ByteArray} : S.toList = T.toList ↔ S = T := by
  constructor
  · intro h
    rw [Go.Lib.toList_data, Go.Lib.toList_data] at h
    exact list_eq h
  · intro h; rw [h]
theorem IsS.no {S T : ByteArray} {s t : List Nat} (h : IsS S s) (k : IsS T t) (e : s ≠ t) : (S.toList == T.toList) = false := by
  rw [beq_eq_false_iff_ne]; exact fun h2 => e ((h.eqT k).1 (toList_eq_iff.1 h2))
/-- A byte of it. -/
theorem IsS.index {S : ByteArray} {s : List Nat} (h : IsS S s) (i : Nat) (hi : i < s.length) (w : World) :
    (Instr.index 9 (.string S) (.int .i64 (i : Int))).run Tryz.prog w = .ok (.int .u8 ((s.getD i 0 : Nat) : Int)) w := by
  have hs := h.size
  rw [run_index_string w 9 S .i64 i Tryz.underlying9, dif_pos ⟨by omega, by omega⟩]
  have e := h.at i (by omega)
  rw [← e]
  rfl
end Go.Proofs.YthjjgpepgbfalaaGreatDoor
end
section
/-! Lists and their like: a new pair, a pair's values, which values may be, a new string, a new vector. -/
set_option maxRecDepth 20000
set_option linter.unusedSimpArgs false
set_option linter.unusedVariables false
namespace Go.Proofs.YthjjgpepgbfalaaGreatDoor
open Go.RowKit Go.Shelf

theorem sizeVal : (Tryz.prog.info? 36).map (·.size) = some 2 := by kernel_rfl
section
variable {w w1 w2 w3 : World} {g : Nat} {F : Nat → Prop} {m m' : Hm}
theorem Hep.add (h : Hep w g F m) (o : Ob) (q p : Option Addr) (n c d e : Nat) (ho : ObV w q n p d o) (hn : n ≤ 100000) (hd : d ≤ 100000) :
    Calls Tryz.prog 50 #[.pointer (some ⟨g, 0, none⟩), .agg #[.int .i64 o.k, .slice q n c, .slice p d e]] w fun ex w' => ex = .returned (.tuple #[valV (addV m o), .int .i64 (addE m o)]) ∧ WentH F g (addM m o) w w' := by
  obtain ⟨vr, mb, S, hp, rfl⟩ := h
  exact hp.add o q p n c d e ho hn hd
/-- A call's own box stored behind a call that changed the memory. -/
theorem WentH.box (h : Hep w g F m) (hb : Below w.heap.size w w1) (hw : WentH F g m' w1 w2) {q : Nat} (h1 : w.heap.size ≤ q) (h2 : q < w1.heap.size) (ho : Only q w2 w3) : WentH F g m' w w3 := by
  obtain ⟨F', h3, hc⟩ := hw
  have hq : ¬ F' q := fun e => (hc.fresh q e).elim (fun e2 => by have := h.lt q e2; omega) (fun e2 => by omega)
  have hq2 : q < w2.heap.size := Nat.lt_of_lt_of_le h2 hc.size
  refine ⟨F', h3.keep fun k hk => ho.block k (h3.lt k hk) fun e => hq (e ▸ hk), ho.os.trans (hc.os.trans hb.os), ho.tape.trans (hc.tape.trans hb.tape), ho.output.trans (hc.output.trans hb.output), Nat.le_trans hb.size (Nat.le_trans hc.size ho.size), fun k hk hF => ?_, fun k hk => (hc.fresh k hk).imp id fun e => Nat.le_trans hb.size e⟩
  exact (ho.block k (Nat.lt_of_lt_of_le hk (Nat.le_trans hb.size hc.size)) (by omega)).trans ((hc.block k (Nat.lt_of_lt_of_le hk hb.size) hF).trans (hb.block k hk))
theorem two_only (W : World) (q : Nat) (a b : Value) : Only q W ((W.setCell ⟨q, 0, none⟩ a).setCell ⟨q, 1, none⟩ b) := (Only.setCell q 0 a W).trans (Only.setCell q 1 b _)
def obP (x y : Int × Int) : Ob := ⟨0, [x, y], []⟩
theorem obV_pair {W : World} {b : Nat} {x y : Int × Int} (hx : domV x) (hy : domV y) (h : W.heap[b]? = some (.cells #[.int .i64 x.1, .int .i64 x.2, .int .i64 y.1, .int .i64 y.2] 36 (0, 0))) : ObV W (some ⟨b, 0, none⟩) 2 none 0 (obP x y) := by
  have c0 := cell_of_row _ _ 0 _ _ _ h
  have c1 := cell_of_row _ _ 1 _ _ _ h
  have c2 := cell_of_row _ _ 2 _ _ _ h
  have c3 := cell_of_row _ _ 3 _ _ _ h
  refine ⟨⟨rfl, fun _ => ⟨b, 0, rfl, fun i hi => ?_⟩⟩, ⟨rfl, fun x hx => (by cases hx), fun h0 => by omega⟩, fun z hz => ?_, by omega, by omega⟩
  · rcases (show i = 0 ∨ i = 1 by omega) with rfl | rfl
    · exact ⟨c0, c1⟩
    · exact ⟨c2, c3⟩
  · rcases List.mem_cons.1 hz with rfl | hz
    · exact hx
    · rcases List.mem_cons.1 hz with rfl | hz
      · exact hy
      · cases hz
set_option maxHeartbeats 1600000 in
theorem cons_any (h : Hep w g F m) (x y : Int × Int) (hx : domV x) (hy : domV y) :
    Calls Tryz.prog 83 #[.pointer (some ⟨g, 0, none⟩), valV x, valV y] w fun e w' => e = .returned (.tuple #[valV (addV m (obP x y)), .int .i64 (addE m (obP x y))]) ∧ WentH F g (addM m (obP x y)) w w' := by
  obtain ⟨x1, x2⟩ := x
  obtain ⟨y1, y2⟩ := y
  obtain ⟨W4, hW4⟩ : ∃ W4, (((w.alloc (.cells #[.int .i64 x1, .int .i64 x2] 36)).alloc (.cells #[.int .i64 y1, .int .i64 y2] 36)).alloc (.cells #[.int .i64 0, .int .i64 0] 36)).alloc (.cells #[.int .i64 x1, .int .i64 x2, .int .i64 y1, .int .i64 y2] 36) = W4 := ⟨_, rfl⟩
  have hb : Below w.heap.size w W4 := by rw [← hW4]; exact ((((Below.refl _ _).alloc (Nat.le_refl _) _).alloc (by simp) _).alloc (by simp; omega) _).alloc (by simp; omega) _
  have hsz : W4.heap.size = w.heap.size + 4 := by rw [← hW4]; simp
  have hr : W4.heap[w.heap.size + 3]? = some (.cells #[.int .i64 x1, .int .i64 x2, .int .i64 y1, .int .i64 y2] 36 (0, 0)) := by
    rw [← hW4]
    have := heap_alloc_new (((w.alloc (.cells #[.int .i64 x1, .int .i64 x2] 36)).alloc (.cells #[.int .i64 y1, .int .i64 y2] 36)).alloc (.cells #[.int .i64 0, .int .i64 0] 36)) (.cells #[.int .i64 x1, .int .i64 x2, .int .i64 y1, .int .i64 y2] 36)
    simpa using this
  have h2 : W4.heap[w.heap.size + 2]? = some (.cells #[.int .i64 0, .int .i64 0] 36 (0, 0)) := by
    rw [← hW4]
    refine (Below.heap_alloc _ _ _ (by simp)).trans ?_
    have := heap_alloc_new ((w.alloc (.cells #[.int .i64 x1, .int .i64 x2] 36)).alloc (.cells #[.int .i64 y1, .int .i64 y2] 36)) (.cells #[.int .i64 0, .int .i64 0] 36)
    simpa using this
  have HA := Lib.hid ((h.below hb).add (obP (x1, x2) (y1, y2)) (some ⟨w.heap.size + 3, 0, none⟩) none 2 2 0 0 (obV_pair hx hy hr) (by omega) (by omega))
  have HBX : Hid (∀ w5 w6, WentH F g (addM m (obP (x1, x2) (y1, y2))) W4 w5 → Only (w.heap.size + 2) w5 w6 → WentH F g (addM m (obP (x1, x2) (y1, y2))) w w6) := Lib.hid fun w5 w6 hw ho => WentH.box h hb hw (by omega) (by omega) ho
  have H2 : Hid (∀ w5, WentH F g (addM m (obP (x1, x2) (y1, y2))) W4 w5 → w5.heap[w.heap.size + 2]? = some (.cells #[.int .i64 0, .int .i64 0] 36 (0, 0))) := Lib.hid fun w5 ⟨F', _, hc⟩ => (hc.block _ (lt_of_block h2) fun e => by have := h.lt _ e; omega).trans h2
  have hbo : ∀ u : World, (Instr.build 103 #[(0, .int .i64 0), (1, .slice (some ⟨w.heap.size + 3, 0, none⟩) 2 2)]).run Tryz.prog u = .ok (.agg #[.int .i64 0, .slice (some ⟨w.heap.size + 3, 0, none⟩) 2 2, .slice none 0 0]) u := fun u => run_build u _ _ _ (by kernel_rfl)
  have HA2 : Hid (Calls Tryz.prog 50 #[.pointer (some ⟨g, 0, none⟩), .agg #[.int .i64 0, .slice (some ⟨w.heap.size + 3, 0, none⟩) 2 2, .slice none 0 0]] W4 fun ex w' => ex = .returned (.tuple #[.agg #[.int .i64 (addV m (obP (x1, x2) (y1, y2))).1, .int .i64 (addV m (obP (x1, x2) (y1, y2))).2], .int .i64 (addE m (obP (x1, x2) (y1, y2)))]) ∧ WentH F g (addM m (obP (x1, x2) (y1, y2))) W4 w') := HA
  have HSV := Lib.hid sizeVal
  clear HA h hb hr h2 hx hy
  generalize addV m (obP (x1, x2) (y1, y2)) = av at *
  generalize addE m (obP (x1, x2) (y1, y2)) = ae at *
  generalize addM m (obP (x1, x2) (y1, y2)) = am at *
  go_enter Tryz.func83, Tryz.ntmps83
  go_wp2_with (go_at_call 50; with_reducible refine HA2.out.mono ?_; rintro e w5 ⟨rfl, hw⟩; have hx := H2.out _ hw; have y0 := cell_of_row _ _ 0 _ _ _ hx; have y1 := cell_of_row _ _ 1 _ _ _ hx; have f0 := frozen_of_row _ _ 0 _ _ hx; have f1 := frozen_of_row _ _ 1 _ _ hx; simp at y0 y1)
  have hF := two_row _ _ _ _ _ (.int .i64 av.1) (.int .i64 av.2) hx
  exact bodyPost_ret (Lx.results_row_tmp Tryz.results83 _ _ (w.heap.size + 2) 36 #[.int .i64 av.1, .int .i64 av.2] (0, 0) _ rfl hF Tryz.underlying36 rfl HSV.out) rfl ⟨rfl, HBX.out _ _ hw (two_only _ _ _ _)⟩
end
end Go.Proofs.YthjjgpepgbfalaaGreatDoor
end
section
/-! A new string, a new vector. -/
set_option maxRecDepth 20000
set_option linter.unusedSimpArgs false
set_option linter.unusedVariables false
namespace Go.Proofs.YthjjgpepgbfalaaGreatDoor
open Go.RowKit Go.Shelf

def numS (T : ByteArray) : List Nat := T.data.toList.map fun b => b.toNat
theorem numS_len (T : ByteArray) : (numS T).length = T.size := by unfold numS; rw [List.length_map, Array.length_toList]; rfl
theorem numS_dig (T : ByteArray) : ∀ x ∈ numS T, x < 256 := fun x hx => by
  obtain ⟨b, _, rfl⟩ := List.mem_map.1 hx
  exact b.toNat_lt
def obS (T : ByteArray) : Ob := ⟨2, [], numS T⟩
def obL (l : List (Int × Int)) : Ob := ⟨1, l, []⟩
section
variable {w w1 w2 w3 : World} {g : Nat} {F : Nat → Prop} {m m' : Hm}
theorem conv_below (w : World) (T : ByteArray) : Below w.heap.size w (Lib.bytesWorld w 5 T) :=
  ⟨rfl, rfl, rfl, by rw [Lib.bytesWorld_size]; omega, fun k hk => Lib.bytesWorld_at_old w 5 T k hk⟩
theorem conv_bys (w : World) (T : ByteArray) : Bys (Lib.bytesWorld w 5 T) (some ⟨w.heap.size, 0, none⟩) T.size (numS T) :=
  ⟨numS_len T, numS_dig T, fun hn => ⟨w.heap.size, 0, rfl, fun i hi => by
    rw [Nat.zero_add]
    have h1 := Lib.bytesWorld_cell w 5 T i hi
    rw [h1]
    have h2 : i < T.data.toList.length := by rw [Array.length_toList]; exact hi
    have h3 : (numS T).getD i 0 = (T.data.toList.getD i 0).toNat := by
      unfold numS
      rw [List.getD_eq_getElem?_getD, List.getD_eq_getElem?_getD, List.getElem?_map, List.getElem?_eq_getElem h2]; rfl
    rw [h3]⟩⟩
set_option maxHeartbeats 1600000 in
theorem string_any (h : Hep w g F m) (T : ByteArray) (hT : T.size ≤ 100000) :
    Calls Tryz.prog 49 #[.pointer (some ⟨g, 0, none⟩), .string T] w fun e w' => e = .returned (.tuple #[valV (addV m (obS T)), .int .i64 (addE m (obS T))]) ∧ WentH F g (addM m (obS T)) w w' := by
  obtain ⟨W1, hW1⟩ : ∃ W1, w.alloc (.cells #[.int .i64 0, .int .i64 0] 36) = W1 := ⟨_, rfl⟩
  have hb1 : Below w.heap.size w W1 := by rw [← hW1]; exact alloc_below _ _
  have hs1 : W1.heap.size = w.heap.size + 1 := by rw [← hW1]; simp
  have h1 : W1.heap[w.heap.size]? = some (.cells #[.int .i64 0, .int .i64 0] 36 (0, 0)) := by rw [← hW1]; exact heap_alloc_new _ _
  have hcv := Lib.run_convert_string_bytes (P := Tryz.prog) W1 9 101 5 T Tryz.underlying9 Tryz.underlying101 Tryz.underlying5
  have hb2 := conv_below W1 T
  have hby := conv_bys W1 T
  rw [hs1] at hcv hby
  have hs2 : (Lib.bytesWorld W1 5 T).heap.size = w.heap.size + 2 := by rw [Lib.bytesWorld_size, hs1]
  have h2 := (hb2.block w.heap.size (by omega)).trans h1
  generalize Lib.bytesWorld W1 5 T = W2 at *
  generalize grownCap W1 T.size 0 5 = cp at *
  have hb : Below w.heap.size w W2 := hb1.trans (hb2.mono hb1.size)
  have hob : ObV W2 none 0 (some ⟨w.heap.size + 1, 0, none⟩) T.size (obS T) := ⟨⟨rfl, fun h0 => by omega⟩, hby, fun z hz => (by cases hz), by omega, by omega⟩
  have HA : Hid (Calls Tryz.prog 50 #[.pointer (some ⟨g, 0, none⟩), .agg #[.int .i64 2, .slice none 0 0, .slice (some ⟨w.heap.size + 1, 0, none⟩) T.size cp]] W2 fun ex w' => ex = .returned (.tuple #[.agg #[.int .i64 (addV m (obS T)).1, .int .i64 (addV m (obS T)).2], .int .i64 (addE m (obS T))]) ∧ WentH F g (addM m (obS T)) W2 w') := Lib.hid ((h.below hb).add (obS T) none (some ⟨w.heap.size + 1, 0, none⟩) 0 0 T.size cp hob (by omega) hT)
  have HBX : Hid (∀ w5 w6, WentH F g (addM m (obS T)) W2 w5 → Only w.heap.size w5 w6 → WentH F g (addM m (obS T)) w w6) := Lib.hid fun w5 w6 hw ho => WentH.box h hb hw (Nat.le_refl _) (by omega) ho
  have H2 : Hid (∀ w5, WentH F g (addM m (obS T)) W2 w5 → w5.heap[w.heap.size]? = some (.cells #[.int .i64 0, .int .i64 0] 36 (0, 0))) := Lib.hid fun w5 ⟨F', _, hc⟩ => (hc.block _ (lt_of_block h2) fun e => by have := h.lt _ e; omega).trans h2
  have hbo : ∀ u : World, (Instr.build 103 #[(0, .int .i64 2), (2, .slice (some ⟨w.heap.size + 1, 0, none⟩) T.size cp)]).run Tryz.prog u = .ok (.agg #[.int .i64 2, .slice none 0 0, .slice (some ⟨w.heap.size + 1, 0, none⟩) T.size cp]) u := fun u => run_build u _ _ _ (by kernel_rfl)
  have HSV := Lib.hid sizeVal
  clear h hb hb1 hb2 h1 h2 hby hob hT hs2
  generalize addV m (obS T) = av at *
  generalize addE m (obS T) = ae at *
  generalize addM m (obS T) = am at *
  go_enter Tryz.func49, Tryz.ntmps49
  go_wp2_with (go_at_call 50; with_reducible refine HA.out.mono ?_; rintro e w5 ⟨rfl, hw⟩; have hx := H2.out _ hw; have y0 := cell_of_row _ _ 0 _ _ _ hx; have y1 := cell_of_row _ _ 1 _ _ _ hx; have f0 := frozen_of_row _ _ 0 _ _ hx; have f1 := frozen_of_row _ _ 1 _ _ hx; simp at y0 y1)
  have hF := two_row _ _ _ _ _ (.int .i64 av.1) (.int .i64 av.2) hx
  exact bodyPost_ret (Lx.results_row_tmp Tryz.results49 _ _ w.heap.size 36 #[.int .i64 av.1, .int .i64 av.2] (0, 0) _ rfl hF Tryz.underlying36 rfl HSV.out) rfl ⟨rfl, HBX.out _ _ hw (two_only _ _ _ _)⟩
set_option maxHeartbeats 1600000 in
theorem vector_any (h : Hep w g F m) (q : Option Addr) (n c : Nat) (l : List (Int × Int)) (hl : Vls w q n l) (hf : FitV l) (hn : n ≤ 100000) :
    Calls Tryz.prog 52 #[.pointer (some ⟨g, 0, none⟩), .slice q n c] w fun e w' => e = .returned (.tuple #[valV (addV m (obL l)), .int .i64 (addE m (obL l))]) ∧ WentH F g (addM m (obL l)) w w' := by
  obtain ⟨W1, hW1⟩ : ∃ W1, w.alloc (.cells #[.int .i64 0, .int .i64 0] 36) = W1 := ⟨_, rfl⟩
  have hb1 : Below w.heap.size w W1 := by rw [← hW1]; exact alloc_below _ _
  have hs1 : W1.heap.size = w.heap.size + 1 := by rw [← hW1]; simp
  have h1 : W1.heap[w.heap.size]? = some (.cells #[.int .i64 0, .int .i64 0] 36 (0, 0)) := by rw [← hW1]; exact heap_alloc_new _ _
  have hob : ObV W1 q n none 0 (obL l) := ⟨hl.below hb1, ⟨rfl, fun x hx => (by cases hx), fun h0 => by omega⟩, hf, by omega, by omega⟩
  have HA : Hid (Calls Tryz.prog 50 #[.pointer (some ⟨g, 0, none⟩), .agg #[.int .i64 1, .slice q n c, .slice none 0 0]] W1 fun ex w' => ex = .returned (.tuple #[.agg #[.int .i64 (addV m (obL l)).1, .int .i64 (addV m (obL l)).2], .int .i64 (addE m (obL l))]) ∧ WentH F g (addM m (obL l)) W1 w') := Lib.hid ((h.below hb1).add (obL l) q none n c 0 0 hob hn (by omega))
  have HBX : Hid (∀ w5 w6, WentH F g (addM m (obL l)) W1 w5 → Only w.heap.size w5 w6 → WentH F g (addM m (obL l)) w w6) := Lib.hid fun w5 w6 hw ho => WentH.box h hb1 hw (Nat.le_refl _) (by omega) ho
  have H2 : Hid (∀ w5, WentH F g (addM m (obL l)) W1 w5 → w5.heap[w.heap.size]? = some (.cells #[.int .i64 0, .int .i64 0] 36 (0, 0))) := Lib.hid fun w5 ⟨F', _, hc⟩ => (hc.block _ (lt_of_block h1) fun e => by have := h.lt _ e; omega).trans h1
  have hbo : ∀ u : World, (Instr.build 103 #[(0, .int .i64 1), (1, .slice q n c)]).run Tryz.prog u = .ok (.agg #[.int .i64 1, .slice q n c, .slice none 0 0]) u := fun u => run_build u _ _ _ (by kernel_rfl)
  have HSV := Lib.hid sizeVal
  clear h hb1 h1 hob hl hf hn
  generalize addV m (obL l) = av at *
  generalize addE m (obL l) = ae at *
  generalize addM m (obL l) = am at *
  go_enter Tryz.func52, Tryz.ntmps52
  go_wp2_with (go_at_call 50; with_reducible refine HA.out.mono ?_; rintro e w5 ⟨rfl, hw⟩; have hx := H2.out _ hw; have y0 := cell_of_row _ _ 0 _ _ _ hx; have y1 := cell_of_row _ _ 1 _ _ _ hx; have f0 := frozen_of_row _ _ 0 _ _ hx; have f1 := frozen_of_row _ _ 1 _ _ hx; simp at y0 y1)
  have hF := two_row _ _ _ _ _ (.int .i64 av.1) (.int .i64 av.2) hx
  exact bodyPost_ret (Lx.results_row_tmp Tryz.results52 _ _ w.heap.size 36 #[.int .i64 av.1, .int .i64 av.2] (0, 0) _ rfl hF Tryz.underlying36 rfl HSV.out) rfl ⟨rfl, HBX.out _ _ hw (two_only _ _ _ _)⟩
end
end Go.Proofs.YthjjgpepgbfalaaGreatDoor
end
section
/-! Which values may be; a pair's values. -/
set_option maxRecDepth 20000
set_option linter.unusedSimpArgs false
set_option linter.unusedVariables false
namespace Go.Proofs.YthjjgpepgbfalaaGreatDoor
open Go.RowKit Go.Shelf

section
variable {w w1 w2 w3 : World} {g : Nat} {F : Nat → Prop} {m m' : Hm}
theorem Hep.has (h : Hep w g F m) (K N : Int) (hN : I64 N) : Calls Tryz.prog 107 #[.pointer (some ⟨g, 0, none⟩), .agg #[.int .i64 K, .int .i64 N]] w fun e w' => e = .returned (.bool (hasP m.L (K, N))) ∧ Below w.heap.size w w' := by
  obtain ⟨vr, mb, S, hp, rfl⟩ := h
  exact hp.has K N hN.1 hN.2
theorem Hep.kind (h : Hep w g F m) (hh : Here m.L) (K N : Int) (hN : I64 N) : Calls Tryz.prog 22 #[.pointer (some ⟨g, 0, none⟩), .agg #[.int .i64 K, .int .i64 N]] w fun e w' => e = .returned (.tuple #[.int .i64 (obAt m.L (K, N)).k, .int .i64 (hasE m.L (K, N))]) ∧ Below w.heap.size w w' := by
  obtain ⟨vr, mb, S, hp, rfl⟩ := h
  exact hp.kind hh K N hN.1 hN.2
theorem Hep.at' (h : Hep w g F m) (hh : Here m.L) (K N : Int) (hN : I64 N) (i : Int) : Calls Tryz.prog 23 #[.pointer (some ⟨g, 0, none⟩), .agg #[.int .i64 K, .int .i64 N], .int .i64 i] w fun e w' => e = .returned (.tuple #[valV (atV m.L (K, N) i), .int .i64 (atE m.L (K, N) i)]) ∧ Below w.heap.size w w' := by
  obtain ⟨vr, mb, S, hp, rfl⟩ := h
  exact hp.atI hh K N hN.1 hN.2 i
set_option maxHeartbeats 1600000 in
theorem may_any (h : Hep w g F m) (K N : Int) (hN : I64 N) : Calls Tryz.prog 81 #[.pointer (some ⟨g, 0, none⟩), .agg #[.int .i64 K, .int .i64 N]] w fun e w' => e = .returned (.bool (mayV m.L (K, N))) ∧ Below w.heap.size w w' := by
  have hb := alloc_below w (.cells #[.int .i64 K, .int .i64 N] 36)
  have HB := Lib.hid hb
  have HH := Lib.hid ((h.below hb).has K N hN)
  unfold mayV
  by_cases h8 : K = 8
  · have d8 : (K == 8) = true := by rw [h8]; rfl
    rw [if_pos h8]
    clear h hb h8
    go_enter Tryz.func81, Tryz.ntmps81
    go_wp2_with (go_at_call 107; with_reducible refine HH.out.mono ?_; rintro e w1 ⟨rfl, hb1⟩)
    go_ret
    exact ⟨rfl, HB.out.trans (hb1.mono HB.out.size)⟩
  · have d8 : (K == 8) = false := by simpa using h8
    rw [if_neg h8]
    by_cases h0 : 0 ≤ K
    · have d0 : decide ((0 : Int) ≤ K) = true := decide_eq_true h0
      by_cases h9 : K < 9
      · have d9 : decide (K < (9 : Int)) = true := decide_eq_true h9
        rw [show decide (0 ≤ (K, N).1 ∧ (K, N).1 < 9) = true from decide_eq_true ⟨h0, h9⟩]
        clear h hb h8 h0 h9 HH
        go_enter Tryz.func81, Tryz.ntmps81
        go_wp2_with fail
        go_ret
        exact ⟨rfl, HB.out⟩
      · have d9 : decide (K < (9 : Int)) = false := decide_eq_false h9
        rw [show decide (0 ≤ (K, N).1 ∧ (K, N).1 < 9) = false from decide_eq_false fun e => h9 e.2]
        clear h hb h8 h0 h9 HH
        go_enter Tryz.func81, Tryz.ntmps81
        go_wp2_with fail
        go_ret
        exact ⟨rfl, HB.out⟩
    · have d0 : decide ((0 : Int) ≤ K) = false := decide_eq_false h0
      rw [show decide (0 ≤ (K, N).1 ∧ (K, N).1 < 9) = false from decide_eq_false fun e => h0 e.1]
      clear h hb h8 h0 HH
      go_enter Tryz.func81, Tryz.ntmps81
      go_wp2_with fail
      go_ret
      exact ⟨rfl, HB.out⟩
set_option maxHeartbeats 1600000 in
theorem mayAll_any (h : Hep w g F m) (q : Option Addr) (n c : Nat) (l : List (Int × Int)) (hl : Vls w q n l) (hf : FitV l) (hn : n ≤ 100000) :
    Calls Tryz.prog 80 #[.pointer (some ⟨g, 0, none⟩), .slice q n c] w fun e w' => e = .returned (.bool (l.all (mayV m.L))) ∧ Below w.heap.size w w' := by
  have HH := Lib.hid h
  have HL := Lib.hid hl
  have HF := Lib.hid hf
  have HN := Lib.hid hl.1
  obtain ⟨R, hR⟩ : ∃ R, l.all (mayV m.L) = R := ⟨_, rfl⟩
  rw [hR]
  have HR : Hid ((l.drop 0).all (mayV m.L) = R) := Lib.hid (by simpa using hR)
  have hnI : (n : Int) ≤ 100000 := by omega
  clear h hl hf hR
  go_enter Tryz.func80, Tryz.ntmps80
  go_wp2_with fail
  go_loopw [9] (fun iv wr => ∃ i : Nat, i ≤ n ∧ iv = .int .i64 (i : Int) ∧ Hid ((l.drop i).all (mayV m.L) = R) ∧ Hid (Below w.heap.size w wr)) (fun iv _ => n - (RowKit.intOf iv).toNat)
  case atStart => exact ⟨0, by omega, by go_num, HR, Lib.hid (Below.refl _ _)⟩
  case round =>
    obtain ⟨i, hi, rfl, HI, HB⟩ := hrel
    clear HR
    by_cases hlt : i < n
    · have d1 : decide ((i : Int) < (n : Int)) = true := decide_eq_true (by omega)
      have d2 : decide (i < n) = true := decide_eq_true hlt
      have hiI : (i : Int) < (n : Int) := by omega
      obtain ⟨b, o, rfl, hc⟩ := (HL.out.below HB.out).2 (by omega)
      obtain ⟨x0, x1⟩ := hc i hlt
      have hfi := HF.out.getD i
      have hil : i < l.length := by rw [HN.out]; exact hlt
      have hd : l.drop i = l.getD i (0, 0) :: l.drop (i + 1) := by
        rw [List.drop_eq_getElem_cons hil, List.getD_eq_getElem?_getD, List.getElem?_eq_getElem hil]; rfl
      have HI2 := HI.out
      rw [hd, List.all_cons] at HI2
      generalize l.getD i (0, 0) = v at *
      obtain ⟨a, b2⟩ := v
      have hba := alloc_below wr (.cells #[.int .i64 a, .int .i64 b2] 36)
      have HM := Lib.hid (may_any ((HH.out.below HB.out).below hba) a b2 hfi.2)
      have HBA := Lib.hid (HB.out.trans (hba.mono HB.out.size))
      have HI3 := Lib.hid HI2
      clear hc hfi hil hd HI2 hba HI
      simp only at x0 x1 HI3
      cases hm : mayV m.L (a, b2) with
      | false =>
        have hR : false = R := by have := HI3.out; rw [hm] at this; exact this
        subst hR
        rw [hm] at HM
        clear HI3 hm
        go_wp2_with (go_at_call 81; with_reducible refine HM.out.mono ?_; rintro e w1 ⟨rfl, hb1⟩)
        go_ret
        exact ⟨rfl, HBA.out.trans (hb1.mono HBA.out.size)⟩
      | true =>
        have HR2 : Hid ((l.drop (i + 1)).all (mayV m.L) = R) := Lib.hid (by have := HI3.out; rw [hm, Bool.true_and] at this; exact this)
        rw [hm] at HM
        clear HI3 hm
        go_wp2_with (go_at_call 81; with_reducible refine HM.out.mono ?_; rintro e w1 ⟨rfl, hb1⟩)
        go_roundw
        case rel => exact ⟨i + 1, by omega, by go_num, HR2, Lib.hid (HBA.out.trans (hb1.mono HBA.out.size))⟩
        case measure => simp [RowKit.intOf]; omega
    · obtain rfl : i = n := by omega
      have d1 : decide ((i : Int) < (i : Int)) = false := decide_eq_false (by omega)
      have d2 : decide (i < i) = false := decide_eq_false (by omega)
      have hR : true = R := by have := HI.out; rw [List.drop_of_length_le (by rw [HN.out]; exact Nat.le_refl _)] at this; exact this
      subst hR
      clear HI
      go_wp2_with fail
      go_ret
      exact ⟨rfl, HB.out⟩
end
end Go.Proofs.YthjjgpepgbfalaaGreatDoor
end
