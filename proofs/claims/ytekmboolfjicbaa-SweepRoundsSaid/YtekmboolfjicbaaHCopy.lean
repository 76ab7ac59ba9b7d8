/- slices.Clone of values and of bytes; an object copied. -/
import Derived.Test.YtekmboolfjicbaaHMay
import Derived.Lib.SliceRun
import Derived.Deep.AppendLies
import Derived.Deep.RegionHeld3
import Derived.Deep.Cut
set_option maxRecDepth 20000
set_option linter.unusedSimpArgs false
namespace Go.Proofs.Ytekmboolfjicbaa
open Go.RowKit

theorem Try.infoV : (Try.prog.info? 36).map (fun i => (i.zero, i.size, i.bytes)) = some (some (.agg #[.int .i64 0, .int .i64 0]), 2, 16) := by kernel_rfl
theorem own_low {w : World} {base B E m n : Nat} {v : Value} {xs : List Value} (h : w.ownsRow base E m v n xs) (hB : B ≤ base) : w.ownsRow B E m v n xs := by
  refine ⟨h.1, ?_⟩
  rcases h.2 with h2 | ⟨g, cap, cur, e, hb, hg, hr⟩
  · exact .inl h2
  · exact .inr ⟨g, cap, cur, e, Nat.le_trans hB hb, hg, hr⟩
set_option maxHeartbeats 800000 in
theorem vclone_any (q : Option Addr) (n c : Nat) (l : List (Int × Int)) (w : World) (hn : n ≤ 100000) (hp : Vls w q n l) :
    Calls Try.prog 54 #[.slice q n c] w fun e w' => ∃ v, e = .returned v ∧ w'.ownsRow w.heap.size 36 2 v n (flatV l) ∧ Below w.heap.size w w' := by
  have hnil := Lib.run_eql_slice_nil (P := Try.prog) w 23 36 q n c 0 0 Try.underlying23
  cases q with
  | none =>
    have h0 : n = 0 := by
      rcases Nat.eq_zero_or_pos n with h | h
      · exact h
      · obtain ⟨_, _, e, _⟩ := hp.2 h; cases e
    subst h0
    obtain rfl := List.length_eq_zero_iff.1 hp.1
    go_enter Try.func54, Try.ntmps54
    go_wp2_with fail
    go_ret
    exact ⟨_, rfl, World.ownsRow_nil _ _ _ _, Below.refl _ _⟩
  | some a =>
    obtain ⟨i0, hi, hz0, hzs, hzb⟩ := info_parts Try.infoV
    have HI := Lib.hid hi
    have HZ0 := Lib.hid hz0
    have HZ1 := Lib.hid hzs
    have HZ2 := Lib.hid hzb
    have HROW : Hid ((w.alloc (.cells #[] 36)).ownsRow w.heap.size 36 2 (.slice (some ⟨w.heap.size, 0, none⟩) 0 0) 0 []) := Lib.hid
      ⟨rfl, .inr ⟨w.heap.size, 0, #[], rfl, Nat.le_refl _, heap_alloc_new w _, Nat.le_refl _, by unfold maxLen; omega, rfl, rfl⟩⟩
    have HB1 : Hid (Below w.heap.size w (w.alloc (.cells #[] 36))) := Lib.hid ((Below.refl _ _).alloc (Nat.le_refl _) _)
    have HCE : Hid (∀ j u, (flatV l)[j]? = some u → (w.alloc (.cells #[] 36)).cell? (a.add j) = some u) := Lib.hid (by
      intro j u hj
      have hlt : j < l.length * 2 := by rw [← flatV_len]; exact (List.getElem?_eq_some_iff.1 hj).1
      obtain ⟨ad, e, hc⟩ := (hp.below HB1.out).cells (by rw [← hp.1]; omega)
      cases e
      exact hc j u hj)
    have HLN : Hid ((flatV l).length = n * 2) := Lib.hid (by rw [flatV_len, hp.1])
    have HONE := Lib.hid (flatV_one l)
    clear hi hz0 hzs hzb hp
    go_enter Try.func54, Try.ntmps54
    go_wp2_with (at_builtin; refine wpList_append_own _ rfl (.tmp 5) (.tmp 6) 23 rfl w.heap.size 36 i0 (.agg #[.int .i64 0, .int .i64 0]) 2 16 Try.underlying23 HI.out HZ0.out HZ1.out HZ2.out rfl (by decide) (.slice (some ⟨w.heap.size, 0, none⟩) 0 0) 0 [] (by rfl) HROW.out a n c (flatV l) (by rfl) HLN.out HCE.out HONE.out (by unfold maxLen; omega) (by omega) HB1.out.size ?_; intro v' w2 hown hgrow _)
    have HV : Hid (w2.ownsRow w.heap.size 36 2 v' n (flatV l)) := Lib.hid (by rw [Nat.zero_add, List.nil_append] at hown; exact hown)
    have HB2 := Lib.hid (HB1.out.grown hgrow HB1.out.size (fun j e => (HROW.out.lt j e).1))
    clear hown hgrow
    go_wp2_with fail
    go_ret
    exact ⟨v', rfl, HV.out, HB2.out⟩
set_option maxHeartbeats 800000 in
theorem bclone_any (q : Option Addr) (n c : Nat) (l : List Nat) (w : World) (hn : n ≤ 100000) (hp : Bys w q n l) :
    Calls Try.prog 55 #[.slice q n c] w fun e w' => ∃ v, e = .returned v ∧ w'.ownsRow w.heap.size 5 1 v n (u8s l) ∧ Below w.heap.size w w' := by
  have hnil := Lib.run_eql_slice_nil (P := Try.prog) w 59 5 q n c 0 0 Try.underlying59
  cases q with
  | none =>
    have h0 : n = 0 := by
      rcases Nat.eq_zero_or_pos n with h | h
      · exact h
      · obtain ⟨_, _, e, _⟩ := hp.inn h; cases e
    subst h0
    obtain rfl := hp.nil_
    go_enter Try.func55, Try.ntmps55
    go_wp2_with fail
    go_ret
    exact ⟨_, rfl, World.ownsRow_nil _ _ _ _, Below.refl _ _⟩
  | some a =>
    obtain ⟨i0, hi, hz0, hzs, hzb⟩ := info_parts Try.info5
    have HI := Lib.hid hi
    have HZ0 := Lib.hid hz0
    have HZ1 := Lib.hid hzs
    have HZ2 := Lib.hid hzb
    have HROW : Hid ((w.alloc (.cells #[] 5)).ownsRow w.heap.size 5 1 (.slice (some ⟨w.heap.size, 0, none⟩) 0 0) 0 []) := Lib.hid
      ⟨rfl, .inr ⟨w.heap.size, 0, #[], rfl, Nat.le_refl _, heap_alloc_new w _, Nat.le_refl _, by unfold maxLen; omega, rfl, rfl⟩⟩
    have HB1 : Hid (Below w.heap.size w (w.alloc (.cells #[] 5))) := Lib.hid ((Below.refl _ _).alloc (Nat.le_refl _) _)
    have HCE : Hid (∀ j u, (u8s l)[j]? = some u → (w.alloc (.cells #[] 5)).cell? (a.add j) = some u) := Lib.hid (by
      intro j u hj
      have hlt : j < l.length := by rw [← u8s_len]; exact (List.getElem?_eq_some_iff.1 hj).1
      obtain ⟨ad, e, hc⟩ := (hp.below HB1.out).cells (by rw [← hp.len]; omega)
      cases e
      exact hc j u hj)
    have HLN : Hid ((u8s l).length = n * 1) := Lib.hid (by rw [u8s_len, hp.len]; omega)
    have HONE := Lib.hid (u8s_one l)
    clear hi hz0 hzs hzb hp
    go_enter Try.func55, Try.ntmps55
    go_wp2_with (at_builtin; refine wpList_append_own _ rfl (.tmp 5) (.tmp 6) 59 rfl w.heap.size 5 i0 (.int .u8 0) 1 1 Try.underlying59 HI.out HZ0.out HZ1.out HZ2.out rfl (by decide) (.slice (some ⟨w.heap.size, 0, none⟩) 0 0) 0 [] (by rfl) HROW.out a n c (u8s l) (by rfl) HLN.out HCE.out HONE.out (by unfold maxLen; omega) (by omega) HB1.out.size ?_; intro v' w2 hown hgrow _)
    have HV : Hid (w2.ownsRow w.heap.size 5 1 v' n (u8s l)) := Lib.hid (by rw [Nat.zero_add, List.nil_append] at hown; exact hown)
    have HB2 := Lib.hid (HB1.out.grown hgrow HB1.out.size (fun j e => (HROW.out.lt j e).1))
    clear hown hgrow
    go_wp2_with fail
    go_ret
    exact ⟨v', rfl, HV.out, HB2.out⟩
/-- An object's copy. -/
structure Cpy (w w' : World) (o : Ob) (vv vb : Value) : Prop where
  vs : w'.ownsRow w.heap.size 36 2 vv o.vs.length (flatV o.vs)
  bs : w'.ownsRow w.heap.size 5 1 vb o.bs.length (u8s o.bs)
  below : Below w.heap.size w w'
theorem three_row (W : World) (g t : Nat) (a0 a1 a2 b0 b1 b2 : Value) (h : W.heap[g]? = some (.cells #[a0, a1, a2] t (0, 0))) :
    (((W.setCell ⟨g, 0, none⟩ b0).setCell ⟨g, 1, none⟩ b1).setCell ⟨g, 2, none⟩ b2).heap[g]? = some (.cells #[b0, b1, b2] t (0, 0)) :=
  heap_setCell_same _ _ 2 _ _ _ (heap_setCell_same _ _ 1 _ _ _ (heap_setCell_same _ _ 0 _ _ _ h))
set_option maxHeartbeats 3200000 in
theorem copyOf_any (o : Ob) (q p : Option Addr) (n c d e : Nat) (w : World) (hov : Vls w q n o.vs) (hob : Bys w p d o.bs) (hn : n ≤ 100000) (hd : d ≤ 100000) :
    Calls Try.prog 34 #[.agg #[.int .i64 o.k, .slice q n c, .slice p d e]] w fun ex w' => ∃ vv vb, ex = .returned (.agg #[.int .i64 o.k, vv, vb]) ∧ Cpy w w' o vv vb := by
  have HB0 : Hid (Below w.heap.size w ((w.alloc (.cells #[.int .i64 o.k, .slice q n c, .slice p d e] 61)).alloc (.cells #[.int .i64 0, .slice none 0 0, .slice none 0 0] 61))) := Lib.hid (((Below.refl _ _).alloc (Nat.le_refl _) _).alloc (by simp) _)
  have hvl := hov.len
  have hbl := hob.len
  have hx1 : ((w.alloc (.cells #[.int .i64 o.k, .slice q n c, .slice p d e] 61)).alloc (.cells #[.int .i64 0, .slice none 0 0, .slice none 0 0] 61)).heap[w.heap.size]? = some (.cells #[.int .i64 o.k, .slice q n c, .slice p d e] 61 (0, 0)) := heap_alloc2_old w _ _
  have hx2 : ((w.alloc (.cells #[.int .i64 o.k, .slice q n c, .slice p d e] 61)).alloc (.cells #[.int .i64 0, .slice none 0 0, .slice none 0 0] 61)).heap[w.heap.size + 1]? = some (.cells #[.int .i64 0, .slice none 0 0, .slice none 0 0] 61 (0, 0)) := heap_alloc2_new w _ _
  have hsz : ((w.alloc (.cells #[.int .i64 o.k, .slice q n c, .slice p d e] 61)).alloc (.cells #[.int .i64 0, .slice none 0 0, .slice none 0 0] 61)).heap.size = w.heap.size + 2 := by simp
  have HOV := Lib.hid (hov.below HB0.out)
  have HOB := Lib.hid (hob.below HB0.out)
  have HX1 := Lib.hid hx1
  have HX2 := Lib.hid hx2
  have HSZ := Lib.hid hsz
  obtain ⟨k, HK⟩ : ∃ k, Hid (o.k = k) := ⟨_, Lib.hid rfl⟩
  rw [HK.out] at HB0 HOV HOB HX1 HX2 HSZ ⊢
  clear hov hob hx1 hx2 hsz
  have HV : Hid (∀ w1, Below ((w.alloc (.cells #[.int .i64 k, .slice q n c, .slice p d e] 61)).alloc (.cells #[.int .i64 0, .slice none 0 0, .slice none 0 0] 61)).heap.size ((w.alloc (.cells #[.int .i64 k, .slice q n c, .slice p d e] 61)).alloc (.cells #[.int .i64 0, .slice none 0 0, .slice none 0 0] 61)) w1 → Calls Try.prog 54 #[.slice q n c] w1 fun e w' => ∃ v, e = .returned v ∧ w'.ownsRow w1.heap.size 36 2 v n (flatV o.vs) ∧ Below w1.heap.size w1 w') := Lib.hid fun w1 hb => vclone_any q n c o.vs w1 hn (HOV.out.below hb)
  have HBC : Hid (∀ w1, Below ((w.alloc (.cells #[.int .i64 k, .slice q n c, .slice p d e] 61)).alloc (.cells #[.int .i64 0, .slice none 0 0, .slice none 0 0] 61)).heap.size ((w.alloc (.cells #[.int .i64 k, .slice q n c, .slice p d e] 61)).alloc (.cells #[.int .i64 0, .slice none 0 0, .slice none 0 0] 61)) w1 → Calls Try.prog 55 #[.slice p d e] w1 fun e w' => ∃ v, e = .returned v ∧ w'.ownsRow w1.heap.size 5 1 v d (u8s o.bs) ∧ Below w1.heap.size w1 w') := Lib.hid fun w1 hb => bclone_any p d e o.bs w1 hd (HOB.out.below hb)
  clear hn hd
  go_enter Try.func34, Try.ntmps34
  go_upto_region 1 with fail
  have hk : (o.k = k) := HK.out
  generalize hW : (w.alloc (.cells #[.int .i64 k, .slice q n c, .slice p d e] 61)).alloc (.cells #[.int .i64 0, .slice none 0 0, .slice none 0 0] 61) = W at *
  have HSW := HSZ.out
  have hgw : w.heap.size < W.heap.size := by omega
  have hgw1 : w.heap.size + 1 < W.heap.size := by omega
  have z0 := cell_of_row _ _ 0 _ _ _ HX1.out
  have z1 := cell_of_row _ _ 1 _ _ _ HX1.out
  have z2 := cell_of_row _ _ 2 _ _ _ HX1.out
  simp at z0 z1 z2
  have HALL : Hid (∀ u, Below W.heap.size W u → u.cell? ⟨w.heap.size, 0, none⟩ = some (.int .i64 k) ∧ u.cell? ⟨w.heap.size, 1, none⟩ = some (.slice q n c) ∧ u.cell? ⟨w.heap.size, 2, none⟩ = some (.slice p d e) ∧ u.heap[w.heap.size + 1]? = some (.cells #[.int .i64 0, .slice none 0 0, .slice none 0 0] 61 (0, 0))) := Lib.hid fun u hb => ⟨(hb.cell hgw).trans z0, (hb.cell hgw).trans z1, (hb.cell hgw).trans z2, (hb.block _ hgw1).trans HX2.out⟩
  clear hW hk
  go_region_held3 (fun u : World => u.cell? ⟨w.heap.size, 0, none⟩ = some (.int .i64 k) ∧ u.cell? ⟨w.heap.size, 1, none⟩ = some (.slice q n c) ∧ u.cell? ⟨w.heap.size, 2, none⟩ = some (.slice p d e)) ((first
        | with_reducible exact ⟨z0, z1, z2⟩
        | go_keep)) (first
      | (go_at_call 54
         with_reducible refine (HV.out _ ?hyp).mono ?_
         case hyp => first | exact (Below.refl _ _).drew | exact Below.refl _ _
         rintro ex wa ⟨va, rfl, hrA, hbA⟩
         obtain ⟨qa, ca, rfl⟩ := own_form hrA
         have hL : Below W.heap.size W wa := (Below.refl _ _).drew.trans hbA
         obtain ⟨z0, z1, z2, -⟩ := HALL.out _ hL)
      | (go_at_call 55
         with_reducible refine (HBC.out _ hL).mono ?_
         rintro ex wb ⟨vb, rfl, hrB, hbB⟩
         obtain ⟨qb, cb, rfl⟩ := own_form hrB
         have hrA := own_below hrA hbB
         have hL := hL.trans (hbB.mono hL.size)
         obtain ⟨z0, z1, z2, hx2⟩ := HALL.out _ hL
         have y0 := cell_of_row _ _ 0 _ _ _ hx2
         have y1 := cell_of_row _ _ 1 _ _ _ hx2
         have y2 := cell_of_row _ _ 2 _ _ _ hx2
         have f0 := frozen_of_row _ _ 0 _ _ hx2
         have f1 := frozen_of_row _ _ 1 _ _ hx2
         have f2 := frozen_of_row _ _ 2 _ _ hx2
         simp at y0 y1 y2))
  have hF := three_row wb (w.heap.size + 1) _ _ _ _ (.int .i64 k) (.slice qa n ca) (.slice qb d cb) hx2
  have HS : Hid (∀ b, b ≠ w.heap.size + 1 → (((wb.setCell ⟨w.heap.size + 1, 0, none⟩ (.int .i64 k)).setCell ⟨w.heap.size + 1, 1, none⟩ (.slice qa n ca)).setCell ⟨w.heap.size + 1, 2, none⟩ (.slice qb d cb)).heap[b]? = wb.heap[b]?) := Lib.hid fun b hb => by
    rw [Below.heap_setCell _ _ _ _ hb, Below.heap_setCell _ _ _ _ hb, Below.heap_setCell _ _ _ _ hb]
  have HBW : Hid (Below w.heap.size w (((wb.setCell ⟨w.heap.size + 1, 0, none⟩ (.int .i64 k)).setCell ⟨w.heap.size + 1, 1, none⟩ (.slice qa n ca)).setCell ⟨w.heap.size + 1, 2, none⟩ (.slice qb d cb))) :=
    Lib.hid ((((HB0.out.trans (hL.mono (by omega))).setCell (by show w.heap.size ≤ w.heap.size + 1; omega) _).setCell (by show w.heap.size ≤ w.heap.size + 1; omega) _).setCell (by show w.heap.size ≤ w.heap.size + 1; omega) _)
  have HRA : Hid (∀ b, (Value.slice qa n ca).ownBlock = some b → w.heap.size + 2 ≤ b) := Lib.hid fun b hb => by have : W.heap.size ≤ b := own_ge hrA hb; omega
  have HRB : Hid (∀ b, (Value.slice qb d cb).ownBlock = some b → w.heap.size + 2 ≤ b) := Lib.hid fun b hb => by have h1 : wa.heap.size ≤ b := own_ge hrB hb; have h2 : W.heap.size ≤ wa.heap.size := hbA.size; omega
  have HC : Hid (Cpy w (((wb.setCell ⟨w.heap.size + 1, 0, none⟩ (.int .i64 k)).setCell ⟨w.heap.size + 1, 1, none⟩ (.slice qa n ca)).setCell ⟨w.heap.size + 1, 2, none⟩ (.slice qb d cb)) o (.slice qa n ca) (.slice qb d cb)) := Lib.hid
    ⟨by rw [hvl]; exact own_low (own_other hrA fun b hb => HS.out b (by have := HRA.out b hb; omega)) (by show w.heap.size ≤ W.heap.size; omega),
     by rw [hbl]; exact own_low (own_other hrB fun b hb => HS.out b (by have := HRB.out b hb; omega)) (by have : W.heap.size ≤ wa.heap.size := hbA.size; omega), HBW.out⟩
  generalize ((wb.setCell ⟨w.heap.size + 1, 0, none⟩ (.int .i64 k)).setCell ⟨w.heap.size + 1, 1, none⟩ (.slice qa n ca)).setCell ⟨w.heap.size + 1, 2, none⟩ (.slice qb d cb) = V at *
  have v0 := cell_of_row _ _ 0 _ _ _ hF
  have v1 := cell_of_row _ _ 1 _ _ _ hF
  have v2 := cell_of_row _ _ 2 _ _ _ hF
  simp at v0 v1 v2
  clear HS HBW HRA HRB hF
  go_wp2_with fail
  exact bodyPost_ret (v := .agg #[.int .i64 k, .slice qa n ca, .slice qb d cb]) (by simp [results, Try.results34, go_sem, v0, v1, v2]) rfl ⟨_, _, rfl, HC.out⟩
end Go.Proofs.Ytekmboolfjicbaa
