/- slices.Clone of parts; Turn. -/
import Derived.Test.YtpdihgmgcamgkaaLinks
import Derived.Shelf.Abstract
import Derived.Deep.RegionHeld3
set_option linter.unusedSimpArgs false
set_option maxRecDepth 20000
namespace Go.Proofs.Ytpdihgmgcamgkaa
open Go.RowKit Go.Shelf

theorem Pts.row {w : World} {b o n : Nat} {l : List Pt} (h : Pts w (some ⟨b, o, none⟩) n l) : ∀ j u, (pflat l)[j]? = some u → w.cell? ((⟨b, o, none⟩ : Addr).add j) = some u := by
  intro j u hj
  have hlt : j < l.length * 3 := by rw [← pflat_len]; exact (List.getElem?_eq_some_iff.1 hj).1
  obtain ⟨b', o', e, hc⟩ := h.2 (by rw [← h.1]; omega)
  cases e
  have hi := hc (j / 3) (by rw [← h.1]; omega)
  obtain ⟨g0, g1, g2⟩ := pflat_get l (j / 3) (by omega)
  rw [Go.WideShapes.add_plain]
  rcases (show j % 3 = 0 ∨ j % 3 = 1 ∨ j % 3 = 2 by omega) with e | e | e
  · rw [show j = j / 3 * 3 by omega] at hj ⊢
    rw [g0] at hj; cases hj; exact hi.c0
  · have e2 : j = j / 3 * 3 + 1 := by omega
    rw [e2] at hj ⊢
    rw [g1] at hj; cases hj
    rw [← Nat.add_assoc]; exact hi.c1
  · have e2 : j = j / 3 * 3 + 2 := by omega
    rw [e2] at hj ⊢
    rw [g2] at hj; cases hj
    rw [← Nat.add_assoc]; exact hi.c2
set_option maxHeartbeats 800000 in
theorem pclone_any (q : Option Addr) (n c : Nat) (l : List Pt) (w : World) (hn : n ≤ 1000) (hp : Pts w q n l) :
    Calls Try.prog 40 #[.slice q n c] w fun e w' => ∃ v, e = .returned v ∧ w'.ownsRow w.heap.size 54 3 v n (pflat l) ∧ Below w.heap.size w w' := by
  have hnil := Lib.run_eql_slice_nil (P := Try.prog) w 31 54 q n c 0 0 Try.underlying31
  cases q with
  | none =>
    have h0 : n = 0 := by
      rcases Nat.eq_zero_or_pos n with h | h
      · exact h
      · obtain ⟨_, _, e, _⟩ := hp.2 h; cases e
    subst h0
    obtain rfl := List.length_eq_zero_iff.1 hp.1
    go_enter Try.func40, Try.ntmps40
    go_wp2_with fail
    go_ret
    exact ⟨_, rfl, World.ownsRow_nil _ _ _ _, Below.refl _ _⟩
  | some a =>
    obtain ⟨i0, hi, hz0, hzs, hzb⟩ := info_parts Try.infoPT
    have HI := Lib.hid hi
    have HZ0 := Lib.hid hz0
    have HZ1 := Lib.hid hzs
    have HZ2 := Lib.hid hzb
    have HROW : Hid ((w.alloc (.cells #[] 54)).ownsRow w.heap.size 54 3 (.slice (some ⟨w.heap.size, 0, none⟩) 0 0) 0 []) := Lib.hid
      ⟨rfl, .inr ⟨w.heap.size, 0, #[], rfl, Nat.le_refl _, heap_alloc_new w _, Nat.le_refl _, by unfold maxLen; omega, rfl, rfl⟩⟩
    have HB1 : Hid (Below w.heap.size w (w.alloc (.cells #[] 54))) := Lib.hid ((Below.refl _ _).alloc (Nat.le_refl _) _)
    have HCE : Hid (∀ j u, (pflat l)[j]? = some u → (w.alloc (.cells #[] 54)).cell? (a.add j) = some u) := Lib.hid (by
      intro j u hj
      have hlt : j < l.length * 3 := by rw [← pflat_len]; exact (List.getElem?_eq_some_iff.1 hj).1
      obtain ⟨b, o, e, _⟩ := hp.2 (by rw [← hp.1]; omega)
      cases e
      exact (hp.below ((Below.refl _ _).alloc (Nat.le_refl _) _)).row j u hj)
    have HLN : Hid ((pflat l).length = n * 3) := Lib.hid (by rw [pflat_len, hp.1])
    have HONE := Lib.hid (pflat_one_cell l)
    clear hi hz0 hzs hzb hp
    go_enter Try.func40, Try.ntmps40
    go_wp2_with (at_builtin; refine wpList_append_own _ rfl (.tmp 5) (.tmp 6) 31 rfl w.heap.size 54 i0 (.agg #[.int .i64 0, .int .i64 0, .string ⟨#[]⟩]) 3 32 Try.underlying31 HI.out HZ0.out HZ1.out HZ2.out rfl (by decide) (.slice (some ⟨w.heap.size, 0, none⟩) 0 0) 0 [] (by rfl) HROW.out a n c (pflat l) (by rfl) HLN.out HCE.out HONE.out (by unfold maxLen; omega) (by omega) HB1.out.size ?_; intro v' w2 hown hgrow _)
    have HV : Hid (w2.ownsRow w.heap.size 54 3 v' n (pflat l)) := Lib.hid (by rw [Nat.zero_add, List.nil_append] at hown; exact hown)
    have HB2 := Lib.hid (HB1.out.grown hgrow HB1.out.size (fun j e => (HROW.out.lt j e).1))
    clear hown hgrow
    go_wp2_with fail
    go_ret
    exact ⟨v', rfl, HV.out, HB2.out⟩
/-- The law's function: a number turned. -/
def xorM (n by_ : Int) : Int := bits .xor .i64 n by_
set_option maxHeartbeats 400000 in
theorem turn1_any (n by_ : Int) (B : Nat) (w : World) (hB : w.cell? ⟨B, 0, none⟩ = some (.int .i64 by_)) :
    Calls Try.prog 19 #[.int .i64 n, .pointer (some ⟨B, 0, none⟩)] w fun e w' => e = .returned (.int .i64 (xorM n by_)) ∧ w = w' := by
  unfold xorM
  go_enter Try.func19, Try.ntmps19
  go_wp2_with fail
  go_ret
  exact ⟨rfl, rfl⟩
def turnP (by_ : Int) (p : Pt) : Pt := if p.k = 8 then { p with n := xorM p.n by_ } else p
/-- Turned up to a place. -/
def turnL (by_ : Int) (l : List Pt) (i : Nat) : List Pt := (l.take i).map (turnP by_) ++ l.drop i
theorem turnL_len (b : Int) (l : List Pt) (i : Nat) : (turnL b l i).length = l.length := by unfold turnL; rw [List.length_append, List.length_map, List.length_take, List.length_drop]; omega
theorem turnL_get (b : Int) (l : List Pt) (i : Nat) (h : i < l.length) : (turnL b l i).getD i default = l.getD i default := by
  unfold turnL
  rw [List.getD_eq_getElem?_getD, List.getElem?_append_right (by rw [List.length_map, List.length_take]; omega), List.length_map, List.length_take, Nat.min_eq_left (by omega), Nat.sub_self, List.getElem?_drop, Nat.add_zero, ← List.getD_eq_getElem?_getD]
theorem turnL_next (b : Int) (l : List Pt) (i : Nat) (h : i < l.length) : turnL b l (i + 1) = (turnL b l i).set i (turnP b (l.getD i default)) := by
  unfold turnL
  rw [take_pt l i h, List.map_append, List.set_append_right _ _ (by rw [List.length_map, List.length_take]; omega), List.length_map, List.length_take, Nat.min_eq_left (by omega), Nat.sub_self, List.drop_eq_getElem_cons h, List.set_cons_zero, List.append_assoc]
  rfl
theorem turnL_same (b : Int) (l : List Pt) (i : Nat) (h : i < l.length) (hk : (l.getD i default).k ≠ 8) : turnL b l (i + 1) = turnL b l i := by
  rw [turnL_next b l i h]
  apply List.ext_getElem (by simp)
  intro j h1 h2
  by_cases hj : j = i
  · subst hj
    have := turnL_get b l j h
    rw [List.getD_eq_getElem?_getD, List.getElem?_eq_getElem h2] at this
    simp only [Option.getD_some] at this
    rw [List.getElem_set_self]
    unfold turnP
    rw [if_neg hk, this]
  · rw [List.getElem_set_ne (Ne.symm hj)]
theorem turnL_all (b : Int) (l : List Pt) : turnL b l l.length = l.map (turnP b) := by unfold turnL; rw [List.take_length, List.drop_length, List.append_nil]
theorem set_at_d {V : World} {g g2 i j : Nat} {v : Value} (h : g2 ≠ g) : (V.setCell ⟨g, j, none⟩ v).drew.cell? ⟨g2, i, none⟩ = V.cell? ⟨g2, i, none⟩ := set_other _ _ _ _ _ h
structure TuR (w wr : World) (k : Int) (S : ByteArray) (v : Value) (n : Nat) (L : List Pt) : Prop where
  below : Below w.heap.size w wr
  x2 : wr.heap[w.heap.size]? = some (.cells #[.int .i64 k, v, .string S] 33 (0, 0))
  x4 : wr.heap[w.heap.size + 1]? = some (.cells #[.int .i64 0, .slice none 0 0, .string ⟨#[]⟩] 33 (0, 0))
  row : wr.ownsRow (w.heap.size + 2) 54 3 v n (pflat L)
theorem TuR.step {w wr w3 : World} {k : Int} {S : ByteArray} {v : Value} {n : Nat} {L : List Pt} (h : TuR w wr k S v n L) (hb : Below wr.heap.size wr w3) : TuR w w3 k S v n L :=
  ⟨h.below.trans (hb.mono h.below.size), (hb.block _ (lt_of_block h.x2)).trans h.x2, (hb.block _ (lt_of_block h.x4)).trans h.x4, own_below h.row hb⟩
theorem TuR.drew {w wr : World} {k : Int} {S : ByteArray} {v : Value} {n : Nat} {L : List Pt} (h : TuR w wr k S v n L) : TuR w wr.drew k S v n L := ⟨h.below.drew, h.x2, h.x4, own_other h.row (fun _ _ => rfl)⟩
theorem TuR.set_ {w wr : World} {k x : Int} {S : ByteArray} {g n c : Nat} {L : List Pt} (h : TuR w wr k S (.slice (some ⟨g, 0, none⟩) n c) n L) (i : Nat) (hi : i < L.length) :
    TuR w (wr.setCell ⟨g, i * 3 + 1, none⟩ (.int .i64 x)) k S (.slice (some ⟨g, 0, none⟩) n c) n (L.set i { L.getD i default with n := x }) := by
  have hg := (h.row.lt g rfl).1
  obtain ⟨h1, h2⟩ := h.row.stored (i * 3 + 1) (.int .i64 x)
  refine ⟨h.below.setCell (by show w.heap.size ≤ g; omega) _, (Below.heap_setCell _ _ _ _ (by show w.heap.size ≠ g; omega)).trans h.x2, (Below.heap_setCell _ _ _ _ (by show w.heap.size + 1 ≠ g; omega)).trans h.x4, ?_⟩
  rw [← pflat_set_n L i x hi]
  exact h1
set_option maxHeartbeats 3200000 in
theorem turn_any (r : Rc) (q : Option Addr) (c : Nat) (by_ : Int) (B : Nat) (w : World) (hn : r.parts.length ≤ 1000) (hp : Pts w q r.parts.length r.parts) (hB : w.cell? ⟨B, 0, none⟩ = some (.int .i64 by_)) :
    Calls Try.prog 18 #[r.val q c, .func (.func 19) #[] #[.pointer (some ⟨B, 0, none⟩)]] w fun e w' => RecR w w' e ⟨r.kind, r.parts.map (turnP by_), r.bytes⟩ := by
  have HP := Lib.hid hp
  have HBC := Lib.hid hB
  have HBL := Lib.hid (World.block_lt_of_cell? w _ hB)
  have eg : ∀ args w, (callFunc 19 args).run Try.prog w = .ok (.enter 19 args) w := enters_of Try.func19 (by kernel_rfl) rfl
  clear hp hB
  obtain ⟨k, l, S⟩ := r
  unfold RecR Rc.val
  simp only [List.length_map] at HP hn ⊢
  obtain ⟨n, HN⟩ : ∃ n, Hid (l.length = n) := ⟨_, Lib.hid rfl⟩
  rw [HN.out] at HP hn ⊢
  go_enter Try.func18, Try.ntmps18
  go_upto_region 1 with fail
  have hx2 : ((w.alloc (.cells #[.int .i64 k, .slice q n c, .string S] 33)).alloc (.cells #[.int .i64 0, .slice none 0 0, .string ⟨#[]⟩] 33)).heap[w.heap.size]? = some (.cells #[.int .i64 k, .slice q n c, .string S] 33 (0, 0)) := (Below.heap_alloc _ _ _ (by simp)).trans (heap_alloc_new w _)
  have hx4 : ((w.alloc (.cells #[.int .i64 k, .slice q n c, .string S] 33)).alloc (.cells #[.int .i64 0, .slice none 0 0, .string ⟨#[]⟩] 33)).heap[w.heap.size + 1]? = some (.cells #[.int .i64 0, .slice none 0 0, .string ⟨#[]⟩] 33 (0, 0)) := by
    have := heap_alloc_new (w.alloc (.cells #[.int .i64 k, .slice q n c, .string S] 33)) (.cells #[.int .i64 0, .slice none 0 0, .string ⟨#[]⟩] 33)
    simpa using this
  have hb0 : Below w.heap.size w ((w.alloc (.cells #[.int .i64 k, .slice q n c, .string S] 33)).alloc (.cells #[.int .i64 0, .slice none 0 0, .string ⟨#[]⟩] 33)) := ((Below.refl _ _).alloc (Nat.le_refl _) _).alloc (by simp) _
  generalize ((w.alloc (.cells #[.int .i64 k, .slice q n c, .string S] 33)).alloc (.cells #[.int .i64 0, .slice none 0 0, .string ⟨#[]⟩] 33)) = W at *
  have c1 := cell_of_row _ _ 1 _ _ _ hx2
  simp at c1
  have HX2 := Lib.hid hx2
  have HX4 := Lib.hid hx4
  have HB0 := Lib.hid hb0
  clear hx2 hx4 hb0
  go_wp2_with fail
  refine (pclone_any q n c l _ hn (HP.out.below HB0.out)).mono ?_
  rintro e w1 ⟨v, rfl, hown, hb1⟩
  have hx2' := (hb1.block _ (lt_of_block HX2.out)).trans HX2.out
  have c1' := cell_of_row _ _ 1 _ _ _ hx2'
  have f1' := frozen_of_row _ _ 1 _ _ hx2'
  simp at c1'
  obtain ⟨qv, cv, hv⟩ := own_form hown
  subst hv
  have HM0 : Hid (TuR w (w1.setCell ⟨w.heap.size, 1, none⟩ (.slice qv n cv)) k S (.slice qv n cv) n (turnL by_ l 0)) := Lib.hid (by
    have l4 := lt_of_block HX4.out
    refine ⟨(HB0.out.trans (hb1.mono HB0.out.size)).setCell (Nat.le_refl _) _, heap_setCell_same _ _ 1 _ _ _ hx2', (Below.heap_setCell _ _ _ _ (by show w.heap.size + 1 ≠ w.heap.size; omega)).trans ((hb1.block _ l4).trans HX4.out), ?_⟩
    have hlow : w1.ownsRow (w.heap.size + 2) 54 3 (.slice qv n cv) n (pflat l) := by
      refine ⟨hown.1, ?_⟩
      rcases hown.2 with h | ⟨g, cap, cur, e, hb, hr⟩
      · exact .inl h
      · exact .inr ⟨g, cap, cur, e, by omega, hr⟩
    show (w1.setCell _ _).ownsRow _ _ _ _ _ (pflat (turnL by_ l 0))
    rw [show turnL by_ l 0 = l from rfl]
    exact own_other hlow (fun g hg => Below.heap_setCell _ _ _ _ (by have := (hlow.lt g hg).1; show g ≠ w.heap.size; omega)))
  clear hown hb1 hx2'
  go_upto_region 2 with fail
  generalize w1.setCell ⟨w.heap.size, 1, none⟩ (.slice qv n cv) = w2 at HM0 ⊢
  clear c1' f1' c1
  have c2 := cell_of_row _ _ 1 _ _ _ HM0.out.x2
  simp at c2
  go_wp2_with fail
  go_loopw [5, 6, 14] (fun _ _ iv wr => ∃ i : Nat, i ≤ n ∧ iv = .int .i64 (i : Int) ∧ Hid (TuR w wr k S (.slice qv n cv) n (turnL by_ l i))) (fun _ _ iv _ => n - (intOf iv).toNat)
  case atStart => exact ⟨0, by omega, by go_num, HM0⟩
  case round =>
    obtain ⟨i, hi, rfl, HM⟩ := hrel
    by_cases hlt : i < n
    · have hil : i < l.length := by rw [HN.out]; exact hlt
      have hrow := Pts.own HM.out.row
      obtain ⟨g, o, e, hc⟩ := hrow.2 (by omega)
      subst e
      have ho : o = 0 := by
        rcases HM.out.row.2 with ⟨h, _⟩ | ⟨g', cap, cur, e, _⟩
        · cases h
        · cases e; rfl
      subst ho
      obtain ⟨p0, p1, p2⟩ := hc i hlt
      rw [turnL_get by_ l i hil] at p0 p1 p2
      rw [Nat.zero_add] at p0 p1 p2
      have HTS := Lib.hid (turnL_same by_ l i hil)
      have HTN := Lib.hid (turnL_next by_ l i hil)
      have HGT := Lib.hid (turnL_get by_ l i hil)
      have HTL := Lib.hid (turnL_len by_ l i)
      obtain ⟨p, HPP⟩ : ∃ p, Hid (l.getD i default = p) := ⟨_, Lib.hid rfl⟩
      rw [HPP.out] at p0 p1 p2 HTS HTN HGT
      obtain ⟨pk, pn, ps⟩ := p
      have hd1 : decide ((i : Int) < (n : Int)) = true := by simp; omega
      have HMa := Lib.hid (HM.out.step ((Below.refl _ _).alloc (Nat.le_refl _) (.cells #[.int .i64 pk, .int .i64 pn, .string ps] 54)))
      have hzero : (0 : Nat) + i * 3 = i * 3 := Nat.zero_add _
      clear hc hrow
      by_cases h8 : pk = 8
      · subst h8
        have hxp : (wr.alloc (.cells #[.int .i64 8, .int .i64 pn, .string ps] 54)).heap[wr.heap.size]? = some (.cells #[.int .i64 8, .int .i64 pn, .string ps] 54 (0, 0)) := heap_alloc_new wr _
        have hHB : (wr.alloc (.cells #[.int .i64 8, .int .i64 pn, .string ps] 54)).cell? ⟨B, 0, none⟩ = some (.int .i64 by_) := (HMa.out.below.cell HBL.out).trans HBC.out
        go_upto_region 6 with fail
        generalize wr.alloc (.cells #[.int .i64 8, .int .i64 pn, .string ps] 54) = w3 at *
        have c3 := cell_of_row _ _ 1 _ _ _ HMa.out.x2
        have c6 := cell_of_row _ _ 1 _ _ _ hxp
        have cg := (HMa.out.row.cellAt (i * 3 + 1) (by omega)).trans ((pflat_get _ i (by rw [HTL.out]; exact hil)).2.1)
        have fg := HMa.out.row.frozenAt (i * 3 + 1)
        simp at c3 c6
        have q1 : w.heap.size ≠ g := by have := (HMa.out.row.lt g rfl).1; omega
        have q2 : wr.heap.size ≠ g := by have := (HM.out.row.lt g rfl).2; omega
        have q3 : B ≠ g := by have := (HMa.out.row.lt g rfl).1; have := HBL.out; omega
        have hT1 := Lib.hid (fun u h => turn1_any pn by_ B u h)
        go_region_held3 (fun u : World => u.cell? ⟨w.heap.size, 1, none⟩ = some (.slice (some ⟨g, 0, none⟩) n cv) ∧ u.cell? ⟨wr.heap.size, 1, none⟩ = some (.int .i64 pn) ∧ u.cell? ⟨B, 0, none⟩ = some (.int .i64 by_)) ((first
            | with_reducible exact ⟨(set_at_d q1).trans c3, (set_at_d q2).trans c6, (set_at_d q3).trans hHB⟩
            | with_reducible exact ⟨(set_at q1).trans c3, (set_at q2).trans c6, (set_at q3).trans hHB⟩
            | go_keep)) ((first
          | (go_at_fn 19; refine (hT1.out _ (by assumption)).mono ?_; rintro e w5 ⟨rfl, rfl⟩)))
        all_goals
          have HEQ : Hid (turnL by_ l (i + 1) = (turnL by_ l i).set i { (turnL by_ l i).getD i default with n := xorM pn by_ }) := Lib.hid (by rw [HTN.out, HGT.out]; rfl)
          have HMN : Hid (TuR w (w3.setCell ⟨g, i * 3 + 1, none⟩ (.int .i64 (xorM pn by_))) k S (.slice (some ⟨g, 0, none⟩) n cv) n (turnL by_ l (i + 1))) := Lib.hid (by rw [HEQ.out]; exact HMa.out.set_ i (by rw [HTL.out]; exact hil))
          clear c3 c6 cg fg q1 q2 q3
          go_wp2_with fail
          go_roundw
          case rel => exact ⟨i + 1, by omega, by go_num, by first | exact HMN | exact Lib.hid HMN.out.drew⟩
          case measure => simp [intOf]; omega
      · have hb : (pk == 8) = false := beq_eq_false_iff_ne.2 h8
        have HEQ := Lib.hid (HTS.out h8)
        clear h8
        go_wp2_with fail
        go_roundw
        case rel => exact ⟨i + 1, by omega, by go_num, by rw [HEQ.out]; exact HMa⟩
        case measure => simp [intOf]; omega
    · obtain rfl : i = n := by omega
      obtain ⟨hbl, hx2, hx4, hrow⟩ := HM.out
      rw [← HN.out, turnL_all] at hrow
      have HS := heap_setCell_same _ _ 2 _ _ (.string S) (heap_setCell_same _ _ 1 _ _ (.slice qv l.length cv) (heap_setCell_same _ _ 0 _ _ (.int .i64 k) hx4))
      have g0 := cell_of_row _ _ 0 _ _ _ hx4
      have g1 := cell_of_row _ _ 1 _ _ _ hx4
      have g2 := cell_of_row _ _ 2 _ _ _ hx4
      have f0 := frozen_of_row _ _ 0 _ _ hx4
      have f1 := frozen_of_row _ _ 1 _ _ hx4
      have f2 := frozen_of_row _ _ 2 _ _ hx4
      have e0 := cell_of_row _ _ 0 _ _ _ hx2
      have e1 := cell_of_row _ _ 1 _ _ _ hx2
      have e2 := cell_of_row _ _ 2 _ _ _ hx2
      simp at g0 g1 g2 e0 e1 e2
      have HSH := Lib.hid HS
      have HRW : Hid (Pts (((wr.setCell ⟨w.heap.size + 1, 0, none⟩ (.int .i64 k)).setCell ⟨w.heap.size + 1, 1, none⟩ (.slice qv l.length cv)).setCell ⟨w.heap.size + 1, 2, none⟩ (.string S)) qv l.length (l.map (turnP by_))) := Lib.hid (Pts.own (own_other hrow (fun b e => by
        have := (hrow.lt b e).1
        rw [Below.heap_setCell _ _ _ _ (by show b ≠ w.heap.size + 1; omega), Below.heap_setCell _ _ _ _ (by show b ≠ w.heap.size + 1; omega), Below.heap_setCell _ _ _ _ (by show b ≠ w.heap.size + 1; omega)])))
      have HBW : Hid (Below w.heap.size w (((wr.setCell ⟨w.heap.size + 1, 0, none⟩ (.int .i64 k)).setCell ⟨w.heap.size + 1, 1, none⟩ (.slice qv l.length cv)).setCell ⟨w.heap.size + 1, 2, none⟩ (.string S))) :=
        Lib.hid (((hbl.setCell (by show w.heap.size ≤ w.heap.size + 1; omega) _).setCell (by show w.heap.size ≤ w.heap.size + 1; omega) _).setCell (by show w.heap.size ≤ w.heap.size + 1; omega) _)
      rw [HN.out] at HSH HRW HBW
      clear hx2 hx4 hbl hrow HS g1
      have g1 := cell_of_row _ _ 1 _ _ _ HM.out.x4
      simp at g1
      go_wp2_with fail
      have z0 := cell_of_row _ _ 0 _ _ _ HSH.out
      have z1 := cell_of_row _ _ 1 _ _ _ HSH.out
      have z2 := cell_of_row _ _ 2 _ _ _ HSH.out
      simp at z0 z1 z2
      exact bodyPost_ret (v := .agg #[.int .i64 k, .slice qv i cv, .string S]) (by simp [results, Try.results18, go_sem, z0, z1, z2]) rfl ⟨qv, cv, rfl, HRW.out, HBW.out⟩
end Go.Proofs.Ytpdihgmgcamgkaa
