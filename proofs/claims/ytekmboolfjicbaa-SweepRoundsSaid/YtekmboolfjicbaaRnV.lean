/- Rounds of (Int × Int): what is found, its place, how many there are. -/
import Derived.Test.YtekmboolfjicbaaRnd
import Derived.Defers
import Derived.Recover
import Derived.Deep.AppendLies
import Derived.Deep.Cut
import Derived.Deep.RegionHeld3
import Derived.BigQuiet
import Derived.Deep.QuietTactic
import Derived.BigRegion
set_option maxRecDepth 20000
set_option linter.unusedSimpArgs false
namespace Go.Proofs.Ytekmboolfjicbaa
open Go.RowKit

abbrev RnV (w : World) (g : Nat) (ty : TypeId) (rest : List Value) (vt mv : Value) (T : List (Int × Int)) : Prop := Rnd 36 2 36 (fun v : Int × Int => I64 v.1 ∧ I64 v.2) valV (fun x : Int × Int => [Value.int .i64 x.1, Value.int .i64 x.2]) w g ty rest vt mv T
theorem info_rnV : (Try.prog.info? 36).map (fun i => (i.zero, i.size, i.bytes)) = some (some (.agg #[.int .i64 0, .int .i64 0]), 2, 16) := by kernel_rfl
theorem rnV_idle (w : World) : CallsD Try.prog 66 #[] .returning w fun e u' w' => e = .returned (.tuple #[]) ∧ u' = .returning ∧ w' = w := by
  refine callsD_of_wpS Try.func66 rfl fun c₀ cs hu => ?_
  apply wpS_region
  cases c₀
  simp_all [wpOpsS, go_sem, recoverD, Try.ntmps66, bodyPostS, results, Try.results66]
theorem rnV_find {w : World} {g : Nat} {ty : TypeId} {rest : List Value} {vt mv : Value} {T : List (Int × Int)} (h : RnV w g ty rest vt mv T) (a b : Int) (hx : I64 a ∧ I64 b) :
    Calls Try.prog 57 #[.pointer (some ⟨g, 0, none⟩), .agg #[.int .i64 a, .int .i64 b]] w fun e w' => e = .returned (.tuple #[.int .i64 (((posF T (a, b)).getD 0 : Nat) : Int), .bool (hasK T (a, b)), .bool true]) ∧ Below w.heap.size w w' := by
  have hba := alloc_below w (.cells #[.int .i64 a, .int .i64 b] 36)
  have h1 := h.below hba
  have HL : Hid (∀ W : World, W.heap = (w.alloc (.cells #[.int .i64 a, .int .i64 b] 36)).heap → (Instr.lookup 78 mv (.agg #[.int .i64 a, .int .i64 b]) true).run Try.prog W = .ok (.tuple #[.int .i64 (((posF T (a, b)).getD 0 : Nat) : Int), .bool (hasK T (a, b))]) W) := Lib.hid fun W hW => (h1.keep (w' := W) fun b _ => by rw [hW]).look keyT_val (a, b) hx
  have c1 := h1.c1
  have x0 : (w.alloc (.cells #[.int .i64 a, .int .i64 b] 36)).cell? ⟨w.heap.size, 0, none⟩ = some (.int .i64 a) := by rw [cell_of_row _ _ 0 _ _ _ (heap_alloc_new w _)]; rfl
  have x1 : (w.alloc (.cells #[.int .i64 a, .int .i64 b] 36)).cell? ⟨w.heap.size, 1, none⟩ = some (.int .i64 b) := by rw [cell_of_row _ _ 1 _ _ _ (heap_alloc_new w _)]; rfl
  obtain ⟨mb, e⟩ := h.map.form
  subst e
  generalize (posF T (a, b)).getD 0 = p at *
  generalize hasK T (a, b) = bb at *
  have HB := Lib.hid hba
  clear h h1 hba
  go_enter_defers Try.func57, Try.ntmps57
  go_wp2_with fail
  have hl := HL.out (w.alloc (.cells #[.int .i64 a, .int .i64 b] 36)).drew rfl
  go_region
  go_wp2_with fail
  refine leaves_cons (f := 66) (args := #[]) (by simp) (by simp [go_sem]) ?_
  refine (rnV_idle _).mono ?_
  rintro e u' w'' ⟨rfl, rfl, rfl⟩
  have HF : Below w.heap.size w (w.alloc (.cells #[.int .i64 a, .int .i64 b] 36)).drew := HB.out.drew
  simp [Leaves, settle, results, Try.results57, go_sem]
  exact HF
section
variable {w : World} {g : Nat} {ty : TypeId} {rest : List Value} {vt mv : Value} {T : List (Int × Int)}
theorem nilV (w : World) : (binOp .eql 78 (.map none) (.map none)).run Try.prog w = .ok (.bool true) w := by kernel_rfl
theorem someV (b : Nat) (w : World) : (binOp .eql 78 (.map (some b)) (.map none)).run Try.prog w = .ok (.bool false) w := by kernel_rfl
/-- What See leaves. -/
def SeeV (w w' : World) (g : Nat) (ty : TypeId) (rest : List Value) (vt mv : Value) (T : List (Int × Int)) (x : Int × Int) : Prop := ∃ vt' mv', RnV w' g ty rest vt' mv' (addK T x) ∧ Chp (footR g vt mv) (footR g vt' mv') w w' ∧ (mv = .map none ∨ mv' = mv)
theorem rnV_place (h : RnV w g ty rest vt mv T) (a b : Int) (hx : I64 a ∧ I64 b) :
    Calls Try.prog 36 #[.pointer (some ⟨g, 0, none⟩), .agg #[.int .i64 a, .int .i64 b]] w fun e w' => e = .returned (.tuple #[.int .i64 (((posF T (a, b)).getD 0 : Nat) : Int), .bool (hasK T (a, b))]) ∧ Below w.heap.size w w' := by
  have hba := alloc_below w (.cells #[.int .i64 a, .int .i64 b] 36)
  have HF := Lib.hid (rnV_find (h.below hba) a b hx)
  have HB := Lib.hid hba
  generalize (posF T (a, b)).getD 0 = p at *
  generalize hasK T (a, b) = bb at *
  clear h hba
  go_enter Try.func36, Try.ntmps36
  go_wp2_with (go_at_call 57; with_reducible refine HF.out.mono ?_; rintro e w1 ⟨rfl, hb1⟩)
  go_ret2
  exact ⟨rfl, HB.out.trans (hb1.mono HB.out.size)⟩
set_option maxHeartbeats 1600000 in
theorem rnV_see (h : RnV w g ty rest vt mv T) (hE : ty ≠ 36) (hT : T.length ≤ 100000) (a b : Int) (hx : I64 a ∧ I64 b) :
    Calls Try.prog 60 #[.pointer (some ⟨g, 0, none⟩), .agg #[.int .i64 a, .int .i64 b]] w fun e w' => e = .returned (.bool (!hasK T (a, b))) ∧ SeeV w w' g ty rest vt mv T (a, b) := by
  have hba := alloc_below w (.cells #[.int .i64 a, .int .i64 b] 36)
  have HBA := Lib.hid hba
  have HF := Lib.hid (rnV_find (h.below hba) a b hx)
  by_cases hm : (a, b) ∈ T
  · have HS : Hid (∀ w1, Below w.heap.size w w1 → SeeV w w1 g ty rest vt mv T (a, b)) := Lib.hid fun w1 hb => ⟨vt, mv, by rw [addK_yes hm]; exact h.below hb, Chp.of_below hb, .inr rfl⟩
    have hb : hasK T (a, b) = true := hasK_yes hm
    rw [hb] at HF ⊢
    generalize (posF T (a, b)).getD 0 = p at *
    clear h hm hb hba
    go_enter Try.func60, Try.ntmps60
    go_wp2_with (go_at_call 57; with_reducible refine HF.out.mono ?_; rintro e w1 ⟨rfl, hb1⟩)
    go_ret
    exact ⟨rfl, HS.out _ (HBA.out.trans (hb1.mono HBA.out.size))⟩
  · have hb : hasK T (a, b) = false := hasK_no hm
    rw [hb] at HF ⊢
    obtain ⟨q, cp, e⟩ := h.form
    subst e
    obtain ⟨i0, hi0, hz0, hz1, hz2⟩ := info_parts info_rnV
    have HI0 := Lib.hid hi0
    have HZ0 := Lib.hid hz0
    have HZ1 := Lib.hid hz1
    have HZ2 := Lib.hid hz2
    have HT := Lib.hid hT
    have HH := Lib.hid h
    have HMP := Lib.hid h.map
    clear hi0 hz0 hz1 hz2 hb h hba
    generalize (posF T (a, b)).getD 0 = p at *
    have HGO : Hid (∀ w1, Below w.heap.size w w1 → ∀ (w2 : World) (mb : Nat), (mv = .map none ∨ .map (some mb) = mv) → Chp (footR g (.slice q T.length cp) mv) (fun b => footR g (.slice q T.length cp) mv b ∨ b = mb) w1 w2 → w2.heap[g]? = some (.cells ((.slice q T.length cp) :: .map (some mb) :: rest).toArray ty (0, 0)) → w2.ownsRow 0 36 2 (.slice q T.length cp) T.length (T.flatMap (fun x : Int × Int => [Value.int .i64 x.1, Value.int .i64 x.2])) → KMap 36 (fun v : Int × Int => I64 v.1 ∧ I64 v.2) valV w2 mb (T.length + 1) (putF (posF T) (a, b) T.length) →
        ∀ w3 gN cap, w3.ownsRow 0 36 2 (.slice (some ⟨gN, 0, none⟩) (T.length + 1) cap) (T.length + 1) (T.flatMap (fun x : Int × Int => [Value.int .i64 x.1, Value.int .i64 x.2]) ++ [.int .i64 a, .int .i64 b]) → ((w2.alloc (.cells #[.int .i64 a, .int .i64 b] 36)).drew).grownBy w3 (Value.slice q T.length cp).ownBlock → ((Value.slice q T.length cp).ownBlock = some gN ∨ gN = w2.heap.size + 1) → w3.cell? ⟨g, 0, none⟩ = some (.slice q T.length cp) ∧ w3.frozen? ⟨g, 0, none⟩ = false ∧ SeeV w (w3.setCell ⟨g, 0, none⟩ (.slice (some ⟨gN, 0, none⟩) (T.length + 1) cap)) g ty rest (.slice q T.length cp) mv T (a, b)) := Lib.hid fun w1 hbw w2 mb hmv hc h2 hr2 hk w3 gN cap hown hgrow0 hat => by
      have hgrow : (w2.drew.alloc (.cells #[.int .i64 a, .int .i64 b] 36)).grownBy w3 (Value.slice q T.length cp).ownBlock := ⟨hgrow0.os, hgrow0.tape, hgrow0.output, hgrow0.size, hgrow0.block⟩
      have hgl := lt_of_block h2
      have h := HH.out.below hbw
      have hvg : (Value.slice q T.length cp).ownBlock ≠ some g := fun e => by
        obtain ⟨cur, hcur⟩ := own_head hr2 e
        rw [h2] at hcur; cases hcur; exact hE rfl
      have h3 : w3.heap[g]? = _ := ((hgrow.block g (by show g < (w2.drew.alloc _).heap.size; simp; omega) (fun e => hvg e.symm)).trans (Below.heap_alloc w2.drew _ g hgl)).trans h2
      obtain ⟨hr, hch⟩ := h.grow (w2 := w2.drew) hE hx hm hc.drew h2 (own_other hr2 fun _ _ => rfl) (hk.same rfl) hown hgrow hat
      refine ⟨?_, frozen_of_row _ _ 0 _ _ h3, _, _, ?_, (Chp.of_below hbw).trans hch, hmv⟩
      · rw [cell_of_row _ _ 0 _ _ _ h3]; rfl
      · rw [addK_no hm]; exact hr
    have HOWN : Hid (∀ w1, Below w.heap.size w w1 → RnV w1 g ty rest (.slice q T.length cp) mv T) := Lib.hid fun w1 hb => HH.out.below hb
    have HBX : Hid ((w.alloc (.cells #[.int .i64 a, .int .i64 b] 36)).heap[w.heap.size]? = some (.cells #[.int .i64 a, .int .i64 b] 36 (0, 0))) := Lib.hid (heap_alloc_new w _)
    clear hm
    go_enter Try.func60, Try.ntmps60
    go_upto_region 6 with (go_at_call 57; with_reducible refine HF.out.mono ?_; rintro e w1 ⟨rfl, hb1⟩)
    have hbw := HBA.out.trans (hb1.mono HBA.out.size)
    have h1 := HOWN.out w1 hbw
    have hbx : w1.heap[w.heap.size]? = _ := (hb1.block w.heap.size (by simp)).trans HBX.out
    have HGO := Lib.hid (HGO.out w1 hbw)
    have c1 := h1.c1
    have f1 := h1.fz 1
    clear HOWN HBX HF HBA hbw hb1 HH
    rcases h1.map with ⟨-, e⟩ | ⟨mb, e, hk⟩
    · subst e
      have hnil := nilV
      have hmm := @run_makeMap Try.prog
      have hal : (w1.alloc (.map #[] 0)).heap[g]? = some (.cells (Value.slice q T.length cp :: Value.map none :: rest).toArray ty (0, 0)) := (heap_alloc_old w1 _ (lt_of_block h1.hd)).trans h1.hd
      have c1a : (w1.alloc (.map #[] 0)).cell? ⟨g, 1, none⟩ = some (.map none) := by rw [cell_of_row _ _ 1 _ _ _ hal]; rfl
      have f1a := frozen_of_row _ _ 1 _ _ hal
      have hgx : w.heap.size ≠ g := fun e => by rw [e, h1.hd] at hbx; cases hbx
      have m5 : ((w1.alloc (.map #[] 0)).setCell ⟨g, 1, none⟩ (.map (some w1.heap.size))).heap[w.heap.size]? = some (.cells #[.int .i64 a, .int .i64 b] 36 (0, 0)) := (heap_setCell_other _ _ _ _ hgx).trans ((heap_alloc_old w1 _ (lt_of_block hbx)).trans hbx)
      clear hal hgx
      obtain ⟨m1, m2, m3, m4⟩ := h1.mapped hE
      go_upto_region 8 with fail
      clear h1 hbx hnil
      generalize hW1 : (w1.alloc (.map #[] 0)).setCell ⟨g, 1, none⟩ (.map (some w1.heap.size)) = W1 at *
      generalize hmvv : Value.map none = MV at *
      generalize w1.heap.size = mb at *
      have M1 := Lib.hid m1
      have M2 := Lib.hid m2
      have M3 := Lib.hid m3
      have M4 := Lib.hid m4
      have M5 := Lib.hid m5
      clear m1 m2 m3 m4 m5 hW1 c1 f1 c1a f1a hmm
      have k0 : W1.cell? ⟨g, 0, none⟩ = some (.slice q T.length cp) := by rw [cell_of_row _ _ 0 _ _ _ M2.out]; rfl
      have k1 : W1.cell? ⟨g, 1, none⟩ = some (.map (some mb)) := by rw [cell_of_row _ _ 1 _ _ _ M2.out]; rfl
      have b0 : W1.cell? ⟨w.heap.size, 0, none⟩ = some (.int .i64 a) := by rw [cell_of_row _ _ 0 _ _ _ M5.out]; rfl
      have b1 : W1.cell? ⟨w.heap.size, 1, none⟩ = some (.int .i64 b) := by rw [cell_of_row _ _ 1 _ _ _ M5.out]; rfl
      obtain ⟨w2, hrun, hk2, ho2⟩ : ∃ w2, (Instr.mapUpdate 78 (.map (some mb)) (.agg #[.int .i64 a, .int .i64 b]) (.int .i64 ((T.length : Nat) : Int))).run Try.prog W1.drew = .ok () w2 ∧ KMap 36 (fun v : Int × Int => I64 v.1 ∧ I64 v.2) valV w2 mb (T.length + 1) (putF (posF T) (a, b) T.length) ∧ Only mb W1.drew w2 := (M4.out.same (w' := W1.drew) rfl).store keyT_val (by omega) (a, b) T.length hx
      have C2 : Hid (Chp (footR g (.slice q T.length cp) MV) (fun b => footR g (.slice q T.length cp) MV b ∨ b = mb) w1 w2) := Lib.hid ((M1.out.drew.trans (Chp.only ho2 (.inr rfl))))
      have hgm : g ≠ mb := fun e => by
        obtain ⟨es, cl, hmm⟩ := M4.out.isMap
        have := M2.out
        rw [e, hmm] at this; cases this
      have hbm : w.heap.size ≠ mb := fun e => by
        obtain ⟨es, cl, hmm⟩ := M4.out.isMap
        have := M5.out
        rw [e, hmm] at this; cases this
      have H2 : Hid (w2.heap[g]? = some (.cells ((Value.slice q T.length cp) :: .map (some mb) :: rest).toArray ty (0, 0))) := Lib.hid ((ho2.block g (lt_of_block M2.out) hgm).trans M2.out)
      have H5 : Hid (w2.heap[w.heap.size]? = some (.cells #[.int .i64 a, .int .i64 b] 36 (0, 0))) := Lib.hid ((ho2.block _ (lt_of_block M5.out) hbm).trans M5.out)
      have R2 : Hid (w2.ownsRow 0 36 2 (.slice q T.length cp) T.length (T.flatMap (fun x : Int × Int => [Value.int .i64 x.1, Value.int .i64 x.2]))) := Lib.hid (own_other M3.out fun b e => by
        obtain ⟨cur, hcur⟩ := own_head M3.out e
        refine ho2.block b (lt_of_block hcur) (fun e2 => ?_)
        obtain ⟨es, cl, hmm⟩ := M4.out.isMap
        rw [e2, hmm] at hcur; cases hcur)
      have HB := Lib.hid (HGO.out w2 mb (by first | exact .inr rfl | exact .inl hmvv.symm | exact .inl rfl) C2.out H2.out R2.out hk2)
      have HOWN : Hid (∀ W : World, W.heap = (w2.alloc (.cells #[.int .i64 a, .int .i64 b] 36)).heap → W.ownsRow 0 36 2 (.slice q T.length cp) T.length (T.flatMap (fun x : Int × Int => [Value.int .i64 x.1, Value.int .i64 x.2]))) := Lib.hid fun W hW => own_other (R2.out.alloc (.cells #[.int .i64 a, .int .i64 b] 36)) fun b _ => by rw [hW]
      have HN0 : Hid (0 < 1) := Lib.hid (by decide)
      have H63 : Hid (T.length + 1 ≤ maxLen) := Lib.hid (by have := HT.out; unfold maxLen; omega)
      have HBY : Hid ((T.length + 1) * 16 ≤ 140737488355328) := Lib.hid (by have := HT.out; omega)
      have HONE : Hid (∀ u ∈ [Value.int .i64 a, Value.int .i64 b], u.oneCell' = true) := Lib.hid (by intro u hu; simp at hu; rcases hu with rfl | rfl <;> rfl)
      have y0 : w2.cell? ⟨g, 0, none⟩ = some (.slice q T.length cp) := by rw [cell_of_row _ _ 0 _ _ _ H2.out]; rfl
      have y0a : (w2.alloc (.cells #[.int .i64 a, .int .i64 b] 36)).cell? ⟨g, 0, none⟩ = some (.slice q T.length cp) := by rw [cell_of_row _ _ 0 _ _ _ ((heap_alloc_old w2 _ (lt_of_block H2.out)).trans H2.out)]; rfl
      have y1 : w2.cell? ⟨w.heap.size, 0, none⟩ = some (.int .i64 a) := by rw [cell_of_row _ _ 0 _ _ _ H5.out]; rfl
      have y2 : w2.cell? ⟨w.heap.size, 1, none⟩ = some (.int .i64 b) := by rw [cell_of_row _ _ 1 _ _ _ H5.out]; rfl
      clear M1 M2 M3 M4 M5 HGO hk2 ho2 hgm hbm C2 R2 H2 H5
      generalize hTL : T.length = N at *
      go_region
      go_upto_region 9 with fail
      go_region_law (refine step_append_lies _ rfl (.tmp 45) (.tmp 47) 23 rfl 0 36 i0 (.agg #[.int .i64 0, .int .i64 0]) 2 16 Try.underlying23 HI0.out HZ0.out HZ1.out HZ2.out rfl (by decide) (.slice q N cp) N (T.flatMap (fun x : Int × Int => [Value.int .i64 x.1, Value.int .i64 x.2])) (by rfl) (HOWN.out _ (by rfl)) ⟨_, 0, none⟩ 1 1 [.int .i64 a, .int .i64 b] (by rfl) rfl (World.news_of_block (heap_alloc_new _ _)) HONE.out HN0.out H63.out HBY.out (Nat.zero_le _) _ rfl ?_; intro gN cap w3 hown hgrow hat hlt3; obtain ⟨z0, z1, HZ⟩ := HB.out w3 gN cap hown hgrow (by simpa using hat); have HZF := Lib.hid HZ; clear HZ hown hgrow hat hlt3)
      all_goals (
        go_wp2_with fail
        go_ret
        exact ⟨rfl, by first | exact HZF.out | (rw [hTL]; exact HZF.out) | (rw [hTL, hmvv]; exact HZF.out)⟩)
    · subst e
      have hnil := someV mb
      go_upto_region 8 with fail
      have M1 : Hid (Chp (footR g (.slice q T.length cp) (.map (some mb))) (fun b => footR g (.slice q T.length cp) (.map (some mb)) b ∨ b = mb) w1 w1) := Lib.hid ⟨rfl, rfl, rfl, Nat.le_refl _, fun _ _ _ => rfl, fun b hb => hb.elim .inl (fun e => .inl (.inr (.inr (by rw [e]))))⟩
      have M2 := Lib.hid h1.hd
      have M3 := Lib.hid h1.row
      have M4 := Lib.hid hk
      have M5 := Lib.hid hbx
      generalize hmvv : Value.map (some mb) = MV at HGO M1
      rw [← hmvv] at *
      clear hk c1 f1 h1 hbx hnil
      have k0 : w1.cell? ⟨g, 0, none⟩ = some (.slice q T.length cp) := by rw [cell_of_row _ _ 0 _ _ _ M2.out]; rfl
      have k1 : w1.cell? ⟨g, 1, none⟩ = some (.map (some mb)) := by rw [cell_of_row _ _ 1 _ _ _ M2.out]; rfl
      have b0 : w1.cell? ⟨w.heap.size, 0, none⟩ = some (.int .i64 a) := by rw [cell_of_row _ _ 0 _ _ _ M5.out]; rfl
      have b1 : w1.cell? ⟨w.heap.size, 1, none⟩ = some (.int .i64 b) := by rw [cell_of_row _ _ 1 _ _ _ M5.out]; rfl
      obtain ⟨w2, hrun, hk2, ho2⟩ : ∃ w2, (Instr.mapUpdate 78 (.map (some mb)) (.agg #[.int .i64 a, .int .i64 b]) (.int .i64 ((T.length : Nat) : Int))).run Try.prog w1.drew = .ok () w2 ∧ KMap 36 (fun v : Int × Int => I64 v.1 ∧ I64 v.2) valV w2 mb (T.length + 1) (putF (posF T) (a, b) T.length) ∧ Only mb w1.drew w2 := (M4.out.same (w' := w1.drew) rfl).store keyT_val (by omega) (a, b) T.length hx
      have C2 : Hid (Chp (footR g (.slice q T.length cp) (Value.map (some mb))) (fun b => footR g (.slice q T.length cp) (Value.map (some mb)) b ∨ b = mb) w1 w2) := Lib.hid ((M1.out.drew.trans (Chp.only ho2 (.inr rfl))))
      have hgm : g ≠ mb := fun e => by
        obtain ⟨es, cl, hmm⟩ := M4.out.isMap
        have := M2.out
        rw [e, hmm] at this; cases this
      have hbm : w.heap.size ≠ mb := fun e => by
        obtain ⟨es, cl, hmm⟩ := M4.out.isMap
        have := M5.out
        rw [e, hmm] at this; cases this
      have H2 : Hid (w2.heap[g]? = some (.cells ((Value.slice q T.length cp) :: .map (some mb) :: rest).toArray ty (0, 0))) := Lib.hid ((ho2.block g (lt_of_block M2.out) hgm).trans M2.out)
      have H5 : Hid (w2.heap[w.heap.size]? = some (.cells #[.int .i64 a, .int .i64 b] 36 (0, 0))) := Lib.hid ((ho2.block _ (lt_of_block M5.out) hbm).trans M5.out)
      have R2 : Hid (w2.ownsRow 0 36 2 (.slice q T.length cp) T.length (T.flatMap (fun x : Int × Int => [Value.int .i64 x.1, Value.int .i64 x.2]))) := Lib.hid (own_other M3.out fun b e => by
        obtain ⟨cur, hcur⟩ := own_head M3.out e
        refine ho2.block b (lt_of_block hcur) (fun e2 => ?_)
        obtain ⟨es, cl, hmm⟩ := M4.out.isMap
        rw [e2, hmm] at hcur; cases hcur)
      have HB := Lib.hid (HGO.out w2 mb (by first | exact .inr rfl | exact .inl hmvv.symm | exact .inl rfl) C2.out H2.out R2.out hk2)
      have HOWN : Hid (∀ W : World, W.heap = (w2.alloc (.cells #[.int .i64 a, .int .i64 b] 36)).heap → W.ownsRow 0 36 2 (.slice q T.length cp) T.length (T.flatMap (fun x : Int × Int => [Value.int .i64 x.1, Value.int .i64 x.2]))) := Lib.hid fun W hW => own_other (R2.out.alloc (.cells #[.int .i64 a, .int .i64 b] 36)) fun b _ => by rw [hW]
      have HN0 : Hid (0 < 1) := Lib.hid (by decide)
      have H63 : Hid (T.length + 1 ≤ maxLen) := Lib.hid (by have := HT.out; unfold maxLen; omega)
      have HBY : Hid ((T.length + 1) * 16 ≤ 140737488355328) := Lib.hid (by have := HT.out; omega)
      have HONE : Hid (∀ u ∈ [Value.int .i64 a, Value.int .i64 b], u.oneCell' = true) := Lib.hid (by intro u hu; simp at hu; rcases hu with rfl | rfl <;> rfl)
      have y0 : w2.cell? ⟨g, 0, none⟩ = some (.slice q T.length cp) := by rw [cell_of_row _ _ 0 _ _ _ H2.out]; rfl
      have y0a : (w2.alloc (.cells #[.int .i64 a, .int .i64 b] 36)).cell? ⟨g, 0, none⟩ = some (.slice q T.length cp) := by rw [cell_of_row _ _ 0 _ _ _ ((heap_alloc_old w2 _ (lt_of_block H2.out)).trans H2.out)]; rfl
      have y1 : w2.cell? ⟨w.heap.size, 0, none⟩ = some (.int .i64 a) := by rw [cell_of_row _ _ 0 _ _ _ H5.out]; rfl
      have y2 : w2.cell? ⟨w.heap.size, 1, none⟩ = some (.int .i64 b) := by rw [cell_of_row _ _ 1 _ _ _ H5.out]; rfl
      clear M1 M2 M3 M4 M5 HGO hk2 ho2 hgm hbm C2 R2 H2 H5
      generalize hTL : T.length = N at *
      go_region
      go_upto_region 9 with fail
      go_region_law (refine step_append_lies _ rfl (.tmp 45) (.tmp 47) 23 rfl 0 36 i0 (.agg #[.int .i64 0, .int .i64 0]) 2 16 Try.underlying23 HI0.out HZ0.out HZ1.out HZ2.out rfl (by decide) (.slice q N cp) N (T.flatMap (fun x : Int × Int => [Value.int .i64 x.1, Value.int .i64 x.2])) (by rfl) (HOWN.out _ (by rfl)) ⟨_, 0, none⟩ 1 1 [.int .i64 a, .int .i64 b] (by rfl) rfl (World.news_of_block (heap_alloc_new _ _)) HONE.out HN0.out H63.out HBY.out (Nat.zero_le _) _ rfl ?_; intro gN cap w3 hown hgrow hat hlt3; obtain ⟨z0, z1, HZ⟩ := HB.out w3 gN cap hown hgrow (by simpa using hat); have HZF := Lib.hid HZ; clear HZ hown hgrow hat hlt3)
      all_goals (
        go_wp2_with fail
        go_ret
        exact ⟨rfl, by first | exact HZF.out | (rw [hTL]; exact HZF.out) | (rw [hTL, hmvv]; exact HZF.out)⟩)
theorem rnV_len (h : Thg 36 2 (fun x : Int × Int => [Value.int .i64 x.1, Value.int .i64 x.2]) w g T) : Calls Try.prog 63 #[.pointer (some ⟨g, 0, none⟩)] w fun e w' => e = .returned (.int .i64 (T.length : Int)) ∧ w' = w := by
  obtain ⟨ty, rest, vt, mv, hd, hr⟩ := h
  have c0 : w.cell? ⟨g, 0, none⟩ = some vt := by rw [cell_of_row w _ 0 _ _ _ hd]; rfl
  obtain ⟨q, cp, e⟩ := own_form hr
  subst e
  generalize T.length = n at *
  clear hr hd
  go_enter Try.func63, Try.ntmps63
  go_wp2_with fail
  go_ret
  exact ⟨rfl, rfl⟩
end
end Go.Proofs.Ytekmboolfjicbaa
