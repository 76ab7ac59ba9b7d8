/- Rounds of Int: what is found, its place, how many there are. -/
import Derived.Test.YtekmboolfjicbaaRnd
import Derived.Defers
import Derived.Recover
import Derived.Deep.AppendLies
import Derived.Deep.Cut
import Derived.Deep.RegionHeld3
import Derived.BigQuiet
import Derived.Deep.QuietTactic
import Derived.BigRegion
set_option maxRecDepth 20000
set_option linter.unusedSimpArgs false
namespace Go.Proofs.Ytekmboolfjicbaa
open Go.RowKit

abbrev RnI (w : World) (g : Nat) (ty : TypeId) (rest : List Value) (vt mv : Value) (T : List Int) : Prop := Rnd 3 1 3 I64 (fun x : Int => Value.int .i64 x) (fun x : Int => [Value.int .i64 x]) w g ty rest vt mv T
theorem info_rnI : (Try.prog.info? 3).map (fun i => (i.zero, i.size, i.bytes)) = some (some (.int .i64 0), 1, 8) := by kernel_rfl
theorem rnI_idle (w : World) : CallsD Try.prog 50 #[] .returning w fun e u' w' => e = .returned (.tuple #[]) ∧ u' = .returning ∧ w' = w := by
  refine callsD_of_wpS Try.func50 rfl fun c₀ cs hu => ?_
  apply wpS_region
  cases c₀
  simp_all [wpOpsS, go_sem, recoverD, Try.ntmps50, bodyPostS, results, Try.results50]
theorem rnI_find {w : World} {g : Nat} {ty : TypeId} {rest : List Value} {vt mv : Value} {T : List Int} (h : RnI w g ty rest vt mv T) (x : Int) (hx : I64 x) :
    Calls Try.prog 27 #[.pointer (some ⟨g, 0, none⟩), .int .i64 x] w fun e w' => e = .returned (.tuple #[.int .i64 (((posF T x).getD 0 : Nat) : Int), .bool (hasK T x), .bool true]) ∧ w' = w := by
  have hl : (Instr.lookup 40 mv (.int .i64 x) true).run Try.prog w = .ok (.tuple #[.int .i64 (((posF T x).getD 0 : Nat) : Int), .bool (hasK T x)]) w := h.look keyT_int x hx
  have c1 := h.c1
  obtain ⟨mb, e⟩ := h.map.form
  subst e
  generalize (posF T x).getD 0 = p at *
  generalize hasK T x = b at *
  clear h
  go_enter_defers Try.func27, Try.ntmps27
  go_wp2_with fail
  refine leaves_cons (f := 50) (args := #[]) (by simp) (by simp [go_sem]) ?_
  refine (rnI_idle _).mono ?_
  rintro e u' w'' ⟨rfl, rfl, rfl⟩
  simp [Leaves, settle, results, Try.results27, go_sem]
theorem nilI (w : World) : (binOp .eql 40 (.map none) (.map none)).run Try.prog w = .ok (.bool true) w := by kernel_rfl
theorem someI (b : Nat) (w : World) : (binOp .eql 40 (.map (some b)) (.map none)).run Try.prog w = .ok (.bool false) w := by kernel_rfl
/-- What See leaves. -/
def SeeI (w w' : World) (g : Nat) (ty : TypeId) (rest : List Value) (vt mv : Value) (T : List Int) (x : Int) : Prop := ∃ vt' mv', RnI w' g ty rest vt' mv' (addK T x) ∧ Chp (footR g vt mv) (footR g vt' mv') w w' ∧ (mv = .map none ∨ mv' = mv)
section
variable {w : World} {g : Nat} {ty : TypeId} {rest : List Value} {vt mv : Value} {T : List Int}
theorem rnI_place (h : RnI w g ty rest vt mv T) (x : Int) (hx : I64 x) :
    Calls Try.prog 13 #[.pointer (some ⟨g, 0, none⟩), .int .i64 x] w fun e w' => e = .returned (.tuple #[.int .i64 (((posF T x).getD 0 : Nat) : Int), .bool (hasK T x)]) ∧ w' = w := by
  have HF := Lib.hid (rnI_find h x hx)
  generalize (posF T x).getD 0 = p at *
  generalize hasK T x = b at *
  clear h
  go_enter Try.func13, Try.ntmps13
  go_wp2_with (go_at_call 27; with_reducible refine HF.out.mono ?_; rintro e w1 ⟨rfl, rfl⟩)
  go_ret2
  exact ⟨rfl, rfl⟩
set_option maxHeartbeats 1600000 in
theorem rnI_see (h : RnI w g ty rest vt mv T) (hE : ty ≠ 3) (hT : T.length ≤ 100000) (x : Int) (hx : I64 x) :
    Calls Try.prog 11 #[.pointer (some ⟨g, 0, none⟩), .int .i64 x] w fun e w' => e = .returned (.bool (!hasK T x)) ∧ SeeI w w' g ty rest vt mv T x := by
  have HF := Lib.hid (rnI_find h x hx)
  by_cases hm : x ∈ T
  · have HS : Hid (SeeI w w g ty rest vt mv T x) := Lib.hid ⟨vt, mv, by rw [addK_yes hm]; exact h, Chp.refl _ _, .inr rfl⟩
    have hb : hasK T x = true := hasK_yes hm
    rw [hb] at HF ⊢
    generalize (posF T x).getD 0 = p at *
    clear h hm hb
    go_enter Try.func11, Try.ntmps11
    go_wp2_with (go_at_call 27; with_reducible refine HF.out.mono ?_; rintro e w1 ⟨rfl, rfl⟩)
    go_ret
    exact ⟨rfl, HS.out⟩
  · have hb : hasK T x = false := hasK_no hm
    rw [hb] at HF ⊢
    have HGO : Hid (∀ (w2 : World) (mb : Nat), (mv = .map none ∨ Value.map (some mb) = mv) → Chp (footR g vt mv) (fun b => footR g vt mv b ∨ b = mb) w w2 → w2.heap[g]? = some (.cells (vt :: .map (some mb) :: rest).toArray ty (0, 0)) → w2.ownsRow 0 3 1 vt T.length (T.flatMap (fun x : Int => [Value.int .i64 x])) → KMap 3 I64 (fun x : Int => Value.int .i64 x) w2 mb (T.length + 1) (putF (posF T) x T.length) →
        ∀ w3 gN cap, w3.ownsRow 0 3 1 (.slice (some ⟨gN, 0, none⟩) (T.length + 1) cap) (T.length + 1) (T.flatMap (fun x : Int => [Value.int .i64 x]) ++ [.int .i64 x]) → (w2.alloc (.cells [.int .i64 x].toArray 3)).grownBy w3 vt.ownBlock → (vt.ownBlock = some gN ∨ gN = w2.heap.size + 1) → w3.cell? ⟨g, 0, none⟩ = some vt ∧ w3.frozen? ⟨g, 0, none⟩ = false ∧ SeeI w (w3.setCell ⟨g, 0, none⟩ (.slice (some ⟨gN, 0, none⟩) (T.length + 1) cap)) g ty rest vt mv T x) := Lib.hid fun w2 mb hmv hc h2 hr2 hk w3 gN cap hown hgrow hat => by
      have hgl := lt_of_block h2
      have hvg : vt.ownBlock ≠ some g := fun e => by
        obtain ⟨cur, hcur⟩ := own_head hr2 e
        rw [h2] at hcur; cases hcur; exact hE rfl
      have h3 : w3.heap[g]? = _ := ((hgrow.block g (by simp; omega) (fun e => hvg e.symm)).trans (Below.heap_alloc w2 _ g hgl)).trans h2
      obtain ⟨hr, hch⟩ := h.grow hE hx hm hc h2 hr2 hk hown hgrow hat
      refine ⟨?_, frozen_of_row _ _ 0 _ _ h3, _, _, ?_, hch, hmv⟩
      · rw [cell_of_row _ _ 0 _ _ _ h3]; rfl
      · rw [addK_no hm]; exact hr
    have c1 := h.c1
    have f1 := h.fz 1
    obtain ⟨q, cp, e⟩ := h.form
    subst e
    obtain ⟨i0, hi0, hz0, hz1, hz2⟩ := info_parts info_rnI
    have HI0 := Lib.hid hi0
    have HZ0 := Lib.hid hz0
    have HZ1 := Lib.hid hz1
    have HZ2 := Lib.hid hz2
    have HT := Lib.hid hT
    clear hi0 hz0 hz1 hz2 hb hm
    generalize (posF T x).getD 0 = p at *
    rcases h.map with ⟨hT0, e⟩ | ⟨mb, e, hk⟩
    · subst e
      have hnil := nilI
      have hmm := @run_makeMap Try.prog
      have hal : (w.alloc (.map #[] 0)).heap[g]? = some (.cells (Value.slice q T.length cp :: Value.map none :: rest).toArray ty (0, 0)) := (heap_alloc_old w _ (lt_of_block h.hd)).trans h.hd
      have c1a : (w.alloc (.map #[] 0)).cell? ⟨g, 1, none⟩ = some (.map none) := by rw [cell_of_row _ _ 1 _ _ _ hal]; rfl
      have f1a := frozen_of_row _ _ 1 _ _ hal
      clear hal
      obtain ⟨m1, m2, m3, m4⟩ := h.mapped hE
      go_enter Try.func11, Try.ntmps11
      go_upto_region 8 with (go_at_call 27; with_reducible refine HF.out.mono ?_; rintro e w1 ⟨rfl, rfl⟩)
      generalize hW1 : (w1.alloc (.map #[] 0)).setCell ⟨g, 1, none⟩ (.map (some w1.heap.size)) = W1 at *
      generalize hMV : Value.map none = MV at *
      generalize w1.heap.size = mb at *
      have M1 := Lib.hid m1
      have M2 := Lib.hid m2
      have M3 := Lib.hid m3
      have M4 := Lib.hid m4
      clear m1 m2 m3 m4 hW1 c1 f1 c1a f1a hmm
      have k0 : W1.cell? ⟨g, 0, none⟩ = some (.slice q T.length cp) := by rw [cell_of_row _ _ 0 _ _ _ M2.out]; rfl
      have k1 : W1.cell? ⟨g, 1, none⟩ = some (.map (some mb)) := by rw [cell_of_row _ _ 1 _ _ _ M2.out]; rfl
      obtain ⟨w2, hrun, hk2, ho2⟩ : ∃ w2, (Instr.mapUpdate 40 (.map (some mb)) (.int .i64 x) (.int .i64 ((T.length : Nat) : Int))).run Try.prog W1.drew = .ok () w2 ∧ KMap 3 I64 (fun x : Int => Value.int .i64 x) w2 mb (T.length + 1) (putF (posF T) x T.length) ∧ Only mb W1.drew w2 := (M4.out.same (w' := W1.drew) rfl).store keyT_int (by omega) x T.length hx
      have C2 : Hid (Chp (footR g (.slice q T.length cp) MV) (fun b => footR g (.slice q T.length cp) MV b ∨ b = mb) w1 w2) := Lib.hid ((M1.out.drew.trans (Chp.only ho2 (.inr rfl))))
      have hgm : g ≠ mb := fun e => by
        obtain ⟨es, cl, hmm⟩ := M4.out.isMap
        have := M2.out
        rw [e, hmm] at this; cases this
      have H2 : Hid (w2.heap[g]? = some (.cells ((Value.slice q T.length cp) :: .map (some mb) :: rest).toArray ty (0, 0))) := Lib.hid ((ho2.block g (lt_of_block M2.out) hgm).trans M2.out)
      have R2 : Hid (w2.ownsRow 0 3 1 (.slice q T.length cp) T.length (T.flatMap (fun x : Int => [Value.int .i64 x]))) := Lib.hid (own_other M3.out fun b e => by
        obtain ⟨cur, hcur⟩ := own_head M3.out e
        refine ho2.block b (lt_of_block hcur) (fun e2 => ?_)
        obtain ⟨es, cl, hmm⟩ := M4.out.isMap
        rw [e2, hmm] at hcur; cases hcur)
      have HB := Lib.hid (HGO.out w2 mb (by first | exact .inl rfl | exact .inl hMV.symm | exact .inl trivial | simp) C2.out H2.out R2.out hk2)
      have R2A := Lib.hid (R2.out.alloc (.cells [.int .i64 x].toArray 3))
      have HNB : Hid (∀ j u, [.int .i64 x][j]? = some u → (w2.alloc (.cells [.int .i64 x].toArray 3)).cell? ((⟨w2.heap.size, 0, none⟩ : Addr).add j) = some u) := Lib.hid (World.news_of_block (heap_alloc_new w2 _))
      have y0 : w2.cell? ⟨g, 0, none⟩ = some (.slice q T.length cp) := by rw [cell_of_row _ _ 0 _ _ _ H2.out]; rfl
      clear M1 M2 M3 M4 HGO hk2 ho2 hgm C2 R2 H2 h
      generalize hTL : T.length = N at *
      go_region
      generalize W1.drew = W2 at *
      go_wp2_with (at_builtin; refine wpList_append_lies _ rfl (.tmp 45) (.tmp 47) 38 rfl 0 3 i0 (.int .i64 0) 1 8 Try.underlying38 HI0.out HZ0.out HZ1.out HZ2.out rfl (by decide) (.slice q N cp) N (T.flatMap (fun x : Int => [Value.int .i64 x])) (by rfl) R2A.out ⟨w2.heap.size, 0, none⟩ 1 1 [.int .i64 x] (by rfl) rfl HNB.out (by intro u hu; simp at hu; subst hu; rfl) (by decide) (by have := HT.out; unfold maxLen; omega) (by have := HT.out; omega) (Nat.zero_le _) (w2.heap.size + 1) (by simp) ?_; intro gN cap w3 hown hgrow hat hlt3; obtain ⟨z0, z1, HZ⟩ := HB.out w3 gN cap hown hgrow hat; have HZF := Lib.hid HZ; clear HZ HB hown hgrow hat hlt3)
      go_ret
      exact ⟨rfl, by rw [hTL]; first | exact HZF.out | (rw [hMV]; exact HZF.out)⟩
    · subst e
      have hnil := someI mb
      go_enter Try.func11, Try.ntmps11
      go_upto_region 8 with (go_at_call 27; with_reducible refine HF.out.mono ?_; rintro e w1 ⟨rfl, rfl⟩)
      have M1 : Hid (Chp (footR g (.slice q T.length cp) (.map (some mb))) (fun b => footR g (.slice q T.length cp) (.map (some mb)) b ∨ b = mb) w1 w1) := Lib.hid ⟨rfl, rfl, rfl, Nat.le_refl _, fun _ _ _ => rfl, fun b hb => hb.elim .inl (fun e => .inl (.inr (.inr (by rw [e]))))⟩
      have M2 := Lib.hid h.hd
      have M3 := Lib.hid h.row
      have M4 := Lib.hid hk
      generalize hMV : Value.map (some mb) = MV at HGO M1
      rw [← hMV] at *
      clear hk c1 f1
      have k0 : w1.cell? ⟨g, 0, none⟩ = some (.slice q T.length cp) := by rw [cell_of_row _ _ 0 _ _ _ M2.out]; rfl
      have k1 : w1.cell? ⟨g, 1, none⟩ = some (.map (some mb)) := by rw [cell_of_row _ _ 1 _ _ _ M2.out]; rfl
      obtain ⟨w2, hrun, hk2, ho2⟩ : ∃ w2, (Instr.mapUpdate 40 (.map (some mb)) (.int .i64 x) (.int .i64 ((T.length : Nat) : Int))).run Try.prog w1.drew = .ok () w2 ∧ KMap 3 I64 (fun x : Int => Value.int .i64 x) w2 mb (T.length + 1) (putF (posF T) x T.length) ∧ Only mb w1.drew w2 := (M4.out.same (w' := w1.drew) rfl).store keyT_int (by omega) x T.length hx
      have C2 : Hid (Chp (footR g (.slice q T.length cp) (Value.map (some mb))) (fun b => footR g (.slice q T.length cp) (Value.map (some mb)) b ∨ b = mb) w1 w2) := Lib.hid ((M1.out.drew.trans (Chp.only ho2 (.inr rfl))))
      have hgm : g ≠ mb := fun e => by
        obtain ⟨es, cl, hmm⟩ := M4.out.isMap
        have := M2.out
        rw [e, hmm] at this; cases this
      have H2 : Hid (w2.heap[g]? = some (.cells ((Value.slice q T.length cp) :: .map (some mb) :: rest).toArray ty (0, 0))) := Lib.hid ((ho2.block g (lt_of_block M2.out) hgm).trans M2.out)
      have R2 : Hid (w2.ownsRow 0 3 1 (.slice q T.length cp) T.length (T.flatMap (fun x : Int => [Value.int .i64 x]))) := Lib.hid (own_other M3.out fun b e => by
        obtain ⟨cur, hcur⟩ := own_head M3.out e
        refine ho2.block b (lt_of_block hcur) (fun e2 => ?_)
        obtain ⟨es, cl, hmm⟩ := M4.out.isMap
        rw [e2, hmm] at hcur; cases hcur)
      have HB := Lib.hid (HGO.out w2 mb (.inr (by first | rfl | exact hMV)) C2.out H2.out R2.out hk2)
      have R2A := Lib.hid (R2.out.alloc (.cells [.int .i64 x].toArray 3))
      have HNB : Hid (∀ j u, [.int .i64 x][j]? = some u → (w2.alloc (.cells [.int .i64 x].toArray 3)).cell? ((⟨w2.heap.size, 0, none⟩ : Addr).add j) = some u) := Lib.hid (World.news_of_block (heap_alloc_new w2 _))
      have y0 : w2.cell? ⟨g, 0, none⟩ = some (.slice q T.length cp) := by rw [cell_of_row _ _ 0 _ _ _ H2.out]; rfl
      clear M1 M2 M3 M4 HGO hk2 ho2 hgm C2 R2 H2 h
      generalize hTL : T.length = N at *
      go_region
      generalize w1.drew = W2 at *
      go_wp2_with (at_builtin; refine wpList_append_lies _ rfl (.tmp 45) (.tmp 47) 38 rfl 0 3 i0 (.int .i64 0) 1 8 Try.underlying38 HI0.out HZ0.out HZ1.out HZ2.out rfl (by decide) (.slice q N cp) N (T.flatMap (fun x : Int => [Value.int .i64 x])) (by rfl) R2A.out ⟨w2.heap.size, 0, none⟩ 1 1 [.int .i64 x] (by rfl) rfl HNB.out (by intro u hu; simp at hu; subst hu; rfl) (by decide) (by have := HT.out; unfold maxLen; omega) (by have := HT.out; omega) (Nat.zero_le _) (w2.heap.size + 1) (by simp) ?_; intro gN cap w3 hown hgrow hat hlt3; obtain ⟨z0, z1, HZ⟩ := HB.out w3 gN cap hown hgrow hat; have HZF := Lib.hid HZ; clear HZ HB hown hgrow hat hlt3)
      go_ret
      exact ⟨rfl, by rw [hTL]; first | exact HZF.out | (rw [hMV]; exact HZF.out)⟩
theorem rnI_len (h : Thg 3 1 (fun x : Int => [Value.int .i64 x]) w g T) : Calls Try.prog 16 #[.pointer (some ⟨g, 0, none⟩)] w fun e w' => e = .returned (.int .i64 (T.length : Int)) ∧ w' = w := by
  obtain ⟨ty, rest, vt, mv, hd, hr⟩ := h
  have c0 : w.cell? ⟨g, 0, none⟩ = some vt := by rw [cell_of_row w _ 0 _ _ _ hd]; rfl
  obtain ⟨q, cp, e⟩ := own_form hr
  subst e
  generalize T.length = n at *
  clear hr hd
  go_enter Try.func16, Try.ntmps16
  go_wp2_with fail
  go_ret
  exact ⟨rfl, rfl⟩
end
end Go.Proofs.Ytekmboolfjicbaa
