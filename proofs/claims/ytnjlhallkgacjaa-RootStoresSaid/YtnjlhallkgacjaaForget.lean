/- What waits is forgotten: the sectors are told as they are out. -/
import Derived.Test.YtnjlhallkgacjaaBring
import Derived.Laws.CopyOwn
import Derived.Deep.RegionLaw
namespace Go.Proofs.Ytnjlhallkgacjaa
open Go.RowKit

/-- 'copy' into a row, as one step of a region that draws: the world behind it is told. -/
theorem step_copy_at {P : Program} {ops : Array Oper} {o : Oper} {a : Act} {w : World} {K : Act → World → Prop} {Q : Exit → Act → World → Prop} {E : Prop} (hgd : o.guard = none) (d s : Operand) (dT sT : TypeId)
    (ho : o.op = .call { callee := .builtin .copy, args := #[d, s], argTypes := #[dT, sT] }) (elem : TypeId) (hu : P.underlying dT = some (.slice elem)) (hsz : (P.info? elem).map (·.size) = some 1)
    (g dLen dCap : Nat) (ad : Addr) (sLen sCap : Nat) (hd : a.eval d = .slice (some ⟨g, 0, none⟩) dLen dCap) (hs : a.eval s = .slice (some ad) sLen sCap)
    (cur : Array Value) (t : TypeId) (hg : w.heap[g]? = some (.cells cur t (0, 0))) (cs : List Value) (hn : cs.length = Nat.min sLen dLen)
    (hsrc : ∀ j v, cs[j]? = some v → w.cell? (ad.add j) = some v) (hfit : 0 + cs.length ≤ cur.size) (h1 : ∀ v ∈ cs, v.oneCell' = true)
    (h : K (a.put o.dst (goInt cs.length)) (w.setRow g (cur.toList.take 0 ++ cs ++ cur.toList.drop (0 + cs.length)).toArray)) :
    if Region.wanted o (yielded ops a.tmps) = true then Oper.wp P o a w K Q else E := by
  rw [if_pos (by simp [Region.wanted, hgd])]
  have hrun := run_copy_row (P := P) w dT sT o.type elem g 0 dLen dCap ad sLen sCap cur t cs hu hsz hg hn hsrc hfit h1
  unfold Oper.wp
  simp only [execOp, ho, resolve, invoke, builtin, Sem.run_bind, Sem.run_pure, Result.andThen_ok, List.map_toArray, List.map_cons, List.map_nil, hd, hs, hrun]
  exact h

section
variable {w : World} {g bO cO bL cL : Nat} {vW : Value} {os ls : List Value} {ws : List Vw} {m : Dsk}
def forgot (m : Dsk) : Dsk := { m with row := [] }
theorem Dk0.forgot (h : Dk0 w g bO cO bL cL vW os ls ws m) (cur : Array Value) (hc : w.heap[bL]? = some (.cells cur 45 (0, 0))) (hcs : cur.size = cL) (hcl : m.out.length ≤ cL) (hcm : cL ≤ maxLen) :
    Dk0 ((w.setCell ⟨g, 2, none⟩ (.slice none 0 0)).drew.setRow bL (cur.toList.take 0 ++ os ++ cur.toList.drop (0 + os.length)).toArray) g bO cO bL cL (.slice none 0 0) os os [] (forgot m) ∧
    Chg (foot g bO bL vW) (foot g bO bL (.slice none 0 0)) w ((w.setCell ⟨g, 2, none⟩ (.slice none 0 0)).drew.setRow bL (cur.toList.take 0 ++ os ++ cur.toList.drop (0 + os.length)).toArray) := by
  have hbL : (w.setCell ⟨g, 2, none⟩ (.slice none 0 0)).drew.heap[bL]? = some (.cells cur 45 (0, 0)) := (heap_setCell_other _ _ _ _ (Ne.symm h.ne_gL)).trans hc
  have hrow := setRow_heap _ bL cur (cur.toList.take 0 ++ os ++ cur.toList.drop (0 + os.length)).toArray _ _ hbL
  have hoth : ∀ k, k ≠ g → k ≠ bL → ((w.setCell ⟨g, 2, none⟩ (.slice none 0 0)).drew.setRow bL (cur.toList.take 0 ++ os ++ cur.toList.drop (0 + os.length)).toArray).heap[k]? = w.heap[k]? := fun k h1 h2 =>
    (setRow_other _ _ _ _ h2).trans (heap_setCell_other _ _ _ _ h1)
  have hsz : w.heap.size ≤ ((w.setCell ⟨g, 2, none⟩ (.slice none 0 0)).drew.setRow bL (cur.toList.take 0 ++ os ++ cur.toList.drop (0 + os.length)).toArray).heap.size := by
    rw [setRow_size]; show _ ≤ (w.setCell _ _).heap.size; simp
  have hgg : ((w.setCell ⟨g, 2, none⟩ (.slice none 0 0)).drew.setRow bL (cur.toList.take 0 ++ os ++ cur.toList.drop (0 + os.length)).toArray).heap[g]? = some (.cells #[.slice (some ⟨bO, 0, none⟩) m.out.length cO, .slice (some ⟨bL, 0, none⟩) m.out.length cL, .slice none 0 0, .int .i64 m.fuse, .bool m.down, .int .i64 (m.done : Int)] 72 (0, 0)) :=
    (setRow_other _ _ _ _ h.ne_gL).trans (heap_setCell_same w g 2 _ _ (.slice none 0 0) h.hd)
  have ho1 : ((w.setCell ⟨g, 2, none⟩ (.slice none 0 0)).drew.setRow bL (cur.toList.take 0 ++ os ++ cur.toList.drop (0 + os.length)).toArray).os = w.os := rfl
  have ho2 : ((w.setCell ⟨g, 2, none⟩ (.slice none 0 0)).drew.setRow bL (cur.toList.take 0 ++ os ++ cur.toList.drop (0 + os.length)).toArray).tape = w.tape := rfl
  have ho3 : ((w.setCell ⟨g, 2, none⟩ (.slice none 0 0)).drew.setRow bL (cur.toList.take 0 ++ os ++ cur.toList.drop (0 + os.length)).toArray).output = w.output := rfl
  generalize (w.setCell ⟨g, 2, none⟩ (.slice none 0 0)).drew.setRow bL (cur.toList.take 0 ++ os ++ cur.toList.drop (0 + os.length)).toArray = W at *
  have hol : os.length = m.out.length := h.so.len
  have hC : Chg [g, bL] [g, bL] w W := ⟨ho1, ho2, ho3, hsz, fun k _ hk => hoth k (fun e => hk (by simp [e])) (fun e => hk (by simp [e])), fun _ h => .inl h⟩
  have hT : Typed w [g, bL] := fun k hk => by
    simp at hk
    rcases hk with rfl | rfl
    · exact ⟨_, _, _, h.hd, .inl rfl⟩
    · exact ⟨_, _, _, hc, .inr (.inl rfl)⟩
  refine ⟨⟨hgg, own_other h.ro (fun k hk => ?_), ⟨by rw [hol]; exact (Nat.mul_one _).symm, .inr ⟨bL, cL, _, rfl, Nat.zero_le _, hrow, hcl, hcm, ?_, ?_⟩⟩, World.ownsRow_nil _ _ _ _, h.so.chg hC hT, h.so.chg hC hT, Vws.nil_ _, fun _ => rfl, h.ne, ⟨h.ok.out, fun x hx => (by cases hx), h.ok.fuse0, h.ok.fuse1⟩⟩, ?_⟩
  · cases hk; exact hoth _ (Ne.symm h.ne_gO) h.ne
  · simp only [List.take_zero, List.nil_append, List.size_toArray, List.length_append, List.length_drop, Array.length_toList, hol]; omega
  · simp only [List.take_zero, List.nil_append]
    rw [show (Go.Proofs.Ytnjlhallkgacjaa.forgot m).out.length * 1 = os.length by rw [hol]; exact Nat.mul_one _]
    rw [List.take_append_of_le_length (Nat.le_refl _), List.take_of_length_le (Nat.le_refl _)]
  · exact ⟨ho1, ho2, ho3, hsz, fun k _ hk => hoth k (fun e => hk (by simp [foot, e])) (fun e => hk (by simp [foot, e])), fun k hk => .inl (by simp [foot, Value.ownBlock] at hk ⊢; rcases hk with h | h | h <;> simp [h])⟩

theorem info45 : (Try.prog.info? 45).map (fun i => (i.zero, i.size, i.bytes)) = some (some (.slice none 0 0), 1, 24) := by kernel_rfl
set_option maxHeartbeats 800000 in
theorem forget_any (h : Dk0 w g bO cO bL cL vW os ls ws m)  :
    Calls Try.prog 39 #[.pointer (some ⟨g, 0, none⟩)] w fun e w' => e = .returned (.tuple #[]) ∧ Dk0 w' g bO cO bL cL (.slice none 0 0) os os [] (forgot m) ∧ Chg (foot g bO bL vW) (foot g bO bL (.slice none 0 0)) w w' := by
  obtain ⟨cur, hcur, hcs, hcl, hcm⟩ : ∃ cur, w.heap[bL]? = some (.cells cur 45 (0, 0)) ∧ cur.size = cL ∧ m.out.length ≤ cL ∧ cL ≤ maxLen := by
    rcases h.rl.2 with ⟨e, _⟩ | ⟨g', cap, cur, e, _, hh, h1, h2, h3, _⟩
    · cases e
    · cases e; exact ⟨cur, hh, by omega, h1, h2⟩
  have HX := Lib.hid (h.forgot cur hcur hcs hcl hcm)
  have hc0 := h.c0
  have hc1 := h.c1
  have hc2 := h.c2
  have hf2 := h.fz 2
  have hol : os.length = m.out.length := h.so.len
  have HB : Hid ((w.setCell ⟨g, 2, none⟩ (.slice none 0 0)).drew.heap[bL]? = some (.cells cur 45 (0, 0))) := Lib.hid ((heap_setCell_other _ _ _ _ (Ne.symm h.ne_gL)).trans hcur)
  have HS : Hid (∀ j v, os[j]? = some v → (w.setCell ⟨g, 2, none⟩ (.slice none 0 0)).drew.cell? ((⟨bO, 0, none⟩ : Addr).add j) = some v) := Lib.hid (fun j v hv => by
    rw [Go.WideShapes.add_plain, Nat.zero_add]
    have hj : j < os.length := by
      rcases Nat.lt_or_ge j os.length with h1 | h1
      · exact h1
      · rw [List.getElem?_eq_none h1] at hv; cases hv
    exact (World.cell?_setCell_far _ _ _ _ h.ne_gO).trans ((h.ro.cellAt j (by omega)).trans hv))
  have HO := Lib.hid h.so.one
  have HN : Hid (os.length = Nat.min m.out.length m.out.length) := Lib.hid (by rw [hol]; exact (Nat.min_self _).symm)
  have HF : Hid (0 + os.length ≤ cur.size) := Lib.hid (by omega)
  have hinf : Hid ((Try.prog.info? 45).map (·.size) = some 1) := Lib.hid (by kernel_rfl)
  clear h hcur hcs hcl hcm hol
  generalize m.out.length = n at *
  go_enter Try.func39, Try.ntmps39
  go_wp2_with fail
  go_region_law (refine step_copy_at rfl (.tmp 8) (.tmp 12) 69 69 rfl 45 Try.underlying69 hinf.out bL _ _ ⟨bO, 0, none⟩ _ _ (by rfl) (by rfl) cur 45 HB.out os HN.out HS.out HF.out HO.out ?_)
  all_goals go_end0
  all_goals exact ⟨rfl, (by have := HX.out; simp only [List.take_zero, List.nil_append, Nat.zero_add] at this; exact this)⟩
end
end Go.Proofs.Ytnjlhallkgacjaa
