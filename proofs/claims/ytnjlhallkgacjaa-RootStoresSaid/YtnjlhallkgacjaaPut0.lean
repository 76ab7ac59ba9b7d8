/- A write that is taken in: what it leaves in memory. -/
import Derived.Test.YtnjlhallkgacjaaRead
import Derived.Laws.IdiomStrings
namespace Go.Proofs.Ytnjlhallkgacjaa
open Go.RowKit

theorem strB_size (bs : List Nat) : (strB bs).size = bs.length := by
  have h := congrArg List.length (strOfNums_data (bs.map Int.ofNat))
  simp only [List.length_map] at h
  unfold strB
  rw [← h]; rfl
theorem strB_get (bs : List Nat) (k : Nat) (hk : k < bs.length) : (strB bs).data[k]? = some (UInt8.ofNat (bs.getD k 0)) := by
  have h := strOfNums_data (bs.map Int.ofNat)
  unfold strB
  rw [← Array.getElem?_toList, h, List.getD_eq_getElem?_getD]
  simp [hk]
/-- What '[]byte(s)' lays reads as the sector. -/
theorem sec_bytes (w : World) (s : List Nat) (cap : Nat) (hs : s.length = 128) (hd : ∀ d ∈ s, d < 256) (h1 : 128 ≤ cap) (h2 : cap ≤ 9223372036854775807) (fr : Nat × Nat) :
    Sec (w.alloc (.cells (bytesRow (strB s) cap) 5 fr)) (.slice (some ⟨w.heap.size, 0, none⟩) 128 cap) s := by
  refine ⟨_, _, _, _, rfl, heap_alloc_new w _, hs, hd, fun i hi => ?_, h1, h2⟩
  unfold bytesRow
  have hsz : ((strB s).data.map (fun b => Value.int .u8 (b.toNat : Int))).size = 128 := by
    rw [Array.size_map]; exact (strB_size s).trans hs
  rw [Array.getElem?_append_left (by rw [hsz]; exact hi), Array.getElem?_map, strB_get s i (by omega)]
  have h3 : s.getD i 0 < 256 := by
    rw [List.getD_eq_getElem?_getD, List.getElem?_eq_getElem (by omega)]
    exact hd _ (List.getElem_mem _)
  simp only [Option.map_some]
  rw [UInt8.toNat_ofNat_of_lt' h3]
section
variable {w w3 : World} {g bO cO bL cL : Nat} {vW : Value} {os ls : List Value} {ws : List Vw} {m : Dsk}
theorem Dk0.put (h : Dk0 w g bO cO bL cL vW os ls ws m) {i : Nat} {s : List Nat} {v : Value} (hi : i < m.out.length) (hs : Sec w v s) {gN cap : Nat} {o : Obj}
    (hown : w3.ownsRow 0 81 2 (.slice (some ⟨gN, 0, none⟩) (m.row.length + 1) cap) (m.row.length + 1) (flat ws ++ [.int .i64 (i : Int), v]))
    (hgrow : (w.drew.alloc o).grownBy w3 vW.ownBlock) (hat : vW.ownBlock = some gN ∨ w.heap.size ≤ gN) :
    Dk0 ((w3.setCell ⟨g, 2, none⟩ (.slice (some ⟨gN, 0, none⟩) (m.row.length + 1) cap)).setCell ⟨bL, i, none⟩ v) g bO cO bL cL (.slice (some ⟨gN, 0, none⟩) (m.row.length + 1) cap) os (ls.set i v) (ws ++ [(i, v)]) { m with row := m.row ++ [(i, s)] } ∧
      Chg (foot g bO bL vW) (foot g bO bL (.slice (some ⟨gN, 0, none⟩) (m.row.length + 1) cap)) w ((w3.setCell ⟨g, 2, none⟩ (.slice (some ⟨gN, 0, none⟩) (m.row.length + 1) cap)).setCell ⟨bL, i, none⟩ v) := by
  have hO : bO < w.heap.size := by obtain ⟨cur, hc⟩ := own_head h.ro rfl; exact lt_of_block hc
  have hL : bL < w.heap.size := by obtain ⟨cur, hc⟩ := own_head h.rl rfl; exact lt_of_block hc
  have hgN : gN ≠ g ∧ gN ≠ bO ∧ gN ≠ bL := by
    rcases hat with e | e
    · exact ⟨Ne.symm (h.ne_gW _ e), Ne.symm (h.ne_OW _ e), Ne.symm (h.ne_LW _ e)⟩
    · have := h.lt; exact ⟨by omega, by omega, by omega⟩
  have hsz : w.heap.size ≤ w3.heap.size := Nat.le_trans (by show _ ≤ (w.drew.alloc o).heap.size; simp) hgrow.size
  have h3 : ∀ k, k < w.heap.size → vW.ownBlock ≠ some k → w3.heap[k]? = w.heap[k]? := fun k hk hne =>
    (hgrow.block k (by show _ < (w.drew.alloc o).heap.size; simp; omega) (fun e => hne e.symm)).trans (Below.heap_alloc w.drew o k hk)
  have hhd : w3.heap[g]? = w.heap[g]? := h3 g h.lt (fun e => h.ne_gW g e rfl)
  have hC : Chg vW.ownBlock.toList vW.ownBlock.toList w w3 := ⟨hgrow.os, hgrow.tape, hgrow.output, hsz, fun k hk hne => h3 k hk (fun e => hne (by simp [e])), fun _ h => .inl h⟩
  have hT : Typed w vW.ownBlock.toList := fun k hk => by
    obtain ⟨cur, hc⟩ := own_head h.rw_ (by simpa using hk); exact ⟨_, _, _, hc, .inr (.inr rfl)⟩
  have h4 : w3.ownsRow 0 45 1 (.slice (some ⟨bO, 0, none⟩) m.out.length cO) m.out.length os := own_other h.ro (fun k hk => by cases hk; exact h3 bO hO (fun e => h.ne_OW bO e rfl))
  have h5 : w3.ownsRow 0 45 1 (.slice (some ⟨bL, 0, none⟩) m.out.length cL) m.out.length ls := own_other h.rl (fun k hk => by cases hk; exact h3 bL hL (fun e => h.ne_LW bL e rfl))
  have hgg := heap_setCell_same w3 g 2 _ _ (.slice (some ⟨gN, 0, none⟩) (m.row.length + 1) cap) (hhd.trans h.hd)
  have hS2 : ∀ k, k ≠ g → (w3.setCell ⟨g, 2, none⟩ (.slice (some ⟨gN, 0, none⟩) (m.row.length + 1) cap)).heap[k]? = w3.heap[k]? := fun k hk => heap_setCell_other _ _ _ _ hk
  have hsz4 : (w3.setCell ⟨g, 2, none⟩ (.slice (some ⟨gN, 0, none⟩) (m.row.length + 1) cap)).heap.size = w3.heap.size := by simp
  have hC4 : Chg (vW.ownBlock.toList ++ [g]) (vW.ownBlock.toList ++ [g]) w (w3.setCell ⟨g, 2, none⟩ (.slice (some ⟨gN, 0, none⟩) (m.row.length + 1) cap)) :=
    ⟨hC.os, hC.tape, hC.output, by rw [hsz4]; exact hsz, fun k hk hne => (hS2 k (fun e => hne (by simp [e]))).trans (hC.block k hk (fun e => hne (by simp at e ⊢; exact .inl e))), fun _ h => .inl h⟩
  have hT4 : Typed w (vW.ownBlock.toList ++ [g]) := fun k hk => by
    rcases List.mem_append.1 hk with hk | hk
    · exact hT k hk
    · obtain rfl := List.mem_singleton.1 hk; exact ⟨_, _, _, h.hd, .inl rfl⟩
  generalize w3.setCell ⟨g, 2, none⟩ (.slice (some ⟨gN, 0, none⟩) (m.row.length + 1) cap) = w4 at *
  have h6 : w4.ownsRow 0 45 1 (.slice (some ⟨bL, 0, none⟩) m.out.length cL) m.out.length ls := own_other h5 (fun k hk => by cases hk; exact hS2 bL (Ne.symm h.ne_gL))
  have hS5 : ∀ k, k ≠ bL → (w4.setCell ⟨bL, i, none⟩ v).heap[k]? = w4.heap[k]? := fun k hk => heap_setCell_other _ _ _ _ hk
  have hC5 : Chg (bL :: (vW.ownBlock.toList ++ [g])) (bL :: (vW.ownBlock.toList ++ [g])) w (w4.setCell ⟨bL, i, none⟩ v) :=
    ⟨hC4.os, hC4.tape, hC4.output, by rw [show (w4.setCell ⟨bL, i, none⟩ v).heap.size = w4.heap.size by simp]; exact hC4.size, fun k hk hne => (hS5 k (fun e => hne (by simp [e]))).trans (hC4.block k hk (fun e => hne (by simp at e ⊢; exact .inr e))), fun _ h => .inl h⟩
  have hT5 : Typed w (bL :: (vW.ownBlock.toList ++ [g])) := fun k hk => by
    rcases List.mem_cons.1 hk with rfl | hk
    · obtain ⟨cur, hc⟩ := own_head h.rl rfl; exact ⟨_, _, _, hc, .inr (.inl rfl)⟩
    · exact hT4 k hk
  have hlast : Dsk.last { m with row := m.row ++ [(i, s)] } = m.last.set i s := appAll_snoc _ _ _
  have hr := (h6.stored i v).1
  refine ⟨⟨(hS5 g h.ne_gL).trans hgg, own_other h4 (fun k hk => ?_), hr, ?_, h.so.chg hC5 hT5, ?_, (h.sw.snoc i hs).chg hC5 hT5, fun e => ?_, h.ne, ⟨h.ok.out, fun x hx => ?_, h.ok.fuse0, h.ok.fuse1⟩⟩, ?_⟩
  · cases hk; exact (hS5 bO h.ne).trans (hS2 bO (Ne.symm h.ne_gO))
  · show World.ownsRow _ 0 81 2 _ (m.row ++ [(i, s)]).length _
    rw [List.length_append, flat_snoc]
    exact own_other hown (fun k hk => by cases hk; exact (hS5 gN hgN.2.2).trans (hS2 gN hgN.1))
  · rw [hlast]; exact (h.sl.set (by rw [last_len]; exact hi) hs).chg hC5 hT5
  · simp at e
  · rcases List.mem_append.1 hx with hx | hx
    · exact h.ok.row x hx
    · obtain rfl := List.mem_singleton.1 hx; exact ⟨hi, hs.len, hs.dig⟩
  · refine ⟨hC5.os, hC5.tape, hC5.output, hC5.size, fun k hk hne => hC5.block k hk (fun e => hne ?_), fun k hk => ?_⟩
    · simp [foot] at e ⊢
      rcases e with e | e | e
      · exact .inr (.inr (.inl e))
      · exact .inr (.inr (.inr e))
      · exact .inl e
    · simp [foot, Value.ownBlock] at hk ⊢
      rcases hk with e | e | e | e
      · exact .inl (.inl e)
      · exact .inl (.inr (.inl e))
      · exact .inl (.inr (.inr (.inl e)))
      · subst e
        rcases hat with e | e
        · exact .inl (.inr (.inr (.inr e)))
        · exact .inr e
end
end Go.Proofs.Ytnjlhallkgacjaa
