/- Links; slices.Clone of parts. -/
import Derived.Test.YtpdihgmgcamgkaaMine
import Derived.Lib.SliceRun
import Derived.Deep.Cut
set_option linter.unusedSimpArgs false
set_option maxRecDepth 20000
namespace Go.Proofs.Ytpdihgmgcamgkaa
open Go.RowKit

theorem Try.info3 : (Try.prog.info? 3).map (fun i => (i.zero, i.size, i.bytes)) = some (some (.int .i64 0), 1, 8) := by kernel_rfl
def linksM (l : List Pt) : List Int := l.filterMap fun p => if p.k = 8 then some p.n else none
theorem linksM_snoc (l : List Pt) (p : Pt) : linksM (l ++ [p]) = linksM l ++ (if p.k = 8 then [p.n] else []) := by
  unfold linksM
  rw [List.filterMap_append]
  by_cases h : p.k = 8 <;> simp [h]
theorem linksM_len (l : List Pt) : (linksM l).length ≤ l.length := List.length_filterMap_le _ _
def i64s (L : List Int) : List Value := L.map (Value.int .i64)
theorem i64s_app (a b : List Int) : i64s (a ++ b) = i64s a ++ i64s b := List.map_append
theorem Ints.own {w : World} {base n c : Nat} {q : Option Addr} {L : List Int} (h : w.ownsRow base 3 1 (.slice q n c) n (i64s L)) : Ints w q n L := by
  have hl : L.length = n := by have := h.1; unfold i64s at this; rw [List.length_map] at this; omega
  refine ⟨hl, fun hn => ?_⟩
  rcases h.2 with ⟨h0, h1⟩ | ⟨g, cap, cur, e, _⟩
  · cases h0; omega
  · cases e
    refine ⟨g, 0, rfl, fun i hi => ?_⟩
    have h2 := World.ownsRow.cells h (g := g) rfl i (.int .i64 (L.getD i 0)) (by unfold i64s; rw [List.getElem?_map, List.getD_eq_getElem?_getD, List.getElem?_eq_getElem (by omega)]; rfl)
    rw [Go.WideShapes.add_plain] at h2
    exact h2
/-- Amid the loop. -/
structure LiR (w wr : World) (k : Int) (v0 : Value) (S : ByteArray) (v : Value) (L : List Int) : Prop where
  below : Below w.heap.size w wr
  x1 : wr.heap[w.heap.size]? = some (.cells #[.int .i64 k, v0, .string S] 33 (0, 0))
  row : wr.ownsRow (w.heap.size + 1) 3 1 v L.length (i64s L)
theorem LiR.step {w wr w3 : World} {k : Int} {v0 v : Value} {S : ByteArray} {L : List Int} (h : LiR w wr k v0 S v L) (hb : Below wr.heap.size wr w3) : LiR w w3 k v0 S v L :=
  ⟨h.below.trans (hb.mono h.below.size), (hb.block _ (lt_of_block h.x1)).trans h.x1, own_below h.row hb⟩
theorem LiR.next {w wr w3 : World} {k x : Int} {v0 v v' : Value} {S : ByteArray} {L : List Int} (h : LiR w wr k v0 S v L) (ob : Obj) (hown : w3.ownsRow (w.heap.size + 1) 3 1 v' (L.length + 1) (i64s L ++ [.int .i64 x])) (hg : (wr.alloc ob).grownBy w3 v.ownBlock) : LiR w w3 k v0 S v' (L ++ [x]) := by
  have l1 := lt_of_block h.x1
  refine ⟨(h.below.alloc h.below.size ob).grown hg (by have := h.below.size; simp; omega) (fun j e => by have := (h.row.lt j e).1; omega), ?_, ?_⟩
  · exact ((hg.block _ (by simp; omega) (fun e => by have := (h.row.lt _ e.symm).1; omega)).trans (Below.heap_alloc wr ob _ l1)).trans h.x1
  · rw [i64s_app, List.length_append]; exact hown
set_option maxHeartbeats 1600000 in
theorem links_any (r : Rc) (q : Option Addr) (c : Nat) (w : World) (hn : r.parts.length ≤ 1000) (hp : Pts w q r.parts.length r.parts) :
    Calls Try.prog 17 #[r.val q c] w fun e w' => ∃ q' c', e = .returned (.slice q' (linksM r.parts).length c') ∧ Ints w' q' (linksM r.parts).length (linksM r.parts) ∧ Below w.heap.size w w' := by
  have HP := Lib.hid hp
  obtain ⟨i0, hi, hz0, hzs, hzb⟩ := info_parts Try.info3
  have HI := Lib.hid hi
  have HZ0 := Lib.hid hz0
  have HZ1 := Lib.hid hzs
  have HZ2 := Lib.hid hzb
  clear hp hi hz0 hzs hzb
  obtain ⟨k, l, S⟩ := r
  unfold Rc.val
  simp only at HP hn ⊢
  obtain ⟨n, HN⟩ : ∃ n, Hid (l.length = n) := ⟨_, Lib.hid rfl⟩
  rw [HN.out] at HP hn ⊢
  go_enter Try.func17, Try.ntmps17
  go_upto_region 3 with fail
  have HM0 : Hid (LiR w (w.alloc (.cells #[.int .i64 k, .slice q n c, .string S] 33)) k (.slice q n c) S (.slice none 0 0) []) := Lib.hid ⟨(Below.refl _ _).alloc (Nat.le_refl _) _, heap_alloc_new w _, World.ownsRow_nil _ _ _ _⟩
  generalize w.alloc (.cells #[.int .i64 k, .slice q n c, .string S] 33) = W at *
  go_loopw [3, 5, 9] (fun v _ iv wr => ∃ i : Nat, i ≤ n ∧ iv = .int .i64 (i : Int) ∧ Hid (LiR w wr k (.slice q n c) S v (linksM (l.take i)))) (fun _ _ iv _ => n - (intOf iv).toNat)
  case atStart => exact ⟨0, by omega, by go_num, HM0⟩
  case round =>
    obtain ⟨i, hi, rfl, HM⟩ := hrel
    by_cases hlt : i < n
    · obtain ⟨b, o, rfl, hc⟩ := (HP.out.below (HM.out.below.mono (Nat.le_refl _))).2 (by omega)
      obtain ⟨p0, p1, p2⟩ := hc i hlt
      have HTK := Lib.hid (take_pt l i (by rw [HN.out]; exact hlt))
      obtain ⟨p, HPP⟩ : ∃ p, Hid (l.getD i default = p) := ⟨_, Lib.hid rfl⟩
      rw [HPP.out] at p0 p1 p2 HTK
      obtain ⟨pk, pn, ps⟩ := p
      have hd1 : decide ((i : Int) < (n : Int)) = true := by simp; omega
      have HLN : Hid ((linksM (l.take i)).length ≤ i) := Lib.hid (Nat.le_trans (linksM_len _) (by rw [List.length_take]; omega))
      have HSN := Lib.hid (linksM_snoc (l.take i) ⟨pk, pn, ps⟩)
      clear hc
      by_cases h8 : pk = 8
      · subst h8
        have HMa := Lib.hid (HM.out.step ((Below.refl _ _).alloc (Nat.le_refl _) (.cells #[.int .i64 8, .int .i64 pn, .string ps] 54)))
        obtain ⟨qv, cv, hv⟩ := own_form HMa.out.row
        subst hv
        have hxp : (wr.alloc (.cells #[.int .i64 8, .int .i64 pn, .string ps] 54)).heap[wr.heap.size]? = some (.cells #[.int .i64 8, .int .i64 pn, .string ps] 54 (0, 0)) := heap_alloc_new wr _
        go_upto_region 6 with fail
        generalize wr.alloc (.cells #[.int .i64 8, .int .i64 pn, .string ps] 54) = w1 at *
        have c1 := cell_of_row _ _ 1 _ _ _ hxp
        simp at c1
        have HEQ : Hid (linksM (l.take (i + 1)) = linksM (l.take i) ++ [pn]) := Lib.hid (by rw [HTK.out, HSN.out]; simp)
        obtain ⟨m, hm⟩ : ∃ m, Hid ((linksM (l.take i)).length = m) := ⟨_, Lib.hid rfl⟩
        have hml : m ≤ 1000 := by have := HLN.out; rw [hm.out] at this; omega
        have HROW := Lib.hid HMa.out.row
        have HNXT := Lib.hid (fun ob w3 v' h1 h2 => HMa.out.next (w3 := w3) (v' := v') (x := pn) ob h1 h2)
        rw [hm.out] at HROW HNXT
        rw [hm.out]
        have HSZ : Hid (w.heap.size + 1 ≤ w1.heap.size) := Lib.hid (lt_of_block HMa.out.x1)
        go_wp2_with (at_builtin; refine wpList_append_own _ rfl (.tmp 16) (.tmp 19) 44 rfl (w.heap.size + 1) 3 i0 (.int .i64 0) 1 8 Try.underlying44 HI.out HZ0.out HZ1.out HZ2.out rfl (by decide) (.slice qv m cv) m _ (by rfl) (HROW.out.alloc _) ⟨w1.heap.size, 0, none⟩ 1 1 [.int .i64 pn] (by rfl) rfl (one_cells _ _ _) (by intro u hu; simp at hu; subst hu; rfl) (by unfold maxLen; omega) (by omega) (by have := HSZ.out; simp; omega) ?_; intro v' w2 hown hgrow _)
        have HMN := Lib.hid (HNXT.out _ _ _ hown hgrow)
        clear hown hgrow
        go_roundw
        case rel => exact ⟨i + 1, by omega, by go_num, by rw [HEQ.out]; exact HMN⟩
        case measure => simp [intOf]; omega
      · have hb : (pk == 8) = false := beq_eq_false_iff_ne.2 h8
        have HMa := Lib.hid (HM.out.step ((Below.refl _ _).alloc (Nat.le_refl _) (.cells #[.int .i64 pk, .int .i64 pn, .string ps] 54)))
        have HEQ : Hid (linksM (l.take (i + 1)) = linksM (l.take i)) := Lib.hid (by rw [HTK.out, HSN.out]; simp [h8])
        clear h8
        go_wp2_with fail
        go_roundw
        case rel => exact ⟨i + 1, by omega, by go_num, by rw [HEQ.out]; exact HMa⟩
        case measure => simp [intOf]; omega
    · obtain rfl : i = n := by omega
      have HTL : Hid (l.take i = l) := Lib.hid (by rw [← HN.out, List.take_length])
      obtain ⟨hbl, hx, hrow⟩ := HM.out
      rw [HTL.out] at hrow
      obtain ⟨qv, cv, hv⟩ := own_form hrow
      subst hv
      have HRW := Lib.hid (Ints.own hrow)
      have HBL := Lib.hid hbl
      clear hbl hx hrow
      go_wp2_with fail
      go_ret
      exact ⟨qv, cv, rfl, HRW.out, HBL.out⟩
end Go.Proofs.Ytpdihgmgcamgkaa
