/- The scanner takes a token. -/
import Derived.Test.YtjpbbooeihdnfaaDoorLD2
import Derived.Deep.AppendLies
set_option maxRecDepth 20000
set_option linter.unusedSimpArgs false
set_option linter.unusedVariables false
namespace Go.Proofs.YtjpbbooeihdnfaaDoor
open Go.RowKit

section
variable {w w' : World} {B b a : Nat} {S : ByteArray} {v : Value} {tight : Bool} {l : List (Tk × Nat)}
set_option maxHeartbeats 3200000 in
theorem Scn.take (h : Scn w B b S a v tight l) (hS : S.size ≤ 5000) (t : Tk) (n : Nat) (tg : Bool) (hn : a + n ≤ S.size) (hl : l.length ≤ a) :
    Calls Tryd.prog 34 #[.pointer (some ⟨b, 0, none⟩), .agg (tkC t 0), .int .i64 (n : Int), .bool tg] w fun e w' => e = .returned (.tuple #[.int .i64 0, .int .i64 0]) ∧ Below B w w' ∧ ∃ v', Scn w' B b S (a + n) v' tg (l ++ [(t, a)]) := by
  obtain ⟨tk, tn, ts⟩ := t
  obtain ⟨T, hT⟩ : ∃ T : ByteArray, T = ⟨ts.toArray⟩ := ⟨_, rfl⟩
  have HT := Lib.hid hT
  unfold tkC
  dsimp only
  rw [← hT]
  clear hT
  have HH := Lib.hid h
  have HB0 := Lib.hid (alloc_below w (.cells #[.int .i64 (tk : Int), .int .i64 tn, .string T, .int .i64 0] 30))
  have HX0 : Hid (Bx4 (w.alloc (.cells #[.int .i64 (tk : Int), .int .i64 tn, .string T, .int .i64 0] 30)) w.heap.size #[.int .i64 (tk : Int), .int .i64 tn, .string T, .int .i64 0]) := Lib.hid (Bx4.new _ _)
  have HL := Lib.hid h.lt
  clear h
  go_enter Tryd.func34, Tryd.ntmps34
  go_upto_region 1 with fail
  generalize w.alloc (.cells #[.int .i64 (tk : Int), .int .i64 tn, .string T, .int .i64 0] 30) = W1 at *
  obtain ⟨⟨c0, c1, c2, c3⟩, fz⟩ := (HH.out.below HB0.out).cells
  obtain ⟨⟨q0, q1, q2, q3⟩, g0, g1, g2, g3⟩ := HX0.out.cells
  go_upto_region 2 with fail
  have hxr := heap_setCell_same _ _ 3 _ _ (.int .i64 (a : Int)) HX0.out.row
  have HB2 : Hid (Below w.heap.size w (W1.setCell ⟨w.heap.size, 3, none⟩ (.int .i64 (a : Int)))) := Lib.hid (HB0.out.setCell (p := ⟨w.heap.size, 3, none⟩) (Nat.le_refl _) _)
  generalize W1.setCell ⟨w.heap.size, 3, none⟩ (.int .i64 (a : Int)) = W2 at *
  have hxr2 : W2.heap[w.heap.size]? = some (.cells #[.int .i64 (tk : Int), .int .i64 tn, .string T, .int .i64 (a : Int)] 30 (0, 0)) := hxr
  clear hxr c0 c1 c2 c3 fz q0 q1 q2 q3 g0 g1 g2 g3 HX0 HB0
  have HS2 := Lib.hid (HH.out.below HB2.out)
  obtain ⟨⟨c0, c1, c2, c3⟩, fz⟩ := HS2.out.cells
  have q0 := cell_of_row _ _ 0 _ _ _ hxr2
  have q1 := cell_of_row _ _ 1 _ _ _ hxr2
  have q2 := cell_of_row _ _ 2 _ _ _ hxr2
  have q3 := cell_of_row _ _ 3 _ _ _ hxr2
  simp at q0 q1 q2 q3
  have HXR := Lib.hid hxr2
  have c2a : (W2.alloc (.cells #[.int .i64 (tk : Int), .int .i64 tn, .string T, .int .i64 (a : Int)] 30)).cell? ⟨b, 2, none⟩ = some v := (World.cell?_alloc_lt _ _ _ HS2.out.lt).trans c2
  have HOWN : Hid (∀ o : Obj, (W2.alloc o).drew.ownsRow B 30 4 v l.length (tkL l)) := Lib.hid (fun o => own_other (w := W2) HS2.out.own (fun k hk => Below.heap_alloc W2 o k ((HS2.out.own.lt k hk).2)))
  have HONE : Hid (∀ u ∈ [Value.int .i64 (tk : Int), .int .i64 tn, .string T, .int .i64 (a : Int)], u.oneCell' = true) := Lib.hid (by
    intro u hu
    simp at hu
    rcases hu with rfl | rfl | rfl | rfl <;> rfl)
  have HFAR : Hid (∀ (o : Obj) (w3 : World), (W2.alloc o).drew.grownBy w3 v.ownBlock → w3.frozen? ⟨b, 2, none⟩ = false ∧ w3.cell? ⟨b, 2, none⟩ = some v) := Lib.hid (fun o w3 hg => by
    have hG := (hg.block b (by show _ < (W2.alloc o).heap.size; have := HS2.out.lt; simp; omega) (fun e => HS2.out.ne e.symm)).trans (Below.heap_alloc W2 o b HS2.out.lt)
    exact ⟨(World.frozen?_of_block hG).trans (fz 2), (World.cell?_of_block hG).trans c2⟩)
  obtain ⟨i0, hi, hz0, hz1, hz2⟩ := info_parts infoTok
  have HI := Lib.hid hi
  have HZ0 := Lib.hid hz0
  have HZ1 := Lib.hid hz1
  have HZ3 := Lib.hid hz2
  have h63 : l.length + 1 ≤ maxLen := by unfold maxLen; omega
  have H63 := Lib.hid h63
  have HNN : Hid ((0 : Nat) < 1) := Lib.hid (by omega)
  have HBY : Hid ((l.length + 1) * 40 ≤ 140737488355328) := Lib.hid (by omega)
  have HBS : Hid (∀ o : Obj, B ≤ (W2.alloc o).drew.heap.size) := Lib.hid fun o => by
    show B ≤ (W2.alloc o).heap.size
    have := HS2.out.base; simp; omega
  have f2 := fz 2
  clear hi hz0 hz1 hz2 h63 hxr2 fz
  obtain ⟨q, m, cq, hvs⟩ : ∃ q m cq, v = .slice q m cq := by
    rcases HS2.out.own.2 with ⟨hv, _⟩ | ⟨g, cap, cur, hv, _⟩
    · exact ⟨_, _, _, hv⟩
    · exact ⟨_, _, _, hv⟩
  subst hvs
  go_region_law (refine step_append_lies _ rfl (.tmp 19) (.tmp 21) 23 rfl B 30 i0 (.agg #[.int .i64 0, .int .i64 0, .string ⟨#[]⟩, .int .i64 0]) 4 40 Tryd.underlying23 HI.out HZ0.out HZ1.out HZ3.out rfl (by decide) (.slice q m cq) l.length (tkL l) (by rfl) (HOWN.out _) ⟨_, 0, none⟩ 1 1 [.int .i64 (tk : Int), .int .i64 tn, .string T, .int .i64 (a : Int)] (by rfl) rfl (World.news_of_block (heap_alloc_new _ _)) HONE.out HNN.out H63.out HBY.out (HBS.out _) _ rfl ?_; intro gN cap2 w3 hown hgrow hat hlt; have hF := HFAR.out _ _ hgrow; have f2 := hF.1; have c2 := hF.2)
  all_goals
    go_upto_region 3 with fail
    have hown2 : w3.ownsRow B 30 4 (.slice (some ⟨gN, 0, none⟩) (l.length + 1) cap2) (l.length + 1) (tkL l ++ (tkC ⟨tk, tn, ts⟩ (a : Int)).toList) := by
      have e : (tkC ⟨tk, tn, ts⟩ (a : Int)).toList = [Value.int .i64 (tk : Int), .int .i64 tn, .string T, .int .i64 (a : Int)] := by rw [HT.out]; rfl
      rw [e]; exact hown
    have HP := Lib.hid (HS2.out.push (t := ⟨tk, tn, ts⟩) hown2 hgrow)
    have HB4 : Hid (Below B w (w3.setCell ⟨b, 2, none⟩ (.slice (some ⟨gN, 0, none⟩) (l.length + 1) cap2))) := by
      have hb1 : Below B w W2 := HB2.out.mono (by have := HH.out.base; exact this)
      have hb2 := (((hb1.alloc HS2.out.base (.cells #[.int .i64 (tk : Int), .int .i64 tn, .string T, .int .i64 (a : Int)] 30)).drew).grown hgrow (HBS.out _) (fun k hk => (HS2.out.own.lt k hk).1))
      exact hb2.setCell (p := ⟨b, 2, none⟩) HH.out.hB _
    clear hown hown2 hgrow hat hlt hF f2 c2
    generalize w3.setCell ⟨b, 2, none⟩ (.slice (some ⟨gN, 0, none⟩) (l.length + 1) cap2) = w4 at *
    obtain ⟨⟨d0, d1, d2, d3⟩, dz⟩ := HP.out.cells
    have z1 := dz 1
    have z3 := dz 3
    have haI : (a : Int) + (n : Int) ≤ 5000 := by omega
    clear dz
    go_wp2_with fail
    go_ret2
    have hs := (HP.out.setAt (a + n)).setTight tg
    rw [Int.natCast_add] at hs
    exact ⟨rfl, (HB4.out.setCell (p := ⟨b, 1, none⟩) HH.out.hB _).setCell (p := ⟨b, 3, none⟩) HH.out.hB _, _, hs⟩
end
end Go.Proofs.YtjpbbooeihdnfaaDoor
