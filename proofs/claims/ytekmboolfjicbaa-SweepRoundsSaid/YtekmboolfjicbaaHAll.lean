/- All objects of a memory, told one by one. -/
import Derived.Test.YtekmboolfjicbaaHDrop
import Derived.Test.YtekmboolfjicbaaHAsk
import Derived.Test.YtekmboolfjicbaaRng
import Derived.Test.YtekmboolfjicbaaRnV
import Derived.Shelf.Abstract
import Derived.Shelf.RegionOpen
import Derived.WalkKit
import Derived.OwnWalkIn
import Derived.TacticsInMore
import Derived.LoopNIn
import Derived.LoopIn
set_option maxRecDepth 20000
set_option linter.unusedSimpArgs false
set_option linter.unusedVariables false
namespace Go.Proofs.Ytekmboolfjicbaa
open Go.RowKit Go.Shelf
attribute [local go_sem] Oper.semAt_some

/-- Refs to the objects at the first places. -/
def refsL (L : Pls) : Nat → List (Int × Int)
  | 0 => []
  | i + 1 => refsL L i ++ (if (clAt L i).isSome then [(8, (i : Int))] else [])
theorem refsL_yes {L : Pls} {i : Nat} {c : Cl} (h : clAt L i = some c) : refsL L (i + 1) = refsL L i ++ [(8, (i : Int))] := by rw [refsL, h]; rfl
theorem refsL_no {L : Pls} {i : Nat} (h : clAt L i = none) : refsL L (i + 1) = refsL L i := by rw [refsL, h]; simp
theorem refsL_mem {L : Pls} {n : Nat} {v : Int × Int} : v ∈ refsL L n ↔ ∃ i, i < n ∧ v = (8, (i : Int)) ∧ (clAt L i).isSome = true := by
  induction n with
  | zero => simp [refsL]
  | succ n ih =>
    rw [refsL, List.mem_append, ih]
    constructor
    · rintro (⟨i, hi, h1, h2⟩ | h)
      · exact ⟨i, by omega, h1, h2⟩
      · split at h
        · rename_i hs
          simp at h
          exact ⟨n, by omega, h, hs⟩
        · cases h
    · rintro ⟨i, hi, h1, h2⟩
      rcases Nat.lt_or_ge i n with h3 | h3
      · exact .inl ⟨i, h3, h1, h2⟩
      · have : i = n := by omega
        subst this
        rw [if_pos h2]
        exact .inr (by simp [h1])
theorem refsL_nodup (L : Pls) (n : Nat) : (refsL L n).Nodup := by
  induction n with
  | zero => simp [refsL]
  | succ n ih =>
    rw [refsL, List.nodup_append]
    refine ⟨ih, by split <;> simp, ?_⟩
    rintro a ha b hb rfl
    obtain ⟨i, hi, e, _⟩ := refsL_mem.1 ha
    split at hb
    · simp at hb
      rw [hb] at e
      have := congrArg Prod.snd e
      simp at this
      omega
    · cases hb
theorem refsL_len (L : Pls) (n : Nat) : (refsL L n).length ≤ n := by
  induction n with
  | zero => simp [refsL]
  | succ n ih => rw [refsL, List.length_append]; split <;> simp <;> omega
theorem flatV_snoc (T : List (Int × Int)) (x : Int × Int) : flatV (T ++ [x]) = flatV T ++ [.int .i64 x.1, .int .i64 x.2] := by rw [flatV_append]; rfl
/-- A box that holds a slice of values of its own. -/
def BoxV (w : World) (lo B : Nat) (T : List (Int × Int)) : Prop := ∃ v, w.heap[B]? = some (.cells #[v] 23 (0, 0)) ∧ w.ownsRow lo 36 2 v T.length (flatV T)
theorem BoxV.below {w w' : World} {lo B : Nat} {T : List (Int × Int)} (h : BoxV w lo B T) (hb : Below w.heap.size w w') : BoxV w' lo B T := by
  obtain ⟨v, h1, h2⟩ := h
  exact ⟨v, (hb.block _ (lt_of_block h1)).trans h1, own_below h2 hb⟩
theorem own_lo {w : World} {base E m n : Nat} {v : Value} {xs : List Value} (h : w.ownsRow base E m v n xs) {b : Nat} (e : v.ownBlock = some b) : base ≤ b := by
  rcases h.2 with ⟨e2, _⟩ | ⟨g, cap, cur, e2, hb, _⟩
  · rw [e2] at e; simp [Value.ownBlock] at e
  · rw [e2] at e; simp [Value.ownBlock] at e; omega
/-- One value more, in the box. -/
theorem BoxV.grow {w w3 w4 : World} {lo B gN cap : Nat} {v : Value} {T : List (Int × Int)} {tmp : Obj} {x : Int × Int} (h1 : w.heap[B]? = some (.cells #[v] 23 (0, 0))) (h2 : w.ownsRow lo 36 2 v T.length (flatV T)) (hlo : lo ≤ B) (hb : Below w.heap.size w w3)
    (hown : w4.ownsRow lo 36 2 (.slice (some ⟨gN, 0, none⟩) (T.length + 1) cap) (T.length + 1) (flatV T ++ [.int .i64 x.1, .int .i64 x.2])) (hgrow : (w3.alloc tmp).grownBy w4 v.ownBlock) (hat : v.ownBlock = some gN ∨ gN = w3.heap.size + 1) :
    w4.cell? ⟨B, 0, none⟩ = some v ∧ w4.frozen? ⟨B, 0, none⟩ = false ∧ BoxV (w4.setCell ⟨B, 0, none⟩ (.slice (some ⟨gN, 0, none⟩) (T.length + 1) cap)) lo B (T ++ [x]) ∧ Below lo w (w4.setCell ⟨B, 0, none⟩ (.slice (some ⟨gN, 0, none⟩) (T.length + 1) cap)) := by
  have hB := lt_of_block h1
  have hz := hb.size
  have hvB : v.ownBlock ≠ some B := fun e => by
    obtain ⟨cur, hc⟩ := own_head h2 e
    rw [h1] at hc; cases hc
  have hblk : ∀ b, b < w.heap.size → v.ownBlock ≠ some b → w4.heap[b]? = w.heap[b]? := fun b hbl he =>
    (hgrow.block b (by simp; omega) (fun e => he e.symm)).trans ((Below.heap_alloc w3 _ b (by omega)).trans (hb.block b hbl))
  have h4 := (hblk B hB hvB).trans h1
  have hNB : gN ≠ B := by
    rcases hat with e | e
    · intro e2; exact hvB (by rw [e, e2])
    · omega
  have hsz : w3.heap.size ≤ w4.heap.size := Nat.le_trans (by simp) hgrow.size
  refine ⟨?_, frozen_of_row _ _ 0 _ _ h4, ⟨_, heap_setCell_same w4 B 0 _ _ _ h4, ?_⟩, ⟨hgrow.os.trans hb.os, hgrow.tape.trans hb.tape, hgrow.output.trans hb.output, by simp; omega, fun b hbl => ?_⟩⟩
  · rw [cell_of_row _ _ 0 _ _ _ h4]; rfl
  · rw [List.length_append, flatV_snoc]
    exact own_other hown fun b e => by
      have e2 : gN = b := by simpa [Value.ownBlock] using e
      exact heap_setCell_other _ _ _ _ (fun e3 => hNB (by rw [e2, e3]))
  · exact (heap_setCell_other _ _ _ _ (show b ≠ B by omega)).trans (hblk b (by omega) fun e => by have := own_lo h2 e; omega)
section
variable {w : World} {g mb : Nat} {vr : Value} {S : Nat → Option Pos} {m : Hm}
set_option maxHeartbeats 1600000 in
theorem Hp.all (h : Hp w g vr mb S m) : Calls Try.prog 35 #[.pointer (some ⟨g, 0, none⟩)] w fun e w' => e = .returned (.func (.func 56) #[] #[.pointer (some ⟨w.heap.size, 0, none⟩)]) ∧ BoxV w' w.heap.size w.heap.size (refsL m.L m.L.length) ∧ Below w.heap.size w w' := by
  have hmf : ∀ (fn : Fn) (first cap : Array Value) (w : World), (Instr.makeFunc fn first cap).run Try.prog w = .ok (.func fn first cap) w := fun _ _ _ _ => rfl
  have hb0 := alloc_below w (.cells #[.slice none 0 0] 23)
  have h1 := h.below hb0
  have c1 := h1.c1
  have hs := h.short
  have hx := heap_alloc_new w (.cells #[.slice none 0 0] 23)
  have HJ0 : Hid (BoxV (w.alloc (.cells #[.slice none 0 0] 23)) w.heap.size w.heap.size (refsL m.L 0) ∧ Below w.heap.size w (w.alloc (.cells #[.slice none 0 0] 23))) := Lib.hid ⟨⟨_, hx, World.ownsRow_nil _ _ _ _⟩, hb0⟩
  have HAT : Hid (∀ wr, Below w.heap.size w wr → ∀ k, k < m.L.length → ∃ b c, vr = .slice (some ⟨b, 0, none⟩) m.L.length c ∧ wr.cell? ⟨b, k, none⟩ = some (ptrV S k)) := Lib.hid fun wr hb k hk => by
    obtain ⟨b, c, e, _, h4, _⟩ := (h.below hb).at' hk
    exact ⟨b, c, e, h4⟩
  have HY : Hid (∀ k c, clAt m.L k = some c → ∃ y, ptrV S k = .pointer (some ⟨y, 0, none⟩)) := Lib.hid fun k c hc => by
    obtain ⟨y, hy, _⟩ := h.at_ k c hc
    exact ⟨y.1, by unfold ptrV; rw [hy]; rfl⟩
  have HN : Hid (∀ k, clAt m.L k = none → ptrV S k = .pointer none) := Lib.hid fun k hc => by unfold ptrV; rw [h.none_ k hc]; rfl
  obtain ⟨q, cp, e⟩ := h.form
  subst e
  obtain ⟨i0, hi0, hz0, hz1, hz2⟩ := info_parts Try.infoV
  have HI0 := Lib.hid hi0
  have HZ0 := Lib.hid hz0
  have HZ1 := Lib.hid hz1
  have HZ2 := Lib.hid hz2
  have HSH := Lib.hid hs
  clear h h1 hb0 hx hi0 hz0 hz1 hz2
  generalize hN : m.L.length = N at *
  go_enter Try.func35, Try.ntmps35
  go_wp2_with fail
  go_loopw [13] (fun iv wr => ∃ i : Nat, i ≤ N ∧ iv = .int .i64 (i : Int) ∧ Hid (BoxV wr w.heap.size w.heap.size (refsL m.L i) ∧ Below w.heap.size w wr)) (fun iv _ => N - (intOf iv).toNat)
  case atStart => exact ⟨0, by omega, by go_num, HJ0⟩
  case round =>
    obtain ⟨i, hi, rfl, HJ⟩ := hrel
    clear HJ0
    by_cases hlt : i < N
    · obtain ⟨b, c', e, a1⟩ := HAT.out wr HJ.out.2 i hlt
      cases e
      have hil : (i : Int) < (N : Int) := by omega
      have hi2 : (i : Int) ≤ 16384 := by omega
      have HLT : Hid (i + 1 ≤ N) := Lib.hid hlt
      cases hc : clAt m.L i with
      | none =>
        rw [HN.out i hc] at a1
        have HJ2 : Hid (BoxV wr w.heap.size w.heap.size (refsL m.L (i + 1)) ∧ Below w.heap.size w wr) := Lib.hid (by rw [refsL_no hc]; exact HJ.out)
        clear HAT hlt hc HJ
        go_wp2_with fail
        go_roundw
        case rel => exact ⟨i + 1, HLT.out, by go_num, HJ2⟩
        case measure => simp [intOf]; omega
      | some cc =>
        obtain ⟨y, hy⟩ := HY.out i cc hc
        rw [hy] at a1
        obtain ⟨⟨v, h1, h2⟩, hbw⟩ := HJ.out
        have x0 := cell_of_row _ _ 0 _ _ _ h1
        simp at x0
        obtain ⟨qv, dv, e⟩ := own_form h2
        subst e
        have hrl := refsL_len m.L i
        have HGR : Hid (∀ w3, Below wr.heap.size wr w3 → ∀ w4 gN cap, w4.ownsRow w.heap.size 36 2 (.slice (some ⟨gN, 0, none⟩) ((refsL m.L i).length + 1) cap) ((refsL m.L i).length + 1) (flatV (refsL m.L i) ++ [.int .i64 8, .int .i64 (i : Int)]) → ((w3.alloc (.cells #[.int .i64 8, .int .i64 (i : Int)] 36)).drew).grownBy w4 (Value.slice qv (refsL m.L i).length dv).ownBlock → ((Value.slice qv (refsL m.L i).length dv).ownBlock = some gN ∨ gN = w3.heap.size + 1) →
            w4.cell? ⟨w.heap.size, 0, none⟩ = some (.slice qv (refsL m.L i).length dv) ∧ w4.frozen? ⟨w.heap.size, 0, none⟩ = false ∧ (BoxV (w4.setCell ⟨w.heap.size, 0, none⟩ (.slice (some ⟨gN, 0, none⟩) ((refsL m.L i).length + 1) cap)) w.heap.size w.heap.size (refsL m.L (i + 1)) ∧ Below w.heap.size w (w4.setCell ⟨w.heap.size, 0, none⟩ (.slice (some ⟨gN, 0, none⟩) ((refsL m.L i).length + 1) cap)))) := Lib.hid fun w3 hb3 w4 gN cap hown hgrow0 hat => by
          have hgrow : (w3.alloc (.cells #[.int .i64 8, .int .i64 (i : Int)] 36)).grownBy w4 (Value.slice qv (refsL m.L i).length dv).ownBlock := ⟨hgrow0.os, hgrow0.tape, hgrow0.output, hgrow0.size, hgrow0.block⟩
          obtain ⟨g1, g2, g3, g4⟩ := BoxV.grow (x := (8, (i : Int))) h1 h2 (Nat.le_refl _) hb3 hown hgrow hat
          rw [refsL_yes hc]
          exact ⟨g1, g2, g3, hbw.trans g4⟩
        have HOWN : Hid (∀ W, Below wr.heap.size wr W → W.ownsRow w.heap.size 36 2 (.slice qv (refsL m.L i).length dv) (refsL m.L i).length (flatV (refsL m.L i))) := Lib.hid fun W hb => own_below h2 hb
        have HXL := Lib.hid (lt_of_block h1)
        have HZB := Lib.hid hbw.size
        have HN0 : Hid (0 < 1) := Lib.hid (by decide)
        have H63 : Hid ((refsL m.L i).length + 1 ≤ maxLen) := Lib.hid (by unfold maxLen; omega)
        have HBY : Hid (((refsL m.L i).length + 1) * 16 ≤ 140737488355328) := Lib.hid (by omega)
        have HONE : Hid (∀ u ∈ [Value.int .i64 8, .int .i64 (i : Int)], u.oneCell' = true) := Lib.hid (by intro u hu; simp at hu; rcases hu with rfl | rfl <;> rfl)
        clear h1 h2 hbw HAT hlt hc HJ hrl
        generalize flatV (refsL m.L i) = FL at *
        generalize (refsL m.L i).length = nn at *
        go_upto_region 7 with fail
        go_region_law (first
          | (go_simp; go_at_call 32; refine (refTo_any (i : Int) _).mono ?_; rintro e w3 ⟨rfl, hb3⟩; have HB3 : Hid (Below wr.heap.size wr w3) := Lib.hid (by first | exact (Below.refl _ _).drew.trans hb3 | exact hb3); have x0a := ((HB3.out.alloc HB3.out.size (.cells #[.int .i64 8, .int .i64 (i : Int)] 36)).cell (p := ⟨w.heap.size, 0, none⟩) HXL.out).trans x0; have x0 := (HB3.out.cell (p := ⟨w.heap.size, 0, none⟩) HXL.out).trans x0)
          | (refine step_append_lies _ rfl (.tmp 20) (.tmp 23) 23 rfl w.heap.size 36 i0 (.agg #[.int .i64 0, .int .i64 0]) 2 16 Try.underlying23 HI0.out HZ0.out HZ1.out HZ2.out rfl (by decide) (.slice qv nn dv) nn FL (by rfl) (HOWN.out _ (by first | exact (HB3.out.alloc HB3.out.size _).drew | exact (HB3.out.alloc HB3.out.size _))) ⟨_, 0, none⟩ 1 1 [.int .i64 8, .int .i64 (i : Int)] (by rfl) rfl (World.news_of_block (heap_alloc_new _ _)) HONE.out HN0.out H63.out HBY.out (by have := HZB.out; have := HB3.out.size; simp; omega) _ rfl ?_; intro gN cap w4 hown hgrow hat hlt4; obtain ⟨u0, u1, HZ⟩ := HGR.out _ HB3.out w4 gN cap hown (by first | exact hgrow | exact ⟨hgrow.os, hgrow.tape, hgrow.output, hgrow.size, hgrow.block⟩) (by simpa using hat); have HZF := Lib.hid HZ; clear HZ hown hgrow hat hlt4))
        all_goals (
          go_wp2_with fail
          go_roundw
          case rel => exact ⟨i + 1, HLT.out, by go_num, HZF⟩
          case measure => simp [intOf]; omega)
    · obtain rfl : i = N := by omega
      go_wp2_with fail
      go_ret
      exact ⟨rfl, HJ.out⟩
end
/-- What the iterator leans on: its box, and the row of values. -/
def GoodA (B : Nat) (v : Value) (T : List (Int × Int)) (_i : Nat) (W : World) : Prop := W.cell? ⟨B, 0, none⟩ = some v ∧ W.ownsRow 0 36 2 v T.length (flatV T)
set_option maxRecDepth 100000 in
set_option maxHeartbeats 2000000 in
theorem hall_seq (n : Nat) (hn : 1 ≤ n) (B : Nat) (v : Value) (T : List (Int × Int)) (hT : T.length ≤ 100000) : SeqJ Fence.wide n Try.prog 56 #[.pointer (some ⟨B, 0, none⟩)] (fun x : Int × Int => #[.agg #[.int .i64 x.1, .int .i64 x.2]]) (GoodA B v T) (fun i x _ => T[i]? = some x) (fun i _ => T.length ≤ i) := by
  intro l J W hJ hG hY h0
  have HY := Lib.hid hY
  have HJ := Lib.hid hJ
  have HG := Lib.hid hG
  have H0 := Lib.hid h0
  obtain ⟨hc, hr⟩ := hG 0 W h0
  obtain ⟨q, d, e⟩ := own_form hr
  subst e
  have HTL := Lib.hid hT
  have HJ1 : Hid (∀ i wr x, J i wr → J i (wr.alloc (.cells x 36))) := Lib.hid fun i wr x hj => hJ i wr _ none hj (World.grownBy_alloc wr _ none) (fun r e => by cases e)
  clear hY hJ hG h0 hr
  generalize hN : T.length = N at *
  refine callsIn_of_wp Try.func56 rfl trivial ?_ rfl
  simp only [Try.ntmps56, List.size_toArray, List.length_cons, List.length_nil, Nat.reduceAdd, Nat.reduceSub, Array.replicate_succ, Array.replicate_zero, List.push_toArray, List.append_toArray, List.nil_append, List.cons_append]
  gi_wp2
  gi_loopw [7] (fun i wr => ∃ s : Nat, s ≤ N ∧ i = .int .i64 (s : Int) ∧ Hid (J s wr)) (fun i _ => N - (RowKit.intOf i).toNat)
  case atStart => exact ⟨0, by omega, rfl, H0⟩
  case round =>
    obtain ⟨s, hs, rfl, HS⟩ := hrel
    clear H0
    by_cases hlt : s < N
    · have hd : decide ((s : Int) < (N : Int)) = true := decide_eq_true (by omega)
      have hd2 : decide (s < N) = true := decide_eq_true hlt
      have hls : (s : Int) < (N : Int) := by omega
      obtain ⟨x, hx⟩ : ∃ x, T[s]? = some x := ⟨T[s], List.getElem?_eq_getElem (by omega)⟩
      obtain ⟨a, b⟩ := x
      obtain ⟨hc2, hr2⟩ := HG.out s wr HS.out
      rw [hN] at hr2
      obtain ⟨bb, dd, e⟩ := own_some hr2 (by omega)
      cases e
      obtain ⟨f0, f1⟩ := flatV_get T s (by omega)
      have eg : T.getD s (0, 0) = (a, b) := by rw [List.getD_eq_getElem?_getD, hx]; rfl
      rw [eg] at f0 f1
      have y0 := hr2.cellAt (s * 2) (by omega)
      have y1 := hr2.cellAt (s * 2 + 1) (by omega)
      rw [f0] at y0
      rw [f1] at y1
      have hy0 := HY.out s (a, b) (wr.alloc (.cells #[.int .i64 a, .int .i64 b] 36)) (HJ1.out s wr _ HS.out) hx
      obtain ⟨fn, tmps, assign, body, hy, hR⟩ := hy0
      have HR := Lib.hid hR
      have hz : (s : Int) ≤ 99999 := by have := HTL.out; omega
      have HLT : Hid (s + 1 ≤ N) := Lib.hid (by omega)
      clear hR hr2 hx hlt hc2 f0 f1 eg
      gi_wp2
      refine HR.out.mono ?_
      rintro e W3 ⟨rfl, hJ3⟩
      gi_wp2
      go_roundw
      case rel => exact ⟨s + 1, HLT.out, by go_num, Lib.hid hJ3⟩
      case measure => simp [RowKit.intOf]; omega
    · have hd : decide ((s : Int) < (N : Int)) = false := decide_eq_false (by omega)
      have hd2 : decide (s < N) = false := decide_eq_false hlt
      have HE : Hid (N ≤ s) := Lib.hid (by omega)
      clear hlt
      gi_wp2
      go_end0
      exact ⟨⟨_, rfl⟩, s, HS.out, HE.out⟩
end Go.Proofs.Ytekmboolfjicbaa
