/- What is ranged over: a page's slots with records. -/
import Derived.RangeFuncNested
import Derived.RangeFuncBound
import Derived.RangeFuncCalls
import Derived.RangeFuncLeaves
import Derived.RangeFuncBox
import Derived.Shelf.Abstract
import Derived.Shelf.RegionOpen
import Derived.WalkKit
import Derived.OwnWalkIn
import Derived.TacticsInMore
import Derived.LoopNIn
import Derived.LoopIn
import Derived.Lib.SliceRun
import Derived.Test.YtldkmkgkllgckaaAdd
set_option linter.unusedSimpArgs false
namespace Go.Proofs.Ytldkmkgkllgckaa
open Go.RowKit Go.Shelf
attribute [local go_sem] Oper.semAt_some

/-- A copy of a page's row. -/
theorem clone_any {w : World} {v : Value} {l : List Sl} (h : w.ownsRow 0 56 2 v l.length (flat l)) (hl : l.length ≤ 64) : Calls Try.prog 22 #[v] w fun e w' => (∃ v', e = .returned v' ∧ w'.ownsRow w.heap.size 56 2 v' l.length (flat l)) ∧ Below w.heap.size w w' := by
  obtain ⟨i0, hi0, hz0, hz1, hz2⟩ := info_parts infoS
  have HI := Lib.hid hi0
  have HZ0 := Lib.hid hz0
  have HZ1 := Lib.hid hz1
  have HZ2 := Lib.hid hz2
  clear hi0 hz0 hz1 hz2
  rcases h.2 with ⟨rfl, hx⟩ | ⟨g, cap, cur, rfl, hb0, hhd, hlc, hcm, _⟩
  · have hl0 : l = [] := List.length_eq_zero_iff.1 hx
    subst hl0
    have q1 := Lib.run_eql_slice_nil (P := Try.prog) w _ _ none 0 0 0 0 Try.underlying53
    go_enter Try.func22, Try.ntmps22
    go_wp2_with fail
    go_ret
    exact ⟨⟨_, rfl, World.ownsRow_nil _ _ _ _⟩, Below.refl _ _⟩
  · have HE : Hid ((w.alloc (.cells #[] 56)).ownsRow w.heap.size 56 2 (.slice (some ⟨w.heap.size, 0, none⟩) 0 0) 0 []) := Lib.hid ⟨rfl, .inr ⟨w.heap.size, 0, #[], rfl, Nat.le_refl _, heap_alloc_new w _, Nat.le_refl _, Nat.zero_le _, rfl, rfl⟩⟩
    have HNEW : Hid (∀ j u, (flat l)[j]? = some u → (w.alloc (.cells #[] 56)).cell? ((⟨g, 0, none⟩ : Addr).add j) = some u) := Lib.hid (World.ownsRow.cells (h.alloc _) rfl)
    have HLN : Hid ((flat l).length = l.length * 2) := Lib.hid h.1
    have HO := Lib.hid (flat_one_cell l)
    have H63 : Hid (0 + l.length ≤ maxLen) := Lib.hid (by unfold maxLen; omega)
    have HSZ : Hid (w.heap.size ≤ (w.alloc (.cells #[] 56)).heap.size) := Lib.hid (by simp)
    have HB0 : Hid (Below w.heap.size w (w.alloc (.cells #[] 56))) := Lib.hid ((Below.refl _ _).alloc (Nat.le_refl _) _)
    have q1 := Lib.run_eql_slice_nil (P := Try.prog) w _ _ (some ⟨g, 0, none⟩) l.length cap 0 0 Try.underlying53
    clear h
    generalize flat l = xs at *
    generalize l.length = n at *
    go_enter Try.func22, Try.ntmps22
    go_wp2_with (at_builtin; refine wpList_append_own _ rfl (.tmp 5) (.tmp 6) 53 rfl w.heap.size 56 i0 (.agg #[.bool false, .string ⟨#[]⟩]) 2 24 Try.underlying53 HI.out HZ0.out HZ1.out HZ2.out rfl (by decide) (.slice (some ⟨w.heap.size, 0, none⟩) 0 0) 0 [] (by rfl) HE.out ⟨g, 0, none⟩ n cap xs (by rfl) HLN.out HNEW.out HO.out H63.out (by omega) HSZ.out ?_)
    intro v' w1 hown hgrow _
    have hown2 : w1.ownsRow w.heap.size 56 2 v' n xs := by simpa using hown
    have HR := Lib.hid hown2
    clear hown2
    have HB : Hid (Below w.heap.size w w1) := Lib.hid (HB0.out.grown hgrow HSZ.out (fun k e => by cases e; exact Nat.le_refl _))
    clear hown hgrow
    go_wp2_with fail
    go_ret
    exact ⟨⟨v', rfl, HR.out⟩, HB.out⟩
/-- What is told: a slot's number, its record. -/
abbrev Tl (l : List Sl) := { x : Nat × ByteArray // slot l x.1 = some x.2 }
theorem Tl.lt {l : List Sl} (x : Tl l) : x.1.1 < l.length := by
  rcases Nat.lt_or_ge x.1.1 l.length with h | h
  · exact h
  · have := x.2; rw [slot_ge h] at this; cases this
def told (l : List Sl) : Nat → List (Tl l)
  | 0 => []
  | k + 1 => told l k ++ if h : (slot l k).isSome = true then [⟨(k, (slot l k).get h), (Option.some_get h).symm⟩] else []
theorem told_len (l : List Sl) (k : Nat) : (told l k).length ≤ k := by
  induction k with
  | zero => exact Nat.le_refl _
  | succ k ih => show (told l k ++ _).length ≤ _; rw [List.length_append]; split <;> simp <;> omega
theorem told_some {l : List Sl} {k : Nat} {r : ByteArray} (h : slot l k = some r) : told l (k + 1) = told l k ++ [⟨(k, r), h⟩] := by
  show told l k ++ _ = _
  have h1 : (slot l k).isSome = true := by rw [h]; rfl
  rw [dif_pos h1]
  congr 3
  simp [h]
theorem told_none {l : List Sl} {k : Nat} (h : slot l k = none) : told l (k + 1) = told l k := by
  show told l k ++ _ = _
  rw [dif_neg (by rw [h]; simp)]; simp
theorem told_mem {l : List Sl} {k : Nat} {x : Tl l} (h : x ∈ told l k) : x.1.1 < k := by
  induction k with
  | zero => cases h
  | succ k ih =>
    rcases List.mem_append.1 h with h | h
    · have := ih h; omega
    · split at h
      · simp at h; subst h; exact Nat.lt_succ_self k
      · cases h
/-- A row's block lies as it lay. -/
def KeepB (v : Value) (A B : World) : Prop := ∀ b, v.ownBlock = some b → B.heap[b]? = A.heap[b]?
theorem KeepB.refl (v : Value) (A : World) : KeepB v A A := fun _ _ => rfl
theorem KeepB.trans {v : Value} {A B C : World} (h : KeepB v A B) (k : KeepB v B C) : KeepB v A C := fun b hb => (k b hb).trans (h b hb)
theorem KeepB.of_below {v : Value} {n₀ : Nat} {A B : World} (h : Below n₀ A B) (hx : ∀ b, v.ownBlock = some b → b < n₀) : KeepB v A B := fun b hb => h.block b (hx b hb)
theorem KeepB.row {v : Value} {A B : World} {base E m n : Nat} {xs : List Value} (h : KeepB v A B) (hr : A.ownsRow base E m v n xs) : B.ownsRow base E m v n xs := own_other hr (fun b hb => h b hb)
theorem KeepB.put {v : Value} {w : World} (hx : ∀ b, v.ownBlock = some b → b < w.heap.size) (W : World) (k : Nat) (o o' : Obj) (hl : w.heap.size ≤ k) (h : W.heap[k]? = some o) (h1 : o.isCells = false) (h2 : o.isWalk = false) : KeepB v W (W.putObj k o') :=
  KeepB.of_below (belowK_b (w := w) (Nat.le_refl _) W k o o' hl h h1 h2) hx
/-- The cells of a slot of a row. -/
theorem row_at {w : World} {base : Nat} {v : Value} {l : List Sl} (h : w.ownsRow base 56 2 v l.length (flat l)) {k : Nat} (hk : k < l.length) : ∃ b c, v = .slice (some ⟨b, 0, none⟩) l.length c ∧ l.length ≤ c ∧ w.cell? ⟨b, k * 2, none⟩ = some (.bool (slot l k).isSome) ∧ w.cell? ⟨b, k * 2 + 1, none⟩ = some (.string (recOf (slot l k))) := by
  obtain ⟨b, c, e⟩ := own_some h (by omega)
  subst e
  have hc : l.length ≤ c := by
    rcases h.2 with ⟨e, _⟩ | ⟨g', cap, cur, e, _, _, h1, _⟩
    · cases e
    · cases e; exact h1
  obtain ⟨f1, f2⟩ := flat_get l k hk
  have a1 := h.cellAt (k * 2) (by omega)
  have a2 := h.cellAt (k * 2 + 1) (by omega)
  rw [f1] at a1
  rw [f2] at a2
  exact ⟨b, c, rfl, hc, a1, a2⟩
set_option maxRecDepth 100000 in
set_option maxHeartbeats 2000000 in
theorem all1_in (n : Nat) (hn : 1 ≤ n) (y Bs M : Nat) (v : Value) (l : List Sl) (base : Nat) (hl : l.length ≤ 64) (hM : l.length < M) (J Jx : List (Tl l) → World → Prop)
    (hY : ∀ (pre : List (Tl l)) (x : Tl l) W, J pre W → pre.length < M → YieldAt Fence.wide (n - 1) Try.prog y #[.int .i64 (x.1.1 : Int), .string x.1.2] W fun e W' =>
      (e = .returned (.bool true) ∧ J (pre ++ [x]) W' ∧ KeepB v W W') ∨ (e = .returned (.bool false) ∧ Jx (pre ++ [x]) W'))
    (W : World) (hJ : AbidesFrom W.heap.size J) (hBs : W.cell? ⟨Bs, 0, none⟩ = some v) (hS : W.ownsRow base 56 2 v l.length (flat l)) (h0 : J [] W) :
    CallsIn Fence.wide n Try.prog 23 #[.func (.yield y) #[] #[], .pointer (some ⟨Bs, 0, none⟩)] W fun e W' => (∃ v, e = .returned v) ∧
      ((∃ ys, ys = told l l.length ∧ J ys W') ∨ (∃ pre, (∃ j, j ≤ l.length ∧ pre = told l j) ∧ Jx pre W')) := by
  have HS := Lib.hid hS
  have HJ := Lib.hid hJ
  have HM0 := Lib.hid hM
  obtain ⟨q, c, rfl⟩ := own_form hS
  obtain ⟨N, HN⟩ : ∃ N, Hid (l.length = N) := ⟨_, Lib.hid rfl⟩
  rw [HN.out] at hl hBs hY ⊢
  clear hS hM hJ
  refine callsIn_of_wp Try.func23 rfl trivial ?_ rfl
  simp only [Try.ntmps23, List.size_toArray, List.length_cons, List.length_nil, Nat.reduceAdd, Nat.reduceSub, Array.replicate_succ, Array.replicate_zero, List.push_toArray, List.append_toArray, List.nil_append, List.cons_append]
  gi_wp2
  gi_loopw [7] (fun i wr => ∃ k : Nat, k ≤ N ∧ i = .int .i64 (k : Int) ∧ J (told l k) wr ∧ KeepB (.slice q N c) W wr)
    (fun i _ => N - (intOf i).toNat)
  case atStart => exact ⟨0, Nat.zero_le _, by go_num, h0, KeepB.refl _ _⟩
  case round =>
    obtain ⟨k, hk, rfl, hJk, hkp⟩ := hrel
    by_cases hlt : k < N
    · have hkl : k < l.length := by rw [HN.out]; exact hlt
      have hrow := HS.out
      rw [HN.out] at hrow
      have hrow2 := hkp.row hrow
      rw [← HN.out] at hrow2
      obtain ⟨b, c', e, hcc, a1, a2⟩ := row_at hrow2 hkl
      rw [HN.out] at e hcc
      cases e
      have hkN : (k : Int) < (N : Int) := by omega
      have HKP := Lib.hid hkp
      have HLW : Hid (∀ b', (Value.slice (some ⟨b, 0, none⟩) N c).ownBlock = some b' → b' < wr.heap.size) := Lib.hid (fun b' hb => (hrow2.lt b' (by rw [HN.out]; exact hb)).2)
      cases hs : slot l k with
      | none =>
        rw [hs] at a1 a2
        simp only [recOf, Option.getD_none, Option.isSome_none] at a1 a2
        have HT : Hid (told l (k + 1) = told l k) := Lib.hid (told_none hs)
        have hJ2 : J (told l k) (wr.alloc (.cells #[.bool false, .string ⟨#[]⟩] 56)) := HJ.out _ wr _ none hJk (World.grownBy_alloc _ _ none) (fun r e => by cases e)
        have HJ2 := Lib.hid hJ2
        clear hs hrow hrow2 hkp hJ2 hJk
        gi_wp2
        refine ⟨fun f hf => (by cases hf), ?_⟩
        gi_wp2
        go_roundw
        case rel => exact ⟨k + 1, by omega, by go_num, by rw [HT.out]; exact HJ2.out, HKP.out.trans (KeepB.of_below ((Below.refl wr.heap.size wr).alloc (Nat.le_refl _) _) HLW.out)⟩
        case measure => simp [intOf]; omega
      | some r =>
        rw [hs] at a1 a2
        simp only [recOf, Option.getD_some, Option.isSome_some] at a1 a2
        have HT : Hid (told l (k + 1) = told l k ++ [⟨(k, r), hs⟩]) := Lib.hid (told_some hs)
        have hJ2 : J (told l k) (wr.alloc (.cells #[.bool true, .string r] 56)) := HJ.out _ wr _ none hJk (World.grownBy_alloc _ _ none) (fun r e => by cases e)
        have hy0 := hY (told l k) ⟨(k, r), hs⟩ _ hJ2 (by have := told_len l k; have := HM0.out; have := HN.out; omega)
        rw [← HT.out] at hy0
        dsimp only at hy0
        clear HT
        clear hs hrow hrow2 hkp hJk hJ2
        obtain ⟨fn, tmps, assign, body, hy, hR⟩ := hy0
        gi_wp2
        refine hR.mono ?_
        rintro e W3 (⟨rfl, hJ3, hk3⟩ | ⟨rfl, hJx3⟩)
        · have HK3 := Lib.hid hk3
          have HJ3 := Lib.hid hJ3
          clear hk3 hJ3
          gi_wp2
          go_roundw
          case rel => exact ⟨k + 1, by omega, by go_num, HJ3.out, (HKP.out.trans (KeepB.of_below ((Below.refl wr.heap.size wr).alloc (Nat.le_refl _) _) HLW.out)).trans HK3.out⟩
          case measure => simp [intOf]; omega
        · gi_wp2
          refine bodyPost_ret (results_none rfl _ _ _) rfl ?_
          exact ⟨⟨_, rfl⟩, .inr ⟨_, ⟨k + 1, by omega, rfl⟩, hJx3⟩⟩
    · obtain rfl : k = N := by omega
      gi_wp2
      go_end0
      exact ⟨⟨_, rfl⟩, .inl ⟨_, rfl, hJk⟩⟩
end Go.Proofs.Ytldkmkgkllgckaa
