/- The law of what is added, put and dropped: the walk. -/
import Derived.Test.YtldkmkgkllgckaaMade
import Derived.Test.YtldkmkgkllgckaaAll
import Derived.Sort.BigQuietIn
set_option linter.unusedSimpArgs false
namespace Go.Proofs.Ytldkmkgkllgckaa
open Go.RowKit Go.Shelf
attribute [local go_sem] Oper.semAt_some

theorem run_equalIn_func_nil (w : World) (d : Nat) (t : TypeId) (s : TypeDesc) (h : Try.prog.underlying t = some s) (hs : ∃ x y z, s = .func x y z) (k : Nat) (caps : Array Value) :
    (Op.equalIn (d + 1) t (.func (.func k) #[] caps) .nilFunc).run Try.prog w = .ok false w := by
  obtain ⟨x, y, z, rfl⟩ := hs
  simp [Op.equalIn, run_underlying h]
theorem eql_nilF (w : World) (k : Nat) (caps : Array Value) : (binOp .eql 29 (.func (.func k) #[] caps) .nilFunc).run Try.prog w = .ok (.bool false) w := by
  simp only [binOp]
  simp [Op.equal, Op.maxDepth, run_equalIn_func_nil w 9999 29 _ Try.underlying29 ⟨_, _, _, rfl⟩ k caps]
theorem kept_cells {X Y : World} {row : Option Nat} (hg : X.grownBy Y row) (hr : ∀ r, row = some r → ∃ o : Obj, X.heap[r]? = some o ∧ o.isCells = false) {b t : Nat} {cs : Array Value} {fr : Nat × Nat} (h : X.heap[b]? = some (.cells cs t fr)) : Y.heap[b]? = some (.cells cs t fr) := by
  refine (hg.block b (lt_of_block h) (fun e => ?_)).trans h
  obtain ⟨o, ho, hc⟩ := hr b e.symm
  rw [h] at ho
  cases ho
  cases hc
theorem kept_row {X Y : World} {row : Option Nat} (hg : X.grownBy Y row) (hr : ∀ r, row = some r → ∃ o : Obj, X.heap[r]? = some o ∧ o.isCells = false) {base E m n : Nat} {v : Value} {xs : List Value} (h : X.ownsRow base E m v n xs) : Y.ownsRow base E m v n xs := by
  refine ⟨h.1, ?_⟩
  rcases h.2 with h2 | ⟨g, cap, cur, e, hb, hgg, hrr⟩
  · exact .inl h2
  · exact .inr ⟨g, cap, cur, e, hb, kept_cells hg hr hgg, hrr⟩
/-- The last number that was told. -/
def lastF {l : List Sl} (pre : List (Tl l)) : Int := match pre.getLast? with | some x => (x.1.1 : Int) | none => -1
theorem lastF_snoc {l : List Sl} (pre : List (Tl l)) (x : Tl l) : lastF (pre ++ [x]) = (x.1.1 : Int) := by unfold lastF; simp
theorem lastF_nil {l : List Sl} : lastF ([] : List (Tl l)) = -1 := rfl
/-- Whether what was told rises. -/
def okR {l : List Sl} : List (Tl l) → Bool
  | [] => true
  | x :: r => okR r && decide (lastF r.reverse < (x.1.1 : Int))
def okF {l : List Sl} (pre : List (Tl l)) : Bool := okR pre.reverse
theorem okF_nil {l : List Sl} : okF ([] : List (Tl l)) = true := rfl
theorem okF_snoc {l : List Sl} (pre : List (Tl l)) (x : Tl l) : okF (pre ++ [x]) = (okF pre && decide (lastF pre < (x.1.1 : Int))) := by
  unfold okF
  rw [List.reverse_append]
  show (okR pre.reverse && decide (lastF pre.reverse.reverse < _)) = _
  rw [List.reverse_reverse]
theorem told_ok (l : List Sl) (k : Nat) : okF (told l k) = true ∧ lastF (told l k) < (k : Int) := by
  induction k with
  | zero => exact ⟨rfl, by rw [show told l 0 = [] from rfl, lastF_nil]; omega⟩
  | succ k ih =>
    cases h : slot l k with
    | none => rw [told_none h]; exact ⟨ih.1, by have := ih.2; omega⟩
    | some r =>
      rw [told_some h, okF_snoc, lastF_snoc, ih.1]
      exact ⟨by simp only [Bool.true_and]; exact decide_eq_true ih.2, by show (k : Int) < _; omega⟩
theorem told_mono (l : List Sl) {i j : Nat} (h : i < j) : (told l (i + 1)).length ≤ (told l j).length := by
  induction j with
  | zero => omega
  | succ j ih =>
    rcases Nat.lt_or_ge i j with h1 | h1
    · refine Nat.le_trans (ih h1) ?_
      show _ ≤ (told l j ++ _).length
      rw [List.length_append]; omega
    · obtain rfl : i = j := by omega
      exact Nat.le_refl _
/-- Amid the loop. -/
structure Pi (w W : World) (b4 b6 : Nat) (xv : Value) (l : List Sl) (pre : List (Tl l)) : Prop where
  x4 : W.heap[b4]? = some (.cells #[xv] 24 (0, 0))
  x6 : W.heap[b6]? = some (.cells #[.int .i64 (lastF pre)] 3 (0, 0))
  x7 : W.heap[b6 + 1]? = some (.cells #[.int .i64 (pre.length : Int)] 3 (0, 0))
  x8 : W.heap[b6 + 2]? = some (.cells #[.bool (okF pre)] 4 (0, 0))
  ref : Rf W xv l
  below : Below w.heap.size w W
theorem Pi.step {w W : World} {b4 b6 : Nat} {xv : Value} {l : List Sl} {pre : List (Tl l)} (h : Pi w W b4 b6 xv l pre) (hb : w.heap.size ≤ b6) (h4 : b4 < b6) (x : Tl l) :
    Pi w (((W.setCell ⟨b6 + 2, 0, none⟩ (.bool (okF (pre ++ [x])))).setCell ⟨b6, 0, none⟩ (.int .i64 (x.1.1 : Int))).setCell ⟨b6 + 1, 0, none⟩ (.int .i64 ((pre.length : Int) + 1))) b4 b6 xv l (pre ++ [x]) := by
  have n1 : ∀ u1 u2 u3 k, k ≠ b6 → k ≠ b6 + 1 → k ≠ b6 + 2 → (((W.setCell ⟨b6 + 2, 0, none⟩ u1).setCell ⟨b6, 0, none⟩ u2).setCell ⟨b6 + 1, 0, none⟩ u3).heap[k]? = W.heap[k]? := fun u1 u2 u3 k h1 h2 h3 => by
    rw [heap_setCell_other _ _ _ _ (by show k ≠ b6 + 1; exact h2), heap_setCell_other _ _ _ _ (by show k ≠ b6; exact h1), heap_setCell_other _ _ _ _ (by show k ≠ b6 + 2; exact h3)]
  refine ⟨(n1 _ _ _ b4 (by omega) (by omega) (by omega)).trans h.x4, ?_, ?_, ?_, ?_, ((h.below.setCell (p := ⟨b6 + 2, 0, none⟩) (by show _ ≤ b6 + 2; omega) _).setCell (p := ⟨b6, 0, none⟩) hb _).setCell (p := ⟨b6 + 1, 0, none⟩) (by show _ ≤ b6 + 1; omega) _⟩
  · rw [lastF_snoc, heap_setCell_other _ _ _ _ (by show b6 ≠ b6 + 1; omega)]
    exact heap_setCell_same _ b6 0 _ 3 _ ((heap_setCell_other _ _ _ _ (by show b6 ≠ b6 + 2; omega)).trans h.x6)
  · rw [List.length_append]
    exact heap_setCell_same _ (b6 + 1) 0 _ 3 _ ((heap_setCell_other _ _ _ _ (by show b6 + 1 ≠ b6; omega)).trans ((heap_setCell_other _ _ _ _ (by show b6 + 1 ≠ b6 + 2; omega)).trans h.x7))
  · rw [heap_setCell_other _ _ _ _ (by show b6 + 2 ≠ b6 + 1; omega), heap_setCell_other _ _ _ _ (by show b6 + 2 ≠ b6; omega)]
    exact heap_setCell_same W (b6 + 2) 0 _ 4 _ h.x8
  · refine own_other h.ref (fun k hk => ?_)
    obtain ⟨cur, hc⟩ := own_head h.ref hk
    exact n1 _ _ _ k (ne_of_ty hc h.x6 (by decide)) (ne_of_ty hc h.x7 (by decide)) (ne_of_ty hc h.x8 (by decide))
theorem Pi.own {w w3 : World} {b4 b6 : Nat} {xv : Value} {l : List Sl} (h : w.heap.size ≤ w3.heap.size) : OwnFrom w3.heap.size (fun pre W => Pi w W b4 b6 xv l pre) := fun _ _ _ _ hs hg hr =>
  have hr2 := fun r e => (hr r e).2
  ⟨kept_cells hg hr2 hs.x4, kept_cells hg hr2 hs.x6, kept_cells hg hr2 hs.x7, kept_cells hg hr2 hs.x8, kept_row hg hr2 hs.ref, hs.below.grown hg hs.below.size (fun k e => Nat.le_trans h (hr k e).1)⟩
/-- Behind the loop: what is left to be counted. -/
structure Qi (w W : World) (D b4 b6 : Nat) (xv : Value) (l : List Sl) (m : Int) : Prop where
  x4 : W.heap[b4]? = some (.cells #[xv] 24 (0, 0))
  x7 : W.heap[b6 + 1]? = some (.cells #[.int .i64 m] 3 (0, 0))
  x8 : W.heap[b6 + 2]? = some (.cells #[.bool true] 4 (0, 0))
  ref : Rf W xv l
  below : Below w.heap.size w W
  def_ : W.heap[D]? = some (.deferred (some []))
  hD : b6 + 3 ≤ D
  hb : w.heap.size ≤ b6
  h4 : b4 < b6
section
variable {w W : World} {D b4 b6 : Nat} {xv : Value} {l : List Sl} {m : Int}
theorem Qi.c4 (h : Qi w W D b4 b6 xv l m) : W.cell? ⟨b4, 0, none⟩ = some xv := by rw [cell_of_row _ _ 0 _ _ _ h.x4]; rfl
theorem Qi.c7 (h : Qi w W D b4 b6 xv l m) : W.cell? ⟨b6 + 1, 0, none⟩ = some (.int .i64 m) := by rw [cell_of_row _ _ 0 _ _ _ h.x7]; rfl
theorem Qi.c8 (h : Qi w W D b4 b6 xv l m) : W.cell? ⟨b6 + 2, 0, none⟩ = some (.bool true) := by rw [cell_of_row _ _ 0 _ _ _ h.x8]; rfl
theorem Qi.f7 (h : Qi w W D b4 b6 xv l m) : W.frozen? ⟨b6 + 1, 0, none⟩ = false := frozen_of_row _ _ 0 _ _ h.x7
theorem Qi.step (h : Qi w W D b4 b6 xv l m) (m' : Int) : Qi w (W.setCell ⟨b6 + 1, 0, none⟩ (.int .i64 m')) D b4 b6 xv l m' := by
  have n1 : ∀ k, k ≠ b6 + 1 → (W.setCell ⟨b6 + 1, 0, none⟩ (.int .i64 m')).heap[k]? = W.heap[k]? := fun k hk => heap_setCell_other _ _ _ _ hk
  have hD := h.hD
  have hb := h.hb
  have h4 := h.h4
  refine ⟨(n1 b4 (by omega)).trans h.x4, heap_setCell_same W (b6 + 1) 0 _ 3 _ h.x7, (n1 (b6 + 2) (by omega)).trans h.x8, own_other h.ref (fun k hk => ?_), h.below.setCell (p := ⟨b6 + 1, 0, none⟩) (by show _ ≤ b6 + 1; omega) _, (n1 D (by omega)).trans h.def_, hD, hb, h4⟩
  obtain ⟨cur, hc⟩ := own_head h.ref hk
  exact n1 k (ne_of_ty hc h.x7 (by decide))
end
set_option maxRecDepth 100000 in
set_option maxHeartbeats 6400000 in
theorem plays_walk (a : Option Addr) (n c : Nat) (f : Nat → Opv) (W : World) (hn : n ≤ 9223372036854775807) (hO : Ops W a n f) :
    Calls Try.prog 3 #[.slice a n c] W fun e W' => e = .returned (.bool true) ∧ Below W.heap.size W W' := by
  have HM0 := Lib.hid (made_any a n c f W hn hO)
  have HLV := Lib.hid lives_any
  clear hO
  obtain ⟨l, HL⟩ : ∃ l, Hid (runM f (min n 80) = l) := ⟨_, Lib.hid rfl⟩
  have HOK : Hid (Okp l) := Lib.hid (by rw [← HL.out]; exact runM_ok f _)
  rw [HL.out] at HM0
  have q1 : ∀ (w : World) (caps : Array Value), (binOp .eql 29 (.func (.func 23) #[] caps) .nilFunc).run Try.prog w = .ok (.bool false) w := fun w caps => eql_nilF w 23 caps
  refine (callsIn_wide (n := 5)).1 ?_
  refine callsIn_of_wp_marks Try.func3 rfl trivial ?_ rfl
  simp only [Try.ntmps3, List.size_toArray, List.length_cons, List.length_nil, Nat.reduceAdd, Nat.reduceSub, Array.replicate_succ, Array.replicate_zero, List.push_toArray, List.append_toArray, List.nil_append, List.cons_append]
  gi_wp2_with (refine ⟨trivial, ?_⟩; gi_at_call 6; refine (callsIn_wide.2 HM0.out).mono ?_; rintro e w1 ⟨g, xv, rfl, ⟨F, ⟨v, hP, rfl⟩, hF⟩, hR, hB⟩; obtain ⟨xq, xc, rfl⟩ := hR.form)
  have HP := Lib.hid hP
  have HB := Lib.hid hB
  have HR := Lib.hid hR
  have HA0 := Lib.hid (alike_any hP hR)
  clear hP hB hR hF
  have HB4 : Hid (Below W.heap.size W (w1.alloc (.cells #[.slice xq l.length xc] 24))) := Lib.hid (HB.out.alloc HB.out.size _)
  have HA1 := Lib.hid (alike_any (HP.out.below ((Below.refl w1.heap.size w1).alloc (Nat.le_refl _) (.cells #[.slice xq l.length xc] 24))) (HR.out.below ((Below.refl w1.heap.size w1).alloc (Nat.le_refl _) (.cells #[.slice xq l.length xc] 24))))
  have HP1 := Lib.hid (HP.out.below ((Below.refl w1.heap.size w1).alloc (Nat.le_refl _) (.cells #[.slice xq l.length xc] 24)))
  have HR1 := Lib.hid (HR.out.below ((Below.refl w1.heap.size w1).alloc (Nat.le_refl _) (.cells #[.slice xq l.length xc] 24)))
  have HX4 : Hid ((w1.alloc (.cells #[.slice xq l.length xc] 24)).heap[w1.heap.size]? = some (.cells #[.slice xq l.length xc] 24 (0, 0))) := Lib.hid (heap_alloc_new w1 _)
  have HLT4 : Hid (w1.heap.size < (w1.alloc (.cells #[.slice xq l.length xc] 24)).heap.size) := Lib.hid (by simp)
  clear HP HR HB HA0
  refine ⟨trivial, ?_⟩
  refine (callsIn_wide.2 HA1.out).mono ?_
  rintro e w2 ⟨rfl, hb2⟩
  have HB2 := Lib.hid hb2
  have HB5 : Hid (Below w2.heap.size w2 (((w2.alloc (.cells #[.int .i64 (-1)] 3)).alloc (.cells #[.int .i64 0] 3)).alloc (.cells #[.bool true] 4))) := Lib.hid ((((Below.refl _ _).alloc (Nat.le_refl _) _).alloc (by simp) _).alloc (by simp; omega) _)
  have HAL := Lib.hid (all_any ((HP1.out.below hb2).below HB5.out))
  clear hb2
  gi_wp2_with (refine ⟨trivial, ?_⟩; gi_at_call 8; refine (callsIn_wide.2 HAL.out).mono ?_; rintro e w3 ⟨⟨Bs, v', rfl, hAl⟩, hb3⟩)
  have HSZ3 : Hid (w2.heap.size + 3 ≤ w3.heap.size) := Lib.hid (by have := hb3.size; simp at this; omega)
  have HBW2 : Hid (Below W.heap.size W w2) := Lib.hid (HB4.out.trans (HB2.out.mono HB4.out.size))
  have hb23 : Below w2.heap.size w2 w3 := HB5.out.trans (hb3.mono HB5.out.size)
  have HBW3 : Hid (Below W.heap.size W w3) := Lib.hid (HBW2.out.trans (hb23.mono HBW2.out.size))
  have HI0 : Hid (Pi W w3 w1.heap.size w2.heap.size (.slice xq l.length xc) l []) := Lib.hid
    ⟨(hb23.block _ (Nat.lt_of_lt_of_le HLT4.out HB2.out.size)).trans ((HB2.out.block _ HLT4.out).trans HX4.out),
     (hb3.block w2.heap.size (by simp <;> omega)).trans (by
      rw [heap_alloc_old _ _ (by simp <;> omega), heap_alloc_old _ _ (by simp <;> omega)]; exact heap_alloc_new w2 _),
     (hb3.block (w2.heap.size + 1) (by simp <;> omega)).trans (by
      rw [heap_alloc_old _ _ (by simp <;> omega)]; have := heap_alloc_new (w2.alloc (.cells #[.int .i64 (-1)] 3)) (.cells #[.int .i64 0] 3); rwa [show (w2.alloc (.cells #[.int .i64 (-1)] 3)).heap.size = w2.heap.size + 1 by simp] at this),
     (hb3.block (w2.heap.size + 2) (by simp <;> omega)).trans (by
      have := heap_alloc_new ((w2.alloc (.cells #[.int .i64 (-1)] 3)).alloc (.cells #[.int .i64 0] 3)) (.cells #[.bool true] 4); rwa [show ((w2.alloc (.cells #[.int .i64 (-1)] 3)).alloc (.cells #[.int .i64 0] 3)).heap.size = w2.heap.size + 2 by simp] at this),
     (HR1.out.below HB2.out).below hb23, HBW3.out⟩
  obtain ⟨t1, t2, t3, t4⟩ := hAl
  have hv8 : ∀ b, v'.ownBlock = some b → w2.heap.size + 3 ≤ b := fun b hb => by have := (t4.lt b hb).1; simp at this; omega
  have hvlt : ∀ b, v'.ownBlock = some b → b < w3.heap.size := fun b hb => (t4.lt b hb).2
  have HV8 := Lib.hid hv8
  have HLEN := Lib.hid HOK.out.len
  clear hb3 hb23 t1 hv8
  refine wpIn_rangeFunc_ownG rfl (by omega) (gf := 23) (lb := #[.pointer (some ⟨Bs, 0, none⟩)]) rfl trivial (enters_of Try.func23 (by kernel_rfl) rfl)
    (all_stops 4 (by omega) Bs (l.length + 1) v' l _ HLEN.out (by omega) w3 t2 t3 t4) KeepB.trans (KeepB.put hvlt) (Below.refl _ _) (fun _ => rfl)
    (fun pre W' => Pi W W' w1.heap.size w2.heap.size (.slice xq l.length xc) l pre)
    (fun _ _ _ => False)
    (Pi.own HBW3.out.size)
    (fun c => ownFrom_pure _ _)
    HI0.out
    (fun x => { tmps := #[Value.slice a n c, undef, Value.bool false, Value.pointer (some { block := g, off := 0 }), Value.pointer (some { block := w1.heap.size, off := 0 }), Value.bool true, Value.pointer (some { block := w2.heap.size, off := 0 }), Value.pointer (some { block := w2.heap.size + 1, off := 0 }), Value.pointer (some { block := w2.heap.size + 1 + 1, off := 0 }), Value.func (Fn.func 23) #[] #[Value.pointer (some { block := Bs, off := 0 })], .int .i64 (x.1.1 : Int), .string x.1.2, undef, Value.tuple #[Value.pointer (some { block := g, off := 0 }), Value.slice xq l.length xc, Value.bool true], Value.slice a n c, Value.tuple #[Value.pointer (some { block := g, off := 0 }), Value.slice xq l.length xc, Value.bool true], Value.pointer (some { block := g, off := 0 }), Value.slice xq l.length xc, Value.bool true, Value.bool true, Value.bool false, Value.bool false, Value.pointer (some { block := g, off := 0 }), Value.slice xq l.length xc, Value.bool true, Value.bool false, Value.bool false, Value.pointer (some { block := g, off := 0 }), Value.func (Fn.func 23) #[] #[Value.pointer (some { block := Bs, off := 0 })], Value.func (Fn.func 23) #[] #[Value.pointer (some { block := Bs, off := 0 })], Value.bool false, Value.func (Fn.func 23) #[] #[Value.pointer (some { block := Bs, off := 0 })], .int .i64 (x.1.1 : Int), .string x.1.2, undef, undef, undef, undef, undef, undef, undef, undef, undef, undef, undef, undef, undef, undef, undef, undef, undef, undef, undef, undef, undef, undef, undef, undef, undef, undef, undef, undef, undef, undef, undef, undef, undef, undef, undef, undef, undef, undef, undef, undef, undef, undef, undef, undef, undef, undef, undef, undef, undef, undef, undef, undef], defers := [] }) ?assign ?body ?done ?stop
  case assign =>
    intro y x W' K hK
    gi_wp2
    exact hK
  case body =>
    rintro y pre x W' hI hlen
    have c4 : W'.cell? ⟨w1.heap.size, 0, none⟩ = some (.slice xq l.length xc) := by rw [cell_of_row _ _ 0 _ _ _ hI.x4]; rfl
    have c6 : W'.cell? ⟨w2.heap.size, 0, none⟩ = some (.int .i64 (lastF pre)) := by rw [cell_of_row _ _ 0 _ _ _ hI.x6]; rfl
    have c7 : W'.cell? ⟨w2.heap.size + 1, 0, none⟩ = some (.int .i64 (pre.length : Int)) := by rw [cell_of_row _ _ 0 _ _ _ hI.x7]; rfl
    have c8 : W'.cell? ⟨w2.heap.size + 2, 0, none⟩ = some (.bool (okF pre)) := by rw [cell_of_row _ _ 0 _ _ _ hI.x8]; rfl
    have f6 : W'.frozen? ⟨w2.heap.size, 0, none⟩ = false := frozen_of_row _ _ 0 _ _ hI.x6
    have f7 : W'.frozen? ⟨w2.heap.size + 1, 0, none⟩ = false := frozen_of_row _ _ 0 _ _ hI.x7
    have f8 : W'.frozen? ⟨w2.heap.size + 2, 0, none⟩ = false := frozen_of_row _ _ 0 _ _ hI.x8
    obtain ⟨b, c', e, hcc, a1, a2⟩ := hI.ref.at x.lt
    cases e
    rw [x.2] at a1 a2
    simp only [recOf, Option.getD_some, Option.isSome_some] at a1 a2
    have hl64 := HLEN.out
    have hpl : (pre.length : Int) ≤ 64 := by omega
    have hxl := x.lt
    have hx1 : (x.1.1 : Int) < (l.length : Int) := by omega
    have hd3 : decide ((x.1.1 : Int) < (l.length : Int)) = true := decide_eq_true hx1
    have hrr : (x.1.2.toList == x.1.2.toList) = true := by simp
    have HO : Hid (okF (pre ++ [x]) = (okF pre && decide (lastF pre < (x.1.1 : Int)))) := Lib.hid (okF_snoc pre x)
    have HPI : Hid (Pi W (((W'.setCell ⟨w2.heap.size + 2, 0, none⟩ (.bool (okF (pre ++ [x])))).setCell ⟨w2.heap.size, 0, none⟩ (.int .i64 (x.1.1 : Int))).setCell ⟨w2.heap.size + 1, 0, none⟩ (.int .i64 ((pre.length : Int) + 1))) w1.heap.size w2.heap.size (.slice (some ⟨b, 0, none⟩) l.length xc) l (pre ++ [x])) := Lib.hid (hI.step HBW2.out.size (Nat.lt_of_lt_of_le HLT4.out HB2.out.size) x)
    have HKB : Hid (∀ u1 u2 u3, KeepB v' W' (((W'.setCell ⟨w2.heap.size + 2, 0, none⟩ u1).setCell ⟨w2.heap.size, 0, none⟩ u2).setCell ⟨w2.heap.size + 1, 0, none⟩ u3)) := Lib.hid (fun u1 u2 u3 b hb => by
      have := HV8.out b hb
      rw [heap_setCell_other _ _ _ _ (by show b ≠ w2.heap.size + 1; omega), heap_setCell_other _ _ _ _ (by show b ≠ w2.heap.size; omega), heap_setCell_other _ _ _ _ (by show b ≠ w2.heap.size + 2; omega)])
    clear hI hlen
    generalize lastF pre = lf at *
    generalize pre.length = pl at *
    cases hok : okF pre with
    | false =>
      rw [hok] at c8 HO
      rw [Bool.false_and] at HO
      clear hok
      gi_wp2
      refine ⟨(((KeepsOthers.setCell _ _ _).trans (KeepsOthers.setCell _ _ _)).trans (KeepsOthers.setCell _ _ _)).from _, ?_, ?_⟩
      · exact HKB.out _ _ _
      · have := HPI.out
        rw [HO.out] at this
        exact this
    | true =>
      rw [hok] at c8 HO
      rw [Bool.true_and] at HO
      clear hok
      by_cases hlt : lf < (x.1.1 : Int)
      · have hd1 : decide (lf < (x.1.1 : Int)) = true := decide_eq_true hlt
        rw [hd1] at HO
        gi_wp2
        refine ⟨(((KeepsOthers.setCell _ _ _).trans (KeepsOthers.setCell _ _ _)).trans (KeepsOthers.setCell _ _ _)).from _, ?_, ?_⟩
        · exact HKB.out _ _ _
        · have := HPI.out
          rw [HO.out] at this
          exact this
      · have hd1 : decide (lf < (x.1.1 : Int)) = false := decide_eq_false hlt
        rw [hd1] at HO
        gi_wp2
        refine ⟨(((KeepsOthers.setCell _ _ _).trans (KeepsOthers.setCell _ _ _)).trans (KeepsOthers.setCell _ _ _)).from _, ?_, ?_⟩
        · exact HKB.out _ _ _
        · have := HPI.out
          rw [HO.out] at this
          exact this
  case stop =>
    rintro D cd pre W' hD _ hf hK
    exact hf.elim
  case done =>
    rintro D ys W' hD rfl hI hK
    have hok := (told_ok l l.length).1
    have hl64 := HLEN.out
    have HTL : Hid (∀ k, (told l k).length ≤ k) := Lib.hid (told_len l)
    have hx8 := hI.x8
    rw [hok] at hx8
    have H0 : Hid (Qi W W' D w1.heap.size w2.heap.size (.slice xq l.length xc) l ((told l l.length).length : Int)) := Lib.hid ⟨hI.x4, hI.x7, hx8, hI.ref, hI.below, hK, by have := HSZ3.out; omega, by have := HBW2.out.size; omega, by have := HLT4.out; have := HB2.out.size; omega⟩
    have c4 := H0.out.c4
    clear hI hx8 hK hok
    generalize hTT : (told l l.length).length = T at *
    have HTT := Lib.hid hTT
    clear hTT
    gi_wp2
    gi_loopw [12] (fun iv wr => ∃ k m : Nat, k ≤ l.length ∧ iv = .int .i64 (k : Int) ∧ m + (told l k).length = T ∧ Hid (Qi W wr D w1.heap.size w2.heap.size (.slice xq l.length xc) l (m : Int))) (fun iv _ => l.length - (intOf iv).toNat)
    case atStart => exact ⟨0, T, Nat.zero_le _, by go_num, rfl, H0⟩
    case round =>
      obtain ⟨k, m, hk, rfl, hm, hr⟩ := hrel
      clear c4
      have c4 := hr.out.c4
      have c7 := hr.out.c7
      have f7 := hr.out.f7
      by_cases hlt : k < l.length
      · have hkl : (k : Int) < (l.length : Int) := by omega
        obtain ⟨b, c', e, hcc, a1, a2⟩ := hr.out.ref.at hlt
        cases e
        have hmT : m ≤ 64 := by have h1 := HTL.out l.length; have h2 := HTT.out; omega
        cases hs : slot l k with
        | none =>
          rw [hs] at a1 a2
          simp only [recOf, Option.getD_none, Option.isSome_none] at a1 a2
          have HM : Hid (m + (told l (k + 1)).length = T) := Lib.hid (by rw [told_none hs]; exact hm)
          clear hs hm
          gi_wp2
          go_roundw
          case rel => exact ⟨k + 1, m, by omega, by go_num, HM.out, hr⟩
          case measure => simp [intOf]; omega
        | some r =>
          rw [hs] at a1 a2
          simp only [recOf, Option.getD_some, Option.isSome_some] at a1 a2
          have hml : (told l (k + 1)).length = (told l k).length + 1 := by rw [told_some hs]; simp
          have hmm := told_mono l hlt
          obtain ⟨m', rfl⟩ : ∃ m', m = m' + 1 := ⟨m - 1, by have := HTT.out; omega⟩
          have HM : Hid (m' + (told l (k + 1)).length = T) := Lib.hid (by omega)
          have HQ : Hid (Qi W (wr.setCell ⟨w2.heap.size + 1, 0, none⟩ (.int .i64 (m' : Int))) D w1.heap.size w2.heap.size (.slice (some ⟨b, 0, none⟩) l.length xc) l (m' : Int)) := Lib.hid (hr.out.step _)
          clear hs hm hml hmm
          gi_wp2
          go_roundw
          case rel => exact ⟨k + 1, m', by omega, by go_num, HM.out, HQ⟩
          case measure => simp [intOf]; omega
      · obtain rfl : k = l.length := by omega
        obtain rfl : m = 0 := by have := HTT.out; omega
        have c8 := hr.out.c8
        clear hm
        gi_wp2_with (refine ⟨trivial, ?_⟩; gi_at_call 9; refine (callsIn_wide.2 (HLV.out _)).mono ?_; rintro e w8 ⟨rfl, hb8⟩)
        have hD := hr.out.hD
        have k1 : w8.heap[D]? = some (.deferred (some [])) := (hb8.block D (lt_of_block hr.out.def_)).trans hr.out.def_
        have hw8 := hr.out.below.trans (hb8.mono hr.out.below.size)
        refine ⟨by simp, .inl ⟨_, _, rfl, run_takeDeferred k1, ?_⟩⟩
        refine ⟨.bool true, ?_, rfl, hw8.trans (belowK_b (w := W) (Nat.le_refl _) w8 D _ _ (by have := hr.out.hb; omega) k1 rfl rfl)⟩
        simp [results, Try.f3, go_sem]
end Go.Proofs.Ytldkmkgkllgckaa
