/- Rounds of things in memory: a row of things, a map of their places. -/
import Derived.Test.YtekmboolfjicbaaKMap
import Derived.RangeFuncNested
set_option maxRecDepth 20000
namespace Go.Proofs.Ytekmboolfjicbaa
open Go.RowKit

theorem flat1_get {K : Type} (e : K → Value) (T : List K) (i : Nat) (x : K) (h : T[i]? = some x) : (T.flatMap fun x => [e x])[i]? = some (e x) := by
  induction T generalizing i with
  | nil => simp at h
  | cons y T ih =>
    cases i with
    | zero => have : y = x := by simpa using h
              subst this; rfl
    | succ i => exact ih i (by simpa using h)
theorem flat2_get {K : Type} (e f : K → Value) (T : List K) (i : Nat) (x : K) (h : T[i]? = some x) : (T.flatMap fun x => [e x, f x])[i * 2]? = some (e x) ∧ (T.flatMap fun x => [e x, f x])[i * 2 + 1]? = some (f x) := by
  induction T generalizing i with
  | nil => simp at h
  | cons y T ih =>
    cases i with
    | zero => have : y = x := by simpa using h
              subst this; exact ⟨rfl, rfl⟩
    | succ i =>
      have := ih i (by simpa using h)
      rw [show (i + 1) * 2 = i * 2 + 2 by omega]
      exact this
/-- A thing's place. -/
def posF {K : Type} [DecidableEq K] (T : List K) (x : K) : Option Nat := if x ∈ T then some (T.idxOf x) else none
theorem posF_nil {K : Type} [DecidableEq K] : posF ([] : List K) = fun _ => none := by funext x; simp [posF]
theorem posF_put {K : Type} [DecidableEq K] (T : List K) (x : K) (hx : x ∉ T) : putF (posF T) x T.length = posF (T ++ [x]) := by
  funext y
  unfold putF posF
  by_cases e : y = x
  · subst e
    rw [if_pos rfl, if_pos (by simp), List.idxOf_append, if_neg hx]; simp
  · rw [if_neg e]
    by_cases hy : y ∈ T
    · rw [if_pos hy, if_pos (by simp [hy]), List.idxOf_append, if_pos hy]
    · rw [if_neg hy, if_neg (by simp [hy, e])]
/-- Is a thing there? -/
def hasK {K : Type} [DecidableEq K] (T : List K) (x : K) : Bool := decide (x ∈ T)
theorem hasK_yes {K : Type} [DecidableEq K] {T : List K} {x : K} (h : x ∈ T) : hasK T x = true := decide_eq_true h
theorem hasK_no {K : Type} [DecidableEq K] {T : List K} {x : K} (h : x ∉ T) : hasK T x = false := decide_eq_false h
theorem hasK_iff {K : Type} [DecidableEq K] {T : List K} {x : K} : hasK T x = true ↔ x ∈ T := decide_eq_true_iff
/-- The things behind one more. -/
def addK {K : Type} [DecidableEq K] (T : List K) (x : K) : List K := if x ∈ T then T else T ++ [x]
theorem addK_yes {K : Type} [DecidableEq K] {T : List K} {x : K} (h : x ∈ T) : addK T x = T := if_pos h
theorem addK_no {K : Type} [DecidableEq K] {T : List K} {x : K} (h : x ∉ T) : addK T x = T ++ [x] := if_neg h
theorem addK_mem {K : Type} [DecidableEq K] {T : List K} {x y : K} : y ∈ addK T x ↔ y ∈ T ∨ y = x := by
  unfold addK
  split
  · rename_i h
    exact ⟨.inl, fun h2 => h2.elim id fun e => e ▸ h⟩
  · simp
theorem addK_nodup {K : Type} [DecidableEq K] {T : List K} {x : K} (h : T.Nodup) : (addK T x).Nodup := by
  unfold addK
  split
  · exact h
  · rename_i hn
    rw [List.nodup_append]
    exact ⟨h, by simp, by rintro a ha b hb rfl; simp at hb; subst hb; exact hn ha⟩
theorem addK_pre {K : Type} [DecidableEq K] (T : List K) (x : K) : T <+: addK T x := by
  unfold addK
  split
  · exact List.prefix_refl _
  · exact List.prefix_append _ _
/-- What a map cell says of the places. -/
def MapOk {K : Type} [DecidableEq K] (k : TypeId) (dom : K → Prop) (kv : K → Value) (w : World) (mv : Value) (T : List K) : Prop :=
  (T = [] ∧ mv = .map none) ∨ ∃ mb, mv = .map (some mb) ∧ KMap k dom kv w mb T.length (posF T)
/-- Rounds at the head of block g. -/
structure Rnd {K : Type} [DecidableEq K] (E wd k : TypeId) (dom : K → Prop) (kv : K → Value) (enc : K → List Value) (w : World) (g : Nat) (ty : TypeId) (rest : List Value) (vt mv : Value) (T : List K) : Prop where
  hd : w.heap[g]? = some (.cells (vt :: mv :: rest).toArray ty (0, 0))
  row : w.ownsRow 0 E wd vt T.length (T.flatMap enc)
  map : MapOk k dom kv w mv T
  nd : T.Nodup
  dm : ∀ x ∈ T, dom x
def footR (g : Nat) (vt mv : Value) : Nat → Prop := fun k => k = g ∨ vt.ownBlock = some k ∨ mv = .map (some k)
section
variable {K : Type} [DecidableEq K] {E wd k : TypeId} {dom : K → Prop} {kv : K → Value} {enc : K → List Value} {w w' : World} {g : Nat} {ty : TypeId} {rest : List Value} {vt mv : Value} {T : List K}
theorem MapOk.same (h : MapOk k dom kv w mv T) (hb : ∀ b, mv = .map (some b) → w'.heap[b]? = w.heap[b]?) : MapOk k dom kv w' mv T :=
  h.elim .inl fun ⟨mb, e, hm⟩ => .inr ⟨mb, e, hm.same (hb mb e)⟩
theorem MapOk.form (h : MapOk k dom kv w mv T) : ∃ b, mv = .map b := h.elim (fun h => ⟨_, h.2⟩) fun ⟨_, e, _⟩ => ⟨_, e⟩
theorem Rnd.keep (h : Rnd E wd k dom kv enc w g ty rest vt mv T) (hb : ∀ b, footR g vt mv b → w'.heap[b]? = w.heap[b]?) : Rnd E wd k dom kv enc w' g ty rest vt mv T :=
  ⟨(hb g (.inl rfl)).trans h.hd, own_other h.row fun b e => hb b (.inr (.inl e)), h.map.same fun b e => hb b (.inr (.inr e)), h.nd, h.dm⟩
theorem Rnd.lt (h : Rnd E wd k dom kv enc w g ty rest vt mv T) : ∀ b, footR g vt mv b → b < w.heap.size := by
  rintro b (rfl | e | e)
  · exact lt_of_block h.hd
  · exact own_lt h.row e
  · rcases h.map with ⟨_, e2⟩ | ⟨mb, e2, hm⟩
    · rw [e] at e2; cases e2
    · rw [e] at e2; cases e2; exact hm.lt
theorem Rnd.below (h : Rnd E wd k dom kv enc w g ty rest vt mv T) (hb : Below w.heap.size w w') : Rnd E wd k dom kv enc w' g ty rest vt mv T := h.keep fun b hk => hb.block b (h.lt b hk)
theorem Rnd.c0 (h : Rnd E wd k dom kv enc w g ty rest vt mv T) : w.cell? ⟨g, 0, none⟩ = some vt := by rw [cell_of_row w _ 0 _ _ _ h.hd]; rfl
theorem Rnd.c1 (h : Rnd E wd k dom kv enc w g ty rest vt mv T) : w.cell? ⟨g, 1, none⟩ = some mv := by rw [cell_of_row w _ 1 _ _ _ h.hd]; rfl
theorem Rnd.fz (h : Rnd E wd k dom kv enc w g ty rest vt mv T) (j : Nat) : w.frozen? ⟨g, j, none⟩ = false := frozen_of_row w _ j _ _ h.hd
theorem Rnd.form (h : Rnd E wd k dom kv enc w g ty rest vt mv T) : ∃ q d, vt = .slice q T.length d := own_form h.row
/-- What the map tells of a thing. -/
theorem Rnd.look {t : TypeId} (h : Rnd E wd k dom kv enc w g ty rest vt mv T) (TT : KeyT k t dom kv) (x : K) (hx : dom x) :
    (Instr.lookup t mv (kv x) true).run Try.prog w = .ok (.tuple #[.int .i64 (((posF T x).getD 0 : Nat) : Int), .bool (hasK T x)]) w := by
  have e : (posF T x).isSome = hasK T x := by
    unfold posF hasK
    by_cases hm : x ∈ T
    · rw [if_pos hm]; simp [hm]
    · rw [if_neg hm]; simp [hm]
  rcases h.map with ⟨hT, e2⟩ | ⟨mb, e2, hm⟩
  · subst hT
    rw [e2, TT.look0 x hx, posF_nil]; simp [hasK]
  · rw [e2, hm.look TT x hx, e]
/-- The things alone, without their map. -/
structure Thg (E wd : TypeId) (enc : K → List Value) (w : World) (g : Nat) (T : List K) : Prop where
  ex : ∃ ty rest vt mv, w.heap[g]? = some (.cells (vt :: mv :: rest).toArray ty (0, 0)) ∧ w.ownsRow 0 E wd vt T.length (T.flatMap enc)
theorem Rnd.thg (h : Rnd E wd k dom kv enc w g ty rest vt mv T) : Thg E wd enc w g T := ⟨_, _, _, _, h.hd, h.row⟩
omit [DecidableEq K] in
theorem Thg.own (E wd : TypeId) (enc : K → List Value) (g : Nat) (B : Nat) : OwnFrom B (fun (T : List K) W => Thg E wd enc W g T) := by
  rintro T W W' row ⟨ty, rest, vt, mv, hd, hr⟩ hg hrow
  have hc : ∀ k (cs : Array Value) ty, W.heap[k]? = some (Obj.cells cs ty (0, 0)) → W'.heap[k]? = W.heap[k]? := fun k cs ty hk => hg.block k (lt_of_block hk) (fun e => by
    obtain ⟨_, o, ho, hcell⟩ := hrow k e.symm
    rw [hk] at ho; cases ho; cases hcell)
  exact ⟨ty, rest, vt, mv, (hc _ _ _ hd).trans hd, own_other hr fun b e => by
    obtain ⟨cur, hcur⟩ := own_head hr e
    exact hc _ _ _ hcur⟩
/-- As many things, whoever tells of them. -/
theorem Rnd.thg_len (h : Rnd E wd k dom kv enc w g ty rest vt mv T) {T2 : List K} (h2 : Thg E wd enc w g T2) : T2.length = T.length := by
  obtain ⟨ty2, rest2, vt2, mv2, hd, hr⟩ := h2
  rw [h.hd] at hd
  have e : vt = vt2 := by
    have h3 := Option.some.inj hd
    injection h3 with h4
    have h5 := congrArg Array.toList h4
    simp at h5
    exact h5.1
  obtain ⟨q, d, e1⟩ := own_form h.row
  obtain ⟨q2, d2, e2⟩ := own_form hr
  rw [← e, e1] at e2
  injection e2 with _ e3
  exact e3.symm
/-- One thing more. -/
theorem Rnd.grow (h : Rnd E wd k dom kv enc w g ty rest vt mv T) (hE : ty ≠ E) {w2 w3 : World} {mb gN cap : Nat} {tmp : Obj} {x : K} (hx : dom x) (hn : x ∉ T)
    (hc : Chp (footR g vt mv) (fun b => footR g vt mv b ∨ b = mb) w w2) (h2 : w2.heap[g]? = some (.cells (vt :: .map (some mb) :: rest).toArray ty (0, 0)))
    (hr2 : w2.ownsRow 0 E wd vt T.length (T.flatMap enc)) (hm : KMap k dom kv w2 mb (T.length + 1) (putF (posF T) x T.length))
    (hown : w3.ownsRow 0 E wd (.slice (some ⟨gN, 0, none⟩) (T.length + 1) cap) (T.length + 1) (T.flatMap enc ++ enc x)) (hgrow : (w2.alloc tmp).grownBy w3 vt.ownBlock) (hat : vt.ownBlock = some gN ∨ gN = w2.heap.size + 1) :
    Rnd E wd k dom kv enc (w3.setCell ⟨g, 0, none⟩ (.slice (some ⟨gN, 0, none⟩) (T.length + 1) cap)) g ty rest (.slice (some ⟨gN, 0, none⟩) (T.length + 1) cap) (.map (some mb)) (T ++ [x])
      ∧ Chp (footR g vt mv) (footR g (.slice (some ⟨gN, 0, none⟩) (T.length + 1) cap) (.map (some mb))) w (w3.setCell ⟨g, 0, none⟩ (.slice (some ⟨gN, 0, none⟩) (T.length + 1) cap)) := by
  have hlt2 := lt_of_block h2
  obtain ⟨es, cl, hmm⟩ := hm.isMap
  have hmlt := hm.lt
  have hgm : g ≠ mb := fun e => by rw [e, hmm] at h2; cases h2
  have hvb : ∀ b, vt.ownBlock = some b → b ≠ g ∧ b ≠ mb := fun b e => by
    obtain ⟨cur, hcur⟩ := own_head hr2 e
    exact ⟨fun e2 => (by rw [e2, h2] at hcur; cases hcur; exact hE rfl), fun e2 => (by rw [e2, hmm] at hcur; cases hcur)⟩
  have hN : gN ≠ g ∧ gN ≠ mb := by
    rcases hat with e | e
    · exact hvb gN e
    · omega
  have hblk : ∀ b, b < w2.heap.size → vt.ownBlock ≠ some b → w3.heap[b]? = w2.heap[b]? := fun b hb he =>
    (hgrow.block b (by simp; omega) (fun e => he e.symm)).trans (Below.heap_alloc w2 _ b hb)
  have hg3 : w3.heap[g]? = _ := (hblk g hlt2 (fun e => (hvb g e).1 rfl)).trans h2
  have hm3 := hblk mb hmlt (fun e => (hvb mb e).2 rfl)
  have hfin : ∀ b, b < w.heap.size → ¬ footR g vt mv b → (w3.setCell ⟨g, 0, none⟩ (.slice (some ⟨gN, 0, none⟩) (T.length + 1) cap)).heap[b]? = w.heap[b]? := fun b hb hf =>
    (heap_setCell_other _ _ _ _ (fun e => hf (.inl e))).trans ((hblk b (Nat.lt_of_lt_of_le hb hc.size) (fun e => hf (.inr (.inl e)))).trans (hc.block b hb hf))
  have hz3 : w2.heap.size ≤ w3.heap.size := Nat.le_trans (by simp) hgrow.size
  refine ⟨⟨?_, ?_, .inr ⟨mb, rfl, ?_⟩, ?_, ?_⟩, ⟨hgrow.os.trans hc.os, hgrow.tape.trans hc.tape, hgrow.output.trans hc.output, ?_, hfin, ?_⟩⟩
  · have := heap_setCell_same w3 g 0 _ _ (.slice (some ⟨gN, 0, none⟩) (T.length + 1) cap) hg3
    exact this
  · rw [List.length_append, List.flatMap_append]
    have e1 : [x].flatMap enc = enc x := by simp
    rw [e1]
    exact own_other hown fun b e => by cases e; exact heap_setCell_other _ _ _ _ hN.1
  · rw [List.length_append, posF_put T x hn] at *
    exact (hm.same ((heap_setCell_other _ _ _ _ (Ne.symm hgm)).trans hm3))
  · rw [List.nodup_append]
    exact ⟨h.nd, by simp, by rintro a ha b hb rfl; simp at hb; subst hb; exact hn ha⟩
  · intro y hy
    rcases List.mem_append.1 hy with hy | hy
    · exact h.dm y hy
    · simp at hy; subst hy; exact hx
  · have := hc.size
    simp; omega
  · rintro b (rfl | e | e)
    · exact .inl (.inl rfl)
    · have e2 : gN = b := by simpa [Value.ownBlock] using e
      subst e2
      rcases hat with e3 | e3
      · exact .inl (.inr (.inl e3))
      · right; have := hc.size; omega
    · have e2 : mb = b := by simpa using e
      subst e2
      exact hc.fresh mb (.inr rfl)
/-- The map made, for things of which none is yet. -/
theorem Rnd.mapped (h : Rnd E wd k dom kv enc w g ty rest vt (.map none) T) (hE : ty ≠ E) : Chp (footR g vt (.map none)) (fun b => footR g vt (.map none) b ∨ b = w.heap.size) w ((w.alloc (.map #[] 0)).setCell ⟨g, 1, none⟩ (.map (some w.heap.size)))
    ∧ ((w.alloc (.map #[] 0)).setCell ⟨g, 1, none⟩ (.map (some w.heap.size))).heap[g]? = some (.cells (vt :: .map (some w.heap.size) :: rest).toArray ty (0, 0))
    ∧ ((w.alloc (.map #[] 0)).setCell ⟨g, 1, none⟩ (.map (some w.heap.size))).ownsRow 0 E wd vt T.length (T.flatMap enc)
    ∧ KMap k dom kv ((w.alloc (.map #[] 0)).setCell ⟨g, 1, none⟩ (.map (some w.heap.size))) w.heap.size T.length (posF T) := by
  have hlt := lt_of_block h.hd
  have hT : T = [] := h.map.elim And.left fun ⟨mb, e, _⟩ => by cases e
  subst hT
  have hg1 : (w.alloc (.map #[] 0)).heap[g]? = _ := (heap_alloc_old w _ hlt).trans h.hd
  refine ⟨⟨rfl, rfl, rfl, by simp, fun b hb hf => ?_, ?_⟩, heap_setCell_same _ g 1 _ _ _ hg1, ?_, ?_⟩
  · exact (heap_setCell_other _ _ _ _ (fun e => hf (.inl e))).trans (heap_alloc_old w _ hb)
  · rintro b (e | rfl)
    · exact .inl e
    · exact .inr (Nat.le_refl _)
  · refine own_other h.row fun b e => ?_
    obtain ⟨cur, hcur⟩ := own_head h.row e
    have hbg : b ≠ g := fun e2 => by rw [e2, h.hd] at hcur; cases hcur; exact hE rfl
    exact (heap_setCell_other _ _ _ _ hbg).trans (heap_alloc_old w _ (lt_of_block hcur))
  · rw [posF_nil]
    exact (KMap.made w).same (heap_setCell_other _ _ _ _ (Nat.ne_of_gt hlt))
end
end Go.Proofs.Ytekmboolfjicbaa
