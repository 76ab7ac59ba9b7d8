/- What the law of the loops knows of numbers, of runs, and of memory that its rounds write. -/
import Derived.Test.YtipiblaoogneaaaMade
import Derived.Deep.AppendLies
import Derived.Sort.BigQuietIn
namespace Go.Proofs.Ytipiblaoogneaaa
open Go.ChangeShapes Go.WideShapes Go.ChangeAt Go.RowKit Go.Shelf

theorem mems_at {f : Nat → Bool} {n i : Nat} (hi : i < n) (hf : f i = true) : (mems f n)[cnt f i]? = some i := by
  induction n with
  | zero => omega
  | succ n ih =>
    by_cases h : i = n
    · subst h
      rw [mems_hit hf, ← mems_cnt, List.getElem?_append_right (Nat.le_refl _), Nat.sub_self]; rfl
    · have h2 := ih (by omega)
      have hlt : cnt f i < (mems f n).length := by
        rcases Nat.lt_or_ge (cnt f i) (mems f n).length with h3 | h3
        · exact h3
        · rw [List.getElem?_eq_none h3] at h2; cases h2
      cases hn : f n with
      | true => rw [mems_hit hn, List.getElem?_append_left hlt]; exact h2
      | false => rw [mems_skip (Nat.le_succ n) (fun x hx hy => by have : x = n := by omega
                                                                  subst this; exact hn)]; exact h2
theorem cnt_mono {f : Nat → Bool} {i j : Nat} (h : i ≤ j) : cnt f i ≤ cnt f j := by
  induction j with
  | zero => have : i = 0 := by omega
            subst this; exact Nat.le_refl _
  | succ j ih =>
    by_cases e : i = j + 1
    · subst e; exact Nat.le_refl _
    · have := ih (by omega)
      show cnt f i ≤ cnt f j + (f j).toNat
      omega
/-- Runs behind a place: rising, none empty, each as long as it may be. -/
def Good (f : Nat → Bool) (n : Nat) : Int → List Run → Prop
  | _, [] => True
  | e, x :: l => e < (x.1.val : Int) ∧ 1 ≤ x.2.val ∧ (∀ k, k < x.2.val → f (x.1.val + k) = true) ∧ f (x.1.val + x.2.val) = false ∧ x.1.val + x.2.val ≤ n ∧ Good f n ((x.1.val + x.2.val : Nat) : Int) l
theorem good_runs {f : Nat → Bool} {n : Nat} (hs : Sub n f) (hn : n ≤ 2048) (k s : Nat) (e : Int) (he : e < (s : Int) ∨ (e = (s : Int) ∧ f s = false)) : Good f n e (runsF f n k s) := by
  induction k generalizing s e with
  | zero => trivial
  | succ k ih =>
    rcases nxt_spec f n s with ⟨j, h0, h1, h2, h3, h4⟩ | ⟨h0, h4⟩
    · obtain ⟨e1, e2, e3, e4⟩ := endF_spec hs h2 h3
      rw [runsF_some h0]
      have v1 : (sp j).val = j := sp_val (by omega)
      have v2 : (sp (endF f n j - j)).val = endF f n j - j := sp_val (by omega)
      have v3 : (sp j).val + (sp (endF f n j - j)).val = endF f n j := by omega
      refine ⟨?_, ?_, ?_, ?_, ?_, ?_⟩
      · show e < ((sp j).val : Int)
        rw [v1]
        rcases he with he | ⟨he, hf⟩
        · omega
        · have : j ≠ s := fun h => by rw [h, hf] at h3; cases h3
          omega
      · show 1 ≤ (sp (endF f n j - j)).val
        omega
      · intro q hq
        show f ((sp j).val + q) = true
        have hq' : q < (sp (endF f n j - j)).val := hq
        rw [v1]; exact e3 _ (by omega) (by omega)
      · show f ((sp j).val + (sp (endF f n j - j)).val) = false
        rw [v3]; exact e4
      · show (sp j).val + (sp (endF f n j - j)).val ≤ n
        omega
      · show Good f n (((sp j).val + (sp (endF f n j - j)).val : Nat) : Int) _
        rw [v3]
        exact ih (endF f n j) _ (.inr ⟨rfl, e4⟩)
    · rw [runsF_none h0]; trivial
theorem runsF_len {f : Nat → Bool} {n : Nat} (hs : Sub n f) (k s : Nat) (h : s ≤ n) : (runsF f n k s).length ≤ n - s := by
  induction k generalizing s with
  | zero => exact Nat.zero_le _
  | succ k ih =>
    rcases nxt_spec f n s with ⟨j, h0, h1, h2, h3, h4⟩ | ⟨h0, h4⟩
    · obtain ⟨e1, e2, _⟩ := endF_spec hs h2 h3
      rw [runsF_some h0, List.length_cons]
      have := ih (endF f n j) e2
      omega
    · rw [runsF_none h0]; exact Nat.zero_le _
/-- Ints as cells. -/
def ivs (l : List Nat) : List Value := l.map fun (x : Nat) => Value.int .i64 (x : Int)
theorem ivs_len (l : List Nat) : (ivs l).length = l.length := by simp [ivs]
theorem ivs_snoc (l : List Nat) (x : Nat) : ivs (l ++ [x]) = ivs l ++ [.int .i64 (x : Int)] := by simp [ivs]
theorem ivs_get {l : List Nat} {i x : Nat} (h : l[i]? = some x) : (ivs l)[i]? = some (.int .i64 (x : Int)) := by unfold ivs; rw [List.getElem?_map, h]; rfl
/-- Runs as cells. -/
def rvs (l : List Run) : List Value := l.flatMap fun x => [Value.int .i64 (x.1.val : Int), Value.int .i64 (x.2.val : Int)]
theorem rvs_snoc (l : List Run) (x : Run) : rvs (l ++ [x]) = rvs l ++ [.int .i64 (x.1.val : Int), .int .i64 (x.2.val : Int)] := by simp [rvs]
theorem rvs_len (l : List Run) : (rvs l).length = l.length * 2 := by
  induction l with
  | nil => rfl
  | cons x l ih => show ([_, _] ++ rvs l).length = _; rw [List.length_append, ih, List.length_cons]; simp; omega
theorem rvs_get {l : List Run} {i : Nat} {x : Run} (h : l[i]? = some x) : (rvs l)[i * 2]? = some (.int .i64 (x.1.val : Int)) ∧ (rvs l)[i * 2 + 1]? = some (.int .i64 (x.2.val : Int)) := by
  induction l generalizing i with
  | nil => simp at h
  | cons y l ih =>
    cases i with
    | zero => simp at h; subst h; exact ⟨rfl, rfl⟩
    | succ i =>
      have h2 := ih (i := i) (by simpa using h)
      show ([_, _] ++ rvs l)[(i + 1) * 2]? = _ ∧ ([_, _] ++ rvs l)[(i + 1) * 2 + 1]? = _
      rw [List.getElem?_append_right (by simp; omega), List.getElem?_append_right (by simp; omega)]
      simp only [List.length_cons, List.length_nil, Nat.zero_add]
      rw [show (i + 1) * 2 - (1 + 1) = i * 2 by omega, show (i + 1) * 2 + 1 - (1 + 1) = i * 2 + 1 by omega]
      exact h2
/-- What lay below a place, but for one block, lies as it lay. -/
structure OnlyN (n g : Nat) (w w' : World) : Prop where
  os : w'.os = w.os
  tape : w'.tape = w.tape
  output : w'.output = w.output
  size : w.heap.size ≤ w'.heap.size
  block : ∀ k, k < n → k ≠ g → w'.heap[k]? = w.heap[k]?
theorem OnlyN.trans {n g : Nat} {a b c : World} (h : OnlyN n g a b) (k : OnlyN n g b c) : OnlyN n g a c :=
  ⟨k.os.trans h.os, k.tape.trans h.tape, k.output.trans h.output, Nat.le_trans h.size k.size, fun i hi hg => (k.block i hi hg).trans (h.block i hi hg)⟩
theorem OnlyN.refl (n g : Nat) (a : World) : OnlyN n g a a := ⟨rfl, rfl, rfl, Nat.le_refl _, fun _ _ _ => rfl⟩
theorem OnlyN.only {g : Nat} {w w' : World} (h : OnlyN w.heap.size g w w') : Only g w w' := ⟨h.os, h.tape, h.output, h.size, h.block⟩
theorem OnlyN.three {n g x y z : Nat} {w w' : World} (h : OnlyN n g w w') (hx : x < n) (hy : y < n) (hz : z < n) (nx : x ≠ g) (ny : y ≠ g) (nz : z ≠ g) : Three x y z w w' := ⟨h.block x hx nx, h.block y hy ny, h.block z hz nz⟩
theorem OnlyN.setCell (n g i : Nat) (v : Value) (w : World) : OnlyN n g w (w.setCell ⟨g, i, none⟩ v) :=
  have h := Only.setCell g i v w
  ⟨h.os, h.tape, h.output, h.size, fun k _ hg => Below.heap_setCell w _ v k (fun e => hg (by rw [e]))⟩
/-- Behind an append to a row of the law's own, and the store into its box. -/
theorem OnlyN.appended {W w1 : World} {n B : Nat} {e : TypeId} {size : Nat} {v v' : Value} {k : Nat} {xs : List Value} {tmp : Obj}
    (hrow : W.ownsRow n e size v k xs) (hn : n ≤ W.heap.size) (hgrow : (W.alloc tmp).grownBy w1 v.ownBlock) : OnlyN n B W (w1.setCell ⟨B, 0, none⟩ v') := by
  have hb : Below n W w1 := ((Below.refl n W).alloc hn tmp).grown hgrow (by simp; omega) fun j ej => (World.ownsRow.lt hrow j ej).1
  exact (⟨hb.os, hb.tape, hb.output, hb.size, fun q hq _ => hb.block q hq⟩ : OnlyN n B W w1).trans (OnlyN.setCell n B 0 v' w1)
/-- Such a frame speaks of nothing that the rounds' own steps change. -/
theorem ownFrom_onlyN {β : Type} {n g B : Nat} {w₀ : World} (hn : n ≤ B) (h0 : n ≤ w₀.heap.size) : OwnFrom B (fun (_ : β) W => OnlyN n g w₀ W) := fun s W W' row hs hg hr =>
  hs.trans ⟨hg.os, hg.tape, hg.output, hg.size, fun k hk _ => by
    rcases Nat.lt_or_ge k W.heap.size with h | h
    · exact hg.block k h (fun e => by have := (hr k e.symm).1; omega)
    · have := hs.size; omega⟩
theorem own_low {w : World} {base base2 e size n : Nat} {v : Value} {xs : List Value} (hb : base2 ≤ base) (h : w.ownsRow base e size v n xs) : w.ownsRow base2 e size v n xs := by
  obtain ⟨h1, h2⟩ := h
  refine ⟨h1, ?_⟩
  rcases h2 with h2 | ⟨g, cap, cur, e, hbg, hr⟩
  · exact .inl h2
  · exact .inr ⟨g, cap, cur, e, Nat.le_trans hb hbg, hr⟩
theorem own_some2 {w : World} {base e size k : Nat} {v : Value} {xs : List Value} (h : w.ownsRow base e size v (k + 1) xs) : ∃ g cap, v = .slice (some ⟨g, 0, none⟩) (k + 1) cap := ownsRow_succ h
/-- Behind an append to a row of the law's own that lies above a place, and the store into its box below. -/
theorem appendedN {W w1 : World} {n B : Nat} {t e : TypeId} {size : Nat} {v v' : Value} {k m : Nat} {xs ys : List Value} {tmp : Obj}
    (hv : Boxed W B t v) (hte : t ≠ e) (hrow : W.ownsRow n e size v k xs) (hn : n ≤ W.heap.size) (hown' : w1.ownsRow n e size v' m ys) (hgrow : (W.alloc tmp).grownBy w1 v.ownBlock) :
    Boxed w1 B t v ∧ Boxed (w1.setCell ⟨B, 0, none⟩ v') B t v' ∧ (w1.setCell ⟨B, 0, none⟩ v').ownsRow n e size v' m ys ∧ KeepsOthers W (w1.setCell ⟨B, 0, none⟩ v') ∧ OnlyN n B W (w1.setCell ⟨B, 0, none⟩ v') := by
  obtain ⟨a1, a2, _, a4, _⟩ := hv.appended (n₀ := min n B) hte (own_low (Nat.min_le_left _ _) hrow) (Nat.le_trans (Nat.min_le_left _ _) hn) (Nat.min_le_right _ _) (own_low (Nat.min_le_left _ _) hown') hgrow
  exact ⟨a1, a2, hown'.kept (grownBy_setCell' w1 B v') (.inr (a1.not_row hte hown').symm), a4, OnlyN.appended hrow hn hgrow⟩
theorem bx_own {β : Type} {g : Nat} (v : β → Int) : Own (fun (s : β) W => Bx W g (v s)) := fun _ _ _ _ hs hg hr =>
  ⟨cell_kept hs.cell hg hr, (frozen_kept hs.cell hg hr).trans hs.fz⟩
theorem block_lt {w : World} {k : Nat} {o : Obj} (h : w.heap[k]? = some o) : k < w.heap.size := (Array.getElem?_eq_some_iff.1 h).1
theorem Try.info3 : (Try.prog.info? 3).map (fun i => (i.zero, i.size, i.bytes)) = some (some (.int .i64 0), 1, 8) := by kernel_rfl
theorem Try.info52 : (Try.prog.info? 52).map (fun i => (i.zero, i.size, i.bytes)) = some (some (.agg #[.int .i64 0, .int .i64 0]), 2, 16) := by kernel_rfl
theorem run_equalIn_func_nil (w : World) (d : Nat) (t : TypeId) (s : TypeDesc) (h : Try.prog.underlying t = some s) (hs : ∃ x y z, s = .func x y z) (k : Nat) (caps : Array Value) :
    (Op.equalIn (d + 1) t (.func (.func k) #[] caps) .nilFunc).run Try.prog w = .ok false w := by
  obtain ⟨x, y, z, rfl⟩ := hs
  simp [Op.equalIn, run_underlying h]
theorem eql_nil46 (w : World) (k : Nat) (caps : Array Value) : (binOp .eql 46 (.func (.func k) #[] caps) .nilFunc).run Try.prog w = .ok (.bool false) w := by
  simp only [binOp]
  simp [Op.equal, Op.maxDepth, run_equalIn_func_nil w 9999 46 _ Try.underlying46 ⟨_, _, _, rfl⟩ k caps]
theorem eql_nil50 (w : World) (k : Nat) (caps : Array Value) : (binOp .eql 50 (.func (.func k) #[] caps) .nilFunc).run Try.prog w = .ok (.bool false) w := by
  simp only [binOp]
  simp [Op.equal, Op.maxDepth, run_equalIn_func_nil w 9999 50 _ Try.underlying50 ⟨_, _, _, rfl⟩ k caps]
end Go.Proofs.Ytipiblaoogneaaa
