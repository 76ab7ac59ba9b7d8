/- Texts HNum to HSmall of this seat, laid into one. -/
import Derived.Maps.Keyed
import Derived.Maps.OwnSet
import Derived.Maps.Range
import Derived.BigQuiet
import Derived.Deep.QuietTactic
import Derived.Test.YthjjgpepgbfalaaGreatDoorM01
set_option linter.unusedVariables false
set_option linter.unusedSimpArgs false
set_option linter.constructorNameAsVariable false
section
/-! A map from the logical pages to their bytes, in memory: what is looked up, stored, deleted; how many there are. -/
set_option maxRecDepth 20000
namespace Go.Proofs.YthjjgpepgbfalaaGreatDoor
open Go.RowKit Go.Maps Go.MapKept
open Go.WideElems (rd rg pl rd_key rd_val rg_of rd_mk)
open Go.ChangeMaps (notKey putKey delKey setBlock heap_setBlock_same heap_setBlock_other mem_insert_iff)
open Go.WideShapes (sorted_perm)

/-- How a page's bytes read, in a map. -/
def contI (v : Value) : Option (DataW Unit × List MemPlace) :=
  match v with
  | .int k a => some (.lit (.int k a), [])
  | _ => none
theorem contI_mk (s : Nat) : contI (.int .i64 ((s : Nat) : Int)) = some (.lit (.int .i64 ((s : Nat) : Int)), []) := rfl
theorem keyedI : Keyed Tryz.prog 3 := int_keyed Tryz.underlying3
theorem keyI {x : Int} (h0 : -9223372036854775808 ≤ x) (h1 : x ≤ 9223372036854775807) : keyOf Tryz.prog 3 (.int .i64 x) = some (.int .i64 x) :=
  keyOf_int_mk Tryz.underlying3 (by simp [Lit.wf, IntKind.min, IntKind.max, IntKind.signed, IntKind.bits]; omega)

/-- Numbers with their places. -/
abbrev Nmf := Nat → Option Nat
def Nmf.has (f : Nmf) (l : Nat) : Bool := (f l).isSome
def Nmf.at_ (f : Nmf) (x : Int) : Option Nat := if 0 ≤ x then f x.toNat else none
def Nmf.put (f : Nmf) (l : Nat) (s : Nat) : Nmf := fun j => if j = l then some s else f j
def Nmf.drop (f : Nmf) (x : Int) : Nmf := fun j => if (j : Int) = x then none else f j
theorem Nmf.put_same (f : Nmf) (l : Nat) (s : Nat) : f.put l s l = some s := if_pos rfl
theorem Nmf.put_other (f : Nmf) (l j : Nat) (s : Nat) (h : j ≠ l) : f.put l s j = f j := if_neg h
/-- Block b is a map that has these pages. -/
structure Nmm (w : World) (b : Nat) (es : Array MapEntry) (clock : Nat) (f : Nmf) : Prop where
  hb : w.heap[b]? = some (.map es clock)
  fit : WideElems.Fit Tryz.prog 3 contI es clock
  only : ∀ x ∈ es.toList, ∃ (l : Nat) (s : Nat), l < 16385 ∧ x.key = .int .i64 (l : Int) ∧ x.val = .int .i64 ((s : Nat) : Int) ∧ f l = some s
  all : ∀ (l : Nat) (s : Nat), f l = some s → l < 16385 ∧ ∃ x ∈ es.toList, x.key = .int .i64 (l : Int)
def Nums (w : World) (b : Nat) (f : Nmf) : Prop := ∃ es clock, Nmm w b es clock f
section
variable {w w' : World} {b : Nat} {f : Nmf}
theorem Nums.lt (h : Nums w b f) : b < w.heap.size := by
  obtain ⟨es, clock, h⟩ := h
  exact (Array.getElem?_eq_some_iff.1 h.hb).1
theorem Nums.same (h : Nums w b f) (hb : w'.heap[b]? = w.heap[b]?) : Nums w' b f := by
  obtain ⟨es, clock, h⟩ := h
  exact ⟨es, clock, hb.trans h.hb, h.fit, h.only, h.all⟩
theorem Nums.below (h : Nums w b f) (hb : Below w.heap.size w w') : Nums w' b f := h.same (hb.block b h.lt)
theorem Nums.isMap (h : Nums w b f) : ∃ es c, w.heap[b]? = some (.map es c) := by
  obtain ⟨es, clock, h⟩ := h
  exact ⟨es, clock, h.hb⟩
theorem Nums.high (h : Nums w b f) {l : Nat} {s : Nat} (hl : f l = some s) : l < 16385 := by
  obtain ⟨es, clock, h⟩ := h
  exact (h.all l s hl).1
theorem Nums.made (w : World) : Nums (w.alloc (.map #[] 0)) w.heap.size (fun _ => none) :=
  ⟨#[], 0, (MapKept.heap_alloc w _).1, ⟨by simp, stamped_empty 0, by simp⟩, by simp, fun l s h => by cases h⟩

/-- 'm[l]', with 'ok'. -/
theorem Nums.look (h : Nums w b f) (x : Int) (h0 : -9223372036854775808 ≤ x) (h1 : x ≤ 9223372036854775807) :
    (Instr.lookup 48 (.map (some b)) (.int .i64 x) true).run Tryz.prog w = .ok (.tuple #[.int .i64 (((f.at_ x).getD 0 : Nat) : Int), .bool (f.at_ x).isSome]) w := by
  obtain ⟨es, clock, h⟩ := h
  have hz : (zeroValue 3).run Tryz.prog w = .ok (.int .i64 0) w := by rw [Tryz.zeroValue3]
  rcases fit_look true keyedI Tryz.underlying48 hz h.hb h.fit (keyI h0 h1) with ⟨hrun, hno, _⟩ | ⟨e0, y, he, hk, hrun, _⟩
  · have hn : f.at_ x = none := by
      unfold Nmf.at_
      split
      · rename_i hx
        cases hf : f x.toNat with
        | none => rfl
        | some s =>
          obtain ⟨_, e, he, hk⟩ := h.all _ s hf
          exact absurd (by rw [hk, Int.toNat_of_nonneg hx]) (hno e he)
      · rfl
    rw [hn]; exact hrun
  · obtain ⟨l, s, hl, hk2, hv, hf⟩ := h.only e0 he
    rw [hk] at hk2
    have hx : x = (l : Int) := by injection hk2
    have ha : f.at_ x = some s := by unfold Nmf.at_; rw [if_pos (by omega), hx, Int.toNat_natCast, hf]
    rw [ha, hrun, hv]; rfl
/-- .. without. -/
theorem Nums.look1 (h : Nums w b f) (l : Nat) (s : Nat) (hl : f l = some s) :
    (Instr.lookup 48 (.map (some b)) (.int .i64 (l : Int)) false).run Tryz.prog w = .ok (.int .i64 ((s : Nat) : Int)) w := by
  have hlt := h.high hl
  obtain ⟨es, clock, h⟩ := h
  have hz : (zeroValue 3).run Tryz.prog w = .ok (.int .i64 0) w := by rw [Tryz.zeroValue3]
  rcases fit_look false keyedI Tryz.underlying48 hz h.hb h.fit (keyI (x := (l : Int)) (by omega) (by omega)) with ⟨hrun, hno, _⟩ | ⟨e0, y, he, hk, hrun, _⟩
  · obtain ⟨_, e, he, hk⟩ := h.all _ s hl
    exact absurd hk (hno e he)
  · obtain ⟨l2, s2, _, hk2, hv, hf⟩ := h.only e0 he
    rw [hk] at hk2
    have hx : (l : Int) = (l2 : Int) := by injection hk2
    have hx2 : l = l2 := by omega
    subst hx2
    rw [hl] at hf
    cases hf
    rw [hrun, hv]; rfl
end
theorem Nmm.nodup {w : World} {b : Nat} {es : Array MapEntry} {clock : Nat} {f : Nmf} (h : Nmm w b es clock f) : es.toList.Pairwise (fun x y => x.key ≠ y.key) := ((stamped_iff es clock).1 h.fit.stamped).2.2
/-- A page's number, of an entry. -/
def keyN (x : MapEntry) : Nat := match x.key with | .int _ a => a.toNat | _ => 0
theorem Nmm.keyN {w : World} {b : Nat} {es : Array MapEntry} {clock : Nat} {f : Nmf} (h : Nmm w b es clock f) {x : MapEntry} (hx : x ∈ es.toList) : x.key = .int .i64 ((Go.Proofs.YthjjgpepgbfalaaGreatDoor.keyN x : Nat) : Int) := by
  obtain ⟨l, s, _, hk, _⟩ := h.only x hx
  unfold Go.Proofs.YthjjgpepgbfalaaGreatDoor.keyN
  rw [hk]; simp
/-- The pages that there are, rising. -/
def Nmf.keys (f : Nmf) : List Nat := (List.range 16385).filter fun l => (f l).isSome
theorem Nmf.mem_keys {f : Nmf} {l : Nat} : l ∈ f.keys ↔ l < 16385 ∧ (f l).isSome = true := by
  unfold Nmf.keys; rw [List.mem_filter, List.mem_range]
theorem Nmm.perm {w : World} {b : Nat} {es : Array MapEntry} {clock : Nat} {f : Nmf} (h : Nmm w b es clock f) : (es.toList.map Go.Proofs.YthjjgpepgbfalaaGreatDoor.keyN).Perm f.keys := by
  have n1 : (es.toList.map Go.Proofs.YthjjgpepgbfalaaGreatDoor.keyN).Nodup := by
    unfold List.Nodup
    rw [List.pairwise_map]
    exact h.nodup.imp_of_mem fun {a b} ha hb hab e => hab (by rw [h.keyN ha, h.keyN hb, e])
  have n2 : f.keys.Nodup := List.nodup_range.filter _
  refine (List.perm_ext_iff_of_nodup n1 n2).2 fun l => ?_
  rw [Nmf.mem_keys, List.mem_map]
  constructor
  · rintro ⟨x, hx, rfl⟩
    obtain ⟨l, s, hl, hk, _, hf⟩ := h.only x hx
    have e := h.keyN hx
    rw [hk] at e
    have e2 : l = Go.Proofs.YthjjgpepgbfalaaGreatDoor.keyN x := by injection e with _ e3; omega
    rw [← e2]
    exact ⟨hl, by rw [hf]; rfl⟩
  · rintro ⟨hl, hs⟩
    obtain ⟨s, hs⟩ := Option.isSome_iff_exists.1 hs
    obtain ⟨_, x, hx, hk⟩ := h.all l s hs
    refine ⟨x, hx, ?_⟩
    have e := h.keyN hx
    rw [hk] at e
    injection e with _ e3; omega
theorem Nmm.size {w : World} {b : Nat} {es : Array MapEntry} {clock : Nat} {f : Nmf} (h : Nmm w b es clock f) : es.size = f.keys.length := by
  rw [← h.perm.length_eq, List.length_map]; simp
theorem Nmf.keys_le (f : Nmf) : f.keys.length ≤ 16385 := by
  unfold Nmf.keys
  exact Nat.le_trans (List.length_filter_le _ _) (by simp)
section
variable {w : World} {b : Nat} {f : Nmf}
/-- 'len(m)'. -/
theorem Nums.len (h : Nums w b f) (ty : TypeId) : (Builtin.len_ #[48] ty #[.map (some b)]).run Tryz.prog w = .ok (.int .i64 (f.keys.length : Int)) w := by
  obtain ⟨es, clock, h⟩ := h
  rw [← h.size]
  simp [Builtin.len_, run_underlying Tryz.underlying48, MapKept.run_getObj_map h.hb, goInt, Result.andThen]
/-- 'm[l] = s'. -/
theorem Nums.store (h : Nums w b f) (l : Nat) (s : Nat) (hl : l < 16385) :
    ∃ w', (Instr.mapUpdate 48 (.map (some b)) (.int .i64 (l : Int)) (.int .i64 ((s : Nat) : Int))).run Tryz.prog w = .ok () w' ∧ Nums w' b (f.put l s) ∧ Only b w w' := by
  obtain ⟨es, clock, h⟩ := h
  have hkey := keyI (x := (l : Int)) (by omega) (by omega)
  have hroom : es.size < maxLen := by rw [h.size]; have := f.keys_le; unfold maxLen; omega
  obtain ⟨es', clock', hrun, F', hput, _, _, hwho⟩ := fit_store (R' := contI) keyedI Tryz.underlying48 h.hb h.fit hroom (fun _ _ _ _ hz => hz) hkey (contI_mk s)
  refine ⟨_, hrun, ⟨es', clock', heap_setBlock_same h.hb _, F', ?_, ?_⟩, ⟨rfl, rfl, rfl, by simp [setBlock], fun k _ hk => heap_setBlock_other h.hb _ hk⟩⟩
  · intro x hx
    rcases hwho x hx with ⟨hx1, hne⟩ | ⟨hk, hv⟩
    · obtain ⟨l2, s2, hl2, hk2, hv2, hf2⟩ := h.only x hx1
      refine ⟨l2, s2, hl2, hk2, hv2, ?_⟩
      rw [Nmf.put_other _ _ _ _ (fun e => hne (by rw [hk2, e]))]
      exact hf2
    · exact ⟨l, s, hl, hk, hv, Nmf.put_same _ _ _⟩
  · -- who was there is there, and the new one
    have hin : ∀ p, p ∈ putKey (Lit.int .i64 (l : Int)) (DataW.lit (.int .i64 ((s : Nat) : Int))) ((es.toList.map (rg Tryz.prog 3 contI)).foldr DataW.insert []) → ∃ x ∈ es'.toList, rg Tryz.prog 3 contI x = p := by
      intro p hp
      rw [← hput] at hp
      obtain ⟨x, hx, e⟩ := List.mem_map.1 ((sorted_perm _).mem_iff.1 hp)
      exact ⟨x, hx, e⟩
    have key_of : ∀ x ∈ es'.toList, ∀ kl d, rg Tryz.prog 3 contI x = (kl, d) → keyOf Tryz.prog 3 x.key = some kl := by
      intro x hx kl d e
      obtain ⟨y, hy⟩ := F'.reads x hx
      have h1 := rd_key hy
      rw [rg_of hy] at e
      rw [e] at h1; exact h1
    intro l2 s2 hf2
    by_cases e : l2 = l
    · subst e
      obtain ⟨x, hx, e⟩ := hin (Lit.int .i64 (l2 : Int), DataW.lit (.int .i64 ((s : Nat) : Int))) (by unfold putKey; exact mem_insert_iff.2 (.inl rfl))
      exact ⟨hl, x, hx, keyedI.inj (key_of x hx _ _ e) hkey⟩
    · rw [Nmf.put_other _ _ _ _ e] at hf2
      obtain ⟨h16385, x0, hx0, hk0⟩ := h.all l2 s2 hf2
      have hkey2 := keyI (x := (l2 : Int)) (by omega) (by omega)
      obtain ⟨y0, hy0⟩ := h.fit.reads x0 hx0
      have hk1 := rd_key hy0
      rw [hk0, hkey2] at hk1
      have hk2 : y0.1 = Lit.int .i64 (l2 : Int) := (Option.some.inj hk1).symm
      obtain ⟨x, hx, e3⟩ := hin y0 (by
        unfold putKey
        refine mem_insert_iff.2 (.inr (List.mem_filter.2 ⟨(sorted_perm _).mem_iff.2 (List.mem_map.2 ⟨x0, hx0, rg_of hy0⟩), ?_⟩))
        refine (notKey_iff (keyedI.key hkey)).2 ?_
        rw [hk2]
        intro e4
        injection e4 with _ e5
        omega)
      refine ⟨h16385, x, hx, keyedI.inj (key_of x hx y0.1 y0.2 e3) ?_⟩
      rw [hk2]; exact hkey2
end
/-- 'm[l] = s', in the walk. -/
theorem wpList_store_frs (w : World) {ops : Array Oper} {rest : List Oper} {o : Oper} {a : Act} {Q : Exit → Act → World → Prop}
    (hg : o.guard = none) (m x v : Operand) (hop : o.op = Op.mapUpdate 48 m x v) (b : Nat) (f : Nmf) (l : Nat) (s : Nat)
    (hm : a.eval m = .map (some b)) (h : Nums w b f) (hl : l < 16385) (hx : a.eval x = .int .i64 (l : Int)) (hv : a.eval v = .int .i64 ((s : Nat) : Int))
    (hK : ∀ w', Nums w' b (f.put l s) → Only b w w' → wpList Tryz.prog ops Q rest (a.put o.dst undef) w') :
    wpList Tryz.prog ops Q (o :: rest) a w := by
  refine wpList_plain hg fun K' hK' => ?_
  obtain ⟨w', hrun, r1, r2⟩ := h.store l s hl
  unfold Oper.wp
  simp [execOp, hop, hm, hx, hv, hrun, Result.andThen]
  exact hK' _ _ (hK w' r1 r2)
end Go.Proofs.YthjjgpepgbfalaaGreatDoor
end
section
/-! The memory of objects, in memory: its box, its row of places, each object's cell, values and bytes. -/
set_option maxRecDepth 20000
set_option linter.unusedSimpArgs false
namespace Go.Proofs.YthjjgpepgbfalaaGreatDoor
open Go.RowKit

/-- Values, cell by cell. -/
def flatV : List (Int × Int) → List Value
  | [] => []
  | x :: l => .int .i64 x.1 :: .int .i64 x.2 :: flatV l
theorem flatV_len (l : List (Int × Int)) : (flatV l).length = l.length * 2 := by
  induction l with
  | nil => rfl
  | cons x l ih => simp only [flatV, List.length_cons, ih]; omega
theorem flatV_get (l : List (Int × Int)) (k : Nat) (h : k < l.length) : (flatV l)[k * 2]? = some (.int .i64 (l.getD k (0, 0)).1) ∧ (flatV l)[k * 2 + 1]? = some (.int .i64 (l.getD k (0, 0)).2) := by
  induction l generalizing k with
  | nil => simp at h
  | cons x l ih =>
    cases k with
    | zero => exact ⟨rfl, rfl⟩
    | succ k =>
      have h2 := ih k (by simpa using h)
      rw [show (k + 1) * 2 = k * 2 + 2 by omega]
      exact h2
theorem flatV_set (l : List (Int × Int)) (k : Nat) (x : Int × Int) (h : k < l.length) : ((flatV l).set (k * 2) (.int .i64 x.1)).set (k * 2 + 1) (.int .i64 x.2) = flatV (l.set k x) := by
  induction l generalizing k with
  | nil => simp at h
  | cons y l ih =>
    cases k with
    | zero => rfl
    | succ k =>
      rw [show (k + 1) * 2 = k * 2 + 2 by omega]
      simp only [flatV, List.set_cons_succ]
      rw [ih k (by simpa using h)]
theorem flatV_append (a b : List (Int × Int)) : flatV (a ++ b) = flatV a ++ flatV b := by
  induction a with
  | nil => rfl
  | cons x a ih => simp only [flatV, List.cons_append, ih]
theorem flatV_one (l : List (Int × Int)) : ∀ v ∈ flatV l, v.oneCell' = true := by
  induction l with
  | nil => intro v hv; cases hv
  | cons x l ih =>
    intro v hv
    simp only [flatV, List.mem_cons] at hv
    rcases hv with rfl | rfl | hv
    · rfl
    · rfl
    · exact ih v hv
/-- A value, as it is handed on. -/
abbrev valV (x : Int × Int) : Value := .agg #[.int .i64 x.1, .int .i64 x.2]
/-- A slice that reads as these values. -/
def Vls (w : World) (q : Option Addr) (n : Nat) (l : List (Int × Int)) : Prop := l.length = n ∧ (0 < n → ∃ b o, q = some ⟨b, o, none⟩ ∧ ∀ i, i < n → w.cell? ⟨b, o + i * 2, none⟩ = some (.int .i64 (l.getD i (0, 0)).1) ∧ w.cell? ⟨b, o + i * 2 + 1, none⟩ = some (.int .i64 (l.getD i (0, 0)).2))
theorem Vls.len {w : World} {q : Option Addr} {n : Nat} {l : List (Int × Int)} (h : Vls w q n l) : l.length = n := h.1
theorem Vls.keep {w w' : World} {q : Option Addr} {n : Nat} {l : List (Int × Int)} (h : Vls w q n l) (hb : ∀ b o, q = some ⟨b, o, none⟩ → b < w.heap.size → w'.heap[b]? = w.heap[b]?) : Vls w' q n l := ⟨h.1, fun hn => by
  obtain ⟨b, o, e, hc⟩ := h.2 hn
  have hlt := World.block_lt_of_cell? w _ (hc 0 hn).1
  have hh := hb b o e hlt
  exact ⟨b, o, e, fun i hi => ⟨(World.cell?_of_block hh).trans (hc i hi).1, (World.cell?_of_block hh).trans (hc i hi).2⟩⟩⟩
theorem Vls.below {w w' : World} {q : Option Addr} {n : Nat} {l : List (Int × Int)} (h : Vls w q n l) (hb : Below w.heap.size w w') : Vls w' q n l := h.keep fun b _ _ hl => hb.block b hl
theorem Vls.own {w : World} {base n c : Nat} {q : Option Addr} {l : List (Int × Int)} (h : w.ownsRow base 36 2 (.slice q n c) n (flatV l)) : Vls w q n l := by
  have hl : l.length = n := by have := h.1; rw [flatV_len] at this; omega
  refine ⟨hl, fun hn => ?_⟩
  obtain ⟨g, c', e⟩ := own_some h hn
  cases e
  refine ⟨g, 0, rfl, fun i hi => ?_⟩
  obtain ⟨g0, g1⟩ := flatV_get l i (by omega)
  have a0 := h.cellAt (i * 2) (by omega)
  have a1 := h.cellAt (i * 2 + 1) (by omega)
  rw [Nat.zero_add]
  exact ⟨a0.trans g0, a1.trans g1⟩
theorem Vls.cells {w : World} {q : Option Addr} {n : Nat} {l : List (Int × Int)} (h : Vls w q n l) (hn : 0 < n) : ∃ ad, q = some ad ∧ ∀ j v, (flatV l)[j]? = some v → w.cell? (ad.add j) = some v := by
  obtain ⟨b, o, e, hc⟩ := h.2 hn
  refine ⟨_, e, fun j v hv => ?_⟩
  have hj : j < n * 2 := by
    rcases Nat.lt_or_ge j (n * 2) with h1 | h1
    · exact h1
    · rw [List.getElem?_eq_none (by rw [flatV_len, h.1]; exact h1)] at hv; cases hv
  have h2 := hc (j / 2) (by omega)
  obtain ⟨g0, g1⟩ := flatV_get l (j / 2) (by rw [h.1]; omega)
  rw [Go.WideShapes.add_plain]
  rcases Nat.mod_two_eq_zero_or_one j with h3 | h3
  · rw [show j / 2 * 2 = j by omega] at g0
    rw [hv] at g0
    rw [show o + j = o + j / 2 * 2 by omega]
    rw [h2.1, ← Option.some.inj g0]
  · rw [show j / 2 * 2 + 1 = j by omega] at g1
    rw [hv] at g1
    rw [show o + j = o + j / 2 * 2 + 1 by omega]
    rw [h2.2, ← Option.some.inj g1]
/-- What a call may change: blocks of a kind. -/
structure Chp (F F' : Nat → Prop) (w w' : World) : Prop where
  os : w'.os = w.os
  tape : w'.tape = w.tape
  output : w'.output = w.output
  size : w.heap.size ≤ w'.heap.size
  block : ∀ k, k < w.heap.size → ¬ F k → w'.heap[k]? = w.heap[k]?
  fresh : ∀ k, F' k → F k ∨ w.heap.size ≤ k
theorem Chp.refl (F : Nat → Prop) (w : World) : Chp F F w w := ⟨rfl, rfl, rfl, Nat.le_refl _, fun _ _ _ => rfl, fun _ h => .inl h⟩
theorem Chp.trans {F F' F2 : Nat → Prop} {a b c : World} (h : Chp F F' a b) (k : Chp F' F2 b c) : Chp F F2 a c :=
  ⟨k.os.trans h.os, k.tape.trans h.tape, k.output.trans h.output, Nat.le_trans h.size k.size,
   fun i hi hF => (k.block i (Nat.lt_of_lt_of_le hi h.size) (fun e => (h.fresh i e).elim hF (fun h2 => by omega))).trans (h.block i hi hF),
   fun i hi => (k.fresh i hi).elim (fun e => h.fresh i e) (fun e => .inr (Nat.le_trans h.size e))⟩
theorem Chp.of_below {F : Nat → Prop} {w w' : World} (h : Below w.heap.size w w') : Chp F F w w' := ⟨h.os, h.tape, h.output, h.size, fun k hk _ => h.block k hk, fun _ h => .inl h⟩
theorem Chp.below {F F' : Nat → Prop} {B : Nat} {a w w' : World} (h : Chp F F' w w') (hb : Below B a w) (hB : B ≤ w.heap.size) (hF : ∀ k, F k → B ≤ k) : Below B a w' :=
  hb.trans ⟨h.os, h.tape, h.output, h.size, fun k hk => h.block k (by omega) (fun e => by have := hF k e; omega)⟩
theorem Chp.high {F F' : Nat → Prop} {B : Nat} {w w' : World} (h : Chp F F' w w') (hB : B ≤ w.heap.size) (hF : ∀ k, F k → B ≤ k) : ∀ k, F' k → B ≤ k := fun k hk => (h.fresh k hk).elim (hF k) (fun e => by omega)
theorem Chp.out {F F' : Nat → Prop} {w w' : World} (h : Chp F F' w w') {b : Nat} (hb : b < w.heap.size) (hF : ¬ F b) : ¬ F' b := fun e => (h.fresh b e).elim hF (fun e => by omega)
theorem Chp.drew {F F' : Nat → Prop} {w w' : World} (h : Chp F F' w w') : Chp F F' w w'.drew := ⟨h.os, h.tape, h.output, h.size, h.block, h.fresh⟩
theorem Chp.only {F : Nat → Prop} {g : Nat} {w w' : World} (h : Only g w w') (hg : F g) : Chp F F w w' :=
  ⟨h.os, h.tape, h.output, h.size, fun k hk hF => h.block k hk (fun e => hF (by rw [e]; exact hg)), fun _ h => .inl h⟩
theorem Chp.setCell {F : Nat → Prop} {g i : Nat} (hg : F g) (v : Value) (w : World) : Chp F F w (w.setCell ⟨g, i, none⟩ v) := Chp.only (Only.setCell g i v w) hg
theorem Chp.congr {F F' G G' : Nat → Prop} {w w' : World} (h : Chp F F' w w') (h1 : ∀ k, F k → G k) (h2 : ∀ k, G' k → F' k ∨ G k ∨ w.heap.size ≤ k) : Chp G G' w w' :=
  ⟨h.os, h.tape, h.output, h.size, fun k hk hG => h.block k hk (fun e => hG (h1 k e)), fun k hk => (h2 k hk).elim (fun e => (h.fresh k e).elim (fun e => .inl (h1 k e)) .inr) id⟩
/-- Where an object lies: its cell's block, its values, its bytes. -/
abbrev Pos := Nat × Value × Value
def blkP (x : Pos) (k : Nat) : Prop := k = x.1 ∨ x.2.1.ownBlock = some k ∨ x.2.2.ownBlock = some k
/-- An object in memory. -/
structure CelAt (w : World) (x : Pos) (c : Cl) : Prop where
  hd : w.heap[x.1]? = some (.cells #[.int .i64 c.o.k, x.2.1, x.2.2, .int .i64 (c.num : Int), .bool c.away, .bool c.ch] 105 (0, 0))
  vs : w.ownsRow 0 36 2 x.2.1 c.o.vs.length (flatV c.o.vs)
  bs : w.ownsRow 0 5 1 x.2.2 c.o.bs.length (u8s c.o.bs)
  dig : ∀ y ∈ c.o.bs, y < 256
section
variable {w w' : World} {x : Pos} {c : Cl}
theorem CelAt.lt (h : CelAt w x c) : ∀ k, blkP x k → k < w.heap.size := by
  rintro k (rfl | e | e)
  · exact lt_of_block h.hd
  · exact own_lt h.vs e
  · exact own_lt h.bs e
theorem CelAt.keep (h : CelAt w x c) (hb : ∀ k, blkP x k → w'.heap[k]? = w.heap[k]?) : CelAt w' x c :=
  ⟨(hb _ (.inl rfl)).trans h.hd, own_other h.vs fun k e => hb k (.inr (.inl e)), own_other h.bs fun k e => hb k (.inr (.inr e)), h.dig⟩
theorem CelAt.below (h : CelAt w x c) (hb : Below w.heap.size w w') : CelAt w' x c := h.keep fun k hk => hb.block k (h.lt k hk)
theorem CelAt.c0 (h : CelAt w x c) : w.cell? ⟨x.1, 0, none⟩ = some (.int .i64 c.o.k) := by rw [cell_of_row w _ 0 _ _ _ h.hd]; rfl
theorem CelAt.c1 (h : CelAt w x c) : w.cell? ⟨x.1, 1, none⟩ = some x.2.1 := by rw [cell_of_row w _ 1 _ _ _ h.hd]; rfl
theorem CelAt.c2 (h : CelAt w x c) : w.cell? ⟨x.1, 2, none⟩ = some x.2.2 := by rw [cell_of_row w _ 2 _ _ _ h.hd]; rfl
theorem CelAt.c3 (h : CelAt w x c) : w.cell? ⟨x.1, 3, none⟩ = some (.int .i64 (c.num : Int)) := by rw [cell_of_row w _ 3 _ _ _ h.hd]; rfl
theorem CelAt.c4 (h : CelAt w x c) : w.cell? ⟨x.1, 4, none⟩ = some (.bool c.away) := by rw [cell_of_row w _ 4 _ _ _ h.hd]; rfl
theorem CelAt.c5 (h : CelAt w x c) : w.cell? ⟨x.1, 5, none⟩ = some (.bool c.ch) := by rw [cell_of_row w _ 5 _ _ _ h.hd]; rfl
theorem CelAt.fz (h : CelAt w x c) (j : Nat) : w.frozen? ⟨x.1, j, none⟩ = false := frozen_of_row w _ j _ _ h.hd
theorem CelAt.vform (h : CelAt w x c) : ∃ q d, x.2.1 = .slice q c.o.vs.length d := own_form h.vs
theorem CelAt.ne (h : CelAt w x c) : x.2.1.ownBlock ≠ some x.1 ∧ x.2.2.ownBlock ≠ some x.1 ∧ ∀ k, x.2.1.ownBlock = some k → x.2.2.ownBlock ≠ some k := by
  refine ⟨fun e => ?_, fun e => ?_, fun k e1 e2 => ?_⟩
  · obtain ⟨cur, hc⟩ := own_head h.vs e; exact ne_of_ty h.hd hc (by decide) rfl
  · obtain ⟨cur, hc⟩ := own_head h.bs e; exact ne_of_ty h.hd hc (by decide) rfl
  · obtain ⟨cur, hc⟩ := own_head h.vs e1; obtain ⟨cur2, hc2⟩ := own_head h.bs e2; exact ne_of_ty hc hc2 (by decide) rfl
/-- A field that is set. -/
theorem CelAt.set (h : CelAt w x c) {j : Nat} {v : Value} {c' : Cl} (ho : c'.o = c.o) (he : (#[.int .i64 c.o.k, x.2.1, x.2.2, .int .i64 (c.num : Int), .bool c.away, .bool c.ch] : Array Value).setIfInBounds j v = #[.int .i64 c'.o.k, x.2.1, x.2.2, .int .i64 (c'.num : Int), .bool c'.away, .bool c'.ch]) :
    CelAt (w.setCell ⟨x.1, j, none⟩ v) x c' := by
  have hne := h.ne
  refine ⟨?_, ?_, ?_, by rw [ho]; exact h.dig⟩
  · rw [← he]; exact heap_setCell_same w _ j _ _ v h.hd
  · rw [ho]; exact own_other h.vs fun k e => heap_setCell_other _ _ _ _ (fun e2 => hne.1 (by rw [e]; exact congrArg some e2))
  · rw [ho]; exact own_other h.bs fun k e => heap_setCell_other _ _ _ _ (fun e2 => hne.2.1 (by rw [e]; exact congrArg some e2))
/-- A value that is set. -/
theorem CelAt.setV (h : CelAt w x c) {k : Nat} (hk : k < c.o.vs.length) (y : Int × Int) {b : Nat} (hb : x.2.1.ownBlock = some b) :
    CelAt ((w.setCell ⟨b, k * 2, none⟩ (.int .i64 y.1)).setCell ⟨b, k * 2 + 1, none⟩ (.int .i64 y.2)) x { c with o := { c.o with vs := c.o.vs.set k y } } := by
  have hne := h.ne
  have n1 : x.1 ≠ b := fun e => hne.1 (by rw [hb, e])
  refine ⟨(heap_setCell_other _ _ _ _ n1).trans ((heap_setCell_other _ _ _ _ n1).trans h.hd), ?_, ?_, h.dig⟩
  · obtain ⟨q, d, e⟩ := h.vform
    have hvs := h.vs
    rw [e] at hvs hb ⊢
    obtain ⟨b2, d2, e2⟩ := own_some hvs (by omega)
    cases e2
    cases hb
    have h2 := (((hvs.stored (k * 2) (.int .i64 y.1)).1).stored (k * 2 + 1) (.int .i64 y.2)).1
    rw [flatV_set _ _ _ hk] at h2
    show World.ownsRow _ 0 36 2 _ (c.o.vs.set k y).length (flatV (c.o.vs.set k y))
    rw [List.length_set]
    exact h2
  · refine own_other h.bs fun k2 e => ?_
    have n2 : k2 ≠ b := fun e2 => hne.2.2 b hb (by rw [e, e2])
    exact (heap_setCell_other _ _ _ _ n2).trans (heap_setCell_other _ _ _ _ n2)
end
/-- The row of places. -/
def ptrV (S : Nat → Option Pos) (i : Nat) : Value := .pointer ((S i).map fun x => ⟨x.1, 0, none⟩)
def ptrs (S : Nat → Option Pos) (n : Nat) : List Value := (List.range n).map (ptrV S)
theorem ptrs_len (S : Nat → Option Pos) (n : Nat) : (ptrs S n).length = n := by unfold ptrs; simp
theorem ptrs_get (S : Nat → Option Pos) (n i : Nat) (h : i < n) : (ptrs S n)[i]? = some (ptrV S i) := by unfold ptrs; simp [h]
theorem ptrs_succ (S : Nat → Option Pos) (n : Nat) : ptrs S (n + 1) = ptrs S n ++ [ptrV S n] := by unfold ptrs; rw [List.range_succ, List.map_append]; rfl
def putS (S : Nat → Option Pos) (i : Nat) (x : Option Pos) : Nat → Option Pos := fun j => if j = i then x else S j
theorem ptrs_set (S : Nat → Option Pos) (n i : Nat) (x : Option Pos) : (ptrs S n).set i (.pointer (x.map fun x => ⟨x.1, 0, none⟩)) = ptrs (putS S i x) n := by
  apply List.ext_getElem?
  intro j
  rw [List.getElem?_set]
  rcases Nat.lt_or_ge j n with h | h
  · rw [ptrs_get _ _ _ h, ptrs_get _ _ _ h, ptrs_len]
    unfold ptrV putS
    by_cases e : i = j
    · subst e; simp [h]
    · rw [if_neg e, if_neg (fun e2 => e e2.symm)]
  · rw [List.getElem?_eq_none (by rw [ptrs_len]; exact h), List.getElem?_eq_none (by rw [ptrs_len]; exact h), ptrs_len]
    split
    · rw [if_neg (by omega)]
    · rfl
/-- The memory of objects, in memory. -/
structure Hp (w : World) (g : Nat) (vr : Value) (mb : Nat) (S : Nat → Option Pos) (m : Hm) : Prop where
  hd : w.heap[g]? = some (.cells #[.int .i64 (m.lim : Int), vr, .int .i64 (liveN m.L : Int), .int .i64 (m.least : Int), .map (some mb), m.by_, .int .i64 (m.fet : Int)] 52 (0, 0))
  row : w.ownsRow 0 98 1 vr m.L.length (ptrs S m.L.length)
  at_ : ∀ i c, clAt m.L i = some c → ∃ x, S i = some x ∧ CelAt w x c
  none_ : ∀ i, clAt m.L i = none → S i = none
  nums : Nums w mb m.f
  sep : ∀ i j x y, i ≠ j → S i = some x → S j = some y → ∀ k, blkP x k → ¬ blkP y k
  ok : m.Ok
/-- Its blocks. -/
def footH (g : Nat) (vr : Value) (mb : Nat) (S : Nat → Option Pos) : Nat → Prop := fun k => k = g ∨ vr.ownBlock = some k ∨ k = mb ∨ ∃ i x, S i = some x ∧ blkP x k
/-- The memory of objects; F are its blocks. -/
def Hep (w : World) (g : Nat) (F : Nat → Prop) (m : Hm) : Prop := ∃ vr mb S, Hp w g vr mb S m ∧ F = footH g vr mb S
/-- What a call makes of it. -/
def WentH (F : Nat → Prop) (g : Nat) (m : Hm) (w w' : World) : Prop := ∃ F', Hep w' g F' m ∧ Chp F F' w w'
section
variable {w w' : World} {g mb : Nat} {vr : Value} {S : Nat → Option Pos} {m : Hm}
theorem Hp.glt (h : Hp w g vr mb S m) : g < w.heap.size := lt_of_block h.hd
theorem Hp.c0 (h : Hp w g vr mb S m) : w.cell? ⟨g, 0, none⟩ = some (.int .i64 (m.lim : Int)) := by rw [cell_of_row w _ 0 _ _ _ h.hd]; rfl
theorem Hp.c1 (h : Hp w g vr mb S m) : w.cell? ⟨g, 1, none⟩ = some vr := by rw [cell_of_row w _ 1 _ _ _ h.hd]; rfl
theorem Hp.c2 (h : Hp w g vr mb S m) : w.cell? ⟨g, 2, none⟩ = some (.int .i64 (liveN m.L : Int)) := by rw [cell_of_row w _ 2 _ _ _ h.hd]; rfl
theorem Hp.c3 (h : Hp w g vr mb S m) : w.cell? ⟨g, 3, none⟩ = some (.int .i64 (m.least : Int)) := by rw [cell_of_row w _ 3 _ _ _ h.hd]; rfl
theorem Hp.c4 (h : Hp w g vr mb S m) : w.cell? ⟨g, 4, none⟩ = some (.map (some mb)) := by rw [cell_of_row w _ 4 _ _ _ h.hd]; rfl
theorem Hp.c5 (h : Hp w g vr mb S m) : w.cell? ⟨g, 5, none⟩ = some m.by_ := by rw [cell_of_row w _ 5 _ _ _ h.hd]; rfl
theorem Hp.c6 (h : Hp w g vr mb S m) : w.cell? ⟨g, 6, none⟩ = some (.int .i64 (m.fet : Int)) := by rw [cell_of_row w _ 6 _ _ _ h.hd]; rfl
theorem Hp.fz (h : Hp w g vr mb S m) (j : Nat) : w.frozen? ⟨g, j, none⟩ = false := frozen_of_row w _ j _ _ h.hd
theorem Hp.form (h : Hp w g vr mb S m) : ∃ q d, vr = .slice q m.L.length d := own_form h.row
theorem Hp.short (h : Hp w g vr mb S m) : m.L.length ≤ 16384 := Nat.le_trans h.ok.len h.ok.l1
theorem Hp.pos (h : Hp w g vr mb S m) {i : Nat} {x : Pos} (hx : S i = some x) : ∃ c, clAt m.L i = some c ∧ CelAt w x c := by
  cases hc : clAt m.L i with
  | none => rw [h.none_ i hc] at hx; cases hx
  | some c =>
    obtain ⟨y, hy, hca⟩ := h.at_ i c hc
    rw [hx] at hy; cases hy
    exact ⟨c, rfl, hca⟩
theorem Hp.lt (h : Hp w g vr mb S m) : ∀ k, footH g vr mb S k → k < w.heap.size := by
  rintro k (rfl | e | rfl | ⟨i, x, hx, hk⟩)
  · exact h.glt
  · exact own_lt h.row e
  · exact h.nums.lt
  · obtain ⟨c, _, hc⟩ := h.pos hx
    exact hc.lt k hk
theorem Hp.keep (h : Hp w g vr mb S m) (hb : ∀ k, footH g vr mb S k → w'.heap[k]? = w.heap[k]?) : Hp w' g vr mb S m :=
  ⟨(hb g (.inl rfl)).trans h.hd, own_other h.row fun k e => hb k (.inr (.inl e)), fun i c hc => by
    obtain ⟨x, hx, hca⟩ := h.at_ i c hc
    exact ⟨x, hx, hca.keep fun k hk => hb k (.inr (.inr (.inr ⟨i, x, hx, hk⟩)))⟩, h.none_, h.nums.same (hb mb (.inr (.inr (.inl rfl)))), h.sep, h.ok⟩
theorem Hp.below (h : Hp w g vr mb S m) (hb : Below w.heap.size w w') : Hp w' g vr mb S m := h.keep fun k hk => hb.block k (h.lt k hk)
theorem Hp.hep (h : Hp w g vr mb S m) : Hep w g (footH g vr mb S) m := ⟨_, _, _, h, rfl⟩
/-- Blocks told apart by what they are. -/
theorem Hp.ne (h : Hp w g vr mb S m) : g ≠ mb ∧ (∀ k, vr.ownBlock = some k → k ≠ g ∧ k ≠ mb) ∧ ∀ i x, S i = some x → ∀ k, blkP x k → k ≠ g ∧ k ≠ mb ∧ vr.ownBlock ≠ some k := by
  obtain ⟨es, cl, hm⟩ := h.nums.isMap
  have hmap : ∀ k cs t fr, w.heap[k]? = some (.cells cs t fr) → k ≠ mb := fun k cs t fr hk e => by subst e; rw [hm] at hk; cases hk
  refine ⟨hmap _ _ _ _ h.hd, fun k e => ?_, fun i x hx k hk => ?_⟩
  · obtain ⟨cur, hc⟩ := own_head h.row e
    exact ⟨ne_of_ty hc h.hd (by decide), hmap _ _ _ _ hc⟩
  · obtain ⟨c, _, hc⟩ := h.pos hx
    have key : ∃ cs t, w.heap[k]? = some (.cells cs t (0, 0)) ∧ t ≠ 52 ∧ t ≠ 98 := by
      rcases hk with rfl | e | e
      · exact ⟨_, _, hc.hd, by decide, by decide⟩
      · obtain ⟨cur, h2⟩ := own_head hc.vs e; exact ⟨_, _, h2, by decide, by decide⟩
      · obtain ⟨cur, h2⟩ := own_head hc.bs e; exact ⟨_, _, h2, by decide, by decide⟩
    obtain ⟨cs, t, h2, t1, t2⟩ := key
    refine ⟨ne_of_ty h2 h.hd t1, hmap _ _ _ _ h2, fun e => ?_⟩
    obtain ⟨cur, h3⟩ := own_head h.row e
    exact ne_of_ty h2 h3 t2 rfl
/-- The cell of a place in the row. -/
theorem Hp.at' (h : Hp w g vr mb S m) {k : Nat} (hk : k < m.L.length) : ∃ b c, vr = .slice (some ⟨b, 0, none⟩) m.L.length c ∧ m.L.length ≤ c ∧ w.cell? ⟨b, k, none⟩ = some (ptrV S k) ∧ w.frozen? ⟨b, k, none⟩ = false := by
  obtain ⟨b, c, e⟩ := own_some h.row (by omega)
  subst e
  have hr := h.row
  have a1 := hr.cellAt k (by omega)
  rw [ptrs_get _ _ _ hk] at a1
  exact ⟨b, c, rfl, own_cap hr, a1, hr.frozenAt _⟩
/-- An object's cell that is changed. -/
theorem Hp.setCl (h : Hp w g vr mb S m) {i : Nat} {x : Pos} {c d : Cl} (hx : S i = some x) (hd : clAt m.L i = some d) (hn : c.num = d.num)
    (hw : ∀ k, k < w.heap.size → ¬ blkP x k → w'.heap[k]? = w.heap[k]?) (hc : CelAt w' x c) : Hp w' g vr mb S (m.set i c) := by
  obtain ⟨n0, n1, n2⟩ := h.ne
  have hi := clAt_some hd
  have hat : ∀ j, clAt (m.set i c).L j = if j = i then some c else clAt m.L j := fun j => clAt_set hi
  have hlen : (m.set i c).L.length = m.L.length := List.length_set ..
  have hlive : liveN (m.set i c).L = liveN m.L := liveN_set_same c d hd
  have hxk := fun k hk => n2 i x hx k hk
  refine ⟨?_, ?_, ?_, ?_, ?_, h.sep, h.ok.set hd hn⟩
  · rw [hlive]
    exact (hw g h.glt (fun e => (hxk g e).1 rfl)).trans h.hd
  · rw [hlen]
    exact own_other h.row fun k e => hw k (own_lt h.row e) (fun e2 => (hxk k e2).2.2 e)
  · intro j e he
    rw [hat] at he
    split at he
    · rename_i ej; subst ej; cases he; exact ⟨x, hx, hc⟩
    · rename_i hj
      obtain ⟨y, hy, hca⟩ := h.at_ j e he
      exact ⟨y, hy, hca.keep fun k hk => hw k (hca.lt k hk) (h.sep j i y x hj hy hx k hk)⟩
  · intro j hj
    rw [hat] at hj
    split at hj
    · cases hj
    · exact h.none_ j hj
  · exact h.nums.same (hw mb h.nums.lt (fun e => (hxk mb e).2.1 rfl))
end
theorem Hep.ok {w : World} {g : Nat} {F : Nat → Prop} {m : Hm} (h : Hep w g F m) : m.Ok := by obtain ⟨_, _, _, h, _⟩ := h; exact h.ok
theorem Hep.lt {w : World} {g : Nat} {F : Nat → Prop} {m : Hm} (h : Hep w g F m) : ∀ k, F k → k < w.heap.size := by obtain ⟨_, _, _, h, rfl⟩ := h; exact h.lt
theorem Hep.keep {w w' : World} {g : Nat} {F : Nat → Prop} {m : Hm} (h : Hep w g F m) (hb : ∀ k, F k → w'.heap[k]? = w.heap[k]?) : Hep w' g F m := by
  obtain ⟨_, _, _, h, rfl⟩ := h
  exact (h.keep hb).hep
theorem Hep.below {w w' : World} {g : Nat} {F : Nat → Prop} {m : Hm} (h : Hep w g F m) (hb : Below w.heap.size w w') : Hep w' g F m := h.keep fun k hk => hb.block k (h.lt k hk)
theorem WentH.below {w w' : World} {g : Nat} {F : Nat → Prop} {m : Hm} (h : Hep w g F m) (hb : Below w.heap.size w w') : WentH F g m w w' := ⟨F, h.below hb, Chp.of_below hb⟩
theorem WentH.then {w w' w2 : World} {F : Nat → Prop} {g : Nat} {m : Hm} (h : WentH F g m w w') (hb : Below w'.heap.size w' w2) : WentH F g m w w2 := by
  obtain ⟨F', h1, h2⟩ := h
  exact ⟨F', h1.below hb, h2.trans (Chp.of_below hb)⟩
end Go.Proofs.YthjjgpepgbfalaaGreatDoor
end
section
/-! The small calls of the memory of objects. -/
set_option maxRecDepth 20000
set_option linter.unusedSimpArgs false
namespace Go.Proofs.YthjjgpepgbfalaaGreatDoor
open Go.RowKit

theorem below_drewN {B : Nat} {a w : World} (h : Below B a w) (n : Nat) : Below B a (w.drewN n) := ⟨h.os, h.tape, h.output, h.size, h.block⟩
/-- The cell that a value refers to. -/
def cellV (S : Nat → Option Pos) (L : Pls) (v : Int × Int) : Value := if hasP L v = true then ptrV S v.2.toNat else .pointer none
section
variable {w : World} {g mb : Nat} {vr : Value} {S : Nat → Option Pos} {m : Hm}
theorem refTo_any (n : Int) (w : World) : Calls Tryz.prog 77 #[.int .i64 n] w fun e w' => e = .returned (.agg #[.int .i64 8, .int .i64 n]) ∧ Below w.heap.size w w' := by
  go_enter Tryz.func77, Tryz.ntmps77
  go_wp2_with fail
  exact bodyPost_ret (v := .agg #[.int .i64 8, .int .i64 n]) (by simp [results, Tryz.results77, go_sem]) rfl ⟨rfl, (Below.refl _ _).alloc (Nat.le_refl _) _⟩
theorem Hp.full (h : Hp w g vr mb S m) : Calls Tryz.prog 76 #[.pointer (some ⟨g, 0, none⟩)] w fun e w' => e = .returned (.bool (decide (m.lim ≤ liveN m.L))) ∧ Below w.heap.size w w' := by
  have c0 := h.c0
  have c2 := h.c2
  clear h
  generalize liveN m.L = lv at *
  generalize m.lim = lm at *
  go_enter Tryz.func76, Tryz.ntmps76
  go_wp2_with fail
  go_quiet (fail)
  go_wp2_with fail
  go_ret
  exact ⟨rfl, below_drewN (Below.refl _ _) _⟩
set_option maxHeartbeats 800000 in
theorem Hp.cell (h : Hp w g vr mb S m) (K N : Int) (h0 : -9223372036854775808 ≤ N) (h1 : N ≤ 9223372036854775807) : Calls Tryz.prog 59 #[.pointer (some ⟨g, 0, none⟩), .agg #[.int .i64 K, .int .i64 N]] w fun e w' => e = .returned (cellV S m.L (K, N)) ∧ Below w.heap.size w w' := by
  have c1 := h.c1
  have hg := h.glt
  have hs := h.short
  by_cases hK : K = 8
  · subst hK
    by_cases hN : N < 0
    · have hd : decide (N < 0) = true := decide_eq_true hN
      have HV : Hid (cellV S m.L (8, N) = .pointer none) := Lib.hid (if_neg (by rw [hasP_iff]; rintro ⟨_, h, _⟩; have : (0 : Int) ≤ N := h; omega))
      rw [HV.out]
      obtain ⟨q, d, rfl⟩ := h.form
      clear h
      go_enter Tryz.func59, Tryz.ntmps59
      go_wp2_with fail
      go_quiet (fail)
      go_wp2_with fail
      go_ret
      exact ⟨rfl, below_drewN ((Below.refl _ _).alloc (Nat.le_refl _) _) _⟩
    · obtain ⟨k, rfl⟩ : ∃ k : Nat, N = (k : Int) := ⟨N.toNat, by omega⟩
      have hd : decide ((k : Int) < 0) = false := by simp
      by_cases hk : k < m.L.length
      · have hd2 : decide ((m.L.length : Int) ≤ (k : Int)) = false := by simp; omega
        have HV : Hid (cellV S m.L (8, (k : Int)) = ptrV S k) := Lib.hid (by
          unfold cellV
          rw [Int.toNat_natCast]
          split
          · rfl
          · rename_i hn
            cases hc : clAt m.L k with
            | none => unfold ptrV; rw [h.none_ k hc]; rfl
            | some c => exact absurd (hasP_iff.2 ⟨rfl, by show (0 : Int) ≤ (k : Int); omega, c, by rw [Int.toNat_natCast]; exact hc⟩) hn)
        rw [HV.out]
        obtain ⟨b, c, rfl, hc, a1, _⟩ := h.at' hk
        have hb := World.block_lt_of_cell? w _ a1
        have hki : (k : Int) < (m.L.length : Int) := by omega
        obtain ⟨n, HN⟩ : ∃ n, Hid (m.L.length = n) := ⟨_, Lib.hid rfl⟩
        rw [HN.out] at c1 hs hd2 hc hki
        clear h hk
        generalize ptrV S k = pv at *
        go_enter Tryz.func59, Tryz.ntmps59
        go_wp2_with fail
        go_quiet (fail)
        go_wp2_with fail
        go_quiet (fail)
        go_wp2_with fail
        go_ret
        exact ⟨rfl, below_drewN (below_drewN ((Below.refl _ _).alloc (Nat.le_refl _) _) _) _⟩
      · have hd2 : decide ((m.L.length : Int) ≤ (k : Int)) = true := by simp; omega
        have HV : Hid (cellV S m.L (8, (k : Int)) = .pointer none) := Lib.hid (if_neg (by
          rw [hasP_iff]; rintro ⟨_, _, c, hc⟩
          have := clAt_some hc
          rw [Int.toNat_natCast] at this
          exact hk this))
        rw [HV.out]
        obtain ⟨q, d, rfl⟩ := h.form
        obtain ⟨n, HN⟩ : ∃ n, Hid (m.L.length = n) := ⟨_, Lib.hid rfl⟩
        rw [HN.out] at c1 hs hd2
        have hd3 : decide (n ≤ k) = true := by have := HN.out; simp; omega
        clear h hk
        go_enter Tryz.func59, Tryz.ntmps59
        go_wp2_with fail
        go_quiet (fail)
        go_wp2_with fail
        go_ret
        exact ⟨rfl, below_drewN ((Below.refl _ _).alloc (Nat.le_refl _) _) _⟩
  · have hd : (K != 8) = true := by simp [hK]
    have HV : Hid (cellV S m.L (K, N) = .pointer none) := Lib.hid (if_neg (by rw [hasP_iff]; rintro ⟨h, _⟩; exact hK h))
    rw [HV.out]
    obtain ⟨q, d, rfl⟩ := h.form
    clear h
    go_enter Tryz.func59, Tryz.ntmps59
    go_wp2_with fail
    go_quiet (fail)
    go_wp2_with fail
    go_ret
    exact ⟨rfl, below_drewN ((Below.refl _ _).alloc (Nat.le_refl _) _) _⟩
theorem cellV_nil (S : Nat → Option Pos) (L : Pls) (v : Int × Int) (h : hasP L v = false) : cellV S L v = .pointer none := if_neg (by rw [h]; decide)
theorem Hp.cellV_some (h : Hp w g vr mb S m) {v : Int × Int} {c : Cl} (hv : hasP m.L v = true) (hc : clAt m.L v.2.toNat = some c) : ∃ x, S v.2.toNat = some x ∧ CelAt w x c ∧ cellV S m.L v = .pointer (some ⟨x.1, 0, none⟩) := by
  obtain ⟨x, hx, hca⟩ := h.at_ _ c hc
  refine ⟨x, hx, hca, ?_⟩
  unfold cellV ptrV
  rw [if_pos hv, hx]; rfl
set_option maxHeartbeats 400000 in
theorem Hp.has (h : Hp w g vr mb S m) (K N : Int) (h0 : -9223372036854775808 ≤ N) (h1 : N ≤ 9223372036854775807) : Calls Tryz.prog 107 #[.pointer (some ⟨g, 0, none⟩), .agg #[.int .i64 K, .int .i64 N]] w fun e w' => e = .returned (.bool (hasP m.L (K, N))) ∧ Below w.heap.size w w' := by
  have HC : Hid (∀ w1, Below w.heap.size w w1 → Calls Tryz.prog 59 #[.pointer (some ⟨g, 0, none⟩), .agg #[.int .i64 K, .int .i64 N]] w1 fun e w' => e = .returned (cellV S m.L (K, N)) ∧ Below w1.heap.size w1 w') := Lib.hid fun w1 hb => (h.below hb).cell K N h0 h1
  cases hv : hasP m.L (K, N) with
  | false =>
    rw [cellV_nil _ _ _ hv] at HC
    clear h hv
    go_enter Tryz.func107, Tryz.ntmps107
    go_wp2_with (go_at_call 59; with_reducible refine (HC.out _ ((Below.refl _ _).alloc (Nat.le_refl _) _)).mono ?_; rintro e w1 ⟨rfl, hb⟩)
    go_ret
    exact ⟨rfl, ((Below.refl _ _).alloc (Nat.le_refl _) _).trans (hb.mono (by simp))⟩
  | true =>
    obtain ⟨_, _, c, hc⟩ := hasP_iff.1 hv
    obtain ⟨x, hx, _, e⟩ := h.cellV_some hv hc
    rw [e] at HC
    clear h hv e
    go_enter Tryz.func107, Tryz.ntmps107
    go_wp2_with (go_at_call 59; with_reducible refine (HC.out _ ((Below.refl _ _).alloc (Nat.le_refl _) _)).mono ?_; rintro e w1 ⟨rfl, hb⟩)
    go_ret
    exact ⟨rfl, ((Below.refl _ _).alloc (Nat.le_refl _) _).trans (hb.mono (by simp))⟩
set_option maxHeartbeats 800000 in
theorem Hp.mayVal (h : Hp w g vr mb S m) (K N : Int) (h0 : -9223372036854775808 ≤ N) (h1 : N ≤ 9223372036854775807) : Calls Tryz.prog 84 #[.pointer (some ⟨g, 0, none⟩), .agg #[.int .i64 K, .int .i64 N]] w fun e w' => e = .returned (.bool (mayV m.L (K, N))) ∧ Below w.heap.size w w' := by
  by_cases hK : K = 8
  · subst hK
    have HC : Hid (∀ w1, Below w.heap.size w w1 → Calls Tryz.prog 107 #[.pointer (some ⟨g, 0, none⟩), .agg #[.int .i64 8, .int .i64 N]] w1 fun e w' => e = .returned (.bool (hasP m.L (8, N))) ∧ Below w1.heap.size w1 w') := Lib.hid fun w1 hb => (h.below hb).has 8 N h0 h1
    have HV : Hid (mayV m.L (8, N) = hasP m.L (8, N)) := Lib.hid (if_pos rfl)
    rw [HV.out]
    generalize hasP m.L (8, N) = bb at *
    clear h HV
    go_enter Tryz.func84, Tryz.ntmps84
    go_wp2_with (go_at_call 107; with_reducible refine (HC.out _ ((Below.refl _ _).alloc (Nat.le_refl _) _)).mono ?_; rintro e w1 ⟨rfl, hb⟩)
    go_ret
    exact ⟨rfl, ((Below.refl _ _).alloc (Nat.le_refl _) _).trans (hb.mono (by simp))⟩
  · have hd : (K == 8) = false := by simp [hK]
    have HV : Hid (mayV m.L (K, N) = decide (0 ≤ K ∧ K < 9)) := Lib.hid (if_neg hK)
    rw [HV.out]
    clear h HV
    by_cases h2 : 0 ≤ K
    · have hd1 : decide (0 ≤ K) = true := decide_eq_true h2
      have e : decide (0 ≤ K ∧ K < 9) = decide (K < 9) := by simp [h2]
      rw [e]
      go_enter Tryz.func84, Tryz.ntmps84
      go_wp2_with fail
      go_ret
      exact ⟨rfl, (Below.refl _ _).alloc (Nat.le_refl _) _⟩
    · have hd1 : decide (0 ≤ K) = false := decide_eq_false h2
      have e : decide (0 ≤ K ∧ K < 9) = false := by simp [h2]
      rw [e]
      go_enter Tryz.func84, Tryz.ntmps84
      go_wp2_with fail
      go_ret
      exact ⟨rfl, (Below.refl _ _).alloc (Nat.le_refl _) _⟩
end
end Go.Proofs.YthjjgpepgbfalaaGreatDoor
end
