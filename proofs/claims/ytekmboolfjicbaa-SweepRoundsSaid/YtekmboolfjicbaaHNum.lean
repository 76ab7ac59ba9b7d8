/- A map from the logical pages to their bytes, in memory: what is looked up, stored, deleted; how many there are. -/
import Derived.Test.YtekmboolfjicbaaHMdl
import Derived.Test.YtekmboolfjicbaaCom
import Derived.Maps.Keyed
import Derived.Maps.OwnSet
import Derived.Maps.Range
set_option maxRecDepth 20000
namespace Go.Proofs.Ytekmboolfjicbaa
open Go.RowKit Go.Maps Go.MapKept
open Go.WideElems (rd rg pl rd_key rd_val rg_of rd_mk)
open Go.ChangeMaps (notKey putKey delKey setBlock heap_setBlock_same heap_setBlock_other mem_insert_iff)
open Go.WideShapes (sorted_perm)

/-- How a page's bytes read, in a map. -/
def contI (v : Value) : Option (DataW Unit × List MemPlace) :=
  match v with
  | .int k a => some (.lit (.int k a), [])
  | _ => none
theorem contI_mk (s : Nat) : contI (.int .i64 ((s : Nat) : Int)) = some (.lit (.int .i64 ((s : Nat) : Int)), []) := rfl
theorem keyedI : Keyed Try.prog 3 := int_keyed Try.underlying3
theorem keyI {x : Int} (h0 : -9223372036854775808 ≤ x) (h1 : x ≤ 9223372036854775807) : keyOf Try.prog 3 (.int .i64 x) = some (.int .i64 x) :=
  keyOf_int_mk Try.underlying3 (by simp [Lit.wf, IntKind.min, IntKind.max, IntKind.signed, IntKind.bits]; omega)

/-- Numbers with their places. -/
abbrev Nmf := Nat → Option Nat
def Nmf.has (f : Nmf) (l : Nat) : Bool := (f l).isSome
def Nmf.at_ (f : Nmf) (x : Int) : Option Nat := if 0 ≤ x then f x.toNat else none
def Nmf.put (f : Nmf) (l : Nat) (s : Nat) : Nmf := fun j => if j = l then some s else f j
def Nmf.drop (f : Nmf) (x : Int) : Nmf := fun j => if (j : Int) = x then none else f j
theorem Nmf.put_same (f : Nmf) (l : Nat) (s : Nat) : f.put l s l = some s := if_pos rfl
theorem Nmf.put_other (f : Nmf) (l j : Nat) (s : Nat) (h : j ≠ l) : f.put l s j = f j := if_neg h
/-- Block b is a map that has these pages. -/
structure Nmm (w : World) (b : Nat) (es : Array MapEntry) (clock : Nat) (f : Nmf) : Prop where
  hb : w.heap[b]? = some (.map es clock)
  fit : WideElems.Fit Try.prog 3 contI es clock
  only : ∀ x ∈ es.toList, ∃ (l : Nat) (s : Nat), l < 16385 ∧ x.key = .int .i64 (l : Int) ∧ x.val = .int .i64 ((s : Nat) : Int) ∧ f l = some s
  all : ∀ (l : Nat) (s : Nat), f l = some s → l < 16385 ∧ ∃ x ∈ es.toList, x.key = .int .i64 (l : Int)
def Nums (w : World) (b : Nat) (f : Nmf) : Prop := ∃ es clock, Nmm w b es clock f
section
variable {w w' : World} {b : Nat} {f : Nmf}
theorem Nums.lt (h : Nums w b f) : b < w.heap.size := by
  obtain ⟨es, clock, h⟩ := h
  exact (Array.getElem?_eq_some_iff.1 h.hb).1
theorem Nums.same (h : Nums w b f) (hb : w'.heap[b]? = w.heap[b]?) : Nums w' b f := by
  obtain ⟨es, clock, h⟩ := h
  exact ⟨es, clock, hb.trans h.hb, h.fit, h.only, h.all⟩
theorem Nums.below (h : Nums w b f) (hb : Below w.heap.size w w') : Nums w' b f := h.same (hb.block b h.lt)
theorem Nums.isMap (h : Nums w b f) : ∃ es c, w.heap[b]? = some (.map es c) := by
  obtain ⟨es, clock, h⟩ := h
  exact ⟨es, clock, h.hb⟩
theorem Nums.high (h : Nums w b f) {l : Nat} {s : Nat} (hl : f l = some s) : l < 16385 := by
  obtain ⟨es, clock, h⟩ := h
  exact (h.all l s hl).1
theorem Nums.made (w : World) : Nums (w.alloc (.map #[] 0)) w.heap.size (fun _ => none) :=
  ⟨#[], 0, (MapKept.heap_alloc w _).1, ⟨by simp, stamped_empty 0, by simp⟩, by simp, fun l s h => by cases h⟩

/-- 'm[l]', with 'ok'. -/
theorem Nums.look (h : Nums w b f) (x : Int) (h0 : -9223372036854775808 ≤ x) (h1 : x ≤ 9223372036854775807) :
    (Instr.lookup 40 (.map (some b)) (.int .i64 x) true).run Try.prog w = .ok (.tuple #[.int .i64 (((f.at_ x).getD 0 : Nat) : Int), .bool (f.at_ x).isSome]) w := by
  obtain ⟨es, clock, h⟩ := h
  have hz : (zeroValue 3).run Try.prog w = .ok (.int .i64 0) w := by rw [Try.zeroValue3]
  rcases fit_look true keyedI Try.underlying40 hz h.hb h.fit (keyI h0 h1) with ⟨hrun, hno, _⟩ | ⟨e0, y, he, hk, hrun, _⟩
  · have hn : f.at_ x = none := by
      unfold Nmf.at_
      split
      · rename_i hx
        cases hf : f x.toNat with
        | none => rfl
        | some s =>
          obtain ⟨_, e, he, hk⟩ := h.all _ s hf
          exact absurd (by rw [hk, Int.toNat_of_nonneg hx]) (hno e he)
      · rfl
    rw [hn]; exact hrun
  · obtain ⟨l, s, hl, hk2, hv, hf⟩ := h.only e0 he
    rw [hk] at hk2
    have hx : x = (l : Int) := by injection hk2
    have ha : f.at_ x = some s := by unfold Nmf.at_; rw [if_pos (by omega), hx, Int.toNat_natCast, hf]
    rw [ha, hrun, hv]; rfl
/-- .. without. -/
theorem Nums.look1 (h : Nums w b f) (l : Nat) (s : Nat) (hl : f l = some s) :
    (Instr.lookup 40 (.map (some b)) (.int .i64 (l : Int)) false).run Try.prog w = .ok (.int .i64 ((s : Nat) : Int)) w := by
  have hlt := h.high hl
  obtain ⟨es, clock, h⟩ := h
  have hz : (zeroValue 3).run Try.prog w = .ok (.int .i64 0) w := by rw [Try.zeroValue3]
  rcases fit_look false keyedI Try.underlying40 hz h.hb h.fit (keyI (x := (l : Int)) (by omega) (by omega)) with ⟨hrun, hno, _⟩ | ⟨e0, y, he, hk, hrun, _⟩
  · obtain ⟨_, e, he, hk⟩ := h.all _ s hl
    exact absurd hk (hno e he)
  · obtain ⟨l2, s2, _, hk2, hv, hf⟩ := h.only e0 he
    rw [hk] at hk2
    have hx : (l : Int) = (l2 : Int) := by injection hk2
    have hx2 : l = l2 := by omega
    subst hx2
    rw [hl] at hf
    cases hf
    rw [hrun, hv]; rfl
end
theorem Nmm.nodup {w : World} {b : Nat} {es : Array MapEntry} {clock : Nat} {f : Nmf} (h : Nmm w b es clock f) : es.toList.Pairwise (fun x y => x.key ≠ y.key) := ((stamped_iff es clock).1 h.fit.stamped).2.2
/-- A page's number, of an entry. -/
def keyN (x : MapEntry) : Nat := match x.key with | .int _ a => a.toNat | _ => 0
theorem Nmm.keyN {w : World} {b : Nat} {es : Array MapEntry} {clock : Nat} {f : Nmf} (h : Nmm w b es clock f) {x : MapEntry} (hx : x ∈ es.toList) : x.key = .int .i64 ((Go.Proofs.Ytekmboolfjicbaa.keyN x : Nat) : Int) := by
  obtain ⟨l, s, _, hk, _⟩ := h.only x hx
  unfold Go.Proofs.Ytekmboolfjicbaa.keyN
  rw [hk]; simp
/-- The pages that there are, rising. -/
def Nmf.keys (f : Nmf) : List Nat := (List.range 16385).filter fun l => (f l).isSome
theorem Nmf.mem_keys {f : Nmf} {l : Nat} : l ∈ f.keys ↔ l < 16385 ∧ (f l).isSome = true := by
  unfold Nmf.keys; rw [List.mem_filter, List.mem_range]
theorem Nmm.perm {w : World} {b : Nat} {es : Array MapEntry} {clock : Nat} {f : Nmf} (h : Nmm w b es clock f) : (es.toList.map Go.Proofs.Ytekmboolfjicbaa.keyN).Perm f.keys := by
  have n1 : (es.toList.map Go.Proofs.Ytekmboolfjicbaa.keyN).Nodup := by
    unfold List.Nodup
    rw [List.pairwise_map]
    exact h.nodup.imp_of_mem fun {a b} ha hb hab e => hab (by rw [h.keyN ha, h.keyN hb, e])
  have n2 : f.keys.Nodup := List.nodup_range.filter _
  refine (List.perm_ext_iff_of_nodup n1 n2).2 fun l => ?_
  rw [Nmf.mem_keys, List.mem_map]
  constructor
  · rintro ⟨x, hx, rfl⟩
    obtain ⟨l, s, hl, hk, _, hf⟩ := h.only x hx
    have e := h.keyN hx
    rw [hk] at e
    have e2 : l = Go.Proofs.Ytekmboolfjicbaa.keyN x := by injection e with _ e3; omega
    rw [← e2]
    exact ⟨hl, by rw [hf]; rfl⟩
  · rintro ⟨hl, hs⟩
    obtain ⟨s, hs⟩ := Option.isSome_iff_exists.1 hs
    obtain ⟨_, x, hx, hk⟩ := h.all l s hs
    refine ⟨x, hx, ?_⟩
    have e := h.keyN hx
    rw [hk] at e
    injection e with _ e3; omega
theorem Nmm.size {w : World} {b : Nat} {es : Array MapEntry} {clock : Nat} {f : Nmf} (h : Nmm w b es clock f) : es.size = f.keys.length := by
  rw [← h.perm.length_eq, List.length_map]; simp
theorem Nmf.keys_le (f : Nmf) : f.keys.length ≤ 16385 := by
  unfold Nmf.keys
  exact Nat.le_trans (List.length_filter_le _ _) (by simp)
section
variable {w : World} {b : Nat} {f : Nmf}
/-- 'len(m)'. -/
theorem Nums.len (h : Nums w b f) (ty : TypeId) : (Builtin.len_ #[40] ty #[.map (some b)]).run Try.prog w = .ok (.int .i64 (f.keys.length : Int)) w := by
  obtain ⟨es, clock, h⟩ := h
  rw [← h.size]
  simp [Builtin.len_, run_underlying Try.underlying40, MapKept.run_getObj_map h.hb, goInt, Result.andThen]
/-- The map as the library's laws have it. -/
theorem Nums.owns (h : Nums w b f) : ∃ D : DataW Unit, w.ownsMap Try.prog 3 contI b 16385 D ∧ ∃ es clock, Nmm w b es clock f ∧ D = .map ((es.toList.map (rg Try.prog 3 contI)).foldr DataW.insert []) := by
  obtain ⟨es, clock, h⟩ := h
  exact ⟨_, ⟨es, clock, h.hb, h.fit, by rw [h.size]; exact f.keys_le, rfl⟩, es, clock, h, rfl⟩
theorem mapTurned_other {w w' : World} {b k : Nat} (h : w.mapTurned w' b) (hk : k ≠ b) : w'.heap[k]? = w.heap[k]? := by
  obtain ⟨es, clock, es', clock', hb, rfl⟩ := h
  exact heap_setBlock_other hb _ hk
/-- 'm[l] = s'. -/
theorem Nums.store (h : Nums w b f) (l : Nat) (s : Nat) (hl : l < 16385) :
    ∃ w', (Instr.mapUpdate 40 (.map (some b)) (.int .i64 (l : Int)) (.int .i64 ((s : Nat) : Int))).run Try.prog w = .ok () w' ∧ Nums w' b (f.put l s) ∧ Only b w w' := by
  obtain ⟨es, clock, h⟩ := h
  have hkey := keyI (x := (l : Int)) (by omega) (by omega)
  have hroom : es.size < maxLen := by rw [h.size]; have := f.keys_le; unfold maxLen; omega
  obtain ⟨es', clock', hrun, F', hput, _, _, hwho⟩ := fit_store (R' := contI) keyedI Try.underlying40 h.hb h.fit hroom (fun _ _ _ _ hz => hz) hkey (contI_mk s)
  refine ⟨_, hrun, ⟨es', clock', heap_setBlock_same h.hb _, F', ?_, ?_⟩, ⟨rfl, rfl, rfl, by simp [setBlock], fun k _ hk => heap_setBlock_other h.hb _ hk⟩⟩
  · intro x hx
    rcases hwho x hx with ⟨hx1, hne⟩ | ⟨hk, hv⟩
    · obtain ⟨l2, s2, hl2, hk2, hv2, hf2⟩ := h.only x hx1
      refine ⟨l2, s2, hl2, hk2, hv2, ?_⟩
      rw [Nmf.put_other _ _ _ _ (fun e => hne (by rw [hk2, e]))]
      exact hf2
    · exact ⟨l, s, hl, hk, hv, Nmf.put_same _ _ _⟩
  · -- who was there is there, and the new one
    have hin : ∀ p, p ∈ putKey (Lit.int .i64 (l : Int)) (DataW.lit (.int .i64 ((s : Nat) : Int))) ((es.toList.map (rg Try.prog 3 contI)).foldr DataW.insert []) → ∃ x ∈ es'.toList, rg Try.prog 3 contI x = p := by
      intro p hp
      rw [← hput] at hp
      obtain ⟨x, hx, e⟩ := List.mem_map.1 ((sorted_perm _).mem_iff.1 hp)
      exact ⟨x, hx, e⟩
    have key_of : ∀ x ∈ es'.toList, ∀ kl d, rg Try.prog 3 contI x = (kl, d) → keyOf Try.prog 3 x.key = some kl := by
      intro x hx kl d e
      obtain ⟨y, hy⟩ := F'.reads x hx
      have h1 := rd_key hy
      rw [rg_of hy] at e
      rw [e] at h1; exact h1
    intro l2 s2 hf2
    by_cases e : l2 = l
    · subst e
      obtain ⟨x, hx, e⟩ := hin (Lit.int .i64 (l2 : Int), DataW.lit (.int .i64 ((s : Nat) : Int))) (by unfold putKey; exact mem_insert_iff.2 (.inl rfl))
      exact ⟨hl, x, hx, keyedI.inj (key_of x hx _ _ e) hkey⟩
    · rw [Nmf.put_other _ _ _ _ e] at hf2
      obtain ⟨h16385, x0, hx0, hk0⟩ := h.all l2 s2 hf2
      have hkey2 := keyI (x := (l2 : Int)) (by omega) (by omega)
      obtain ⟨y0, hy0⟩ := h.fit.reads x0 hx0
      have hk1 := rd_key hy0
      rw [hk0, hkey2] at hk1
      have hk2 : y0.1 = Lit.int .i64 (l2 : Int) := (Option.some.inj hk1).symm
      obtain ⟨x, hx, e3⟩ := hin y0 (by
        unfold putKey
        refine mem_insert_iff.2 (.inr (List.mem_filter.2 ⟨(sorted_perm _).mem_iff.2 (List.mem_map.2 ⟨x0, hx0, rg_of hy0⟩), ?_⟩))
        refine (notKey_iff (keyedI.key hkey)).2 ?_
        rw [hk2]
        intro e4
        injection e4 with _ e5
        omega)
      refine ⟨h16385, x, hx, keyedI.inj (key_of x hx y0.1 y0.2 e3) ?_⟩
      rw [hk2]; exact hkey2
/-- 'delete(m, l)'. -/
theorem Nums.del (h : Nums w b f) (x : Int) (h0 : -9223372036854775808 ≤ x) (h1 : x ≤ 9223372036854775807) (ty : TypeId) :
    ∃ w', (Builtin.delete_ #[40, 3] ty #[.map (some b), .int .i64 x]).run Try.prog w = .ok (.tuple #[]) w' ∧ Nums w' b (f.drop x) ∧ Only b w w' := by
  obtain ⟨es, clock, h⟩ := h
  have hkey := keyI h0 h1
  obtain ⟨es', hrun, F', hle, hdel, hsub, hwho⟩ := fit_drop_who (ty := ty) keyedI Try.underlying40 h.hb h.fit hkey
  refine ⟨_, hrun, ⟨es', clock, heap_setBlock_same h.hb _, F', ?_, ?_⟩, ⟨rfl, rfl, rfl, by simp [setBlock], fun k _ hk => heap_setBlock_other h.hb _ hk⟩⟩
  · intro e he
    obtain ⟨he1, hne⟩ := (hwho e).1 he
    obtain ⟨l2, s2, hl2, hk2, hv2, hf2⟩ := h.only e he1
    refine ⟨l2, s2, hl2, hk2, hv2, ?_⟩
    unfold Nmf.drop
    rw [if_neg (fun e => hne (by rw [hk2, e]))]
    exact hf2
  · intro l s hf
    unfold Nmf.drop at hf
    split at hf
    · cases hf
    · rename_i hne
      obtain ⟨hl, e, he, hk⟩ := h.all l s hf
      exact ⟨hl, e, (hwho e).2 ⟨he, fun e2 => hne (by rw [hk] at e2; injection e2)⟩, hk⟩
end
/-- 'm[l] = s', in the walk. -/
theorem wpList_store_frs (w : World) {ops : Array Oper} {rest : List Oper} {o : Oper} {a : Act} {Q : Exit → Act → World → Prop}
    (hg : o.guard = none) (m x v : Operand) (hop : o.op = Op.mapUpdate 40 m x v) (b : Nat) (f : Nmf) (l : Nat) (s : Nat)
    (hm : a.eval m = .map (some b)) (h : Nums w b f) (hl : l < 16385) (hx : a.eval x = .int .i64 (l : Int)) (hv : a.eval v = .int .i64 ((s : Nat) : Int))
    (hK : ∀ w', Nums w' b (f.put l s) → Only b w w' → wpList Try.prog ops Q rest (a.put o.dst undef) w') :
    wpList Try.prog ops Q (o :: rest) a w := by
  refine wpList_plain hg fun K' hK' => ?_
  obtain ⟨w', hrun, r1, r2⟩ := h.store l s hl
  unfold Oper.wp
  simp [execOp, hop, hm, hx, hv, hrun, Result.andThen]
  exact hK' _ _ (hK w' r1 r2)
/-- 'delete(m, l)', likewise. -/
theorem wpList_del_frs (w : World) {ops : Array Oper} {rest : List Oper} {o : Oper} {a : Act} {Q : Exit → Act → World → Prop}
    (hg : o.guard = none) (m x : Operand) (hop : o.op = Op.call { callee := Callee.builtin Builtin.delete, args := #[m, x], argTypes := #[40, 3] }) (b : Nat) (f : Nmf) (l : Int)
    (hm : a.eval m = .map (some b)) (h : Nums w b f) (h0 : -9223372036854775808 ≤ l) (h1 : l ≤ 9223372036854775807) (hx : a.eval x = .int .i64 l)
    (hK : ∀ w', Nums w' b (f.drop l) → Only b w w' → wpList Try.prog ops Q rest (a.put o.dst (.tuple #[])) w') :
    wpList Try.prog ops Q (o :: rest) a w := by
  refine wpList_plain hg fun K' hK' => ?_
  obtain ⟨w', hrun, r1, r2⟩ := h.del l h0 h1 o.type
  unfold Oper.wp
  simp [execOp, hop, resolve, invoke, builtin, hm, hx, hrun, Result.andThen]
  exact hK' _ _ (hK w' r1 r2)
end Go.Proofs.Ytekmboolfjicbaa
