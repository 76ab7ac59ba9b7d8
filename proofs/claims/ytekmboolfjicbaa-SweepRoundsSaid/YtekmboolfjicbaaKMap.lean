/- A map from things of any kind to places, in memory: what is looked up, what is stored. -/
import Derived.Test.YtekmboolfjicbaaHMay
import Derived.DeepKeys4
import Derived.KernelRfl
import Derived.Maps.OwnSet
set_option maxRecDepth 20000
namespace Go.Proofs.Ytekmboolfjicbaa
open Go.RowKit Go.Maps Go.MapKept
open Go.WideElems (rd rg pl rd_key rd_val rg_of rd_mk)
open Go.ChangeMaps (notKey putKey delKey setBlock heap_setBlock_same heap_setBlock_other mem_insert_iff)
open Go.WideShapes (sorted_perm)

/-- A kind of things that a map's keys may be: how a thing is spelled. -/
structure KeyT {K : Type} (k t : TypeId) (dom : K → Prop) (kv : K → Value) : Prop where
  keyed : Keyed Try.prog k
  und : Try.prog.underlying t = some (.map k 3)
  lit : ∀ x, dom x → ∃ l, keyOf Try.prog k (kv x) = some l
  inj : ∀ x y, kv x = kv y → x = y
/-- Block b is a map that has these things, at most n. -/
structure Kmm {K : Type} (k : TypeId) (dom : K → Prop) (kv : K → Value) (w : World) (b : Nat) (es : Array MapEntry) (clock n : Nat) (f : K → Option Nat) : Prop where
  hb : w.heap[b]? = some (.map es clock)
  fit : WideElems.Fit Try.prog k contI es clock
  only : ∀ x ∈ es.toList, ∃ (l : K) (s : Nat), dom l ∧ x.key = kv l ∧ x.val = .int .i64 ((s : Nat) : Int) ∧ f l = some s
  all : ∀ (l : K) (s : Nat), f l = some s → dom l ∧ ∃ x ∈ es.toList, x.key = kv l
  size : es.size ≤ n
def KMap {K : Type} (k : TypeId) (dom : K → Prop) (kv : K → Value) (w : World) (b n : Nat) (f : K → Option Nat) : Prop := ∃ es clock, Kmm k dom kv w b es clock n f
section
variable {K : Type} {k t : TypeId} {dom : K → Prop} {kv : K → Value} {w w' : World} {b n : Nat} {f : K → Option Nat}
theorem KMap.lt (h : KMap k dom kv w b n f) : b < w.heap.size := by
  obtain ⟨es, clock, h⟩ := h
  exact (Array.getElem?_eq_some_iff.1 h.hb).1
theorem KMap.same (h : KMap k dom kv w b n f) (hb : w'.heap[b]? = w.heap[b]?) : KMap k dom kv w' b n f := by
  obtain ⟨es, clock, h⟩ := h
  exact ⟨es, clock, hb.trans h.hb, h.fit, h.only, h.all, h.size⟩
theorem KMap.below (h : KMap k dom kv w b n f) (hb : Below w.heap.size w w') : KMap k dom kv w' b n f := h.same (hb.block b h.lt)
theorem KMap.isMap (h : KMap k dom kv w b n f) : ∃ es c, w.heap[b]? = some (.map es c) := by
  obtain ⟨es, clock, h⟩ := h
  exact ⟨es, clock, h.hb⟩
theorem KMap.made (w : World) : KMap k dom kv (w.alloc (.map #[] 0)) w.heap.size 0 (fun _ => none) :=
  ⟨#[], 0, (MapKept.heap_alloc w _).1, ⟨by simp, stamped_empty 0, by simp⟩, by simp, (fun l s h => by cases h), by simp⟩
/-- 'm[x]', with 'ok'. -/
theorem KMap.look (T : KeyT k t dom kv) (h : KMap k dom kv w b n f) (x : K) (hx : dom x) :
    (Instr.lookup t (.map (some b)) (kv x) true).run Try.prog w = .ok (.tuple #[.int .i64 (((f x).getD 0 : Nat) : Int), .bool (f x).isSome]) w := by
  obtain ⟨es, clock, h⟩ := h
  obtain ⟨lx, hkey⟩ := T.lit x hx
  have hz : (zeroValue 3).run Try.prog w = .ok (.int .i64 0) w := by rw [Try.zeroValue3]
  rcases fit_look true T.keyed T.und hz h.hb h.fit hkey with ⟨hrun, hno, _⟩ | ⟨e0, y, he, hk, hrun, _⟩
  · have hn : f x = none := by
      cases hf : f x with
      | none => rfl
      | some s =>
        obtain ⟨_, e, he, hk⟩ := h.all _ s hf
        exact absurd hk (hno e he)
    rw [hn]; exact hrun
  · obtain ⟨l, s, hl, hk2, hv, hf⟩ := h.only e0 he
    rw [hk] at hk2
    have hxl := T.inj _ _ hk2
    subst hxl
    rw [hf, hrun, hv]; rfl
/-- .. in a nil map. -/
theorem KeyT.look0 (T : KeyT k t dom kv) (x : K) (hx : dom x) :
    (Instr.lookup t (.map none) (kv x) true).run Try.prog w = .ok (.tuple #[.int .i64 0, .bool false]) w := by
  obtain ⟨lx, hkey⟩ := T.lit x hx
  have hz : (zeroValue 3).run Try.prog w = .ok (.int .i64 0) w := by rw [Try.zeroValue3]
  exact Maps.look_nil true T.keyed T.und hz hkey
def putF [DecidableEq K] (f : K → Option Nat) (l : K) (s : Nat) : K → Option Nat := fun j => if j = l then some s else f j
/-- 'm[x] = s'. -/
theorem KMap.store [DecidableEq K] (T : KeyT k t dom kv) (h : KMap k dom kv w b n f) (hn : n < 1000000) (l : K) (s : Nat) (hl : dom l) :
    ∃ w', (Instr.mapUpdate t (.map (some b)) (kv l) (.int .i64 ((s : Nat) : Int))).run Try.prog w = .ok () w' ∧ KMap k dom kv w' b (n + 1) (putF f l s) ∧ Only b w w' := by
  obtain ⟨es, clock, h⟩ := h
  obtain ⟨lx, hkey⟩ := T.lit l hl
  have hroom : es.size < maxLen := by have := h.size; unfold maxLen; omega
  obtain ⟨es', clock', hrun, F', hput, _, _, hwho⟩ := fit_store (R' := contI) T.keyed T.und h.hb h.fit hroom (fun _ _ _ _ hz => hz) hkey (contI_mk s)
  refine ⟨_, hrun, ⟨es', clock', heap_setBlock_same h.hb _, F', ?_, ?_, ?_⟩, ⟨rfl, rfl, rfl, by simp [setBlock], fun k _ hk => heap_setBlock_other h.hb _ hk⟩⟩
  · intro x hx
    rcases hwho x hx with ⟨hx1, hne⟩ | ⟨hk, hv⟩
    · obtain ⟨l2, s2, hl2, hk2, hv2, hf2⟩ := h.only x hx1
      refine ⟨l2, s2, hl2, hk2, hv2, ?_⟩
      unfold putF
      rw [if_neg (fun e => hne (by rw [hk2, e]))]
      exact hf2
    · exact ⟨l, s, hl, hk, hv, by unfold putF; rw [if_pos rfl]⟩
  · have hin : ∀ p, p ∈ putKey lx (DataW.lit (.int .i64 ((s : Nat) : Int))) ((es.toList.map (rg Try.prog k contI)).foldr DataW.insert []) → ∃ x ∈ es'.toList, rg Try.prog k contI x = p := by
      intro p hp
      rw [← hput] at hp
      obtain ⟨x, hx, e⟩ := List.mem_map.1 ((sorted_perm _).mem_iff.1 hp)
      exact ⟨x, hx, e⟩
    have key_of : ∀ x ∈ es'.toList, ∀ kl d, rg Try.prog k contI x = (kl, d) → keyOf Try.prog k x.key = some kl := by
      intro x hx kl d e
      obtain ⟨y, hy⟩ := F'.reads x hx
      have h1 := rd_key hy
      rw [rg_of hy] at e
      rw [e] at h1; exact h1
    intro l2 s2 hf2
    unfold putF at hf2
    by_cases e : l2 = l
    · subst e
      obtain ⟨x, hx, e⟩ := hin (lx, DataW.lit (.int .i64 ((s : Nat) : Int))) (by unfold putKey; exact mem_insert_iff.2 (.inl rfl))
      exact ⟨hl, x, hx, T.keyed.inj (key_of x hx _ _ e) hkey⟩
    · rw [if_neg e] at hf2
      obtain ⟨hd, x0, hx0, hk0⟩ := h.all l2 s2 hf2
      obtain ⟨lx2, hkey2⟩ := T.lit l2 hd
      obtain ⟨y0, hy0⟩ := h.fit.reads x0 hx0
      have hk1 := rd_key hy0
      rw [hk0, hkey2] at hk1
      have hk2 : y0.1 = lx2 := (Option.some.inj hk1).symm
      obtain ⟨x, hx, e3⟩ := hin y0 (by
        unfold putKey
        refine mem_insert_iff.2 (.inr (List.mem_filter.2 ⟨(sorted_perm _).mem_iff.2 (List.mem_map.2 ⟨x0, hx0, rg_of hy0⟩), ?_⟩))
        refine (notKey_iff (T.keyed.key hkey)).2 ?_
        rw [hk2]
        intro e4
        rw [e4] at hkey2
        exact e (T.inj _ _ (T.keyed.inj hkey2 hkey)))
      refine ⟨hd, x, hx, T.keyed.inj (key_of x hx y0.1 y0.2 e3) ?_⟩
      rw [hk2]; exact hkey2
  · have e1 : es'.size = ((es'.toList.map (rg Try.prog k contI)).foldr DataW.insert []).length := by rw [Go.length_sorted]; simp
    rw [e1, hput]
    unfold putKey
    rw [Go.length_insert]
    have e2 := List.length_filter_le (notKey lx) ((es.toList.map (rg Try.prog k contI)).foldr DataW.insert [])
    rw [Go.length_sorted] at e2
    have := h.size
    simp at e2
    omega
end
theorem laidOut : laidOutB Try.prog = true := by kernel_rfl
theorem val_key {x y : Int} (hx : I64 x) (hy : I64 y) : ∃ l, keyOf Try.prog 36 (valV (x, y)) = some l := by
  have wf : ∀ {z : Int}, I64 z → (Lit.int .i64 z).wf = true := fun {z} hz => by
    obtain ⟨h0, h1⟩ := hz
    simp [Lit.wf, IntKind.min, IntKind.max, IntKind.signed, IntKind.bits]; omega
  have hk : Try.prog.keyType 36 = true := by kernel_rfl
  have hc : Try.prog.cellsOf 36 = 2 := by kernel_rfl
  have hf : (valV (x, y)).formed Try.prog 36 = true := by simp [Value.formed, Try.underlying36, hc]
  have hl : ∃ ls, Try.prog.keyLits (Try.prog.types.size + 1) 36 [.int .i64 x, .int .i64 y] = some ls := by
    obtain ⟨N, hN⟩ : ∃ N, Try.prog.types.size = N + 1 := ⟨Try.prog.types.size - 1, by kernel_rfl⟩
    rw [hN]
    have c3 : Try.prog.cellsOf 3 = 1 := by kernel_rfl
    have cK : Try.prog.cellsOf 34 = 1 := by kernel_rfl
    simp [Program.keyLits, Try.underlying36, Try.underlying34, Try.underlying3, hc, c3, cK, wf hx, wf hy]
  obtain ⟨ls, hl⟩ := hl
  refine ⟨.string (keyBytes ls), ?_⟩
  unfold keyOf
  rw [Try.underlying36]
  show (if (Try.prog.keyType 36 && (valV (x, y)).formed Try.prog 36) = true then _ else _) = _
  rw [if_pos (by rw [hk, hf]; rfl)]
  show Option.map _ (Try.prog.keyLits (Try.prog.types.size + 1) 36 [.int .i64 x, .int .i64 y]) = _
  rw [hl]; rfl
/-- The keys of the three kinds. -/
theorem keyT_int : KeyT (K := Int) 3 40 I64 (fun x => .int .i64 x) :=
  ⟨keyedI, Try.underlying40, fun x hx => ⟨_, keyI hx.1 hx.2⟩, fun x y h => by injection h⟩
abbrev strU (x : List UInt8) : Value := .string ⟨x.toArray⟩
theorem keyT_str : KeyT (K := List UInt8) 9 51 (fun s => s.length ≤ 1000) strU :=
  ⟨string_keyed Try.underlying9, Try.underlying51, fun x hx => ⟨.string x, by simp [keyOf, Try.underlying9, mapKey, ByteArray.size, maxLen]; omega⟩, fun x y h => by
    injection h with h
    have h1 := congrArg (fun b : ByteArray => b.data.toList) h
    simpa using h1⟩
theorem keyT_val : KeyT (K := Int × Int) 36 78 (fun v => I64 v.1 ∧ I64 v.2) valV :=
  ⟨Keyed.of_law (deep_law_laid laidOut (m := 2) (by omega) (by decide) (by kernel_rfl) (by kernel_rfl)), Try.underlying78, fun x hx => val_key hx.1 hx.2, fun x y h => by
    injection h with h
    have h1 := congrArg Array.toList h
    simp at h1
    exact Prod.ext h1.1 h1.2⟩
end Go.Proofs.Ytekmboolfjicbaa
