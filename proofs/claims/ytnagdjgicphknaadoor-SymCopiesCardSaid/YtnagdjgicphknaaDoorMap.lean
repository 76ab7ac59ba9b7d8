/- A map from names to their numbers, in memory: looked up, stored. -/
import Derived.Test.YtnagdjgicphknaaDoorMdl
import Derived.Maps.Keyed
import Derived.Maps.OwnSet
set_option maxRecDepth 20000
namespace Go.Proofs.YtnagdjgicphknaaDoor
open Go.RowKit Go.Maps Go.MapKept
open Go.WideElems (rd rg pl rd_key rd_val rg_of rd_mk)
open Go.ChangeMaps (notKey putKey delKey setBlock heap_setBlock_same heap_setBlock_other mem_insert_iff)
open Go.WideShapes (sorted_perm)

/-- All but block g lies as it lay. -/
structure Only (g : Nat) (w w' : World) : Prop where
  os : w'.os = w.os
  tape : w'.tape = w.tape
  output : w'.output = w.output
  size : w.heap.size ≤ w'.heap.size
  block : ∀ k, k < w.heap.size → k ≠ g → w'.heap[k]? = w.heap[k]?
/-- How a number reads, in a map. -/
def numR (v : Value) : Option (DataW Unit × List MemPlace) :=
  match v with
  | .int k x => some (.lit (.int k x), [])
  | _ => none
theorem numR_mk (x : Int) : numR (.int .i64 x) = some (.lit (.int .i64 x), []) := rfl
theorem keyedS : Keyed Tryd.prog 9 := string_keyed Tryd.underlying9
theorem keyS {S : ByteArray} (h : S.size ≤ 140737488355328) : keyOf Tryd.prog 9 (.string S) = some (.string S.data.toList) := WideMaps.keyOf_string_mk Tryd.underlying9 (by unfold maxLen; exact Nat.le_trans h (by decide))
/-- A name's number, 0. -/
def numI (L : List ByteArray) (S : ByteArray) : Int := if S ∈ L then (atN L S : Int) else 0
/-- Block b is a map of these names' numbers. -/
structure Frm (w : World) (b : Nat) (es : Array MapEntry) (clock : Nat) (L : List ByteArray) : Prop where
  hb : w.heap[b]? = some (.map es clock)
  fit : WideElems.Fit Tryd.prog 9 numR es clock
  only : ∀ x ∈ es.toList, ∃ (S : ByteArray), S ∈ L ∧ x.key = .string S ∧ x.val = .int .i64 (atN L S : Int)
  all : ∀ S ∈ L, ∃ x ∈ es.toList, x.key = .string S
def Frs (w : World) (b : Nat) (L : List ByteArray) : Prop := ∃ es clock, Frm w b es clock L
theorem Frm.nodup {w : World} {b : Nat} {es : Array MapEntry} {clock : Nat} {L : List ByteArray} (h : Frm w b es clock L) : es.toList.Pairwise (fun x y => x.key ≠ y.key) := ((stamped_iff es clock).1 h.fit.stamped).2.2
def keyN (x : MapEntry) : ByteArray := match x.key with | .string S => S | _ => ⟨#[]⟩
theorem Frm.size {w : World} {b : Nat} {es : Array MapEntry} {clock : Nat} {L : List ByteArray} (h : Frm w b es clock L) : es.size ≤ L.length := by
  have hk : ∀ x ∈ es.toList, x.key = .string (keyN x) ∧ keyN x ∈ L := fun x hx => by
    obtain ⟨S, hS, e, _⟩ := h.only x hx
    unfold keyN
    rw [e]; exact ⟨rfl, hS⟩
  have := php (es.toList.map keyN) L (by
    unfold List.Nodup
    rw [List.pairwise_map]
    exact h.nodup.imp_of_mem fun {a b} ha hb hab e => hab (by rw [(hk a ha).1, (hk b hb).1, e])) (fun S hS => by
    obtain ⟨x, hx, rfl⟩ := List.mem_map.1 hS
    exact (hk x hx).2)
  simpa using this
section
variable {w w' : World} {b : Nat} {L : List ByteArray}
theorem Frs.lt (h : Frs w b L) : b < w.heap.size := by
  obtain ⟨es, clock, h⟩ := h
  exact (Array.getElem?_eq_some_iff.1 h.hb).1
theorem Frs.same (h : Frs w b L) (hb : w'.heap[b]? = w.heap[b]?) : Frs w' b L := by
  obtain ⟨es, clock, h⟩ := h
  exact ⟨es, clock, hb.trans h.hb, h.fit, h.only, h.all⟩
theorem Frs.isMap (h : Frs w b L) : ∃ es c, w.heap[b]? = some (.map es c) := by
  obtain ⟨es, clock, h⟩ := h
  exact ⟨es, clock, h.hb⟩
theorem Frs.made (w : World) : Frs (w.alloc (.map #[] 0)) w.heap.size [] :=
  ⟨#[], 0, (MapKept.heap_alloc w _).1, ⟨by simp, stamped_empty 0, by simp⟩, by simp, fun S h => by cases h⟩
/-- A copy of the map. -/
theorem Frs.cloned {es : Array MapEntry} {clock : Nat} (h : Frm w b es clock L) {c : Nat} (hc : w'.heap[c]? = some (.map es clock)) : Frs w' c L := ⟨es, clock, hc, h.fit, h.only, h.all⟩
/-- 'm[name]', with 'ok'. -/
theorem Frs.look (h : Frs w b L) (S : ByteArray) (hS : S.size ≤ 140737488355328) :
    (Instr.lookup 47 (.map (some b)) (.string S) true).run Tryd.prog w = .ok (.tuple #[.int .i64 (numI L S), .bool (decide (S ∈ L))]) w := by
  obtain ⟨es, clock, h⟩ := h
  have hz : (zeroValue 3).run Tryd.prog w = .ok (.int .i64 0) w := by rw [Tryd.zeroValue3]
  unfold numI
  rcases fit_look true keyedS Tryd.underlying47 hz h.hb h.fit (keyS hS) with ⟨hrun, hno, _⟩ | ⟨e0, y, he, hk, hrun, _⟩
  · have hn : S ∉ L := fun hm => by
      obtain ⟨e, he, hk⟩ := h.all S hm
      exact absurd hk (hno e he)
    rw [if_neg hn, decide_eq_false hn]; exact hrun
  · obtain ⟨T, hT, hk2, hv⟩ := h.only e0 he
    rw [hk] at hk2
    have hx : S = T := by injection hk2
    subst hx
    rw [if_pos hT, decide_eq_true hT, hrun, hv]; rfl
theorem atN_snoc_old {L : List ByteArray} {S T : ByteArray} (h : T ∈ L) : atN (L ++ [S]) T = atN L T := by
  induction L with
  | nil => cases h
  | cons x r ih =>
    show (if x = T then 0 else atN (r ++ [S]) T + 1) = (if x = T then 0 else atN r T + 1)
    by_cases e : x = T
    · rw [if_pos e, if_pos e]
    · rw [if_neg e, if_neg e]
      rcases List.mem_cons.1 h with h1 | h1
      · exact absurd h1.symm e
      · rw [ih h1]
theorem atN_snoc_new {L : List ByteArray} {S : ByteArray} (h : S ∉ L) : atN (L ++ [S]) S = L.length := by
  induction L with
  | nil => show (if S = S then 0 else 0 + 1) = 0; rw [if_pos rfl]
  | cons x r ih =>
    show (if x = S then 0 else atN (r ++ [S]) S + 1) = r.length + 1
    rw [if_neg (fun e => h (by rw [e]; simp)), ih (fun hm => h (by simp [hm]))]
/-- 'm[name] = its number', of a new name. -/
theorem Frs.store (h : Frs w b L) (S : ByteArray) (hS : S.size ≤ 140737488355328) (hn : S ∉ L) (hl : L.length ≤ 1000000) :
    ∃ w', (Instr.mapUpdate 47 (.map (some b)) (.string S) (.int .i64 (L.length : Int))).run Tryd.prog w = .ok () w' ∧ Frs w' b (L ++ [S]) ∧ Only b w w' := by
  obtain ⟨es, clock, h⟩ := h
  have hkey := keyS hS
  have hroom : es.size < maxLen := by have := h.size; unfold maxLen; omega
  obtain ⟨es', clock', hrun, F', hput, _, _, hwho⟩ := fit_store (R' := numR) keyedS Tryd.underlying47 h.hb h.fit hroom (fun _ _ _ _ hz => hz) hkey (numR_mk (L.length : Int))
  refine ⟨_, hrun, ⟨es', clock', heap_setBlock_same h.hb _, F', ?_, ?_⟩, ⟨rfl, rfl, rfl, by simp [setBlock], fun k _ hk => heap_setBlock_other h.hb _ hk⟩⟩
  · intro x hx
    rcases hwho x hx with ⟨hx1, hne⟩ | ⟨hk, hv⟩
    · obtain ⟨T, hT, hk2, hv2⟩ := h.only x hx1
      exact ⟨T, by simp [hT], hk2, by rw [atN_snoc_old hT]; exact hv2⟩
    · exact ⟨S, by simp, hk, by rw [atN_snoc_new hn]; exact hv⟩
  · have hin : ∀ p, p ∈ putKey (Lit.string S.data.toList) (DataW.lit (.int .i64 (L.length : Int))) ((es.toList.map (rg Tryd.prog 9 numR)).foldr DataW.insert []) → ∃ x ∈ es'.toList, rg Tryd.prog 9 numR x = p := by
      intro p hp
      rw [← hput] at hp
      obtain ⟨x, hx, e⟩ := List.mem_map.1 ((sorted_perm _).mem_iff.1 hp)
      exact ⟨x, hx, e⟩
    have key_of : ∀ x ∈ es'.toList, ∀ kl d, rg Tryd.prog 9 numR x = (kl, d) → keyOf Tryd.prog 9 x.key = some kl := by
      intro x hx kl d e
      obtain ⟨y, hy⟩ := F'.reads x hx
      have h1 := rd_key hy
      rw [rg_of hy] at e
      rw [e] at h1; exact h1
    intro T hT
    by_cases e : T = S
    · subst e
      obtain ⟨x, hx, e⟩ := hin (Lit.string T.data.toList, DataW.lit (.int .i64 (L.length : Int))) (by unfold putKey; exact mem_insert_iff.2 (.inl rfl))
      exact ⟨x, hx, keyedS.inj (key_of x hx _ _ e) hkey⟩
    · have hTL : T ∈ L := by
        rcases List.mem_append.1 hT with h1 | h1
        · exact h1
        · simp only [List.mem_singleton] at h1; exact absurd h1 e
      obtain ⟨x0, hx0, hk0⟩ := h.all T hTL
      obtain ⟨y0, hy0⟩ := h.fit.reads x0 hx0
      have hk1 := rd_key hy0
      have hsz : ∃ s : ByteArray, Value.string T = .string s ∧ y0.1 = .string s.data.toList ∧ s.size ≤ maxLen := by
        rw [hk0] at hk1
        exact WideMaps.string_of_keyOf Tryd.underlying9 hk1
      obtain ⟨s, es1, hk2, _⟩ := hsz
      obtain rfl : T = s := by injection es1
      obtain ⟨x, hx, e3⟩ := hin y0 (by
        unfold putKey
        refine mem_insert_iff.2 (.inr (List.mem_filter.2 ⟨(sorted_perm _).mem_iff.2 (List.mem_map.2 ⟨x0, hx0, rg_of hy0⟩), ?_⟩))
        refine (notKey_iff (keyedS.key hkey)).2 ?_
        rw [hk2]
        intro e4
        injection e4 with e5
        refine e ?_
        cases T; cases S
        have e6 := Array.ext' e5
        simp only at e6
        rw [e6])
      refine ⟨x, hx, keyedS.inj (key_of x hx y0.1 y0.2 e3) ?_⟩
      rw [hk0] at hk1; exact hk1
end
/-- 'm[name] = its number', in the walk. -/
theorem wpList_store_frs (w : World) {ops : Array Oper} {rest : List Oper} {o : Oper} {a : Act} {Q : Exit → Act → World → Prop}
    (hg : o.guard = none) (m x v : Operand) (hop : o.op = Op.mapUpdate 47 m x v) (b : Nat) (L : List ByteArray) (S : ByteArray)
    (hm : a.eval m = .map (some b)) (h : Frs w b L) (hS : S.size ≤ 140737488355328) (hn : S ∉ L) (hl : L.length ≤ 1000000) (hx : a.eval x = .string S) (hv : a.eval v = .int .i64 (L.length : Int))
    (hK : ∀ w', Frs w' b (L ++ [S]) → Only b w w' → wpList Tryd.prog ops Q rest (a.put o.dst undef) w') :
    wpList Tryd.prog ops Q (o :: rest) a w := by
  refine wpList_plain hg fun K' hK' => ?_
  obtain ⟨w', hrun, r1, r2⟩ := h.store S hS hn hl
  unfold Oper.wp
  simp [execOp, hop, hm, hx, hv, hrun, Result.andThen]
  exact hK' _ _ (hK w' r1 r2)
end Go.Proofs.YtnagdjgicphknaaDoor
