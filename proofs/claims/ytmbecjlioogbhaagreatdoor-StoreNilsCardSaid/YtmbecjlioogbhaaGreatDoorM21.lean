/- Texts YRl to YTellS of this seat, laid into one. -/
import Derived.RangeFuncNested
import Derived.RangeFuncBound
import Derived.RangeFuncCalls
import Derived.RangeFuncLeaves
import Derived.RangeFuncBox
import Derived.Shelf.Abstract
import Derived.Shelf.RegionOpen
import Derived.WalkKit
import Derived.OwnWalkIn
import Derived.TacticsInMore
import Derived.LoopNIn
import Derived.LoopIn
import Derived.Deep.Cut
import Derived.Deep.RegionHeldLaw
import Derived.Test.YtmbecjlioogbhaaGreatDoorM00
import Derived.Test.YtmbecjlioogbhaaGreatDoorM06
import Derived.Test.YtmbecjlioogbhaaGreatDoorM14
import Derived.Test.YtmbecjlioogbhaaGreatDoorM20
set_option linter.unusedVariables false
set_option linter.unusedSimpArgs false
set_option linter.constructorNameAsVariable false
section
/-! What pages were told to be, in a map: what is looked up, stored. -/
set_option maxRecDepth 20000
set_option linter.unusedSimpArgs false
namespace Go.Proofs.YtmbecjlioogbhaaGreatDoor
open Go.RowKit Go.Maps Go.MapKept
open Go.WideElems (rd rg pl rd_key rd_val rg_of rd_mk)
open Go.ChangeMaps (notKey putKey delKey setBlock heap_setBlock_same heap_setBlock_other mem_insert_iff)
open Go.WideShapes (sorted_perm)

/-- How a role reads, in a map. -/
def contRl (v : Value) : Option (DataW Unit × List MemPlace) :=
  match v with
  | .int k a => some (.lit (.int k a), [])
  | _ => none
abbrev datORl (s : Nat) : DataW Unit := DataW.lit (.int .i64 ((s : Nat) : Int))
theorem contRl_mk (s : Nat) : contRl (.int .i64 ((s : Nat) : Int)) = some (datORl s, []) := rfl

/-- Pages with their roles. -/
abbrev Rlf := Nat → Option Nat
def Rlf.has (f : Rlf) (l : Nat) : Bool := (f l).isSome
def Rlf.at_ (f : Rlf) (x : Int) : Option Nat := if 0 ≤ x then f x.toNat else none
def Rlf.put (f : Rlf) (l : Nat) (s : Nat) : Rlf := fun j => if j = l then some s else f j
def Rlf.drop (f : Rlf) (x : Int) : Rlf := fun j => if (j : Int) = x then none else f j
theorem Rlf.put_same (f : Rlf) (l : Nat) (s : Nat) : f.put l s l = some s := if_pos rfl
theorem Rlf.put_other (f : Rlf) (l j : Nat) (s : Nat) (h : j ≠ l) : f.put l s j = f j := if_neg h
/-- Block b is a map that has these pages. -/
structure Rlm (w : World) (b : Nat) (es : Array MapEntry) (clock : Nat) (f : Rlf) : Prop where
  hb : w.heap[b]? = some (.map es clock)
  fit : WideElems.Fit Tryz.prog 3 contRl es clock
  only : ∀ x ∈ es.toList, ∃ (l : Nat) (s : Nat), l < 512 ∧ x.key = .int .i64 (l : Int) ∧ x.val = .int .i64 ((s : Nat) : Int) ∧ f l = some s
  all : ∀ (l : Nat) (s : Nat), f l = some s → l < 512 ∧ ∃ x ∈ es.toList, x.key = .int .i64 (l : Int)
def Rls (w : World) (b : Nat) (f : Rlf) : Prop := ∃ es clock, Rlm w b es clock f
section
variable {w w' : World} {b : Nat} {f : Rlf}
theorem Rls.lt (h : Rls w b f) : b < w.heap.size := by
  obtain ⟨es, clock, h⟩ := h
  exact (Array.getElem?_eq_some_iff.1 h.hb).1
theorem Rls.same (h : Rls w b f) (hb : w'.heap[b]? = w.heap[b]?) : Rls w' b f := by
  obtain ⟨es, clock, h⟩ := h
  exact ⟨es, clock, hb.trans h.hb, h.fit, h.only, h.all⟩
theorem Rls.below (h : Rls w b f) (hb : Below w.heap.size w w') : Rls w' b f := h.same (hb.block b h.lt)
theorem Rls.isMap (h : Rls w b f) : ∃ es c, w.heap[b]? = some (.map es c) := by
  obtain ⟨es, clock, h⟩ := h
  exact ⟨es, clock, h.hb⟩
theorem Rls.high (h : Rls w b f) {l : Nat} {s : Nat} (hl : f l = some s) : l < 512 := by
  obtain ⟨es, clock, h⟩ := h
  exact (h.all l s hl).1
theorem Rls.made (w : World) : Rls (w.alloc (.map #[] 0)) w.heap.size (fun _ => none) :=
  ⟨#[], 0, (MapKept.heap_alloc w _).1, ⟨by simp, stamped_empty 0, by simp⟩, by simp, fun l s h => by cases h⟩

/-- 'm[l]', with 'ok'. -/
theorem Rls.look (h : Rls w b f) (x : Int) (h0 : -9223372036854775808 ≤ x) (h1 : x ≤ 9223372036854775807) :
    (Instr.lookup 122 (.map (some b)) (.int .i64 x) true).run Tryz.prog w = .ok (.tuple #[.int .i64 (((f.at_ x).getD 0 : Nat) : Int), .bool (f.at_ x).isSome]) w := by
  obtain ⟨es, clock, h⟩ := h
  have hz : (zeroValue 121).run Tryz.prog w = .ok (.int .i64 0) w := by rw [Tryz.zeroValue121]
  rcases fit_look true keyedI Tryz.underlying122 hz h.hb h.fit (keyI h0 h1) with ⟨hrun, hno, _⟩ | ⟨e0, y, he, hk, hrun, _⟩
  · have hn : f.at_ x = none := by
      unfold Rlf.at_
      split
      · rename_i hx
        cases hf : f x.toNat with
        | none => rfl
        | some s =>
          obtain ⟨_, e, he, hk⟩ := h.all _ s hf
          exact absurd (by rw [hk, Int.toNat_of_nonneg hx]) (hno e he)
      · rfl
    rw [hn]; exact hrun
  · obtain ⟨l, s, hl, hk2, hv, hf⟩ := h.only e0 he
    rw [hk] at hk2
    have hx : x = (l : Int) := by injection hk2
    have ha : f.at_ x = some s := by unfold Rlf.at_; rw [if_pos (by omega), hx, Int.toNat_natCast, hf]
    rw [ha, hrun, hv]; rfl
/-- .. without. -/
theorem Rls.look1 (h : Rls w b f) (l : Nat) (s : Nat) (hl : f l = some s) :
    (Instr.lookup 122 (.map (some b)) (.int .i64 (l : Int)) false).run Tryz.prog w = .ok (.int .i64 ((s : Nat) : Int)) w := by
  have hlt := h.high hl
  obtain ⟨es, clock, h⟩ := h
  have hz : (zeroValue 121).run Tryz.prog w = .ok (.int .i64 0) w := by rw [Tryz.zeroValue121]
  rcases fit_look false keyedI Tryz.underlying122 hz h.hb h.fit (keyI (x := (l : Int)) (by omega) (by omega)) with ⟨hrun, hno, _⟩ | ⟨e0, y, he, hk, hrun, _⟩
  · obtain ⟨_, e, he, hk⟩ := h.all _ s hl
    exact absurd hk (hno e he)
  · obtain ⟨l2, s2, _, hk2, hv, hf⟩ := h.only e0 he
    rw [hk] at hk2
    have hx : (l : Int) = (l2 : Int) := by injection hk2
    have hx2 : l = l2 := by omega
    subst hx2
    rw [hl] at hf
    cases hf
    rw [hrun, hv]; rfl
end
theorem Rlm.nodup {w : World} {b : Nat} {es : Array MapEntry} {clock : Nat} {f : Rlf} (h : Rlm w b es clock f) : es.toList.Pairwise (fun x y => x.key ≠ y.key) := ((stamped_iff es clock).1 h.fit.stamped).2.2
theorem Rlm.keyN {w : World} {b : Nat} {es : Array MapEntry} {clock : Nat} {f : Rlf} (h : Rlm w b es clock f) {x : MapEntry} (hx : x ∈ es.toList) : x.key = .int .i64 ((Go.Proofs.YtmbecjlioogbhaaGreatDoor.keyN x : Nat) : Int) := by
  obtain ⟨l, s, _, hk, _⟩ := h.only x hx
  unfold Go.Proofs.YtmbecjlioogbhaaGreatDoor.keyN
  rw [hk]; simp
/-- The pages that there are, rising. -/
def Rlf.keys (f : Rlf) : List Nat := (List.range 512).filter fun l => (f l).isSome
theorem Rlf.mem_keys {f : Rlf} {l : Nat} : l ∈ f.keys ↔ l < 512 ∧ (f l).isSome = true := by
  unfold Rlf.keys; rw [List.mem_filter, List.mem_range]
theorem Rlm.perm {w : World} {b : Nat} {es : Array MapEntry} {clock : Nat} {f : Rlf} (h : Rlm w b es clock f) : (es.toList.map Go.Proofs.YtmbecjlioogbhaaGreatDoor.keyN).Perm f.keys := by
  have n1 : (es.toList.map Go.Proofs.YtmbecjlioogbhaaGreatDoor.keyN).Nodup := by
    unfold List.Nodup
    rw [List.pairwise_map]
    exact h.nodup.imp_of_mem fun {a b} ha hb hab e => hab (by rw [h.keyN ha, h.keyN hb, e])
  have n2 : f.keys.Nodup := List.nodup_range.filter _
  refine (List.perm_ext_iff_of_nodup n1 n2).2 fun l => ?_
  rw [Rlf.mem_keys, List.mem_map]
  constructor
  · rintro ⟨x, hx, rfl⟩
    obtain ⟨l, s, hl, hk, _, hf⟩ := h.only x hx
    have e := h.keyN hx
    rw [hk] at e
    have e2 : l = Go.Proofs.YtmbecjlioogbhaaGreatDoor.keyN x := by injection e with _ e3; omega
    rw [← e2]
    exact ⟨hl, by rw [hf]; rfl⟩
  · rintro ⟨hl, hs⟩
    obtain ⟨s, hs⟩ := Option.isSome_iff_exists.1 hs
    obtain ⟨_, x, hx, hk⟩ := h.all l s hs
    refine ⟨x, hx, ?_⟩
    have e := h.keyN hx
    rw [hk] at e
    injection e with _ e3; omega
theorem Rlm.size {w : World} {b : Nat} {es : Array MapEntry} {clock : Nat} {f : Rlf} (h : Rlm w b es clock f) : es.size = f.keys.length := by
  rw [← h.perm.length_eq, List.length_map]; simp
theorem Rlf.keys_le (f : Rlf) : f.keys.length ≤ 512 := by
  unfold Rlf.keys
  exact Nat.le_trans (List.length_filter_le _ _) (by simp)
section
variable {w : World} {b : Nat} {f : Rlf}
/-- 'len(m)'. -/
theorem Rls.len (h : Rls w b f) (ty : TypeId) : (Builtin.len_ #[122] ty #[.map (some b)]).run Tryz.prog w = .ok (.int .i64 (f.keys.length : Int)) w := by
  obtain ⟨es, clock, h⟩ := h
  rw [← h.size]
  simp [Builtin.len_, run_underlying Tryz.underlying122, MapKept.run_getObj_map h.hb, goInt, Result.andThen]
/-- The map as the library's laws have it. -/
theorem Rls.owns (h : Rls w b f) : ∃ D : DataW Unit, w.ownsMap Tryz.prog 3 contRl b 512 D ∧ ∃ es clock, Rlm w b es clock f ∧ D = .map ((es.toList.map (rg Tryz.prog 3 contRl)).foldr DataW.insert []) := by
  obtain ⟨es, clock, h⟩ := h
  exact ⟨_, ⟨es, clock, h.hb, h.fit, by rw [h.size]; exact f.keys_le, rfl⟩, es, clock, h, rfl⟩
/-- 'm[l] = s'. -/
theorem Rls.store (h : Rls w b f) (l : Nat) (s : Nat) (hl : l < 512) :
    ∃ w', (Instr.mapUpdate 122 (.map (some b)) (.int .i64 (l : Int)) (.int .i64 ((s : Nat) : Int))).run Tryz.prog w = .ok () w' ∧ Rls w' b (f.put l s) ∧ Only b w w' := by
  obtain ⟨es, clock, h⟩ := h
  have hkey := keyI (x := (l : Int)) (by omega) (by omega)
  have hroom : es.size < maxLen := by rw [h.size]; have := f.keys_le; unfold maxLen; omega
  obtain ⟨es', clock', hrun, F', hput, _, _, hwho⟩ := fit_store (R' := contRl) keyedI Tryz.underlying122 h.hb h.fit hroom (fun _ _ _ _ hz => hz) hkey (contRl_mk s)
  refine ⟨_, hrun, ⟨es', clock', heap_setBlock_same h.hb _, F', ?_, ?_⟩, ⟨rfl, rfl, rfl, by simp [setBlock], fun k _ hk => heap_setBlock_other h.hb _ hk⟩⟩
  · intro x hx
    rcases hwho x hx with ⟨hx1, hne⟩ | ⟨hk, hv⟩
    · obtain ⟨l2, s2, hl2, hk2, hv2, hf2⟩ := h.only x hx1
      refine ⟨l2, s2, hl2, hk2, hv2, ?_⟩
      rw [Rlf.put_other _ _ _ _ (fun e => hne (by rw [hk2, e]))]
      exact hf2
    · exact ⟨l, s, hl, hk, hv, Rlf.put_same _ _ _⟩
  · -- who was there is there, and the new one
    have hin : ∀ p, p ∈ putKey (Lit.int .i64 (l : Int)) (datORl s) ((es.toList.map (rg Tryz.prog 3 contRl)).foldr DataW.insert []) → ∃ x ∈ es'.toList, rg Tryz.prog 3 contRl x = p := by
      intro p hp
      rw [← hput] at hp
      obtain ⟨x, hx, e⟩ := List.mem_map.1 ((sorted_perm _).mem_iff.1 hp)
      exact ⟨x, hx, e⟩
    have key_of : ∀ x ∈ es'.toList, ∀ kl d, rg Tryz.prog 3 contRl x = (kl, d) → keyOf Tryz.prog 3 x.key = some kl := by
      intro x hx kl d e
      obtain ⟨y, hy⟩ := F'.reads x hx
      have h1 := rd_key hy
      rw [rg_of hy] at e
      rw [e] at h1; exact h1
    intro l2 s2 hf2
    by_cases e : l2 = l
    · subst e
      obtain ⟨x, hx, e⟩ := hin (Lit.int .i64 (l2 : Int), datORl s) (by unfold putKey; exact mem_insert_iff.2 (.inl rfl))
      exact ⟨hl, x, hx, keyedI.inj (key_of x hx _ _ e) hkey⟩
    · rw [Rlf.put_other _ _ _ _ e] at hf2
      obtain ⟨hbd, x0, hx0, hk0⟩ := h.all l2 s2 hf2
      have hkey2 := keyI (x := (l2 : Int)) (by omega) (by omega)
      obtain ⟨y0, hy0⟩ := h.fit.reads x0 hx0
      have hk1 := rd_key hy0
      rw [hk0, hkey2] at hk1
      have hk2 : y0.1 = Lit.int .i64 (l2 : Int) := (Option.some.inj hk1).symm
      obtain ⟨x, hx, e3⟩ := hin y0 (by
        unfold putKey
        refine mem_insert_iff.2 (.inr (List.mem_filter.2 ⟨(sorted_perm _).mem_iff.2 (List.mem_map.2 ⟨x0, hx0, rg_of hy0⟩), ?_⟩))
        refine (notKey_iff (keyedI.key hkey)).2 ?_
        rw [hk2]
        intro e4
        injection e4 with _ e5
        omega)
      refine ⟨hbd, x, hx, keyedI.inj (key_of x hx y0.1 y0.2 e3) ?_⟩
      rw [hk2]; exact hkey2
end
end Go.Proofs.YtmbecjlioogbhaaGreatDoor
end
section
/-! A head that tells itself as a part isn't opened. -/
set_option maxRecDepth 20000
set_option linter.unusedSimpArgs false
set_option linter.unusedVariables false
namespace Go.Proofs.YtmbecjlioogbhaaGreatDoor
open Go.RowKit

set_option maxHeartbeats 1600000 in
theorem claimsPage_no {w : World} {b1 b2 B : Nat} {f : Rlf} (h : Rls w b1 f) (hf : f 0 = some 0) (hB : B ≤ b1) :
    Calls Tryz.prog 123 #[.agg #[.map (some b1), .map (some b2)], .int .i64 0, .int .i64 1] w fun e w' => e = .returned (.bool false) ∧ Below B w w' := by
  have hb0 : Below w.heap.size w (w.alloc (.cells #[.map (some b1), .map (some b2)] 125)) := (Below.refl _ _).alloc (Nat.le_refl _) _
  have hx0 := heap_alloc_new w (.cells #[.map (some b1), .map (some b2)] 125)
  have h1 := h.below hb0
  have hlt := h.lt
  have hlk := h1.look 0 (by omega) (by omega)
  have ha : f.at_ 0 = some 0 := hf
  rw [ha] at hlk
  obtain ⟨w2, hrun, -, ho⟩ := h1.store 0 1 (by omega)
  have HBB : Hid (Below B w w2) := Lib.hid ((hb0.mono (by omega)).trans ⟨ho.os, ho.tape, ho.output, ho.size, fun j hj => ho.block j (by have := hb0.size; omega) (fun e => by omega)⟩)
  have hx2 := (ho.block w.heap.size (lt_of_block hx0) (fun e => by omega)).trans hx0
  clear h hb0 h1 ho ha hf hB
  go_enter Tryz.func123, Tryz.ntmps123
  go_upto_region 1 with fail
  generalize w.alloc (.cells #[.map (some b1), .map (some b2)] 125) = W1 at *
  have a0 := cell_of_row _ _ 0 _ _ _ hx0
  have a1 := cell_of_row _ _ 0 _ _ _ hx2
  simp at a0 a1 hlk hrun
  go_wp2_with fail
  go_ret
  exact ⟨rfl, HBB.out⟩
set_option maxHeartbeats 1600000 in
theorem loadTable_no {w : World} {b1 b2 B g pb n : Nat} {f : Rlf} (h : Rls w b1 f) (hf : f 0 = some 0) (hB : B ≤ b1) (hn : 0 < n) (hn64 : n ≤ 64) (hc : w.cell? ⟨g, 1, none⟩ = some (.slice (some ⟨pb, 0, none⟩) n n)) (hp : w.cell? ⟨pb, 0, none⟩ = some (.int .i64 0)) :
    Calls Tryz.prog 68 #[.pointer (some ⟨g, 0, none⟩), .agg #[.map (some b1), .map (some b2)]] w fun e w' => e = .returned (.int .i64 13) ∧ Below B w w' := by
  have hb0 : Below w.heap.size w (w.alloc (.cells #[.map (some b1), .map (some b2)] 125)) := (Below.refl _ _).alloc (Nat.le_refl _) _
  have hx0 := heap_alloc_new w (.cells #[.map (some b1), .map (some b2)] 125)
  have hlt := h.lt
  have HCP := Lib.hid (fun w1 (hb : Below w.heap.size w w1) => claimsPage_no (b2 := b2) (h.below hb) hf hB)
  have HB0 : Hid (Below w.heap.size w (w.alloc (.cells #[.map (some b1), .map (some b2)] 125)) ∧ B ≤ w.heap.size) := Lib.hid ⟨hb0, by omega⟩
  have hc1 := (hb0.cell (p := ⟨g, 1, none⟩) (lt_of_cellY hc)).trans hc
  have hp1 := (hb0.cell (p := ⟨pb, 0, none⟩) (lt_of_cellY hp)).trans hp
  have hnI : (0 : Int) < (n : Int) := by omega
  have hd : decide ((0 : Int) < (n : Int)) = true := decide_eq_true hnI
  have hn2 : (n : Int) ≤ 64 := by omega
  clear h hb0 hf hB hc hp hlt
  go_enter Tryz.func68, Tryz.ntmps68
  go_upto_region 1 with fail
  generalize w.alloc (.cells #[.map (some b1), .map (some b2)] 125) = W1 at *
  have a0 := cell_of_row _ _ 0 _ _ _ hx0
  have a1 := cell_of_row _ _ 1 _ _ _ hx0
  simp at a0 a1
  go_upto_region 2 with fail
  go_loopw [14] (fun iv wr => iv = .int .i64 0 ∧ wr = W1) (fun _ _ => 0)
  case atStart => exact ⟨rfl, rfl⟩
  case round =>
    obtain ⟨rfl, rfl⟩ := hrel
    go_upto_region 5 with fail
    go_region_with (go_at_call 123; refine (HCP.out _ (by exact HB0.out.1.trans (Below.refl _ _).drew)).mono ?_; rintro e w2 ⟨rfl, hb2⟩)
    all_goals (
      have HB2 : Hid (Below B w w2) := Lib.hid ((HB0.out.1.mono HB0.out.2).trans ((Below.refl _ _).drew.trans (by exact hb2)))
      clear hb2
      go_wp2_with fail
      go_ret
      exact ⟨rfl, HB2.out⟩)
section
variable {w w' : World} {d sg pg k : Nat} {D G : List Nat} {m : Dsk} {s : Sp} {y : Xv}
set_option maxHeartbeats 3200000 in
theorem open_fifth (h : Spz w d sg D G m s pg y k) (hth : thX y.now 0 = true) (h0 : 0 < headN (y.now 0)) (h64 : headN (y.now 0) ≤ 64) (his : isHead (y.now 0) = true) (hz : headF (y.now 0) 0 = 0) :
    Calls Tryz.prog 29 #[.pointer (some ⟨sg, 0, none⟩)] w fun e w' => e = .returned (.tuple #[.pointer none, .int .i64 13]) ∧ Below w.heap.size w w' := by
  have HR := Lib.hid (read_z h 0 (by omega) (by omega))
  rw [if_pos hth, show (0 : Int).toNat = 0 from rfl] at HR
  have hpg := h.page (l := 0) (by omega) (by rw [← hth, show (0 : Int) = ((0 : Nat) : Int) from rfl, th_nat (by omega)])
  obtain ⟨n, hn⟩ : ∃ n, headN (y.now 0) = n := ⟨_, rfl⟩
  have HPA : Hid (∀ w1, Calls Tryz.prog 67 #[.string (strB (y.now 0))] w1 fun e w' => ∃ p, e = .returned (.tuple #[.slice (some ⟨p, 0, none⟩) n n, .bool true]) ∧ w'.cell? ⟨p, 0, none⟩ = some (.int .i64 0) ∧ Below w1.heap.size w1 w') := Lib.hid fun w1 => (partsOf_any (strB (y.now 0)) (y.now 0) w1 (IsS.mk_ _ hpg.2) hpg.1).mono (by
    rintro e w' ⟨hb1, ⟨h1, _⟩ | ⟨_, rfl, F, hF, hF1, _⟩⟩
    · omega
    · refine ⟨w1.heap.size, by rw [his, hn], ?_, hb1⟩
      rw [hF.cell 0 (by omega), show F 0 = 0 from (hF1 0 h0).trans hz]; rfl)
  rw [hn] at h0 h64
  have HN := Lib.hid (And.intro h0 h64)
  clear h hth hpg hn his hz
  generalize strB (y.now 0) = T at *
  have hmm := @run_makeMap Tryz.prog
  go_enter Tryz.func29, Tryz.ntmps29
  go_upto_region 8 with (first
    | (go_at_call 35; with_reducible refine HR.out.mono ?_; rintro e w1 ⟨rfl, hb1⟩; have HB1 := Lib.hid hb1; clear hb1)
    | (go_at_call 67; with_reducible refine (HPA.out _).mono ?_; rintro e w2 ⟨p, rfl, hp2, hb2⟩; have HB2 := Lib.hid (HB1.out.trans (hb2.mono HB1.out.size)); have HP2 := Lib.hid hp2; clear hb2 hp2)
    | (go_at_call 66; with_reducible refine (newStore_any sg _).mono ?_; rintro e w3 ⟨rfl, hw3⟩; have HW3 := Lib.hid hw3; clear hw3))
  have hst := heap_alloc_new (w2.alloc (.map #[] 0)) (.cells #[.pointer (some ⟨sg, 0, none⟩), .slice none 0 0, .map (some w2.heap.size), .bool false] 78)
  rw [show (w2.alloc (.map #[] 0)).heap.size = w2.heap.size + 1 by simp] at hst
  have hb3 : Below w2.heap.size w2 ((w2.alloc (.map #[] 0)).alloc (.cells #[.pointer (some ⟨sg, 0, none⟩), .slice none 0 0, .map (some w2.heap.size), .bool false] 78)) := ((Below.refl _ _).alloc (Nat.le_refl _) _).alloc (by simp) _
  rw [← HW3.out] at hst hb3
  have hz3 : w3.heap.size = w2.heap.size + 2 := by rw [HW3.out]; simp
  have c1 := cell_of_row _ _ 1 _ _ _ hst
  simp at c1
  have hfz := frozen_of_row w3 (w2.heap.size + 1) 1 _ _ hst
  have HB3 := Lib.hid hb3
  have HST := Lib.hid hst
  have HZ3 := Lib.hid hz3
  have HPL := Lib.hid (lt_of_cellY HP2.out)
  clear hst hb3 hz3 HW3
  go_upto_region 9 with fail
  have hh4 := heap_setCell_same w3 (w2.heap.size + 1) 1 _ _ (.slice (some ⟨p, 0, none⟩) n n) HST.out
  have hc4 : (w3.setCell ⟨w2.heap.size + 1, 1, none⟩ (.slice (some ⟨p, 0, none⟩) n n)).cell? ⟨w2.heap.size + 1, 1, none⟩ = some (.slice (some ⟨p, 0, none⟩) n n) := by
    rw [cell_of_row _ _ 1 _ _ _ hh4]; rfl
  have hp4 : (w3.setCell ⟨w2.heap.size + 1, 1, none⟩ (.slice (some ⟨p, 0, none⟩) n n)).cell? ⟨p, 0, none⟩ = some (.int .i64 0) := by
    have hpl := HPL.out
    have hz := HZ3.out
    rw [World.cell?_of_block (w := w3) (a := ⟨p, 0, none⟩) (heap_setCell_other w3 ⟨w2.heap.size + 1, 1, none⟩ p _ (by simp; omega)), HB3.out.cell (p := ⟨p, 0, none⟩) hpl]
    exact HP2.out
  have hb4 : Below w2.heap.size w2 (w3.setCell ⟨w2.heap.size + 1, 1, none⟩ (.slice (some ⟨p, 0, none⟩) n n)) := HB3.out.setCell (by simp) _
  have hz4 : (w3.setCell ⟨w2.heap.size + 1, 1, none⟩ (.slice (some ⟨p, 0, none⟩) n n)).heap.size = w3.heap.size := by simp
  generalize w3.setCell ⟨w2.heap.size + 1, 1, none⟩ (.slice (some ⟨p, 0, none⟩) n n) = w4 at *
  have HC4 := Lib.hid hc4
  have HP4 := Lib.hid hp4
  have HB4 := Lib.hid hb4
  have HZ4 := Lib.hid hz4
  clear hh4 c1 hfz hc4 hp4 hb4 hz4
  obtain ⟨w5, hrun, hr5, ho5⟩ := (Rls.made w4).store 0 0 (by omega)
  have hrun0 := hrun
  simp at hrun0
  clear hrun
  go_upto_region 10 with fail
  have hy : ∃ w6, w6 = (w5.alloc (.map #[] 0)).alloc (.cells #[.map (some w4.heap.size), .map (some w5.heap.size)] 125) := ⟨_, rfl⟩
  obtain ⟨w6, hw6⟩ := hy
  have hx6 : w6.heap[w5.heap.size + 1]? = some (.cells #[.map (some w4.heap.size), .map (some w5.heap.size)] 125 (0, 0)) := by
    have := heap_alloc_new (w5.alloc (.map #[] 0)) (.cells #[.map (some w4.heap.size), .map (some w5.heap.size)] 125)
    rw [show (w5.alloc (.map #[] 0)).heap.size = w5.heap.size + 1 by simp] at this
    rw [hw6]; exact this
  have hb6 : Below w5.heap.size w5 w6 := by rw [hw6]; exact ((Below.refl _ _).alloc (Nat.le_refl _) _).alloc (by simp) _
  rw [← hw6]
  have hz5 : w4.heap.size + 1 ≤ w5.heap.size := by have := ho5.size; simp at this; omega
  have hb45 : Below w4.heap.size w4 w5 := ((Below.refl w4.heap.size w4).alloc (Nat.le_refl _) (.map #[] 0)).trans ⟨ho5.os, ho5.tape, ho5.output, ho5.size, fun j hj => ho5.block j (by simp; omega) (fun e => by omega)⟩
  have hz4 := HZ4.out
  have hz3 := HZ3.out
  have hc6 := (hb6.cell (p := ⟨w2.heap.size + 1, 1, none⟩) (by show w2.heap.size + 1 < _; omega)).trans ((hb45.cell (p := ⟨w2.heap.size + 1, 1, none⟩) (by show w2.heap.size + 1 < _; omega)).trans HC4.out)
  have hpl := HPL.out
  have hp6 := (hb6.cell (p := ⟨p, 0, none⟩) (by show p < _; omega)).trans ((hb45.cell (p := ⟨p, 0, none⟩) (by show p < _; omega)).trans HP4.out)
  have HLT := Lib.hid (loadTable_no (b2 := w5.heap.size) (hr5.below hb6) (by show (if (0 : Nat) = 0 then some 0 else none) = some 0; rfl) (Nat.le_refl _) HN.out.1 HN.out.2 hc6 hp6)
  have HEND : Hid (∀ w7, Below w4.heap.size w6 w7 → Below w.heap.size w w7) := Lib.hid fun w7 hb => by
    have q1 := HB2.out
    have q2 := HB4.out
    have s2 := q1.size
    have s4 := q2.size
    have q3 : Below w.heap.size w w4 := q1.trans (q2.mono s2)
    have q4 : Below w.heap.size w w5 := q3.trans (hb45.mono (by omega))
    have q5 : Below w.heap.size w w6 := q4.trans (hb6.mono (by omega))
    exact q5.trans (hb.mono (by omega))
  have a0 := cell_of_row _ _ 0 _ _ _ hx6
  have a1 := cell_of_row _ _ 1 _ _ _ hx6
  simp at a0 a1
  clear hx6 hb6 hw6 hz5 hb45 hz4 hz3 hc6 hpl hp6 hrun0 hr5 ho5 hmm
  go_wp2_with (go_at_call 68; with_reducible refine HLT.out.mono ?_; rintro e w7 ⟨rfl, hb7⟩; have HB7 := Lib.hid (HEND.out _ hb7); clear hb7)
  go_ret2
  exact ⟨rfl, HB7.out⟩
end
end Go.Proofs.YtmbecjlioogbhaaGreatDoor
end
section
/-! A range over a function that looks at the world anew ahead of each round: what the loop's end is told comes from that world. -/
namespace Go.Proofs.YtmbecjlioogbhaaGreatDoor
open Go.RowKit

section
variable {F : Fence} {n : Nat} {P : Program}
/-- An iterator by a count of its rounds: J is the caller's; Good: what the iterator leans on; Item: what it tells next; End: where it ends. -/
def SeqJ {α : Type} (F : Fence) (n : Nat) (P : Program) (gf : Nat) (lb : Array Value) (encs : α → Array Value) (Good : Nat → World → Prop) (Item : Nat → α → World → Prop) (End : Nat → World → Prop) : Prop :=
  ∀ (l : Nat) (J : Nat → World → Prop) (W : World), AbidesFrom W.heap.size J → (∀ i W1, J i W1 → Good i W1) →
    (∀ i x W1, J i W1 → Item i x W1 → YieldAt F (n - 1) P l (encs x) W1 fun e W' => e = .returned (.bool true) ∧ J (i + 1) W') →
    J 0 W → CallsIn F n P gf (#[.func (.yield l) #[] #[]] ++ lb) W fun e W' => (∃ v, e = .returned v) ∧ ∃ i, J i W' ∧ End i W'
theorem wpIn_rangeJ {α : Type} {g : Operand} {ps : Array Tmp} {assign body : Code} {Q : Exit → Act → World → Prop} {a : Act} {w : World}
    (hro : F.round = none) (h1 : 1 ≤ n) {gf : Nat} {lb : Array Value} (hg : a.eval g = .func (.func gf) #[] lb) (hFg : F.fn gf) (eg : ∀ args w, (callFunc gf args).run P w = .ok (.enter gf args) w)
    {encs : α → Array Value} {Good : Nat → World → Prop} {Item : Nat → α → World → Prop} {End : Nat → World → Prop} (hseq : SeqJ F (n - 1) P gf lb encs Good Item End) (hps : ∀ x, (encs x).size = ps.size)
    (I : Nat → World → Prop) (hI : OwnFrom w.heap.size I) (hG : ∀ i W, I i W → Good i W) (hE : ∀ i, OwnFrom w.heap.size (fun (_ : Unit) W => End i W)) (h0 : I 0 w)
    (Ax : Nat → α → Act → World → Prop) (hAx : ∀ i x a', OwnFrom w.heap.size (fun (_ : Unit) W => Ax i x a' W))
    (hassign : ∀ (l i : Nat) (x : α) (W : World) (K : Act → World → Prop), I i W → Item i x W → (∀ a' W', KeepsFrom w.heap.size W W' → Ax i x a' W' → K a' W') →
      assign.wpIn (F.inRound l) (n - 1 - 1) P (Exit.then K (fun _ _ _ => False)) { tmps := (ps.zip (encs x)).foldl (fun t (p, v) => t.setIfInBounds p v) a.tmps, defers := [] } W)
    (hbody : ∀ (l i : Nat) (x : α) (a' : Act) (W : World), w.heap.size ≤ l → Ax i x a' W → body.wpIn (F.inRound l) (n - 1 - 1) P (fun e _ W' => e = .normal ∧ KeepsFrom w.heap.size W W' ∧ I (i + 1) W') a' W)
    (hdone : ∀ (D i : Nat) (W : World), w.heap.size ≤ D → I i W → End i W → W.heap[D]? = some (.deferred (some [])) → Q .normal { a with defers := { target := .collected D, args := #[] } :: a.defers } W) :
    (Code.rangeFunc g ps assign body).wpIn F n P Q a w := by
  refine wpIn_rangeFunc fun fn hfn => ?_
  rw [hro]
  obtain ⟨rec, hrec⟩ : ∃ rec : LoopState → Loop, rec = fun st => { state := st, pending := none, fn, tmps := a.tmps, params := ps, assign, body, defers := w.heap.size } := ⟨_, rfl⟩
  have hps2 : ∀ st x, (encs x).size = (rec st).params.size := fun st x => by rw [hrec]; exact hps x
  have hst : ∀ st, (rec st).state = st := fun st => by rw [hrec]
  have hpe : ∀ st, (rec st).pending = none := fun st => by rw [hrec]
  have hup : ∀ s t, { rec s with state := t } = rec t := fun s t => by rw [hrec]
  have hup2 : ∀ s t, { rec s with state := t, pending := none } = rec t := fun s t => by rw [hrec]
  let W1 := (w.alloc (.deferred (some []))).alloc (.loop (rec .ready))
  have hL1 : W1.heap[w.heap.size + 1]? = some (.loop (rec .ready)) := by
    have := World.alloc_heap_new (w.alloc (.deferred (some []))) (.loop (rec .ready)); rwa [World.size_alloc] at this
  have hK1 : W1.heap[w.heap.size]? = some (.deferred (some [])) := (Below.heap_alloc _ _ _ (by simp)).trans (World.alloc_heap_new w _)
  have hz1 : W1.heap.size = w.heap.size + 2 := by show ((w.alloc _).alloc _).heap.size = _; simp
  refine ⟨w.heap.size + 1, [{ target := .collected w.heap.size, args := #[] }], W1, { target := .fn (.func gf) lb, args := #[.func (.yield (w.heap.size + 1)) #[] #[]] }, W1, gf,
    #[.func (.yield (w.heap.size + 1)) #[] #[]] ++ lb, W1, ?_, ?_, ?_, ?_, fun _ => h1, ?_⟩
  · show _ = Result.ok _ ((w.alloc (.deferred (some []))).alloc (.loop (rec .ready)))
    rw [hrec]; exact run_enterLoop_outer _ _ _ _ _
  · simp only [resolve, hg]
    simp [go_sem]
  · intro f' hf'; simp [Target.leads] at hf'; subst hf'; exact hFg
  · simp [invoke, go_sem, eg]
  · refine (hseq (w.heap.size + 1) (fun i W => I i W ∧ W.heap[w.heap.size + 1]? = some (.loop (rec .ready)) ∧ W.heap[w.heap.size]? = some (.deferred (some []))) W1 ?_ (fun i W h => hG i W h.1) ?_ ⟨hI.alloc _ (hI.alloc _ h0), hL1, hK1⟩).mono ?_
    · intro i A B row hs hg' hr
      have hr2 : ∀ r, row = some r → w.heap.size ≤ r ∧ ∃ o : Obj, A.heap[r]? = some o ∧ o.isCells = false := fun r e => by
        obtain ⟨hB, o, ho, hw⟩ := hr r e
        exact ⟨by omega, o, ho, Obj.not_cells_of_walk hw⟩
      have hr3 : ∀ r, row = some r → w.heap.size + 2 ≤ r := fun r e => by have := (hr r e).1; omega
      have hk : ∀ k, k < w.heap.size + 2 → k < A.heap.size → B.heap[k]? = A.heap[k]? := fun k hk hA => hg'.block k hA (fun e => by have := hr3 k e.symm; omega)
      exact ⟨hI i A B row hs.1 hg' hr2, (hk _ (by omega) (Array.getElem?_eq_some_iff.1 hs.2.1).1).trans hs.2.1, (hk _ (by omega) (Array.getElem?_eq_some_iff.1 hs.2.2).1).trans hs.2.2⟩
    · rintro i x W ⟨hi, hl, hk⟩ hit
      refine ⟨_, _, _, _, run_yield (P := P) (args := encs x) hl (hps2 _ x), ?_⟩
      have hrt : (rec .ready).fn = fn ∧ (rec .ready).tmps = a.tmps ∧ (rec .ready).params = ps ∧ (rec .ready).assign = assign ∧ (rec .ready).body = body := by rw [hrec]; exact ⟨rfl, rfl, rfl, rfl, rfl⟩
      obtain ⟨t1, t2, t3, t4, t5⟩ := hrt
      rw [t1, t2, t3, t4, t5]
      refine roundIn_of_wpIn hfn (hassign _ i x W _ hi hit ?_)
      intro a' Wa hkfa hax
      replace hl := hkfa.same _ _ (by omega) hl rfl
      replace hk := hkfa.same _ _ (Nat.le_refl _) hk rfl
      have hlt : w.heap.size + 1 < Wa.heap.size := (Array.getElem?_eq_some_iff.1 hl).1
      refine ⟨_, run_beginRound hl (hst _), ?_⟩
      rw [hup]
      have hl2 : (Wa.putObj (w.heap.size + 1) (.loop (rec .busy))).heap[w.heap.size + 1]? = some (.loop (rec .busy)) := World.putObj_heap_same hlt
      have hk2 : (Wa.putObj (w.heap.size + 1) (.loop (rec .busy))).heap[w.heap.size]? = some (.deferred (some [])) := (World.putObj_heap_other (by omega)).trans hk
      refine wpIn_mono (hbody _ i x a' _ (by omega) ((hAx i x a').putObj (s := ()) _ hax (by omega) hl rfl)) ?_
      rintro e a3 W3 ⟨rfl, hk3, hi3⟩
      have hl3 := hk3.same _ _ (by omega) hl2 rfl
      have hr := run_endRound (P := P) none hl3
      rw [show (if (none : Option Code).isNone = true then LoopState.ready else LoopState.done) = LoopState.ready from rfl, hup2] at hr
      exact ⟨_, _, hr, rfl, hI.putObj _ hi3 (by omega) hl3 rfl, World.putObj_heap_same (Array.getElem?_eq_some_iff.1 hl3).1, (World.putObj_heap_other (by omega)).trans (hk3.same _ _ (Nat.le_refl _) hk2 rfl)⟩
    · rintro e W2 ⟨⟨v, rfl⟩, i, ⟨hi, hl, hk⟩, hend⟩
      have hr := run_endLoop (P := P) hl (by rw [hst]; simp)
      rw [hpe] at hr
      exact ⟨none, _, hr, hdone _ i _ (Nat.le_refl _) (hI.putObj _ hi (by omega) hl rfl) ((hE i).putObj (s := ()) _ hend (by omega) hl rfl) ((World.putObj_heap_other (by omega)).trans hk)⟩
end
end Go.Proofs.YtmbecjlioogbhaaGreatDoor
end
section
/-! A store that isn't there: All, Len, Word. -/
set_option maxRecDepth 20000
set_option linter.unusedSimpArgs false
set_option linter.unusedVariables false
namespace Go.Proofs.YtmbecjlioogbhaaGreatDoor
open Go.RowKit Go.Shelf
attribute [local go_sem] Oper.semAt_some

theorem zall_nil (w : World) : Calls Tryz.prog 9 #[.pointer none] w fun e w' => e = .returned (.func (.func 39) #[] #[.pointer (some ⟨w.heap.size, 0, none⟩)]) ∧ w' = w.alloc (.cells #[.slice none 0 0] 47) := by
  have hmf : ∀ (fn : Fn) (first cap : Array Value) (w : World), (Instr.makeFunc fn first cap).run Tryz.prog w = .ok (.func fn first cap) w := fun _ _ _ _ => rfl
  go_enter Tryz.func9, Tryz.ntmps9
  go_wp2_with fail
  go_ret
  exact ⟨rfl, rfl⟩
def GoodZ (Bs : Nat) (_i : Nat) (W : World) : Prop := W.cell? ⟨Bs, 0, none⟩ = some (.slice none 0 0)
set_option maxRecDepth 100000 in
set_option maxHeartbeats 2000000 in
theorem zall_seq (n : Nat) (hn : 1 ≤ n) (Bs : Nat) : SeqJ Fence.wide n Tryz.prog 39 #[.pointer (some ⟨Bs, 0, none⟩)] (fun x : Int => #[.int .i64 x]) (GoodZ Bs) (fun _ _ _ => False) (fun _ _ => True) := by
  intro l J W hJ hG hY h0
  have H0 := Lib.hid h0
  have hc : W.cell? ⟨Bs, 0, none⟩ = some (.slice none 0 0) := hG 0 W h0
  clear hY hJ hG h0
  refine callsIn_of_wp Tryz.func39 rfl trivial ?_ rfl
  simp only [Tryz.ntmps39, List.size_toArray, List.length_cons, List.length_nil, Nat.reduceAdd, Nat.reduceSub, Array.replicate_succ, Array.replicate_zero, List.push_toArray, List.append_toArray, List.nil_append, List.cons_append]
  gi_wp2
  gi_loopw [7] (fun i wr => i = .int .i64 0 ∧ wr = W) (fun _ _ => 0)
  case atStart => exact ⟨rfl, rfl⟩
  case round =>
    obtain ⟨rfl, rfl⟩ := hrel
    gi_wp2
    go_end0
    exact ⟨⟨_, rfl⟩, 0, H0.out, trivial⟩
theorem below_own (V : World) : OwnFrom V.heap.size (fun (j : Nat) W => j = 0 ∧ Below V.heap.size V W) := by
  rintro j W W' row ⟨h0, h⟩ hg hr
  exact ⟨h0, h.trans ⟨hg.os, hg.tape, hg.output, hg.size, fun k hk => hg.block k (Nat.lt_of_lt_of_le hk h.size) (fun e => by have := (hr k e.symm).1; omega)⟩⟩
theorem gen_act {F : Fence} {n : Nat} {P : Program} {c : Code} {Q : Exit → Act → World → Prop} {a : Act} {w : World} (h : ∀ A : Act, A = a → c.wpIn F n P Q A w) : c.wpIn F n P Q a w := h a rfl
set_option maxHeartbeats 1600000 in
theorem zroot_nil (w : World) : Calls Tryz.prog 84 #[.pointer none] w fun e w' => e = .returned (.agg #[.int .i64 0, .int .i64 0, .int .i64 0, .int .i64 0]) ∧ Below w.heap.size w w' := by
  have HB := Lib.hid ((Below.refl w.heap.size w).alloc (Nat.le_refl _) (.cells #[.int .i64 0, .int .i64 0, .int .i64 0, .int .i64 0] 93))
  go_enter Tryz.func84, Tryz.ntmps84
  go_wp2_with fail
  exact bodyPost_ret (v := .agg #[.int .i64 0, .int .i64 0, .int .i64 0, .int .i64 0]) (by simp [results, Tryz.results84, go_sem]) rfl ⟨rfl, HB.out⟩
theorem zword0_nil (w : World) : Calls Tryz.prog 41 #[.pointer none] w fun e w' => e = .returned (.int .i64 0) ∧ Below w.heap.size w w' := by
  have hf : ∀ u, (Instr.field 93 (.agg #[.int .i64 0, .int .i64 0, .int .i64 0, .int .i64 0]) 3).run Tryz.prog u = .ok (.int .i64 0) u := fun u => by first | rfl | kernel_rfl
  go_enter Tryz.func41, Tryz.ntmps41
  go_wp2_with (go_at_call 84; with_reducible refine (zroot_nil _).mono ?_; rintro e w2 ⟨rfl, hb⟩; have HB := Lib.hid hb; clear hb)
  go_ret
  exact ⟨rfl, HB.out⟩
theorem zword_nil (w : World) : Calls Tryz.prog 13 #[.pointer none] w fun e w' => e = .returned (.int .i64 0) ∧ Below w.heap.size w w' := by
  have HS := Lib.hid (zspace_nil w)
  have HW := Lib.hid (zword0_nil w)
  go_enter Tryz.func13, Tryz.ntmps13
  go_wp2_with (first | (go_at_call 21; with_reducible refine HS.out.mono ?_; rintro e w2 ⟨rfl, rfl⟩) | (go_at_call 41; with_reducible refine HW.out.mono ?_; rintro e w3 ⟨rfl, hb⟩; have HB := Lib.hid hb; clear hb))
  go_ret
  exact ⟨rfl, HB.out⟩
set_option maxRecDepth 100000 in
set_option maxHeartbeats 2000000 in
theorem zlen0_nil (w : World) : Calls Tryz.prog 11 #[.pointer none] w fun e w' => e = .returned (.int .i64 0) ∧ Below w.heap.size w w' := by
  refine (callsIn_wide (n := 5)).1 ?_
  refine callsIn_of_wp_marks Tryz.func11 rfl trivial ?_ rfl
  simp only [Tryz.ntmps11, List.size_toArray, List.length_cons, List.length_nil, Nat.reduceAdd, Nat.reduceSub, Array.replicate_succ, Array.replicate_zero, List.push_toArray, List.append_toArray, List.nil_append, List.cons_append]
  refine wpIn_wide.2 ?_
  have HB : Hid (Below w.heap.size w ((w.alloc (.cells #[.int .i64 0] 3)).alloc (.cells #[.slice none 0 0] 47))) := Lib.hid (((Below.refl _ _).alloc (Nat.le_refl _) _).alloc (by simp) _)
  have HX0 : Hid (((w.alloc (.cells #[.int .i64 0] 3)).alloc (.cells #[.slice none 0 0] 47)).heap[w.heap.size]? = some (.cells #[.int .i64 0] 3 (0, 0))) := Lib.hid ((heap_alloc_old _ _ (h := by simp)).trans (heap_alloc_new w _))
  have HX1 : Hid (((w.alloc (.cells #[.int .i64 0] 3)).alloc (.cells #[.slice none 0 0] 47)).heap[w.heap.size + 1]? = some (.cells #[.slice none 0 0] 47 (0, 0))) := Lib.hid (by
    have := heap_alloc_new (w.alloc (.cells #[.int .i64 0] 3)) (.cells #[.slice none 0 0] 47); rwa [World.size_alloc] at this)
  go_wp2_with (go_at_call 9; with_reducible refine (zall_nil _).mono ?_; rintro e w2 ⟨rfl, rfl⟩)
  generalize (w.alloc (.cells #[.int .i64 0] 3)).alloc (.cells #[.slice none 0 0] 47) = V at *
  refine (wpIn_wide (n := 5)).1 (gen_act ?_)
  intro A2 hA2
  refine wpIn_rangeJ rfl (by omega) (gf := 39) (lb := #[.pointer (some ⟨w.heap.size + 1, 0, none⟩)]) (by rw [hA2]; rfl) trivial (enters_of Tryz.func39 (by kernel_rfl) rfl) (zall_seq 4 (by omega) (w.heap.size + 1)) (fun _ => rfl)
    (fun j W => j = 0 ∧ Below V.heap.size V W) (below_own V)
    (fun j W h => by show W.cell? _ = _; rw [(h.2.cell (p := ⟨w.heap.size + 1, 0, none⟩) (Array.getElem?_eq_some_iff.1 HX1.out).1), cell_of_row _ _ 0 _ _ _ HX1.out]; rfl) (fun j u W W' row _ _ _ => trivial) ⟨rfl, Below.refl _ _⟩
    (fun j x a' W => False)
    (fun _ _ _ u W W' row h _ _ => h) (fun _ _ _ _ _ _ hx _ => hx.elim) (fun _ _ _ _ _ _ h => h.elim) ?done2
  case done2 =>
    rintro D j U hD ⟨_, hBU⟩ _ hDD
    have x0 : U.cell? ⟨w.heap.size, 0, none⟩ = some (.int .i64 0) := by rw [(hBU.cell (p := ⟨w.heap.size, 0, none⟩) (Array.getElem?_eq_some_iff.1 HX0.out).1), cell_of_row _ _ 0 _ _ _ HX0.out]; rfl
    have HDD := Lib.hid hDD
    have HFB : Hid (Below w.heap.size w (U.putObj D (.deferred none))) := Lib.hid ((HB.out.trans (hBU.mono HB.out.size)).trans ⟨rfl, rfl, rfl, by simp [World.putObj], fun k hk => World.putObj_heap_other (by have := HB.out.size; omega)⟩)
    clear hDD hBU
    subst hA2
    go_wp2_with fail
    refine ⟨by simp, .inl ⟨_, _, rfl, run_takeDeferred HDD.out, ?_⟩⟩
    refine ⟨.int .i64 0, ?_, rfl, HFB.out⟩
    simp [results, Tryz.f11, go_sem]
end Go.Proofs.YtmbecjlioogbhaaGreatDoor
end
section
/-! The document's Data: so many bytes, by a first one. -/
set_option maxRecDepth 20000
set_option linter.unusedSimpArgs false
set_option linter.unusedVariables false
namespace Go.Proofs.YtmbecjlioogbhaaGreatDoor
open Go.RowKit

def dataL (f n : Nat) : List Nat := (List.range n).map fun i => (f + i / 7) % 256
theorem dataL_len (f n : Nat) : (dataL f n).length = n := by simp [dataL]
theorem dataL_snoc (f n : Nat) : dataL f (n + 1) = dataL f n ++ [(f + n / 7) % 256] := by simp [dataL, List.range_succ]
theorem dataL_dig (f n : Nat) : ∀ x ∈ dataL f n, x < 256 := by
  intro x hx
  obtain ⟨i, _, rfl⟩ := List.mem_map.1 hx
  exact Nat.mod_lt _ (by decide)
/-- Amid the loop. -/
def DataSt (f n i : Nat) (w wr : World) : Prop := wr.ownsRow w.heap.size 5 1 (.slice (some ⟨w.heap.size, 0, none⟩) n n) n (u8s (dataL f i ++ List.replicate (n - i) 0)) ∧ Below w.heap.size w wr
theorem data_put {f n i : Nat} {w wr : World} (h : DataSt f n i w wr) (hi : i < n) : DataSt f n (i + 1) w (wr.setCell ⟨w.heap.size, i, none⟩ (.int .u8 (((f + i / 7) % 256 : Nat) : Int))) := by
  refine ⟨?_, h.2.setCell (Nat.le_refl _) _⟩
  have h2 := h.1.stored i (.int .u8 (((f + i / 7) % 256 : Nat) : Int))
  have e : dataL f (i + 1) ++ List.replicate (n - (i + 1)) 0 = (dataL f i ++ List.replicate (n - i) 0).set i ((f + i / 7) % 256) := by
    rw [dataL_snoc, List.set_append_right _ _ (by rw [dataL_len]; omega), dataL_len, Nat.sub_self, show n - i = (n - (i + 1)) + 1 by omega, List.replicate_succ, List.set_cons_zero, List.append_assoc]; rfl
  rw [e]
  have e2 : u8s ((dataL f i ++ List.replicate (n - i) 0).set i ((f + i / 7) % 256)) = (u8s (dataL f i ++ List.replicate (n - i) 0)).set i (.int .u8 (((f + i / 7) % 256 : Nat) : Int)) := by
    unfold u8s; rw [List.map_set]
  rw [e2]; exact h2.1
theorem data_get (f n i : Nat) (hi : i < n) : (u8s (dataL f i ++ List.replicate (n - i) 0))[i]? = some (.int .u8 0) := by
  have h : (dataL f i ++ List.replicate (n - i) 0)[i]? = some 0 := by
    rw [List.getElem?_append_right (by rw [dataL_len]; omega), dataL_len, Nat.sub_self, List.getElem?_replicate]
    rw [if_pos (by omega)]
  unfold u8s
  rw [List.getElem?_map, h]; rfl
theorem made_u8 (n : Nat) : (madeCells (Value.int IntKind.u8 0).cells n).toList = u8s (List.replicate n 0) :=
  (toList_madeCells_one _ n).trans (by unfold u8s; rw [List.map_replicate]; rfl)
set_option maxHeartbeats 1600000 in
theorem data_any (n f : Nat) (hn : n ≤ 20000) (hf : f < 256) (w : World) :
    Calls Tryz.prog 58 #[.int .i64 (n : Int), .int .u8 (f : Int)] w fun e w' => e = .returned (.string (strB (dataL f n))) ∧ Below w.heap.size w w' := by
  obtain ⟨C0, hC0⟩ : ∃ C0 : Array Value, C0 = madeCells (Value.int IntKind.u8 0).cells (Int.toNat (n : Int) * 1) := ⟨_, rfl⟩
  have hmk : ∀ w : World, (Instr.makeSlice 71 (.int .i64 (n : Int)) (.int .i64 (n : Int))).run Tryz.prog w = .ok (.slice (some ⟨w.heap.size, 0, none⟩) n n) (w.alloc (.cells C0 5)) := fun w => by
    obtain ⟨i0, hi, hz0, hz1, hz2⟩ := info_parts Tryz.info5
    have h := run_make (P := Tryz.prog) w 71 5 i0 _ Tryz.underlying71 hi hz0 .i64 .i64 (n : Int) (n : Int) (by omega) (by omega) (by rw [hz2]; simp; omega) (by omega)
    rw [hz1, ← hC0] at h
    exact h
  have HC : Hid (C0.toList = u8s (List.replicate n 0)) := Lib.hid (by rw [hC0, Int.toNat_natCast, Nat.mul_one]; exact made_u8 n)
  have HD0 : Hid (DataSt f n 0 w (w.alloc (.cells C0 5))) := Lib.hid ⟨⟨by simp [u8s, dataL], .inr ⟨w.heap.size, n, C0, rfl, Nat.le_refl _, heap_alloc_new w _, Nat.le_refl _, by unfold maxLen; omega, by
    have := congrArg List.length HC.out
    simp [u8s] at this
    omega, by
    rw [HC.out]
    rw [List.take_of_length_le (by simp [u8s])]
    simp [dataL]⟩⟩, (Below.refl _ _).alloc (Nat.le_refl _) _⟩
  clear hC0
  go_enter Tryz.func58, Tryz.ntmps58
  go_wp2_with fail
  clear hmk
  generalize w.alloc (.cells C0 5) = W0 at *
  go_loopw [6] (fun iv wx => ∃ k : Nat, k ≤ n ∧ iv = .int .i64 (k : Int) ∧ Hid (DataSt f n k w wx)) (fun iv _ => n - (RowKit.intOf iv).toNat)
  case atStart => exact ⟨0, by omega, by go_num, HD0⟩
  case round =>
    obtain ⟨k, hk, rfl, HT⟩ := hrel
    clear HD0
    by_cases hlt : k < n
    · have hc := (HT.out.1.cellAt k (by omega)).trans (data_get f n k hlt)
      have hf2 := HT.out.1.frozenAt k
      have hin : (k : Int) < (n : Int) := by omega
      have hk5 : (k : Int) ≤ 20000 := by omega
      have HLT : Hid (k + 1 ≤ n) := Lib.hid hlt
      have HPT := Lib.hid (data_put HT.out hlt)
      have hval : ((f : Int) + (k : Int) / 7) % 256 = (((f + k / 7) % 256 : Nat) : Int) := by omega
      have HVV := Lib.hid hval
      clear hval
      go_wp2_with fail
      go_roundw
      case rel => exact ⟨k + 1, HLT.out, by go_num, by rw [HVV.out]; exact HPT⟩
      case measure => simp [RowKit.intOf]; omega
    · obtain rfl : k = n := by omega
      have HB := Lib.hid HT.out.2
      have hby : Bys wr (some ⟨w.heap.size, 0, none⟩) k (dataL f k) := Bys.own (by
        have h := HT.out.1
        rw [Nat.sub_self, List.replicate_zero, List.append_nil] at h
        exact h) (dataL_dig f k)
      have hcv := hby.conv k
      clear hby HT
      go_wp2_with fail
      go_ret
      exact ⟨rfl, HB.out⟩
/-- How many bytes a step's data has. -/
def dataN (l : Int) : Nat := (max 0 (min l 16400)).toNat
set_option maxHeartbeats 1600000 in
theorem lawData_any (a b l : Int) (f : Nat) (hf : f < 256) (w : World) :
    Calls Tryz.prog 25 #[.agg #[.int .i64 a, .int .i64 b, .int .i64 l, .int .u8 (f : Int)]] w fun e w' => e = .returned (.string (strB (dataL f (dataN l)))) ∧ Below w.heap.size w w' := by
  have hN : max 0 (min l 16400) = ((dataN l : Nat) : Int) := by unfold dataN; omega
  have hN2 : dataN l ≤ 20000 := by unfold dataN; omega
  have HNN := Lib.hid hN
  have HB : Hid (Below w.heap.size w (w.alloc (.cells #[.int .i64 a, .int .i64 b, .int .i64 l, .int .u8 (f : Int)] 55))) := Lib.hid ((Below.refl _ _).alloc (Nat.le_refl _) _)
  have HD : Hid (∀ u (x : Int), x = max 0 (min l 16400) → Calls Tryz.prog 58 #[.int .i64 x, .int .u8 (f : Int)] u fun e w' => e = .returned (.string (strB (dataL f (dataN l)))) ∧ Below u.heap.size u w') := Lib.hid fun u x hx => by
    rw [hx, hN]; exact data_any _ f hN2 hf u
  clear hN hN2
  go_enter Tryz.func25, Tryz.ntmps25
  go_upto_region 1 with fail
  have hx := heap_alloc_new w (.cells #[.int .i64 a, .int .i64 b, .int .i64 l, .int .u8 (f : Int)] 55)
  generalize w.alloc (.cells #[.int .i64 a, .int .i64 b, .int .i64 l, .int .u8 (f : Int)] 55) = W1 at *
  have x2 := cell_of_row _ _ 2 _ _ _ hx
  have x3 := cell_of_row _ _ 3 _ _ _ hx
  simp at x2 x3
  go_wp2_with (go_at_call 58; refine (HD.out _ _ (by omega)).mono ?_; rintro e w2 ⟨rfl, hb⟩; have HB2 := Lib.hid hb; clear hb)
  all_goals first
    | (go_ret; exact ⟨rfl, HB.out.trans (HB2.out.mono HB.out.size)⟩)
    | (refine (HD.out _ _ (by omega)).mono ?_; rintro e w2 ⟨rfl, hb⟩; have HB2 := Lib.hid hb; clear hb; go_wp2_with fail; go_ret; exact ⟨rfl, HB.out.trans (HB2.out.mono HB.out.size)⟩)
end Go.Proofs.YtmbecjlioogbhaaGreatDoor
end
section
/-! Are there too few pages? -/
set_option maxRecDepth 20000
set_option linter.unusedSimpArgs false
namespace Go.Proofs.YtmbecjlioogbhaaGreatDoor
open Go.RowKit

/-- How many pages a thing needs beside those that there are. -/
def needP (n : Nat) (num page : Int) (z : Nat) : Nat := pagesForN z + (if (n : Int) * 128 < num then 1 else 0) + (if page = -1 then 1 else 0)
theorem pagesForN_le (z : Nat) : pagesForN z ≤ z := by unfold pagesForN; split <;> omega
section
variable {w w' : World} {d sg pg k g mb n : Nat} {D G : List Nat} {m : Dsk} {s s' : Sp} {y y' : Xv} {v : Value} {F : Nat → Nat}
set_option maxHeartbeats 1600000 in
theorem Sto.lacks (h : Sto w d sg D G m s pg y k g mb v n F) (num page : Int) (z : Nat) (hz : z ≤ 1099511627776) :
    Calls Tryz.prog 53 #[.pointer (some ⟨g, 0, none⟩), .int .i64 num, .int .i64 page, .int .i64 (z : Int)] w fun e w' => e = .returned (.bool (decide ((512 : Int) - (Bi.cnt (nn y.now) 512 : Nat) < (needP n num page z : Nat)))) ∧ Below w.heap.size w w' := by
  have c0 := h.st.c0
  have HP := Lib.hid (pagesFor_any z w (by omega))
  have HL := Lib.hid (h.st.lacksPart num)
  have HN := Lib.hid (len_z h.sp)
  have hq := pagesForN_le z
  have hcn : Bi.cnt (nn y.now) 512 ≤ 512 := Bi.cnt_le _ _
  unfold needP
  clear h
  generalize Bi.cnt (nn y.now) 512 = c at *
  generalize pagesForN z = p at *
  have hcI : (c : Int) ≤ 512 := by omega
  have hpI : (p : Int) ≤ 1099511627776 := by omega
  by_cases h1 : (n : Int) * 128 < num
  · rw [if_pos h1]
    rw [decide_eq_true h1] at HL
    by_cases h2 : page = -1
    · subst h2
      rw [if_pos rfl]
      have e1 : ((p + 1 + 1 : Nat) : Int) = (p : Int) + 1 + 1 := by omega
      rw [e1]
      clear h1 e1
      go_enter Tryz.func53, Tryz.ntmps53
      go_wp2_with (first
        | (go_at_call 97; with_reducible refine HP.out.mono ?_; rintro e w2 ⟨rfl, rfl⟩)
        | (go_at_call 98; with_reducible refine HL.out.mono ?_; rintro e w2 ⟨rfl, rfl⟩)
        | (go_at_call 23; with_reducible refine HN.out.mono ?_; rintro e w2 ⟨rfl, hb2⟩))
      go_ret
      exact ⟨rfl, hb2⟩
    · have d2 : (page == -1) = false := by rw [beq_eq_false_iff_ne]; exact h2
      rw [if_neg h2]
      have e1 : ((p + 1 + 0 : Nat) : Int) = (p : Int) + 1 := by omega
      rw [e1]
      clear h1 h2 e1
      go_enter Tryz.func53, Tryz.ntmps53
      go_wp2_with (first
        | (go_at_call 97; with_reducible refine HP.out.mono ?_; rintro e w2 ⟨rfl, rfl⟩)
        | (go_at_call 98; with_reducible refine HL.out.mono ?_; rintro e w2 ⟨rfl, rfl⟩)
        | (go_at_call 23; with_reducible refine HN.out.mono ?_; rintro e w2 ⟨rfl, hb2⟩))
      go_ret
      exact ⟨rfl, hb2⟩
  · rw [if_neg h1]
    rw [decide_eq_false h1] at HL
    by_cases h2 : page = -1
    · subst h2
      rw [if_pos rfl]
      have e1 : ((p + 0 + 1 : Nat) : Int) = (p : Int) + 1 := by omega
      rw [e1]
      clear h1 e1
      go_enter Tryz.func53, Tryz.ntmps53
      go_wp2_with (first
        | (go_at_call 97; with_reducible refine HP.out.mono ?_; rintro e w2 ⟨rfl, rfl⟩)
        | (go_at_call 98; with_reducible refine HL.out.mono ?_; rintro e w2 ⟨rfl, rfl⟩)
        | (go_at_call 23; with_reducible refine HN.out.mono ?_; rintro e w2 ⟨rfl, hb2⟩))
      go_ret
      exact ⟨rfl, hb2⟩
    · have d2 : (page == -1) = false := by rw [beq_eq_false_iff_ne]; exact h2
      rw [if_neg h2]
      have e1 : ((p + 0 + 0 : Nat) : Int) = (p : Int) := by omega
      rw [e1]
      clear h1 h2 e1
      go_enter Tryz.func53, Tryz.ntmps53
      go_wp2_with (first
        | (go_at_call 97; with_reducible refine HP.out.mono ?_; rintro e w2 ⟨rfl, rfl⟩)
        | (go_at_call 98; with_reducible refine HL.out.mono ?_; rintro e w2 ⟨rfl, rfl⟩)
        | (go_at_call 23; with_reducible refine HN.out.mono ?_; rintro e w2 ⟨rfl, hb2⟩))
      go_ret
      exact ⟨rfl, hb2⟩
end
end Go.Proofs.YtmbecjlioogbhaaGreatDoor
end
section
/-! A cell of the parts is stored; a part's text out of the row. -/
set_option maxRecDepth 20000
set_option linter.unusedSimpArgs false
namespace Go.Proofs.YtmbecjlioogbhaaGreatDoor
open Go.RowKit

/-- A part's text, out of the row. -/
def partB (F : Nat → Nat) (i : Nat) : List Nat := pageT (spsB (fun j => F (i * 129 + 1 + j)) 128)
theorem partB_ok (F : Nat → Nat) (i : Nat) : (partB F i).length = 512 ∧ ∀ x ∈ partB F i, x < 256 :=
  ⟨pageT_len (by rw [spsB_len]; omega), pageT_dig (spsB_dig _ _)⟩
theorem ints_set (F : Nat → Nat) (N j x : Nat) : (Tb.ints F 0 N).set j (.int .i64 (x : Int)) = Tb.ints (Tb.updN F j x) 0 N := by
  have h := congrArg Array.toList (Tb.rowA_set F N j x)
  unfold Tb.rowA at h
  rw [Array.set!_eq_setIfInBounds, Array.toList_setIfInBounds] at h
  exact h
section
variable {w w' : World} {d sg pg k g mb n : Nat} {D G : List Nat} {m : Dsk} {s s' : Sp} {y y' : Xv} {v : Value} {F : Nat → Nat}
/-- A cell of the parts is stored. -/
theorem Sto.put (h : Sto w d sg D G m s pg y k g mb v n F) {b : Nat} (hb : v.ownBlock = some b) (j x : Nat) :
    Sto (w.setCell ⟨b, j, none⟩ (.int .i64 (x : Int))) d sg D G m s pg y k g mb v n (Tb.updN F j x) ∧ Chg [b] [b] w (w.setCell ⟨b, j, none⟩ (.int .i64 (x : Int))) := by
  have hc : Chg [b] [b] w (w.setCell ⟨b, j, none⟩ (.int .i64 (x : Int))) := ⟨rfl, rfl, rfl, by simp, fun i _ hi => heap_setCell_other w ⟨b, j, none⟩ i _ (by simpa using hi), fun _ h => .inl h⟩
  obtain ⟨g2, cap, cur, e, hb2, hh, h1, h2, h3, h4⟩ : ∃ g2 cap cur, v = .slice (some ⟨g2, 0, none⟩) n cap ∧ 0 ≤ g2 ∧ w.heap[g2]? = some (.cells cur 82 (0, 0)) ∧ n ≤ cap ∧ cap ≤ maxLen ∧ cur.size = cap * 129 ∧ cur.toList.take (n * 129) = Tb.ints F 0 (n * 129) := by
    rcases h.st.own.2 with ⟨e, hn⟩ | ⟨g2, cap, cur, e, r⟩
    · rw [e] at hb; cases hb
    · exact ⟨g2, cap, cur, e, r⟩
  have hgb : g2 = b := by rw [e] at hb; cases hb; rfl
  subst hgb
  have hne : g ≠ g2 := fun e1 => by
    have := h.st.row
    rw [e1, hh] at this
    cases this
  have hk : Kin w [g2] := fun i hi => by
    cases List.mem_singleton.1 hi
    exact .inr ⟨_, _, _, hh, by simp⟩
  refine ⟨⟨h.sp.stay hc hk (fun i hi hj => h.avd g2 hb (by cases List.mem_singleton.1 hj; exact hi)) (fun i hi hj => h.av g2 hb (by cases List.mem_singleton.1 hj; exact hi)), ⟨(heap_setCell_other w ⟨g2, j, none⟩ g _ hne).trans h.st.row, ?_, h.st.n64⟩, h.ag, h.av, h.ad, h.avd⟩, hc⟩
  have ho := h.st.own
  unfold OwnP at ho ⊢
  rw [← ints_set]
  rw [e] at ho ⊢
  exact (ho.stored j _).1
end
end Go.Proofs.YtmbecjlioogbhaaGreatDoor
end
