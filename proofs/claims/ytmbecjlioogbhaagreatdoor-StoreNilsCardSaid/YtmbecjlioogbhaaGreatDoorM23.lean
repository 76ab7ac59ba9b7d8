/- Texts YDm to YLay0 of this seat, laid into one. -/
import Derived.Test.YtmbecjlioogbhaaGreatDoorM01
import Derived.Test.YtmbecjlioogbhaaGreatDoorM12
import Derived.Test.YtmbecjlioogbhaaGreatDoorM14
import Derived.Test.YtmbecjlioogbhaaGreatDoorM15
import Derived.Test.YtmbecjlioogbhaaGreatDoorM20
import Derived.Test.YtmbecjlioogbhaaGreatDoorM22
set_option linter.unusedVariables false
set_option linter.unusedSimpArgs false
set_option linter.constructorNameAsVariable false
section
/-! Pages that are worked on, in a map: what is looked up, stored, deleted; the keys, rising. -/
set_option maxRecDepth 20000
set_option linter.unusedSimpArgs false
namespace Go.Proofs.YtmbecjlioogbhaaGreatDoor
open Go.RowKit Go.Maps Go.MapKept
open Go.WideElems (rd rg pl rd_key rd_val rg_of rd_mk)
open Go.ChangeMaps (notKey putKey delKey setBlock heap_setBlock_same heap_setBlock_other mem_insert_iff)
open Go.WideShapes (sorted_perm)

/-- A page that is worked on reads as nothing, in a map. -/
def contDm (v : Value) : Option (DataW Unit × List MemPlace) :=
  match v with
  | .pointer _ => some (.lit (.int .i64 0), [])
  | _ => none
abbrev datODm (_ : Nat) : DataW Unit := DataW.lit (.int .i64 0)
theorem contDm_mk (s : Nat) : contDm (.pointer (some ⟨s, 0, none⟩)) = some (datODm s, []) := rfl

/-- Numbers with their places. -/
abbrev Dmf := Nat → Option Nat
def Dmf.has (f : Dmf) (l : Nat) : Bool := (f l).isSome
def Dmf.at_ (f : Dmf) (x : Int) : Option Nat := if 0 ≤ x then f x.toNat else none
def Dmf.put (f : Dmf) (l : Nat) (s : Nat) : Dmf := fun j => if j = l then some s else f j
def Dmf.drop (f : Dmf) (x : Int) : Dmf := fun j => if (j : Int) = x then none else f j
theorem Dmf.put_same (f : Dmf) (l : Nat) (s : Nat) : f.put l s l = some s := if_pos rfl
theorem Dmf.put_other (f : Dmf) (l j : Nat) (s : Nat) (h : j ≠ l) : f.put l s j = f j := if_neg h
/-- Block b is a map that has these pages. -/
structure Dmm (w : World) (b : Nat) (es : Array MapEntry) (clock : Nat) (f : Dmf) : Prop where
  hb : w.heap[b]? = some (.map es clock)
  fit : WideElems.Fit Tryz.prog 3 contDm es clock
  only : ∀ x ∈ es.toList, ∃ (l : Nat) (s : Nat), l < 512 ∧ x.key = .int .i64 (l : Int) ∧ x.val = .pointer (some ⟨s, 0, none⟩) ∧ f l = some s
  all : ∀ (l : Nat) (s : Nat), f l = some s → l < 512 ∧ ∃ x ∈ es.toList, x.key = .int .i64 (l : Int)
def Dms (w : World) (b : Nat) (f : Dmf) : Prop := ∃ es clock, Dmm w b es clock f
section
variable {w w' : World} {b : Nat} {f : Dmf}
theorem Dms.lt (h : Dms w b f) : b < w.heap.size := by
  obtain ⟨es, clock, h⟩ := h
  exact (Array.getElem?_eq_some_iff.1 h.hb).1
theorem Dms.same (h : Dms w b f) (hb : w'.heap[b]? = w.heap[b]?) : Dms w' b f := by
  obtain ⟨es, clock, h⟩ := h
  exact ⟨es, clock, hb.trans h.hb, h.fit, h.only, h.all⟩
theorem Dms.below (h : Dms w b f) (hb : Below w.heap.size w w') : Dms w' b f := h.same (hb.block b h.lt)
theorem Dms.isMap (h : Dms w b f) : ∃ es c, w.heap[b]? = some (.map es c) := by
  obtain ⟨es, clock, h⟩ := h
  exact ⟨es, clock, h.hb⟩
theorem Dms.high (h : Dms w b f) {l : Nat} {s : Nat} (hl : f l = some s) : l < 512 := by
  obtain ⟨es, clock, h⟩ := h
  exact (h.all l s hl).1
theorem Dms.made (w : World) : Dms (w.alloc (.map #[] 0)) w.heap.size (fun _ => none) :=
  ⟨#[], 0, (MapKept.heap_alloc w _).1, ⟨by simp, stamped_empty 0, by simp⟩, by simp, fun l s h => by cases h⟩

/-- 'm[l]', with 'ok'. -/
theorem Dms.look (h : Dms w b f) (x : Int) (h0 : -9223372036854775808 ≤ x) (h1 : x ≤ 9223372036854775807) :
    (Instr.lookup 104 (.map (some b)) (.int .i64 x) true).run Tryz.prog w = .ok (.tuple #[.pointer ((f.at_ x).map fun s => ⟨s, 0, none⟩), .bool (f.at_ x).isSome]) w := by
  obtain ⟨es, clock, h⟩ := h
  have hz : (zeroValue 160).run Tryz.prog w = .ok (.pointer none) w := by rw [Tryz.zeroValue160]
  rcases fit_look true keyedI Tryz.underlying104 hz h.hb h.fit (keyI h0 h1) with ⟨hrun, hno, _⟩ | ⟨e0, y, he, hk, hrun, _⟩
  · have hn : f.at_ x = none := by
      unfold Dmf.at_
      split
      · rename_i hx
        cases hf : f x.toNat with
        | none => rfl
        | some s =>
          obtain ⟨_, e, he, hk⟩ := h.all _ s hf
          exact absurd (by rw [hk, Int.toNat_of_nonneg hx]) (hno e he)
      · rfl
    rw [hn]; exact hrun
  · obtain ⟨l, s, hl, hk2, hv, hf⟩ := h.only e0 he
    rw [hk] at hk2
    have hx : x = (l : Int) := by injection hk2
    have ha : f.at_ x = some s := by unfold Dmf.at_; rw [if_pos (by omega), hx, Int.toNat_natCast, hf]
    rw [ha, hrun, hv]; rfl
/-- .. without. -/
theorem Dms.look1 (h : Dms w b f) (l : Nat) (s : Nat) (hl : f l = some s) :
    (Instr.lookup 104 (.map (some b)) (.int .i64 (l : Int)) false).run Tryz.prog w = .ok (.pointer (some ⟨s, 0, none⟩)) w := by
  have hlt := h.high hl
  obtain ⟨es, clock, h⟩ := h
  have hz : (zeroValue 160).run Tryz.prog w = .ok (.pointer none) w := by rw [Tryz.zeroValue160]
  rcases fit_look false keyedI Tryz.underlying104 hz h.hb h.fit (keyI (x := (l : Int)) (by omega) (by omega)) with ⟨hrun, hno, _⟩ | ⟨e0, y, he, hk, hrun, _⟩
  · obtain ⟨_, e, he, hk⟩ := h.all _ s hl
    exact absurd hk (hno e he)
  · obtain ⟨l2, s2, _, hk2, hv, hf⟩ := h.only e0 he
    rw [hk] at hk2
    have hx : (l : Int) = (l2 : Int) := by injection hk2
    have hx2 : l = l2 := by omega
    subst hx2
    rw [hl] at hf
    cases hf
    rw [hrun, hv]; rfl
end
theorem Dmm.nodup {w : World} {b : Nat} {es : Array MapEntry} {clock : Nat} {f : Dmf} (h : Dmm w b es clock f) : es.toList.Pairwise (fun x y => x.key ≠ y.key) := ((stamped_iff es clock).1 h.fit.stamped).2.2
theorem Dmm.keyN {w : World} {b : Nat} {es : Array MapEntry} {clock : Nat} {f : Dmf} (h : Dmm w b es clock f) {x : MapEntry} (hx : x ∈ es.toList) : x.key = .int .i64 ((Go.Proofs.YtmbecjlioogbhaaGreatDoor.keyN x : Nat) : Int) := by
  obtain ⟨l, s, _, hk, _⟩ := h.only x hx
  unfold Go.Proofs.YtmbecjlioogbhaaGreatDoor.keyN
  rw [hk]; simp
/-- The pages that there are, rising. -/
def Dmf.keys (f : Dmf) : List Nat := (List.range 512).filter fun l => (f l).isSome
theorem Dmf.mem_keys {f : Dmf} {l : Nat} : l ∈ f.keys ↔ l < 512 ∧ (f l).isSome = true := by
  unfold Dmf.keys; rw [List.mem_filter, List.mem_range]
theorem Dmm.perm {w : World} {b : Nat} {es : Array MapEntry} {clock : Nat} {f : Dmf} (h : Dmm w b es clock f) : (es.toList.map Go.Proofs.YtmbecjlioogbhaaGreatDoor.keyN).Perm f.keys := by
  have n1 : (es.toList.map Go.Proofs.YtmbecjlioogbhaaGreatDoor.keyN).Nodup := by
    unfold List.Nodup
    rw [List.pairwise_map]
    exact h.nodup.imp_of_mem fun {a b} ha hb hab e => hab (by rw [h.keyN ha, h.keyN hb, e])
  have n2 : f.keys.Nodup := List.nodup_range.filter _
  refine (List.perm_ext_iff_of_nodup n1 n2).2 fun l => ?_
  rw [Dmf.mem_keys, List.mem_map]
  constructor
  · rintro ⟨x, hx, rfl⟩
    obtain ⟨l, s, hl, hk, _, hf⟩ := h.only x hx
    have e := h.keyN hx
    rw [hk] at e
    have e2 : l = Go.Proofs.YtmbecjlioogbhaaGreatDoor.keyN x := by injection e with _ e3; omega
    rw [← e2]
    exact ⟨hl, by rw [hf]; rfl⟩
  · rintro ⟨hl, hs⟩
    obtain ⟨s, hs⟩ := Option.isSome_iff_exists.1 hs
    obtain ⟨_, x, hx, hk⟩ := h.all l s hs
    refine ⟨x, hx, ?_⟩
    have e := h.keyN hx
    rw [hk] at e
    injection e with _ e3; omega
theorem Dmm.size {w : World} {b : Nat} {es : Array MapEntry} {clock : Nat} {f : Dmf} (h : Dmm w b es clock f) : es.size = f.keys.length := by
  rw [← h.perm.length_eq, List.length_map]; simp
theorem Dmf.keys_le (f : Dmf) : f.keys.length ≤ 512 := by
  unfold Dmf.keys
  exact Nat.le_trans (List.length_filter_le _ _) (by simp)
section
variable {w : World} {b : Nat} {f : Dmf}
/-- 'len(m)'. -/
theorem Dms.len (h : Dms w b f) (ty : TypeId) : (Builtin.len_ #[104] ty #[.map (some b)]).run Tryz.prog w = .ok (.int .i64 (f.keys.length : Int)) w := by
  obtain ⟨es, clock, h⟩ := h
  rw [← h.size]
  simp [Builtin.len_, run_underlying Tryz.underlying104, MapKept.run_getObj_map h.hb, goInt, Result.andThen]
/-- The map as the library's laws have it. -/
theorem Dms.owns (h : Dms w b f) : ∃ D : DataW Unit, w.ownsMap Tryz.prog 3 contDm b 512 D ∧ ∃ es clock, Dmm w b es clock f ∧ D = .map ((es.toList.map (rg Tryz.prog 3 contDm)).foldr DataW.insert []) := by
  obtain ⟨es, clock, h⟩ := h
  exact ⟨_, ⟨es, clock, h.hb, h.fit, by rw [h.size]; exact f.keys_le, rfl⟩, es, clock, h, rfl⟩
/-- 'm[l] = s'. -/
theorem Dms.store (h : Dms w b f) (l : Nat) (s : Nat) (hl : l < 512) :
    ∃ w', (Instr.mapUpdate 104 (.map (some b)) (.int .i64 (l : Int)) (.pointer (some ⟨s, 0, none⟩))).run Tryz.prog w = .ok () w' ∧ Dms w' b (f.put l s) ∧ Only b w w' := by
  obtain ⟨es, clock, h⟩ := h
  have hkey := keyI (x := (l : Int)) (by omega) (by omega)
  have hroom : es.size < maxLen := by rw [h.size]; have := f.keys_le; unfold maxLen; omega
  obtain ⟨es', clock', hrun, F', hput, _, _, hwho⟩ := fit_store (R' := contDm) keyedI Tryz.underlying104 h.hb h.fit hroom (fun _ _ _ _ hz => hz) hkey (contDm_mk s)
  refine ⟨_, hrun, ⟨es', clock', heap_setBlock_same h.hb _, F', ?_, ?_⟩, ⟨rfl, rfl, rfl, by simp [setBlock], fun k _ hk => heap_setBlock_other h.hb _ hk⟩⟩
  · intro x hx
    rcases hwho x hx with ⟨hx1, hne⟩ | ⟨hk, hv⟩
    · obtain ⟨l2, s2, hl2, hk2, hv2, hf2⟩ := h.only x hx1
      refine ⟨l2, s2, hl2, hk2, hv2, ?_⟩
      rw [Dmf.put_other _ _ _ _ (fun e => hne (by rw [hk2, e]))]
      exact hf2
    · exact ⟨l, s, hl, hk, hv, Dmf.put_same _ _ _⟩
  · -- who was there is there, and the new one
    have hin : ∀ p, p ∈ putKey (Lit.int .i64 (l : Int)) (datODm s) ((es.toList.map (rg Tryz.prog 3 contDm)).foldr DataW.insert []) → ∃ x ∈ es'.toList, rg Tryz.prog 3 contDm x = p := by
      intro p hp
      rw [← hput] at hp
      obtain ⟨x, hx, e⟩ := List.mem_map.1 ((sorted_perm _).mem_iff.1 hp)
      exact ⟨x, hx, e⟩
    have key_of : ∀ x ∈ es'.toList, ∀ kl d, rg Tryz.prog 3 contDm x = (kl, d) → keyOf Tryz.prog 3 x.key = some kl := by
      intro x hx kl d e
      obtain ⟨y, hy⟩ := F'.reads x hx
      have h1 := rd_key hy
      rw [rg_of hy] at e
      rw [e] at h1; exact h1
    intro l2 s2 hf2
    by_cases e : l2 = l
    · subst e
      obtain ⟨x, hx, e⟩ := hin (Lit.int .i64 (l2 : Int), datODm s) (by unfold putKey; exact mem_insert_iff.2 (.inl rfl))
      exact ⟨hl, x, hx, keyedI.inj (key_of x hx _ _ e) hkey⟩
    · rw [Dmf.put_other _ _ _ _ e] at hf2
      obtain ⟨hbd, x0, hx0, hk0⟩ := h.all l2 s2 hf2
      have hkey2 := keyI (x := (l2 : Int)) (by omega) (by omega)
      obtain ⟨y0, hy0⟩ := h.fit.reads x0 hx0
      have hk1 := rd_key hy0
      rw [hk0, hkey2] at hk1
      have hk2 : y0.1 = Lit.int .i64 (l2 : Int) := (Option.some.inj hk1).symm
      obtain ⟨x, hx, e3⟩ := hin y0 (by
        unfold putKey
        refine mem_insert_iff.2 (.inr (List.mem_filter.2 ⟨(sorted_perm _).mem_iff.2 (List.mem_map.2 ⟨x0, hx0, rg_of hy0⟩), ?_⟩))
        refine (notKey_iff (keyedI.key hkey)).2 ?_
        rw [hk2]
        intro e4
        injection e4 with _ e5
        omega)
      refine ⟨hbd, x, hx, keyedI.inj (key_of x hx y0.1 y0.2 e3) ?_⟩
      rw [hk2]; exact hkey2
end
section
variable {w : World} {b : Nat} {es : Array MapEntry} {clock : Nat} {f : Dmf}
theorem Dmm.rgKey (h : Dmm w b es clock f) {x : MapEntry} (hx : x ∈ es.toList) : (rg Tryz.prog 3 contDm x).1 = .int .i64 ((Go.Proofs.YtmbecjlioogbhaaGreatDoor.keyN x : Nat) : Int) := by
  obtain ⟨y, hy⟩ := h.fit.reads x hx
  obtain ⟨l, s, hl, hk, _, _⟩ := h.only x hx
  have h1 := rd_key hy
  rw [rg_of hy]
  have h2 := h.keyN hx
  have h3 : Go.Proofs.YtmbecjlioogbhaaGreatDoor.keyN x = l := by rw [hk] at h2; injection h2 with _ h3; omega
  rw [h2, keyI (x := ((Go.Proofs.YtmbecjlioogbhaaGreatDoor.keyN x : Nat) : Int)) (by omega) (by omega)] at h1
  exact (Option.some.inj h1).symm
theorem Dmf.pairwise (f : Dmf) : (f.keys.map fun l => ((l : Nat) : Int)).Pairwise (fun a b => leI a b = true) := by
  refine List.pairwise_map.2 ?_
  unfold Dmf.keys
  refine List.Pairwise.filter _ (List.Pairwise.imp (R := (· < ·)) ?_ List.pairwise_lt_range)
  intro a b h
  simp [leI]; omega
theorem Dmm.ikeys (h : Dmm w b es clock f) :
    (intKeys (DataW.map ((es.toList.map (rg Tryz.prog 3 contDm)).foldr DataW.insert []))).Perm (f.keys.map fun l => ((l : Nat) : Int)) := by
  have h1 : (intKeys (DataW.map ((es.toList.map (rg Tryz.prog 3 contDm)).foldr DataW.insert []))).Perm ((es.toList.map (rg Tryz.prog 3 contDm)).map fun p => Go.intOf p.1) := (sorted_perm _).map _
  refine h1.trans ?_
  rw [List.map_map]
  have h2 : (es.toList.map ((fun p => Go.intOf p.1) ∘ rg Tryz.prog 3 contDm)) = (es.toList.map Go.Proofs.YtmbecjlioogbhaaGreatDoor.keyN).map fun l => ((l : Nat) : Int) := by
    rw [List.map_map]
    refine List.map_congr_left fun x hx => ?_
    show Go.intOf (rg Tryz.prog 3 contDm x).1 = _
    rw [h.rgKey hx]; rfl
  rw [h2]
  exact h.perm.map _
theorem Dmm.sorted (h : Dmm w b es clock f) {ss : List Int}
    (hp : ss.Perm (intKeys (DataW.map ((es.toList.map (rg Tryz.prog 3 contDm)).foldr DataW.insert [])))) : ss.mergeSort leI = f.keys.map fun l => ((l : Nat) : Int) := by
  rw [mergeSort_of_perm_i (hp.trans h.ikeys)]
  exact List.mergeSort_of_pairwise f.pairwise
end
end Go.Proofs.YtmbecjlioogbhaaGreatDoor
end
section
/-! The keys, sorted: Dm. -/
set_option maxRecDepth 20000
set_option linter.unusedSimpArgs false
namespace Go.Proofs
open Go.Shelf
def Tryz.keysC_ren : Go.Shelf.Ren := ⟨fun | 7 => 110 | 10 => 158 | n => n, fun | 23 => 104 | 26 => 3 | 3 => 160 | 28 => 31 | 0 => 0 | 27 => 30 | 33 => 84 | 4 => 4 | n => n, fun | n => n⟩
theorem Tryz.keysC : Go.Proofs.SlLaysZI.n7 Tryz.prog Tryz.keysC_ren := {
  mixed := by kernel_rfl
  f7 := ⟨Tryz.f110.name, by decide, Tryz.func110.trans (congrArg some (by kernel_rfl))⟩
  f10 := ⟨Tryz.f158.name, by decide, Tryz.func158.trans (congrArg some (by kernel_rfl))⟩
  t0 := Tryz.underlying0
  a0 := Tryz.isAgg0
  z0 := Tryz.sizeOf0
  v0 := Tryz.zeroValue0
  t4 := Tryz.underlying4
  a4 := Tryz.isAgg4
  z4 := Tryz.sizeOf4
  v4 := Tryz.zeroValue4
  t23 := Tryz.underlying104
  a23 := Tryz.isAgg104
  z23 := Tryz.sizeOf104
  v23 := Tryz.zeroValue104
  t26 := Tryz.underlying3
  a26 := Tryz.isAgg3
  z26 := Tryz.sizeOf3
  v26 := Tryz.zeroValue3
  t27 := Tryz.underlying30
  a27 := Tryz.isAgg30
  z27 := Tryz.sizeOf30
  v27 := Tryz.zeroValue30
  t28 := Tryz.underlying31
  a28 := Tryz.isAgg31
  z28 := Tryz.sizeOf31
  v28 := Tryz.zeroValue31
  t33 := Tryz.underlying84
  a33 := Tryz.isAgg84
  z33 := Tryz.sizeOf84
  v33 := Tryz.zeroValue84 }
end Go.Proofs
namespace Go.Proofs.YtmbecjlioogbhaaGreatDoor
open Go.RowKit Go.Maps Go.MapKept Go.Shelf Go.Sort
open Go.WideElems (rd rg pl rd_key rd_val rg_of rd_mk)

theorem keysDm (mb : Option Nat) (W : World) : Calls Tryz.prog 110 #[.map mb] W fun e w' => e = .returned (.func (.func 158) #[] #[.pointer (some ⟨W.heap.size, 0, none⟩)]) ∧ w' = W.alloc (.cells #[.map mb] 104) :=
  (callsIn_wide (n := 5)).1 (AnyZI.keys_in Tryz.keysC Fence.wide 5 trivial rfl mb W)
theorem sortedDm {w : World} {mb : Nat} {f : Dmf} (h : Dms w mb f) :
    Calls Tryz.prog 94 #[.func (.func 158) #[] #[.pointer (some ⟨w.heap.size, 0, none⟩)]] (w.alloc (.cells #[.map (some mb)] 104)) fun e w' => (∃ v, e = .returned v ∧ OwnI w' (w.heap.size + 1) v f.keys) ∧ Below (w.alloc (.cells #[.map (some mb)] 104)).heap.size (w.alloc (.cells #[.map (some mb)] 104)) w' := by
  obtain ⟨D, hown, es, clock, hF, hD⟩ := h.owns
  have hlt := h.lt
  have hsz : Maps.size D ≤ 512 := by
    have h1 := (hF.ikeys).length_eq
    rw [← hD] at h1
    have h2 := f.keys_le
    rw [List.length_map] at h1
    rw [hD] at h1 ⊢
    simp only [intKeys, List.length_map] at h1
    show List.length _ ≤ 512
    omega
  have hseq : SeqGives Fence.wide 2 Tryz.prog 158 #[.pointer (some ⟨w.heap.size, 0, none⟩)] encZ (fun ss => ss.Perm (intKeys D)) (Maps.size D) (w.alloc (.cells #[.map (some mb)] 104)) :=
    AnyZI.keys_gives (ρ := Tryz.keysC_ren) { Tryz.keysC with } Fence.wide _ trivial rfl (by omega) w.heap.size mb 512 D _ (by simp) (by simp) (by
      obtain ⟨es, clock, hb, Ft, hs, hD⟩ := hown
      exact ⟨es, clock, (Below.heap_alloc _ _ mb hlt).trans hb, Ft, hs, hD⟩)
  have cS := AnyZI.sorted_in Tryz.sortedA Fence.wide 5 trivial trivial trivial trivial rfl (by omega) (sorts _) (enters_of Tryz.func152 (by kernel_rfl) rfl) 158 #[.pointer (some ⟨w.heap.size, 0, none⟩)] trivial (enters_of Tryz.func158 (by kernel_rfl) rfl) _ _ (by unfold maxLen; omega) (by omega) _ hseq
  refine ((callsIn_wide (n := 5)).1 cS).mono ?_
  rintro e w' ⟨v, ss, rfl, hS, hrow, _, hb⟩
  refine ⟨⟨v, rfl, ?_⟩, hb⟩
  have hl : ss.length = f.keys.length := by
    have h1 := (hS.trans (hD ▸ hF.ikeys)).length_eq
    rwa [List.length_map] at h1
  rw [hD] at hS
  have hk := hF.sorted hS
  unfold OwnI
  rw [← hl]
  have e1 : (f.keys.map fun l => ((l : Nat) : Int)).map encZ = Tb.ivs f.keys := by unfold Tb.ivs; rw [List.map_map]; rfl
  rw [← e1, ← hk, ← show (w.alloc (.cells #[.map (some mb)] 104)).heap.size = w.heap.size + 1 by simp]
  exact hrow
end Go.Proofs.YtmbecjlioogbhaaGreatDoor
end
section
/-! A store without parts: its desk, the page with room, whether all is as it must be. -/
set_option maxRecDepth 20000
set_option linter.unusedSimpArgs false
namespace Go.Proofs.YtmbecjlioogbhaaGreatDoor
open Go.RowKit

theorem desk_any (g : Nat) (w : World) : Calls Tryz.prog 54 #[.pointer (some ⟨g, 0, none⟩)] w fun e w' => ∃ mb, e = .returned (.agg #[.pointer (some ⟨g, 0, none⟩), .map (some mb)]) ∧ Dms w' mb (fun _ => none) ∧ w.heap.size ≤ mb ∧ Below w.heap.size w w' := by
  have hmm := @run_makeMap Tryz.prog
  go_enter Tryz.func54, Tryz.ntmps54
  go_wp2_with fail
  have hx : ((w.alloc (.cells #[.pointer (some ⟨g, 0, none⟩), .map (some (w.heap.size + 1))] 106)).alloc (.map #[] 0)).heap[w.heap.size]? = some (.cells #[.pointer (some ⟨g, 0, none⟩), .map (some (w.heap.size + 1))] 106 (0, 0)) := (heap_alloc_old _ _ (by simp)).trans (heap_alloc_new w _)
  have hm := Dms.made (w.alloc (.cells #[.pointer (some ⟨g, 0, none⟩), .map (some (w.heap.size + 1))] 106))
  rw [show (w.alloc (.cells #[.pointer (some ⟨g, 0, none⟩), .map (some (w.heap.size + 1))] 106)).heap.size = w.heap.size + 1 by simp] at hm
  have hb : Below w.heap.size w ((w.alloc (.cells #[.pointer (some ⟨g, 0, none⟩), .map (some (w.heap.size + 1))] 106)).alloc (.map #[] 0)) := ((Below.refl _ _).alloc (Nat.le_refl _) _).alloc (by simp) _
  generalize (w.alloc (.cells #[.pointer (some ⟨g, 0, none⟩), .map (some (w.heap.size + 1))] 106)).alloc (.map #[] 0) = V at *
  have a0 := cell_of_row _ _ 0 _ _ _ hx
  have a1 := cell_of_row _ _ 1 _ _ _ hx
  simp at a0 a1
  exact bodyPost_ret (v := .agg #[.pointer (some ⟨g, 0, none⟩), .map (some (w.heap.size + 1))]) (by simp [results, Tryz.results54, go_sem, a0, a1]) rfl ⟨_, rfl, hm, by omega, hb⟩
theorem rm_none : Rmf.keys (fun _ => none) = [] := by
  unfold Rmf.keys
  simp
section
variable {w w' : World} {d sg pg k g mb : Nat} {D G : List Nat} {m : Dsk} {s : Sp} {y : Xv} {v : Value} {n : Nat} {F : Nat → Nat}
set_option maxHeartbeats 1600000 in
/-- No page with records has room, if there is none. -/
theorem Sth.roomy0 {sh : Bool} (h : Sth w g sg mb v n F sh) (hr : Rms w mb (fun _ => none)) (z : Int) :
    Calls Tryz.prog 52 #[.pointer (some ⟨g, 0, none⟩), .int .i64 z] w fun e w' => e = .returned (.int .i64 (-1)) ∧ Below w.heap.size w w' := by
  have c2 := h.c2
  have HK := Lib.hid (keysRm (some mb) w)
  have hs := sortedRm hr
  rw [rm_none] at hs
  have HS := Lib.hid hs
  have hb : Below w.heap.size w (w.alloc (.cells #[.map (some mb)] 76)) := (Below.refl _ _).alloc (Nat.le_refl _) _
  have HB := Lib.hid hb
  clear h hr hb hs
  go_enter Tryz.func52, Tryz.ntmps52
  go_wp2_with (first
    | (go_at_call 95; with_reducible refine HK.out.mono ?_; rintro e w1 ⟨rfl, rfl⟩)
    | (go_at_call 94; with_reducible refine HS.out.mono ?_; rintro e w2 ⟨⟨v2, rfl, ho⟩, hb2⟩; have HB2 := Lib.hid (HB.out.trans (hb2.mono HB.out.size)); obtain ⟨q2, c2', rfl⟩ := own_form ho; clear ho hb2))
  go_loopw [14] (fun iv wr => iv = .int .i64 0 ∧ Hid (Below w.heap.size w wr)) (fun _ _ => 0)
  case atStart => exact ⟨rfl, HB2⟩
  case round =>
    obtain ⟨rfl, HR⟩ := hrel
    go_wp2_with fail
    go_ret
    exact ⟨rfl, HR.out⟩
set_option maxHeartbeats 1600000 in
/-- Without parts, all is as it must be, if the head is. -/
theorem Sto.sure0 (h : Sto w d sg D G m s pg y k g mb (.slice none 0 0) 0 F) (hh : y.now 0 = head0) :
    Calls Tryz.prog 99 #[.pointer (some ⟨g, 0, none⟩), .int .i64 1] w fun e w' => e = .returned (.int .i64 0) ∧ Below w.heap.size w w' := by
  have c1 := h.st.c1
  have HHD : Hid (∀ w1, Calls Tryz.prog 63 #[.slice none 0 0] w1 fun e w' => e = .returned (.string (strB head0)) ∧ Below w1.heap.size w1 w') := Lib.hid fun w1 => headText_any none 0 0 (fun _ => (0, fun _ => 0)) w1 (by omega) (fun i hi => absurd hi (Nat.not_lt_zero i)) (fun i hi => absurd hi (Nat.not_lt_zero i))
  have HSA : Hid (∀ w1, Below w.heap.size w w1 → Calls Tryz.prog 62 #[.pointer (some ⟨g, 0, none⟩), .int .i64 0, .string (strB head0)] w1 fun e w' => e = .returned (.int .i64 0) ∧ Below w.heap.size w w') := Lib.hid fun w1 hb => by
    have h1 := (h.below hb).same 0 (by omega) (by omega) (strB head0) head0 (IsS.mk_ head0 head0_ok.2)
    have hth : thX y.now 0 = true := by
      rw [show (0 : Int) = ((0 : Nat) : Int) from rfl, th_nat (by omega)]
      unfold nn
      rw [hh]; rfl
    rw [show sameE y 0 head0 = 0 from if_pos ⟨hth, hh⟩] at h1
    exact h1.mono fun e w' h => ⟨h.1, hb.trans (h.2.mono hb.size)⟩
  have HLP : Hid (∀ w1, Below w.heap.size w w1 → Calls Tryz.prog 98 #[.pointer (some ⟨g, 0, none⟩), .int .i64 1] w1 fun e w' => e = .returned (.bool true) ∧ w1 = w') := Lib.hid fun w1 hb => by
    have h1 := (h.below hb).st.lacksPart 1
    rw [show decide (((0 : Nat) : Int) * 128 < 1) = true from by decide] at h1
    exact h1
  clear h hh
  generalize strB head0 = T at *
  go_enter Tryz.func99, Tryz.ntmps99
  go_wp2_with (first
    | (go_at_call 63; with_reducible refine (HHD.out _).mono ?_; rintro e w1 ⟨rfl, hb1⟩)
    | (go_at_call 62; with_reducible refine (HSA.out _ hb1).mono ?_; rintro e w2 ⟨rfl, hb2⟩)
    | (go_at_call 98; with_reducible refine (HLP.out _ hb2).mono ?_; rintro e w3 ⟨rfl, rfl⟩))
  go_ret
  exact ⟨rfl, hb2⟩
set_option maxHeartbeats 1600000 in
theorem Sto.deskSure0 (h : Sto w d sg D G m s pg y k g mb (.slice none 0 0) 0 F) (hh : y.now 0 = head0) (mb2 : Nat) :
    Calls Tryz.prog 55 #[.agg #[.pointer (some ⟨g, 0, none⟩), .map (some mb2)], .int .i64 1, .int .i64 (-1)] w fun e w' => e = .returned (.int .i64 0) ∧ Below w.heap.size w w' := by
  have hb0 : Below w.heap.size w (w.alloc (.cells #[.pointer (some ⟨g, 0, none⟩), .map (some mb2)] 106)) := (Below.refl _ _).alloc (Nat.le_refl _) _
  have HB0 := Lib.hid hb0
  have HS := Lib.hid ((h.below hb0).sure0 hh)
  clear h hh hb0
  go_enter Tryz.func55, Tryz.ntmps55
  go_wp2_with (go_at_call 99; with_reducible refine HS.out.mono ?_; rintro e w1 ⟨rfl, hb1⟩)
  go_ret
  exact ⟨rfl, HB0.out.trans (hb1.mono HB0.out.size)⟩
end
end Go.Proofs.YtmbecjlioogbhaaGreatDoor
end
section
/-! A page's bytes, as the program lays them. -/
set_option linter.unusedSimpArgs false
namespace Go.Proofs.YtmbecjlioogbhaaGreatDoor.Sl
open Go.RowKit

section
variable {w : World} {g : Nat} {v : Value} {l : List Sl}
theorem bytes_nil (w : World) : Calls Tryz.prog 106 #[.pointer none] w fun e w' => e = .returned (.string ⟨#[]⟩) ∧ Below w.heap.size w w' := by
  go_enter Tryz.func106, Tryz.ntmps106
  go_wp2_with fail
  go_ret
  exact ⟨rfl, Below.refl _ _⟩
/-- Amid a loop: the bytes so far. -/
structure Bl (w wr : World) (v : Value) (bs : List Nat) : Prop where
  below : Below w.heap.size w wr
  row : ∃ p c, v = .slice p bs.length c ∧ wr.ownsRow w.heap.size 5 1 (.slice p bs.length c) bs.length (u8s bs)
set_option maxHeartbeats 1600000 in
theorem bytes_any (h : Pg0 w g v l) : Calls Tryz.prog 106 #[.pointer (some ⟨g, 0, none⟩)] w fun e w' => e = .returned (.string (bytesS l)) ∧ Below w.heap.size w w' := by
  have HP := Lib.hid h
  have HOK := Lib.hid h.ok
  obtain ⟨q, c, rfl⟩ := h.form
  have c0 := h.c0
  have hl := h.ok.len
  have hg := h.lt
  have HSZ : Hid (∀ i w1, i < l.length → Calls Tryz.prog 157 #[.agg #[.bool (slot l i).isSome, .string (recOf (slot l i))]] w1 fun e w' => e = .returned (.int .i64 (szc (slot l i) : Int)) ∧ Below w1.heap.size w1 w') := Lib.hid (fun i w1 hi => by
    have hs := h.ok.sz512 _ (slot_mem hi)
    refine (size_any (slot l i) w1 hs).mono ?_
    rintro e w' ⟨rfl, hb⟩
    refine ⟨?_, hb⟩
    unfold szc
    split <;> rename_i h1 <;> simp [h1])
  have HSL : Hid (∀ i, i < l.length → szc (slot l i) ≤ 513) := Lib.hid (fun i hi => szc_le (h.ok.sz512 _ (slot_mem hi)))
  have HL : Hid (∀ w1, Below w.heap.size w w1 → Calls Tryz.prog 156 #[.pointer (some ⟨g, 0, none⟩)] w1 fun e w' => e = .returned (.int .i64 (left l)) ∧ Below w1.heap.size w1 w') := Lib.hid (fun w1 hb => left_any (h.below hb))
  clear h
  obtain ⟨i0, hi, hz0, hz1, hz2⟩ := info_parts Tryz.info5
  have HI := Lib.hid hi
  have HZ0 := Lib.hid hz0
  have HZ1 := Lib.hid hz1
  have HZ2 := Lib.hid hz2
  clear hi hz0 hz1 hz2
  obtain ⟨N, HN⟩ : ∃ N, Hid (l.length = N) := ⟨_, Lib.hid rfl⟩
  rw [HN.out] at c0 hl
  go_enter Tryz.func106, Tryz.ntmps106
  go_upto_region 4 with fail
  have H0 : Hid (Bl w (w.alloc (.cells #[.int .u8 (N : Int)] 5)) (.slice (some ⟨w.heap.size, 0, none⟩) 1 1) ([N] ++ headM (l.take 0))) := Lib.hid ⟨(Below.refl _ _).alloc (Nat.le_refl _) _, _, _, rfl, World.ownsRow_lit w #[.int .u8 (N : Int)] 1 (Nat.le_refl _) (by decide) rfl⟩
  have c1 := (H0.out.below.cell (p := ⟨g, 0, none⟩) hg).trans c0
  generalize w.alloc (.cells #[.int .u8 (N : Int)] 5) = w0 at *
  go_wp2_with fail
  clear c1
  go_loopw [3, 23] (fun bv iv wr => ∃ i : Nat, i ≤ N ∧ iv = .int .i64 (i : Int) ∧ Hid (Bl w wr bv ([N] ++ headM (l.take i)))) (fun _ iv _ => N - (RowKit.intOf iv).toNat)
  case atStart => exact ⟨0, Nat.zero_le _, by go_num, H0⟩
  case round =>
    obtain ⟨i, hi, rfl, hr⟩ := hrel
    clear H0
    have c1 := (hr.out.below.cell (p := ⟨g, 0, none⟩) hg).trans c0
    by_cases hlt : i < N
    · have hil : i < l.length := by rw [HN.out]; exact hlt
      obtain ⟨b, c', e, hc, a1, a2⟩ := HP.out.at hil
      rw [HN.out] at e hc
      cases e
      have x1 := (hr.out.below.cell (p := ⟨b, i * 2, none⟩) (World.block_lt_of_cell? w _ a1)).trans a1
      have x2 := (hr.out.below.cell (p := ⟨b, i * 2 + 1, none⟩) (World.block_lt_of_cell? w _ a2)).trans a2
      have HS1 := Lib.hid (HSZ.out i · hil)
      have hz := HSL.out i hil
      have HHD : Hid (headM (l.take (i + 1)) = headM (l.take i) ++ [szc (slot l i) / 256, szc (slot l i) % 256]) := Lib.hid (by rw [take_slot hil, headM_snoc])
      generalize (slot l i).isSome = bb at *
      generalize recOf (slot l i) = rr at *
      generalize szc (slot l i) = z at *
      have HU : Hid (u8s [z / 256, z % 256] = [.int .u8 ((z : Int) / 256), .int .u8 ((z : Int) % 256)]) := Lib.hid (by simp [u8s])
      have HO2 : Hid (∀ u ∈ [Value.int .u8 ((z : Int) / 256), .int .u8 ((z : Int) % 256)], u.oneCell' = true) := Lib.hid (by intro u hu; simp at hu; rcases hu with rfl | rfl <;> rfl)
      have HX : Hid (((w).heap.size ≤ wr.heap.size)) := Lib.hid hr.out.below.size
      obtain ⟨hbel, p3, c3, e3, hrow⟩ := hr.out
      have HLEN : Hid (([N] ++ headM (l.take i)).length = 1 + 2 * i) := Lib.hid (by rw [List.length_append, headM_len, List.length_take, HN.out, Nat.min_eq_left hi]; rfl)
      rw [HLEN.out] at e3 hrow
      subst e3
      have HROW := Lib.hid hrow
      have HBEL := Lib.hid hbel
      clear hr hbel hrow c1
      have H63 : Hid (1 + 2 * i + 2 ≤ maxLen) := Lib.hid (by unfold maxLen; omega)
      go_wp2_with (first
        | (go_at_call 157; refine (HS1.out _).mono ?_; rintro e w1 ⟨rfl, hb1⟩; have HB1 : Hid (Below wr.heap.size wr w1) := Lib.hid (((Below.refl _ _).alloc (Nat.le_refl _) _).trans (hb1.mono (by simp))); have HROW1 := Lib.hid ((own_below HROW.out HB1.out).alloc (.cells #[.int .u8 ((z : Int) / 256), .int .u8 ((z : Int) % 256)] 5)); have HBB := Lib.hid ((HBEL.out.trans (HB1.out.mono HX.out)).alloc (Nat.le_trans HX.out HB1.out.size) (.cells #[.int .u8 ((z : Int) / 256), .int .u8 ((z : Int) % 256)] 5)); clear hb1)
        | (at_builtin; refine wpList_append_own _ rfl (.tmp 29) (.tmp 35) 71 rfl w.heap.size 5 i0 (.int .u8 0) 1 1 Tryz.underlying71 HI.out HZ0.out HZ1.out HZ2.out rfl (by decide) (.slice p3 (1 + 2 * i) c3) (1 + 2 * i) _ (by rfl) HROW1.out ⟨w1.heap.size, 0, none⟩ 2 2 [.int .u8 ((z : Int) / 256), .int .u8 ((z : Int) % 256)] (by rfl) rfl (cell_two_new w1 _ _ _) HO2.out H63.out (by omega) HBB.out.size ?_; intro v2 w2 hown2 hgrow2 _))
      have HB2 := Lib.hid (HBB.out.grown hgrow2 HBB.out.size (fun k e => (HROW1.out.lt k e).1))
      have HLEN2 : Hid (([N] ++ headM (l.take (i + 1))).length = 1 + 2 * i + 2) := Lib.hid (by rw [HHD.out, ← List.append_assoc, List.length_append, HLEN.out]; rfl)
      have HR2 : Hid (Bl w w2 v2 ([N] ++ headM (l.take (i + 1)))) := Lib.hid (by
        obtain ⟨p4, c4, e4⟩ := own_form hown2
        subst e4
        refine ⟨HB2.out, p4, c4, by rw [HLEN2.out], ?_⟩
        rw [HLEN2.out, HHD.out, ← List.append_assoc, u8s_append, HU.out]
        exact hown2)
      clear hown2 hgrow2 HBB HROW1 HB2
      go_roundw
      case rel => exact ⟨i + 1, by omega, by go_num, HR2⟩
      case measure => simp [RowKit.intOf]; omega
    · obtain rfl : i = N := by omega
      have H1 : Hid (Bl w wr u3 ([i] ++ headM l ++ recsM (l.take 0))) := Lib.hid (by
        have := hr.out
        rw [List.take_of_length_le (by rw [HN.out]; exact Nat.le_refl _)] at this
        simpa [recsM] using this)
      clear hr HSZ HSL
      go_wp2_with fail
      go_loopw [3, 43] (fun bv iv wr => ∃ k : Nat, k ≤ i ∧ iv = .int .i64 (k : Int) ∧ Hid (Bl w wr bv ([i] ++ headM l ++ recsM (l.take k)))) (fun _ iv _ => i - (RowKit.intOf iv).toNat)
      case atStart => exact ⟨0, Nat.zero_le _, by go_num, H1⟩
      case round =>
        obtain ⟨k, hk, rfl, hr⟩ := hrel
        clear H1
        have HLEN : Hid (([i] ++ headM l ++ recsM (l.take k)).length = 1 + 2 * i + tot (l.take k)) := Lib.hid (by rw [List.length_append, List.length_append, headM_len, recsM_len, HN.out]; rfl)
        have htk : tot (l.take k) ≤ 512 := Nat.le_trans (tot_take_le l k) (tot_le HOK.out)
        obtain ⟨t, HT⟩ : ∃ t, Hid (tot (l.take k) = t) := ⟨_, Lib.hid rfl⟩
        rw [HT.out] at HLEN htk
        have c1 := (hr.out.below.cell (p := ⟨g, 0, none⟩) hg).trans c0
        obtain ⟨hbel, p3, c3, e3, hrow⟩ := hr.out
        rw [HLEN.out] at e3 hrow
        subst e3
        have HROW := Lib.hid hrow
        have HBEL := Lib.hid hbel
        have HX : Hid (w.heap.size ≤ wr.heap.size) := Lib.hid hbel.size
        clear hr hrow
        by_cases hlt : k < i
        · have hil : k < l.length := by rw [HN.out]; exact hlt
          obtain ⟨b, c', e, hc, a1, a2⟩ := HP.out.at hil
          rw [HN.out] at e hc
          cases e
          have x1 := (hbel.cell (p := ⟨b, k * 2, none⟩) (World.block_lt_of_cell? w _ a1)).trans a1
          have x2 := (hbel.cell (p := ⟨b, k * 2 + 1, none⟩) (World.block_lt_of_cell? w _ a2)).trans a2
          have HTT : Hid (recsM (l.take (k + 1)) = recsM (l.take k) ++ nums (recOf (slot l k))) := Lib.hid (by rw [take_slot hil, recsM_snoc])
          have hz : (recOf (slot l k)).size ≤ 480 := HOK.out.szs k
          generalize (slot l k).isSome = bb at *
          generalize recOf (slot l k) = rr at *
          have HROW1 := Lib.hid ((HROW.out.alloc (.cells #[.bool bb, .string rr] 216)))
          have HBB := Lib.hid (HBEL.out.alloc HX.out (.cells #[.bool bb, .string rr] 216))
          have H63 : Hid (1 + 2 * i + t + rr.size ≤ maxLen) := Lib.hid (by unfold maxLen; omega)
          clear hbel a1 a2 c1
          go_wp2_with (at_builtin; refine Lib.wpList_append_own_string _ rfl (.tmp 47) (.tmp 49) 71 9 rfl w.heap.size 5 i0 Tryz.underlying71 Tryz.underlying9 HI.out HZ0.out HZ1.out HZ2.out (.slice p3 (1 + 2 * i + t) c3) (1 + 2 * i + t) _ (by rfl) HROW1.out rr (by rfl) H63.out (by omega) HBB.out.size ?_; intro v2 w2 hown2 hgrow2 _)
          have HB2 := Lib.hid (HBB.out.grown hgrow2 HBB.out.size (fun k e => (HROW1.out.lt k e).1))
          have HLEN2 : Hid (([i] ++ headM l ++ recsM (l.take (k + 1))).length = 1 + 2 * i + t + rr.size) := Lib.hid (by rw [HTT.out, ← List.append_assoc, List.length_append, HLEN.out, nums_len])
          have HR2 : Hid (Bl w w2 v2 ([i] ++ headM l ++ recsM (l.take (k + 1)))) := Lib.hid (by
            obtain ⟨p4, c4, e4⟩ := own_form hown2
            subst e4
            refine ⟨HB2.out, p4, c4, by rw [HLEN2.out], ?_⟩
            rw [HLEN2.out, HTT.out, ← List.append_assoc, u8s_append, ← strCells_nums]
            exact hown2)
          clear hown2 hgrow2 HBB HROW1 HB2
          go_roundw
          case rel => exact ⟨k + 1, by omega, by go_num, HR2⟩
          case measure => simp [RowKit.intOf]; omega
        · obtain rfl : k = i := by omega
          have HRT : Hid (recsM (l.take k) = recsM l ∧ tot l = t) := Lib.hid (by rw [← HT.out, List.take_of_length_le (by rw [HN.out]; exact Nat.le_refl _)]; exact ⟨rfl, rfl⟩)
          have HLF : Hid (left l = ((512 - need l : Nat) : Int) ∧ 1 + 2 * k + t + (512 - need l) = 512) := Lib.hid (by
            have h1 := HOK.out.need
            have h2 := HRT.out.2
            have h3 := HN.out
            unfold left need at *
            omega)
          have HLL := Lib.hid (HL.out wr HBEL.out)
          rw [HLF.out.1] at HLL
          obtain ⟨z, HZ⟩ : ∃ z, Hid (512 - need l = z) := ⟨_, Lib.hid rfl⟩
          rw [HZ.out] at HLL HLF
          obtain ⟨b3, c3', e3⟩ : ∃ b3 c3', (Value.slice p3 (1 + 2 * k + t) c3) = .slice (some ⟨b3, 0, none⟩) (1 + 2 * k + t) c3' := own_some HROW.out (by omega)
          cases e3
          clear hbel c1
          have HBYT : Hid (bytesM l = [k] ++ headM l ++ recsM l ++ List.replicate z 0) := Lib.hid (by unfold bytesM; rw [HN.out, HZ.out])
          have HU0 : Hid (u8s (List.replicate z 0) = List.replicate z (.int .u8 0)) := Lib.hid (by unfold u8s; rw [List.map_replicate]; rfl)
          have HLB : Hid ((bytesM l).length = 1 + 2 * k + t + z) := Lib.hid (by rw [bytesM_len HOK.out]; exact HLF.out.2.symm)
          have HDG := Lib.hid (bytesM_dig HOK.out)
          go_wp2_with (first
            | (go_at_call 156; refine HLL.out.mono ?_; rintro e w1 ⟨rfl, hb1⟩; obtain ⟨q5, c5, w5, hr5, hown5, hgrow5⟩ := run_append_own_zeros (P := Tryz.prog) w1 w.heap.size 71 3 71 5 i0 Tryz.underlying71 Tryz.underlying3 HI.out HZ0.out HZ1.out HZ2.out b3 (1 + 2 * k + t) c3 _ (own_below HROW.out hb1) z (by have := HLF.out.2; unfold maxLen; omega) (by have := HLF.out.2; omega) (Nat.le_trans HX.out hb1.size); have HR5 := Lib.hid hr5; have HBF := Lib.hid ((HBEL.out.trans (hb1.mono HX.out)).grown hgrow5 (Nat.le_trans HX.out hb1.size) (fun k e => (HROW.out.lt k e).1)); have hcv : (convert 71 9 (.slice q5 (1 + 2 * k + t + z) c5)).run Tryz.prog w5 = .ok (.string (strB (bytesM l))) w5 := (Bys.own (by rw [HBYT.out, ← HRT.out.1, u8s_append, HU0.out]; exact hown5) HDG.out).conv c5; clear hr5 hown5 hgrow5 hb1)
            | (at_builtin; refine Lib.wpList_append_run _ rfl (.tmp 52) (.tmp 54) 71 3 rfl _ _ (by rfl) (by rfl) (.slice q5 (1 + 2 * k + t + z) c5) w5 HR5.out ?_))
          go_ret
          exact ⟨rfl, HBF.out⟩
end
end Go.Proofs.YtmbecjlioogbhaaGreatDoor.Sl
end
section
/-! A short thing is laid in a store without parts. -/
set_option maxRecDepth 20000
set_option linter.unusedSimpArgs false
namespace Go.Proofs.YtmbecjlioogbhaaGreatDoor
open Go.RowKit

theorem add_one (r : ByteArray) (hr : r.size ≤ 480) : Sl.addE [] r = 0 ∧ Sl.addN [] r = 0 ∧ Sl.addL [] r = [some r] := by
  have hn : Sl.need [some r] = 3 + r.size := by simp [Sl.need, Sl.tot, Sl.sz, Sl.recOf]
  have hw : Sl.withL [] (Sl.bareI []) (some r) = [some r] := rfl
  have hf : Sl.addFull [] r = false := by
    unfold Sl.addFull
    rw [hw, hn]
    simp
    omega
  have h4 : ¬ 480 < r.size := by omega
  refine ⟨?_, ?_, ?_⟩
  · unfold Sl.addE; rw [if_neg h4, if_neg (by rw [hf]; decide)]
  · unfold Sl.addN; rw [if_neg h4, if_neg (by rw [hf]; decide)]; rfl
  · unfold Sl.addL; rw [if_neg h4, if_neg (by rw [hf]; decide), hw]
section
variable {w w' : World} {d sg pg k g mb mb2 : Nat} {D G : List Nat} {m : Dsk} {s : Sp} {y : Xv} {F : Nat → Nat}
/-- The pages behind a new part. -/
abbrev partY (y : Xv) (F : Nat → Nat) (l1 : Nat) : Xv := (y.put l1 zpart).put 0 (pageT (headB 1 fun i => grewF F 0 l1 (i * 129)))
theorem partB_ne (F : Nat → Nat) (i : Nat) : (partB F i).isEmpty = false := by
  have h := (partB_ok F i).1
  cases hz : partB F i with
  | nil => rw [hz] at h; cases h
  | cons a b => rfl
theorem lay_nz (y : Xv) (F : Nat → Nat) (l1 l2 q : Nat) : nn ((partY y F l1).put l2 (Sl.bytesM [])).now q = true ↔ nn y.now q = true ∨ q = 0 ∨ q = l1 ∨ q = l2 := by
  have hz1 : zpart.isEmpty = false := by
    cases hz : zpart with
    | nil => have := zpart_ok.1; rw [hz] at this; cases this
    | cons a b => rfl
  have hz2 : (pageT (headB 1 fun i => grewF F 0 l1 (i * 129))).isEmpty = false := by unfold pageT headB; rfl
  have hz3 : (Sl.bytesM []).isEmpty = false := by
    cases hz : Sl.bytesM [] with
    | nil => have := Sl.bytesM_len (l := []) Sl.Okp.nil_; rw [hz] at this; cases this
    | cons a b => rfl
  show (!(if q = l2 then Sl.bytesM [] else if q = 0 then pageT (headB 1 fun i => grewF F 0 l1 (i * 129)) else if q = l1 then zpart else y.now q).isEmpty) = true ↔ (!(y.now q).isEmpty) = true ∨ q = 0 ∨ q = l1 ∨ q = l2
  by_cases e2 : q = l2
  · rw [if_pos e2, hz3]; exact ⟨fun _ => .inr (.inr (.inr e2)), fun _ => rfl⟩
  · rw [if_neg e2]
    by_cases e0 : q = 0
    · rw [if_pos e0, hz2]; exact ⟨fun _ => .inr (.inl e0), fun _ => rfl⟩
    · rw [if_neg e0]
      by_cases e1 : q = l1
      · rw [if_pos e1, hz1]; exact ⟨fun _ => .inr (.inr (.inl e1)), fun _ => rfl⟩
      · rw [if_neg e1]
        refine ⟨.inl, fun h => ?_⟩
        rcases h with h | h | h | h
        · exact h
        · exact absurd h e0
        · exact absurd h e1
        · exact absurd h e2
set_option maxHeartbeats 6400000 in
theorem Sto.lay0 (h : Sto w d sg D G m s pg y k g mb (.slice none 0 0) 0 F) (hm : Dms w mb2 (fun _ => none)) (hmG : mb2 ∉ G) (hmD : mb2 ∉ D) (l1 l2 : Nat) (hl1 : gapF (nn y.now) 512 0 = some l1) (h0 : thX y.now 0 = true) (hl2 : gapF (nn (partY y F l1).now) 512 0 = some l2) (S : ByteArray) (ds : List Nat) (hS : IsS S ds) (hd : ds.length ≤ 479) :
    Calls Tryz.prog 56 #[.agg #[.pointer (some ⟨g, 0, none⟩), .map (some mb2)], .int .i64 1, .int .i64 (-1), .string S] w fun e w' => e = .returned (.tuple #[]) ∧ ∃ s' y' v' F' gp vp, Sto w' d sg D G m s' pg y' k g mb v' 1 F' ∧ Dms w' mb2 (Dmf.put (fun _ => none) l2 gp) ∧ Sl.Pg0 w' gp vp [some (strB (recB ds []))] ∧ (∀ j ∈ Sl.foot gp vp, j ∉ G ∧ j ∉ D ∧ j ≠ g ∧ v'.ownBlock ≠ some j ∧ j ≠ mb2 ∧ w.heap.size ≤ j) ∧ (∀ q, nn y'.now q = true ↔ nn y.now q = true ∨ q = 0 ∨ q = l1 ∨ q = l2) ∧ (∀ b o, w.heap[b]? = some o → b ∉ G → b ≠ g → b ≠ mb2 → w'.heap[b]? = w.heap[b]?) ∧ (w'.os = w.os ∧ w'.tape = w.tape ∧ w'.output = w.output ∧ w.heap.size ≤ w'.heap.size) := by
  have hb0 : Below w.heap.size w (w.alloc (.cells #[.pointer (some ⟨g, 0, none⟩), .map (some mb2)] 106)) := (Below.refl _ _).alloc (Nat.le_refl _) _
  have hx0 := heap_alloc_new w (.cells #[.pointer (some ⟨g, 0, none⟩), .map (some mb2)] 106)
  have h1 := h.below hb0
  have HLP := Lib.hid (h1.st.lacksPart 1)
  rw [show decide (((0 : Nat) : Int) * 128 < 1) = true from by decide] at HLP
  have HAP := Lib.hid (h1.addPart (by omega) l1 hl1 h0 (fun i hi => absurd hi (Nat.not_lt_zero i)))
  have HPF : Hid (∀ w1, Calls Tryz.prog 97 #[.int .i64 (S.size : Int)] w1 fun e w' => e = .returned (.int .i64 0) ∧ w1 = w') := Lib.hid fun w1 => by
    have hp := pagesFor_any S.size w1 (by have := hS.size; omega)
    have e : pagesForN S.size = 0 := by unfold pagesForN; rw [if_pos (by have := hS.size; omega)]
    rw [e] at hp
    exact hp
  have HNW : Hid (∀ w1, Calls Tryz.prog 105 #[] w1 fun e w' => ∃ g v, e = .returned (.pointer (some ⟨g, 0, none⟩)) ∧ Sl.Pg0 w' g v [] ∧ (∀ k ∈ Sl.foot g v, w1.heap.size ≤ k) ∧ w1.heap.size ≤ g ∧ Below w1.heap.size w1 w') := Lib.hid fun w1 => (Sl.new_any w1).mono (by
    rintro e w' ⟨g, F, rfl, ⟨v, hp, rfl⟩, h1, h2, h3⟩
    exact ⟨g, v, rfl, hp, h1, h2, h3⟩)
  have HBY : Hid (∀ w1 g v, Sl.Pg0 w1 g v [] → Calls Tryz.prog 106 #[.pointer (some ⟨g, 0, none⟩)] w1 fun e w' => e = .returned (.string (strB (Sl.bytesM []))) ∧ Below w1.heap.size w1 w') := Lib.hid fun w1 g v hp => Sl.bytes_any hp
  have hsz := hS.size
  have hszI : (S.size : Int) ≤ 479 := by omega
  have HS := Lib.hid hS
  have HD := Lib.hid hd
  have HL2 := Lib.hid hl2
  have HL1 := Lib.hid hl1
  have HH0 := Lib.hid h0
  have HGM := Lib.hid hmG
  have HDM := Lib.hid hmD
  have HML := Lib.hid hm.lt
  have HM1 := Lib.hid (hm.below hb0)
  have HB0 := Lib.hid hb0
  have HB01 := Lib.hid hb0
  have H1 := Lib.hid h1
  have HGL := Lib.hid (kin_lt h.sp.kinG)
  have HGW := Lib.hid h.st.lt
  clear h h1 hm hmG hmD hl1 h0 hl2 hS hd hb0 hsz
  go_enter Tryz.func56, Tryz.ntmps56
  go_upto_region 1 with fail
  generalize w.alloc (.cells #[.pointer (some ⟨g, 0, none⟩), .map (some mb2)] 106) = W1 at *
  have a0 := cell_of_row _ _ 0 _ _ _ hx0
  have a1 := cell_of_row _ _ 1 _ _ _ hx0
  simp at a0 a1
  go_upto_region 4 with (first
    | (go_at_call 98; with_reducible refine HLP.out.mono ?_; rintro e w2 ⟨rfl, rfl⟩)
    | (go_at_call 102; with_reducible refine HAP.out.mono ?_; rintro e w3 ⟨rfl, ⟨s3, v3, h3, ho3⟩, K3, K3', hK3, hc3⟩))
  have H3 := Lib.hid h3
  have hn3 : ∀ b, b ∉ G → b ≠ g → b ∉ K3 := fun b h1 h2 e => by
    rcases hK3 b e with e | e | e
    · exact h1 e
    · exact h2 e
    · simp [Value.ownBlock] at e
  have hx3 := (hc3.block w.heap.size (lt_of_block hx0) (hn3 _ (fun e => absurd (HGL.out _ e) (Nat.lt_irrefl _)) (fun e => by have := HGW.out; omega))).trans hx0
  have hmg : mb2 ≠ g := fun e => by
    obtain ⟨es, c, hb⟩ := HM1.out.isMap
    rw [e, H1.out.st.row] at hb; cases hb
  have HM3 := Lib.hid (HM1.out.same (hc3.block mb2 HM1.out.lt (hn3 mb2 HGM.out hmg)))
  have HO3 := Lib.hid ho3
  have HB3 : Hid (W1.heap.size ≤ w3.heap.size ∧ Chg K3 K3' W1 w3 ∧ ∀ b, b ∉ G → b ≠ g → b ∉ K3) := Lib.hid ⟨hc3.size, hc3, hn3⟩
  have HBO := Lib.hid (Sl.bytesM_len (l := []) Sl.Okp.nil_)
  have HNP : Hid (∀ w1, Below w3.heap.size w3 w1 → Calls Tryz.prog 104 #[.pointer (some ⟨g, 0, none⟩), .string (strB (Sl.bytesM []))] w1 fun e w' => e = .returned (.int .i64 (l2 : Int)) ∧ Hid ((∃ s', Sto w' d sg D G m s' pg ((partY y F l1).put l2 (Sl.bytesM [])) k g mb v3 1 (grewF F 0 l1)) ∧ Chg G G w1 w')) := Lib.hid fun w1 hb => ((H3.out.below hb).newPage l2 HL2.out (Sl.bytesM []) ⟨HBO.out, Sl.bytesM_dig Sl.Okp.nil_⟩).mono fun e w' hh => ⟨hh.1, Lib.hid hh.2⟩
  have HT0 := Lib.hid a0
  clear h3 hc3 hK3 hn3 hx0 a0 a1 HLP HAP hmg
  have a0 := cell_of_row _ _ 0 _ _ _ hx3
  have a1 := cell_of_row _ _ 1 _ _ _ hx3
  simp at a0 a1
  generalize strB (Sl.bytesM []) = T0 at *
  go_upto_region 13 with (first
    | (go_at_call 97; with_reducible refine (HPF.out _).mono ?_; rintro e w4 ⟨rfl, rfl⟩)
    | (go_at_call 105; with_reducible refine (HNW.out _).mono ?_; rintro e w5 ⟨gp0, vp0, rfl, hp0, -, -, hb5⟩)
    | (go_at_call 106; with_reducible refine (HBY.out _ _ _ hp0).mono ?_; rintro e w6 ⟨rfl, hb6⟩; have HB6 := Lib.hid (hb5.trans (hb6.mono hb5.size)); clear hb5 hb6 hp0)
    | (go_at_call 104; with_reducible refine (HNP.out _ HB6.out).mono ?_; rintro e w7 ⟨rfl, HS7⟩))
  obtain ⟨⟨s7, h7⟩, hc7⟩ := HS7.out
  have hx7 := (hc7.block w.heap.size (by have := HB6.out.size; have := lt_of_block hx3; omega) (fun e => absurd (HGL.out _ e) (Nat.lt_irrefl _))).trans ((HB6.out.block _ (lt_of_block hx3)).trans hx3)
  have HM7 := Lib.hid ((HM3.out.below HB6.out).same (hc7.block mb2 (by have := HB6.out.size; have := HM3.out.lt; omega) HGM.out))
  have H7 := Lib.hid h7
  have HC7 := Lib.hid hc7
  have HX7 := Lib.hid hx7
  have hl2 : l2 < 512 := by have := (gapF_lt HL2.out).1; omega
  have HL5 := Lib.hid hl2
  clear h7 hc7 hx3 a0 a1 HNP HS7 hl2
  have a0 := cell_of_row _ _ 0 _ _ _ hx7
  have a1 := cell_of_row _ _ 1 _ _ _ hx7
  simp at a0 a1
  go_region_law (first
    | (go_simp; go_at_call 105; refine (HNW.out _).mono ?_; rintro e w8 ⟨gp8, vp8, rfl, hpg8, hFP8, hgp8, hb8⟩; have HB8 : Hid (Below w7.heap.size w7 w8) := Lib.hid ((Below.refl _ _).drew.trans (by exact hb8)); obtain ⟨w9, hrun9, hm9, ho9⟩ := (HM7.out.below HB8.out).store l2 gp8 HL5.out; have a0 := (HB8.out.cell (p := ⟨w.heap.size, 0, none⟩) (lt_of_block HX7.out)).trans a0; have a1 := (HB8.out.cell (p := ⟨w.heap.size, 1, none⟩) (lt_of_block HX7.out)).trans a1))
  all_goals (
    have hm9' := hm9
    have HM9 := Lib.hid hm9'
    have hmg : mb2 ≠ g := fun e => by
      obtain ⟨es, c, hb⟩ := HM7.out.isMap
      rw [e, H7.out.st.row] at hb; cases hb
    have hv3 : ∀ b, v3.ownBlock = some b → b ≠ mb2 := fun b hb e => by
      obtain ⟨-, cur, hh⟩ := H7.out.own_ne b hb
      obtain ⟨es, c, hb2⟩ := HM7.out.isMap
      rw [e, hb2] at hh; cases hh
    have hcm : Chg [mb2] [mb2] w8 w9 := ⟨ho9.os, ho9.tape, ho9.output, ho9.size, fun j hj hn => ho9.block j hj (fun e => hn (by rw [e]; exact List.mem_singleton.2 rfl)), fun _ h => .inl h⟩
    have h9 : Sto w9 d sg D G m s7 pg ((partY y F l1).put l2 (Sl.bytesM [])) k g mb v3 1 (grewF F 0 l1) := (H7.out.below HB8.out).stayB hcm
      (fun j hj => by cases List.mem_singleton.1 hj; exact .inl ((HM7.out.below HB8.out).isMap))
      (fun j hj e => by cases List.mem_singleton.1 e; exact HDM.out hj)
      (fun j hj e => by cases List.mem_singleton.1 e; exact HGM.out hj)
      (fun e => hmg (List.mem_singleton.1 e).symm)
      (fun b hb e => hv3 b hb (List.mem_singleton.1 e))
    have hmb8 : mb2 < w7.heap.size := HM7.out.lt
    have hp9 : Sl.Pg0 w9 gp8 vp8 [] := ⟨(ho9.block gp8 (lt_of_block hpg8.hd) (fun e => by have : w7.heap.size ≤ gp8 := hgp8; omega)).trans hpg8.hd, Sl.own_other hpg8.row (fun b hb => ho9.block b (World.ownsRow.lt hpg8.row b hb).2 (fun e => by have : w7.heap.size ≤ b := hFP8 b (by unfold Sl.foot; rw [hb]; simp); omega)), hpg8.ok⟩
    have hx9 := (ho9.block w.heap.size (by have := HB8.out.size; have := lt_of_block HX7.out; omega) (fun e => by have := HML.out; omega)).trans ((HB8.out.block _ (lt_of_block HX7.out)).trans HX7.out)
    have H9 := Lib.hid h9
    have HP9 := Lib.hid hp9
    have HX9 := Lib.hid hx9
    have HF9 : Hid (∀ j ∈ Sl.foot gp8 vp8, w7.heap.size ≤ j) := Lib.hid hFP8
    have HO9 := Lib.hid ho9
    clear hm9 hm9' h9 hp9 hcm ho9 hrun9 hpg8 hFP8 hgp8 hb8 a0 a1 hx9
    have a0 := cell_of_row _ _ 0 _ _ _ HX9.out
    have a1 := cell_of_row _ _ 1 _ _ _ HX9.out
    simp at a0 a1
    have HRT : Hid (∀ w1, Calls Tryz.prog 108 #[.string S, .slice none 0 0] w1 fun e w' => e = .returned (.string (strB (recB ds []))) ∧ Below w1.heap.size w1 w') := Lib.hid fun w1 => recordText_any S ds (.slice none 0 0) [] 0 w1 HS.out (by have := HD.out; omega) (World.ownsRow_nil _ _ _ _) (by simp) (by simp)
    have hT4 : (strB (recB ds [])).size ≤ 480 := by
      rw [strB_size]
      have := HD.out
      unfold recB
      rw [if_pos rfl]
      simp
      omega
    have HAD : Hid (∀ w1, Below w9.heap.size w9 w1 → Calls Tryz.prog 107 #[.pointer (some ⟨gp8, 0, none⟩), .string (strB (recB ds []))] w1 fun e w' => e = .returned (.tuple #[.int .i64 0, .int .i64 0]) ∧ Hid (∃ v', Sl.Pg0 w' gp8 v' [some (strB (recB ds []))] ∧ Sl.Chg (Sl.foot gp8 vp8) (Sl.foot gp8 v') w1 w')) := Lib.hid fun w1 hb => by
      have ha := Sl.add_any (HP9.out.below hb) (strB (recB ds [])) (by omega)
      obtain ⟨e1, e2, e3⟩ := add_one (strB (recB ds [])) hT4
      rw [e1, e2, e3] at ha
      refine ha.mono ?_
      rintro e w' ⟨rfl, F', ⟨v', hp', rfl⟩, hc⟩
      exact ⟨rfl, Lib.hid ⟨v', hp', hc⟩⟩
    have HT4 := Lib.hid hT4
    clear hT4
    generalize hTT : strB (recB ds []) = T4 at *
    have HTT := Lib.hid hTT
    clear hTT
    have hlk := (HM9.out.below (Below.refl _ _).drew).look1 l2 gp8 (Dmf.put_same _ _ _)
    have a0d := (World.cell?_of_block (a := ⟨w.heap.size, 0, none⟩) (show w9.drew.heap[w.heap.size]? = w9.heap[w.heap.size]? from rfl)).trans a0
    go_wp2_with fail
    go_region_law (first
      | (go_simp; go_at_call 108; refine (HRT.out _).mono ?_; rintro e w10 ⟨rfl, hb10⟩; have HB10 : Hid (Below w9.heap.size w9 w10) := Lib.hid ((Below.refl _ _).drew.trans (by exact hb10)); have a0 := (HB10.out.cell (p := ⟨w.heap.size, 0, none⟩) (lt_of_block HX9.out)).trans a0; have a1 := (HB10.out.cell (p := ⟨w.heap.size, 1, none⟩) (lt_of_block HX9.out)).trans a1; have hlk := (HM9.out.below HB10.out).look1 l2 gp8 (Dmf.put_same _ _ _))
      | (go_simp; go_at_call 107; refine (HAD.out _ HB10.out).mono ?_; rintro e w11 ⟨rfl, HA11⟩))
    all_goals (
      obtain ⟨vp11, hp11, hc11⟩ := HA11.out
      have hl1 : l1 < 512 := by have := (gapF_lt HL1.out).1; omega
      have hsz7 : w7.heap.size ≤ w10.heap.size := by have := HB8.out.size; have := HO9.out.size; have := HB10.out.size; omega
      have hG7 := kin_lt H7.out.sp.kinG
      have hD7 := kin_lt H7.out.sp.kinF
      have hg7 := H7.out.st.lt
      have hv7 := fun b hb => (World.ownsRow.lt H7.out.st.own b hb).2
      have hw7 : w.heap.size < w7.heap.size := lt_of_block HX7.out
      have hK : Kin w10 (Sl.foot gp8 vp8) := fun j hj => by
        obtain ⟨cs, t, fr, e, ht⟩ := (HP9.out.below HB10.out).typed j hj
        exact .inr ⟨cs, t, fr, e, by rcases ht with rfl | rfl <;> simp⟩
      have h11 : Sto w11 d sg D G m s7 pg ((partY y F l1).put l2 (Sl.bytesM [])) k g mb v3 1 (grewF F 0 l1) := (H9.out.below HB10.out).stayB (K := Sl.foot gp8 vp8) (K' := Sl.foot gp8 vp11) ⟨hc11.os, hc11.tape, hc11.output, hc11.size, hc11.block, hc11.fresh⟩ hK
        (fun j hj e => by have := HF9.out j e; have := hD7 j hj; omega)
        (fun j hj e => by have := HF9.out j e; have := hG7 j hj; omega)
        (fun e => by have := HF9.out g e; omega)
        (fun b hb e => by have := HF9.out b e; have := hv7 b hb; omega)
      have hf11 : ∀ j ∈ Sl.foot gp8 vp11, w7.heap.size ≤ j := fun j hj => (hc11.fresh j hj).elim (fun e => HF9.out j e) (fun e => by omega)
      have hm11 : Dms w11 mb2 (Dmf.put (fun _ => none) l2 gp8) := (HM9.out.below HB10.out).same (hc11.block mb2 (HM9.out.below HB10.out).lt (fun e => by have := HF9.out mb2 e; have := HML.out; omega))
      have hF0 : grewF F 0 l1 (0 / 128 * 129) = l1 := by unfold grewF; simp
      have hnz := lay_nz y F l1 l2
      have hth : thX ((partY y F l1).put l2 (Sl.bytesM [])).now ((grewF F 0 l1 (0 / 128 * 129) : Nat) : Int) = true := by
        rw [hF0, th_nat hl1]
        exact (hnz l1).2 (.inr (.inr (.inl rfl)))
      have ht := h11.tell 0 (l2 * 64 + 1) (by omega) (fun j hj => by unfold grewF; split; omega; split; omega; omega) (by have := HL5.out; omega) hth
      rw [show (((0 : Nat) : Int) + 1) = 1 from rfl, hF0] at ht
      have HTL := Lib.hid ht
      have HSO : Hid (∀ w1, Calls Tryz.prog 109 #[.int .i64 (l2 : Int), .int .i64 0] w1 fun e w' => e = .returned (.int .i64 ((l2 * 64 + 1 : Nat) : Int)) ∧ w1 = w') := Lib.hid fun w1 => by
        have h := spotOf_any l2 0 w1 (by have := HL5.out; omega) (by omega)
        rw [show ((l2 : Int) * 64 + ((0 : Nat) : Int) + 1) = ((l2 * 64 + 1 : Nat) : Int) by omega] at h
        exact h
      have HFIN : Hid (∀ (V : World) s' X, Sto V d sg D G m s' pg (((partY y F l1).put l2 (Sl.bytesM [])).put l1 X) k g mb v3 1 (Tb.updN (grewF F 0 l1) (0 / 128 * 129 + 1 + 0 % 128) (l2 * 64 + 1)) → X.isEmpty = false → (∃ K, (∀ j ∈ K, j ∈ G ∨ v3.ownBlock = some j) ∧ Chg K K w11 V) →
          ∃ s' y' v' F' gp vp, Sto V d sg D G m s' pg y' k g mb v' 1 F' ∧ Dms V mb2 (Dmf.put (fun _ => none) l2 gp) ∧ Sl.Pg0 V gp vp [some (strB (recB ds []))] ∧ (∀ j ∈ Sl.foot gp vp, j ∉ G ∧ j ∉ D ∧ j ≠ g ∧ v'.ownBlock ≠ some j ∧ j ≠ mb2 ∧ w.heap.size ≤ j) ∧ (∀ q, nn y'.now q = true ↔ nn y.now q = true ∨ q = 0 ∨ q = l1 ∨ q = l2) ∧ (∀ b o, w.heap[b]? = some o → b ∉ G → b ≠ g → b ≠ mb2 → V.heap[b]? = w.heap[b]?) ∧ (V.os = w.os ∧ V.tape = w.tape ∧ V.output = w.output ∧ w.heap.size ≤ V.heap.size)) := Lib.hid fun V s' X hV hXe hKK => by
        obtain ⟨K, hK1, hKc⟩ := hKK
        have hout : ∀ j ∈ Sl.foot gp8 vp11, j ∉ K := fun j hj e => by
          have h1 := hf11 j hj
          rcases hK1 j e with e | e
          · have := hG7 j e; omega
          · have := hv7 j e; omega
        have hmK : mb2 ∉ K := fun e => by
          rcases hK1 mb2 e with e | e
          · exact HGM.out e
          · exact hv3 mb2 e rfl
        refine ⟨s', _, v3, _, gp8, vp11, hV, hm11.same (hKc.block mb2 hm11.lt hmK), HTT.out ▸ hp11.stay (F := K) (F' := K) ⟨hKc.os, hKc.tape, hKc.output, hKc.size, hKc.block, hKc.fresh⟩ hout, fun j hj => ?_, fun q => ?_, fun b o hbm hbG hbg hb2 => ?_, ?_⟩
        · have h1 := hf11 j hj
          exact ⟨fun e => by have := hG7 j e; omega, fun e => by have := hD7 j e; omega, fun e => by omega, fun e => by have := hv7 j e; omega, fun e => by have := HML.out; omega, by omega⟩
        · show (!(if q = l1 then X else _).isEmpty) = true ↔ _
          by_cases e : q = l1
          · rw [if_pos e, hXe]; exact ⟨fun _ => .inr (.inr (.inl e)), fun _ => rfl⟩
          · rw [if_neg e]; exact hnz q
        · have q0 := lt_of_block hbm
          have e1 := HB01.out.block b q0
          have e3 := (HB3.out.2.1.block b (by have := HB01.out.size; omega) (HB3.out.2.2 b hbG hbg)).trans e1
          have z1 := HB01.out.size
          have z3 := HB3.out.1
          have z6 := HB6.out.size
          have z7 := HC7.out.size
          have z8 := HB8.out.size
          have z9 := HO9.out.size
          have z10 := HB10.out.size
          have z11 := hc11.size
          have e6 := (HB6.out.block b (by omega)).trans e3
          have e7 := (HC7.out.block b (by omega) hbG).trans e6
          have e8 := (HB8.out.block b (by omega)).trans e7
          have e9 := (HO9.out.block b (by omega) hb2).trans e8
          have e10 := (HB10.out.block b (by omega)).trans e9
          have e11 := (hc11.block b (by omega) (fun e => by have := HF9.out b e; omega)).trans e10
          refine (hKc.block b (by omega) (fun e => ?_)).trans e11
          rcases hK1 b e with e | e
          · exact hbG e
          · rcases HO3.out b e with e2 | e2
            · cases e2
            · omega
        · have z1 := HB01.out.size
          have z3 := HB3.out.1
          have z6 := HB6.out.size
          have z7 := HC7.out.size
          have z8 := HB8.out.size
          have z9 := HO9.out.size
          have z10 := HB10.out.size
          have z11 := hc11.size
          have zk := hKc.size
          exact ⟨hKc.os.trans (hc11.os.trans (HB10.out.os.trans (HO9.out.os.trans (HB8.out.os.trans (HC7.out.os.trans (HB6.out.os.trans (HB3.out.2.1.os.trans HB01.out.os))))))),
            hKc.tape.trans (hc11.tape.trans (HB10.out.tape.trans (HO9.out.tape.trans (HB8.out.tape.trans (HC7.out.tape.trans (HB6.out.tape.trans (HB3.out.2.1.tape.trans HB01.out.tape))))))),
            hKc.output.trans (hc11.output.trans (HB10.out.output.trans (HO9.out.output.trans (HB8.out.output.trans (HC7.out.output.trans (HB6.out.output.trans (HB3.out.2.1.output.trans HB01.out.output))))))), by omega⟩
      generalize l2 * 64 + 1 = XX at *
      clear ht hth hnz hF0 hm11 hf11 h11 hK hv7 hg7 hD7 hG7 hsz7 hl1 hw7 hp11 hc11 hlk
      go_wp2_with (first
        | (go_at_call 109; with_reducible refine (HSO.out _).mono ?_; rintro e w12 ⟨rfl, rfl⟩)
        | (go_at_call 60; with_reducible refine HTL.out.mono ?_; rintro e w13 ⟨rfl, ⟨s13, h13⟩, hK13⟩; have H13 := Lib.hid h13; have HK13 := Lib.hid hK13; clear h13 hK13))
      go_end0
      exact ⟨rfl, HFIN.out _ _ _ H13.out (partB_ne _ _) HK13.out⟩)
    )
end
end Go.Proofs.YtmbecjlioogbhaaGreatDoor
end
