/- Texts RdO to GMap of this seat, laid into one. -/
import Derived.Test.YthjjgpepgbfalaaGreatDoorProg
import Derived.WalkKit
import Derived.WalkSpells
import Derived.WalkLawsBesides
import Derived.Laws.BitsAllLaws
import Derived.Laws.OwnMore
import Derived.Lib.Hide
import Derived.Lib.SlBytesConst
import Derived.Outline
import Derived.OneCell
import Derived.OwnWalk
import Derived.Laws.CopyOwn
import Derived.Laws.BytesArg
import Derived.WideShapes
import Derived.Maps.AppendAt
import Derived.Lib.Strings
import Derived.Lib.AppendStr
import Derived.Maps.Keyed
import Derived.Maps.OwnSet
import Derived.Test.YthjjgpepgbfalaaGreatDoorM16
set_option linter.unusedVariables false
set_option linter.unusedSimpArgs false
set_option linter.constructorNameAsVariable false
section
/-! How many pairs a node has, how many objects nodes need, how many names are new. -/
set_option maxRecDepth 20000
set_option linter.unusedSimpArgs false
set_option linter.unusedVariables false
namespace Go.Proofs.YthjjgpepgbfalaaGreatDoor
open Go.RowKit Go.Shelf

def chainK (k : Nat) : Bool := decide (k = 0) || decide (k = 4) || decide (k = 5) || decide (k = 6) || decide (k = 7)
def pairsZ (x : Nd) : Int := if chainK x.t.k = true then (if x.d = true then (x.is.length : Int) - 1 else (x.is.length : Int)) else 0
def objZ (x : Nd) : Int := if x.t.k = 13 ∨ x.t.k = 2 ∨ x.t.k = 3 then 1 else pairsZ x
theorem pairsZ_le (x : Nd) : -1 ≤ pairsZ x ∧ pairsZ x ≤ x.is.length := by unfold pairsZ; split <;> (try split) <;> omega
theorem objZ_le (x : Nd) : -1 ≤ objZ x ∧ objZ x ≤ x.is.length + 1 := by unfold objZ; have := pairsZ_le x; split <;> omega
section
variable {w w' : World} {S : Nat → Nat} {V : Nat → Value} {A : List Nd}
set_option maxHeartbeats 3200000 in
theorem Nds.pairs (h : Nds w S V A) (hA : A.length ≤ 100000) {i : Nat} (hi : i < A.length) : Calls Tryz.prog 45 #[.pointer (some ⟨S i, 0, none⟩)] w fun e w' => e = .returned (.int .i64 (pairsZ (ndAt A i))) ∧ w = w' := by
  obtain ⟨⟨c0, -⟩, ⟨c4, c5, -⟩, -⟩ := h.cells hi
  have hk := (h.tk i hi).1.k
  have hlen := h.len i hi
  obtain ⟨q, cp, e⟩ := h.form hi
  rw [e] at c4
  obtain ⟨R, hR⟩ : ∃ R, pairsZ (ndAt A i) = R := ⟨_, rfl⟩
  rw [hR]
  unfold pairsZ at hR
  generalize ndAt A i = x at *
  have hl : x.is.length ≤ 100000 := by omega
  have hlI : (x.is.length : Int) ≤ 100000 := by omega
  have hl0 : (0 : Int) ≤ (x.is.length : Int) := by omega
  clear h e hi hA hlen
  generalize x.is.length = n at *
  by_cases hc : x.t.k = 0 ∨ x.t.k = 4 ∨ x.t.k = 5 ∨ x.t.k = 6 ∨ x.t.k = 7
  · obtain ⟨K, hK⟩ : ∃ K : Int, (x.t.k : Int) = K := ⟨_, rfl⟩
    rw [hK] at c0
    cases hd : x.d with
    | false =>
      rw [hd] at hR c5
      rcases hc with e | e | e | e | e <;> (rw [e] at hK hR; simp at hK; simp [chainK] at hR; subst hK; subst hR) <;>
        (clear hk hd e
         go_enter Tryz.func45, Tryz.ntmps45
         go_wp2_with fail
         go_ret
         exact ⟨rfl, rfl⟩)
    | true =>
      rw [hd] at hR c5
      rcases hc with e | e | e | e | e <;> (rw [e] at hK hR; simp at hK; simp [chainK] at hR; subst hK; subst hR) <;>
        (clear hk hd e
         go_enter Tryz.func45, Tryz.ntmps45
         go_wp2_with fail
         go_ret
         exact ⟨rfl, rfl⟩)
  · have e0 : ((x.t.k : Int) == 0) = false := by simp; omega
    have e4 : ((x.t.k : Int) == 4) = false := by simp; omega
    have e5 : ((x.t.k : Int) == 5) = false := by simp; omega
    have e6 : ((x.t.k : Int) == 6) = false := by simp; omega
    have e7 : ((x.t.k : Int) == 7) = false := by simp; omega
    rw [if_neg (by unfold chainK; simp; omega)] at hR
    subst hR
    clear hk hc c4 c5 hl hlI hl0
    go_enter Tryz.func45, Tryz.ntmps45
    go_wp2_with fail
    go_ret
    exact ⟨rfl, rfl⟩
set_option maxHeartbeats 3200000 in
theorem Nds.object1 (h : Nds w S V A) (hA : A.length ≤ 100000) {i : Nat} (hi : i < A.length) {b : Nat} {s : Int} (hs0 : -1000000000 ≤ s) (hs1 : s ≤ 1000000000) (hb : w.heap[b]? = some (.cells #[.int .i64 s] 3 (0, 0))) :
    Calls Tryz.prog 44 #[.pointer (some ⟨S i, 0, none⟩), .pointer (some ⟨b, 0, none⟩)] w fun e w' => e = .returned (.tuple #[]) ∧ w'.heap[b]? = some (.cells #[.int .i64 (s + objZ (ndAt A i))] 3 (0, 0)) ∧ Only b w w' := by
  obtain ⟨⟨c0, -⟩, -⟩ := h.cells hi
  have hk := (h.tk i hi).1.k
  have hlen := h.len i hi
  have HP := Lib.hid (fun (u : World) (hu : ∀ k, footN S V A.length k → u.heap[k]? = w.heap[k]?) => (h.keep hu).pairs hA hi)
  have HPD := Lib.hid (HP.out w.drew fun _ _ => rfl)
  have b0 : w.cell? ⟨b, 0, none⟩ = some (.int .i64 s) := by rw [cell_of_row w b 0 _ _ _ hb]; rfl
  have f0 : w.frozen? ⟨b, 0, none⟩ = false := frozen_of_row w b 0 _ _ hb
  obtain ⟨R, hR⟩ : ∃ R, objZ (ndAt A i) = R := ⟨_, rfl⟩
  rw [hR]
  have hol := objZ_le (ndAt A i)
  rw [hR] at hol
  have HB1 : Hid (∀ x : Int, (w.setCell ⟨b, 0, none⟩ (.int .i64 x)).heap[b]? = some (.cells #[.int .i64 x] 3 (0, 0))) := Lib.hid fun x => heap_setCell_same w b 0 _ _ _ hb
  have HO := Lib.hid (fun x => Only.setCell b 0 (.int .i64 x) w)
  have hr0 : -1000000000 - 1 ≤ s + R := by omega
  have hr1 : s + R ≤ 2000000000 := by omega
  have hob : objZ (ndAt A i) = if (ndAt A i).t.k = 13 ∨ (ndAt A i).t.k = 2 ∨ (ndAt A i).t.k = 3 then 1 else pairsZ (ndAt A i) := rfl
  rw [hR] at hob
  generalize pairsZ (ndAt A i) = PZ at *
  generalize ndAt A i = x at *
  by_cases hc : x.t.k = 13 ∨ x.t.k = 2 ∨ x.t.k = 3
  · obtain ⟨K, hK⟩ : ∃ K : Int, (x.t.k : Int) = K := ⟨_, rfl⟩
    rw [hK] at c0
    rw [if_pos hc] at hob
    subst hob
    clear h hA hlen hR hb HP hi
    rcases hc with e | e | e <;> (rw [e] at hK; simp at hK; subst hK) <;>
      (clear hk e
       go_enter Tryz.func44, Tryz.ntmps44
       go_wp2_with fail
       go_end0
       exact ⟨rfl, HB1.out _, HO.out _⟩)
  · have e0 : ((x.t.k : Int) == 13) = false := by simp; omega
    have e4 : ((x.t.k : Int) == 2) = false := by simp; omega
    have e5 : ((x.t.k : Int) == 3) = false := by simp; omega
    rw [if_neg hc] at hob
    subst hob
    have hwr : IntKind.i64.wrap (s + R) = s + R := by rw [IntKind.wrap_i64]; omega
    clear h hA hlen hR hb HP hi hk hc hol
    go_enter Tryz.func44, Tryz.ntmps44
    go_upto_region 1 with fail
    go_region_with (go_at_call 45; with_reducible refine HPD.out.mono ?_; rintro e w3 ⟨rfl, rfl⟩)
    all_goals go_wp2_with fail
    all_goals go_end0
    all_goals exact ⟨rfl, HB1.out _, (HO.out _).drew⟩
def objsZ (A : List Nd) (d : List Nat) : Int := (d.map fun i => objZ (ndAt A i)).sum
theorem objsZ_snoc (A : List Nd) (d : List Nat) (i : Nat) : objsZ A (d ++ [i]) = objsZ A d + objZ (ndAt A i) := by unfold objsZ; rw [List.map_append, List.sum_append]; simp
/-- Amid objects. -/
structure ObJ (w : World) (S : Nat → Nat) (V : Nat → Value) (A : List Nd) (b : Nat) (d : List Nat) (W : World) : Prop where
  nds : Nds W S V A
  box : W.heap[b]? = some (.cells #[.int .i64 (objsZ A d)] 3 (0, 0))
  bel : Below w.heap.size w W
theorem objs_bound {A : List Nd} (hl : ∀ i, i < A.length → (ndAt A i).is.length ≤ A.length) : ∀ d : List Nat, (∀ i ∈ d, i < A.length) → -(d.length : Int) ≤ objsZ A d ∧ objsZ A d ≤ d.length * (A.length + 1)
  | [], _ => ⟨by simp [objsZ], by simp [objsZ]⟩
  | i :: d, h => by
    have ih := objs_bound hl d fun j hj => h j (List.mem_cons_of_mem _ hj)
    have h1 := objZ_le (ndAt A i)
    have h2 := hl i (h i (List.mem_cons_self ..))
    have e : objsZ A (i :: d) = objZ (ndAt A i) + objsZ A d := rfl
    rw [e]
    simp only [List.length_cons, Int.natCast_add, Int.natCast_one, Int.add_mul, Int.one_mul]
    omega
set_option maxHeartbeats 1600000 in
theorem Nds.objects (h : Nds w S V A) (hA : 0 < A.length) (hA2 : A.length ≤ 20000) (hp : (pre A 0).length ≤ 20000) : Calls Tryz.prog 25 #[.pointer (some ⟨S 0, 0, none⟩)] w fun e w' => e = .returned (.int .i64 (objsZ A (pre A 0))) ∧ Below w.heap.size w w' := by
  have hb0 := alloc_below w (.cells #[.int .i64 0] 3)
  have hx0 := heap_alloc_new w (.cells #[.int .i64 0] 3)
  have hlt := pre_lt h.ord A.length 0 hA (by omega)
  have hE := each_any (fid := 44) (caps := #[.pointer (some ⟨w.heap.size, 0, none⟩)]) (A := A) (S := S) (V := V) (J := ObJ w S V A w.heap.size) (L := pre A 0) (enters_of Tryz.func44 (by kernel_rfl) rfl) h.ord
    (fun d W hJ => hJ.nds.shp rfl (fun _ _ => rfl) (by omega))
    (fun d i r W hL hJ => by
      have hi : i < A.length := (hlt i (by rw [← hL]; simp)).2
      have hd : ∀ j ∈ d, j < A.length := fun j hj => (hlt j (by rw [← hL]; exact List.mem_append_left _ hj)).2
      have hbd := objs_bound h.len d hd
      have hdl : d.length ≤ 20000 := by have := congrArg List.length hL; simp at this; omega
      have hm : (d.length : Int) * ((A.length : Int) + 1) ≤ 20000 * 20001 := Int.mul_le_mul (by omega) (by omega) (by omega) (by omega)
      refine (hJ.nds.object1 (by omega) hi (by omega) (by omega) hJ.box).mono ?_
      rintro e W' ⟨rfl, h1, h2⟩
      have hnb : ¬ footN S V A.length w.heap.size := fun e => by have := h.lt _ e; omega
      refine ⟨rfl, hJ.nds.keep fun k hk => h2.block k (hJ.nds.lt k hk) fun e => hnb (e ▸ hk), by rw [objsZ_snoc]; exact h1, h2.below hJ.bel hJ.bel.size (Nat.le_refl _)⟩)
    A.length 0 hA (by omega) [] [] (by simp) (w.alloc (.cells #[.int .i64 0] 3)) ⟨h.below hb0, hx0, hb0⟩
  have HE := Lib.hid hE
  have hmf : ∀ (fn : Fn) (first cap : Array Value) (w : World), (Instr.makeFunc fn first cap).run Tryz.prog w = .ok (.func fn first cap) w := fun _ _ _ _ => rfl
  clear hE hlt h hb0 hx0 hp
  go_enter Tryz.func25, Tryz.ntmps25
  go_wp2_with (go_at_call 29; with_reducible refine HE.out.mono ?_; rintro e w1 ⟨rfl, hj⟩; have c0 := cell_of_row _ _ 0 _ _ _ hj.box; simp at c0)
  go_ret
  exact ⟨rfl, hj.bel⟩
end
end Go.Proofs.YthjjgpepgbfalaaGreatDoor
end
section
/-! A slice of bytes that reads as these numbers; one of the call's own. -/
namespace Go.Proofs.YthjjgpepgbfalaaGreatDoor.Sy
open Go.RowKit

/-- A slice of bytes that reads as these numbers. -/
structure Bys (w : World) (p : Option Addr) (n : Nat) (bs : List Nat) : Prop where
  len : bs.length = n
  dig : ∀ x ∈ bs, x < 256
  inn : 0 < n → ∃ b o, p = some ⟨b, o, none⟩ ∧ ∀ i, i < n → w.cell? ⟨b, o + i, none⟩ = some (.int .u8 ((bs.getD i 0 : Nat) : Int))
theorem Bys.keep {w w' : World} {p : Option Addr} {n : Nat} {bs : List Nat} (h : Bys w p n bs) (hb : ∀ a : Addr, a.block < w.heap.size → w'.cell? a = w.cell? a) : Bys w' p n bs :=
  ⟨h.len, h.dig, fun hn => by
    obtain ⟨b, o, e, hc⟩ := h.inn hn
    exact ⟨b, o, e, fun i hi => (hb ⟨b, o + i, none⟩ (World.block_lt_of_cell? w _ (hc i hi))).trans (hc i hi)⟩⟩
theorem Bys.below {w w' : World} {p : Option Addr} {n : Nat} {bs : List Nat} (h : Bys w p n bs) (hb : Below w.heap.size w w') : Bys w' p n bs := h.keep fun _ ha => hb.cell ha
theorem map_getD (bs : List Nat) (i : Nat) : (bs.map Int.ofNat).getD i 0 = ((bs.getD i 0 : Nat) : Int) := by
  rw [List.getD_eq_getElem?_getD, List.getD_eq_getElem?_getD, List.getElem?_map]
  cases bs[i]? <;> rfl
theorem Bys.at {w : World} {p : Option Addr} {n : Nat} {bs : List Nat} (h : Bys w p n bs) (hn : 0 < n) :
    ∃ b o, p = some ⟨b, o, none⟩ ∧ ∀ i, i < n → w.cell? ⟨b, o + i, none⟩ = some (.int .u8 ((bs.getD i 0 : Nat) : Int)) := h.inn hn
theorem Bys.zero (w : World) (p : Option Addr) : Bys w p 0 [] := ⟨rfl, by simp, fun h => absurd h (Nat.lt_irrefl 0)⟩
theorem Bys.nil_ {w : World} {p : Option Addr} {bs : List Nat} (h : Bys w p 0 bs) : bs = [] := List.length_eq_zero_iff.1 h.len
theorem Bys.getD {w : World} {p : Option Addr} {n : Nat} {bs : List Nat} (h : Bys w p n bs) (i : Nat) : bs.getD i 0 < 256 := by
  rw [List.getD_eq_getElem?_getD]
  cases e : bs[i]? with
  | none => decide
  | some x => exact h.dig x (List.mem_of_getElem? e)
def u8s (bs : List Nat) : List Value := bs.map fun (x : Nat) => Value.int .u8 (x : Int)
theorem u8s_get (bs : List Nat) (i : Nat) (h : i < bs.length) : (u8s bs)[i]? = some (.int .u8 ((bs.getD i 0 : Nat) : Int)) := by
  unfold u8s
  rw [List.getElem?_map, List.getD_eq_getElem?_getD, List.getElem?_eq_getElem h]; rfl
theorem u8s_len (bs : List Nat) : (u8s bs).length = bs.length := by unfold u8s; simp
theorem u8s_one (bs : List Nat) : ∀ v ∈ u8s bs, v.oneCell' = true := by
  intro v hv
  obtain ⟨x, _, rfl⟩ := List.mem_map.1 hv
  rfl
/-- A slice of the call's own that reads as these numbers. -/
theorem Bys.of_row {w : World} {base g n c : Nat} {bs : List Nat} (h : w.ownsRow base 5 1 (.slice (some ⟨g, 0, none⟩) n c) n (u8s bs)) (hb : ∀ x ∈ bs, x < 256) : Bys w (some ⟨g, 0, none⟩) n bs := by
  have hl : bs.length = n := by have := h.1; rw [u8s_len] at this; omega
  refine ⟨hl, hb, fun _ => ⟨g, 0, rfl, fun i hi => ?_⟩⟩
  have h2 := World.ownsRow.cells (h : w.ownsRow base 5 1 _ n (u8s bs)) (g := g) rfl i _ (u8s_get bs i (by omega))
  rw [← Go.WideShapes.add_plain]
  exact h2
theorem Bys.own {w : World} {base n c : Nat} {p : Option Addr} {bs : List Nat} (h : w.ownsRow base 5 1 (.slice p n c) n (u8s bs)) (hb : ∀ x ∈ bs, x < 256) : Bys w p n bs := by
  have hl : bs.length = n := by have := h.1; rw [u8s_len] at this; omega
  rcases h.2 with ⟨h0, h1⟩ | ⟨g, cap, cur, e, _⟩
  · subst h1
    exact ⟨hl, hb, fun h => absurd h (Nat.lt_irrefl 0)⟩
  · cases e
    exact Bys.of_row h hb
theorem Tryz.info5 : (Tryz.prog.info? 5).map (fun i => (i.zero, i.size, i.bytes)) = some (some (.int .u8 0), 1, 1) := by kernel_rfl
theorem Bys.cells {w : World} {p : Option Addr} {n : Nat} {bs : List Nat} (h : Bys w p n bs) (hn : 0 < n) : ∃ ad, p = some ad ∧ ∀ j v, (u8s bs)[j]? = some v → w.cell? (ad.add j) = some v := by
  obtain ⟨b, o, e, hc⟩ := h.at hn
  refine ⟨_, e, fun j v hv => ?_⟩
  have hj : j < bs.length := by
    rcases Nat.lt_or_ge j bs.length with h1 | h1
    · exact h1
    · rw [List.getElem?_eq_none (by rw [u8s_len]; exact h1)] at hv; cases hv
  rw [u8s_get bs j hj] at hv
  cases hv
  rw [Go.WideShapes.add_plain]
  exact hc j (by rw [← h.len]; exact hj)
theorem own_below {w w' : World} {base E m : Nat} {v : Value} {n : Nat} {xs : List Value} (h : w.ownsRow base E m v n xs) (hb : Below w.heap.size w w') : w'.ownsRow base E m v n xs := by
  obtain ⟨h1, h2⟩ := h
  refine ⟨h1, ?_⟩
  rcases h2 with h2 | ⟨g, cap, cur, e, hbg, hg, hr⟩
  · exact .inl h2
  · exact .inr ⟨g, cap, cur, e, hbg, (hb.block g (by
      rcases Nat.lt_or_ge g w.heap.size with h3 | h3
      · exact h3
      · rw [Array.getElem?_eq_none h3] at hg; cases hg)).trans hg, hr⟩
theorem getD_take (a : List Nat) (k i : Nat) (h : i < k) : (a.take k).getD i 0 = a.getD i 0 := by
  rw [List.getD_eq_getElem?_getD, List.getD_eq_getElem?_getD, List.getElem?_take_of_lt h]
theorem getD_drop (a : List Nat) (k i : Nat) : (a.drop k).getD i 0 = a.getD (k + i) 0 := by
  rw [List.getD_eq_getElem?_getD, List.getD_eq_getElem?_getD, List.getElem?_drop]
theorem Bys.take {w : World} {p : Option Addr} {n : Nat} {bs : List Nat} (h : Bys w p n bs) {k : Nat} (hk : k ≤ n) : Bys w p k (bs.take k) :=
  ⟨by rw [List.length_take, h.len]; omega, fun x hx => h.dig x (List.mem_of_mem_take hx), fun hn => by
    obtain ⟨b, o, e, hc⟩ := h.at (by omega)
    exact ⟨b, o, e, fun i hi => by rw [hc i (by omega), getD_take _ _ _ hi]⟩⟩
theorem Bys.drop {w : World} {b o n : Nat} {bs : List Nat} (h : Bys w (some ⟨b, o, none⟩) n bs) {k j : Nat} (hk : k + j = n) : Bys w (some ⟨b, o + k, none⟩) j (bs.drop k) :=
  ⟨by rw [List.length_drop, h.len]; omega, fun x hx => h.dig x (List.mem_of_mem_drop hx), fun hn => by
    obtain ⟨b2, o2, e, hc⟩ := h.at (by omega)
    cases e
    exact ⟨b, o + k, rfl, fun i hi => by rw [Nat.add_assoc, hc (k + i) (by omega), getD_drop]⟩⟩
/-- The string of these bytes. -/
def strB (bs : List Nat) : ByteArray := strOfNums (bs.map Int.ofNat)
theorem strB_inj {xs ys : List Nat} (hx : ∀ x ∈ xs, x < 256) (hy : ∀ x ∈ ys, x < 256) (h : (strB xs).data.toList = (strB ys).data.toList) : xs = ys := by
  unfold strB at h
  rw [strOfNums_data, strOfNums_data] at h
  induction xs generalizing ys with
  | nil => cases ys with
    | nil => rfl
    | cons y ys => simp at h
  | cons x xs ih => cases ys with
    | nil => simp at h
    | cons y ys =>
      simp only [List.map_cons, List.cons.injEq] at h
      have h1 := congrArg UInt8.toNat h.1
      have hx1 := hx x (by simp)
      have hy1 := hy y (by simp)
      have e : x = y := by simpa [Nat.mod_eq_of_lt hx1, Nat.mod_eq_of_lt hy1] using h1
      rw [e, ih (fun z hz => hx z (by simp [hz])) (fun z hz => hy z (by simp [hz])) h.2]
/-- 'string(b)' of bytes. -/
theorem Bys.conv {w : World} {p : Option Addr} {n : Nat} {bs : List Nat} (h : Bys w p n bs) (c : Nat) :
    (convert 101 9 (.slice p n c)).run Tryz.prog w = .ok (.string (strB bs)) w := by
  have hl : (bs.map Int.ofNat).length = n := by rw [List.length_map, h.len]
  unfold strB
  rcases Nat.eq_zero_or_pos n with hn | hn
  · subst hn
    rw [List.eq_nil_of_length_eq_zero hl, run_convert_bytes_string w 101 9 5 p 0 c Tryz.underlying101 Tryz.underlying5 Tryz.underlying9]
    cases p with
    | none => simp [Conv.bytesToString]; rfl
    | some a => simp [Conv.bytesToString, loadCells]; rfl
  · obtain ⟨b, o, rfl, hc⟩ := h.at hn
    exact run_convert_bytes_arg (P := Tryz.prog) w 101 5 Tryz.underlying101 Tryz.underlying5 b o n c _ hl (fun i hi => by rw [hc i hi, map_getD]) 9 Tryz.underlying9
theorem Bys.other {w w' : World} {g : Nat} {p : Option Addr} {n : Nat} {bs : List Nat} (h : Bys w p n bs) (hp : 0 < n → ∀ b o, p = some ⟨b, o, none⟩ → b ≠ g) (hb : ∀ a : Addr, a.block ≠ g → w'.cell? a = w.cell? a) : Bys w' p n bs :=
  ⟨h.len, h.dig, fun hn => by
    obtain ⟨b, o, e, hc⟩ := h.inn hn
    exact ⟨b, o, e, fun i hi => (hb ⟨b, o + i, none⟩ (hp hn _ _ e)).trans (hc i hi)⟩⟩
theorem Bys.lt {w : World} {p : Option Addr} {n : Nat} {bs : List Nat} (h : Bys w p n bs) (hn : 0 < n) : ∀ b o, p = some ⟨b, o, none⟩ → b < w.heap.size := by
  intro b0 o0 e
  obtain ⟨b, o, e2, hc⟩ := h.inn hn
  rw [e] at e2
  cases e2
  exact World.block_lt_of_cell? w _ (hc 0 hn)
end Go.Proofs.YthjjgpepgbfalaaGreatDoor.Sy
end
section
/-! Names, and the numbers of names: without memory. -/
set_option linter.unusedSimpArgs false
set_option maxRecDepth 20000
namespace Go.Proofs.YthjjgpepgbfalaaGreatDoor.Sy
open Go.RowKit

theorem strB_size (bs : List Nat) : (strB bs).size = bs.length := by
  have h := congrArg List.length (strOfNums_data (bs.map Int.ofNat))
  simp only [List.length_map] at h
  unfold strB
  rw [← h]; rfl
def nums (S : ByteArray) : List Nat := S.data.toList.map fun b => b.toNat
theorem nums_len (S : ByteArray) : (nums S).length = S.size := by unfold nums; rw [List.length_map, Array.length_toList]; rfl
theorem nums_dig (S : ByteArray) : ∀ x ∈ nums S, x < 256 := fun x hx => by
  obtain ⟨b, _, rfl⟩ := List.mem_map.1 hx
  exact b.toNat_lt
theorem strB_nums (S : ByteArray) : strB (nums S) = S := by
  have h : (strB (nums S)).data.toList = S.data.toList := by
    unfold strB nums
    rw [strOfNums_data, List.map_map, List.map_map]
    have : (((fun n : Int => UInt8.ofNat n.toNat) ∘ Int.ofNat) ∘ fun b : UInt8 => b.toNat) = id := by
      funext b
      simp
    rw [this, List.map_id]
  have h2 : (strB (nums S)).data = S.data := Array.ext' h
  cases S
  cases e : strB (nums _) with
  | mk d => rw [e] at h2; simp only at h2; rw [h2]
theorem nums_strB {bs : List Nat} (h : ∀ x ∈ bs, x < 256) : nums (strB bs) = bs := by
  have h2 := strB_nums (strB bs)
  exact strB_inj (nums_dig _) h (by rw [h2])
def byteAt (S : ByteArray) (i : Nat) : Nat := (nums S).getD i 0
theorem index_any (S : ByteArray) (i : Nat) (hi : i < S.size) (w : World) :
    (Instr.index 9 (.string S) (.int .i64 (i : Int))).run Tryz.prog w = .ok (.int .u8 (byteAt S i : Int)) w := by
  rw [run_index_string w 9 S .i64 i Tryz.underlying9, dif_pos ⟨by omega, by omega⟩]
  have e : byteAt S i = (S[i]'hi).toNat := by
    unfold byteAt nums
    have h1 : S[i]'hi = S.data.toList[i]'(by rw [Array.length_toList]; exact hi) := rfl
    rw [List.getD_eq_getElem?_getD, List.getElem?_map, List.getElem?_eq_getElem (by rw [Array.length_toList]; exact hi), h1]
    rfl
  rw [e]
  rfl
/-- A byte of a name. -/
def chrB (x : Nat) : Bool := decide (33 ≤ x) && decide (x ≤ 126)
/-- May it be a name? -/
def okB (S : ByteArray) : Bool := decide (0 < S.size) && (decide (S.size ≤ 32) && (nums S).all chrB)
theorem okB_iff (S : ByteArray) : okB S = true ↔ 0 < S.size ∧ S.size ≤ 32 ∧ ∀ i, i < S.size → 33 ≤ byteAt S i ∧ byteAt S i ≤ 126 := by
  unfold okB
  simp only [Bool.and_eq_true, decide_eq_true_eq, List.all_eq_true]
  constructor
  · rintro ⟨h1, h2, h3⟩
    refine ⟨h1, h2, fun i hi => ?_⟩
    have hl : i < (nums S).length := by rw [nums_len]; exact hi
    have h4 := h3 _ (List.getElem_mem hl)
    unfold chrB at h4
    simp only [Bool.and_eq_true, decide_eq_true_eq] at h4
    unfold byteAt
    rw [List.getD_eq_getElem?_getD, List.getElem?_eq_getElem hl]
    exact h4
  · rintro ⟨h1, h2, h3⟩
    refine ⟨h1, h2, fun x hx => ?_⟩
    obtain ⟨i, hi, rfl⟩ := List.getElem_of_mem hx
    have h4 := h3 i (by rw [← nums_len]; exact hi)
    unfold byteAt at h4
    rw [List.getD_eq_getElem?_getD, List.getElem?_eq_getElem hi] at h4
    unfold chrB
    simpa using h4
instance decNam : DecidableEq ByteArray := fun a b => decidable_of_iff (a.data = b.data) ⟨fun h => by cases a; cases b; simp only at h; rw [h], fun h => by rw [h]⟩
instance decMem (S : ByteArray) : (L : List ByteArray) → Decidable (S ∈ L)
  | [] => isFalse (by simp)
  | x :: r => haveI := decMem S r; decidable_of_iff (S = x ∨ S ∈ r) List.mem_cons.symm
/-- The place of a name that is there. -/
def atN : List ByteArray → ByteArray → Nat
  | [], _ => 0
  | x :: r, S => if x = S then 0 else atN r S + 1
/-- The place of a name; -1: it isn't there. -/
def atI (L : List ByteArray) (S : ByteArray) : Int := if S ∈ L then (atN L S : Int) else -1
theorem atN_get : ∀ {L : List ByteArray} {S : ByteArray}, S ∈ L → L[atN L S]? = some S
  | [], S, h => by cases h
  | x :: r, S, h => by
    unfold atN
    by_cases e : x = S
    · rw [if_pos e, e]; rfl
    · rw [if_neg e]
      rcases List.mem_cons.1 h with h1 | h1
      · exact absurd h1.symm e
      · exact atN_get h1
theorem atN_lt {L : List ByteArray} {S : ByteArray} (h : S ∈ L) : atN L S < L.length := (List.getElem?_eq_some_iff.1 (atN_get h)).1
/-- A number's digits, below 1000. -/
def digs (n : Nat) : List Nat := if n < 10 then [48 + n] else if n < 100 then [48 + n / 10, 48 + n % 10] else [48 + n / 100, 48 + n / 10 % 10, 48 + n % 10]
def tailM (n : Nat) : List Nat := 37 :: digs n
def candL (s : List Nat) (n : Nat) : List Nat := s.take (32 - (tailM n).length) ++ tailM n
/-- The name that is tried with this number. -/
def cand (S : ByteArray) (n : Nat) : ByteArray := strB (candL (nums S) n)
theorem tailM_len (n : Nat) : 2 ≤ (tailM n).length ∧ (tailM n).length ≤ 4 := by unfold tailM digs; split <;> (try split) <;> simp
theorem tailM_chr {n : Nat} (hn : n < 1000) : ∀ x ∈ tailM n, 33 ≤ x ∧ x ≤ 126 := by
  intro x hx
  unfold tailM digs at hx
  split at hx
  · simp at hx; omega
  · split at hx
    · simp at hx; omega
    · simp at hx; omega
theorem candL_dig {S : ByteArray} {n : Nat} (hn : n < 1000) : ∀ x ∈ candL (nums S) n, x < 256 := by
  intro x hx
  unfold candL at hx
  rcases List.mem_append.1 hx with h | h
  · exact nums_dig S x (List.mem_of_mem_take h)
  · have := tailM_chr hn x h; omega
theorem nums_cand {S : ByteArray} {n : Nat} (hn : n < 1000) : nums (cand S n) = candL (nums S) n := nums_strB (candL_dig hn)
theorem candL_inj {s : List Nat} {n m : Nat} (hn : n < 1000) (hm : m < 1000) (h : candL s n = candL s m) : n = m := by
  have hr := congrArg List.reverse h
  unfold candL tailM digs at hr
  simp only [List.reverse_append, List.reverse_cons] at hr
  by_cases h1 : n < 10 <;> by_cases h2 : m < 10 <;> by_cases h3 : n < 100 <;> by_cases h4 : m < 100 <;>
    first
      | (exfalso; omega)
      | (simp only [h1, h2, h3, h4, if_true, if_false] at hr; simp at hr; omega)
theorem cand_inj {S : ByteArray} {n m : Nat} (hn : n < 1000) (hm : m < 1000) (h : cand S n = cand S m) : n = m :=
  candL_inj hn hm (by rw [← nums_cand hn, ← nums_cand hm, h])
theorem cand_ok {S : ByteArray} (hS : okB S = true) {n : Nat} (hn : n < 1000) : okB (cand S n) = true := by
  unfold okB at hS ⊢
  simp only [Bool.and_eq_true, decide_eq_true_eq, List.all_eq_true] at hS ⊢
  have hl : (candL (nums S) n).length = min (32 - (tailM n).length) S.size + (tailM n).length := by
    unfold candL; rw [List.length_append, List.length_take, nums_len]
  have ht := tailM_len n
  rw [nums_cand hn, show (cand S n).size = (candL (nums S) n).length from strB_size _, hl]
  refine ⟨by omega, by omega, fun x hx => ?_⟩
  unfold candL at hx
  rcases List.mem_append.1 hx with h | h
  · exact hS.2.2 x (List.mem_of_mem_take h)
  · have := tailM_chr hn x h
    unfold chrB; simpa using this
theorem php {α : Type} [DecidableEq α] : ∀ (l L : List α), l.Nodup → (∀ x ∈ l, x ∈ L) → l.length ≤ L.length
  | [], _, _, _ => by simp
  | x :: r, L, hn, hs => by
    obtain ⟨h1, h2⟩ := List.nodup_cons.1 hn
    have hx : x ∈ L := hs x (by simp)
    have h3 := php r (L.erase x) h2 (fun y hy => (List.mem_erase_of_ne (fun e => h1 (by rw [← e]; exact hy))).2 (hs y (by simp [hy])))
    rw [List.length_erase_of_mem hx] at h3
    have := List.length_pos_of_mem hx
    simp only [List.length_cons]
    omega
/-- The least number from n on, among so many, whose name isn't there. -/
def seekN (L : List ByteArray) (S : ByteArray) : Nat → Nat → Nat
  | 0, n => n
  | f + 1, n => if cand S n ∈ L then seekN L S f (n + 1) else n
def frN (L : List ByteArray) (S : ByteArray) : Nat := seekN L S L.length 1
theorem seekN_spec (L : List ByteArray) (S : ByteArray) : ∀ (f n : Nat), n ≤ seekN L S f n ∧ seekN L S f n ≤ n + f ∧ (∀ k, n ≤ k → k < seekN L S f n → cand S k ∈ L) ∧ (seekN L S f n < n + f → cand S (seekN L S f n) ∉ L)
  | 0, n => ⟨Nat.le_refl _, by simp [seekN], fun k h1 h2 => by simp [seekN] at h2; omega, fun h => by simp [seekN] at h⟩
  | f + 1, n => by
    unfold seekN
    by_cases hc : cand S n ∈ L
    · rw [if_pos hc]
      obtain ⟨a1, a2, a3, a4⟩ := seekN_spec L S f (n + 1)
      refine ⟨by omega, by omega, fun k h1 h2 => ?_, fun h => a4 (by omega)⟩
      by_cases e : k = n
      · rw [e]; exact hc
      · exact a3 k (by omega) h2
    · rw [if_neg hc]
      exact ⟨Nat.le_refl _, by omega, fun k h1 h2 => by omega, fun _ => hc⟩
structure FrN (L : List ByteArray) (S : ByteArray) (n : Nat) : Prop where
  pos : 1 ≤ n
  le : n ≤ L.length + 1
  not_ : cand S n ∉ L
  all : ∀ k, 1 ≤ k → k < n → cand S k ∈ L
theorem frN_spec {L : List ByteArray} (S : ByteArray) (hL : L.length ≤ 998) : FrN L S (frN L S) := by
  obtain ⟨a1, a2, a3, a4⟩ := seekN_spec L S L.length 1
  refine ⟨a1, by unfold frN; omega, ?_, a3⟩
  intro hc
  have heq : frN L S = 1 + L.length := by
    rcases Nat.lt_or_ge (frN L S) (1 + L.length) with h | h
    · exact absurd hc (a4 h)
    · unfold frN at h ⊢; omega
  have h := php ((List.range (L.length + 1)).map fun k => cand S (k + 1)) L (by
    unfold List.Nodup
    rw [List.pairwise_map]
    refine List.nodup_range.imp_of_mem fun {a b} ha hb hab e => hab ?_
    rw [List.mem_range] at ha hb
    have := cand_inj (by omega) (by omega) e
    omega) (fun x hx => by
    obtain ⟨k, hk, rfl⟩ := List.mem_map.1 hx
    rw [List.mem_range] at hk
    by_cases e : k + 1 = frN L S
    · rw [e]; exact hc
    · exact a3 (k + 1) (by omega) (by show k + 1 < frN L S; omega))
  rw [List.length_map, List.length_range] at h
  omega
theorem FrN.eq {L : List ByteArray} {S : ByteArray} {n m : Nat} (h : FrN L S n) (k : FrN L S m) : n = m := by
  rcases Nat.lt_trichotomy n m with h1 | h1 | h1
  · exact absurd (k.all n h.pos h1) h.not_
  · exact h1
  · exact absurd (h.all m k.pos h1) k.not_
/-- The new name. -/
def fr (L : List ByteArray) (S : ByteArray) : ByteArray := cand S (frN L S)
/-- A table's names. -/
structure Okn (L : List ByteArray) : Prop where
  nd : L.Nodup
  ok : ∀ S ∈ L, okB S = true
theorem Okn.nil_ : Okn [] := ⟨List.nodup_nil, by simp⟩
theorem Okn.snoc {L : List ByteArray} (h : Okn L) {S : ByteArray} (hS : okB S = true) (hn : S ∉ L) : Okn (L ++ [S]) :=
  ⟨List.nodup_append.2 ⟨h.nd, by simp, fun a ha b hb e => by
    simp only [List.mem_singleton] at hb
    subst hb; subst e; exact hn ha⟩,
   fun T hT => by
    rcases List.mem_append.1 hT with h1 | h1
    · exact h.ok T h1
    · simp only [List.mem_singleton] at h1; subst h1; exact hS⟩
theorem fr_not {L : List ByteArray} (S : ByteArray) (hL : L.length ≤ 998) : fr L S ∉ L := (frN_spec S hL).not_
theorem fr_ok {L : List ByteArray} {S : ByteArray} (hS : okB S = true) (hL : L.length ≤ 998) : okB (fr L S) = true := cand_ok hS (by have := (frN_spec S hL).le; omega)
/-- A step as it is handed in. -/
structure Opv where
  kind : Int
  name : ByteArray
def Opv.val (o : Opv) : Value := .agg #[.int .i64 o.kind, .string o.name]
def numM (L : List ByteArray) (S : ByteArray) : List ByteArray := if okB S = true then (if S ∈ L then L else L ++ [S]) else L
def frM (L : List ByteArray) (S : ByteArray) : List ByteArray := if okB S = true then L ++ [fr L S] else L
/-- What a step makes of the names. -/
def opM (L : List ByteArray) (o : Opv) : List ByteArray := if o.kind = 0 then numM L o.name else if o.kind = 1 then frM L o.name else L
theorem numM_len (L : List ByteArray) (S : ByteArray) : (numM L S).length ≤ L.length + 1 := by unfold numM; split <;> (try split) <;> simp
theorem Okn.num {L : List ByteArray} (h : Okn L) (S : ByteArray) : Okn (numM L S) := by
  unfold numM
  split
  · rename_i h1
    split
    · exact h
    · rename_i h2; exact h.snoc h1 h2
  · exact h
theorem Okn.fr {L : List ByteArray} (h : Okn L) (S : ByteArray) (hL : L.length ≤ 998) : Okn (frM L S) := by
  unfold frM
  split
  · rename_i h1; exact h.snoc (fr_ok h1 hL) (fr_not S hL)
  · exact h
theorem Okn.op {L : List ByteArray} (h : Okn L) (o : Opv) (hL : L.length ≤ 998) : Okn (opM L o) := by
  unfold opM
  split
  · exact h.num _
  · split
    · exact h.fr _ hL
    · exact h
end Go.Proofs.YthjjgpepgbfalaaGreatDoor.Sy
end
section
/-! A map from names to their numbers, in memory: looked up, stored. -/
set_option maxRecDepth 20000
namespace Go.Proofs.YthjjgpepgbfalaaGreatDoor.Sy
open Go.RowKit Go.Maps Go.MapKept
open Go.WideElems (rd rg pl rd_key rd_val rg_of rd_mk)
open Go.ChangeMaps (notKey putKey delKey setBlock heap_setBlock_same heap_setBlock_other mem_insert_iff)
open Go.WideShapes (sorted_perm)

/-- All but block g lies as it lay. -/
structure Only (g : Nat) (w w' : World) : Prop where
  os : w'.os = w.os
  tape : w'.tape = w.tape
  output : w'.output = w.output
  size : w.heap.size ≤ w'.heap.size
  block : ∀ k, k < w.heap.size → k ≠ g → w'.heap[k]? = w.heap[k]?
/-- How a number reads, in a map. -/
def numR (v : Value) : Option (DataW Unit × List MemPlace) :=
  match v with
  | .int k x => some (.lit (.int k x), [])
  | _ => none
theorem numR_mk (x : Int) : numR (.int .i64 x) = some (.lit (.int .i64 x), []) := rfl
theorem keyedS : Keyed Tryz.prog 9 := string_keyed Tryz.underlying9
theorem keyS {S : ByteArray} (h : S.size ≤ 140737488355328) : keyOf Tryz.prog 9 (.string S) = some (.string S.data.toList) := WideMaps.keyOf_string_mk Tryz.underlying9 (by unfold maxLen; exact Nat.le_trans h (by decide))
/-- A name's number, 0. -/
def numI (L : List ByteArray) (S : ByteArray) : Int := if S ∈ L then (atN L S : Int) else 0
/-- Block b is a map of these names' numbers. -/
structure Frm (w : World) (b : Nat) (es : Array MapEntry) (clock : Nat) (L : List ByteArray) : Prop where
  hb : w.heap[b]? = some (.map es clock)
  fit : WideElems.Fit Tryz.prog 9 numR es clock
  only : ∀ x ∈ es.toList, ∃ (S : ByteArray), S ∈ L ∧ x.key = .string S ∧ x.val = .int .i64 (atN L S : Int)
  all : ∀ S ∈ L, ∃ x ∈ es.toList, x.key = .string S
def Frs (w : World) (b : Nat) (L : List ByteArray) : Prop := ∃ es clock, Frm w b es clock L
theorem Frm.nodup {w : World} {b : Nat} {es : Array MapEntry} {clock : Nat} {L : List ByteArray} (h : Frm w b es clock L) : es.toList.Pairwise (fun x y => x.key ≠ y.key) := ((stamped_iff es clock).1 h.fit.stamped).2.2
def keyN (x : MapEntry) : ByteArray := match x.key with | .string S => S | _ => ⟨#[]⟩
theorem Frm.size {w : World} {b : Nat} {es : Array MapEntry} {clock : Nat} {L : List ByteArray} (h : Frm w b es clock L) : es.size ≤ L.length := by
  have hk : ∀ x ∈ es.toList, x.key = .string (keyN x) ∧ keyN x ∈ L := fun x hx => by
    obtain ⟨S, hS, e, _⟩ := h.only x hx
    unfold keyN
    rw [e]; exact ⟨rfl, hS⟩
  have := php (es.toList.map keyN) L (by
    unfold List.Nodup
    rw [List.pairwise_map]
    exact h.nodup.imp_of_mem fun {a b} ha hb hab e => hab (by rw [(hk a ha).1, (hk b hb).1, e])) (fun S hS => by
    obtain ⟨x, hx, rfl⟩ := List.mem_map.1 hS
    exact (hk x hx).2)
  simpa using this
section
variable {w w' : World} {b : Nat} {L : List ByteArray}
theorem Frs.lt (h : Frs w b L) : b < w.heap.size := by
  obtain ⟨es, clock, h⟩ := h
  exact (Array.getElem?_eq_some_iff.1 h.hb).1
theorem Frs.same (h : Frs w b L) (hb : w'.heap[b]? = w.heap[b]?) : Frs w' b L := by
  obtain ⟨es, clock, h⟩ := h
  exact ⟨es, clock, hb.trans h.hb, h.fit, h.only, h.all⟩
theorem Frs.isMap (h : Frs w b L) : ∃ es c, w.heap[b]? = some (.map es c) := by
  obtain ⟨es, clock, h⟩ := h
  exact ⟨es, clock, h.hb⟩
theorem Frs.made (w : World) : Frs (w.alloc (.map #[] 0)) w.heap.size [] :=
  ⟨#[], 0, (MapKept.heap_alloc w _).1, ⟨by simp, stamped_empty 0, by simp⟩, by simp, fun S h => by cases h⟩
/-- 'm[name]', with 'ok'. -/
theorem Frs.look (h : Frs w b L) (S : ByteArray) (hS : S.size ≤ 140737488355328) :
    (Instr.lookup 53 (.map (some b)) (.string S) true).run Tryz.prog w = .ok (.tuple #[.int .i64 (numI L S), .bool (decide (S ∈ L))]) w := by
  obtain ⟨es, clock, h⟩ := h
  have hz : (zeroValue 3).run Tryz.prog w = .ok (.int .i64 0) w := by rw [Tryz.zeroValue3]
  unfold numI
  rcases fit_look true keyedS Tryz.underlying53 hz h.hb h.fit (keyS hS) with ⟨hrun, hno, _⟩ | ⟨e0, y, he, hk, hrun, _⟩
  · have hn : S ∉ L := fun hm => by
      obtain ⟨e, he, hk⟩ := h.all S hm
      exact absurd hk (hno e he)
    rw [if_neg hn, decide_eq_false hn]; exact hrun
  · obtain ⟨T, hT, hk2, hv⟩ := h.only e0 he
    rw [hk] at hk2
    have hx : S = T := by injection hk2
    subst hx
    rw [if_pos hT, decide_eq_true hT, hrun, hv]; rfl
theorem atN_snoc_old {L : List ByteArray} {S T : ByteArray} (h : T ∈ L) : atN (L ++ [S]) T = atN L T := by
  induction L with
  | nil => cases h
  | cons x r ih =>
    show (if x = T then 0 else atN (r ++ [S]) T + 1) = (if x = T then 0 else atN r T + 1)
    by_cases e : x = T
    · rw [if_pos e, if_pos e]
    · rw [if_neg e, if_neg e]
      rcases List.mem_cons.1 h with h1 | h1
      · exact absurd h1.symm e
      · rw [ih h1]
theorem atN_snoc_new {L : List ByteArray} {S : ByteArray} (h : S ∉ L) : atN (L ++ [S]) S = L.length := by
  induction L with
  | nil => show (if S = S then 0 else 0 + 1) = 0; rw [if_pos rfl]
  | cons x r ih =>
    show (if x = S then 0 else atN (r ++ [S]) S + 1) = r.length + 1
    rw [if_neg (fun e => h (by rw [e]; simp)), ih (fun hm => h (by simp [hm]))]
/-- 'm[name] = its number', of a new name. -/
theorem Frs.store (h : Frs w b L) (S : ByteArray) (hS : S.size ≤ 140737488355328) (hn : S ∉ L) (hl : L.length ≤ 1000000) :
    ∃ w', (Instr.mapUpdate 53 (.map (some b)) (.string S) (.int .i64 (L.length : Int))).run Tryz.prog w = .ok () w' ∧ Frs w' b (L ++ [S]) ∧ Only b w w' := by
  obtain ⟨es, clock, h⟩ := h
  have hkey := keyS hS
  have hroom : es.size < maxLen := by have := h.size; unfold maxLen; omega
  obtain ⟨es', clock', hrun, F', hput, _, _, hwho⟩ := fit_store (R' := numR) keyedS Tryz.underlying53 h.hb h.fit hroom (fun _ _ _ _ hz => hz) hkey (numR_mk (L.length : Int))
  refine ⟨_, hrun, ⟨es', clock', heap_setBlock_same h.hb _, F', ?_, ?_⟩, ⟨rfl, rfl, rfl, by simp [setBlock], fun k _ hk => heap_setBlock_other h.hb _ hk⟩⟩
  · intro x hx
    rcases hwho x hx with ⟨hx1, hne⟩ | ⟨hk, hv⟩
    · obtain ⟨T, hT, hk2, hv2⟩ := h.only x hx1
      exact ⟨T, by simp [hT], hk2, by rw [atN_snoc_old hT]; exact hv2⟩
    · exact ⟨S, by simp, hk, by rw [atN_snoc_new hn]; exact hv⟩
  · have hin : ∀ p, p ∈ putKey (Lit.string S.data.toList) (DataW.lit (.int .i64 (L.length : Int))) ((es.toList.map (rg Tryz.prog 9 numR)).foldr DataW.insert []) → ∃ x ∈ es'.toList, rg Tryz.prog 9 numR x = p := by
      intro p hp
      rw [← hput] at hp
      obtain ⟨x, hx, e⟩ := List.mem_map.1 ((sorted_perm _).mem_iff.1 hp)
      exact ⟨x, hx, e⟩
    have key_of : ∀ x ∈ es'.toList, ∀ kl d, rg Tryz.prog 9 numR x = (kl, d) → keyOf Tryz.prog 9 x.key = some kl := by
      intro x hx kl d e
      obtain ⟨y, hy⟩ := F'.reads x hx
      have h1 := rd_key hy
      rw [rg_of hy] at e
      rw [e] at h1; exact h1
    intro T hT
    by_cases e : T = S
    · subst e
      obtain ⟨x, hx, e⟩ := hin (Lit.string T.data.toList, DataW.lit (.int .i64 (L.length : Int))) (by unfold putKey; exact mem_insert_iff.2 (.inl rfl))
      exact ⟨x, hx, keyedS.inj (key_of x hx _ _ e) hkey⟩
    · have hTL : T ∈ L := by
        rcases List.mem_append.1 hT with h1 | h1
        · exact h1
        · simp only [List.mem_singleton] at h1; exact absurd h1 e
      obtain ⟨x0, hx0, hk0⟩ := h.all T hTL
      obtain ⟨y0, hy0⟩ := h.fit.reads x0 hx0
      have hk1 := rd_key hy0
      have hsz : ∃ s : ByteArray, Value.string T = .string s ∧ y0.1 = .string s.data.toList ∧ s.size ≤ maxLen := by
        rw [hk0] at hk1
        exact WideMaps.string_of_keyOf Tryz.underlying9 hk1
      obtain ⟨s, es1, hk2, _⟩ := hsz
      obtain rfl : T = s := by injection es1
      obtain ⟨x, hx, e3⟩ := hin y0 (by
        unfold putKey
        refine mem_insert_iff.2 (.inr (List.mem_filter.2 ⟨(sorted_perm _).mem_iff.2 (List.mem_map.2 ⟨x0, hx0, rg_of hy0⟩), ?_⟩))
        refine (notKey_iff (keyedS.key hkey)).2 ?_
        rw [hk2]
        intro e4
        injection e4 with e5
        refine e ?_
        cases T; cases S
        have e6 := Array.ext' e5
        simp only at e6
        rw [e6])
      refine ⟨x, hx, keyedS.inj (key_of x hx y0.1 y0.2 e3) ?_⟩
      rw [hk0] at hk1; exact hk1
end
/-- 'm[name] = its number', in the walk. -/
theorem wpList_store_frs (w : World) {ops : Array Oper} {rest : List Oper} {o : Oper} {a : Act} {Q : Exit → Act → World → Prop}
    (hg : o.guard = none) (m x v : Operand) (hop : o.op = Op.mapUpdate 53 m x v) (b : Nat) (L : List ByteArray) (S : ByteArray)
    (hm : a.eval m = .map (some b)) (h : Frs w b L) (hS : S.size ≤ 140737488355328) (hn : S ∉ L) (hl : L.length ≤ 1000000) (hx : a.eval x = .string S) (hv : a.eval v = .int .i64 (L.length : Int))
    (hK : ∀ w', Frs w' b (L ++ [S]) → Only b w w' → wpList Tryz.prog ops Q rest (a.put o.dst undef) w') :
    wpList Tryz.prog ops Q (o :: rest) a w := by
  refine wpList_plain hg fun K' hK' => ?_
  obtain ⟨w', hrun, r1, r2⟩ := h.store S hS hn hl
  unfold Oper.wp
  simp [execOp, hop, hm, hx, hv, hrun, Result.andThen]
  exact hK' _ _ (hK w' r1 r2)
end Go.Proofs.YthjjgpepgbfalaaGreatDoor.Sy
end
