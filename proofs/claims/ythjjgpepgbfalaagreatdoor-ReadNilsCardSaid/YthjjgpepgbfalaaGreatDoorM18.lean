/- Texts GMem to RdQ of this seat, laid into one. -/
import Derived.Laws.Rows
import Derived.WalkSmall
import Derived.Deep.QuietTactic
import Derived.BigQuiet
import Derived.Deep.AppendLies
import Derived.Lib.UnsafeStr
import Derived.Lib.BufferWrite
import Derived.Laws.MakeOwn
import Derived.Deep.Cut
import Derived.Deep.CutBlock
import Derived.Deep.DeepCutAuto
import Derived.Test.YthjjgpepgbfalaaGreatDoorM17
set_option linter.unusedVariables false
set_option linter.unusedSimpArgs false
set_option linter.constructorNameAsVariable false
section
/-! A table in memory, a row of names beside it; what a call on them may change. -/
set_option linter.unusedSimpArgs false
set_option maxRecDepth 20000
namespace Go.Proofs.YthjjgpepgbfalaaGreatDoor.Sy
open Go.RowKit

/-- What a call may change: these blocks. -/
structure Chg (F F' : List Nat) (w w' : World) : Prop where
  os : w'.os = w.os
  tape : w'.tape = w.tape
  output : w'.output = w.output
  size : w.heap.size ≤ w'.heap.size
  block : ∀ k, k < w.heap.size → k ∉ F → w'.heap[k]? = w.heap[k]?
  fresh : ∀ k ∈ F', k ∈ F ∨ w.heap.size ≤ k
theorem Chg.refl (F : List Nat) (w : World) : Chg F F w w := ⟨rfl, rfl, rfl, Nat.le_refl _, fun _ _ _ => rfl, fun _ h => .inl h⟩
theorem Chg.trans {F F' F2 : List Nat} {a b c : World} (h : Chg F F' a b) (k : Chg F' F2 b c) : Chg F F2 a c :=
  ⟨k.os.trans h.os, k.tape.trans h.tape, k.output.trans h.output, Nat.le_trans h.size k.size,
   fun i hi hF => (k.block i (Nat.lt_of_lt_of_le hi h.size) (fun e => (h.fresh i e).elim hF (fun h2 => by omega))).trans (h.block i hi hF),
   fun i hi => (k.fresh i hi).elim (fun e => h.fresh i e) (fun e => .inr (Nat.le_trans h.size e))⟩
theorem Chg.of_below {F : List Nat} {w w' : World} (h : Below w.heap.size w w') : Chg F F w w' := ⟨h.os, h.tape, h.output, h.size, fun k hk _ => h.block k hk, fun _ h => .inl h⟩
theorem Chg.below {F F' : List Nat} {B : Nat} {a w w' : World} (h : Chg F F' w w') (hb : Below B a w) (hB : B ≤ w.heap.size) (hF : ∀ k ∈ F, B ≤ k) : Below B a w' :=
  hb.trans ⟨h.os, h.tape, h.output, h.size, fun k hk => h.block k (by omega) (fun e => by have := hF k e; omega)⟩
theorem Chg.high {F F' : List Nat} {B : Nat} {w w' : World} (h : Chg F F' w w') (hB : B ≤ w.heap.size) (hF : ∀ k ∈ F, B ≤ k) : ∀ k ∈ F', B ≤ k := fun k hk => (h.fresh k hk).elim (hF k) (fun e => by omega)
theorem Chg.drew {F F' : List Nat} {w w' : World} (h : Chg F F' w w') : Chg F F' w w'.drew := ⟨h.os, h.tape, h.output, h.size, h.block, h.fresh⟩
theorem Chg.left {F F' : List Nat} {w w' : World} (h : Chg F F' w w') (G : List Nat) : Chg (F ++ G) (F' ++ G) w w' :=
  ⟨h.os, h.tape, h.output, h.size, fun k hk hn => h.block k hk (fun e => hn (List.mem_append.2 (.inl e))), fun k hk => (List.mem_append.1 hk).elim (fun e => (h.fresh k e).imp (fun e => List.mem_append.2 (.inl e)) id) (fun e => .inl (List.mem_append.2 (.inr e)))⟩
theorem Chg.right {G G' : List Nat} {w w' : World} (h : Chg G G' w w') (F : List Nat) : Chg (F ++ G) (F ++ G') w w' :=
  ⟨h.os, h.tape, h.output, h.size, fun k hk hn => h.block k hk (fun e => hn (List.mem_append.2 (.inr e))), fun k hk => (List.mem_append.1 hk).elim (fun e => .inl (List.mem_append.2 (.inl e))) (fun e => (h.fresh k e).imp (fun e => List.mem_append.2 (.inr e)) id)⟩
theorem base0 {w : World} {base E m n : Nat} {v : Value} {xs : List Value} (h : w.ownsRow base E m v n xs) : w.ownsRow 0 E m v n xs := by
  refine ⟨h.1, ?_⟩
  rcases h.2 with h2 | ⟨g, cap, cur, e, hb, hg, hr⟩
  · exact .inl h2
  · exact .inr ⟨g, cap, cur, e, Nat.zero_le _, hg, hr⟩
theorem own_form {w : World} {base E m n : Nat} {v : Value} {xs : List Value} (h : w.ownsRow base E m v n xs) : ∃ (q : Option Addr) (c : Nat), v = .slice q n c := by
  rcases h.2 with ⟨rfl, hx⟩ | ⟨g, cap, cur, e, _⟩
  · have := h.1
    subst hx
    exact ⟨none, 0, rfl⟩
  · exact ⟨_, _, e⟩
theorem own_some {w : World} {base E m n : Nat} {v : Value} {xs : List Value} (h : w.ownsRow base E m v n xs) (hn : 0 < n) : ∃ (g c : Nat), v = .slice (some ⟨g, 0, none⟩) n c ∧ n ≤ c := by
  rcases h.2 with ⟨rfl, hx⟩ | ⟨g, cap, cur, e, _, _, hc, _⟩
  · exact absurd hx (by omega)
  · exact ⟨g, cap, e, hc⟩
theorem own_head {w : World} {base E m n : Nat} {v : Value} {xs : List Value} {g : Nat} (h : w.ownsRow base E m v n xs) (hg : v.ownBlock = some g) : ∃ cur, w.heap[g]? = some (.cells cur E (0, 0)) := by
  rcases h.2 with ⟨rfl, _⟩ | ⟨g', cap, cur, rfl, _, hh, _⟩
  · simp [Value.ownBlock] at hg
  · simp [Value.ownBlock] at hg
    subst hg
    exact ⟨cur, hh⟩
theorem own_other {w w' : World} {base E m n : Nat} {v : Value} {xs : List Value} (h : w.ownsRow base E m v n xs) (hb : ∀ g, v.ownBlock = some g → w'.heap[g]? = w.heap[g]?) : w'.ownsRow base E m v n xs := by
  refine ⟨h.1, ?_⟩
  rcases h.2 with h2 | ⟨g, cap, cur, rfl, hb2, hg, hr⟩
  · exact .inl h2
  · exact .inr ⟨g, cap, cur, rfl, hb2, (hb g rfl).trans hg, hr⟩
theorem lt_block {w : World} {g : Nat} {o : Obj} (h : w.heap[g]? = some o) : g < w.heap.size := (Array.getElem?_eq_some_iff.1 h).1

/-- The names, as values. -/
def strs (L : List ByteArray) : List Value := L.map Value.string
theorem strs_get (L : List ByteArray) (i : Nat) (S : ByteArray) (h : L[i]? = some S) : (strs L)[i]? = some (.string S) := by unfold strs; rw [List.getElem?_map, h]; rfl
theorem strs_snoc (L : List ByteArray) (S : ByteArray) : strs (L ++ [S]) = strs L ++ [.string S] := by unfold strs; simp
theorem info9 : (Tryz.prog.info? 9).map (fun i => (i.zero, i.size, i.bytes)) = some (some (.string ⟨#[]⟩), 1, 16) := by kernel_rfl
/-- A value that reads as this row of names. -/
def Rf (w : World) (v : Value) (L : List ByteArray) : Prop := w.ownsRow 0 9 1 v L.length (strs L)
theorem Rf.below {w w' : World} {v : Value} {L : List ByteArray} (h : Rf w v L) (hb : Below w.heap.size w w') : Rf w' v L := own_below h hb
theorem Rf.other {w w' : World} {v : Value} {L : List ByteArray} (h : Rf w v L) (hb : ∀ g, v.ownBlock = some g → w'.heap[g]? = w.heap[g]?) : Rf w' v L := own_other h hb
theorem Rf.form {w : World} {v : Value} {L : List ByteArray} (h : Rf w v L) : ∃ q c, v = .slice q L.length c := own_form h
theorem Rf.nil_ (w : World) : Rf w (.slice none 0 0) [] := World.ownsRow_nil _ _ _ _
theorem Rf.lt {w : World} {v : Value} {L : List ByteArray} (h : Rf w v L) : ∀ g, v.ownBlock = some g → g < w.heap.size := fun g hg => by
  obtain ⟨cur, hc⟩ := own_head h hg; exact lt_block hc
theorem Rf.at {w : World} {v : Value} {L : List ByteArray} (h : Rf w v L) {k : Nat} {S : ByteArray} (hk : L[k]? = some S) : ∃ b c, v = .slice (some ⟨b, 0, none⟩) L.length c ∧ L.length ≤ c ∧ w.cell? ⟨b, k, none⟩ = some (.string S) := by
  have hlt : k < L.length := (List.getElem?_eq_some_iff.1 hk).1
  obtain ⟨b, c, e, hc⟩ := own_some h (by omega)
  subst e
  have hr : w.ownsRow 0 9 1 (.slice (some ⟨b, 0, none⟩) L.length c) L.length (strs L) := h
  have a1 := hr.cellAt k (by omega)
  rw [strs_get L k S hk] at a1
  exact ⟨b, c, rfl, hc, a1⟩
/-- Block g holds a table. -/
structure Tb0 (w : World) (g : Nat) (v : Value) (mb : Nat) (L : List ByteArray) : Prop where
  hd : w.heap[g]? = some (.cells #[v, .map (some mb)] 55 (0, 0))
  row : Rf w v L
  map : Frs w mb L
  ok : Okn L
def foot (g : Nat) (v : Value) (mb : Nat) : List Nat := g :: mb :: v.ownBlock.toList
/-- Block g holds a table; F are its blocks. -/
def Tb (w : World) (g : Nat) (F : List Nat) (L : List ByteArray) : Prop := ∃ v mb, Tb0 w g v mb L ∧ F = foot g v mb
theorem ne_of_ty {w : World} {a b : Nat} {cs ds : Array Value} {t u : Nat} {fr fs : Nat × Nat} (h : w.heap[a]? = some (.cells cs t fr)) (k : w.heap[b]? = some (.cells ds u fs)) (ht : t ≠ u) : a ≠ b := by
  rintro rfl
  rw [h] at k
  cases k
  exact ht rfl
theorem ne_of_map {w : World} {a b : Nat} {cs : Array Value} {t : Nat} {fr : Nat × Nat} {es : Array MapEntry} {c : Nat} (h : w.heap[a]? = some (.cells cs t fr)) (k : w.heap[b]? = some (.map es c)) : a ≠ b := by
  rintro rfl
  rw [h] at k
  cases k
section
variable {w w' : World} {g mb : Nat} {v : Value} {L : List ByteArray}
theorem Tb0.lt (h : Tb0 w g v mb L) : g < w.heap.size := lt_block h.hd
theorem Tb0.c0 (h : Tb0 w g v mb L) : w.cell? ⟨g, 0, none⟩ = some v := by rw [cell_of_row w g 0 _ _ _ h.hd]; rfl
theorem Tb0.c1 (h : Tb0 w g v mb L) : w.cell? ⟨g, 1, none⟩ = some (.map (some mb)) := by rw [cell_of_row w g 1 _ _ _ h.hd]; rfl
theorem Tb0.fz (h : Tb0 w g v mb L) : w.frozen? ⟨g, 0, none⟩ = false := frozen_of_row w g 0 _ _ h.hd
theorem Tb0.form (h : Tb0 w g v mb L) : ∃ q c, v = .slice q L.length c := h.row.form
theorem Tb0.ne (h : Tb0 w g v mb L) : ∀ k, v.ownBlock = some k → g ≠ k := fun k hk => by obtain ⟨cur, hc⟩ := own_head h.row hk; exact ne_of_ty h.hd hc (by decide)
theorem Tb0.nem (h : Tb0 w g v mb L) : g ≠ mb := by obtain ⟨es, c, hm⟩ := h.map.isMap; exact ne_of_map h.hd hm
theorem Tb0.nev (h : Tb0 w g v mb L) : ∀ k, v.ownBlock = some k → k ≠ mb := fun k hk => by
  obtain ⟨cur, hc⟩ := own_head h.row hk
  obtain ⟨es, c, hm⟩ := h.map.isMap; exact ne_of_map hc hm
theorem Tb0.lts (h : Tb0 w g v mb L) : ∀ k ∈ foot g v mb, k < w.heap.size := by
  intro k hk
  unfold foot at hk
  simp only [List.mem_cons, Option.mem_toList] at hk
  rcases hk with rfl | rfl | hk
  · exact h.lt
  · exact h.map.lt
  · exact h.row.lt k hk
theorem Tb0.tb (h : Tb0 w g v mb L) : Tb w g (foot g v mb) L := ⟨_, _, h, rfl⟩
theorem Tb0.same (h : Tb0 w g v mb L) (hs : ∀ k ∈ foot g v mb, w'.heap[k]? = w.heap[k]?) : Tb0 w' g v mb L :=
  ⟨(hs g (by simp [foot])).trans h.hd, h.row.other (fun k hk => hs k (by simp [foot, hk])), h.map.same (hs mb (by simp [foot])), h.ok⟩
theorem Tb0.stay {F F' : List Nat} (h : Tb0 w g v mb L) (hc : Chg F F' w w') (hF : ∀ k ∈ foot g v mb, k ∉ F) : Tb0 w' g v mb L := h.same (fun k hk => hc.block k (h.lts k hk) (hF k hk))
theorem Tb0.below (h : Tb0 w g v mb L) (hb : Below w.heap.size w w') : Tb0 w' g v mb L := h.same (fun k hk => hb.block k (h.lts k hk))
end
section
variable {w w' : World} {g : Nat} {F : List Nat} {L : List ByteArray}
theorem Tb.ok (h : Tb w g F L) : Okn L := by obtain ⟨v, mb, h, _⟩ := h; exact h.ok
theorem Tb.lt (h : Tb w g F L) : ∀ k ∈ F, k < w.heap.size := by obtain ⟨v, mb, h, rfl⟩ := h; exact h.lts
theorem Tb.stay {F1 F' : List Nat} (h : Tb w g F L) (hc : Chg F1 F' w w') (hF : ∀ k ∈ F, k ∉ F1) : Tb w' g F L := by
  obtain ⟨v, mb, h, rfl⟩ := h
  exact ⟨v, mb, h.stay hc hF, rfl⟩
theorem Tb.below (h : Tb w g F L) (hb : Below w.heap.size w w') : Tb w' g F L := by
  obtain ⟨v, mb, h, rfl⟩ := h
  exact ⟨v, mb, h.below hb, rfl⟩
end
/-- What a call makes of a table. -/
def Went (F : List Nat) (g : Nat) (L : List ByteArray) (w w' : World) : Prop := ∃ F', Tb w' g F' L ∧ Chg F F' w w'
theorem Went.refl {w : World} {F : List Nat} {g : Nat} {L : List ByteArray} (h : Tb w g F L) : Went F g L w w := ⟨F, h, Chg.refl _ _⟩
theorem Went.below {w w' : World} {F : List Nat} {g : Nat} {L : List ByteArray} (h : Tb w g F L) (hb : Below w.heap.size w w') : Went F g L w w' := ⟨F, h.below hb, Chg.of_below hb⟩
theorem Went.pre {w w1 w' : World} {F : List Nat} {g : Nat} {L : List ByteArray} (hb : Below w.heap.size w w1) (h : Went F g L w1 w') : Went F g L w w' := by
  obtain ⟨F', h1, h2⟩ := h
  exact ⟨F', h1, (Chg.of_below hb).trans h2⟩
end Go.Proofs.YthjjgpepgbfalaaGreatDoor.Sy
end
section
/-! May a text be a name? -/
set_option linter.unusedSimpArgs false
set_option maxRecDepth 20000
namespace Go.Proofs.YthjjgpepgbfalaaGreatDoor.Sy
open Go.RowKit

theorem okB_false {S : ByteArray} {i : Nat} (hi : i < S.size) (h : byteAt S i < 33 ∨ 126 < byteAt S i) : okB S = false := by
  cases e : okB S with
  | false => rfl
  | true => have := ((okB_iff S).1 e).2.2 i hi; omega
theorem okB_empty : okB ⟨#[]⟩ = false := by decide
theorem okB_long {S : ByteArray} (h : 32 < S.size) : okB S = false := by
  cases e : okB S with
  | false => rfl
  | true => have := ((okB_iff S).1 e).2.1; omega
theorem empty_of {S : ByteArray} (h : S.size = 0) : S = ⟨#[]⟩ := by apply ByteArray.ext; exact Array.eq_empty_of_size_eq_zero h
theorem isEmpty_false {S : ByteArray} (h : 0 < S.size) : S.toList.isEmpty = false := by
  cases e : S.toList.isEmpty with
  | false => rfl
  | true =>
    have h1 := List.isEmpty_iff.1 e
    rw [ByteArray.toList_eq] at h1
    have : S.size = 0 := by rw [← nums_len]; unfold nums; rw [h1]; rfl
    omega
set_option maxHeartbeats 800000 in
theorem may_any (S : ByteArray) (w : World) : Calls Tryz.prog 71 #[.string S] w fun e w' => e = .returned (.bool (okB S)) ∧ w = w' := by
  rcases Nat.eq_zero_or_pos S.size with h0 | h0
  · rw [empty_of h0, okB_empty]
    go_enter Tryz.func71, Tryz.ntmps71
    go_wp2_with fail
    go_ret
    exact ⟨rfl, rfl⟩
  · have he : S.toList.isEmpty = false := isEmpty_false h0
    by_cases hL : 32 < S.size
    · rw [okB_long hL]
      have hd : decide ((32 : Int) < (S.size : Int)) = true := by simp; omega
      go_enter Tryz.func71, Tryz.ntmps71
      go_wp2_with fail
      go_ret
      exact ⟨rfl, rfl⟩
    · have hd : decide ((32 : Int) < (S.size : Int)) = false := by simp; omega
      have HOK := Lib.hid (okB_iff S)
      have HIX : Hid (∀ i, i < S.size → ∀ w, (Instr.index 9 (.string S) (.int .i64 (i : Int))).run Tryz.prog w = .ok (.int .u8 (byteAt S i : Int)) w) := Lib.hid (fun i hi w => index_any S i hi w)
      have HF : Hid (∀ i, i < S.size → (byteAt S i < 33 ∨ 126 < byteAt S i) → okB S = false) := Lib.hid (fun i hi h => okB_false hi h)
      obtain ⟨n, HN⟩ : ∃ n, Hid (S.size = n) := ⟨_, Lib.hid rfl⟩
      rw [HN.out] at hd HIX HF h0 hL HOK
      have hn := HN.out
      go_enter Tryz.func71, Tryz.ntmps71
      go_wp2_with fail
      go_loop [3, 13] (fun _ iv => ∃ i : Nat, i ≤ n ∧ iv = .int .i64 (i : Int) ∧ Hid (∀ j, j < i → 33 ≤ byteAt S j ∧ byteAt S j ≤ 126)) (fun _ iv => n - (RowKit.intOf iv).toNat)
      case atStart => exact ⟨0, by omega, by go_num, Lib.hid (fun j hj => absurd hj (Nat.not_lt_zero j))⟩
      case round =>
        obtain ⟨i, hi, rfl, HJ⟩ := hrel
        by_cases hlt : i < n
        · have hix := HIX.out i hlt
          have hF := HF.out i hlt
          obtain ⟨x, HX⟩ : ∃ x, Hid (byteAt S i = x) := ⟨_, Lib.hid rfl⟩
          rw [HX.out] at hix hF
          have HFI := Lib.hid hF
          have hd1 : decide ((i : Int) < (n : Int)) = true := by simp; omega
          by_cases h1 : x < 33
          · have hd2 : decide ((x : Int) < 33) = true := by simp; omega
            clear hF
            go_wp2_with fail
            go_ret
            rw [HFI.out (.inl h1)]
            exact ⟨rfl, rfl⟩
          · have hd2 : decide ((x : Int) < 33) = false := by simp; omega
            by_cases h2 : 126 < x
            · have hd3 : decide ((126 : Int) < (x : Int)) = true := by simp; omega
              clear hF
              go_wp2_with fail
              go_ret
              rw [HFI.out (.inr h2)]
              exact ⟨rfl, rfl⟩
            · have hd3 : decide ((126 : Int) < (x : Int)) = false := by simp; omega
              clear hF
              go_wp2_with fail
              go_round
              case rel => exact ⟨i + 1, by omega, by go_num, Lib.hid (fun j hj => (Nat.lt_succ_iff_lt_or_eq.1 hj).elim (HJ.out j) (fun e => by rw [e, HX.out]; omega))⟩
              case measure => simp [RowKit.intOf]; omega
        · obtain rfl : i = n := by omega
          go_wp2_with fail
          go_ret
          rw [HOK.out.2 ⟨h0, by omega, HJ.out⟩]
          exact ⟨rfl, rfl⟩
end Go.Proofs.YthjjgpepgbfalaaGreatDoor.Sy
end
section
/-! The small calls: New, Len, Find, Name, full, Less; of none. -/
set_option linter.unusedSimpArgs false
set_option maxRecDepth 20000
namespace Go.Proofs.YthjjgpepgbfalaaGreatDoor.Sy
open Go.RowKit

/-- The name by its number, empty. -/
def nameM (L : List ByteArray) (i : Int) : ByteArray := if 0 ≤ i then (L[i.toNat]?).getD ⟨#[]⟩ else ⟨#[]⟩
theorem new_any (w : World) : Calls Tryz.prog 9 #[] w fun e w' => ∃ g F, e = .returned (.pointer (some ⟨g, 0, none⟩)) ∧ Tb w' g F [] ∧ (∀ k ∈ F, w.heap.size ≤ k) ∧ Below w.heap.size w w' := by
  have hmm := @run_makeMap Tryz.prog
  go_enter Tryz.func9, Tryz.ntmps9
  go_wp2_with fail
  go_ret
  refine ⟨_, foot (w.heap.size + 1) (.slice none 0 0) w.heap.size, rfl, ⟨_, w.heap.size, ⟨?_, Rf.nil_ _, ?_, Okn.nil_⟩, rfl⟩, ?_, ((Below.refl _ _).alloc (Nat.le_refl _) _).alloc (by simp) _⟩
  · have h1 := heap_alloc_new (w.alloc (.map #[] 0)) (.cells #[.slice none 0 0, .map (some w.heap.size)] 55)
    rwa [show (w.alloc (.map #[] 0)).heap.size = w.heap.size + 1 by simp] at h1
  · exact (Frs.made w).same (Below.heap_alloc _ _ _ (by simp))
  · intro k hk
    simp [foot, Value.ownBlock] at hk
    omega
section
variable {w : World} {g : Nat} {F : List Nat} {L : List ByteArray}
theorem len_any (h : Tb w g F L) : Calls Tryz.prog 15 #[.pointer (some ⟨g, 0, none⟩)] w fun e w' => e = .returned (.int .i64 (L.length : Int)) ∧ w = w' := by
  obtain ⟨v, mb, h, rfl⟩ := h
  have c0 := h.c0
  obtain ⟨q, c, rfl⟩ := h.form
  clear h
  go_enter Tryz.func15, Tryz.ntmps15
  go_wp2_with fail
  go_ret
  exact ⟨rfl, rfl⟩
theorem full_any (h : Tb w g F L) (hl : L.length ≤ 16383) : Calls Tryz.prog 72 #[.pointer (some ⟨g, 0, none⟩)] w fun e w' => e = .returned (.bool false) ∧ w = w' := by
  obtain ⟨v, mb, h, rfl⟩ := h
  have c0 := h.c0
  obtain ⟨q, c, rfl⟩ := h.form
  clear h
  have hd : decide ((16384 : Int) ≤ (L.length : Int)) = false := by simp; omega
  go_enter Tryz.func72, Tryz.ntmps72
  go_wp2_with fail
  go_ret
  exact ⟨rfl, rfl⟩
theorem find_any (h : Tb w g F L) (S : ByteArray) (hS : S.size ≤ 140737488355328) : Calls Tryz.prog 47 #[.pointer (some ⟨g, 0, none⟩), .string S] w fun e w' => e = .returned (.tuple #[.int .i64 (numI L S), .bool (decide (S ∈ L))]) ∧ w = w' := by
  obtain ⟨v, mb, h, rfl⟩ := h
  have c1 := h.c1
  have hlk := h.map.look S hS
  clear h
  generalize numI L S = x at *
  generalize decide (S ∈ L) = y at *
  go_enter Tryz.func47, Tryz.ntmps47
  go_wp2_with fail
  go_ret2
  exact ⟨rfl, rfl⟩
theorem name_any (h : Tb w g F L) (i : Int) : Calls Tryz.prog 16 #[.pointer (some ⟨g, 0, none⟩), .int .i64 i] w fun e w' => e = .returned (.string (nameM L i)) ∧ w = w' := by
  have HLEN := Lib.hid (len_any h)
  by_cases h0 : i < 0
  · have hd : decide (i < 0) = true := by simpa using h0
    rw [show nameM L i = ⟨#[]⟩ by unfold nameM; rw [if_neg (by omega)]]
    clear h
    go_enter Tryz.func16, Tryz.ntmps16
    go_wp2_with fail
    go_ret
    exact ⟨rfl, rfl⟩
  · have hd : decide (i < 0) = false := by simpa using h0
    obtain ⟨k, rfl⟩ : ∃ k : Nat, i = (k : Int) := ⟨i.toNat, by omega⟩
    have hnm : nameM L (k : Int) = (L[k]?).getD ⟨#[]⟩ := by unfold nameM; rw [if_pos (by omega), Int.toNat_natCast]
    rw [hnm]
    clear hnm h0
    cases hk : L[k]? with
    | none =>
      have hle : L.length ≤ k := List.getElem?_eq_none_iff.1 hk
      have hd2 : decide ((L.length : Int) ≤ (k : Int)) = true := by simp; omega
      clear h hk
      go_enter Tryz.func16, Tryz.ntmps16
      go_wp2_with (refine HLEN.out.mono ?_; rintro e w1 ⟨rfl, rfl⟩)
      go_ret
      exact ⟨rfl, rfl⟩
    | some S =>
      have hlt : k < L.length := (List.getElem?_eq_some_iff.1 hk).1
      have hd2 : decide ((L.length : Int) ≤ (k : Int)) = false := by simp; omega
      obtain ⟨v, mb, h, rfl⟩ := h
      have c0 := h.c0
      obtain ⟨b, c, rfl, hc, hcell⟩ := h.row.at hk
      clear h hk
      have hki : (k : Int) < (L.length : Int) := by omega
      go_enter Tryz.func16, Tryz.ntmps16
      go_wp2_with (refine HLEN.out.mono ?_; rintro e w1 ⟨rfl, rfl⟩)
      go_ret
      exact ⟨rfl, rfl⟩
end
end Go.Proofs.YthjjgpepgbfalaaGreatDoor.Sy
end
section
/-! A copy of a string. -/
set_option linter.unusedSimpArgs false
set_option maxRecDepth 20000
namespace Go.Proofs.YthjjgpepgbfalaaGreatDoor.Sy
open Go.RowKit

set_option maxHeartbeats 1600000 in
theorem sclone_in (s : ByteArray) (w : World) (h0 : 0 < s.size) (hlim : s.size ≤ 140737488355328) : Calls Tryz.prog 102 #[.string s] w fun e w' => e = .returned (.string s) ∧ Below w.heap.size w w' := by
  obtain ⟨i0, hi, hz0, hz1, hz2⟩ := info_parts Tryz.info5
  have hinfo : (Tryz.prog.info? 5).map (·.size) = some 1 := by rw [hi]; simp [hz1]
  have hco : Tryz.prog.cellsOf 5 = 1 := by simp [Program.cellsOf, hi, hz1]
  obtain ⟨M, hM⟩ : ∃ M, M = madeCells (Value.int .u8 0).cells (((s.size : Nat) : Int).toNat * i0.size) := ⟨_, rfl⟩
  have hMs : M.size = s.size := by rw [hM, size_madeCells, hz1]; simp
  have hmk : ∀ W : World, (Instr.makeSlice 101 (.int .i64 (s.size : Int)) (.int .i64 (s.size : Int))).run Tryz.prog W = .ok (.slice (some ⟨W.heap.size, 0, none⟩) s.size s.size) (W.alloc (.cells M 5)) := fun W => by
    have h := run_make (P := Tryz.prog) W 101 5 i0 (.int .u8 0) Tryz.underlying101 hi hz0 .i64 .i64 (s.size : Int) (s.size : Int) (by omega) (by omega) (by rw [hz2]; omega) (by omega)
    rw [← hM] at h
    simpa using h
  have hcp := Lib.run_copy_row_string (P := Tryz.prog) (w.alloc (.cells M 5)) 101 9 3 5 w.heap.size 0 s.size s.size s M 5 Tryz.underlying101 hinfo (heap_alloc_new w _) (Nat.le_refl _) (by omega)
  obtain ⟨Y, hY⟩ : ∃ Y, Y = (M.toList.take 0 ++ Lib.byteCells s.data.toList ++ M.toList.drop (0 + s.size)).toArray := ⟨_, rfl⟩
  rw [← hY] at hcp
  have hYl : Y.toList = Lib.byteCells s.data.toList := by
    rw [hY, List.toList_toArray, List.take_zero, List.nil_append, List.drop_of_length_le (by rw [Array.length_toList]; omega), List.append_nil]
  have hYs : Y.size = s.size := by rw [← Array.length_toList, hYl, Lib.byteCells_length, ← Lib.size_eq]
  have hgY : ((w.alloc (.cells M 5)).setRow w.heap.size Y).heap[w.heap.size]? = some (.cells Y 5 (0, 0)) := setRow_heap _ _ M _ 5 (0, 0) (heap_alloc_new w _)
  have hne : s.data.toList ≠ [] := fun e => by have h1 : s.size = 0 := by rw [Lib.size_eq, e]; rfl
                                               omega
  have hUS := Lib.run_unsafeString_row (P := Tryz.prog) ((w.alloc (.cells M 5)).setRow w.heap.size Y) 184 3 9 5 Tryz.underlying184 hco w.heap.size Y.size (by unfold World.shape?; rw [hgY]) s.data.toList hne (by rw [← Lib.size_eq]; omega) (by rw [← Lib.size_eq]; omega)
    (fun j x hx => Lib.cells_of_row hgY Y.size j _ (by rw [List.take_of_length_le (by rw [Array.length_toList]; exact Nat.le_refl _), hYl]; simp [Lib.byteCells, hx]))
  rw [← Lib.size_eq] at hUS
  have hb1 : Below w.heap.size w (w.alloc (.cells M 5)) := (Below.refl _ w).alloc (Nat.le_refl _) _
  have hb2 : Below w.heap.size (w.alloc (.cells M 5)) ((w.alloc (.cells M 5)).setRow w.heap.size Y) := ⟨rfl, rfl, rfl, by simp, fun k hk => setRow_other _ _ _ _ (by omega)⟩
  have HB := Lib.hid (Lib.below_freeze (hb1.trans hb2) (p := ⟨w.heap.size, 0, none⟩) (Nat.le_refl _) s.size)
  have hsz : ((s.size : Int) == 0) = false := beq_eq_false_iff_ne.2 (by omega)
  clear hM hY hMs hYl hYs hgY hne hb1 hb2 hinfo hco
  go_enter Tryz.func102, Tryz.ntmps102
  go_wp2_with fail
  go_ret
  exact ⟨rfl, HB.out⟩
theorem sclone_any (s : ByteArray) (w : World) (h0 : 0 < s.size) (hlim : s.size ≤ 140737488355328) : Calls Tryz.prog 74 #[.string s] w fun e w' => e = .returned (.string s) ∧ Below w.heap.size w w' := by
  have H := Lib.hid (sclone_in s w h0 hlim)
  go_enter Tryz.func74, Tryz.ntmps74
  go_wp2_with fail
  refine H.out.mono ?_
  rintro e w1 ⟨rfl, hb⟩
  go_wp2_with fail
  go_ret
  exact ⟨rfl, hb⟩
end Go.Proofs.YthjjgpepgbfalaaGreatDoor.Sy
end
section
/-! A name behind the others; a name's number. -/
set_option linter.unusedSimpArgs false
set_option maxRecDepth 20000
namespace Go.Proofs.YthjjgpepgbfalaaGreatDoor.Sy
open Go.RowKit

section
variable {w : World} {g mb : Nat} {v : Value} {L : List ByteArray}
/-- The row is put in, the map isn't yet. -/
theorem Tb0.put {w3 : World} {gN cap : Nat} {S : ByteArray} (h : Tb0 w g v mb L)
    (hown : w3.ownsRow 0 9 1 (.slice (some ⟨gN, 0, none⟩) (L.length + 1) cap) (L.length + 1) (strs L ++ [.string S]))
    (hgrow : (w.alloc (.cells #[.string S] 9)).grownBy w3 v.ownBlock) (hat : v.ownBlock = some gN ∨ gN = w.heap.size + 1) :
    (w3.setCell ⟨g, 0, none⟩ (.slice (some ⟨gN, 0, none⟩) (L.length + 1) cap)).heap[g]? = some (.cells #[.slice (some ⟨gN, 0, none⟩) (L.length + 1) cap, .map (some mb)] 55 (0, 0)) ∧
    Rf (w3.setCell ⟨g, 0, none⟩ (.slice (some ⟨gN, 0, none⟩) (L.length + 1) cap)) (.slice (some ⟨gN, 0, none⟩) (L.length + 1) cap) (L ++ [S]) ∧
    Frs (w3.setCell ⟨g, 0, none⟩ (.slice (some ⟨gN, 0, none⟩) (L.length + 1) cap)) mb L ∧
    Chg (foot g v mb) (foot g (.slice (some ⟨gN, 0, none⟩) (L.length + 1) cap) mb) w (w3.setCell ⟨g, 0, none⟩ (.slice (some ⟨gN, 0, none⟩) (L.length + 1) cap)) ∧ gN ≠ mb ∧ g ≠ mb := by
  have hglt : g < w.heap.size := h.lt
  have hmlt : mb < w.heap.size := h.map.lt
  have hgN : gN ≠ g := by
    rcases hat with e | e
    · exact fun e2 => h.ne _ e e2.symm
    · omega
  have hgm : gN ≠ mb := by
    rcases hat with e | e
    · exact h.nev _ e
    · omega
  have hsz : w.heap.size ≤ w3.heap.size := Nat.le_trans (by simp) hgrow.size
  have h3 : ∀ k, k < w.heap.size → v.ownBlock ≠ some k → w3.heap[k]? = w.heap[k]? := fun k hk hne =>
    (hgrow.block k (by simp; omega) (fun e => hne e.symm)).trans (Below.heap_alloc w _ k hk)
  refine ⟨heap_setCell_same w3 g 0 _ _ _ ((h3 g hglt (fun e => h.ne g e rfl)).trans h.hd), ?_, ?_, ⟨hgrow.os, hgrow.tape, hgrow.output, by simpa using hsz, fun k hk hne => ?_, fun k hk => ?_⟩, hgm, h.nem⟩
  · unfold Rf
    rw [List.length_append, strs_snoc]
    exact own_other hown (fun k hk => by cases hk; exact heap_setCell_other _ _ _ _ hgN)
  · refine h.map.same ((heap_setCell_other _ _ _ _ (Ne.symm h.nem)).trans (h3 mb hmlt (fun e => h.nev mb e rfl)))
  · have h1 : k ≠ g := fun e => hne (by simp [foot, e])
    have h2 : v.ownBlock ≠ some k := fun e => hne (by simp [foot, e])
    exact (heap_setCell_other _ _ _ _ h1).trans (h3 k hk h2)
  · simp only [foot, List.mem_cons, Option.mem_toList] at hk ⊢
    rcases hk with e | e | e
    · exact .inl (.inl e)
    · exact .inl (.inr (.inl e))
    · have e2 : gN = k := by simpa [Value.ownBlock] using e
      subst e2
      rcases hat with e3 | e3
      · exact .inl (.inr (.inr e3))
      · exact .inr (by omega)
set_option maxHeartbeats 1600000 in
theorem add_any {F : List Nat} (h : Tb w g F L) (S : ByteArray) (hS : okB S = true) (hn : S ∉ L) (hl : L.length ≤ 16383) : Calls Tryz.prog 73 #[.pointer (some ⟨g, 0, none⟩), .string S] w fun e w' => e = .returned (.int .i64 (L.length : Int)) ∧ Went F g (L ++ [S]) w w' := by
  obtain ⟨v, mb, h, rfl⟩ := h
  have HH := Lib.hid h
  have c0 := h.c0
  have c1 := h.c1
  have fz := h.fz
  have HR := Lib.hid h.row
  obtain ⟨q, c, rfl⟩ := h.form
  obtain ⟨i0, hi0, hz0, hz1, hz2⟩ := info_parts info9
  have HI0 := Lib.hid hi0
  have HZ0 := Lib.hid hz0
  have HZ1 := Lib.hid hz1
  have HZ2 := Lib.hid hz2
  have HB0 : Hid (Below w.heap.size w (w.alloc (.cells #[.string S] 9))) := Lib.hid ((Below.refl _ _).alloc (Nat.le_refl _) _)
  have HR0 : Hid ((w.alloc (.cells #[.string S] 9)).ownsRow 0 9 1 (.slice q L.length c) L.length (strs L)) := Lib.hid (h.row.below HB0.out)
  have hne : ∀ k, (Value.slice q L.length c).ownBlock = some k → k ≠ g := fun k hk e => h.ne k hk e.symm
  have HNE := Lib.hid hne
  have hlt := h.lt
  have HN := Lib.hid hn
  have HSS : S.size ≤ 140737488355328 := by have := ((okB_iff S).1 hS).2.1; omega
  have HOK := Lib.hid hS
  have H1S : Hid (∀ u ∈ [Value.string S], u.oneCell' = true) := Lib.hid (by simp [Value.oneCell'])
  have H63 : Hid (L.length + 1 ≤ maxLen) := Lib.hid (by unfold maxLen; omega)
  clear h hi0 hz0 hz1 hz2 hne hn hS
  go_enter Tryz.func73, Tryz.ntmps73
  go_upto_region 3 with (at_builtin; refine wpList_append_lies _ rfl (.tmp 15) (.tmp 17) 45 rfl 0 9 i0 (.string ⟨#[]⟩) 1 16 Tryz.underlying45 HI0.out HZ0.out HZ1.out HZ2.out rfl (by decide) (.slice q L.length c) L.length (strs L) (by rfl) HR0.out ⟨w.heap.size, 0, none⟩ 1 1 [.string S] (by rfl) rfl (cell_one_new w (.string S) 9) H1S.out (by omega) H63.out (by omega) (Nat.zero_le _) _ rfl ?_; intro gN cap w1 hown hgrow hat _; have y0 := (hgrow.cell_far ⟨g, 0, none⟩ (by simp; omega) (fun e => HNE.out g e.symm rfl)).trans (HB0.out.cell hlt); have z0 := (hgrow.frozen_far ⟨g, 0, none⟩ (by simp; omega) (fun e => HNE.out g e.symm rfl)).trans (HB0.out.frozen hlt))
  obtain ⟨p1, p2, p3, p4, n1, n2⟩ := HH.out.put hown hgrow (by simpa using hat)
  generalize w1.setCell ⟨g, 0, none⟩ (.slice (some ⟨gN, 0, none⟩) (L.length + 1) cap) = w2 at *
  have d1 : w2.cell? ⟨g, 1, none⟩ = some (.map (some mb)) := by rw [cell_of_row w2 g 1 _ _ _ p1]; rfl
  have HM := Lib.hid p3
  have HP1 := Lib.hid p1
  have HP2 := Lib.hid p2
  have HC := Lib.hid p4
  have HNS := HN.out
  have hl6 : L.length ≤ 1000000 := by omega
  clear hown hgrow hat y0 z0 c0 c1 fz p1 p2 p3 p4 HR0 HR HB0
  go_upto_region 4 with (refine wpList_store_frs _ rfl _ _ _ rfl mb L S rfl HM.out HSS HNS hl6 rfl rfl ?_; intro w3 hM3 hO3)
  have HM3 := Lib.hid hM3
  have HO3 := Lib.hid hO3
  clear hM3 hO3
  go_wp2_with fail
  go_ret
  refine ⟨rfl, foot g (.slice (some ⟨gN, 0, none⟩) (L.length + 1) cap) mb, ⟨_, mb, ⟨?_, ?_, HM3.out, HH.out.ok.snoc HOK.out HN.out⟩, rfl⟩, ?_⟩
  · exact (HO3.out.block g (lt_block HP1.out) n2).trans HP1.out
  · exact HP2.out.other (fun k hk => HO3.out.block k (HP2.out.lt k hk) (by cases hk; exact n1))
  · exact HC.out.trans ⟨HO3.out.os, HO3.out.tape, HO3.out.output, HO3.out.size, fun k hk hn => HO3.out.block k hk (fun e => hn (by simp [foot, e])), fun _ h => .inl h⟩
/-- What Number answers. -/
def numA (L : List ByteArray) (S : ByteArray) : Int := if okB S = true then (if S ∈ L then (atN L S : Int) else (L.length : Int)) else 0
def errA (S : ByteArray) : Int := if okB S = true then 0 else 1
set_option maxHeartbeats 800000 in
theorem number_any {F : List Nat} (h : Tb w g F L) (S : ByteArray) (hl : L.length ≤ 16383) : Calls Tryz.prog 48 #[.pointer (some ⟨g, 0, none⟩), .string S] w fun e w' => e = .returned (.tuple #[.int .i64 (numA L S), .int .i64 (errA S)]) ∧ Went F g (numM L S) w w' := by
  have HT := Lib.hid h
  have HMay := Lib.hid (may_any S w)
  by_cases hS : okB S = true
  · rw [hS] at HMay
    have hsz : S.size ≤ 140737488355328 := by have := ((okB_iff S).1 hS).2.1; omega
    have hpos := ((okB_iff S).1 hS).1
    obtain ⟨v, mb, h0, hF⟩ := h
    have c1 := h0.c1
    have hlk := h0.map.look S hsz
    clear hF
    by_cases hm : S ∈ L
    · rw [show numA L S = (atN L S : Int) by unfold numA; rw [if_pos hS, if_pos hm], show errA S = 0 by unfold errA; rw [if_pos hS], show numM L S = L by unfold numM; rw [if_pos hS, if_pos hm]]
      rw [show numI L S = (atN L S : Int) by unfold numI; rw [if_pos hm], decide_eq_true hm] at hlk
      clear h0
      go_enter Tryz.func48, Tryz.ntmps48
      go_wp2_with (refine HMay.out.mono ?_; rintro e w1 ⟨rfl, rfl⟩)
      go_ret2
      exact ⟨rfl, Went.refl HT.out⟩
    · rw [show numA L S = (L.length : Int) by unfold numA; rw [if_pos hS, if_neg hm], show errA S = 0 by unfold errA; rw [if_pos hS], show numM L S = L ++ [S] by unfold numM; rw [if_pos hS, if_neg hm]]
      rw [show numI L S = 0 by unfold numI; rw [if_neg hm], decide_eq_false hm] at hlk
      have HFull := Lib.hid (full_any HT.out hl)
      have HCl := Lib.hid (sclone_any S w hpos hsz)
      have HA : Hid (∀ w1, Below w.heap.size w w1 → Calls Tryz.prog 73 #[.pointer (some ⟨g, 0, none⟩), .string S] w1 fun e w' => e = .returned (.int .i64 (L.length : Int)) ∧ Went F g (L ++ [S]) w1 w') := Lib.hid (fun w1 hb => add_any (HT.out.below hb) S hS hm hl)
      clear h0
      go_enter Tryz.func48, Tryz.ntmps48
      go_wp2_with (first
        | (go_at_call 71; refine HMay.out.mono ?_; rintro e w1 ⟨rfl, rfl⟩)
        | (go_at_call 72; refine HFull.out.mono ?_; rintro e w1 ⟨rfl, rfl⟩)
        | (go_at_call 74; refine HCl.out.mono ?_; rintro e w1 ⟨rfl, hb1⟩)
        | (go_at_call 73; refine (HA.out _ hb1).mono ?_; rintro e w2 ⟨rfl, hw2⟩))
      go_ret2
      exact ⟨rfl, hw2.pre hb1⟩
  · have hS2 : okB S = false := by simpa using hS
    rw [hS2] at HMay
    rw [show numA L S = 0 by unfold numA; rw [if_neg hS], show errA S = 1 by unfold errA; rw [if_neg hS], show numM L S = L by unfold numM; rw [if_neg hS]]
    go_enter Tryz.func48, Tryz.ntmps48
    go_wp2_with (refine HMay.out.mono ?_; rintro e w1 ⟨rfl, rfl⟩)
    go_ret2
    exact ⟨rfl, Went.refl HT.out⟩
end
end Go.Proofs.YthjjgpepgbfalaaGreatDoor.Sy
end
section
/-! How many names are new: not more than there are nodes. -/
set_option maxRecDepth 20000
set_option linter.unusedSimpArgs false
set_option linter.unusedVariables false
namespace Go.Proofs.YthjjgpepgbfalaaGreatDoor
open Go.RowKit Go.Shelf

abbrev strS (s : List UInt8) : Value := .string ⟨s.toArray⟩
theorem namT : MapT (K := List UInt8) (V := Unit) 9 113 115 (fun s => s.length ≤ 100000) strS (fun _ => .agg #[]) (.agg #[]) :=
  ⟨Sy.keyedS, Tryz.underlying113, fun x hx => ⟨_, Sy.keyS (S := ⟨x.toArray⟩) (by show x.toArray.size ≤ _; simp; omega)⟩, fun x y h => by
    injection h with h
    have h1 := congrArg (fun b : ByteArray => b.data.toList) h
    simpa using h1, fun w => by rw [Tryz.zeroValue115]⟩
theorem GMap.len {K V : Type} {k t vt : TypeId} {dom : K → Prop} {kv : K → Value} {vv : V → Value} {zv : Value} {w : World} {b n : Nat} {f : K → Option V} (T : MapT k t vt dom kv vv zv) (h : GMap k dom kv vv w b n f) (ty : TypeId) : ∃ c : Nat, c ≤ n ∧ (Builtin.len_ #[t] ty #[.map (some b)]).run Tryz.prog w = .ok (.int .i64 (c : Int)) w := by
  obtain ⟨es, clock, h⟩ := h
  refine ⟨es.size, h.size, ?_⟩
  simp [Builtin.len_, run_underlying T.und, MapKept.run_getObj_map h.hb, goInt, Result.andThen]
theorem nodup_le {K : Type} : ∀ (a b : List K), a.Nodup → (∀ x ∈ a, x ∈ b) → a.length ≤ b.length
  | [], b, _, _ => Nat.zero_le _
  | x :: a, b, hn, hs => by
    classical
    obtain ⟨h1, h2⟩ := List.nodup_cons.1 hn
    have hx : x ∈ b := hs x (by simp)
    have h3 := nodup_le a (b.erase x) h2 fun y hy => (List.mem_erase_of_ne (fun e : y = x => h1 (by rw [← e]; exact hy))).2 (hs y (by simp [hy]))
    rw [List.length_erase_of_mem hx] at h3
    have := List.length_pos_of_mem hx
    simp; omega
/-- A map has just as many entries as it has keys. -/
theorem Gmm.count {K V : Type} {k t vt : TypeId} {dom : K → Prop} {kv : K → Value} {vv : V → Value} {zv : Value} {w : World} {b n clock : Nat} {es : Array MapEntry} {f : K → Option V} (T : MapT k t vt dom kv vv zv) (h : Gmm k dom kv vv w b es clock n f) (L : List K) (hL : L.Nodup) (hm : ∀ x, x ∈ L ↔ ∃ s, f x = some s) : es.size = L.length := by
  have h1 : (es.toList.map (·.key)).Nodup := h.fit.stamped.2.2
  have h2 : (L.map kv).Nodup := by
    unfold List.Nodup
    rw [List.pairwise_map]
    exact hL.imp fun {a b} hab e => hab (T.inj _ _ e)
  have a1 := nodup_le (es.toList.map (·.key)) (L.map kv) h1 fun x hx => by
    obtain ⟨e, he, rfl⟩ := List.mem_map.1 hx
    obtain ⟨l, s, _, hk, _, hf⟩ := h.only e he
    exact List.mem_map.2 ⟨l, (hm l).2 ⟨s, hf⟩, hk.symm⟩
  have a2 := nodup_le (L.map kv) (es.toList.map (·.key)) h2 fun x hx => by
    obtain ⟨l, hl, rfl⟩ := List.mem_map.1 hx
    obtain ⟨s, hf⟩ := (hm l).1 hl
    obtain ⟨_, e, he, hk⟩ := h.all l s hf
    exact List.mem_map.2 ⟨e, he, hk⟩
  simp at a1 a2
  omega
/-- The names that are new, once each. -/
def nnS (N : List ByteArray) (A : List Nd) (T : List (List UInt8)) (i : Nat) : List (List UInt8) := if (ndAt A i).t.k = 14 ∧ (⟨(ndAt A i).t.s.toArray⟩ : ByteArray) ∉ N ∧ (ndAt A i).t.s ∉ T then T ++ [(ndAt A i).t.s] else T
def nnT (N : List ByteArray) (A : List Nd) (d : List Nat) : List (List UInt8) := d.foldl (nnS N A) []
theorem nnT_snoc (N : List ByteArray) (A : List Nd) (d : List Nat) (i : Nat) : nnT N A (d ++ [i]) = nnS N A (nnT N A d) i := by unfold nnT; rw [List.foldl_append]; rfl
def indF (T : List (List UInt8)) : List UInt8 → Option Unit := fun x => if x ∈ T then some () else none
theorem indF_put (T : List (List UInt8)) (x : List UInt8) : putG (indF T) x () = indF (if x ∉ T then T ++ [x] else T) := by
  funext y
  by_cases hx : x ∈ T
  · rw [if_neg (fun h => h hx)]
    unfold putG indF
    by_cases e : y = x
    · subst e; rw [if_pos rfl, if_pos hx]
    · rw [if_neg e]
  · rw [if_pos hx]
    unfold putG indF
    by_cases e : y = x
    · subst e; rw [if_pos rfl, if_pos (by simp)]
    · rw [if_neg e]
      by_cases hy : y ∈ T
      · rw [if_pos hy, if_pos (by simp [hy])]
      · rw [if_neg hy, if_neg (by simp [hy, e])]
theorem nnT_nodup (N : List ByteArray) (A : List Nd) : ∀ d : List Nat, (nnT N A d).Nodup ∧ (nnT N A d).length ≤ d.length := by
  intro d
  obtain ⟨r, hr⟩ : ∃ r, d.reverse = r := ⟨_, rfl⟩
  obtain rfl : d = r.reverse := by rw [← hr, List.reverse_reverse]
  clear hr
  induction r with
  | nil => exact ⟨List.nodup_nil, Nat.le_refl _⟩
  | cons i r ih =>
    rw [List.reverse_cons, nnT_snoc]
    unfold nnS
    split
    · rename_i h
      refine ⟨?_, by simp at ih ⊢; omega⟩
      refine List.nodup_append.2 ⟨ih.1, by simp, fun a ha b hb e => ?_⟩
      have : b = (ndAt A i).t.s := by simpa using hb
      exact h.2.2 (by rw [← this, ← e]; exact ha)
    · exact ⟨ih.1, by simp at ih ⊢; omega⟩
/-- Amid newNames. -/
structure NnJ (w : World) (S : Nat → Nat) (V : Nat → Value) (A : List Nd) (gt : Nat) (Ft : List Nat) (N : List ByteArray) (d : List Nat) (W : World) : Prop where
  nds : Nds W S V A
  tb : Sy.Tb W gt Ft N
  b1 : W.heap[w.heap.size]? = some (.cells #[.pointer (some ⟨gt, 0, none⟩)] 28 (0, 0))
  b2 : W.heap[w.heap.size + 2]? = some (.cells #[.map (some (w.heap.size + 1))] 113 (0, 0))
  map : GMap (K := List UInt8) (V := Unit) 9 (fun s => s.length ≤ 100000) strS (fun _ => .agg #[]) W (w.heap.size + 1) d.length (indF (nnT N A d))
  bel : Below w.heap.size w W
section
variable {w W : World} {S : Nat → Nat} {V : Nat → Value} {A : List Nd} {gt : Nat} {Ft : List Nat} {N : List ByteArray} {d : List Nat}
set_option maxHeartbeats 1600000 in
theorem NnJ.step (h : NnJ w S V A gt Ft N d W) (hw : w.heap.size + 3 ≤ W.heap.size) (hA : A.length ≤ 100000) {i : Nat} (hi : i < A.length) (hd : d.length ≤ 100000) (hlow : ∀ k, footN S V A.length k → k < w.heap.size) (hlt : ∀ k ∈ Ft, k < w.heap.size) :
    Calls Tryz.prog 46 #[.pointer (some ⟨S i, 0, none⟩), .pointer (some ⟨w.heap.size, 0, none⟩), .pointer (some ⟨w.heap.size + 2, 0, none⟩)] W fun e W' => e = .returned (.tuple #[]) ∧ NnJ w S V A gt Ft N (d ++ [i]) W' ∧ w.heap.size + 3 ≤ W'.heap.size := by
  obtain ⟨⟨c0, -, c2, -⟩, -⟩ := h.nds.cells hi
  have htk := (h.nds.tk i hi).1
  have a1 : W.cell? ⟨w.heap.size, 0, none⟩ = some (.pointer (some ⟨gt, 0, none⟩)) := by rw [cell_of_row W _ 0 _ _ _ h.b1]; rfl
  have a2 : W.cell? ⟨w.heap.size + 2, 0, none⟩ = some (.map (some (w.heap.size + 1))) := by rw [cell_of_row W _ 0 _ _ _ h.b2]; rfl
  have hm := h.map
  have HDON : Hid (¬ ((ndAt A i).t.k = 14 ∧ (⟨(ndAt A i).t.s.toArray⟩ : ByteArray) ∉ N) → NnJ w S V A gt Ft N (d ++ [i]) W) := Lib.hid fun hno => ⟨h.nds, h.tb, h.b1, h.b2, by
    have e : nnT N A (d ++ [i]) = nnT N A d := by rw [nnT_snoc]; unfold nnS; rw [if_neg (fun hx => hno ⟨hx.1, hx.2.1⟩)]
    rw [e]; exact hm.more (by simp), h.bel⟩
  have HW := Lib.hid hw
  by_cases hk : (ndAt A i).t.k = 14
  · have d1 : (((ndAt A i).t.k : Int) != 14) = false := by simp; omega
    obtain ⟨T, hT⟩ : ∃ T : ByteArray, (⟨(ndAt A i).t.s.toArray⟩ : ByteArray) = T := ⟨_, rfl⟩
    have hTs : T.size ≤ 140737488355328 := by rw [← hT]; have := htk.s; show (ndAt A i).t.s.toArray.size ≤ _; simp; omega
    have HF := Lib.hid (fun (u : World) (hu : Below W.heap.size W u) => Sy.find_any (h.tb.below hu) T hTs)
    have HFD := Lib.hid (HF.out W.drew (Below.refl _ _).drew)
    rw [hT] at c2
    have hex : T ∉ N → ∃ w9, (Instr.mapUpdate 113 (.map (some (w.heap.size + 1))) (.string T) (.agg #[])).run Tryz.prog W.drew.drew = .ok () w9 ∧ NnJ w S V A gt Ft N (d ++ [i]) w9 ∧ w.heap.size + 3 ≤ w9.heap.size := fun hTN => by
      obtain ⟨w9, h1, h2, h3⟩ := GMap.store namT (hm.same (w' := W.drew.drew) rfl) (by omega) (ndAt A i).t.s () (by have := htk.s; show (ndAt A i).t.s.length ≤ _; omega)
      have e1 : strS (ndAt A i).t.s = .string T := by show Value.string _ = _; rw [hT]
      rw [e1] at h1
      refine ⟨w9, h1, ⟨h.nds.keep fun k hk => h3.block k (h.nds.lt k hk) fun e => by have := hlow k hk; omega, h.tb.stay (F1 := [w.heap.size + 1]) (F' := [w.heap.size + 1]) ⟨h3.os, h3.tape, h3.output, h3.size, fun k hk hn => h3.block k hk fun e => hn (by simp [e]), fun k hk => .inl hk⟩ fun k hk hn => by simp at hn; have := hlt k hk; omega, (h3.block _ (by show w.heap.size < W.heap.size; omega) (by omega)).trans h.b1, (h3.block _ (by show w.heap.size + 2 < W.heap.size; omega) (by omega)).trans h.b2, by
        have e : nnT N A (d ++ [i]) = if (ndAt A i).t.s ∉ nnT N A d then nnT N A d ++ [(ndAt A i).t.s] else nnT N A d := by
          rw [nnT_snoc]; unfold nnS
          rw [hT]
          by_cases hx : (ndAt A i).t.s ∉ nnT N A d
          · rw [if_pos ⟨hk, hTN, hx⟩, if_pos hx]
          · rw [if_neg (fun h => hx h.2.2), if_neg hx]
        rw [List.length_append, e, ← indF_put]; exact h2, h3.below (h.bel.drew.drew) h.bel.size (by omega)⟩, Nat.le_trans hw h3.size⟩
    have HEX := Lib.hid hex
    have hbu : ∀ u : World, (Instr.build 115 #[]).run Tryz.prog u = .ok (.agg #[]) u := fun u => run_build u _ _ _ (by kernel_rfl)
    clear h hm htk hex hTs
    generalize Sy.numI N T = X at *
    cases hin : decide (T ∈ N) with
    | true =>
      rw [hin] at HFD
      have hd0 := HDON.out (by rw [hT]; intro hx; exact hx.2 (by simpa using hin))
      have HDD : Hid (NnJ w S V A gt Ft N (d ++ [i]) W.drew ∧ w.heap.size + 3 ≤ W.drew.heap.size) := Lib.hid ⟨⟨hd0.nds.keep fun _ _ => rfl, hd0.tb.below (Below.refl _ _).drew, hd0.b1, hd0.b2, hd0.map.same rfl, hd0.bel.drew⟩, HW.out⟩
      clear hin HEX hd0 hT
      go_enter Tryz.func46, Tryz.ntmps46
      go_upto_region 1 with fail
      go_region_with (go_at_call 47; with_reducible refine HFD.out.mono ?_; rintro e w3 ⟨rfl, rfl⟩)
      all_goals go_wp2_with fail
      all_goals go_end0
      all_goals exact ⟨rfl, HDD.out.1, HDD.out.2⟩
    | false =>
      rw [hin] at HFD
      obtain ⟨w9, hrun, hfin⟩ := HEX.out (by simpa using hin)
      have HFIN := Lib.hid hfin
      have HMU := Lib.hid hrun
      clear hin hfin HEX hT
      go_enter Tryz.func46, Tryz.ntmps46
      go_upto_region 1 with fail
      clear hrun
      go_region_with (go_at_call 47; with_reducible refine HFD.out.mono ?_; rintro e w3 ⟨rfl, rfl⟩)
      all_goals go_upto_region 3 with fail
      all_goals have hrun := HMU.out
      all_goals go_region
      all_goals go_wp2_with fail
      all_goals go_end0
      all_goals exact ⟨rfl, HFIN.out.1, HFIN.out.2⟩
  · have d1 : (((ndAt A i).t.k : Int) != 14) = true := by simp; omega
    have HDO2 := Lib.hid (HDON.out fun hx => hk hx.1)
    clear h hm a1 a2 hk htk
    go_enter Tryz.func46, Tryz.ntmps46
    go_wp2_with fail
    exact bodyPost_ret (results_none Tryz.results46 _ _ _) rfl ⟨rfl, HDO2.out, HW.out⟩
end
end Go.Proofs.YthjjgpepgbfalaaGreatDoor
end
