/- Parse: a page of bytes. -/
import Derived.Test.YtldkmkgkllgckaaDoorSizes
import Derived.Test.YtldkmkgkllgckaaDoorAdd
set_option linter.unusedSimpArgs false
namespace Go.Proofs.YtldkmkgkllgckaaDoor
open Go.RowKit

theorem parse_no1 {S : ByteArray} (h : 64 < cntA S) : parseM S = none := by unfold parseM; rw [if_pos h]
theorem parse_no2 {S : ByteArray} (h : 0 < cntA S ∧ szA S (cntA S - 1) = 0) : parseM S = none := by
  unfold parseM
  split
  · rfl
  · cases goF S (cntA S) with
    | none => rfl
    | some x => obtain ⟨l, a⟩ := x; simp only [if_pos h]
theorem parse_no3 {S : ByteArray} {k : Nat} (h : goF S k = none) (hk : k ≤ cntA S) : parseM S = none := by
  unfold parseM
  rw [goF_none h _ hk]
  split <;> rfl
theorem parse_at {S : ByteArray} {l : List Sl} {a : Nat} (h : goF S (cntA S) = some (l, a)) (h1 : ¬ 64 < cntA S) (h2 : ¬ (0 < cntA S ∧ szA S (cntA S - 1) = 0)) : parseM S = if zeroB S a = true then some l else none := by
  unfold parseM
  rw [if_neg h1, h]
  simp only
  rw [if_neg h2]
def slO (S : ByteArray) (s a : Nat) : Sl := if s = 0 then none else some (S.extract a (a + (s - 1)))
theorem slO_some (S : ByteArray) (s a : Nat) : (slO S s a).isSome = decide (0 < s) := by
  unfold slO; split
  · rename_i h; simp [h]
  · rename_i h; simp; omega
theorem slO_rec (S : ByteArray) (s a : Nat) : recOf (slO S s a) = S.extract a (a + (s - 1)) := by
  unfold slO; split
  · rename_i h; subst h
    apply nums_inj
    rw [nums_extract, Nat.zero_sub, Nat.add_zero, Nat.sub_self, List.take_zero]; rfl
  · rfl
theorem goS_eq (S : ByteArray) (s : Nat) (l : List Sl) (a : Nat) : goS S s l a = if 480 < s - 1 ∨ 512 - a < s - 1 then none else some (l ++ [slO S s a], a + (s - 1)) := by
  unfold goS slO
  split
  · rename_i h; subst h; rw [if_neg (by omega)]; rfl
  · rfl
theorem ext_ext (S : ByteArray) (a n : Nat) (h : a + n ≤ 512) : (S.extract a 512).extract 0 n = S.extract a (a + n) := by
  apply nums_inj
  rw [nums_extract, nums_extract, nums_extract, List.drop_zero, Nat.sub_zero, List.take_take, Nat.add_sub_cancel_left, Nat.min_eq_left (by omega)]
theorem ext_drop (S : ByteArray) (a n : Nat) (hS : S.size = 512) (h : a + n ≤ 512) : (S.extract a 512).extract n (S.extract a 512).size = S.extract (a + n) 512 := by
  rw [extract_size S a 512 (by omega) (by omega)]
  apply nums_inj
  rw [nums_extract, nums_extract, nums_extract, List.drop_take, List.drop_drop, List.take_take, show 512 - a - n = 512 - (a + n) by omega, Nat.min_self]
theorem ext_all (S : ByteArray) (a : Nat) (hS : S.size = 512) : S.extract a S.size = S.extract a 512 := by rw [hS]
theorem allZ_zeroB (S : ByteArray) (a : Nat) (hS : S.size = 512) (ha : a ≤ 512) : allZ (S.extract a 512) ↔ zeroB S a = true := by
  have hsz := extract_size S a 512 ha (by omega)
  have hl : (nums S).length = 512 := by rw [nums_len, hS]
  unfold allZ zeroB
  rw [hsz]
  constructor
  · intro h
    rw [List.all_eq_true]
    intro x hx
    obtain ⟨j, hj, e⟩ := List.getElem_of_mem hx
    rw [List.length_drop, hl] at hj
    have h1 := h j hj
    rw [byteAt_extract S a 512 j hj] at h1
    unfold byteAt at h1
    rw [List.getElem_drop] at e
    rw [List.getD_eq_getElem?_getD, List.getElem?_eq_getElem (by omega)] at h1
    simp only [Option.getD_some] at h1
    simp; omega
  · intro h j hj
    rw [byteAt_extract S a 512 j hj]
    unfold byteAt
    rw [List.getD_eq_getElem?_getD, List.getElem?_eq_getElem (by omega)]
    simp only [Option.getD_some]
    have h1 := List.all_eq_true.1 h ((nums S)[a + j]'(by omega)) (by
      rw [← List.getElem_drop (h := by rw [List.length_drop, hl]; omega)]
      exact List.getElem_mem _)
    simpa using h1
theorem parseE_no {S : ByteArray} (hS : S.size = 512) (h : parseM S = none) : parseE S = 4 := by
  unfold parseE; rw [if_neg (by omega), if_neg (by omega), h]; rfl
theorem parseE_ok {S : ByteArray} (hS : S.size = 512) {l : List Sl} (h : parseM S = some l) : parseE S = 0 := by
  unfold parseE; rw [if_neg (by omega), if_neg (by omega), h]; rfl
/-- What Parse leaves. -/
structure PRes (w w' : World) (S : ByteArray) (p : Value) : Prop where
  ok : parseE S = 0 → ∃ l g F, p = .pointer (some ⟨g, 0, none⟩) ∧ parseM S = some l ∧ Pg w' g F l ∧ (∀ k ∈ F, w.heap.size ≤ k)
  no : parseE S ≠ 0 → p = .pointer none
  below : Below w.heap.size w w'
theorem PRes.none_ {w w' : World} {S : ByteArray} (h : parseE S ≠ 0) (hb : Below w.heap.size w w') : PRes w w' S (.pointer none) := ⟨fun e => absurd e h, fun _ => rfl, hb⟩
/-- Amid Parse's loop. -/
structure Pl (w wr : World) (S : ByteArray) (b c g : Nat) (v : Value) (l : List Sl) : Prop where
  below : Below w.heap.size w wr
  row : wr.ownsRow 0 3 1 (.slice (some ⟨b, 0, none⟩) c c) c (rowI S c c)
  page : Pgr wr g v l
  high : w.heap.size ≤ g
  vhigh : ∀ k, v.ownBlock = some k → w.heap.size ≤ k
theorem Pgr.snocO {w w3 : World} {g gN cap : Nat} {v : Value} {l : List Sl} {ob : Obj} {o : Sl} (h : Pgr w g v l)
    (hown : w3.ownsRow 0 56 2 (.slice (some ⟨gN, 0, none⟩) (l.length + 1) cap) (l.length + 1) (flat l ++ [.bool o.isSome, .string (recOf o)]))
    (hgrow : (w.alloc ob).grownBy w3 v.ownBlock) (hat : v.ownBlock = some gN ∨ gN = w.heap.size + 1) :
    Pgr (w3.setCell ⟨g, 0, none⟩ (.slice (some ⟨gN, 0, none⟩) (l.length + 1) cap)) g (.slice (some ⟨gN, 0, none⟩) (l.length + 1) cap) (l ++ [o]) ∧
      Chg (foot g v) (foot g (.slice (some ⟨gN, 0, none⟩) (l.length + 1) cap)) w (w3.setCell ⟨g, 0, none⟩ (.slice (some ⟨gN, 0, none⟩) (l.length + 1) cap)) := by
  have hglt : g < w.heap.size := lt_of_block h.hd
  have hgN : gN ≠ g := by
    rcases hat with e | e
    · exact h.ne _ e
    · omega
  have hsz : w.heap.size ≤ w3.heap.size := Nat.le_trans (by simp) hgrow.size
  have h3 : ∀ k, k < w.heap.size → v.ownBlock ≠ some k → w3.heap[k]? = w.heap[k]? := fun k hk hne =>
    (hgrow.block k (by simp; omega) (fun e => hne e.symm)).trans (Below.heap_alloc w ob k hk)
  refine ⟨⟨heap_setCell_same w3 g 0 _ _ _ ((h3 g hglt (fun e => h.ne g e rfl)).trans h.hd), ?_⟩, ⟨hgrow.os, hgrow.tape, hgrow.output, by simpa using hsz, fun k hk hne => ?_, fun k hk => ?_⟩⟩
  · rw [List.length_append, flat_append, flat_one]
    exact own_other hown (fun k hk => by cases hk; exact heap_setCell_other _ _ _ _ hgN)
  · have h1 : k ≠ g := fun e => hne (by simp [foot, e])
    have h2 : v.ownBlock ≠ some k := fun e => hne (by simp [foot, e])
    exact (heap_setCell_other _ _ _ _ h1).trans (h3 k hk h2)
  · simp only [foot, List.mem_cons, Option.mem_toList] at hk ⊢
    rcases hk with e | e
    · exact .inl (.inl e)
    · have e2 : gN = k := by simpa [Value.ownBlock] using e
      subst e2
      rcases hat with e3 | e3
      · exact .inl (.inr e3)
      · exact .inr (by omega)
theorem Pgr.typed {w : World} {g : Nat} {v : Value} {l : List Sl} (h : Pgr w g v l) : Typed w (foot g v) := by
  intro k hk
  unfold foot at hk
  simp only [List.mem_cons, Option.mem_toList] at hk
  rcases hk with rfl | hk
  · exact ⟨_, _, _, h.hd, .inl rfl⟩
  · obtain ⟨cur, hc⟩ := own_head h.row hk; exact ⟨_, _, _, hc, .inr rfl⟩
theorem Pl.snoc {w wr w3 : World} {S : ByteArray} {b c g gN cap : Nat} {v : Value} {l : List Sl} {ob : Obj} {o : Sl} (h : Pl w wr S b c g v l)
    (hown : w3.ownsRow 0 56 2 (.slice (some ⟨gN, 0, none⟩) (l.length + 1) cap) (l.length + 1) (flat l ++ [.bool o.isSome, .string (recOf o)]))
    (hgrow : (wr.alloc ob).grownBy w3 v.ownBlock) (hat : v.ownBlock = some gN ∨ gN = wr.heap.size + 1) :
    Pl w (w3.setCell ⟨g, 0, none⟩ (.slice (some ⟨gN, 0, none⟩) (l.length + 1) cap)) S b c g (.slice (some ⟨gN, 0, none⟩) (l.length + 1) cap) (l ++ [o]) := by
  obtain ⟨h1, h2⟩ := h.page.snocO hown hgrow hat
  have hf : ∀ k ∈ foot g v, w.heap.size ≤ k := fun k hk => by
    simp only [foot, List.mem_cons, Option.mem_toList] at hk
    rcases hk with rfl | hk
    · exact h.high
    · exact h.vhigh k hk
  refine ⟨h2.below h.below h.below.size hf, own_chg h.row h2 h.page.typed (by decide), h1, h.high, fun k hk => ?_⟩
  exact h2.high h.below.size hf k (by simp [foot, hk])
theorem empty_of {U : ByteArray} (h : U.size = 0) : U = ⟨#[]⟩ := nums_inj (by
  have h1 : (nums U).length = 0 := by rw [nums_len]; exact h
  rw [List.length_eq_zero_iff.1 h1]; rfl)
theorem notEmpty_of {U : ByteArray} (h : U.size ≠ 0) : U.toList.isEmpty = false := by
  rw [Go.Lib.toList_data]
  cases e : U.data.toList with
  | nil =>
    have h2 : U.data.toList.length = U.size := by rw [Array.length_toList]; rfl
    rw [e] at h2
    exact absurd h2.symm h
  | cons x l => rfl
theorem parse_short (S : ByteArray) (w : World) (hS : S.size < 512) : Calls Tryd.prog 6 #[.string S] w fun e w' => ∃ p, e = .returned (.tuple #[p, .int .i64 (parseE S)]) ∧ PRes w w' S p := by
  have hE : parseE S = 3 := by unfold parseE; rw [if_pos hS]
  have HR : Hid (PRes w w S (.pointer none)) := Lib.hid (PRes.none_ (by rw [hE]; decide) (Below.refl _ _))
  have hd : decide ((S.size : Int) < 512) = true := by simp; omega
  rw [hE]
  go_enter Tryd.func6, Tryd.ntmps6
  go_wp2_with fail
  go_ret2
  exact ⟨_, rfl, HR.out⟩
theorem parse_long (S : ByteArray) (w : World) (hS : 512 < S.size) (h63 : S.size ≤ 9223372036854775807) : Calls Tryd.prog 6 #[.string S] w fun e w' => ∃ p, e = .returned (.tuple #[p, .int .i64 (parseE S)]) ∧ PRes w w' S p := by
  have hE : parseE S = 2 := by unfold parseE; rw [if_neg (by omega), if_pos hS]
  have HR : Hid (PRes w w S (.pointer none)) := Lib.hid (PRes.none_ (by rw [hE]; decide) (Below.refl _ _))
  have hd : decide ((S.size : Int) < 512) = false := by simp; omega
  have hd2 : decide ((512 : Int) < (S.size : Int)) = true := by simp; omega
  rw [hE]
  go_enter Tryd.func6, Tryd.ntmps6
  go_wp2_with fail
  go_ret2
  exact ⟨_, rfl, HR.out⟩
theorem parse_bad1 (S : ByteArray) (w : World) (hS : S.size = 512) (h64 : 64 < cntA S) : Calls Tryd.prog 6 #[.string S] w fun e w' => ∃ p, e = .returned (.tuple #[p, .int .i64 (parseE S)]) ∧ PRes w w' S p := by
  have hE : parseE S = 4 := parseE_no hS (parse_no1 h64)
  have HR : Hid (∀ w', Below w.heap.size w w' → PRes w w' S (.pointer none)) := Lib.hid (fun w' hb => PRes.none_ (by rw [hE]; decide) hb)
  have HB := Lib.hid (sizes_bad S · hS h64)
  have HSZ := Lib.hid hS
  rw [hE]
  go_enter Tryd.func6, Tryd.ntmps6
  go_wp2_with (go_at_call 19; refine (HB.out _).mono ?_; rintro e w1 ⟨rfl, hb⟩)
  go_ret2
  exact ⟨_, rfl, HR.out _ hb⟩
theorem parse_bad2 (S : ByteArray) (w : World) (hS : S.size = 512) (h64 : ¬ 64 < cntA S) (h0 : 0 < cntA S ∧ szA S (cntA S - 1) = 0) : Calls Tryd.prog 6 #[.string S] w fun e w' => ∃ p, e = .returned (.tuple #[p, .int .i64 (parseE S)]) ∧ PRes w w' S p := by
  have hE : parseE S = 4 := parseE_no hS (parse_no2 h0)
  have HR : Hid (∀ w', Below w.heap.size w w' → PRes w w' S (.pointer none)) := Lib.hid (fun w' hb => PRes.none_ (by rw [hE]; decide) hb)
  have HB := Lib.hid (sizes_any S · hS h64)
  rw [decide_eq_true h0, Bool.not_true] at HB
  have hd1 : decide ((512 : Int) < 512) = false := by decide
  rw [hE]
  go_enter Tryd.func6, Tryd.ntmps6
  go_wp2_with (go_at_call 19; refine (HB.out _).mono ?_; rintro e w1 ⟨b, rfl, hb⟩)
  go_ret2
  exact ⟨_, rfl, HR.out _ hb.below⟩
end Go.Proofs.YtldkmkgkllgckaaDoor
