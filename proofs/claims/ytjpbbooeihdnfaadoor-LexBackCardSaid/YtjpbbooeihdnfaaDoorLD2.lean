/- The scanner's small calls: apart, pass, take. -/
import Derived.Test.YtjpbbooeihdnfaaDoorLD1
set_option maxRecDepth 20000
set_option linter.unusedSimpArgs false
set_option linter.unusedVariables false
namespace Go.Proofs.YtjpbbooeihdnfaaDoor
open Go.RowKit

theorem mem_ex (s : ByteArray) (c : UInt8) : ∃ i : Int, Hid (∀ w, Calls Tryd.prog 14 #[.string s, .int .u8 (c.toNat : Int)] w fun e w' => e = .returned (.int .i64 i) ∧ w = w') ∧ decide ((0 : Int) ≤ i) = (tl s).contains c := by
  refine ⟨Lib.indexByte (tl s) c, fun w => ?_, ?_⟩
  · refine (Tryd.strings_IndexByte s (c.toNat : Int) w).mono ?_
    rintro e w' ⟨he, hw⟩
    have hc : UInt8.ofNat c.toNat = c := UInt8.ofNat_toNat
    exact ⟨by rw [he]; simp [hc], hw.symm⟩
  · rw [← Bool.coe_iff_coe, decide_eq_true_iff]; exact idxB_iff _ _
section
variable {w w' : World} {B b a : Nat} {S : ByteArray} {v : Value} {tight : Bool} {l : List (Tk × Nat)}
set_option maxHeartbeats 800000 in
theorem Scn.apart (h : Scn w B b S a v tight l) (ha : a < S.size) : Calls Tryd.prog 8 #[.pointer (some ⟨b, 0, none⟩)] w fun e w' => e = .returned (.bool (!tight || parts ((tl S).getD a 0))) ∧ ∃ n, w' = w.drewN n := by
  obtain ⟨⟨c0, c1, c2, c3⟩, fz⟩ := h.cells
  have hix := idx_any S a ha
  generalize (tl S).getD a 0 = c at *
  obtain ⟨i, HM, hi⟩ := mem_ex ⟨#[9, 10, 12, 13, 32, 59, 40, 41, 34]⟩ c
  rw [show (tl ⟨#[9, 10, 12, 13, 32, 59, 40, 41, 34]⟩).contains c = parts c from rfl] at hi
  clear h fz
  rcases tight with _ | _
  · go_enter Tryd.func8, Tryd.ntmps8
    go_wp2_with fail
    go_quiet ((go_at_call 14; exact Calls.quiet_of_same ((HM.out _).mono fun _ _ h => ⟨h.1, h.2.symm⟩)))
    go_wp2_with fail
    go_ret
    exact ⟨rfl, _, rfl⟩
  · rcases hb : parts c with _ | _
    all_goals
      rw [hb] at hi
      clear hb
      go_enter Tryd.func8, Tryd.ntmps8
      go_wp2_with fail
      go_quiet ((go_at_call 14; exact Calls.quiet_of_same ((HM.out _).mono fun _ _ h => ⟨h.1, h.2.symm⟩)))
      go_wp2_with fail
      go_ret
      exact ⟨rfl, _, rfl⟩
/-- What pass tells, and what it makes of the scanner. -/
def PasR (w w' : World) (B b : Nat) (S : ByteArray) (a : Nat) (v : Value) (l : List (Tk × Nat)) (L : List UInt8) (n : Nat) (e : Ending) : Prop :=
  Below B w w' ∧ match passM L n with
  | .err i x => e = .returned (.tuple #[.int .i64 ((a + i : Nat) : Int), .int .i64 x])
  | _ => e = .returned (.tuple #[.int .i64 0, .int .i64 0]) ∧ Scn w' B b S (a + n) v false l
set_option maxHeartbeats 1600000 in
theorem Scn.pass (h : Scn w B b S a v tight l) (hS : S.size ≤ 5000) (n : Nat) (hn : a + n ≤ S.size) : Calls Tryd.prog 15 #[.pointer (some ⟨b, 0, none⟩), .int .i64 (n : Int)] w fun e w' => PasR w w' B b S a v l ((tl S).drop a) n e := by
  obtain ⟨⟨c0, c1, c2, c3⟩, fz⟩ := h.cells
  have HH := Lib.hid h
  unfold PasR passM
  by_cases hn0 : n = 0
  · subst hn0
    rw [if_pos rfl]
    clear h
    go_enter Tryd.func15, Tryd.ntmps15
    go_wp2_with fail
    go_ret2
    exact ⟨Below.refl _ _, rfl⟩
  · rw [if_neg hn0]
    have hx : tl (S.extract a (a + n)) = ((tl S).drop a).take n := by rw [tl_extract, show a + n - a = n by omega]
    have hxs : (S.extract a (a + n)).size ≤ 5000 := by rw [← tl_len, hx, List.length_take]; omega
    have hhi := fun w => highByte_any (S.extract a (a + n)) w hxs
    rw [hx] at hhi
    unfold hbV at hhi
    have e0 : ((n : Int) == 0) = false := by rw [beq_eq_false_iff_ne]; omega
    have e1 : (n == 0) = false := by rw [beq_eq_false_iff_ne]; exact hn0
    have hanI : (a : Int) + (n : Int) ≤ (S.size : Int) := by omega
    have hSI : (S.size : Int) ≤ 5000 := by omega
    cases hq : hiB (((tl S).drop a).take n) with
    | some j =>
      rw [hq] at hhi
      have hj : j < n := by
        have := List.findIdx?_eq_some_iff_getElem.1 hq
        obtain ⟨h1, _⟩ := this
        rw [List.length_take] at h1; omega
      have HI := Lib.hid hhi
      have hjI : (j : Int) < (n : Int) := by omega
      clear h hq hhi hx hn0
      go_enter Tryd.func15, Tryd.ntmps15
      go_wp2_with fail
      go_quiet ((go_at_call 29; exact Calls.quiet_of_same ((HI.out _).mono fun _ _ h => ⟨h.1, h.2.symm⟩)))
      go_wp2_with fail
      go_ret2
      exact ⟨(below_drewN (Below.refl _ _) _), by rw [Int.natCast_add]; rfl⟩
    | none =>
      rw [hq] at hhi
      have HI := Lib.hid hhi
      have f1 := fz 1
      have f3 := fz 3
      clear h hq hhi hx hn0 fz
      go_enter Tryd.func15, Tryd.ntmps15
      go_wp2_with fail
      go_quiet ((go_at_call 29; exact Calls.quiet_of_same ((HI.out _).mono fun _ _ h => ⟨h.1, h.2.symm⟩)))
      go_wp2_with fail
      go_ret2
      have hs := ((HH.out.below (below_drewN (Below.refl _ _) nq)).setAt (a + n)).setTight false
      rw [Int.natCast_add] at hs
      exact ⟨((below_drewN (Below.refl _ _) _).setCell (p := ⟨b, 1, none⟩) HH.out.hB _).setCell (p := ⟨b, 3, none⟩) HH.out.hB _, rfl, hs⟩
theorem heap_alloc_old' (w : World) (o : Obj) (i : Nat) (h : i < w.heap.size) : (w.alloc o).heap[i]? = w.heap[i]? := Below.heap_alloc w o i h
/-- A row of tokens more. -/
theorem Scn.push {w3 : World} {gN cap : Nat} {t : Tk} {o : Obj} (h : Scn w B b S a v tight l) (hown : w3.ownsRow B 30 4 (.slice (some ⟨gN, 0, none⟩) (l.length + 1) cap) (l.length + 1) (tkL l ++ (tkC t (a : Int)).toList)) (hg : (w.alloc o).drew.grownBy w3 v.ownBlock) :
    Scn (w3.setCell ⟨b, 2, none⟩ (.slice (some ⟨gN, 0, none⟩) (l.length + 1) cap)) B b S a (.slice (some ⟨gN, 0, none⟩) (l.length + 1) cap) tight (l ++ [(t, a)]) := by
  have hr : w3.heap[b]? = some (.cells #[.string S, .int .i64 (a : Int), v, .bool tight] 34 (0, 0)) := by
    refine (hg.block b (by show _ < (w.alloc o).heap.size; have := h.lt; simp; omega) (fun e => h.ne e.symm)).trans ((heap_alloc_old' w o b h.lt).trans h.row)
  have hne : (Value.slice (some ⟨gN, 0, none⟩) (l.length + 1) cap).ownBlock ≠ some b := fun e => by
    obtain ⟨cur, hh⟩ := own_head hown e
    rw [hr] at hh
    injection hh with hh
    injection hh with h1 h2 h3
    exact absurd h2 (by decide)
  refine ⟨h.hB, heap_setCell_same _ _ 2 _ _ _ hr, ?_⟩
  have e1 : (l ++ [(t, a)]).length = l.length + 1 := by simp
  have e2 : tkL (l ++ [(t, a)]) = tkL l ++ (tkC t (a : Int)).toList := by rw [tkL_append]; show _ ++ (_ ++ []) = _; rw [List.append_nil]
  rw [e1, e2]
  exact own_other hown fun k hk => heap_setCell_other _ _ _ _ (fun e => hne (by rw [hk]; exact congrArg some e))
end
end Go.Proofs.YtjpbbooeihdnfaaDoor
