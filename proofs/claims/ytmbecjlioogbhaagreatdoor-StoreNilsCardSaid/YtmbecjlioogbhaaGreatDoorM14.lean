/- Texts SRoom to PKeys of this seat, laid into one. -/
import Derived.Deep.Cut
import Derived.Deep.AppendLies
import Derived.Laws.AppendOwnNone
import Derived.Lib.Strings
import Derived.Deep.QuietTactic
import Derived.BigQuiet
import Derived.Deep.RegionWith
import Derived.OwnWalkIn
import Derived.Laws.EntriesVeiled
import Derived.Test.YtmbecjlioogbhaaGreatDoorM00
import Derived.Test.YtmbecjlioogbhaaGreatDoorM01
import Derived.Test.YtmbecjlioogbhaaGreatDoorM11
import Derived.Test.YtmbecjlioogbhaaGreatDoorM12
import Derived.Test.YtmbecjlioogbhaaGreatDoorM13
set_option linter.unusedVariables false
set_option linter.unusedSimpArgs false
set_option linter.constructorNameAsVariable false
section
/-! How long a record may be that can be added. -/
set_option linter.unusedSimpArgs false
namespace Go.Proofs.YtmbecjlioogbhaaGreatDoor.Sl
open Go.RowKit

section
variable {w : World} {g : Nat} {v : Value} {l : List Sl}
theorem left_le (l : List Sl) : left l ≤ 511 := by unfold left need; omega
set_option maxHeartbeats 1600000 in
theorem room_any (h : Pg0 w g v l) : Calls Tryz.prog 101 #[.pointer (some ⟨g, 0, none⟩)] w fun e w' => e = .returned (.int .i64 (room l)) ∧ Below w.heap.size w w' := by
  have HN := Lib.hid (next_any h)
  have HL : Hid (∀ w1, Below w.heap.size w w1 → Calls Tryz.prog 156 #[.pointer (some ⟨g, 0, none⟩)] w1 fun e w' => e = .returned (.int .i64 (left l)) ∧ Below w1.heap.size w1 w') := Lib.hid (fun w1 hb => left_any (h.below hb))
  obtain ⟨q, c, rfl⟩ := h.form
  have c0 := h.c0
  have hl := h.ok.len
  have hg := h.lt
  have hlt := h.ok.left
  have hle := left_le l
  have hi := bareI_le l
  clear h
  obtain ⟨N, HNN⟩ : ∃ N, Hid (l.length = N) := ⟨_, Lib.hid rfl⟩
  obtain ⟨x, HX⟩ : ∃ x, Hid (left l = x) := ⟨_, Lib.hid rfl⟩
  obtain ⟨i, HI⟩ : ∃ i, Hid (bareI l = i) := ⟨_, Lib.hid rfl⟩
  have HR : Hid (room l = if i = 64 ∨ x - (if i = N then 2 else 0) < 0 then -1 else min (x - if i = N then 2 else 0) 480) := Lib.hid (by unfold room room0; rw [HX.out, HI.out, HNN.out])
  rw [HNN.out] at c0 hl hi
  rw [HX.out] at HL hlt hle
  rw [HI.out] at HN hi
  rw [HR.out]
  clear HR HNN HX HI
  by_cases hiN : i = N
  · subst hiN
    rw [if_pos rfl]
    have e1 : ((i : Int) == (i : Int)) = true := by simp
    by_cases h64 : i = 64
    · rw [if_pos (.inl h64)]
      have e2 : ((i : Int) == 64) = true := by simp; omega
      go_enter Tryz.func101, Tryz.ntmps101
      go_wp2_with (go_at_call 155; refine HN.out.mono ?_; rintro e w1 ⟨rfl, hb⟩)
      have HB := Lib.hid hb
      clear hb
      have c1 := (HB.out.cell (p := ⟨g, 0, none⟩) hg).trans c0
      go_wp2_with (go_at_call 156; refine (HL.out _ HB.out).mono ?_; rintro e w2 ⟨rfl, hb⟩; have HB2 := Lib.hid (HB.out.trans (hb.mono HB.out.size)); clear hb c1; have c2 := (HB2.out.cell (p := ⟨g, 0, none⟩) hg).trans c0)
      go_ret
      exact ⟨rfl, HB2.out⟩
    · have e2 : ((i : Int) == 64) = false := by simp; omega
      by_cases hx : x - 2 < 0
      · rw [if_pos (.inr hx)]
        go_enter Tryz.func101, Tryz.ntmps101
        go_wp2_with (go_at_call 155; refine HN.out.mono ?_; rintro e w1 ⟨rfl, hb⟩)
        have HB := Lib.hid hb
        clear hb
        have c1 := (HB.out.cell (p := ⟨g, 0, none⟩) hg).trans c0
        go_wp2_with (go_at_call 156; refine (HL.out _ HB.out).mono ?_; rintro e w2 ⟨rfl, hb⟩; have HB2 := Lib.hid (HB.out.trans (hb.mono HB.out.size)); clear hb c1; have c2 := (HB2.out.cell (p := ⟨g, 0, none⟩) hg).trans c0)
        go_ret
        exact ⟨rfl, HB2.out⟩
      · rw [if_neg (by omega)]
        go_enter Tryz.func101, Tryz.ntmps101
        go_wp2_with (go_at_call 155; refine HN.out.mono ?_; rintro e w1 ⟨rfl, hb⟩)
        have HB := Lib.hid hb
        clear hb
        have c1 := (HB.out.cell (p := ⟨g, 0, none⟩) hg).trans c0
        go_wp2_with (go_at_call 156; refine (HL.out _ HB.out).mono ?_; rintro e w2 ⟨rfl, hb⟩; have HB2 := Lib.hid (HB.out.trans (hb.mono HB.out.size)); clear hb c1; have c2 := (HB2.out.cell (p := ⟨g, 0, none⟩) hg).trans c0)
        all_goals
          go_ret
          refine ⟨?_, HB2.out⟩
          exact congrArg (fun z : Int => Ending.returned (Value.int IntKind.i64 z)) (by omega)
  · rw [if_neg hiN]
    have e1 : ((i : Int) == (N : Int)) = false := by simp; omega
    have e2 : ((i : Int) == 64) = false := by simp; omega
    have e3 : ¬ x < 0 := by omega
    rw [if_neg (by omega)]
    have hxx : x - 0 = x := Int.sub_zero x
    rw [hxx]
    clear hxx
    go_enter Tryz.func101, Tryz.ntmps101
    go_wp2_with (go_at_call 155; refine HN.out.mono ?_; rintro e w1 ⟨rfl, hb⟩)
    have HB := Lib.hid hb
    clear hb
    have c1 := (HB.out.cell (p := ⟨g, 0, none⟩) hg).trans c0
    go_wp2_with (go_at_call 156; refine (HL.out _ HB.out).mono ?_; rintro e w2 ⟨rfl, hb⟩; have HB2 := Lib.hid (HB.out.trans (hb.mono HB.out.size)); clear hb c1; have c2 := (HB2.out.cell (p := ⟨g, 0, none⟩) hg).trans c0)
    all_goals
      go_ret
      refine ⟨?_, HB2.out⟩
      exact congrArg (fun z : Int => Ending.returned (Value.int IntKind.i64 z)) (by omega)
end
end Go.Proofs.YtmbecjlioogbhaaGreatDoor.Sl
end
section
/-! A record put in a slot's place; one dropped. -/
set_option linter.unusedSimpArgs false
namespace Go.Proofs.YtmbecjlioogbhaaGreatDoor.Sl
open Go.RowKit

/-- Block g holds a page, or what may become one. -/
structure Pgr (w : World) (g : Nat) (v : Value) (l : List Sl) : Prop where
  hd : w.heap[g]? = some (.cells #[v] 214 (0, 0))
  row : w.ownsRow 0 216 2 v l.length (flat l)
section
variable {w : World} {g : Nat} {v : Value} {l : List Sl}
theorem Pg0.raw (h : Pg0 w g v l) : Pgr w g v l := ⟨h.hd, h.row⟩
theorem Pgr.pg0 (h : Pgr w g v l) (ho : Okp l) : Pg0 w g v l := ⟨h.hd, h.row, ho⟩
theorem Pgr.c0 (h : Pgr w g v l) : w.cell? ⟨g, 0, none⟩ = some v := by rw [cell_of_row w g 0 _ _ _ h.hd]; rfl
theorem Pgr.fz (h : Pgr w g v l) : w.frozen? ⟨g, 0, none⟩ = false := frozen_of_row w g 0 _ _ h.hd
theorem Pgr.ne (h : Pgr w g v l) : ∀ k, v.ownBlock = some k → k ≠ g := fun k hk => by obtain ⟨cur, hc⟩ := own_head h.row hk; exact Ne.symm (ne_of_ty h.hd hc (by decide))
theorem Pgr.at (h : Pgr w g v l) {k : Nat} (hk : k < l.length) : ∃ b c, v = .slice (some ⟨b, 0, none⟩) l.length c ∧ l.length ≤ c ∧ w.cell? ⟨b, k * 2, none⟩ = some (.bool (slot l k).isSome) ∧ w.cell? ⟨b, k * 2 + 1, none⟩ = some (.string (recOf (slot l k))) ∧
    w.frozen? ⟨b, k * 2, none⟩ = false ∧ w.frozen? ⟨b, k * 2 + 1, none⟩ = false := by
  obtain ⟨b, c, e⟩ := own_some h.row (by omega)
  subst e
  have hr := h.row
  have hc : l.length ≤ c := by
    rcases hr.2 with ⟨e, _⟩ | ⟨g', cap, cur, e, _, _, h1, _⟩
    · cases e
    · cases e; exact h1
  obtain ⟨f1, f2⟩ := flat_get l k hk
  have a1 := hr.cellAt (k * 2) (by omega)
  have a2 := hr.cellAt (k * 2 + 1) (by omega)
  rw [f1] at a1
  rw [f2] at a2
  exact ⟨b, c, rfl, hc, a1, a2, hr.frozenAt _, hr.frozenAt _⟩
/-- A store into a page's row. -/
theorem Pgr.set {b n c j : Nat} (h : Pgr w g (.slice (some ⟨b, 0, none⟩) n c) l) (u : Value) {l' : List Sl} (hl : l'.length = l.length) (hf : (flat l).set j u = flat l') :
    Pgr (w.setCell ⟨b, j, none⟩ u) g (.slice (some ⟨b, 0, none⟩) n c) l' ∧ Chg (foot g (.slice (some ⟨b, 0, none⟩) n c)) (foot g (.slice (some ⟨b, 0, none⟩) n c)) w (w.setCell ⟨b, j, none⟩ u) := by
  have hr := h.row
  obtain ⟨q, c', e⟩ := own_form hr
  cases e
  refine ⟨⟨(heap_setCell_other _ _ _ _ (Ne.symm (h.ne b rfl))).trans h.hd, ?_⟩, Chg.setCell (by simp [foot, Value.ownBlock]) u w⟩
  have h2 := (hr.stored j u).1
  rw [hf] at h2
  rw [hl]
  exact h2
theorem Pgr.set2 {b n c k : Nat} (h : Pgr w g (.slice (some ⟨b, 0, none⟩) n c) l) (hk : k < l.length) (o : Sl) :
    Pgr ((w.setCell ⟨b, k * 2, none⟩ (.bool o.isSome)).setCell ⟨b, k * 2 + 1, none⟩ (.string (recOf o))) g (.slice (some ⟨b, 0, none⟩) n c) (l.set k o) ∧
      Chg (foot g (.slice (some ⟨b, 0, none⟩) n c)) (foot g (.slice (some ⟨b, 0, none⟩) n c)) w ((w.setCell ⟨b, k * 2, none⟩ (.bool o.isSome)).setCell ⟨b, k * 2 + 1, none⟩ (.string (recOf o))) := by
  have hr := h.row
  obtain ⟨q, c', e⟩ := own_form hr
  cases e
  have n1 := Ne.symm (h.ne b rfl)
  refine ⟨⟨(heap_setCell_other _ _ _ _ n1).trans ((heap_setCell_other _ _ _ _ n1).trans h.hd), ?_⟩, (Chg.setCell (by simp [foot, Value.ownBlock]) _ w).trans (Chg.setCell (by simp [foot, Value.ownBlock]) _ _)⟩
  have h2 := (((hr.stored (k * 2) (.bool o.isSome)).1).stored (k * 2 + 1) (.string (recOf o))).1
  rw [flat_set l k o hk] at h2
  rw [show (l.set k o).length = l.length by simp]
  exact h2
end
section
variable {w : World} {g : Nat} {v : Value} {l : List Sl}
end
end Go.Proofs.YtmbecjlioogbhaaGreatDoor.Sl
end
section
/-! A slot made bare. -/
set_option linter.unusedSimpArgs false
namespace Go.Proofs.YtmbecjlioogbhaaGreatDoor.Sl
open Go.RowKit

section
variable {w : World} {g : Nat} {v : Value} {l : List Sl}
/-- Amid the loop. -/
structure Dl (w wr : World) (g b c n : Nat) (F : List Nat) (l : List Sl) : Prop where
  raw : Pgr wr g (.slice (some ⟨b, 0, none⟩) n c) (l.take n)
  chg : Chg F F w wr
  bare : ∀ j, n ≤ j → slot l j = none
  foot : F = foot g (.slice (some ⟨b, 0, none⟩) n c)
  le : n ≤ l.length
  cap : l.length ≤ c
theorem Dl.ends {w wr : World} {g b c n : Nat} {F : List Nat} {l : List Sl} (h : Dl w wr g b c n F l) (hs : 0 < n → (slot l (n - 1)).isSome = true) (ho : Okp (trim l)) : Went F g (trim l) w wr := by
  have e : trim l = l.take n := by rw [trim_take h.le (fun j h1 _ => h.bare j h1), trim_stop h.le hs]
  rw [e] at ho ⊢
  refine ⟨F, ⟨_, h.raw.pg0 ho, h.foot⟩, h.chg⟩
end
end Go.Proofs.YtmbecjlioogbhaaGreatDoor.Sl
end
section
/-! A record added. -/
set_option linter.unusedSimpArgs false
namespace Go.Proofs.YtmbecjlioogbhaaGreatDoor.Sl
open Go.RowKit

theorem infoS : (Tryz.prog.info? 216).map (fun i => (i.zero, i.size, i.bytes)) = some (some (.agg #[.bool false, .string ⟨#[]⟩]), 2, 24) := by kernel_rfl
section
variable {w : World} {g : Nat} {v : Value} {l : List Sl}
/-- A bare slot behind the last one. -/
theorem Pgr.snoc {w w3 : World} {g gN cap : Nat} {v : Value} {l : List Sl} {o : Obj} (h : Pgr w g v l)
    (hown : w3.ownsRow 0 216 2 (.slice (some ⟨gN, 0, none⟩) (l.length + 1) cap) (l.length + 1) (flat l ++ [.bool false, .string ⟨#[]⟩]))
    (hgrow : (w.alloc o).grownBy w3 v.ownBlock) (hat : v.ownBlock = some gN ∨ gN = w.heap.size + 1) :
    Pgr (w3.setCell ⟨g, 0, none⟩ (.slice (some ⟨gN, 0, none⟩) (l.length + 1) cap)) g (.slice (some ⟨gN, 0, none⟩) (l.length + 1) cap) (l ++ [none]) ∧
      Chg (foot g v) (foot g (.slice (some ⟨gN, 0, none⟩) (l.length + 1) cap)) w (w3.setCell ⟨g, 0, none⟩ (.slice (some ⟨gN, 0, none⟩) (l.length + 1) cap)) := by
  have hglt : g < w.heap.size := lt_of_block h.hd
  have hgN : gN ≠ g := by
    rcases hat with e | e
    · exact h.ne _ e
    · omega
  have hsz : w.heap.size ≤ w3.heap.size := Nat.le_trans (by simp) hgrow.size
  have h3 : ∀ k, k < w.heap.size → v.ownBlock ≠ some k → w3.heap[k]? = w.heap[k]? := fun k hk hne =>
    (hgrow.block k (by simp; omega) (fun e => hne e.symm)).trans (Below.heap_alloc w o k hk)
  refine ⟨⟨heap_setCell_same w3 g 0 _ _ _ ((h3 g hglt (fun e => h.ne g e rfl)).trans h.hd), ?_⟩, ⟨hgrow.os, hgrow.tape, hgrow.output, by simpa using hsz, fun k hk hne => ?_, fun k hk => ?_⟩⟩
  · rw [List.length_append, flat_append, flat_one]
    exact own_other hown (fun k hk => by cases hk; exact heap_setCell_other _ _ _ _ hgN)
  · have h1 : k ≠ g := fun e => hne (by simp [foot, e])
    have h2 : v.ownBlock ≠ some k := fun e => hne (by simp [foot, e])
    exact (heap_setCell_other _ _ _ _ h1).trans (h3 k hk h2)
  · simp only [foot, List.mem_cons, Option.mem_toList] at hk ⊢
    rcases hk with e | e
    · exact .inl (.inl e)
    · have e2 : gN = k := by simpa [Value.ownBlock] using e
      subst e2
      rcases hat with e3 | e3
      · exact .inl (.inr e3)
      · exact .inr (by omega)
/-- What the region behind Add's tests leaves. -/
theorem Pgr.done {w w' : World} {g : Nat} {v : Value} {l' : List Sl} {F : List Nat} (h : Pgr w' g v l') (hc : Chg F (foot g v) w w') (ho : Okp l') : Went F g l' w w' := ⟨_, (h.pg0 ho).pg, hc⟩
set_option maxHeartbeats 3200000 in
theorem add_any (h : Pg0 w g v l) (r : ByteArray) (hr : r.size ≤ 9223372036854775807) : Calls Tryz.prog 107 #[.pointer (some ⟨g, 0, none⟩), .string r] w fun e w' => e = .returned (.tuple #[.int .i64 (addN l r : Int), .int .i64 (addE l r : Int)]) ∧ Went (foot g v) g (addL l r) w w' := by
  have HP := Lib.hid h
  by_cases h4 : 480 < r.size
  · have hd : decide ((480 : Int) < (r.size : Int)) = true := by simp; omega
    rw [show addE l r = 2 by unfold addE; rw [if_pos h4], show addL l r = l by unfold addL; rw [if_pos h4], show addN l r = 0 by unfold addN; rw [if_pos h4]]
    clear h h4
    go_enter Tryz.func107, Tryz.ntmps107
    go_wp2_with fail
    go_ret2
    exact ⟨rfl, Went.refl HP.out.pg⟩
  · have hd : decide ((480 : Int) < (r.size : Int)) = false := by simp; omega
    have HR : Hid (∀ w1, Below w.heap.size w w1 → Calls Tryz.prog 101 #[.pointer (some ⟨g, 0, none⟩)] w1 fun e w' => e = .returned (.int .i64 (room l)) ∧ Below w1.heap.size w1 w') := Lib.hid (fun w1 hb => room_any (h.below hb))
    have hrf := room_full h.ok.len r (by omega)
    by_cases hf : addFull l r = true
    · have hd2 : decide (room l < (r.size : Int)) = true := by rw [← hrf]; exact hf
      rw [show addE l r = 8 by unfold addE; rw [if_neg h4, if_pos hf], show addL l r = l by unfold addL; rw [if_neg h4, if_pos hf], show addN l r = 0 by unfold addN; rw [if_neg h4, if_pos hf]]
      clear h h4 hrf hf
      generalize room l = x at *
      go_enter Tryz.func107, Tryz.ntmps107
      go_wp2_with (go_at_call 101; refine (HR.out _ (Below.refl _ _)).mono ?_; rintro e w1 ⟨rfl, hb⟩)
      go_ret2
      exact ⟨rfl, Went.below HP.out.pg hb⟩
    · have hd2 : decide (room l < (r.size : Int)) = false := by rw [← hrf]; simpa using hf
      have HN : Hid (∀ w1, Below w.heap.size w w1 → Calls Tryz.prog 155 #[.pointer (some ⟨g, 0, none⟩)] w1 fun e w' => e = .returned (.int .i64 (bareI l : Int)) ∧ Below w1.heap.size w1 w') := Lib.hid (fun w1 hb => next_any (h.below hb))
      have HOK : Hid (Okp (addL l r)) := Lib.hid (h.ok.add r)
      have hE : addL l r = withL l (bareI l) (some r) := by unfold addL; rw [if_neg h4, if_neg hf]
      rw [show addE l r = 0 by unfold addE; rw [if_neg h4, if_neg hf], show addN l r = bareI l by unfold addN; rw [if_neg h4, if_neg hf]]
      have hbl := bareI_le l
      have hN := h.ok.len
      obtain ⟨i, HI⟩ : ∃ i, Hid (bareI l = i) := ⟨_, Lib.hid rfl⟩
      rw [HI.out] at hE hbl HN ⊢
      obtain ⟨i0, hi0, hz0, hz1, hz2⟩ := info_parts infoS
      have HI0 := Lib.hid hi0
      have HZ0 := Lib.hid hz0
      have HZ1 := Lib.hid hz1
      have HZ2 := Lib.hid hz2
      by_cases hlt : i < l.length
      · rw [show addL l r = l.set i (some r) by rw [hE]; unfold withL; rw [if_neg (by omega)]] at HOK ⊢
        have HK := Lib.hid hlt
        obtain ⟨b, c, e, hc, _⟩ := h.raw.at hlt
        subst e
        obtain ⟨N, HNN⟩ : ∃ N, Hid (l.length = N) := ⟨_, Lib.hid rfl⟩
        rw [HNN.out] at hlt hN hc hbl HP ⊢
        have he : ((i : Int) == (N : Int)) = false := by simp; omega
        have hiN : (i : Int) < (N : Int) := by omega
        clear h h4 hrf hf hE hi0 hz0 hz1 hz2
        generalize room l = x at *
        go_enter Tryz.func107, Tryz.ntmps107
        go_wp2_with (go_at_call 101; refine (HR.out _ (Below.refl _ _)).mono ?_; rintro e w1 ⟨rfl, hb⟩; have HB := Lib.hid hb; clear hb)
        refine (HN.out _ HB.out).mono ?_
        rintro e w2 ⟨rfl, hb⟩
        have HB2 := Lib.hid (HB.out.trans (hb.mono HB.out.size))
        clear hb
        have HP2 := Lib.hid (HP.out.below HB2.out)
        have c0 := HP2.out.c0
        obtain ⟨b', c', e', _, x1, x2, f1, f2⟩ := HP2.out.raw.at HK.out
        rw [HNN.out] at e'
        cases e'
        go_wp2_with fail
        go_ret2
        have h2 := HP2.out.raw.set2 HK.out (some r)
        exact ⟨rfl, h2.1.done ((Chg.of_below HB2.out).trans h2.2) HOK.out⟩
      · obtain rfl : i = l.length := by omega
        rw [show addL l r = l ++ [some r] by rw [hE]; unfold withL; rw [if_pos rfl]] at HOK ⊢
        obtain ⟨q, c, e⟩ := h.form
        subst e
        obtain ⟨N, HNN⟩ : ∃ N, Hid (l.length = N) := ⟨_, Lib.hid rfl⟩
        rw [HNN.out] at hN HN HP ⊢
        have he : ((N : Int) == (N : Int)) = true := by simp
        have hiN : (N : Int) < (N : Int) + 1 := by omega
        clear h h4 hrf hf hE hi0 hz0 hz1 hz2 hbl hlt
        generalize room l = x at *
        go_enter Tryz.func107, Tryz.ntmps107
        go_wp2_with (go_at_call 101; refine (HR.out _ (Below.refl _ _)).mono ?_; rintro e w1 ⟨rfl, hb⟩; have HB := Lib.hid hb; clear hb)
        refine (HN.out _ HB.out).mono ?_
        rintro e w2 ⟨rfl, hb⟩
        have HB2 := Lib.hid (HB.out.trans (hb.mono HB.out.size))
        clear hb
        have HP2 := Lib.hid (HP.out.below HB2.out)
        have c0 := HP2.out.c0
        have cf := HP2.out.fz
        have hglt := HP2.out.lt
        have hrow : (w2.alloc (.cells #[.bool false, .string ⟨#[]⟩] 216)).ownsRow 0 216 2 (.slice q N c) N (flat l) := by have := HP2.out.row.alloc (.cells #[.bool false, .string ⟨#[]⟩] 216); rwa [HNN.out] at this
        have HROW := Lib.hid hrow
        clear hrow
        go_wp2_with (at_builtin; refine wpList_append_lies _ rfl (.tmp 33) (.tmp 35) 212 rfl 0 216 i0 (.agg #[.bool false, .string ⟨#[]⟩]) 2 24 Tryz.underlying212 HI0.out HZ0.out HZ1.out HZ2.out rfl (by decide) (.slice q N c) N (flat l) (by rfl) HROW.out ⟨w2.heap.size, 0, none⟩ 1 1 [.bool false, .string ⟨#[]⟩] (by rfl) rfl (cell_two_new w2 _ _ _) (by decide) (by omega) (by unfold maxLen; omega) (by omega) (Nat.zero_le _) (w2.heap.size + 1) (by simp) ?_)
        intro gN cap w3 hown hgrow hat hlt3
        rw [← HNN.out] at hown
        have hs := HP2.out.raw.snoc hown hgrow hat
        rw [HNN.out] at hs
        have HS := Lib.hid hs
        have c3 : w3.cell? ⟨g, 0, none⟩ = some (.slice q N c) := by
          have hne : some g ≠ (Value.slice q N c).ownBlock := fun e => HP2.out.raw.ne g e.symm rfl
          exact (hgrow.cell_far ⟨g, 0, none⟩ (by simp; omega) hne).trans (((Below.refl w2.heap.size w2).alloc (Nat.le_refl _) _).cell (p := ⟨g, 0, none⟩) hglt |>.trans c0)
        have f3 : w3.frozen? ⟨g, 0, none⟩ = false := by
          have hne : some g ≠ (Value.slice q N c).ownBlock := fun e => HP2.out.raw.ne g e.symm rfl
          exact (hgrow.frozen_far ⟨g, 0, none⟩ (by simp; omega) hne).trans (((Below.refl w2.heap.size w2).alloc (Nat.le_refl _) _).frozen (p := ⟨g, 0, none⟩) hglt |>.trans cf)
        obtain ⟨b', c', e', hcc, x1, x2, y1, y2⟩ := hs.1.at (k := N) (by simp [HNN.out])
        rw [List.length_append, HNN.out] at e'
        cases e'
        clear hs hown hgrow hat hlt3 c0 cf
        go_upto_region 10 with fail
        generalize w3.setCell ⟨g, 0, none⟩ (.slice (some ⟨gN, 0, none⟩) (N + 1) cap) = w4 at *
        have c0 := HS.out.1.c0
        clear c3 f3
        go_wp2_with fail
        go_ret2
        have h2 := HS.out.1.set2 (k := N) (by simp [HNN.out]) (some r)
        have h3 : (l ++ [none]).set N (some r) = l ++ [some r] := by rw [← HNN.out]; simp
        rw [h3] at h2
        exact ⟨rfl, h2.1.done ((Chg.of_below HB2.out).trans (HS.out.2.trans h2.2)) HOK.out⟩
end
end Go.Proofs.YtmbecjlioogbhaaGreatDoor.Sl
end
section
/-! The document's list of slots: its small calls. -/
set_option linter.unusedSimpArgs false
namespace Go.Proofs.YtmbecjlioogbhaaGreatDoor.Sl
open Go.RowKit

section
variable {w : World} {v : Value} {l : List Sl}
end
end Go.Proofs.YtmbecjlioogbhaaGreatDoor.Sl
end
section
/-! A page's bytes, as the document tells them. -/
set_option linter.unusedSimpArgs false
namespace Go.Proofs.YtmbecjlioogbhaaGreatDoor.Sl
open Go.RowKit

section
variable {w : World} {v : Value} {l : List Sl}
end
end Go.Proofs.YtmbecjlioogbhaaGreatDoor.Sl
end
section
/-! The page of bytes. -/
set_option linter.unusedSimpArgs false
namespace Go.Proofs.YtmbecjlioogbhaaGreatDoor.Sl
open Go.RowKit

def byteAt (S : ByteArray) (i : Nat) : Nat := (nums S).getD i 0
theorem index_any (S : ByteArray) (i : Nat) (hi : i < S.size) (w : World) :
    (Instr.index 9 (.string S) (.int .i64 (i : Int))).run Tryz.prog w = .ok (.int .u8 (byteAt S i : Int)) w := by
  rw [run_index_string w 9 S .i64 i Tryz.underlying9, dif_pos ⟨by omega, by omega⟩]
  have e : byteAt S i = (S[i]'hi).toNat := by
    unfold byteAt nums
    have h1 : S[i]'hi = S.data.toList[i]'(by rw [Array.length_toList]; exact hi) := rfl
    rw [List.getD_eq_getElem?_getD, List.getElem?_map, List.getElem?_eq_getElem (by rw [Array.length_toList]; exact hi), h1]
    rfl
  rw [e]
  rfl
end Go.Proofs.YtmbecjlioogbhaaGreatDoor.Sl
end
section
/-! What is trimmed of zeros. -/
set_option linter.unusedSimpArgs false
namespace Go.Proofs.YtmbecjlioogbhaaGreatDoor.Sl
open Go.RowKit

/-- Zeros cut off behind. -/
structure TrR (S T : ByteArray) : Prop where
  le : T.size ≤ S.size
  same : ∀ j, j < T.size → byteAt T j = byteAt S j
  zero : ∀ j, T.size ≤ j → j < S.size → byteAt S j = 0
  last : 0 < T.size → byteAt T (T.size - 1) ≠ 0
theorem TrR.nil_ {S : ByteArray} (h : S.size = 0) : TrR S S := ⟨Nat.le_refl _, fun _ _ => rfl, fun j h1 h2 => by omega, fun h2 => by omega⟩
/-- All zeros. -/
def allZ (S : ByteArray) : Prop := ∀ j, j < S.size → byteAt S j = 0
end Go.Proofs.YtmbecjlioogbhaaGreatDoor.Sl
end
section
/-! Texts in one. -/
set_option maxRecDepth 20000
set_option linter.unusedSimpArgs false
namespace Go.Proofs.YtmbecjlioogbhaaGreatDoor
open Go.RowKit

end Go.Proofs.YtmbecjlioogbhaaGreatDoor
end
section
/-! The first bytes of pages' texts. -/
set_option maxRecDepth 20000
set_option linter.unusedSimpArgs false
namespace Go.Proofs.YtmbecjlioogbhaaGreatDoor
open Go.RowKit

end Go.Proofs.YtmbecjlioogbhaaGreatDoor
end
section
/-! The pages that a state lies on, told by labels: 0 is the directory, 1 to 4 the leaves, 5 and on the logical pages. -/
set_option maxRecDepth 20000
set_option linter.unusedSimpArgs false
namespace Go.Proofs.YtmbecjlioogbhaaGreatDoor
open Go.RowKit

def lab (r : Rt) (lv tb : Nat → Nat) (n : Nat) : Nat := if n = 0 then r.dr.toNat else if n < 5 then lv (n - 1) else tb (n - 5)
theorem lab_dir (r : Rt) (lv tb : Nat → Nat) : lab r lv tb 0 = r.dr.toNat := rfl
theorem lab_lv (r : Rt) (lv tb : Nat → Nat) (i : Nat) (h : i < 4) : lab r lv tb (i + 1) = lv i := by unfold lab; rw [if_neg (by omega), if_pos (by omega)]; rfl
theorem lab_tb (r : Rt) (lv tb : Nat → Nat) (l : Nat) : lab r lv tb (l + 5) = tb l := by unfold lab; rw [if_neg (by omega), if_neg (by omega)]; rfl
/-- The pages of a row of labels. -/
def labs (P : Nat → Nat) (l : List Nat) : List Int := (l.filter fun n => !(P n == 0)).map fun n => ((P n : Nat) : Int)
theorem labs_app (P : Nat → Nat) (a b : List Nat) : labs P (a ++ b) = labs P a ++ labs P b := by unfold labs; rw [List.filter_append, List.map_append]
theorem labs_map (P Q : Nat → Nat) (f : Nat → Nat) (l : List Nat) (h : ∀ n ∈ l, P (f n) = Q n) : labs P (l.map f) = labs Q l := by
  unfold labs
  induction l with
  | nil => rfl
  | cons x l ih =>
    have hx := h x (by simp)
    have ih := ih (fun n hn => h n (by simp [hn]))
    rw [List.map_cons, List.filter_cons, List.filter_cons, hx]
    cases e : !(Q x == 0)
    · simp only [Bool.false_eq_true, if_false]; exact ih
    · simp only [if_true, List.map_cons, hx]; rw [ih]
theorem claims_labs (r : Rt) (lv tb : Nat → Nat) (hd : 2 ≤ r.dr) : claims r lv tb = labs (lab r lv tb) (List.range 517) := by
  have e : List.range 517 = [0] ++ ((List.range 4).map (fun i => i + 1) ++ (List.range 512).map (fun l => l + 5)) := by decide +kernel
  rw [e, labs_app, labs_app, labs_map (lab r lv tb) lv (fun i => i + 1) _ (fun n hn => lab_lv r lv tb n (List.mem_range.1 hn)), labs_map (lab r lv tb) tb (fun l => l + 5) _ (fun n _ => lab_tb r lv tb n)]
  have h0 : labs (lab r lv tb) [0] = [r.dr] := by
    unfold labs
    rw [List.filter_cons, lab_dir]
    have : (r.dr.toNat == 0) = false := by rw [beq_eq_false_iff_ne]; omega
    rw [this]
    simp [lab_dir]; omega
  rw [h0]
  unfold claims labs
  rfl
theorem clm_ok {pg : Int} {f : Nat → Bool} {x : Nat} (h : (x : Int) < pg) (hp : pg ≤ 512) (hf : f x = false) : clm pg (f, true) (x : Int) = (Bi.upd f x true, true) := by
  unfold clm
  rw [if_pos h]
  have hx : (0 : Int) ≤ (x : Int) ∧ (x : Int) < ((512 : Nat) : Int) := by omega
  unfold Bi.putI Bi.newI
  rw [if_pos hx, decide_eq_true hx]
  unfold Bi.hasI
  simp [hf]
/-- Each label's page is one of the space's, and its alone. -/
structure Apart (P : Nat → Nat) (l : List Nat) (pg : Int) : Prop where
  lt : ∀ n ∈ l, P n ≠ 0 → (P n : Int) < pg
  inj : ∀ n ∈ l, ∀ k ∈ l, P n ≠ 0 → P n = P k → n = k
/-- Is this page among a row's? -/
def inL (P : Nat → Nat) (l : List Nat) (p : Nat) : Bool := l.any fun n => P n == p && !(p == 0)
theorem inL_iff {P : Nat → Nat} {l : List Nat} {p : Nat} : inL P l p = true ↔ p ≠ 0 ∧ ∃ n ∈ l, P n = p := by
  unfold inL
  rw [List.any_eq_true]
  constructor
  · rintro ⟨n, hn, h⟩
    simp at h
    exact ⟨h.2, n, hn, h.1⟩
  · rintro ⟨h0, n, hn, h⟩
    exact ⟨n, hn, by simp [h, h0]⟩
theorem fold_labs {P : Nat → Nat} {pg : Int} (hp : pg ≤ 512) : ∀ (l : List Nat) (f : Nat → Bool), l.Nodup → Apart P l pg → (∀ n ∈ l, P n ≠ 0 → f (P n) = false) →
    (labs P l).foldl (clm pg) (f, true) = ((fun p => f p || inL P l p), true)
  | [], f, _, _, _ => by
    unfold labs inL; simp
  | x :: l, f, hn, hA, hf => by
    obtain ⟨hx, hn2⟩ := List.nodup_cons.1 hn
    have hA2 : Apart P l pg := ⟨fun n h => hA.lt n (by simp [h]), fun n h k hk => hA.inj n (by simp [h]) k (by simp [hk])⟩
    by_cases h0 : P x = 0
    · have e : labs P (x :: l) = labs P l := by unfold labs; rw [List.filter_cons, h0]; rfl
      rw [e, fold_labs hp l f hn2 hA2 (fun n h => hf n (by simp [h]))]
      congr 1
      funext p
      congr 1
      unfold inL
      rw [List.any_cons, h0]
      cases e2 : ((0 : Nat) == p && !(p == 0))
      · simp
      · simp at e2; omega
    · have e : labs P (x :: l) = ((P x : Nat) : Int) :: labs P l := by
        unfold labs
        rw [List.filter_cons]
        have : (!(P x == 0)) = true := by simp [h0]
        rw [if_pos this]; rfl
      rw [e, List.foldl_cons, clm_ok (hA.lt x (by simp) h0) hp (hf x (by simp) h0), fold_labs hp l _ hn2 hA2 (fun n h hz => by
        have hne : P n ≠ P x := fun e => hx (by rw [← hA.inj n (by simp [h]) x (by simp) hz e]; exact h)
        rw [Bi.upd_other _ _ _ _ hne]
        exact hf n (by simp [h]) hz)]
      congr 1
      funext p
      unfold inL
      rw [List.any_cons]
      by_cases e2 : p = P x
      · subst e2
        rw [Bi.upd_same]
        simp [h0]
      · rw [Bi.upd_other _ _ _ _ e2]
        have : (P x == p) = false := by rw [beq_eq_false_iff_ne]; exact fun h => e2 h.symm
        rw [this]
        simp
/-- The pages of a state, as truths. -/
def usF (r : Rt) (lv tb : Nat → Nat) : Nat → Bool := inL (lab r lv tb) (List.range 517)
abbrev ApartS (r : Rt) (lv tb : Nat → Nat) : Prop := Apart (lab r lv tb) (List.range 517) r.pg
theorem pgsM_yes {r : Rt} {lv tb : Nat → Nat} (hd : 2 ≤ r.dr) (hp : r.pg ≤ 512) (hA : ApartS r lv tb) : pgsM r lv tb = (usF r lv tb, true) := by
  unfold pgsM
  rw [claims_labs r lv tb hd, fold_labs hp _ _ List.nodup_range hA (fun _ _ _ => rfl)]
  congr 1
theorem usF_iff {r : Rt} {lv tb : Nat → Nat} {p : Nat} : usF r lv tb p = true ↔ p ≠ 0 ∧ ∃ n, n < 517 ∧ lab r lv tb n = p := by
  unfold usF
  rw [inL_iff]
  simp only [List.mem_range]
end Go.Proofs.YtmbecjlioogbhaaGreatDoor
end
section
/-! The pages that may be taken, collected into a row. -/
set_option maxRecDepth 20000
set_option linter.unusedSimpArgs false
namespace Go.Proofs.YtmbecjlioogbhaaGreatDoor
open Go.RowKit Go.Shelf
attribute [local go_sem] Oper.semAt_some

/-- The box of a row that grows. -/
def ColAt (B0 Bs : Nat) (pre : List Nat) (W : World) : Prop := ∃ v, W.heap[Bs]? = some (.cells #[v] 47 (0, 0)) ∧ OwnI W B0 v pre
theorem ColAt.own (B0 Bs : Nat) : Own (ColAt B0 Bs) := fun s W W' row hs hg hr => by
  obtain ⟨v, hv, ho⟩ := hs
  refine ⟨v, (hg.block Bs (lt_of_block hv) (fun e => ?_)).trans hv, ho.kept hg ?_⟩
  · obtain ⟨o, h1, h2⟩ := hr Bs e.symm
    rw [hv] at h1; cases h1; cases h2
  · rcases ho.2 with ⟨rfl, _⟩ | ⟨g, cap, cur, rfl, _, hgb, _⟩
    · exact .inl rfl
    · refine .inr fun e => ?_
      obtain ⟨o, h1, h2⟩ := hr g e.symm
      rw [hgb] at h1; cases h1; cases h2
set_option maxRecDepth 100000 in
set_option maxHeartbeats 3200000 in
theorem seq_free {w : World} {B1 B2 g gh bh pg : Nat} {r : Rt} {held : Nat → Bool} (hF : FrK w B1 B2 g gh bh r held) (hr : r.pg = (pg : Int)) (hpg : pg ≤ 512) :
    Calls Tryz.prog 172 #[.slice none 0 0, .func (.func 170) #[] #[.pointer (some ⟨B1, 0, none⟩), .pointer (some ⟨B2, 0, none⟩)]] w fun e w' => (∃ v, e = .returned v ∧ OwnI w' w.heap.size v (Tb.mems (frB held) pg)) ∧ Below w.heap.size w w' := by
  obtain ⟨i0, hi, hz0, hz1, hz2⟩ := info_parts Tb.Tryz.info3
  have HI := Lib.hid hi
  have HZ0 := Lib.hid hz0
  have HZ1 := Lib.hid hz1
  have HZ2 := Lib.hid hz2
  have HF := Lib.hid hF
  have HL := Lib.hid hF.lt
  clear hi hz0 hz1 hz2 hF
  refine (callsIn_wide (n := 5)).1 ?_
  refine callsIn_of_wp_marks Tryz.func172 rfl trivial ?_ rfl
  simp only [Tryz.ntmps172, List.size_toArray, List.length_cons, List.length_nil, Nat.reduceAdd, Nat.reduceSub, Array.replicate_succ, Array.replicate_zero, List.push_toArray, List.append_toArray, List.nil_append, List.cons_append]
  gi_wp2
  have hb1 := alloc_below w (.cells #[.slice none 0 0] 47)
  have hv0 : (w.alloc (.cells #[.slice none 0 0] 47)).heap[w.heap.size]? = some (.cells #[.slice none 0 0] 47 (0, 0)) := heap_alloc_new w _
  have hF1 := HF.out.keep (Keep.of_below hb1 HL.out)
  have hsz : w.heap.size < (w.alloc (.cells #[.slice none 0 0] 47)).heap.size := by simp
  generalize w.alloc (.cells #[.slice none 0 0] 47) = w7 at *
  have hL : ∀ k ∈ [B1, B2, g, gh, bh], k ≠ w.heap.size := fun k hk => by have := HL.out k hk; omega
  have HLT := Lib.hid hF1.lt
  refine wpIn_rangeFunc_ownG rfl (by omega) (gf := 170) (lb := #[.pointer (some ⟨B1, 0, none⟩), .pointer (some ⟨B2, 0, none⟩)]) rfl trivial (enters_of Tryz.func170 (by kernel_rfl) rfl)
    (free_stops 4 (by omega) B1 B2 g gh bh pg r hr hpg held w7 hF1) Keep.trans (Keep.put HLT.out) (Below.refl _ _) (fun _ => rfl)
    (fun pre W => ColAt w.heap.size w.heap.size pre W ∧ Below w.heap.size w W)
    (fun _ _ _ => False)
    (OwnFrom.and (Own.from (ColAt.own _ _) _) (ownFrom_below (by omega) (by omega)))
    (fun c => ownFrom_pure _ _)
    ⟨⟨_, hv0, World.ownsRow_nil _ _ _ _⟩, hb1⟩
    (fun x => { tmps := #[.slice none 0 0, .func (.func 170) #[] #[.pointer (some ⟨B1, 0, none⟩), .pointer (some ⟨B2, 0, none⟩)], .pointer (some ⟨w.heap.size, 0, none⟩), undef, .slice none 0 0, .int .i64 (x : Int), .func (.func 170) #[] #[.pointer (some ⟨B1, 0, none⟩), .pointer (some ⟨B2, 0, none⟩)], .int .i64 (x : Int), undef, undef, undef, undef, undef], defers := [] }) ?assign ?body ?done ?stop
  case assign =>
    intro l x W K hK
    gi_wp2
    first
      | exact hK
      | (simp; exact hK)
  case body =>
    rintro l pre x W ⟨⟨v, hv, ho⟩, hB2⟩ hlen
    have c0 : W.cell? ⟨w.heap.size, 0, none⟩ = some v := by rw [cell_of_row _ _ _ _ _ _ hv]; rfl
    have f0 : W.frozen? ⟨w.heap.size, 0, none⟩ = false := frozen_of_row _ _ 0 _ _ hv
    have HO := Lib.hid ho
    have HV := Lib.hid hv
    have HB2 := Lib.hid hB2
    have HLN := Lib.hid hlen
    clear hv ho hB2 hlen
    gi_wp2_with (first
      | (gi_at_builtin; refine wpListIn_append_own _ rfl _ _ 47 rfl w.heap.size 3 i0 (.int .i64 0) 1 8 Tryz.underlying47 HI.out HZ0.out HZ1.out HZ2.out rfl (by decide) _ _ _ rfl (World.ownsRow.alloc HO.out _) ⟨W.heap.size, 0, none⟩ 1 1 [.int .i64 (x : Int)] rfl rfl (cell_one_new W _ _) ?c2 ?c3 ?c4 ?c5 ?_
         case c2 => intro u hu; simp at hu; subst hu; rfl
         case c3 => unfold maxLen; have := HLN.out; omega
         case c4 => have := HLN.out; omega
         case c5 => have := HB2.out.size; simp; omega
         intro v' W3 hown hg3 _
         have hne : some w.heap.size ≠ v.ownBlock := fun e => by
           rcases HO.out.2 with ⟨rfl, _⟩ | ⟨g1, cap1, cur1, rfl, _, hgb, _⟩
           · cases e
           · have e2 : w.heap.size = g1 := by simpa [Value.ownBlock] using e
             rw [← e2, HV.out] at hgb
             cases hgb
         have hb4 : w.heap.size < W.heap.size := lt_of_block HV.out
         have hv3 : W3.heap[w.heap.size]? = some (.cells #[v] 47 (0, 0)) := (hg3.block _ (by simp; omega) hne).trans (((alloc_below W _).block _ hb4).trans HV.out)
         have HB3 := Lib.hid ((HB2.out.alloc HB2.out.size (.cells #[.int .i64 (x : Int)] 3)).grown hg3 (by have := HB2.out.size; simp; omega) (fun j e => (World.ownsRow.lt HO.out j e).1))
         have HKW : Hid (KeepsOthers W W3) := Lib.hid ((KeepsOthers.alloc W (.cells #[.int .i64 (x : Int)] 3)).trans (KeepsOthers.of_grownBy hg3 (fun j o e ho => by
           rcases (World.ownsRow.alloc HO.out (.cells #[.int .i64 (x : Int)] 3)).2 with ⟨rfl, _⟩ | ⟨g1, cap1, cur1, rfl, _, hgb, _⟩
           · cases e
           · have e1 : (some g1 : Option Nat) = some j := e
             have e2 : g1 = j := by simpa using e1
             rw [← e2, hgb] at ho
             cases ho; rfl)))
         have HKK : Hid (Keep [B1, B2, g, gh, bh] W W3) := Lib.hid (fun k hk => by
           have hk1 := HL.out k hk
           exact (hg3.block k (by have := HB2.out.size; simp; omega) (fun e => by have := (World.ownsRow.lt HO.out k e.symm).1; omega)).trans ((alloc_below W _).block k (by have := HB2.out.size; omega)))
         have HOW := Lib.hid hown
         obtain ⟨g', cap', rfl⟩ : ∃ g' cap', v' = .slice (some ⟨g', 0, none⟩) (pre.length + 1) cap' := by
           rcases hown.2 with ⟨_, h0⟩ | ⟨g1, cap1, cur1, rfl, _⟩
           · omega
           · exact ⟨_, _, rfl⟩
         clear hown hg3 hne hb4
         have c3 : W3.cell? ⟨w.heap.size, 0, none⟩ = some v := by rw [cell_of_row _ _ _ _ _ _ hv3]; rfl
         have f3 : W3.frozen? ⟨w.heap.size, 0, none⟩ = false := frozen_of_row _ _ 0 _ _ hv3
         )
      | fail)
    refine ⟨(HKW.out.trans (KeepsOthers.setCell _ _ _)).from _, HKK.out.trans (Keep.setCell hL _ _), ⟨_, heap_setCell_same _ w.heap.size 0 _ 47 _ hv3, ?_⟩, HB3.out.setCell (p := ⟨w.heap.size, 0, none⟩) (Nat.le_refl _) _⟩
    have h1 := HOW.out.kept (grownBy_setCell' W3 w.heap.size (.slice (some ⟨g', 0, none⟩) (pre.length + 1) cap')) (.inr (fun e => by
      rcases HOW.out.2 with ⟨_, h0⟩ | ⟨g1, cap1, cur1, e1, _, hgb, _⟩
      · omega
      · have e2 : g' = w.heap.size := by simpa [Value.ownBlock] using e
        have e3 : g' = g1 := by simpa using (Value.slice.inj e1).1
        rw [← e3, e2, hv3] at hgb
        cases hgb))
    unfold OwnI
    rw [List.length_append, show Tb.ivs (pre ++ [x]) = Tb.ivs pre ++ [.int .i64 (x : Int)] by unfold Tb.ivs; rw [List.map_append]; rfl]
    exact h1
  case done =>
    rintro D ys W hD rfl ⟨⟨v, hv, ho⟩, hB2⟩ hK
    have c0 : W.cell? ⟨w.heap.size, 0, none⟩ = some v := by rw [cell_of_row _ _ _ _ _ _ hv]; rfl
    have HO := Lib.hid ho
    have HV := Lib.hid hv
    have HB2 := Lib.hid (hB2.trans (belowK_b (w := w) (Nat.le_refl _) W D _ (.deferred none) (by omega) hK rfl rfl))
    have HK := Lib.hid hK
    clear hB2 hK hv ho
    gi_wp2
    refine ⟨by simp, .inl ⟨_, _, rfl, run_takeDeferred HK.out, ?_⟩⟩
    refine ⟨v, ?_, ⟨v, rfl, ?_⟩, HB2.out⟩
    · simp [results, Tryz.f172, go_sem]
    · exact HO.out.kept (grownBy_putObj' W D (.deferred none)) (by
        rcases HO.out.2 with ⟨rfl, _⟩ | ⟨g1, cap1, cur1, rfl, _, hgb, _⟩
        · exact .inl rfl
        · refine .inr fun e => ?_
          have e2 : g1 = D := by simpa [Value.ownBlock] using e
          rw [e2, HK.out] at hgb
          cases hgb)
  case stop =>
    rintro D c pre W _ _ h
    exact h.elim
theorem collect_free {w : World} {B1 B2 g gh bh pg : Nat} {r : Rt} {held : Nat → Bool} (hF : FrK w B1 B2 g gh bh r held) (hr : r.pg = (pg : Int)) (hpg : pg ≤ 512) :
    Calls Tryz.prog 135 #[.func (.func 170) #[] #[.pointer (some ⟨B1, 0, none⟩), .pointer (some ⟨B2, 0, none⟩)]] w fun e w' => (∃ v, e = .returned v ∧ OwnI w' w.heap.size v (Tb.mems (frB held) pg)) ∧ Below w.heap.size w w' := by
  have HS := Lib.hid (seq_free hF hr hpg)
  clear hF
  go_enter Tryz.func135, Tryz.ntmps135
  go_wp2_with (go_at_call 172; refine HS.out.mono ?_; rintro e w7 ⟨⟨v, rfl, hO⟩, hb⟩)
  go_ret
  exact ⟨⟨v, rfl, hO⟩, hb⟩
end Go.Proofs.YtmbecjlioogbhaaGreatDoor
end
section
/-! The closures of a plan: one page more; a page's write. -/
set_option maxRecDepth 20000
set_option linter.unusedSimpArgs false
namespace Go.Proofs.YtmbecjlioogbhaaGreatDoor
open Go.RowKit

/-- Block B holds what is left of a row of numbers. -/
structure FreeAt (W : World) (B bf o c : Nat) (L : List Nat) : Prop where
  box : W.heap[B]? = some (.cells #[.slice (some ⟨bf, o, none⟩) L.length c] 47 (0, 0))
  le : L.length ≤ c ∧ o + c ≤ 9223372036854775807
  row : ∃ cs, W.heap[bf]? = some (.cells cs 3 (0, 0)) ∧ ∀ i, i < L.length → cs[o + i]? = some (.int .i64 ((L.getD i 0 : Nat) : Int))
theorem FreeAt.keep {W W' : World} {B bf o c : Nat} {L : List Nat} (h : FreeAt W B bf o c L) (h1 : W'.heap[B]? = W.heap[B]?) (h2 : W'.heap[bf]? = W.heap[bf]?) : FreeAt W' B bf o c L :=
  ⟨h1.trans h.box, h.le, by obtain ⟨cs, hc, hr⟩ := h.row; exact ⟨cs, h2.trans hc, hr⟩⟩
theorem FreeAt.lt {W : World} {B bf o c : Nat} {L : List Nat} (h : FreeAt W B bf o c L) : B < W.heap.size ∧ bf < W.heap.size := ⟨lt_of_block h.box, by obtain ⟨cs, hc, _⟩ := h.row; exact lt_of_block hc⟩
theorem FreeAt.ne {W : World} {B bf o c : Nat} {L : List Nat} (h : FreeAt W B bf o c L) : bf ≠ B := fun e => by
  obtain ⟨cs, hc, _⟩ := h.row
  rw [e, h.box] at hc
  simp at hc
theorem takeP_any {W : World} {B bf o c x : Nat} {L : List Nat} (h : FreeAt W B bf o c (x :: L)) :
    Calls Tryz.prog 136 #[.pointer (some ⟨B, 0, none⟩)] W fun e w' => e = .returned (.int .i64 (x : Int)) ∧ (∃ o c, FreeAt w' B bf o c L) ∧ Only B W w' := by
  have HX := Lib.hid h
  obtain ⟨cs, hcs, hrow⟩ := h.row
  have b0 : W.cell? ⟨B, 0, none⟩ = some (.slice (some ⟨bf, o, none⟩) (L.length + 1) c) := by rw [cell_of_row _ _ _ _ _ _ h.box]; rfl
  have f0 : W.frozen? ⟨B, 0, none⟩ = false := frozen_of_row _ _ 0 _ _ h.box
  have r0 : W.cell? ⟨bf, o, none⟩ = some (.int .i64 (x : Int)) := by
    rw [cell_of_row _ _ _ _ _ _ hcs]
    have := hrow 0 (by simp)
    simpa using this
  have hl1 : L.length + 1 ≤ c := by simpa using h.le.1
  have hl2 := h.le.2
  have HCS := Lib.hid hcs
  have HROW := Lib.hid hrow
  have HLL := Lib.hid (rfl : (x :: L).length = L.length + 1)
  clear h hcs hrow
  obtain ⟨n, hn⟩ : ∃ n, L.length = n := ⟨_, rfl⟩
  rw [hn] at b0 hl1
  have HN := Lib.hid hn
  clear hn
  go_enter Tryz.func136, Tryz.ntmps136
  go_wp2_with fail
  · go_ret
    refine ⟨rfl, ⟨o, 0, ⟨?_, by rw [HN.out]; omega, ?_⟩⟩, Only.setCell B 0 _ _⟩
    · rw [HN.out]; exact heap_setCell_same _ B 0 _ 47 _ HX.out.box
    · exact ⟨cs, (heap_setCell_other _ _ _ _ HX.out.ne).trans HCS.out, fun i hi => by rw [HN.out] at hi; omega⟩
  · go_ret
    refine ⟨rfl, ⟨o + 1, c - 1, ⟨?_, by rw [HN.out]; omega, ?_⟩⟩, Only.setCell B 0 _ _⟩
    · rw [HN.out]; exact heap_setCell_same _ B 0 _ 47 _ HX.out.box
    · refine ⟨cs, (heap_setCell_other _ _ _ _ HX.out.ne).trans HCS.out, fun i hi => ?_⟩
      have h1 := HROW.out (i + 1) (by simp; exact hi)
      rw [show o + 1 + i = o + (i + 1) by omega, h1]
      rfl
/-- What a row of a commit's writes lays out. -/
def wrs (ps : List (Nat × List Nat)) : List Value := ps.flatMap fun p => [.int .i64 ((p.1 : Nat) : Int), .string (strB p.2)]
theorem wrs_snoc (ps : List (Nat × List Nat)) (x : Nat) (b : List Nat) : wrs (ps ++ [(x, b)]) = wrs ps ++ [.int .i64 (x : Int), .string (strB b)] := by unfold wrs; rw [List.flatMap_append]; rfl
/-- Block B holds a row of writes of the call's own. -/
def WrsAt (W : World) (base B : Nat) (ps : List (Nat × List Nat)) : Prop := ∃ v, W.heap[B]? = some (.cells #[v] 146 (0, 0)) ∧ W.ownsRow base 191 2 v ps.length (wrs ps)
/-- Only boxes of a plan, and rows of its writes, have changed. -/
structure Gat (base b7 b6 : Nat) (w w' : World) : Prop where
  os : w'.os = w.os
  tape : w'.tape = w.tape
  output : w'.output = w.output
  size : w.heap.size ≤ w'.heap.size
  block : ∀ k, k < w.heap.size → k ≠ b7 → k ≠ b6 → (k < base ∨ ∀ cs fr, w.heap[k]? ≠ some (.cells cs 191 fr)) → w'.heap[k]? = w.heap[k]?
theorem Tryz.info191 : (Tryz.prog.info? 191).map (fun i => (i.zero, i.size, i.bytes)) = some (some (.agg #[.int .i64 0, .string ByteArray.empty]), 2, 24) := by kernel_rfl
/-- The gathering closure's boxes. -/
structure GatAt (W : World) (base b8 b7 b6 bf : Nat) (L : List Nat) (ps : List (Nat × List Nat)) : Prop where
  x8 : W.heap[b8]? = some (.cells #[.func (.func 136) #[] #[.pointer (some ⟨b7, 0, none⟩)]] 34 (0, 0))
  fr : ∃ o c, FreeAt W b7 bf o c L
  wr : WrsAt W base b6 ps
  ne : b7 ≠ b6 ∧ b8 ≠ b7 ∧ b8 ≠ b6 ∧ bf ≠ b6
  hi : base ≤ b6 ∧ base ≤ b7
theorem wr_ne {W : World} {base k : Nat} {v : Value} {n : Nat} {xs : List Value} (h : W.ownsRow base 191 2 v n xs) (hk : k < base ∨ ∀ cs fr, W.heap[k]? ≠ some (.cells cs 191 fr)) : some k ≠ v.ownBlock := fun e => by
  rcases hk with hk | hk
  · have := (h.lt k e.symm).1; omega
  rcases h.2 with ⟨rfl, _⟩ | ⟨g, cap, cur, rfl, _, hg, _⟩
  · cases e
  · have e2 : k = g := by simpa [Value.ownBlock] using e
    exact hk _ _ (e2 ▸ hg)
set_option maxHeartbeats 1600000 in
theorem gather_any {W : World} {base b8 b7 b6 bf x : Nat} {L : List Nat} {ps : List (Nat × List Nat)} (h : GatAt W base b8 b7 b6 bf (x :: L) ps) (b : List Nat) (hn : ps.length ≤ 4096) :
    Calls Tryz.prog 137 #[.string (strB b), .pointer (some ⟨b8, 0, none⟩), .pointer (some ⟨b6, 0, none⟩)] W fun e w' => e = .returned (.int .i64 (x : Int)) ∧ GatAt w' base b8 b7 b6 bf L (ps ++ [(x, b)]) ∧ Gat base b7 b6 W w' := by
  obtain ⟨i0, hi, hz0, hz1, hz2⟩ := info_parts Tryz.info191
  have HI := Lib.hid hi
  have HZ0 := Lib.hid hz0
  have HZ1 := Lib.hid hz1
  have HZ2 := Lib.hid hz2
  obtain ⟨o, c, hf⟩ := h.fr
  have HTK := Lib.hid (takeP_any hf)
  have c8 : W.cell? ⟨b8, 0, none⟩ = some (.func (.func 136) #[] #[.pointer (some ⟨b7, 0, none⟩)]) := by rw [cell_of_row _ _ _ _ _ _ h.x8]; rfl
  obtain ⟨v, hv, ho⟩ := h.wr
  have HX := Lib.hid h
  have HO := Lib.hid ho
  have HV := Lib.hid hv
  have HF := Lib.hid hf
  have HNN := Lib.hid hn
  clear hi hz0 hz1 hz2 hf ho hv h hn
  obtain ⟨S, hS⟩ : ∃ S, strB b = S := ⟨_, rfl⟩
  have HS := Lib.hid hS
  rw [hS]
  clear hS
  go_enter Tryz.func137, Tryz.ntmps137
  go_upto_region 2 with (go_at_call 136; refine HTK.out.mono ?_; rintro e w1 ⟨rfl, hF1, hO1⟩)
  have hv1 : w1.heap[b6]? = some (.cells #[v] 146 (0, 0)) := (hO1.block b6 (lt_of_block HV.out) (Ne.symm HX.out.ne.1)).trans HV.out
  have n7 : some b7 ≠ v.ownBlock := wr_ne HO.out (.inr fun cs fr e => by rw [HF.out.box] at e; simp at e)
  have hgr1 : W.grownBy w1 (some b7) := ⟨hO1.os, hO1.tape, hO1.output, hO1.size, fun k hk hne => hO1.block k hk (fun e => hne (by rw [e]))⟩
  have HO1 := Lib.hid (HO.out.kept hgr1 (.inr (fun e => n7 e.symm)))
  have HV1 := Lib.hid hv1
  have HB1 := Lib.hid hO1
  obtain ⟨o1, c1, hF1⟩ := hF1
  have HF1 := Lib.hid hF1
  have e8 : w1.heap[b8]? = some (.cells #[.func (.func 136) #[] #[.pointer (some ⟨b7, 0, none⟩)]] 34 (0, 0)) := (hO1.block b8 (lt_of_block HX.out.x8) HX.out.ne.2.1).trans HX.out.x8
  have HE8 := Lib.hid e8
  have k6 : w1.cell? ⟨b6, 0, none⟩ = some v := by rw [cell_of_row _ _ _ _ _ _ hv1]; rfl
  have f6 : w1.frozen? ⟨b6, 0, none⟩ = false := frozen_of_row _ _ 0 _ _ hv1
  have HLB : Hid (base ≤ w1.heap.size) := Lib.hid (Nat.le_trans HX.out.hi.1 (Nat.le_of_lt (lt_of_block hv1)))
  have HWS := Lib.hid (wrs_snoc ps x b)
  rw [HS.out] at HWS
  have HPL : Hid ((ps ++ [(x, b)]).length = ps.length + 1) := Lib.hid (by simp)
  clear hO1 hv1 hgr1 n7 hF1 c8 e8 HTK
  generalize ps.length = m at *
  generalize wrs ps = ws at *
  go_wp2_with (at_builtin; refine wpList_append_own _ rfl _ _ 146 rfl base 191 i0 (.agg #[.int .i64 0, .string ByteArray.empty]) 2 24 Tryz.underlying146 HI.out HZ0.out HZ1.out HZ2.out rfl (by decide) _ m _ rfl (World.ownsRow.alloc HO1.out _) ⟨w1.heap.size, 0, none⟩ 1 1 [.int .i64 (x : Int), .string S] rfl rfl (World.news_of_block (heap_alloc_new w1 _)) ?c2 ?c3 ?c4 ?c5 ?_)
  case c2 => intro v hv; simp at hv; rcases hv with rfl | rfl <;> rfl
  case c3 => unfold maxLen; have := HNN.out; omega
  case c4 => have := HNN.out; omega
  case c5 => have := HLB.out; simp; omega
  intro v' w3 hown hgrow _
  have hne6 : some b6 ≠ v.ownBlock := wr_ne HO1.out (.inr fun cs fr e => by rw [HV1.out] at e; simp at e)
  have hv3 : w3.heap[b6]? = some (.cells #[v] 146 (0, 0)) := (hgrow.block b6 (by have := lt_of_block HV1.out; simp; omega) hne6).trans (((alloc_below w1 _).block b6 (lt_of_block HV1.out)).trans HV1.out)
  have k63 : w3.cell? ⟨b6, 0, none⟩ = some v := by rw [cell_of_row _ _ _ _ _ _ hv3]; rfl
  have f63 : w3.frozen? ⟨b6, 0, none⟩ = false := frozen_of_row _ _ 0 _ _ hv3
  have HV3 := Lib.hid hv3
  have HOW := Lib.hid hown
  have HGR := Lib.hid hgrow
  obtain ⟨g', cap', rfl⟩ : ∃ g' cap', v' = .slice (some ⟨g', 0, none⟩) (m + 1) cap' := by
    rcases hown.2 with ⟨_, h0⟩ | ⟨g1, cap1, cur1, rfl, _⟩
    · omega
    · exact ⟨_, _, rfl⟩
  clear hown hgrow hne6 hv3
  go_wp2_with fail
  go_ret
  have hg4 := grownBy_setCell' w3 b6 (.slice (some ⟨g', 0, none⟩) (m + 1) cap')
  have hst : ∀ k, k < w1.heap.size → k ≠ b6 → (k < base ∨ ∀ cs fr, w1.heap[k]? ≠ some (.cells cs 191 fr)) → (w3.setCell ⟨b6, 0, none⟩ (.slice (some ⟨g', 0, none⟩) (m + 1) cap')).heap[k]? = w1.heap[k]? := fun k hk h6 ht =>
    (heap_setCell_other _ _ _ _ h6).trans ((HGR.out.block k (by simp; omega) (wr_ne HO1.out ht)).trans ((alloc_below w1 _).block k hk))
  have hne4 : (Value.slice (some ⟨g', 0, none⟩) (m + 1) cap').ownBlock ≠ some b6 := fun e => wr_ne HOW.out (.inr fun cs fr e2 => by rw [HV3.out] at e2; simp at e2) e.symm
  have hgs : w1.heap.size ≤ w3.heap.size := by have := HGR.out.size; simp at this; omega
  refine ⟨rfl, ⟨?_, ⟨o1, c1, HF1.out.keep ?_ ?_⟩, ⟨_, heap_setCell_same _ b6 0 _ 146 _ HV3.out, ?_⟩, HX.out.ne, HX.out.hi⟩, ?_⟩
  · exact (hst b8 (lt_of_block HE8.out) HX.out.ne.2.2.1 (.inr fun cs fr e => by rw [HE8.out] at e; simp at e)).trans HE8.out
  · exact hst b7 HF1.out.lt.1 HX.out.ne.1 (.inr fun cs fr e => by rw [HF1.out.box] at e; simp at e)
  · obtain ⟨cs0, hcs0, _⟩ := HF1.out.row
    exact hst bf HF1.out.lt.2 HX.out.ne.2.2.2 (.inr fun cs fr e => by rw [hcs0] at e; simp at e)
  · rw [HPL.out, HWS.out]
    exact HOW.out.kept hg4 (.inr hne4)
  · refine ⟨HGR.out.os.trans HB1.out.os, HGR.out.tape.trans HB1.out.tape, HGR.out.output.trans HB1.out.output, ?_, fun k hk h7 h6 ht => ?_⟩
    · have h1 := HB1.out.size
      have h2 := hg4.size
      exact Nat.le_trans h1 (Nat.le_trans hgs h2)
    · have h1 := HB1.out.block k hk h7
      exact (hst k (Nat.lt_of_lt_of_le hk HB1.out.size) h6 (ht.imp id (fun ht cs fr e => ht cs fr (h1 ▸ e)))).trans h1
end Go.Proofs.YtmbecjlioogbhaaGreatDoor
end
section
/-! The keys of the new pages, rising. -/
set_option maxRecDepth 20000
set_option linter.unusedSimpArgs false
namespace Go.Proofs.YtmbecjlioogbhaaGreatDoor
open Go.RowKit Go.Maps Go.MapKept
open Go.WideElems (rd rg pl rd_key rd_val rg_of rd_mk)
open Go.WideShapes (sorted_perm)

theorem keys_pairwise (f : Pgs) : (f.keys.map fun l => ((l : Nat) : Int)).Pairwise (fun a b => leI a b = true) := by
  refine List.pairwise_map.2 ?_
  unfold Pgs.keys
  refine List.Pairwise.filter _ (List.Pairwise.imp (R := (· < ·)) ?_ List.pairwise_lt_range)
  intro a b h
  simp [leI]; omega
theorem frm_intKeys {w : World} {b : Nat} {es : Array MapEntry} {clock : Nat} {f : Pgs} (h : Frm w b es clock f) :
    (intKeys (DataW.map ((es.toList.map (rg Tryz.prog 3 contR)).foldr DataW.insert []))).Perm (f.keys.map fun l => ((l : Nat) : Int)) := by
  have h1 : (intKeys (DataW.map ((es.toList.map (rg Tryz.prog 3 contR)).foldr DataW.insert []))).Perm ((es.toList.map (rg Tryz.prog 3 contR)).map fun p => Go.intOf p.1) := (sorted_perm _).map _
  refine h1.trans ?_
  rw [List.map_map]
  have h2 : (es.toList.map ((fun p => Go.intOf p.1) ∘ rg Tryz.prog 3 contR)) = (es.toList.map Go.Proofs.YtmbecjlioogbhaaGreatDoor.keyN).map fun l => ((l : Nat) : Int) := by
    rw [List.map_map]
    refine List.map_congr_left fun x hx => ?_
    show Go.intOf (rg Tryz.prog 3 contR x).1 = _
    rw [frm_rgKey h hx]; rfl
  rw [h2]
  exact h.perm.map _
theorem sorted_keys {w : World} {b : Nat} {es : Array MapEntry} {clock : Nat} {f : Pgs} (h : Frm w b es clock f) {ss : List Int}
    (hp : ss.Perm (intKeys (DataW.map ((es.toList.map (rg Tryz.prog 3 contR)).foldr DataW.insert [])))) : ss.mergeSort leI = f.keys.map fun l => ((l : Nat) : Int) := by
  rw [mergeSort_of_perm_i (hp.trans (frm_intKeys h))]
  exact List.mergeSort_of_pairwise (keys_pairwise f)
end Go.Proofs.YtmbecjlioogbhaaGreatDoor
end
