/- Texts RdB3 to RdL2 of this seat, laid into one. -/
import Derived.Sort.BigQuietIn
import Derived.Sort.CutIn
import Derived.Deep.AppendLies
import Derived.Laws.MakeOwn
import Derived.Test.YthjjgpepgbfalaaGreatDoorM21
set_option linter.unusedVariables false
set_option linter.unusedSimpArgs false
set_option linter.constructorNameAsVariable false
section
/-! A chain of n pairs of nothing. -/
set_option maxRecDepth 20000
set_option linter.unusedSimpArgs false
set_option linter.unusedVariables false
namespace Go.Proofs.YthjjgpepgbfalaaGreatDoor
open Go.RowKit Go.Shelf
attribute [local go_sem] Oper.semAt_some

theorem fitV_rep (n : Nat) : FitV (List.replicate n ((0 : Int), (0 : Int))) := fun x hx => by
  obtain ⟨_, rfl⟩ := List.mem_replicate.1 hx
  exact domV_zero
theorem may_zero (L : Pls) : mayV L (0, 0) = true := by
  unfold mayV
  rw [if_neg (by decide)]; rfl
theorem all_rep (L : Pls) (n : Nat) : (List.replicate n ((0 : Int), (0 : Int))).all (mayV L) = true := by
  rw [List.all_eq_true]
  intro x hx
  obtain ⟨_, rfl⟩ := List.mem_replicate.1 hx
  exact may_zero L
def BldR (w w' : World) (gh : Nat) (F : Nat → Prop) (m : Hm) (n : Nat) (e : Ending) : Prop := e = .returned (.tuple #[valV (bzS m n).2, .int .i64 0]) ∧ WentH F gh (bzS m n).1 w w'
set_option maxRecDepth 100000 in
set_option maxHeartbeats 4000000 in
theorem build_any {w : World} {gh : Nat} {F : Nat → Prop} {m : Hm} (h : Hep w gh F m) (q : Option Addr) (n c : Nat) (hl : Vls w q n (List.replicate n (0, 0))) (hq : ∀ b o, q = some ⟨b, o, none⟩ → b < w.heap.size ∧ ¬ F b) (hn : n ≤ 100000) (hroom : n + liveN m.L ≤ m.lim) :
    Calls Tryz.prog 53 #[.pointer (some ⟨gh, 0, none⟩), .slice q n c, valV (0, 0)] w fun e w' => BldR w w' gh F m n e := by
  obtain ⟨W3, hW3⟩ : ∃ W3, ((w.alloc (.cells #[.pointer (some ⟨gh, 0, none⟩)] 24)).alloc (.cells #[.int .i64 0, .int .i64 0] 36)).alloc (.cells #[.int .i64 0, .int .i64 0] 36) = W3 := ⟨_, rfl⟩
  have hb : Below w.heap.size w W3 := by rw [← hW3]; exact (((Below.refl _ _).alloc (Nat.le_refl _) _).alloc (by simp) _).alloc (by simp; omega) _
  have hsz : W3.heap.size = w.heap.size + 3 := by rw [← hW3]; simp
  have h012 := alloc3 w (.cells #[.pointer (some ⟨gh, 0, none⟩)] 24) (.cells #[.int .i64 0, .int .i64 0] 36) (.cells #[.int .i64 0, .int .i64 0] 36)
  rw [hW3] at h012
  have HMA := Lib.hid (mayAll_any (h.below hb) q n c _ (hl.below hb) (fitV_rep n) hn)
  rw [all_rep] at HMA
  have HMY : Hid (∀ W, Below W3.heap.size W3 W → Calls Tryz.prog 81 #[.pointer (some ⟨gh, 0, none⟩), .agg #[.int .i64 0, .int .i64 0]] W fun e w' => e = .returned (.bool true) ∧ Below W.heap.size W w') := Lib.hid fun W hW => by
    have := may_any ((h.below hb).below hW) 0 0 ⟨by decide, by decide⟩
    rwa [may_zero] at this
  have HLV : Hid (∀ W, Below W3.heap.size W3 W → Calls Tryz.prog 27 #[.pointer (some ⟨gh, 0, none⟩)] W fun e w' => e = .returned (.int .i64 (liveN m.L : Int)) ∧ w' = W) := Lib.hid fun W hW => ((h.below hb).below hW).live
  have HLM : Hid (∀ W, Below W3.heap.size W3 W → Calls Tryz.prog 26 #[.pointer (some ⟨gh, 0, none⟩)] W fun e w' => e = .returned (.int .i64 (m.lim : Int)) ∧ w' = W) := Lib.hid fun W hW => ((h.below hb).below hW).limit
  have e0 := cell_of_row _ _ 0 _ _ _ h012.1
  have e1 := cell_of_row _ _ 0 _ _ _ h012.2.1
  have e2 := cell_of_row _ _ 1 _ _ _ h012.2.1
  simp at e0 e1 e2
  have H012 := Lib.hid h012
  have HB := Lib.hid hb
  have HSZ := Lib.hid hsz
  have HH := Lib.hid h
  have HVL := Lib.hid hl
  have HQ := Lib.hid hq
  have HLI : (m.lim : Int) ≤ 100000 := by have := h.ok.l1; omega
  have hnI : (n : Int) ≤ 100000 := by omega
  have hlI : (liveN m.L : Int) ≤ (m.lim : Int) := by omega
  have dR : decide ((n : Int) > (m.lim : Int) - (liveN m.L : Int)) = false := decide_eq_false (by omega)
  have HRM := Lib.hid hroom
  clear h012 hb hsz h hl hq hroom
  refine (callsIn_wide (n := 5)).1 ?_
  refine callsIn_of_wp_marks Tryz.func53 rfl trivial ?_ rfl
  simp only [Tryz.ntmps53, List.size_toArray, List.length_cons, List.length_nil, Nat.reduceAdd, Nat.reduceSub, Array.replicate_succ, Array.replicate_zero, List.push_toArray, List.append_toArray, List.nil_append, List.cons_append]
  gi_wp2_with (first | ((try refine ⟨trivial, ?_⟩); gi_at_call 81; refine (callsIn_wide.2 (HMY.out _ hb4)).mono ?_; rintro e w5 ⟨rfl, hb5⟩) | ((try refine ⟨trivial, ?_⟩); gi_at_call 80; refine (callsIn_wide.2 HMA.out).mono ?_; rintro e w4 ⟨rfl, hb4⟩; have f1 := (World.cell?_of_block (hb4.block _ (lt_of_block H012.out.2.1))).trans e1; have f2 := (World.cell?_of_block (hb4.block _ (lt_of_block H012.out.2.1))).trans e2; have f0 := (World.cell?_of_block (hb4.block _ (lt_of_block H012.out.1))).trans e0))
  have g0 : w5.cell? ⟨w.heap.size, 0, none⟩ = some (.pointer (some ⟨gh, 0, none⟩)) := (World.cell?_of_block (hb5.block _ (by have h4 := hb4.size; have h5 := HSZ.out; show w.heap.size < w4.heap.size; omega))).trans f0
  have HB5 : Hid (Below W3.heap.size W3 w5) := Lib.hid (hb4.trans (hb5.mono hb4.size))
  have dR2 : decide ((m.lim : Int) - (liveN m.L : Int) < (n : Int)) = false := decide_eq_false (by have := HRM.out; omega)
  clear hb4 hb5 f0 f1 f2 e0 e1 e2 HMA HMY hW3
  generalize hlv : liveN m.L = lv at *
  generalize hlm : m.lim = lm at *
  have hwr : IntKind.i64.wrap ((lm : Int) - (lv : Int)) = (lm : Int) - (lv : Int) := by rw [IntKind.wrap_i64]; omega
  have hmix : Tryz.prog.follows .mixedOrders = true := by kernel_rfl
  have HSX : Hid (∀ u : World, Below W3.heap.size W3 u → u.heap[w.heap.size]? = w5.heap[w.heap.size]? → u.cell? ⟨w.heap.size, 0, none⟩ = some (.pointer (some ⟨gh, 0, none⟩))) := Lib.hid fun u _ hu => (World.cell?_of_block hu).trans g0
  refine wpIn_wide.2 (region_plain (S := fun u : World => u.cell? ⟨w.heap.size, 0, none⟩ = some (.pointer (some ⟨gh, 0, none⟩))) hmix (fun KK hKK => ?_))
  have hHeld : w5.drew.cell? ⟨w.heap.size, 0, none⟩ = some (.pointer (some ⟨gh, 0, none⟩)) := g0
  refine wpAnyH_take (i := 0) (v := ?_) rfl (by kernel_rfl) (by kernel_rfl) (by kernel_rfl) (fun _ _ _ h => by cases h.1) (Or.inl ⟨by rfl, ?_⟩) hHeld ?_
  rotate_left
  · intro u s1
    go_simp
    all_goals (with_reducible rfl)
  try simp only [List.getElem_toArray, List.getElem_cons_succ, List.getElem_cons_zero, Act.put, List.setIfInBounds_toArray, List.set]
  refine wpAnyH_take (i := 1) (v := ?_) rfl (by kernel_rfl) (by kernel_rfl) (by kernel_rfl) (fun _ _ _ h => by cases h.1) (Or.inl ⟨by rfl, ?_⟩) hHeld ?_
  rotate_left
  · intro u s1
    go_simp
    all_goals (with_reducible rfl)
  try simp only [List.getElem_toArray, List.getElem_cons_succ, List.getElem_cons_zero, Act.put, List.setIfInBounds_toArray, List.set]
  refine wpAnyH_take (i := 2) (v := ?_) rfl (by kernel_rfl) (by kernel_rfl) (by kernel_rfl) (fun _ _ _ h => by cases h.1) (Or.inl ⟨by rfl, ?_⟩) hHeld ?_
  rotate_left
  · intro u s1
    go_simp
    all_goals (with_reducible rfl)
  try simp only [List.getElem_toArray, List.getElem_cons_succ, List.getElem_cons_zero, Act.put, List.setIfInBounds_toArray, List.set]
  refine wpAnyH_take (i := 4) (v := ?_) rfl (by kernel_rfl) (by kernel_rfl) (by kernel_rfl) (fun _ _ _ h => by cases h.1) (Or.inl ⟨by rfl, ?_⟩) hHeld ?_
  rotate_left
  · intro u s1
    go_simp
    all_goals (with_reducible rfl)
  try simp only [List.getElem_toArray, List.getElem_cons_succ, List.getElem_cons_zero, Act.put, List.setIfInBounds_toArray, List.set]
  refine wpAnyH_ready (rs := [3]) (by kernel_rfl) (by simp) ?_
  refine AllReadyH.cons rfl (fun K hK => ?_) AllReadyH.nil
  go_simp
  go_at_call 26
  with_reducible refine (HLM.out _ HB5.out.drew).mono ?_
  rintro e w6 ⟨rfl, rfl⟩
  refine hK.out _ _ ?_ (fun hHeld => ?_)
  · exact hHeld
  clear hK K
  try simp only [List.getElem_toArray, List.getElem_cons_succ, List.getElem_cons_zero, Act.put, List.setIfInBounds_toArray, List.set]
  refine wpAnyH_ready (rs := [5]) (by kernel_rfl) (by simp) ?_
  refine AllReadyH.cons rfl (fun K hK => ?_) AllReadyH.nil
  go_simp
  go_at_call 27
  with_reducible refine (HLV.out _ HB5.out.drew).mono ?_
  rintro e w6 ⟨rfl, rfl⟩
  refine hK.out _ _ ?_ (fun hHeld => ?_)
  · exact hHeld
  clear hK K
  try simp only [List.getElem_toArray, List.getElem_cons_succ, List.getElem_cons_zero, Act.put, List.setIfInBounds_toArray, List.set]
  refine wpAnyH_take (i := 6) (v := ?_) rfl (by kernel_rfl) (by kernel_rfl) (by kernel_rfl) (fun _ _ _ h => by cases h.1) (Or.inl ⟨by rfl, ?_⟩) hHeld ?_
  rotate_left
  · intro u s1
    go_simp
    all_goals (with_reducible rfl)
  try simp only [List.getElem_toArray, List.getElem_cons_succ, List.getElem_cons_zero, Act.put, List.setIfInBounds_toArray, List.set]
  refine wpAnyH_take (i := 7) (v := ?_) rfl (by kernel_rfl) (by kernel_rfl) (by kernel_rfl) (fun _ _ _ h => by cases h.1) (Or.inl ⟨by rfl, ?_⟩) hHeld ?_
  rotate_left
  · intro u s1
    go_simp
    all_goals (with_reducible rfl)
  try simp only [List.getElem_toArray, List.getElem_cons_succ, List.getElem_cons_zero, Act.put, List.setIfInBounds_toArray, List.set]
  refine wpAnyH_take (i := 8) (v := ?_) rfl (by kernel_rfl) (by kernel_rfl) (by kernel_rfl) (fun _ _ _ h => by cases h.1) (Or.inl ⟨by rfl, ?_⟩) hHeld ?_
  rotate_left
  · intro u s1
    go_simp
    all_goals (with_reducible rfl)
  try simp only [List.getElem_toArray, List.getElem_cons_succ, List.getElem_cons_zero, Act.put, List.setIfInBounds_toArray, List.set]
  refine wpAnyH_done (by kernel_rfl) ⟨rfl, hKK _ _ ?_⟩ _
  clear hKK hHeld
  have g1 : w5.drew.cell? ⟨w.heap.size, 0, none⟩ = some (.pointer (some ⟨gh, 0, none⟩)) := g0
  have HB6 : Hid (Below W3.heap.size W3 w5.drew) := Lib.hid HB5.out.drew
  clear HB5 g0 HSX
  generalize w5.drew = w6 at *
  have g2 := (World.cell?_of_block (HB6.out.block _ (lt_of_block H012.out.2.1))).trans (cell_of_row _ _ 0 _ _ _ H012.out.2.1)
  have g3 := (World.cell?_of_block (HB6.out.block _ (lt_of_block H012.out.2.1))).trans (cell_of_row _ _ 1 _ _ _ H012.out.2.1)
  simp at g2 g3
  gi_wp2_with (refine ⟨trivial, ?_⟩; gi_at_call 82; refine (callsIn_wide.2 (backV_any q n c _)).mono ?_; rintro e w7 ⟨rfl, rfl⟩)
  have HZ6 := Lib.hid HB6.out.size
  have n1 := heap_alloc_new w6 (.cells #[.int .i64 0, .int .i64 0] 36)
  have n2 := heap_alloc_new (w6.alloc (.cells #[.int .i64 0, .int .i64 0] 36)) (.cells #[.slice q n c] 30)
  rw [World.size_alloc] at n2
  have hb7 : Below w6.heap.size w6 ((w6.alloc (.cells #[.int .i64 0, .int .i64 0] 36)).alloc (.cells #[.slice q n c] 30)) := ((Below.refl _ _).alloc (Nat.le_refl _) _).alloc (by simp) _
  have hz7 : ((w6.alloc (.cells #[.int .i64 0, .int .i64 0] 36)).alloc (.cells #[.slice q n c] 30)).heap.size = w6.heap.size + 2 := by simp
  have n3 := (Below.heap_alloc (w6.alloc (.cells #[.int .i64 0, .int .i64 0] 36)) (.cells #[.slice q n c] 30) w6.heap.size (by simp)).trans n1
  generalize (w6.alloc (.cells #[.int .i64 0, .int .i64 0] 36)).alloc (.cells #[.slice q n c] 30) = w7 at *
  have hbw : Below w.heap.size w w7 := (HB.out.trans (HB6.out.mono (by have := HSZ.out; omega))).trans (hb7.mono (by have := HSZ.out; have := HZ6.out; omega))
  have hJ : BldJ w w7 gh F m 0 w.heap.size (w.heap.size + 2) w6.heap.size (w6.heap.size + 1) n c q (List.replicate n (0, 0)) := by
    have k0 := HSZ.out
    have k1 := HZ6.out
    have hlt := HH.out.lt
    refine ⟨⟨F, HH.out.below hbw, Chp.of_below hbw, fun e => ?_, fun e => ?_, fun e => ?_, fun e => ?_⟩, ?_, ?_, n3, n2, HVL.out.below hbw, domV_zero, by omega, by omega, by omega, by omega, by omega, by omega, by omega⟩
    · have := hlt _ e; omega
    · have := hlt _ e; omega
    · have := hlt _ e; omega
    · have := hlt _ e; omega
    · exact (hb7.block _ (by omega)).trans ((HB6.out.block _ (lt_of_block H012.out.1)).trans H012.out.1)
    · exact (hb7.block _ (by omega)).trans ((HB6.out.block _ (lt_of_block H012.out.2.2)).trans H012.out.2.2)
  have HOWN : Hid (OwnT w7.heap.size (fun (j : Nat) W => BldJ w W gh F m j w.heap.size (w.heap.size + 2) w6.heap.size (w6.heap.size + 1) n c q (List.replicate n (0, 0)))) := Lib.hid (BldJ.own (fun b o e => by have := (HQ.out b o e).1; have := hbw.size; omega) hbw.size)
  have HJ := Lib.hid hJ
  have HLT : Hid (w.heap.size ≤ w7.heap.size) := Lib.hid hbw.size
  clear hJ hbw hb7 hz7 n1 n2 n3 g1 g2 g3 H012 HB HH HVL HLV HLM HB6 dR dR2 hlI
  refine wpIn_rangeT rfl (by omega) (gf := 108) (lb := #[.pointer (some ⟨w6.heap.size + 1, 0, none⟩)]) rfl trivial (enters_of Tryz.func108 (by kernel_rfl) rfl) (backV_seq 4 (by omega) (w6.heap.size + 1) n c hn q (List.replicate n (0, 0))) (fun _ => rfl)
    (fun j W => BldJ w W gh F m j w.heap.size (w.heap.size + 2) w6.heap.size (w6.heap.size + 1) n c q (List.replicate n (0, 0))) HOWN.out
    ?good ?ende HJ.out
    (fun j x a' W => ∃ B10, a' = { tmps := #[.pointer (some ⟨gh, 0, none⟩), .slice q n c, valV (0, 0), .pointer (some ⟨w.heap.size, 0, none⟩), undef, .pointer (some ⟨w.heap.size + 1, 0, none⟩), .pointer (some ⟨w.heap.size + 1 + 1, 0, none⟩), .int .i64 0, .pointer (some ⟨w6.heap.size, 0, none⟩), undef, .pointer (some ⟨B10, 0, none⟩), .bool false, .pointer (some ⟨gh, 0, none⟩), .bool false, .bool false, .pointer (some ⟨gh, 0, none⟩), .slice q n c, .bool true, .bool false, .bool false, .bool false, .pointer (some ⟨gh, 0, none⟩), .agg #[.int .i64 0, .int .i64 0], .bool true, .bool false, .bool false, undef, .bool false, .slice q n c, .int .i64 (n : Int), .pointer (some ⟨gh, 0, none⟩), .int .i64 (lm : Int), .pointer (some ⟨gh, 0, none⟩), .int .i64 (lv : Int), .int .i64 ((lm : Int) - (lv : Int)), .bool false, undef, .agg #[.int .i64 0, .int .i64 0], .slice q n c, .func (.func 108) #[] #[.pointer (some ⟨w6.heap.size + 1, 0, none⟩)], .int .i64 (x.1 : Int), .agg #[.int .i64 x.2.1, .int .i64 x.2.2], undef, undef, undef, undef, undef, undef, undef, undef], defers := [] } ∧ W.heap[B10]? = some (.cells #[.int .i64 0, .int .i64 0] 36 (0, 0)) ∧ j < n ∧ BldJ w W gh F m j w.heap.size (w.heap.size + 2) w6.heap.size (w6.heap.size + 1) n c q (List.replicate n (0, 0)))
    ?ax ?assign ?body ?done
  case good =>
    intro j W h
    exact ⟨by rw [cell_of_row _ _ 0 _ _ _ h.bs]; rfl, h.row⟩
  case ende => exact fun j u W W' row h hg hr => h
  case ax =>
    rintro j x a' u W W' row ⟨B10, h1, h2, h4, h5⟩ hg hr
    refine ⟨B10, h1, (hg.block B10 (lt_of_block h2) fun e => ?_).trans h2, h4, HOWN.out j W W' row h5 hg hr⟩
    obtain ⟨_, o, ho, hcell⟩ := hr B10 e.symm
    rw [h2] at ho; cases ho; cases hcell
  case assign =>
    rintro l j ⟨a1, b1, b2⟩ W K h hx hKK
    have HKK := Lib.hid hKK
    have HOW2 := Lib.hid (HOWN.out j W (W.alloc (.cells #[.int .i64 0, .int .i64 0] 36)) none h (World.grownBy_alloc W _ none) (fun r e => by cases e))
    obtain ⟨hj, hx⟩ := hx
    have hz : (b1, b2) = ((0 : Int), (0 : Int)) := by
      have h2 := (Prod.mk.inj hx).2
      rw [h2, List.getD_eq_getElem?_getD, List.getElem?_replicate]
      split <;> rfl
    cases hz
    have HJ2 := Lib.hid hj
    clear h hx hKK hj
    gi_wp2
    exact HKK.out _ _ (KeepsT.below (alloc_below W _)) ⟨W.heap.size, rfl, heap_alloc_new W _, HJ2.out, HOW2.out⟩
  case body =>
    rintro l j ⟨a1, b1, b2⟩ a' W hl ⟨B10, rfl, h10, hj, h⟩
    obtain ⟨F', e1, e2, e3⟩ := h.hep
    have HC := Lib.hid (cons_any e1 (0, 0) (bzS m j).2 domV_zero h.dom)
    have y0 := cell_of_row _ _ 0 _ _ _ h.b3
    have y10 := cell_of_row _ _ 0 _ _ _ h10
    have y11 := cell_of_row _ _ 1 _ _ _ h10
    have y8 := cell_of_row _ _ 0 _ _ _ h.b8
    have y9 := cell_of_row _ _ 1 _ _ _ h.b8
    simp at y0 y10 y11 y8 y9
    have HP : Hid (∀ w', WentH F' gh (addM (bzS m j).1 (obP (0, 0) (bzS m j).2)) W w' → (w'.cell? ⟨w6.heap.size, 0, none⟩ = some (.int .i64 (bzS m j).2.1) ∧ w'.cell? ⟨w6.heap.size, 1, none⟩ = some (.int .i64 (bzS m j).2.2) ∧ w'.frozen? ⟨w6.heap.size, 0, none⟩ = false ∧ w'.frozen? ⟨w6.heap.size, 1, none⟩ = false) ∧
        KeepsT w7.heap.size W ((w'.setCell ⟨w6.heap.size, 0, none⟩ (.int .i64 (addV (bzS m j).1 (obP (0, 0) (bzS m j).2)).1)).setCell ⟨w6.heap.size, 1, none⟩ (.int .i64 (addV (bzS m j).1 (obP (0, 0) (bzS m j).2)).2)) ∧
        BldJ w ((w'.setCell ⟨w6.heap.size, 0, none⟩ (.int .i64 (addV (bzS m j).1 (obP (0, 0) (bzS m j).2)).1)).setCell ⟨w6.heap.size, 1, none⟩ (.int .i64 (addV (bzS m j).1 (obP (0, 0) (bzS m j).2)).2)) gh F m (j + 1) w.heap.size (w.heap.size + 2) w6.heap.size (w6.heap.size + 1) n c q (List.replicate n (0, 0))) := Lib.hid fun w' ⟨F2, d1, d2⟩ => by
      have r8 := (d2.block _ (lt_of_block h.b8) e3.2.2.1).trans h.b8
      exact ⟨⟨cell_of_row _ _ 0 _ _ _ r8, cell_of_row _ _ 1 _ _ _ r8, frozen_of_row _ _ 0 _ _ r8, frozen_of_row _ _ 1 _ _ r8⟩, (WentH.keepsT e1 d2).trans (KeepsT.cells r8 (two_only _ _ _ _)), h.step e1 e2 e3 HQ.out d1 d2⟩
    have HC2 : Hid (Calls Tryz.prog 83 #[.pointer (some ⟨gh, 0, none⟩), .agg #[.int .i64 0, .int .i64 0], .agg #[.int .i64 (bzS m j).2.1, .int .i64 (bzS m j).2.2]] W fun e w' => e = .returned (.tuple #[.agg #[.int .i64 (addV (bzS m j).1 (obP (0, 0) (bzS m j).2)).1, .int .i64 (addV (bzS m j).1 (obP (0, 0) (bzS m j).2)).2], .int .i64 (addE (bzS m j).1 (obP (0, 0) (bzS m j).2))]) ∧ WentH F' gh (addM (bzS m j).1 (obP (0, 0) (bzS m j).2)) W w') := HC
    clear h e1 e2 e3 h10 HC
    generalize addM (bzS m j).1 (obP (0, 0) (bzS m j).2) = am at *
    generalize addE (bzS m j).1 (obP (0, 0) (bzS m j).2) = ae at *
    generalize addV (bzS m j).1 (obP (0, 0) (bzS m j).2) = av at *
    generalize (bzS m j).2.1 = v1 at *
    generalize (bzS m j).2.2 = v2 at *
    gi_wp2_with (refine ⟨trivial, ?_⟩; gi_at_call 83; refine (CallsIn.inRound l (callsIn_wide.2 HC2.out)).mono ?_; rintro e w9 ⟨rfl, hw⟩; obtain ⟨⟨q1, q2, q3, q4⟩, q5, q6⟩ := HP.out w9 hw; have HQ5 := Lib.hid (And.intro q5 q6); clear q5 q6)
    exact HQ5.out
  case done =>
    rintro D j W hD h hle hDD
    have HDD := Lib.hid hDD
    obtain rfl : j = n := hle
    have hh2 := HOWN.out j W (W.putObj D (.deferred none)) (some D) h (grownBy_putObj' W D _) (fun r e => by cases e; exact ⟨hD, _, hDD, rfl⟩)
    have y8 := cell_of_row _ _ 0 _ _ _ h.b8
    have y9 := cell_of_row _ _ 1 _ _ _ h.b8
    simp at y8 y9
    have y6 := cell_of_row _ _ 0 _ _ _ h.b6
    have y7 := cell_of_row _ _ 1 _ _ _ h.b6
    have f6 := frozen_of_row _ _ 0 _ _ h.b6
    have f7 := frozen_of_row _ _ 1 _ _ h.b6
    simp at y6 y7
    have HHJ := Lib.hid h
    clear h hh2 hDD
    generalize hbz : bzS m j = bz at y8 y9
    gi_wp2
    obtain ⟨k1, k2, k3⟩ := HHJ.out.done HDD.out (Nat.le_trans HLT.out hD) (.int .i64 bz.2.1) (.int .i64 bz.2.2) (.deferred none)
    refine ⟨by simp, .inl ⟨_, _, rfl, run_takeDeferred k1, ?_⟩⟩
    refine ⟨.tuple #[valV bz.2, .int .i64 0], Lx.results_row_tmp Tryz.results53 _ _ (w.heap.size + 2) 36 #[.int .i64 bz.2.1, .int .i64 bz.2.2] (0, 0) _ rfl k2 Tryz.underlying36 rfl sizeVal, ?_⟩
    show BldR _ _ _ _ _ _ _
    unfold BldR
    rw [hbz] at k3 ⊢
    exact ⟨rfl, k3⟩
end Go.Proofs.YthjjgpepgbfalaaGreatDoor
end
section
/-! The bytes that lie in a node. -/
set_option maxRecDepth 20000
set_option linter.unusedSimpArgs false
set_option linter.unusedVariables false
namespace Go.Proofs.YthjjgpepgbfalaaGreatDoor
open Go.RowKit

def bytM (A : List Nd) (l : List Nat) : List Nat := l.map fun j => ((ndAt A j).t.n % 256).toNat
theorem bytM_snoc (A : List Nd) (l : List Nat) (j : Nat) : bytM A (l ++ [j]) = bytM A l ++ [((ndAt A j).t.n % 256).toNat] := by unfold bytM; simp
section
variable {w w' : World} {S : Nat → Nat} {V : Nat → Value} {A : List Nd}
set_option maxHeartbeats 1600000 in
theorem Nds.bytesOf (h : Nds w S V A) (hA : A.length ≤ 30000) {i : Nat} (hi : i < A.length) :
    Calls Tryz.prog 51 #[.pointer (some ⟨S i, 0, none⟩)] w fun e w' => ∃ v, e = .returned v ∧ w'.ownsRow w.heap.size 5 1 v (ndAt A i).is.length (u8s (bytM A (ndAt A i).is)) ∧ Below w.heap.size w w' := by
  obtain ⟨⟨-, -, -, -⟩, ⟨c4, -, -⟩, -, -, -⟩ := h.cells hi
  have hlen := h.len i hi
  obtain ⟨q, cp, e⟩ := h.form hi
  rw [e] at c4
  have HE := Lib.hid e
  have HN := Lib.hid h
  obtain ⟨l, hl⟩ : ∃ l, (ndAt A i).is = l := ⟨_, rfl⟩
  have HL := Lib.hid hl
  have HORD := Lib.hid (h.ord i hi)
  have HI := Lib.hid hi
  rw [hl] at c4 hlen HORD ⊢
  rw [hl] at HE
  obtain ⟨i0, hi0, hz0, hz1, hz2⟩ := info_parts Tryz.info5
  have HI0 := Lib.hid hi0
  have HZ0 := Lib.hid hz0
  have HZ1 := Lib.hid hz1
  have HZ2 := Lib.hid hz2
  have hlI : (l.length : Int) ≤ 30000 := by omega
  have HLL : Hid (l.length ≤ 30000) := Lib.hid (by omega)
  clear h e hl hi hlen hi0 hz0 hz1 hz2
  go_enter Tryz.func51, Tryz.ntmps51
  go_wp2_with fail
  clear c4
  go_loopw [3, 11] (fun v iv wr => ∃ k : Nat, k ≤ l.length ∧ iv = .int .i64 (k : Int) ∧ Hid (wr.ownsRow w.heap.size 5 1 v k (u8s (bytM A (l.take k)))) ∧ Hid (Below w.heap.size w wr)) (fun _ iv _ => l.length - (RowKit.intOf iv).toNat)
  case atStart => exact ⟨0, by omega, by go_num, Lib.hid (World.ownsRow_nil _ _ _ _), Lib.hid (Below.refl _ _)⟩
  case round =>
    obtain ⟨k, hk, rfl, HO, HB⟩ := hrel
    by_cases hlt : k < l.length
    · have d1 : decide ((k : Int) < (l.length : Int)) = true := decide_eq_true (by omega)
      have d2 : decide (k < l.length) = true := decide_eq_true hlt
      have hkI : (k : Int) < (l.length : Int) := by omega
      obtain ⟨j, hj⟩ : ∃ j, l[k]? = some j := ⟨l[k], List.getElem?_eq_getElem hlt⟩
      have hjA : j < A.length := (HORD.out.1 j (List.mem_of_getElem? hj)).2
      have hN := HN.out.below HB.out
      obtain ⟨b, c2, e2, x0⟩ := hN.at' HI.out (j := k) (n := j) (by rw [HL.out]; exact hj)
      rw [HL.out, HE.out] at e2
      cases e2
      obtain ⟨⟨-, y1, -, -⟩, -, -, -, -⟩ := hN.cells hjA
      have HTK : Hid (l.take (k + 1) = l.take k ++ [j]) := Lib.hid (by rw [List.take_add_one, hj]; rfl)
      have HJ := Lib.hid hj
      unfold ptrN at x0
      clear hN hj hjA
      generalize hnn : (ndAt A j).t.n = nn at *
      have HNN := Lib.hid hnn
      clear hnn
      have hb2 := alloc_below wr (.cells #[.int .u8 (nn % 256)] 5)
      have HO2 := Lib.hid (own_below HO.out hb2)
      have HB2 := Lib.hid (HB.out.trans (hb2.mono HB.out.size))
      have HC2 : Hid (∀ j u, [Value.int .u8 (nn % 256)][j]? = some u → (wr.alloc (.cells #[.int .u8 (nn % 256)] 5)).cell? ((⟨wr.heap.size, 0, none⟩ : Addr).add j) = some u) := Lib.hid (cell_one_new wr _ 5)
      have H1S : Hid (∀ u ∈ [Value.int .u8 (nn % 256)], u.oneCell' = true) := Lib.hid (by simp [Value.oneCell'])
      have HKL : Hid (k + 1 ≤ 30000) := Lib.hid (by have := HLL.out; omega)
      have hu : u8s (bytM A (l.take (k + 1))) = u8s (bytM A (l.take k)) ++ [Value.int .u8 (nn % 256)] := by
        rw [HTK.out, bytM_snoc, HNN.out]
        unfold u8s
        rw [List.map_append]
        have : ((nn % 256).toNat : Int) = nn % 256 := Int.toNat_of_nonneg (Int.emod_nonneg _ (by decide))
        rw [List.map_cons, this]; rfl
      have HU := Lib.hid hu
      clear hb2 hu HO
      go_wp2_with (at_builtin; refine wpList_append_own _ rfl (.tmp 15) (.tmp 22) 101 rfl w.heap.size 5 i0 (.int .u8 0) 1 1 Tryz.underlying101 HI0.out HZ0.out HZ1.out HZ2.out rfl (by decide) _ k (u8s (bytM A (l.take k))) (by rfl) HO2.out ⟨wr.heap.size, 0, none⟩ 1 1 [.int .u8 (nn % 256)] (by rfl) rfl HC2.out H1S.out (by have := HKL.out; unfold maxLen; omega) (by have := HKL.out; omega) HB2.out.size ?_; intro v' w2 hown hgrow _)
      have HR2 : Hid (w2.ownsRow w.heap.size 5 1 v' (k + 1) (u8s (bytM A (l.take (k + 1))))) := Lib.hid (by rw [HU.out]; exact hown)
      have HB3 := Lib.hid (HB2.out.grown hgrow HB2.out.size (fun j e => (HO2.out.lt j e).1))
      clear hown hgrow
      go_wp2_with fail
      go_roundw
      case rel => exact ⟨k + 1, by omega, by go_num, HR2, HB3⟩
      case measure => simp [RowKit.intOf]; omega
    · obtain rfl : k = l.length := by omega
      have d1 : decide ((l.length : Int) < (l.length : Int)) = false := decide_eq_false (by omega)
      have d2 : decide (l.length < l.length) = false := decide_eq_false (by omega)
      have HO2 := Lib.hid (by have := HO.out; rw [List.take_length] at this; exact this)
      clear HO
      go_wp2_with fail
      go_ret
      exact ⟨_, rfl, HO2.out, HB.out⟩
end
end Go.Proofs.YthjjgpepgbfalaaGreatDoor
end
section
/-! The memory and the names side by side; zeros that are made; what a datum's value is. -/
set_option maxRecDepth 20000
set_option linter.unusedSimpArgs false
set_option linter.unusedVariables false
namespace Go.Proofs.YthjjgpepgbfalaaGreatDoor
open Go.RowKit Go.Shelf

/-- The memory at g, the names at gt: their blocks apart. -/
structure Bth (w : World) (g gt : Nat) (F : Nat → Prop) (Ft : List Nat) (m : Hm) (N : List ByteArray) : Prop where
  hp : Hep w g F m
  tb : Sy.Tb w gt Ft N
  sep : ∀ k, F k → k ∉ Ft
/-- Both blocks. -/
def bthF (F : Nat → Prop) (Ft : List Nat) : Nat → Prop := fun k => F k ∨ k ∈ Ft
def WentB (F : Nat → Prop) (Ft : List Nat) (g gt : Nat) (m : Hm) (N : List ByteArray) (w w' : World) : Prop :=
  ∃ F' Ft', Bth w' g gt F' Ft' m N ∧ Chp (bthF F Ft) (bthF F' Ft') w w'
section
variable {w w1 w2 w3 w' : World} {g gt : Nat} {F : Nat → Prop} {Ft : List Nat} {m m' : Hm} {N N' : List ByteArray}
theorem Bth.lt (h : Bth w g gt F Ft m N) : ∀ k, bthF F Ft k → k < w.heap.size := fun k hk => hk.elim (h.hp.lt k) (h.tb.lt k)
theorem Sy.Tb.keep {w w' : World} {g : Nat} {Ft : List Nat} {N : List ByteArray} (h : Sy.Tb w g Ft N) (hb : ∀ k ∈ Ft, w'.heap[k]? = w.heap[k]?) : Sy.Tb w' g Ft N := by
  obtain ⟨v, mb, h0, rfl⟩ := h
  exact ⟨v, mb, h0.same hb, rfl⟩
theorem Bth.keep (h : Bth w g gt F Ft m N) (hb : ∀ k, bthF F Ft k → w'.heap[k]? = w.heap[k]?) : Bth w' g gt F Ft m N :=
  ⟨h.hp.keep fun k hk => hb k (.inl hk), h.tb.keep fun k hk => hb k (.inr hk), h.sep⟩
theorem Bth.below (h : Bth w g gt F Ft m N) (hb : Below w.heap.size w w') : Bth w' g gt F Ft m N := h.keep fun k hk => hb.block k (h.lt k hk)
theorem WentB.refl (h : Bth w g gt F Ft m N) (hb : Below w.heap.size w w') : WentB F Ft g gt m N w w' := ⟨F, Ft, h.below hb, Chp.of_below hb⟩
/-- A change of the memory alone. -/
theorem Bth.heap (h : Bth w g gt F Ft m N) (hw : WentH F g m' w w') : WentB F Ft g gt m' N w w' := by
  obtain ⟨F', h1, hc⟩ := hw
  refine ⟨F', Ft, ⟨h1, h.tb.keep fun k hk => hc.block k (h.tb.lt k hk) fun e => h.sep k e hk, fun k hk e => ?_⟩, ⟨hc.os, hc.tape, hc.output, hc.size, fun k hk hf => hc.block k hk fun e => hf (.inl e), fun k hk => ?_⟩⟩
  · rcases hc.fresh k hk with h2 | h2
    · exact h.sep k h2 e
    · have := h.tb.lt k e; omega
  · rcases hk with hk | hk
    · rcases hc.fresh k hk with h2 | h2
      · exact .inl (.inl h2)
      · exact .inr h2
    · exact .inl (.inr hk)
/-- A change of the names alone. -/
theorem Bth.names (h : Bth w g gt F Ft m N) (hw : Sy.Went Ft gt N' w w') : WentB F Ft g gt m N' w w' := by
  obtain ⟨Ft', h1, hc⟩ := hw
  refine ⟨F, Ft', ⟨h.hp.keep fun k hk => hc.block k (h.hp.lt k hk) (h.sep k hk), h1, fun k hk e => ?_⟩, ⟨hc.os, hc.tape, hc.output, hc.size, fun k hk hf => hc.block k hk fun e => hf (.inr e), fun k hk => ?_⟩⟩
  · rcases hc.fresh k e with h2 | h2
    · exact h.sep k hk h2
    · have := h.hp.lt k hk; omega
  · rcases hk with hk | hk
    · exact .inl (.inl hk)
    · rcases hc.fresh k hk with h2 | h2
      · exact .inl (.inr h2)
      · exact .inr h2
/-- The call's own blocks changed behind a call. -/
theorem WentB.own (h : Bth w g gt F Ft m' N') (hb : Below w.heap.size w w1) (hw : WentB F Ft g gt m N w1 w2) (Q : Nat → Prop) (hQ : ∀ k, Q k → w.heap.size ≤ k ∧ k < w1.heap.size)
    (h1 : w3.os = w2.os ∧ w3.tape = w2.tape ∧ w3.output = w2.output ∧ w2.heap.size ≤ w3.heap.size) (ho : ∀ k, k < w2.heap.size → ¬ Q k → w3.heap[k]? = w2.heap[k]?) : WentB F Ft g gt m N w w3 := by
  obtain ⟨F', Ft', h3, hc⟩ := hw
  have hn : ∀ k, bthF F' Ft' k → ¬ Q k := fun k hk hq => by
    have := hQ k hq
    rcases hc.fresh k hk with h4 | h4
    · have := h.lt k h4; omega
    · omega
  refine ⟨F', Ft', h3.keep fun k hk => ho k (h3.lt k hk) (hn k hk), h1.1.trans (hc.os.trans hb.os), h1.2.1.trans (hc.tape.trans hb.tape), h1.2.2.1.trans (hc.output.trans hb.output), Nat.le_trans hb.size (Nat.le_trans hc.size h1.2.2.2), fun k hk hf => ?_, fun k hk => (hc.fresh k hk).imp id fun e => Nat.le_trans hb.size e⟩
  have l1 := Nat.lt_of_lt_of_le hk hb.size
  exact (ho k (Nat.lt_of_lt_of_le l1 hc.size) (fun e => by have := (hQ k e).1; omega)).trans ((hc.block k l1 hf).trans (hb.block k hk))
theorem WentB.pre (hb : Below w.heap.size w w1) (hw : WentB F Ft g gt m N w1 w2) : WentB F Ft g gt m N w w2 := by
  obtain ⟨F', Ft', h3, hc⟩ := hw
  exact ⟨F', Ft', h3, (Chp.of_below hb).trans hc⟩
end
/-- Zeros that are made. -/
theorem madeZ (n k : Nat) (hk : k < n * 2) : (madeCells #[.int .i64 0, .int .i64 0] (n * 2))[k]? = some (.int .i64 0) := by
  unfold madeCells
  rw [Array.getElem?_map, Array.getElem?_range, if_pos hk]
  have h2 : k % 2 = 0 ∨ k % 2 = 1 := by omega
  show some _ = _
  rcases h2 with h2 | h2 <;> simp [h2]
theorem run_makeV (n : Nat) (hn : n ≤ 100000) (w : World) : (Instr.makeSlice 30 (.int .i64 (n : Int)) (.int .i64 (n : Int))).run Tryz.prog w = .ok (.slice (some ⟨w.heap.size, 0, none⟩) n n) (w.alloc (.cells (madeCells #[.int .i64 0, .int .i64 0] (n * 2)) 36)) := by
  obtain ⟨i0, hi, hz0, hz1, hz2⟩ := info_parts Tryz.infoV
  have h := run_make (P := Tryz.prog) w 30 36 i0 _ Tryz.underlying30 hi hz0 .i64 .i64 (n : Int) (n : Int) (by omega) (by omega) (by rw [hz2]; omega) (by omega)
  rw [hz1, Int.toNat_natCast] at h
  exact h
theorem madeV (n : Nat) (w : World) : Vls (w.alloc (.cells (madeCells #[.int .i64 0, .int .i64 0] (n * 2)) 36)) (some ⟨w.heap.size, 0, none⟩) n (List.replicate n (0, 0)) := by
  refine ⟨List.length_replicate, fun hn => ⟨w.heap.size, 0, rfl, fun i hi => ?_⟩⟩
  have hg : (List.replicate n ((0 : Int), (0 : Int))).getD i (0, 0) = (0, 0) := by
    rw [List.getD_eq_getElem?_getD, List.getElem?_replicate]
    split <;> rfl
  rw [hg, Nat.zero_add]
  have hr := heap_alloc_new w (.cells (madeCells #[.int .i64 0, .int .i64 0] (n * 2)) 36)
  exact ⟨by rw [cell_of_row _ _ _ _ _ _ hr, madeZ n _ (by omega)], by rw [cell_of_row _ _ _ _ _ _ hr, madeZ n _ (by omega)]⟩
/-- A node's value, and what becomes of the memory and the names. -/
def bareM (m : Hm) (N : List ByteArray) (A : List Nd) (i : Nat) : (Int × Int) × Hm × List ByteArray :=
  if (ndAt A i).t.k = 10 then ((2, (ndAt A i).t.n), m, N)
  else if (ndAt A i).t.k = 11 then ((1, (ndAt A i).t.n), m, N)
  else if (ndAt A i).t.k = 12 then ((3, (ndAt A i).t.n), m, N)
  else if (ndAt A i).t.k = 14 then ((4, Sy.numA N ⟨(ndAt A i).t.s.toArray⟩), m, Sy.numM N ⟨(ndAt A i).t.s.toArray⟩)
  else if (ndAt A i).t.k = 13 then (addV m (obS ⟨(ndAt A i).t.s.toArray⟩), addM m (obS ⟨(ndAt A i).t.s.toArray⟩), N)
  else if (ndAt A i).t.k = 3 then (addV m ⟨3, [], bytM A (ndAt A i).is⟩, addM m ⟨3, [], bytM A (ndAt A i).is⟩, N)
  else if (ndAt A i).t.k = 2 then (addV m (obL (List.replicate (ndAt A i).is.length (0, 0))), addM m (obL (List.replicate (ndAt A i).is.length (0, 0))), N)
  else ((bzS m (pairsZ (ndAt A i)).toNat).2, (bzS m (pairsZ (ndAt A i)).toNat).1, N)
end Go.Proofs.YthjjgpepgbfalaaGreatDoor
end
