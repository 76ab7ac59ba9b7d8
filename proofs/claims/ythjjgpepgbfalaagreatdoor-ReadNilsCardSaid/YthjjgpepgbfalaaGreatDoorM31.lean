/- Texts RdK3 to RdZ2 of this seat, laid into one. -/
import Derived.Maps.OwnSet
import Derived.Test.YthjjgpepgbfalaaGreatDoorM20
import Derived.Test.YthjjgpepgbfalaaGreatDoorM30
set_option linter.unusedVariables false
set_option linter.unusedSimpArgs false
set_option linter.constructorNameAsVariable false
section
/-! Chain. -/
set_option maxRecDepth 20000
set_option linter.unusedSimpArgs false
set_option linter.unusedVariables false
namespace Go.Proofs.YthjjgpepgbfalaaGreatDoor
open Go.RowKit Go.Shelf
attribute [local go_sem] Oper.semAt_some

def chE (L : Pls) (v : Int × Int) (n : Nat) : Int × Int := if curM L v n ∈ curL L v n then (0, 0) else curM L v n
/-- What Chain tells. -/
def ChR (w w' : World) (L : Pls) (v : Int × Int) (e : Ending) : Prop := ∃ n us, EndP L v n ∧ w'.ownsRow w.heap.size 36 2 us n (flatV (itmL L v n)) ∧ Below w.heap.size w w' ∧ e = .returned (.tuple #[us, .agg #[.int .i64 (chE L v n).1, .int .i64 (chE L v n).2], .bool (!decide (curM L v n ∈ curL L v n))])
def frH (A : Act) (x : (Int × Int) × (Int × Int) × (Int × Int)) (B10 B11 : Nat) : Act := { tmps := (((A.tmps.setIfInBounds 19 (.agg #[.int .i64 x.1.1, .int .i64 x.1.2])).setIfInBounds 20 (.agg #[.int .i64 x.2.1.1, .int .i64 x.2.1.2, .int .i64 x.2.2.1, .int .i64 x.2.2.2])).setIfInBounds 10 (.pointer (some ⟨B10, 0, none⟩))).setIfInBounds 11 (.pointer (some ⟨B11, 0, none⟩)), defers := [] }
theorem ChJ.fin {w W W2 : World} {g : Nat} {L : Pls} {v : Int × Int} {vs us : Value} {i D : Nat} (h : ChJ w g L v vs us i i i W) (hb : Below W.heap.size W W2) (hD : W.heap[D]? = some (.deferred (some []))) (hlt : w.heap.size + 7 ≤ D) (x y : Int) (o : Obj) :
    (Bx2 W2 (w.heap.size + 1) (.int .i64 0) (.int .i64 0)) ∧ (∀ W9 : World, W9.heap = ((W2.setCell ⟨w.heap.size + 1, 0, none⟩ (.int .i64 x)).setCell ⟨w.heap.size + 1, 1, none⟩ (.int .i64 y)).heap → W9.os = W2.os → W9.tape = W2.tape → W9.output = W2.output →
    W9.heap[D]? = some (.deferred (some [])) ∧ (W9.putObj D o).heap[w.heap.size + 1]? = some (.cells #[.int .i64 x, .int .i64 y] 36 (0, 0)) ∧ (W9.putObj D o).ownsRow w.heap.size 36 2 us i (flatV (itmL L v i)) ∧ Below w.heap.size w (W9.putObj D o)) := by
  have hrs := (hb.block _ (lt_of_block h.rs)).trans h.rs
  have hDl := (Array.getElem?_eq_some_iff.1 hD).1
  have hw := h.below.size
  have h6 := h.b1.lt
  refine ⟨Bx2.of hrs, fun W9 e1 e2 e3 e4 => ?_⟩
  have o2 := two_only W2 (w.heap.size + 1) (.int .i64 x) (.int .i64 y)
  have hz2 := o2.size
  have hz1 := hb.size
  have hzz : W9.heap.size = ((W2.setCell ⟨w.heap.size + 1, 0, none⟩ (.int .i64 x)).setCell ⟨w.heap.size + 1, 1, none⟩ (.int .i64 y)).heap.size := by rw [e1]
  have ho : ∀ k, k < W.heap.size → k ≠ w.heap.size + 1 → W9.heap[k]? = W.heap[k]? := fun k hk hne => by rw [e1]; exact (o2.block k (by omega) hne).trans (hb.block k hk)
  have hq : ∀ k, k < W.heap.size → k ≠ w.heap.size + 1 → k ≠ D → (W9.putObj D o).heap[k]? = W.heap[k]? := fun k hk h1 h2 => (World.putObj_heap_other h2).trans (ho k hk h1)
  have hg := grownBy_putObj' W9 D o
  refine ⟨(ho D hDl (by omega)).trans hD, ?_, ?_, ?_⟩
  · refine (World.putObj_heap_other (by omega)).trans ?_
    rw [e1]
    exact heap_setCell_same _ _ 1 _ _ _ (heap_setCell_same _ _ 0 _ _ _ hrs)
  · refine own_low (own_other h.it.row fun k e => ?_) (Nat.le_add_right _ 7)
    have h1 := h.it.row.lt k e
    refine hq k h1.2 (by omega) fun e2 => ?_
    obtain ⟨cur, hc⟩ := own_head h.it.row e
    rw [e2, hD] at hc
    cases hc
  · exact ⟨hg.os.trans (e2.trans (hb.os.trans h.below.os)), hg.tape.trans (e3.trans (hb.tape.trans h.below.tape)), hg.output.trans (e4.trans (hb.output.trans h.below.output)), by have := hg.size; omega, fun k hk => (hq k (by omega) (by omega) (by omega)).trans (h.below.block k hk)⟩
section
variable {w : World} {g : Nat} {F : Nat → Prop} {m : Hm}
set_option maxRecDepth 100000 in
set_option maxHeartbeats 4000000 in
theorem chain_any (h : Hep w g F m) (hh : Here m.L) (v : Int × Int) (hd : ∀ i, domV (curM m.L v i)) :
    Calls Tryz.prog 21 #[.pointer (some ⟨g, 0, none⟩), .agg #[.int .i64 v.1, .int .i64 v.2]] w fun e w' => ChR w w' m.L v e := by
  have HH := Lib.hid h
  have HHH := Lib.hid hh
  have HD := Lib.hid hd
  have HLN : Hid (m.L.length ≤ 16384) := Lib.hid (Nat.le_trans h.ok.len h.ok.l1)
  have hmf : ∀ (fn : Fn) (first cap : Array Value) (w : World), (Instr.makeFunc fn first cap).run Tryz.prog w = .ok (.func fn first cap) w := fun _ _ _ _ => rfl
  have hmix : Tryz.prog.follows .mixedOrders = true := by kernel_rfl
  obtain ⟨i0, hi0, hz0, hz1, hz2⟩ := info_parts Tryz.infoV
  have HI0 := Lib.hid hi0
  have HZ0 := Lib.hid hz0
  have HZ1 := Lib.hid hz1
  have HZ2 := Lib.hid hz2
  clear h hh hd hi0 hz0 hz1 hz2
  refine (callsIn_wide (n := 5)).1 ?_
  refine callsIn_of_wp_marks Tryz.func21 rfl trivial ?_ rfl
  simp only [Tryz.ntmps21, List.size_toArray, List.length_cons, List.length_nil, Nat.reduceAdd, Nat.reduceSub, Array.replicate_succ, Array.replicate_zero, List.push_toArray, List.append_toArray, List.nil_append, List.cons_append]
  refine wpIn_wide.2 ?_
  go_wp2_with (go_at_call 38; with_reducible refine (pairs_any v.1 v.2 g _).mono ?_; rintro e w2 ⟨rfl, rfl⟩)
  obtain ⟨w7, hw7⟩ : ∃ w7, ((((((w.alloc (.cells #[.int .i64 v.1, .int .i64 v.2] 36)).alloc (.cells #[.int .i64 0, .int .i64 0] 36)).alloc (.cells #[.slice none 0 0] 30)).alloc (.cells #[.slice none 0 0] 30)).alloc (.cells #[.int .i64 v.1, .int .i64 v.2] 36)).alloc (.cells #[.pointer (some ⟨g, 0, none⟩)] 24)).alloc (.cells #[.int .i64 v.1, .int .i64 v.2] 36) = w7 := ⟨_, rfl⟩
  have hs7 : w7.heap.size = w.heap.size + 7 := by rw [← hw7]; simp
  have hb7 : Below w.heap.size w w7 := by rw [← hw7]; exact (((((((Below.refl _ _).alloc (Nat.le_refl _) _).alloc (by simp) _).alloc (by simp; omega) _).alloc (by simp; omega) _).alloc (by simp; omega) _).alloc (by simp; omega) _).alloc (by simp; omega) _
  have hat : ∀ (u : World) (o : Obj) (k : Nat) (c : Obj), u.heap[k]? = some c → (u.alloc o).heap[k]? = some c := fun u o k c hc => (Below.heap_alloc _ _ _ (Array.getElem?_eq_some_iff.1 hc).1).trans hc
  have hnew : ∀ (u : World) (o : Obj) (k : Nat), u.heap.size = k → (u.alloc o).heap[k]? = some o := fun u o k hk => by rw [← hk]; exact heap_alloc_new u o
  have r1 : w7.heap[w.heap.size + 1]? = some (.cells #[.int .i64 0, .int .i64 0] 36 (0, 0)) := by
    rw [← hw7]; exact hat _ _ _ _ (hat _ _ _ _ (hat _ _ _ _ (hat _ _ _ _ (hat _ _ _ _ (hnew _ _ _ (by simp))))))
  have r2 : w7.heap[w.heap.size + 2]? = some (.cells #[.slice none 0 0] 30 (0, 0)) := by
    rw [← hw7]; exact hat _ _ _ _ (hat _ _ _ _ (hat _ _ _ _ (hat _ _ _ _ (hnew _ _ _ (by simp)))))
  have r3 : w7.heap[w.heap.size + 3]? = some (.cells #[.slice none 0 0] 30 (0, 0)) := by
    rw [← hw7]; exact hat _ _ _ _ (hat _ _ _ _ (hat _ _ _ _ (hnew _ _ _ (by simp))))
  have r4 : w7.heap[w.heap.size + 4]? = some (.cells #[.int .i64 v.1, .int .i64 v.2] 36 (0, 0)) := by
    rw [← hw7]; exact hat _ _ _ _ (hat _ _ _ _ (hnew _ _ _ (by simp)))
  have r5 : w7.heap[w.heap.size + 5]? = some (.cells #[.pointer (some ⟨g, 0, none⟩)] 24 (0, 0)) := by
    rw [← hw7]; exact hat _ _ _ _ (hnew _ _ _ (by simp))
  have r6 : w7.heap[w.heap.size + 6]? = some (.cells #[.int .i64 v.1, .int .i64 v.2] 36 (0, 0)) := by
    rw [← hw7]; exact hnew _ _ _ (by simp)
  have hJ : ChJ w g m.L v (.slice none 0 0) (.slice none 0 0) 0 0 0 w7 := ⟨fun j hj => by omega, ⟨r2, World.ownsRow_nil _ _ _ _⟩, ⟨r3, World.ownsRow_nil _ _ _ _⟩, Bx2.of r4, r1, Bx2.of r6, r5, fun k e => (by simp [Value.ownBlock] at e), hb7⟩
  have HJ := Lib.hid hJ
  have HSZ := Lib.hid hs7
  clear hJ hb7 hs7 r1 r2 r3 r4 r5 r6 hat hnew
  simp only [World.size_alloc, Nat.add_assoc, Nat.reduceAdd] at *
  rw [hw7]
  clear hw7
  refine (wpIn_wide (n := 5)).1 (gen_actC ?_)
  intro A0 hA0
  refine wpIn_rangeF rfl (by omega) (gf := 57) (lb := #[.pointer (some ⟨w.heap.size + 6, 0, none⟩), .pointer (some ⟨w.heap.size + 5, 0, none⟩)]) (by rw [hA0]; rfl) trivial (enters_of Tryz.func57 (by kernel_rfl) rfl) (pairs_seq 4 (by omega) g (w.heap.size + 6) (w.heap.size + 5) F m HHH.out HLN.out v HD.out) (fun _ => rfl)
    (ChI w g m.L v) (ChI.stay (by have := HSZ.out; omega)) ChI.inF ?good (chQ w (.slice none 0 0) (.slice none 0 0)) ⟨_, _, rfl, HJ.out⟩
    (fun i x a' W Q => ∃ B10 B11 vs us, a' = frH A0 x B10 B11 ∧ Q = (fun k => chQ w vs us k ∨ k = B10 ∨ k = B11) ∧ (¬ chQ w vs us B10 ∧ ¬ chQ w vs us B11) ∧ W.heap[B10]? = some (.cells #[.int .i64 x.1.1, .int .i64 x.1.2] 36 (0, 0)) ∧ W.heap[B11]? = some (.cells #[.int .i64 x.2.1.1, .int .i64 x.2.1.2, .int .i64 x.2.2.1, .int .i64 x.2.2.2] 68 (0, 0)) ∧ (w.heap.size + 7 ≤ B10 ∧ w.heap.size + 7 ≤ B11) ∧ ItemP m.L v i x ∧ ChJ w g m.L v vs us i i i W)
    ?ax ?assign ?body ?done
  case good =>
    rintro i W Q1 a b ⟨vs, us, rfl, h⟩
    exact ⟨HH.out.below h.below, h.b1, h.b2⟩
  case ax =>
    rintro i x a' u W W' Q ⟨B10, B11, vs, us, h1, rfl, hq, h6, h7, hn, hx, h⟩ e1 e2 e3 e4 hk
    exact ⟨B10, B11, vs, us, h1, rfl, hq, (hk _ (lt_of_block h6) (.inr (.inr (.inl rfl)))).trans h6, (hk _ (lt_of_block h7) (.inr (.inr (.inr rfl)))).trans h7, hn, hx, h.keep (by have := HSZ.out; omega) e1 e2 e3 e4 fun k hk1 hk2 => hk k hk1 (hk2.imp id .inl)⟩
  case assign =>
    rintro l i ⟨⟨a1, a2⟩, ⟨b1, b2⟩, c1, c2⟩ W Q K ⟨vs, us, rfl, h⟩ hx hKK
    have HKK := Lib.hid hKK
    have HX := Lib.hid hx
    have HI := Lib.hid h
    have hb : Below W.heap.size W ((W.alloc (.cells #[.int .i64 a1, .int .i64 a2] 36)).alloc (.cells #[.int .i64 b1, .int .i64 b2, .int .i64 c1, .int .i64 c2] 68)) := ((Below.refl _ _).alloc (Nat.le_refl _) _).alloc (by simp) _
    have r6 := (Below.heap_alloc (W.alloc (.cells #[.int .i64 a1, .int .i64 a2] 36)) (.cells #[.int .i64 b1, .int .i64 b2, .int .i64 c1, .int .i64 c2] 68) W.heap.size (by simp)).trans (heap_alloc_new W (.cells #[.int .i64 a1, .int .i64 a2] 36))
    have r7 := heap_alloc_new (W.alloc (.cells #[.int .i64 a1, .int .i64 a2] 36)) (.cells #[.int .i64 b1, .int .i64 b2, .int .i64 c1, .int .i64 c2] 68)
    rw [World.size_alloc] at r7
    have HB := Lib.hid hb
    have R6 := Lib.hid r6
    have R7 := Lib.hid r7
    clear h hx hKK hb r6 r7
    subst hA0
    gi_wp2
    have hz7 : w.heap.size + 7 ≤ W.heap.size := by have := HI.out.b1.lt; omega
    have hnq : ∀ k, W.heap.size ≤ k → ¬ chQ w vs us k := by
      rintro k hk (e | e | e | e | e)
      · omega
      · omega
      · omega
      · have := (HI.out.bn.row.lt k e).2; omega
      · have := (HI.out.it.row.lt k e).2; omega
    exact HKK.out _ _ (fun k => chQ w vs us k ∨ k = W.heap.size ∨ k = W.heap.size + 1) ⟨HB.out.os, HB.out.tape, HB.out.output, HB.out.size, fun k hk _ => HB.out.block k hk, fun k hk => hk.elim .inl fun e => .inr (by omega)⟩
      ⟨W.heap.size, W.heap.size + 1, vs, us, rfl, rfl, ⟨hnq _ (Nat.le_refl _), hnq _ (by omega)⟩, R6.out, R7.out, ⟨by omega, by omega⟩, HX.out, HI.out.keep (B := w7.heap.size) (by have := HSZ.out; omega) HB.out.os HB.out.tape HB.out.output HB.out.size fun k hk _ => HB.out.block k hk⟩
  case body =>
    rintro l i ⟨⟨a1, a2⟩, ⟨b1, b2⟩, c1, c2⟩ a' W Q hl ⟨B10, B11, vs, us, rfl, rfl, ⟨hq1, hq2⟩, h10, h11, hn, ⟨hgo, hx⟩, h⟩
    have hz : (a1, a2) = curM m.L v i ∧ (b1, b2) = atV m.L (curM m.L v i) 0 ∧ (c1, c2) = curM m.L v (i + 1) := ⟨(Prod.mk.inj hx).1, (Prod.mk.inj (Prod.mk.inj hx).2).1, (Prod.mk.inj (Prod.mk.inj hx).2).2⟩
    have hil : i ≤ 16384 := by have := goes_short h.goes; have := HLN.out; omega
    have hz7 : w.heap.size + 7 ≤ W.heap.size := by have := h.b1.lt; omega
    obtain ⟨q, cp, e⟩ := own_form h.bn.row
    have y7 := cell_of_row _ _ 0 _ _ _ h.bn.b5
    have y100 := cell_of_row _ _ 0 _ _ _ h10
    have y101 := cell_of_row _ _ 1 _ _ _ h10
    simp at y7 y100 y101
    have hro := own_below h.bn.row (alloc_below W (.cells #[.int .i64 a1, .int .i64 a2] 36))
    have HB1 : Hid (∀ w2 gn cap, w2.ownsRow (w.heap.size + 7) 36 2 (.slice (some ⟨gn, 0, none⟩) (i + 1) cap) (i + 1) (flatV (curL m.L v i) ++ [.int .i64 a1, .int .i64 a2]) → (W.alloc (.cells #[.int .i64 a1, .int .i64 a2] 36)).grownBy w2 vs.ownBlock → (vs.ownBlock = some gn ∨ gn = W.heap.size + 1) →
        (w2.cell? ⟨w.heap.size + 2, 0, none⟩ = some vs ∧ w2.frozen? ⟨w.heap.size + 2, 0, none⟩ = false) ∧ ∃ vs2, ChJ w g m.L v vs2 us (i + 1) i i (w2.setCell ⟨w.heap.size + 2, 0, none⟩ (.slice (some ⟨gn, 0, none⟩) (i + 1) cap)) ∧ ((w2.setCell ⟨w.heap.size + 2, 0, none⟩ (.slice (some ⟨gn, 0, none⟩) (i + 1) cap)).heap[B11]? = W.heap[B11]? ∧ ¬ chQ w vs2 us B11) ∧ w.heap.size + 7 ≤ (w2.setCell ⟨w.heap.size + 2, 0, none⟩ (.slice (some ⟨gn, 0, none⟩) (i + 1) cap)).heap.size ∧ Chp (chQ w vs us) (chQ w vs2 us) W (w2.setCell ⟨w.heap.size + 2, 0, none⟩ (.slice (some ⟨gn, 0, none⟩) (i + 1) cap))) := Lib.hid fun w2 gn cap h1 h2 h3 => by
      have h1' : w2.ownsRow (w.heap.size + 7) 36 2 (.slice (some ⟨gn, 0, none⟩) (i + 1) cap) (i + 1) (flatV (curL m.L v (i + 1))) := by rw [curL_succ, flatV_append, ← hz.1]; exact h1
      obtain ⟨k1, k2, k3, k4⟩ := h.been h1' h2 h3 hz7
      have hsz := k4.size
      exact ⟨k1, _, k2, ⟨k3 _ (lt_of_block h11) hq2, k4.out (lt_of_block h11) hq2⟩, by omega, k4⟩
    have H11 := Lib.hid h11
    have HZZ := Lib.hid hz
    have HGO := Lib.hid hgo
    have HIL := Lib.hid hil
    have HZ7 := Lib.hid hz7
    subst e
    have HRO := Lib.hid hro
    clear h hq1 hq2 h10 h11 hn hgo hx hz hil hz7 hro HJ
    subst hA0
    simp only [frH, List.setIfInBounds_toArray, List.set]
    gi_upto_region 9 with (gi_at_builtin; refine wpListIn_append_lies _ rfl _ _ 30 rfl (w.heap.size + 7) 36 i0 (.agg #[.int .i64 0, .int .i64 0]) 2 16 Tryz.underlying30 HI0.out HZ0.out HZ1.out HZ2.out rfl (by decide) (.slice q i cp) i (flatV (curL m.L v i)) rfl HRO.out ⟨W.heap.size, 0, none⟩ 1 1 [.int .i64 a1, .int .i64 a2] rfl rfl (World.news_of_block (heap_alloc_new _ _)) (by simp [Value.oneCell']) (by decide) (by have := HIL.out; unfold maxLen; omega) (by have := HIL.out; omega) (by have := HZ7.out; simp; omega) (W.heap.size + 1) (by simp) ?_; intro gn cap w2 hown hgrow hat hlt; obtain ⟨⟨k1, k2⟩, vs2, k3⟩ := HB1.out w2 gn cap hown hgrow hat; have K3 := Lib.hid k3; clear k3 hown hgrow hat hlt)
    clear HB1 y7 y100 y101 k1 k2
    generalize w2.setCell ⟨w.heap.size + 2, 0, none⟩ (.slice (some ⟨gn, 0, none⟩) (i + 1) cap) = W3 at *
    obtain ⟨h, ⟨h11, hq2⟩, hz7, hc3⟩ := K3.out
    have HC3 := Lib.hid hc3
    rw [H11.out] at h11
    obtain ⟨q2, cp2, e2⟩ := own_form h.it.row
    have y8 := cell_of_row _ _ 0 _ _ _ h.it.b5
    have y110 := cell_of_row _ _ 0 _ _ _ h11
    have y111 := cell_of_row _ _ 1 _ _ _ h11
    simp at y8 y110 y111
    have hro := own_below h.it.row (alloc_below W3 (.cells #[.int .i64 b1, .int .i64 b2] 36))
    have HB1 : Hid (∀ w2 gn cap, w2.ownsRow (w.heap.size + 7) 36 2 (.slice (some ⟨gn, 0, none⟩) (i + 1) cap) (i + 1) (flatV (itmL m.L v i) ++ [.int .i64 b1, .int .i64 b2]) → (W3.alloc (.cells #[.int .i64 b1, .int .i64 b2] 36)).grownBy w2 us.ownBlock → (us.ownBlock = some gn ∨ gn = W3.heap.size + 1) →
        (w2.cell? ⟨w.heap.size + 3, 0, none⟩ = some us ∧ w2.frozen? ⟨w.heap.size + 3, 0, none⟩ = false) ∧ ∃ us2, ChJ w g m.L v vs2 us2 (i + 1) (i + 1) i (w2.setCell ⟨w.heap.size + 3, 0, none⟩ (.slice (some ⟨gn, 0, none⟩) (i + 1) cap)) ∧ (w2.setCell ⟨w.heap.size + 3, 0, none⟩ (.slice (some ⟨gn, 0, none⟩) (i + 1) cap)).heap[B11]? = W3.heap[B11]? ∧ Chp (chQ w vs2 us) (chQ w vs2 us2) W3 (w2.setCell ⟨w.heap.size + 3, 0, none⟩ (.slice (some ⟨gn, 0, none⟩) (i + 1) cap))) := Lib.hid fun w2 gn cap h1 h2 h3 => by
      have h1' : w2.ownsRow (w.heap.size + 7) 36 2 (.slice (some ⟨gn, 0, none⟩) (i + 1) cap) (i + 1) (flatV (itmL m.L v (i + 1))) := by rw [itmL_succ, flatV_append, ← HZZ.out.2.1]; exact h1
      obtain ⟨k1, k2, k3, k4⟩ := h.item h1' h2 h3 hz7
      exact ⟨k1, _, k2, k3 _ (lt_of_block h11) hq2, k4⟩
    have H11 := Lib.hid h11
    have HZ7 := Lib.hid hz7
    subst e2
    have HRO := Lib.hid hro
    clear h hq2 h11 hz7 hro K3 hc3
    gi_upto_region 10 with (gi_at_builtin; refine wpListIn_append_lies _ rfl _ _ 30 rfl (w.heap.size + 7) 36 i0 (.agg #[.int .i64 0, .int .i64 0]) 2 16 Tryz.underlying30 HI0.out HZ0.out HZ1.out HZ2.out rfl (by decide) (.slice q2 i cp2) i (flatV (itmL m.L v i)) rfl HRO.out ⟨W3.heap.size, 0, none⟩ 1 1 [.int .i64 b1, .int .i64 b2] rfl rfl (World.news_of_block (heap_alloc_new _ _)) (by simp [Value.oneCell']) (by decide) (by have := HIL.out; unfold maxLen; omega) (by have := HIL.out; omega) (by have := HZ7.out; simp; omega) (W3.heap.size + 1) (by simp) ?_; intro gn2 cap2 w5 hown hgrow hat hlt; obtain ⟨⟨k1, k2⟩, us2, k3⟩ := HB1.out w5 gn2 cap2 hown hgrow hat; have K3 := Lib.hid k3; clear k3 hown hgrow hat hlt)
    clear HB1 y8 y110 y111 k1 k2
    generalize w5.setCell ⟨w.heap.size + 3, 0, none⟩ (.slice (some ⟨gn2, 0, none⟩) (i + 1) cap2) = W4 at *
    obtain ⟨h, h11, hc4⟩ := K3.out
    rw [H11.out] at h11
    have y112 := cell_of_row _ _ 2 _ _ _ h11
    have y113 := cell_of_row _ _ 3 _ _ _ h11
    simp at y112 y113
    have y90 := h.en.c0
    have y91 := h.en.c1
    have f90 := h.en.f0
    have f91 := h.en.f1
    have HFIN : Hid (∃ Q2, ChI w g m.L v (i + 1) ((W4.setCell ⟨w.heap.size + 4, 0, none⟩ (.int .i64 c1)).setCell ⟨w.heap.size + 4, 1, none⟩ (.int .i64 c2)) Q2 ∧ Chp (fun k => chQ w (.slice q i cp) (.slice q2 i cp2) k ∨ k = B10 ∨ k = B11) Q2 W ((W4.setCell ⟨w.heap.size + 4, 0, none⟩ (.int .i64 c1)).setCell ⟨w.heap.size + 4, 1, none⟩ (.int .i64 c2))) := Lib.hid (by
      obtain ⟨k1, k2⟩ := h.step HGO.out
      rw [← HZZ.out.2.2] at k1 k2
      exact ⟨_, ⟨_, _, rfl, k1⟩, ((HC3.out.trans hc4).trans k2).left fun k hk => .inl hk⟩)
    generalize (curM m.L v i).1 = e1 at *
    generalize (curM m.L v i).2 = e2 at *
    clear h h11 hc4 K3
    gi_wp2
    exact HFIN.out
  case done =>
    rintro D i W Q hD ⟨vs, us, rfl, h⟩ hnD hend hDD
    have HJ2 := Lib.hid h
    have HDD := Lib.hid hDD
    have HEND := Lib.hid hend
    have HDZ : Hid (w.heap.size + 7 ≤ D) := Lib.hid (by have := HSZ.out; omega)
    have hil : i ≤ 16384 := by have := goes_short h.goes; have := HLN.out; omega
    have y2 := cell_of_row _ _ 0 _ _ _ h.bn.b5
    have y3 := cell_of_row _ _ 0 _ _ _ h.it.b5
    have y40 := h.en.c0
    have y41 := h.en.c1
    simp at y2 y3
    have HB3 := Lib.hid h.it.b5
    have HC := Lib.hid (containsV vs i (curL m.L v i) (w.heap.size + 7) (by omega) (curL_len ..) h.bn.row (curM m.L v i))
    have HB2 := Lib.hid h.bn.b5
    have HEN := Lib.hid h.en.row
    have HLT := Lib.hid (And.intro (lt_of_block h.it.b5) h.en.lt)
    have hb0 := built0
    have HSV := Lib.hid sizeVal
    have HFI := Lib.hid (fun (W2 : World) (hb : Below W.heap.size W W2) (x y : Int) => h.fin hb hDD HDZ.out x y (.deferred none))
    have HE : Hid (∀ (c : Bool), decide (curM m.L v i ∈ curL m.L v i) = c → chE m.L v i = if c = true then (0, 0) else curM m.L v i) := Lib.hid fun c hc => by
      unfold chE
      cases c with
      | true => rw [if_pos (by simpa using hc), if_pos rfl]
      | false => rw [if_neg (by simpa using hc), if_neg (by decide)]
    clear h hnD hend hDD HJ hD
    generalize hcu : curM m.L v i = cu at *
    obtain ⟨u1, u2⟩ := cu
    simp only at y40 y41 HC HEN
    have HCU := Lib.hid hcu
    clear hcu
    subst hA0
    cases hm : decide ((u1, u2) ∈ curL m.L v i) with
    | true =>
      rw [hm] at HC
      have HM := Lib.hid hm
      clear hm
      go_wp2_with (go_at_call 39; with_reducible refine HC.out.mono ?_; rintro e w4 ⟨rfl, hb4⟩; have y3' := (World.cell?_of_block (hb4.block _ HLT.out.1)).trans y3; obtain ⟨h6, h7⟩ := HFI.out w4 hb4 0 0; have c0 := h6.c0; have c1 := h6.c1; have f0 := h6.f0; have f1 := h6.f1; have H7 := Lib.hid h7; clear h7 h6)
      obtain ⟨k1, k2, k3, k4⟩ := H7.out _ rfl rfl rfl rfl
      refine ⟨by simp, .inl ⟨_, _, rfl, run_takeDeferred k1, ?_⟩⟩
      refine ⟨.tuple #[us, .agg #[.int .i64 0, .int .i64 0], .bool false], results_tmp_row_tmp Tryz.results21 _ _ (w.heap.size + 1) 36 #[.int .i64 0, .int .i64 0] (0, 0) _ rfl k2 Tryz.underlying36 rfl HSV.out, ?_⟩
      refine ⟨i, us, HEND.out, k3, k4, ?_⟩
      rw [HE.out true (by rw [HM.out]), HCU.out, HM.out]
      rfl
    | false =>
      rw [hm] at HC
      have HM := Lib.hid hm
      clear hm
      go_upto_region 13 with (go_at_call 39; with_reducible refine HC.out.mono ?_; rintro e w4 ⟨rfl, hb4⟩)
      have y3' := (World.cell?_of_block (hb4.block _ HLT.out.1)).trans y3
      have y40' := (World.cell?_of_block (hb4.block _ HLT.out.2)).trans y40
      have y41' := (World.cell?_of_block (hb4.block _ HLT.out.2)).trans y41
      obtain ⟨h6, h7⟩ := HFI.out w4 hb4 u1 u2
      have c0 := h6.c0
      have c1 := h6.c1
      have f0 := h6.f0
      have f1 := h6.f1
      have H7 := Lib.hid h7
      clear h7 h6 y2 y3 y40 y41 hb4
      go_region
      all_goals (go_wp2_with fail)
      all_goals (obtain ⟨k1, k2, k3, k4⟩ := H7.out ((w4.setCell ⟨w.heap.size + 1, 0, none⟩ (.int .i64 u1)).setCell ⟨w.heap.size + 1, 1, none⟩ (.int .i64 u2)).drew rfl rfl rfl rfl)
      all_goals (refine ⟨by simp, .inl ⟨_, _, rfl, run_takeDeferred k1, ?_⟩⟩)
      all_goals (refine ⟨.tuple #[us, .agg #[.int .i64 u1, .int .i64 u2], .bool true], results_tmp_row_tmp Tryz.results21 _ _ (w.heap.size + 1) 36 #[.int .i64 u1, .int .i64 u2] (0, 0) _ rfl k2 Tryz.underlying36 rfl HSV.out, ?_⟩)
      all_goals (refine ⟨i, us, HEND.out, k3, k4, ?_⟩)
      all_goals (rw [HE.out false (by rw [HM.out]), HCU.out, HM.out]; rfl)
end
end Go.Proofs.YthjjgpepgbfalaaGreatDoor
end
section
/-! List. -/
set_option maxRecDepth 20000
set_option linter.unusedSimpArgs false
set_option linter.unusedVariables false
namespace Go.Proofs.YthjjgpepgbfalaaGreatDoor
open Go.RowKit Go.Shelf

/-- Is it a list, whose chain has so many pairs? -/
def isList (L : Pls) (v : Int × Int) (n : Nat) : Bool := !decide (curM L v n ∈ curL L v n) && decide ((curM L v n).1 = 0)
/-- What List tells. -/
def ListR (w w' : World) (L : Pls) (v : Int × Int) (e : Ending) : Prop := ∃ n us, EndP L v n ∧ w'.ownsRow w.heap.size 36 2 us n (flatV (itmL L v n)) ∧ Below w.heap.size w w' ∧ e = .returned (.tuple #[if isList L v n = true then us else .slice none 0 0, .bool (isList L v n)])
section
variable {w : World} {g : Nat} {F : Nat → Prop} {m : Hm}
set_option maxHeartbeats 1600000 in
theorem list_any (h : Hep w g F m) (hh : Here m.L) (v : Int × Int) (hd : ∀ i, domV (curM m.L v i)) :
    Calls Tryz.prog 13 #[.pointer (some ⟨g, 0, none⟩), .agg #[.int .i64 v.1, .int .i64 v.2]] w fun e w' => ListR w w' m.L v e := by
  obtain ⟨w1, hw1⟩ : ∃ w1, w.alloc (.cells #[.int .i64 v.1, .int .i64 v.2] 36) = w1 := ⟨_, rfl⟩
  have hb1 : Below w.heap.size w w1 := by rw [← hw1]; exact alloc_below w _
  have h31 : w1.heap[w.heap.size]? = some (.cells #[.int .i64 v.1, .int .i64 v.2] 36 (0, 0)) := by rw [← hw1]; exact heap_alloc_new w _
  have y0 := cell_of_row _ _ 0 _ _ _ h31
  have y1 := cell_of_row _ _ 1 _ _ _ h31
  simp at y0 y1
  have HC := Lib.hid (chain_any (h.below hb1) hh v hd)
  have HB1 := Lib.hid hb1
  have HFIN : Hid (∀ w4 n us (x y : Int), EndP m.L v n → w4.ownsRow w1.heap.size 36 2 us n (flatV (itmL m.L v n)) → Below w1.heap.size w1 w4 → ListR w (w4.alloc (.cells #[.int .i64 x, .int .i64 y] 36)) m.L v (.returned (.tuple #[if isList m.L v n = true then us else .slice none 0 0, .bool (isList m.L v n)]))) := Lib.hid fun w4 n us x y h1 h2 h3 =>
    ⟨n, us, h1, own_low (own_below h2 (alloc_below _ _)) hb1.size, hb1.trans ((h3.mono hb1.size).trans ((alloc_below w4 _).mono (Nat.le_trans hb1.size h3.size))), rfl⟩
  have HN0 : Hid (∀ (u : World) (x y : Int), (u.alloc (.cells #[.int .i64 x, .int .i64 y] 36)).cell? ⟨u.heap.size, 0, none⟩ = some (.int .i64 x)) := Lib.hid fun u x y => by simp
  clear h hb1 h31 hd
  unfold ChR at HC
  by_cases hcase : ∀ n, EndP m.L v n → decide (curM m.L v n ∈ curL m.L v n) = true
  · have HC2 : Hid (Calls Tryz.prog 21 #[.pointer (some ⟨g, 0, none⟩), .agg #[.int .i64 v.1, .int .i64 v.2]] w1 fun e w' => ∃ n us, e = .returned (.tuple #[us, .agg #[.int .i64 0, .int .i64 0], .bool false]) ∧ EndP m.L v n ∧ w'.ownsRow w1.heap.size 36 2 us n (flatV (itmL m.L v n)) ∧ Below w1.heap.size w1 w' ∧ isList m.L v n = false) := Lib.hid (HC.out.mono fun e w' ⟨n, us, h1, h2, h3, h4⟩ => by
      have hc := hcase n h1
      refine ⟨n, us, ?_, h1, h2, h3, by unfold isList; rw [hc]; rfl⟩
      rw [h4, hc]
      unfold chE
      rw [if_pos (by simpa using hc)]; rfl)
    clear HC hcase
    go_enter Tryz.func13, Tryz.ntmps13
    go_wp2_with (go_at_call 21; with_reducible refine HC2.out.mono ?_; rintro e w4 ⟨n, us, rfl, h1, h2, h3, h4⟩; have HF := Lib.hid (HFIN.out w4 n us 0 0 h1 h2 h3); rw [h4] at HF; clear h1 h2 h3 h4)
    go_ret2
    exact HF.out
  · have hcase2 : ∃ n, EndP m.L v n ∧ decide (curM m.L v n ∈ curL m.L v n) = false := by
      rcases Classical.not_forall.1 hcase with ⟨n, hn⟩
      rcases Classical.not_imp.1 hn with ⟨h1, h2⟩
      exact ⟨n, h1, by simpa using h2⟩
    obtain ⟨n, hen, hcn⟩ := hcase2
    obtain ⟨⟨x1, x2⟩, hx⟩ : ∃ x, curM m.L v n = x := ⟨_, rfl⟩
    have HC2 : Hid (Calls Tryz.prog 21 #[.pointer (some ⟨g, 0, none⟩), .agg #[.int .i64 v.1, .int .i64 v.2]] w1 fun e w' => ∃ us, e = .returned (.tuple #[us, .agg #[.int .i64 x1, .int .i64 x2], .bool true]) ∧ w'.ownsRow w1.heap.size 36 2 us n (flatV (itmL m.L v n)) ∧ Below w1.heap.size w1 w') := Lib.hid (HC.out.mono fun e w' ⟨n2, us, h1, h2, h3, h4⟩ => by
      obtain rfl := EndP.uniq hen h1
      refine ⟨us, ?_, h2, h3⟩
      rw [h4, hcn]
      unfold chE
      rw [if_neg (by simpa using hcn), hx]; rfl)
    have HEN := Lib.hid hen
    have HIL : Hid (isList m.L v n = decide (x1 = 0)) := Lib.hid (by unfold isList; rw [hcn, hx]; rfl)
    clear HC hcase hen hcn hx
    by_cases hk : x1 = 0
    · subst hk
      have HI := Lib.hid (show isList m.L v n = true by rw [HIL.out]; rfl)
      go_enter Tryz.func13, Tryz.ntmps13
      go_wp2_with (go_at_call 21; with_reducible refine HC2.out.mono ?_; rintro e w4 ⟨us, rfl, h2, h3⟩; have HF := Lib.hid (HFIN.out w4 n us 0 x2 HEN.out h2 h3); rw [HI.out] at HF; have z0 := HN0.out w4 0 x2; clear h2 h3)
      go_ret2
      exact HF.out
    · have HI := Lib.hid (show isList m.L v n = false by rw [HIL.out, decide_eq_false hk])
      have d0 : (x1 != 0) = true := by simp [hk]
      go_enter Tryz.func13, Tryz.ntmps13
      go_wp2_with (go_at_call 21; with_reducible refine HC2.out.mono ?_; rintro e w4 ⟨us, rfl, h2, h3⟩; have HF := Lib.hid (HFIN.out w4 n us x1 x2 HEN.out h2 h3); rw [HI.out] at HF; have z0 := HN0.out w4 x1 x2; clear h2 h3)
      go_ret2
      exact HF.out
end
end Go.Proofs.YthjjgpepgbfalaaGreatDoor
end
section
/-! New; lives; ops in memory; light. -/
set_option maxRecDepth 20000
set_option linter.unusedSimpArgs false
namespace Go.Proofs.YthjjgpepgbfalaaGreatDoor
open Go.RowKit

/-- A memory without objects. -/
def newM (lim : Nat) : Hm := ⟨lim, [], 0, .nilFunc, 0, fun _ => none⟩
theorem newM_ok {lim : Nat} (h0 : 1 ≤ lim) (h1 : lim ≤ 16384) : (newM lim).Ok :=
  ⟨h0, h1, Nat.zero_le _, Nat.le_refl _, fun i hi => absurd hi (Nat.not_lt_zero i), Nat.zero_le _, fun i c hc => (by rw [show (newM lim).L = [] from rfl, clAt_ge (Nat.zero_le i)] at hc; cases hc), fun n i h => (by cases h), fun i c hc => (by rw [show (newM lim).L = [] from rfl, clAt_ge (Nat.zero_le i)] at hc; cases hc)⟩
set_option maxHeartbeats 800000 in
theorem new_any (lim : Nat) (h0 : 1 ≤ lim) (h1 : lim ≤ 16384) (w : World) : Calls Tryz.prog 8 #[.int .i64 (lim : Int)] w fun e w' => ∃ g F, e = .returned (.tuple #[.pointer (some ⟨g, 0, none⟩), .int .i64 0]) ∧ Hep w' g F (newM lim) ∧ (∀ k, F k → w.heap.size ≤ k) ∧ w.heap.size ≤ g ∧ Below w.heap.size w w' := by
  have d0 : decide ((lim : Int) < 1) = false := by simp; omega
  have d1 : decide ((16384 : Int) < (lim : Int)) = false := by simp; omega
  have d2 : decide (lim < 1) = false := by simp; omega
  have d3 : decide (16384 < lim) = false := by simp; omega
  have hmm := @run_makeMap Tryz.prog
  have hM := Nums.made w
  have HFIN : Hid (Hp ((w.alloc (.map #[] 0)).alloc (.cells #[.int .i64 (lim : Int), .slice none 0 0, .int .i64 0, .int .i64 0, .map (some w.heap.size), .nilFunc, .int .i64 0] 52)) (w.heap.size + 1) (.slice none 0 0) w.heap.size (fun _ => none) (newM lim)) := Lib.hid
    ⟨heap_alloc2_new w _ _,
     World.ownsRow_nil _ _ _ _, fun i c hc => (by rw [show (newM lim).L = [] from rfl, clAt_ge (Nat.zero_le i)] at hc; cases hc), fun _ _ => rfl, hM.same (heap_alloc_old _ _ (by simp)), fun i j x y _ hx => (by cases hx), newM_ok h0 h1⟩
  clear hM h0 h1
  go_enter Tryz.func8, Tryz.ntmps8
  go_wp2_with fail
  go_ret2
  refine ⟨w.heap.size + 1, _, rfl, HFIN.out.hep, ?_, by omega, ((Below.refl _ _).alloc (Nat.le_refl _) _).alloc (by simp) _⟩
  rintro k (rfl | e | rfl | ⟨i, x, hx, _⟩)
  · omega
  · simp [Value.ownBlock] at e
  · exact Nat.le_refl _
  · cases hx
end Go.Proofs.YthjjgpepgbfalaaGreatDoor
end
section
/-! The chapter's examples, purely. -/
set_option maxRecDepth 20000
set_option linter.unusedSimpArgs false
set_option linter.unusedVariables false
namespace Go.Proofs.YthjjgpepgbfalaaGreatDoor
open Go.RowKit Go.Shelf

def exA : List Nd := [{ nd0 with is := [1] }, { nd0 with t := ⟨15, 0, []⟩, is := [2] }, { nd0 with t := ⟨0, 0, []⟩, a := 3, is := [3, 4], d := true }, { nd0 with t := ⟨10, 1, []⟩, a := 4 }, { nd0 with t := ⟨16, 0, []⟩, a := 8, sm := some 2 }]
def exB : List Nd := [{ nd0 with is := [1] }, { nd0 with t := ⟨4, 0, []⟩, is := [2, 3] }, { nd0 with t := ⟨14, 0, [113, 117, 111, 116, 101]⟩ }, { nd0 with t := ⟨14, 0, [120]⟩, a := 1 }]
theorem exA_parse : parseT [35, 48, 61, 40, 49, 32, 46, 32, 35, 48, 35, 41] = (some exA, 12, 0) := by kernel_rfl
theorem exB_parse : parseT [39, 120] = (some exB, 2, 0) := by kernel_rfl
def mA : Hm := laidM (newM 20) [] exA (pre exA 0)
theorem mA_L : mA.L = [some ⟨⟨0, [(2, 1), (8, 0)], []⟩, 0, false, true⟩] := by kernel_rfl
theorem mA_V : bldV (newM 20) [] exA = [(8, 0)] := by kernel_rfl
theorem mA_N : bldN (newM 20) [] exA = [] := by kernel_rfl
theorem mA_O : objsZ exA (pre exA 0) = 1 := by kernel_rfl
def mB : Hm := laidM mA [] exB (pre exB 0)
theorem mB_O : objsZ exB (pre exB 0) = 2 := by kernel_rfl
theorem mB_L : mB.L = [some ⟨⟨0, [(2, 1), (8, 0)], []⟩, 0, false, true⟩, some ⟨⟨0, [(4, 1), (0, 0)], []⟩, 0, false, true⟩, some ⟨⟨0, [(4, 0), (8, 1)], []⟩, 0, false, true⟩] := by kernel_rfl
theorem mB_V : bldV mA [] exB = [(8, 2)] := by kernel_rfl
theorem mB_N : bldN mA [] exB = [⟨#[113, 117, 111, 116, 101]⟩, ⟨#[120]⟩] := by kernel_rfl
/-- What a law's memory and names are, beside blocks of its own. -/
structure RS (w0 w : World) (g gt : Nat) (m : Hm) (N : List ByteArray) (P : Nat → Prop) : Prop where
  st : ∃ F Ft, Bth w g gt F Ft m N ∧ (∀ k, bthF F Ft k → w0.heap.size ≤ k) ∧ ∀ k, P k → ¬ bthF F Ft k ∧ k < w.heap.size
  low : Below w0.heap.size w0 w
  rdy : RdyH m N
section
variable {w0 w w' : World} {g gt : Nat} {m : Hm} {N : List ByteArray} {P : Nat → Prop} {L : List UInt8}
theorem RS.below (h : RS w0 w g gt m N P) (hb : Below w.heap.size w w') : RS w0 w' g gt m N P := by
  obtain ⟨F, Ft, h1, h2, h3⟩ := h.st
  exact ⟨⟨F, Ft, h1.below hb, h2, fun k hk => ⟨(h3 k hk).1, Nat.lt_of_lt_of_le (h3 k hk).2 hb.size⟩⟩, h.low.trans (hb.mono h.low.size), h.rdy⟩
theorem RS.drew (h : RS w0 w g gt m N P) : RS w0 w.drew g gt m N P := h.below (Below.refl _ _).drew
/-- One block more. -/
theorem RS.own (h : RS w0 w g gt m N P) (o : Obj) : RS w0 (w.alloc o) g gt m N (fun k => P k ∨ k = w.heap.size) := by
  obtain ⟨F, Ft, h1, h2, h3⟩ := h.st
  have hb := alloc_below w o
  refine ⟨⟨F, Ft, h1.below hb, h2, fun k hk => ?_⟩, h.low.trans (hb.mono h.low.size), h.rdy⟩
  rcases hk with hk | rfl
  · exact ⟨(h3 k hk).1, Nat.lt_of_lt_of_le (h3 k hk).2 hb.size⟩
  · exact ⟨fun e => by have := h1.lt _ e; omega, by rw [World.size_alloc]; omega⟩
theorem RS.less (h : RS w0 w g gt m N P) {Q : Nat → Prop} (hq : ∀ k, Q k → P k) : RS w0 w g gt m N Q := by
  obtain ⟨F, Ft, h1, h2, h3⟩ := h.st
  exact ⟨⟨F, Ft, h1, h2, fun k hk => h3 k (hq k hk)⟩, h.low, h.rdy⟩
theorem RS.made (h : RS w0 w g gt m N P) {A : List Nd} (hA : BuiltH m N A) (hm : ∀ F Ft, Bth w g gt F Ft m N → (∀ k, P k → ¬ bthF F Ft k ∧ k < w.heap.size) → True) {F : Nat → Prop} {Ft : List Nat} (h1 : Bth w g gt F Ft m N) (h2 : ∀ k, bthF F Ft k → w0.heap.size ≤ k) (h3 : ∀ k, P k → ¬ bthF F Ft k ∧ k < w.heap.size) (hw : MadeW w w' g gt F Ft m N A) :
    RS w0 w' g gt (laidM m N A (pre A 0)) (bldN m N A) P ∧ (∀ k, P k → w'.heap[k]? = w.heap[k]?) ∧ w.heap.size ≤ w'.heap.size := by
  obtain ⟨F', Ft', k1, k2⟩ := hw
  obtain ⟨n1, -⟩ := hA.next
  have hz := h.low.size
  refine ⟨⟨⟨F', Ft', k1, fun k hk => ?_, fun k hk => ⟨k2.out (h3 k hk).2 (h3 k hk).1, Nat.lt_of_lt_of_le (h3 k hk).2 k2.size⟩⟩, k2.below h.low hz h2, n1⟩, fun k hk => k2.block k (h3 k hk).2 (h3 k hk).1, k2.size⟩
  rcases k2.fresh k hk with e | e
  · exact h2 k e
  · omega
/-- What One tells, of such. -/
def OneS (w0 w w' : World) (g gt : Nat) (m : Hm) (N : List ByteArray) (P : Nat → Prop) (L : List UInt8) (e : Ending) : Prop := match parseT L with
  | (none, n, x) => e = .returned (.tuple #[.agg #[.int .i64 0, .int .i64 0], .int .i64 (n : Int), .int .i64 x]) ∧ x ≠ 0 ∧ Below w.heap.size w w'
  | (some A, _, _) => if (m.lim : Int) - (liveN m.L : Int) < objsZ A (pre A 0) then e = .returned (.tuple #[.agg #[.int .i64 0, .int .i64 0], .int .i64 (L.length : Int), .int .i64 8]) ∧ Below w.heap.size w w'
    else if (ndAt A 0).is.length = 0 then e = .returned (.tuple #[.agg #[.int .i64 0, .int .i64 0], .int .i64 (L.length : Int), .int .i64 5]) ∧ Below w.heap.size w w'
    else if 1 < (ndAt A 0).is.length then e = .returned (.tuple #[.agg #[.int .i64 0, .int .i64 0], .int .i64 (L.length : Int), .int .i64 2]) ∧ Below w.heap.size w w'
    else e = .returned (.tuple #[.agg #[.int .i64 ((bldV m N A).getD 0 (0, 0)).1, .int .i64 ((bldV m N A).getD 0 (0, 0)).2], .int .i64 (L.length : Int), .int .i64 0]) ∧ RS w0 w' g gt (laidM m N A (pre A 0)) (bldN m N A) P ∧ (∀ k, P k → w'.heap[k]? = w.heap[k]?) ∧ w.heap.size ≤ w'.heap.size
theorem RS.one (h : RS w0 w g gt m N P) (hE : Lx.Env w0) (T : ByteArray) (hS : T.size ≤ 9223372036854775807) (hN : T.size ≤ 4096 → N.length + 2 * T.size ≤ 16383) : Calls Tryz.prog 12 #[.pointer (some ⟨g, 0, none⟩), .pointer (some ⟨gt, 0, none⟩), .string T] w fun e w' => OneS w0 w w' g gt m N P (Lx.tl T) e := by
  obtain ⟨F, Ft, h1, h2, h3⟩ := h.st
  have hlen : (Lx.tl T).length = T.size := Lx.tl_len T
  refine (one_any (hE.below h.low) h1 h.rdy T hS hN).mono fun e w' he => ?_
  unfold OneR at he
  unfold OneS
  cases hp : parseT (Lx.tl T) with
  | mk r nx =>
  obtain ⟨n, x⟩ := nx
  rw [hp] at he
  cases r with
  | none => exact he
  | some A =>
    obtain ⟨hP, -, -⟩ := parsed hp
    simp only at he ⊢
    split
    · rename_i hf
      rw [if_pos hf] at he; exact he
    rename_i hf
    rw [if_neg hf] at he
    split
    · rename_i hl
      rw [if_pos hl] at he; exact he
    rename_i hl
    rw [if_neg hl] at he
    split
    · rename_i hl2
      rw [if_pos hl2] at he; exact he
    rename_i hl2
    rw [if_neg hl2] at he
    have H := hP.built h.rdy h1.hp.ok.l1 (by omega) (by rw [hlen]; exact hN (by have := hP.short; omega))
    exact ⟨he.1, h.made H (fun _ _ _ _ => trivial) h1 h2 h3 he.2⟩
/-- What All tells, of such. -/
def AllS (w0 w w' : World) (g gt : Nat) (m : Hm) (N : List ByteArray) (P : Nat → Prop) (L : List UInt8) (e : Ending) : Prop := match parseT L with
  | (none, n, x) => e = .returned (.tuple #[.slice none 0 0, .int .i64 (n : Int), .int .i64 x]) ∧ x ≠ 0 ∧ Below w.heap.size w w'
  | (some A, _, _) => if (m.lim : Int) - (liveN m.L : Int) < objsZ A (pre A 0) then e = .returned (.tuple #[.slice none 0 0, .int .i64 (L.length : Int), .int .i64 8]) ∧ Below w.heap.size w w'
    else ∃ q c, e = .returned (.tuple #[.slice q (ndAt A 0).is.length c, .int .i64 (L.length : Int), .int .i64 0]) ∧ w'.ownsRow w.heap.size 36 2 (.slice q (ndAt A 0).is.length c) (ndAt A 0).is.length (flatV (bldV m N A)) ∧ RS w0 w' g gt (laidM m N A (pre A 0)) (bldN m N A) P ∧ (∀ k, P k → w'.heap[k]? = w.heap[k]?) ∧ w.heap.size ≤ w'.heap.size
theorem RS.all (h : RS w0 w g gt m N P) (hE : Lx.Env w0) (T : ByteArray) (hS : T.size ≤ 9223372036854775807) (hN : T.size ≤ 4096 → N.length + 2 * T.size ≤ 16383) : Calls Tryz.prog 10 #[.pointer (some ⟨g, 0, none⟩), .pointer (some ⟨gt, 0, none⟩), .string T] w fun e w' => AllS w0 w w' g gt m N P (Lx.tl T) e := by
  obtain ⟨F, Ft, h1, h2, h3⟩ := h.st
  have hlen : (Lx.tl T).length = T.size := Lx.tl_len T
  refine (all_any (hE.below h.low) h1 h.rdy T hS hN).mono fun e w' he => ?_
  unfold AllR at he
  unfold AllS
  cases hp : parseT (Lx.tl T) with
  | mk r nx =>
  obtain ⟨n, x⟩ := nx
  rw [hp] at he
  cases r with
  | none => exact he
  | some A =>
    obtain ⟨hP, -, -⟩ := parsed hp
    simp only at he ⊢
    split
    · rename_i hf
      rw [if_pos hf] at he; exact he
    rename_i hf
    rw [if_neg hf] at he
    have H := hP.built h.rdy h1.hp.ok.l1 (by omega) (by rw [hlen]; exact hN (by have := hP.short; omega))
    obtain ⟨q, c, a1, a2, a3⟩ := he
    exact ⟨q, c, a1, a2, h.made H (fun _ _ _ _ => trivial) h1 h2 h3 a3⟩
end
end Go.Proofs.YthjjgpepgbfalaaGreatDoor
end
section
/-! lives: the chapter's examples are true. -/
set_option maxRecDepth 20000
set_option linter.unusedSimpArgs false
set_option linter.unusedVariables false
namespace Go.Proofs.YthjjgpepgbfalaaGreatDoor
open Go.RowKit Go.Shelf

section
variable {w0 w w1 w2 w' : World} {g gt : Nat} {m : Hm} {N : List ByteArray} {P : Nat → Prop} {L : List UInt8}
theorem RS.start {lim : Nat} {F : Nat → Prop} {Ft : List Nat} (h1 : Hep w1 g F (newM lim)) (hF : ∀ k, F k → w.heap.size ≤ k) (hb1 : Below w.heap.size w w1) (h2 : Sy.Tb w2 gt Ft []) (hFt : ∀ k ∈ Ft, w1.heap.size ≤ k) (hb2 : Below w1.heap.size w1 w2) : RS w w2 g gt (newM lim) [] (fun _ => False) :=
  ⟨⟨F, Ft, ⟨h1.below hb2, h2, fun k hk e => by have := h1.lt k hk; have := hFt k e; omega⟩, fun k hk => hk.elim (hF k) fun e => by have := hFt k e; have := hb1.size; omega, fun k hk => hk.elim⟩, hb1.trans (hb2.mono hb1.size), ⟨fun i hi => by exact absurd hi (by show ¬ i < 0; omega), fun i c hc => by rw [show (newM lim).L = [] from rfl, clAt_ge (Nat.zero_le i)] at hc; cases hc⟩⟩
theorem RS.pair (h : RS w0 w g gt m N P) (K n : Int) (hn : I64 n) : Calls Tryz.prog 14 #[.pointer (some ⟨g, 0, none⟩), .agg #[.int .i64 K, .int .i64 n]] w fun e w' => e = .returned (pairR m.L (K, n)) ∧ Below w.heap.size w w' := by
  obtain ⟨F, Ft, h1, -⟩ := h.st
  exact pair_any h1.hp h.rdy.here K n hn
theorem RS.list (h : RS w0 w g gt m N P) (v : Int × Int) (hd : ∀ i, domV (curM m.L v i)) : Calls Tryz.prog 13 #[.pointer (some ⟨g, 0, none⟩), .agg #[.int .i64 v.1, .int .i64 v.2]] w fun e w' => ListR w w' m.L v e := by
  obtain ⟨F, Ft, h1, -⟩ := h.st
  exact list_any h1.hp h.rdy.here v hd
theorem RS.name (h : RS w0 w g gt m N P) (i : Int) : Calls Tryz.prog 16 #[.pointer (some ⟨gt, 0, none⟩), .int .i64 i] w fun e w' => e = .returned (.string (Sy.nameM N i)) ∧ w = w' := by
  obtain ⟨F, Ft, h1, -⟩ := h.st
  exact Sy.name_any h1.tb i
theorem RS.len (h : RS w0 w g gt m N P) : Calls Tryz.prog 15 #[.pointer (some ⟨gt, 0, none⟩)] w fun e w' => e = .returned (.int .i64 (N.length : Int)) ∧ w = w' := by
  obtain ⟨F, Ft, h1, -⟩ := h.st
  exact Sy.len_any h1.tb
/-- The first example. -/
theorem RS.ex1 (h : RS w0 w g gt (newM 20) [] P) (hE : Lx.Env w0) : Calls Tryz.prog 12 #[.pointer (some ⟨g, 0, none⟩), .pointer (some ⟨gt, 0, none⟩), .string ⟨#[35, 48, 61, 40, 49, 32, 46, 32, 35, 48, 35, 41]⟩] w fun e w' => e = .returned (.tuple #[.agg #[.int .i64 8, .int .i64 0], .int .i64 12, .int .i64 0]) ∧ RS w0 w' g gt mA [] P ∧ (∀ k, P k → w'.heap[k]? = w.heap[k]?) ∧ w.heap.size ≤ w'.heap.size := by
  refine (h.one hE ⟨#[35, 48, 61, 40, 49, 32, 46, 32, 35, 48, 35, 41]⟩ (by decide) (fun _ => by decide)).mono fun e w' he => ?_
  unfold OneS at he
  rw [show Lx.tl ⟨#[35, 48, 61, 40, 49, 32, 46, 32, 35, 48, 35, 41]⟩ = [35, 48, 61, 40, 49, 32, 46, 32, 35, 48, 35, 41] from rfl, exA_parse] at he
  simp only at he
  rw [mA_O, if_neg (by show ¬ ((20 : Nat) : Int) - ((0 : Nat) : Int) < 1; decide), show (ndAt exA 0).is.length = 1 from rfl, if_neg (show ¬ (1 : Nat) = 0 by decide), if_neg (show ¬ (1 : Nat) < 1 by decide), mA_V, mA_N] at he
  exact he
theorem mA_lim : mA.lim = 20 := by kernel_rfl
theorem mA_live : liveN mA.L = 1 := by rw [mA_L]; rfl
/-- The second one. -/
theorem RS.ex2 (h : RS w0 w g gt mA [] P) (hE : Lx.Env w0) : Calls Tryz.prog 12 #[.pointer (some ⟨g, 0, none⟩), .pointer (some ⟨gt, 0, none⟩), .string ⟨#[39, 120]⟩] w fun e w' => e = .returned (.tuple #[.agg #[.int .i64 8, .int .i64 2], .int .i64 2, .int .i64 0]) ∧ RS w0 w' g gt mB [⟨#[113, 117, 111, 116, 101]⟩, ⟨#[120]⟩] P ∧ (∀ k, P k → w'.heap[k]? = w.heap[k]?) ∧ w.heap.size ≤ w'.heap.size := by
  refine (h.one hE ⟨#[39, 120]⟩ (by decide) (fun _ => by decide)).mono fun e w' he => ?_
  unfold OneS at he
  rw [show Lx.tl ⟨#[39, 120]⟩ = [39, 120] from rfl, exB_parse] at he
  simp only at he
  rw [mB_O, mA_lim, mA_live, if_neg (by decide), show (ndAt exB 0).is.length = 1 from rfl, if_neg (show ¬ (1 : Nat) = 0 by decide), if_neg (show ¬ (1 : Nat) < 1 by decide), mB_V, mB_N] at he
  exact he
theorem mA_pair : pairR mA.L (8, 0) = .tuple #[.agg #[.int .i64 2, .int .i64 1], .agg #[.int .i64 8, .int .i64 0], .bool true] := by rw [mA_L]; kernel_rfl
theorem mB_chain : ChO mB.L 1 2 := by
  rw [mB_L]
  intro j hj
  have : j = 0 ∨ j = 1 := by omega
  rcases this with rfl | rfl
  · exact ⟨_, (4, 1), rfl, rfl⟩
  · exact ⟨_, (4, 0), rfl, rfl⟩
theorem mB_dom : ∀ i, domV (curM mB.L (8, 2) i) := fun i => by
  rw [show ((8, 2) : Int × Int) = nxt 1 2 from rfl, curM_nxt mB_chain]
  exact domV_nxt (p := 1) (n := 2) (by omega) _ (by omega)
theorem mB_list (h : RS w0 w g gt mB N P) : Calls Tryz.prog 13 #[.pointer (some ⟨g, 0, none⟩), .agg #[.int .i64 8, .int .i64 2]] w fun e w' => ∃ q c, e = .returned (.tuple #[.slice (some ⟨q, 0, none⟩) 2 c, .bool true]) ∧ (w'.cell? ⟨q, 0, none⟩ = some (.int .i64 4) ∧ w'.cell? ⟨q, 1, none⟩ = some (.int .i64 0)) ∧ Below w.heap.size w w' := by
  refine (h.list (8, 2) mB_dom).mono ?_
  rintro e w' ⟨n, us, h1, h2, h3, h4⟩
  have he : EndP mB.L (8, 2) 2 := endP_nxt mB_chain
  obtain rfl := EndP.uniq he h1
  have hi : isList mB.L (8, 2) 2 = true := by rw [mB_L]; kernel_rfl
  have hl : itmL mB.L (8, 2) 2 = [(4, 0), (4, 1)] := by rw [mB_L]; kernel_rfl
  rw [hi, if_pos rfl] at h4
  rw [hl] at h2
  obtain ⟨q, c, rfl⟩ := own_some h2 (by omega)
  exact ⟨q, c, h4, ⟨h2.cellAt 0 (by omega), h2.cellAt 1 (by omega)⟩, h3⟩
end
end Go.Proofs.YthjjgpepgbfalaaGreatDoor
end
