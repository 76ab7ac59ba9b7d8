/- The graph of what some values reach. -/
import Derived.Test.YtekmboolfjicbaaGFol
import Derived.Test.YtekmboolfjicbaaAllV
set_option maxRecDepth 20000
set_option linter.unusedSimpArgs false
set_option linter.unusedVariables false
namespace Go.Proofs.Ytekmboolfjicbaa
open Go.RowKit Go.Shelf
attribute [local go_sem] Oper.semAt_some

/-- Each object's values fit. -/
def Ft (L : Pls) : Prop := ∀ i c, clAt L i = some c → FitV c.o.vs
theorem obAt_fit {L : Pls} (h : Ft L) (v : Int × Int) : FitV (obAt L v).vs := by
  unfold obAt
  split
  · cases hc : clAt L v.2.toNat with
    | none => intro x hx; cases hx
    | some c => exact h _ c hc
  · intro x hx; cases hx
theorem obAt_len {L : Pls} (h : Sm L) (v : Int × Int) : (obAt L v).vs.length ≤ 256 := by
  unfold obAt
  split
  · cases hc : clAt L v.2.toNat with
    | none => simp
    | some c => exact (h _ c hc).1
  · simp
theorem Gra.not_box {w : World} {g B : Nat} {vt mv vf : Value} {T : List (Int × Int)} {fs : List Fct} {cs : Array Value} {ty : TypeId} (h : Gra w g vt mv vf T fs) (hb : w.heap[B]? = some (.cells cs ty (0, 0))) (h1 : ty ≠ 83) (h2 : ty ≠ 36) (h3 : ty ≠ 129) : ¬ footG g vt mv vf B := by
  rintro ((rfl | e | e) | e)
  · rw [h.r.hd] at hb; cases hb; exact h1 rfl
  · obtain ⟨cur, hc⟩ := own_head h.r.row e
    rw [hb] at hc; cases hc; exact h2 rfl
  · rcases h.r.map with ⟨_, e3⟩ | ⟨mb, e3, hm⟩
    · rw [e] at e3; cases e3
    · rw [e] at e3; cases e3
      obtain ⟨es, c, hbb⟩ := hm.isMap
      rw [hb] at hbb; cases hbb
  · obtain ⟨cur, hc⟩ := own_head h.f e
    rw [hb] at hc; cases hc; exact h3 rfl
/-- The graph amid its second loop; lo: where what is new begins. -/
structure GK (lo : Nat) (w0 W : World) (gh : Nat) (F : Nat → Prop) (m : Hm) (g : Nat) (mv : Value) (T : List (Int × Int)) : Prop where
  hep : Hep W gh F m
  below : Below lo w0 W
  gra : ∃ vt vf fs, Gra W g vt mv vf T fs ∧ (∀ k, footG g vt mv vf k → lo ≤ k)
theorem rnV_same {w : World} {g : Nat} {ty : TypeId} {rest : List Value} {vt mv : Value} {T T2 : List (Int × Int)} (h : RnV w g ty rest vt mv T) (h2 : AtV g T2 w) {i : Nat} {x : Int × Int} (hx : T2[i]? = some x) : T[i]? = some x := by
  have hl := h.thg_len h2
  have hi : i < T.length := by
    rcases Nat.lt_or_ge i T2.length with h1 | h1
    · omega
    · rw [List.getElem?_eq_none h1] at hx; cases hx
  obtain ⟨ty2, rest2, vt2, mv2, hd, hr⟩ := h2
  rw [h.hd] at hd
  have e : vt = vt2 := by
    have h3 := Option.some.inj hd
    injection h3 with h4
    have h5 := congrArg Array.toList h4
    simp at h5
    exact h5.1
  subst e
  obtain ⟨y, hy⟩ : ∃ y, T[i]? = some y := ⟨T[i], List.getElem?_eq_getElem hi⟩
  have hpos : 0 < T.length := by omega
  obtain ⟨b, d, e⟩ := own_some h.row hpos
  subst e
  have hrow : w.ownsRow 0 36 2 (.slice (some ⟨b, 0, none⟩) T.length d) T.length (T.flatMap (fun x : Int × Int => [Value.int .i64 x.1, Value.int .i64 x.2])) := h.row
  have hr : w.ownsRow 0 36 2 (.slice (some ⟨b, 0, none⟩) T.length d) T.length (T2.flatMap (fun x : Int × Int => [Value.int .i64 x.1, Value.int .i64 x.2])) := by rw [hl] at hr; exact hr
  obtain ⟨f0, f1⟩ := flat2_get (fun x : Int × Int => Value.int .i64 x.1) (fun x : Int × Int => Value.int .i64 x.2) T i y hy
  obtain ⟨g0, g1⟩ := flat2_get (fun x : Int × Int => Value.int .i64 x.1) (fun x : Int × Int => Value.int .i64 x.2) T2 i x hx
  have a0 := hrow.cellAt (i * 2) (by omega)
  have a1 := hrow.cellAt (i * 2 + 1) (by omega)
  have b0 := hr.cellAt (i * 2) (by omega)
  have b1 := hr.cellAt (i * 2 + 1) (by omega)
  rw [f0] at a0
  rw [f1] at a1
  rw [g0] at b0
  rw [g1] at b1
  rw [a0] at b0
  rw [a1] at b1
  have e0 : y.1 = x.1 := by have := Option.some.inj b0; injection this
  have e1 : y.2 = x.2 := by have := Option.some.inj b1; injection this
  rw [hy, Prod.ext e0 e1]
/-- The three boxes that the loop's body reads. -/
structure Bx3 (W : World) (B0 B2 B3 gh g : Nat) : Prop where
  b0 : W.heap[B0]? = some (.cells #[.pointer (some ⟨gh, 0, none⟩)] 26 (0, 0))
  b2 : W.heap[B2]? = some (.cells #[.pointer (some ⟨g, 0, none⟩)] 84 (0, 0))
  b3 : W.heap[B3]? = some (.cells #[.pointer (some ⟨g, 0, none⟩)] 124 (0, 0))
section
variable {lo : Nat} {w0 W W2 : World} {gh g B0 B2 B3 : Nat} {F : Nat → Prop} {m : Hm} {mv : Value} {T : List (Int × Int)}
theorem Bx3.below (h : Bx3 W B0 B2 B3 gh g) (hb : Below W.heap.size W W2) : Bx3 W2 B0 B2 B3 gh g :=
  ⟨(hb.block _ (lt_of_block h.b0)).trans h.b0, (hb.block _ (lt_of_block h.b2)).trans h.b2, (hb.block _ (lt_of_block h.b3)).trans h.b3⟩
theorem GK.own {B : Nat} (hF : ∀ k, F k → k < B) (hM : ∀ mb, mv = .map (some mb) → mb < B) (hlo : lo ≤ B) (hl0 : lo ≤ w0.heap.size) : OwnFrom B (fun (T : List (Int × Int)) W => GK lo w0 W gh F m g mv T ∧ Bx3 W B0 B2 B3 gh g) := by
  rintro T W W' row ⟨h, hx⟩ hg hr
  have hc : ∀ k (cs : Array Value) ty, W.heap[k]? = some (Obj.cells cs ty (0, 0)) → W'.heap[k]? = W.heap[k]? := fun k cs ty hk => hg.block k (lt_of_block hk) (fun e => by
    obtain ⟨_, o, ho, hcell⟩ := hr k e.symm
    rw [hk] at ho; cases ho; cases hcell)
  have hlow : ∀ k, k < B → k < W.heap.size → W'.heap[k]? = W.heap[k]? := fun k hk hs => hg.block k hs (fun e => by
    have := (hr k e.symm).1; omega)
  obtain ⟨vt, vf, fs, h1, h2⟩ := h.gra
  refine ⟨⟨h.hep.keep fun k hk => hlow k (hF k hk) (h.hep.lt k hk), h.below.trans ⟨hg.os, hg.tape, hg.output, hg.size, fun k hk => ?_⟩, vt, vf, fs, h1.keep fun b hb => ?_, h2⟩, ?_⟩
  · rcases Nat.lt_or_ge k W.heap.size with h3 | h3
    · exact hlow k (by omega) h3
    · have := h.below.size
      omega
  · rcases hb with (rfl | e | e) | e
    · exact hc _ _ _ h1.r.hd
    · obtain ⟨cur, hcur⟩ := own_head h1.r.row e
      exact hc _ _ _ hcur
    · exact hlow b (hM b e) (h1.lt b (.inl (.inr (.inr e))))
    · obtain ⟨cur, hcur⟩ := own_head h1.f e
      exact hc _ _ _ hcur
  · exact ⟨(hc _ _ _ hx.b0).trans hx.b0, (hc _ _ _ hx.b2).trans hx.b2, (hc _ _ _ hx.b3).trans hx.b3⟩
/-- A call on the graph, amid the loop. -/
theorem GK.step (h : GK lo w0 W gh F m g mv T) (hx : Bx3 W B0 B2 B3 gh g) (hl0 : lo ≤ w0.heap.size) (hF : ∀ k, F k → k < lo) (hm : mv ≠ .map none) {vt vf : Value} {T2 : List (Int × Int)} {fs : List Fct} (hg : Gra W g vt mv vf T fs) (hlo : ∀ k, footG g vt mv vf k → lo ≤ k) (hr : GJ W W2 gh F m g vt mv vf T2) :
    GK lo w0 W2 gh F m g mv T2 ∧ Bx3 W2 B0 B2 B3 gh g := by
  obtain ⟨hh, a, b, c, d, h1, h2, h3, h4⟩ := hr
  have e : b = mv := h4.elim (fun e => absurd e hm) id
  subst e
  have hz := h.below.size
  refine ⟨⟨hh, h2.below h.below (by omega) hlo, a, c, d, h1, h2.high (by omega) hlo⟩, ?_⟩
  exact ⟨(h2.block _ (lt_of_block hx.b0) (hg.not_box hx.b0 (by decide) (by decide) (by decide))).trans hx.b0,
    (h2.block _ (lt_of_block hx.b2) (hg.not_box hx.b2 (by decide) (by decide) (by decide))).trans hx.b2,
    (h2.block _ (lt_of_block hx.b3) (hg.not_box hx.b3 (by decide) (by decide) (by decide))).trans hx.b3⟩
end
/-- The graph of what some values reach. -/
def GraphOf (w w' : World) (gh : Nat) (F : Nat → Prop) (m : Hm) (roots : List (Int × Int)) (e : Ending) : Prop := ∃ g vt mv vf T fs, e = .returned (.pointer (some ⟨g, 0, none⟩)) ∧ Gra w' g vt mv vf T fs ∧ (∀ k, footG g vt mv vf k → w.heap.size ≤ k) ∧ (∀ v, v ∈ T ↔ Rch m.L roots v) ∧ Hep w' gh F m ∧ Below w.heap.size w w'
set_option maxRecDepth 100000 in
set_option maxHeartbeats 4000000 in
theorem graphOf_any {w : World} {gh : Nat} {F : Nat → Prop} {m : Hm} (h : Hep w gh F m) (hh : Here m.L) (hsm : Sm m.L) (hft : Ft m.L) (q : Option Addr) (n c : Nat) (roots : List (Int × Int)) (hr : Vls w q n roots) (hrf : FitV roots) (hn : n ≤ 60000) :
    Calls Try.prog 26 #[.pointer (some ⟨gh, 0, none⟩), .slice q n c] w (fun e w' => GraphOf w w' gh F m roots e) := by
  have HF : Hid (∀ k, F k → k < w.heap.size) := Lib.hid h.lt
  have HOK : Hid (m.L.length ≤ 16384) := Lib.hid (Nat.le_trans h.ok.len h.ok.l1)
  refine (callsIn_wide (n := 5)).1 ?_
  refine callsIn_of_wp_marks Try.func26 rfl trivial ?_ rfl
  simp only [Try.ntmps26, List.size_toArray, List.length_cons, List.length_nil, Nat.reduceAdd, Nat.reduceSub, Array.replicate_succ, Array.replicate_zero, List.push_toArray, List.append_toArray, List.nil_append, List.cons_append]
  gi_wp2_with (refine ⟨trivial, ?_⟩; fail)
  obtain ⟨wa, hwa⟩ : ∃ wa, wa = ((w.alloc (.cells #[.pointer (some ⟨gh, 0, none⟩)] 26)).alloc (.cells #[.slice none 0 0, .map none, .slice none 0 0] 83)).alloc (.cells #[.pointer (some ⟨w.heap.size + 1, 0, none⟩)] 84) := ⟨_, rfl⟩
  have HBA : Hid (Below w.heap.size w wa) := Lib.hid (by rw [hwa]; exact (((Below.refl _ _).alloc (Nat.le_refl _) _).alloc (by simp) _).alloc (by simp; omega) _)
  have HX0 : Hid (wa.heap[w.heap.size]? = some (.cells #[.pointer (some ⟨gh, 0, none⟩)] 26 (0, 0))) := Lib.hid (by rw [hwa]; exact (heap_alloc_old _ _ (by simp; omega)).trans ((heap_alloc_old _ _ (by simp)).trans (heap_alloc_new w _)))
  have hx1 : ((w.alloc (.cells #[.pointer (some ⟨gh, 0, none⟩)] 26)).alloc (.cells #[.slice none 0 0, .map none, .slice none 0 0] 83)).heap[w.heap.size + 1]? = some (.cells #[.slice none 0 0, .map none, .slice none 0 0] 83 (0, 0)) := by
    have := heap_alloc_new (w.alloc (.cells #[.pointer (some ⟨gh, 0, none⟩)] 26)) (.cells #[.slice none 0 0, .map none, .slice none 0 0] 83)
    rwa [World.size_alloc] at this
  have HX1 : Hid (wa.heap[w.heap.size + 1]? = some (.cells #[.slice none 0 0, .map none, .slice none 0 0] 83 (0, 0))) := Lib.hid (by rw [hwa]; exact (heap_alloc_old _ _ (by simp)).trans hx1)
  have HX2 : Hid (wa.heap[w.heap.size + 2]? = some (.cells #[.pointer (some ⟨w.heap.size + 1, 0, none⟩)] 84 (0, 0))) := Lib.hid (by
    rw [hwa]
    have := heap_alloc_new ((w.alloc (.cells #[.pointer (some ⟨gh, 0, none⟩)] 26)).alloc (.cells #[.slice none 0 0, .map none, .slice none 0 0] 83)) (.cells #[.pointer (some ⟨w.heap.size + 1, 0, none⟩)] 84)
    rwa [World.size_alloc, World.size_alloc] at this)
  rw [← hwa]
  clear hx1 hwa
  have hg0 : Gra wa (w.heap.size + 1) (.slice none 0 0) (.map none) (.slice none 0 0) [] [] := ⟨⟨HX1.out, World.ownsRow_nil _ _ _ _, .inl ⟨rfl, rfl⟩, by simp, by simp⟩, World.ownsRow_nil _ _ _ _, rfl, by simp⟩
  have hf0 : ∀ k, footG (w.heap.size + 1) (.slice none 0 0) (.map none) (.slice none 0 0) k → k = w.heap.size + 1 := by
    rintro k ((rfl | e | e) | e)
    · rfl
    · simp [Value.ownBlock] at e
    · cases e
    · simp [Value.ownBlock] at e
  have HJ0 : Hid (GJ wa wa gh F m (w.heap.size + 1) (.slice none 0 0) (.map none) (.slice none 0 0) (comeA m.L [] (roots.take 0))) := Lib.hid (GJ.start (h.below HBA.out) hg0 fun k hk e => by have := HF.out k hk; have := hf0 k e; omega)
  have HF0 := Lib.hid hf0
  have HV : Hid (∀ w1, Below w.heap.size w w1 → Vls w1 q n roots) := Lib.hid fun w1 hb => hr.below hb
  have HBW : Hid (∀ wr T2, GJ wa wr gh F m (w.heap.size + 1) (.slice none 0 0) (.map none) (.slice none 0 0) T2 → Below w.heap.size w wr ∧ wr.heap[w.heap.size]? = some (.cells #[.pointer (some ⟨gh, 0, none⟩)] 26 (0, 0)) ∧ wr.heap[w.heap.size + 2]? = some (.cells #[.pointer (some ⟨w.heap.size + 1, 0, none⟩)] 84 (0, 0))) := Lib.hid fun wr T2 hj => by
    have h0 := (hj.block (lt_of_block HX0.out) (fun e => by have := HF0.out _ e; omega)).trans HX0.out
    have h2 := (hj.block (lt_of_block HX2.out) (fun e => by have := HF0.out _ e; omega)).trans HX2.out
    obtain ⟨_, a, b, c, d, g1, g2, _⟩ := hj
    exact ⟨g2.below HBA.out HBA.out.size fun k hk => by have := HF0.out k hk; omega, h0, h2⟩
  have hrl := hr.len
  have HCM : Hid (∀ w1 i, i < n → GJ wa w1 gh F m (w.heap.size + 1) (.slice none 0 0) (.map none) (.slice none 0 0) (comeA m.L [] (roots.take i)) → Calls Try.prog 47 #[.pointer (some ⟨w.heap.size + 1, 0, none⟩), .pointer (some ⟨gh, 0, none⟩), .agg #[.int .i64 (roots.getD i (0, 0)).1, .int .i64 (roots.getD i (0, 0)).2], .int .i64 (-1)] w1 fun e w' => e = .returned (.tuple #[]) ∧ GJ wa w' gh F m (w.heap.size + 1) (.slice none 0 0) (.map none) (.slice none 0 0) (comeA m.L [] (roots.take (i + 1)))) := Lib.hid fun w1 i hi hj => by
    have hl := comeA_len m.L (roots.take i) []
    have hl2 : (roots.take i).length ≤ i := by simp; omega
    rw [comeA_take _ _ _ _ (by omega)]
    exact hj.come hh (by simp at hl; omega) _ _ (hrf.getD i) _
  have HTK : Hid (roots.take n = roots) := Lib.hid (by rw [← hrl]; exact List.take_length ..)
  clear hg0 hf0 hr hrl
  gi_loopw [14] (fun iv wr => ∃ i : Nat, i ≤ n ∧ iv = .int .i64 (i : Int) ∧ Hid (GJ wa wr gh F m (w.heap.size + 1) (.slice none 0 0) (.map none) (.slice none 0 0) (comeA m.L [] (roots.take i)))) (fun iv _ => n - (RowKit.intOf iv).toNat)
  case atStart => exact ⟨0, by omega, by go_num, HJ0⟩
  case round =>
    obtain ⟨i, hi, rfl, HJ⟩ := hrel
    clear HJ0
    obtain ⟨hbw, hx0, hx2⟩ := HBW.out wr _ HJ.out
    by_cases hlt : i < n
    · have hin : (i : Int) < (n : Int) := by omega
      obtain ⟨b, o, e, hat⟩ := (HV.out wr hbw).2 (by omega)
      cases e
      obtain ⟨y0, y1⟩ := hat i hlt
      have HC := Lib.hid (fun w1 hj => HCM.out w1 i hlt hj)
      have HB3 : Hid (∀ x : Obj, GJ wa (wr.alloc x) gh F m (w.heap.size + 1) (.slice none 0 0) (.map none) (.slice none 0 0) (comeA m.L [] (roots.take i))) := Lib.hid fun x => HJ.out.below (alloc_below wr x)
      have HLT : Hid (i + 1 ≤ n) := Lib.hid hlt
      generalize (roots.getD i (0, 0)).1 = y at *
      generalize (roots.getD i (0, 0)).2 = z at *
      have HC3 := Lib.hid (HC.out (wr.alloc (.cells #[.int .i64 y, .int .i64 z] 36)) (HB3.out _))
      have u0 : (wr.alloc (.cells #[.int .i64 y, .int .i64 z] 36)).cell? ⟨w.heap.size, 0, none⟩ = some (.pointer (some ⟨gh, 0, none⟩)) := by rw [cell_of_row _ _ 0 _ _ _ ((heap_alloc_old wr _ (lt_of_block hx0)).trans hx0)]; rfl
      have u2 : (wr.alloc (.cells #[.int .i64 y, .int .i64 z] 36)).cell? ⟨w.heap.size + 2, 0, none⟩ = some (.pointer (some ⟨w.heap.size + 1, 0, none⟩)) := by rw [cell_of_row _ _ 0 _ _ _ ((heap_alloc_old wr _ (lt_of_block hx2)).trans hx2)]; rfl
      clear hat HCM HC HV HBW HB3 hlt hx0 hx2 hbw
      gi_wp2_with (refine ⟨trivial, ?_⟩; gi_at_call 47; refine (callsIn_wide.2 HC3.out).mono ?_; rintro e w4 ⟨rfl, hj4⟩; have HJ4 := Lib.hid hj4; clear hj4)
      go_roundw
      case rel => exact ⟨i + 1, HLT.out, by go_num, HJ4⟩
      case measure => simp [RowKit.intOf]; omega
    · obtain rfl : i = n := by omega
      rw [HTK.out] at HJ
      have v0 : wr.cell? ⟨w.heap.size, 0, none⟩ = some (.pointer (some ⟨gh, 0, none⟩)) := by rw [cell_of_row _ _ 0 _ _ _ hx0]; rfl
      have v2 : wr.cell? ⟨w.heap.size + 2, 0, none⟩ = some (.pointer (some ⟨w.heap.size + 1, 0, none⟩)) := by rw [cell_of_row _ _ 0 _ _ _ hx2]; rfl
      gi_wp2_with (refine ⟨trivial, ?_⟩; gi_at_call 48; refine (callsIn_wide.2 (allV_any _ wr)).mono ?_; rintro e w5 ⟨rfl, rfl⟩)
      obtain ⟨hh1, vt1, mv1, vf1, fs1, hg1, hc1, hs1, -⟩ := HJ.out
      have hbx : Below wr.heap.size wr (wr.alloc (.cells #[.pointer (some ⟨w.heap.size + 1, 0, none⟩)] 124)) := alloc_below _ _
      have hwz := hbw.size
      have hX2 := lt_of_block hx2
      have HK0 : Hid (GK w.heap.size w (wr.alloc (.cells #[.pointer (some ⟨w.heap.size + 1, 0, none⟩)] 124)) gh F m (w.heap.size + 1) mv1 (comeA m.L [] roots) ∧ Bx3 (wr.alloc (.cells #[.pointer (some ⟨w.heap.size + 1, 0, none⟩)] 124)) w.heap.size (w.heap.size + 2) wr.heap.size gh (w.heap.size + 1)) := Lib.hid
        ⟨⟨hh1.below hbx, hbw.trans (hbx.mono hwz), vt1, vf1, fs1, hg1.below hbx, hc1.high HBA.out.size fun k hk => by have := HF0.out k hk; omega⟩,
         ⟨(hbx.block _ (lt_of_block hx0)).trans hx0, (hbx.block _ (lt_of_block hx2)).trans hx2, heap_alloc_new wr _⟩⟩
      have HMB : Hid (∀ mb, mv1 = .map (some mb) → mb < (wr.alloc (.cells #[.pointer (some ⟨w.heap.size + 1, 0, none⟩)] 124)).heap.size) := Lib.hid fun mb e => by
          rcases hg1.r.map with ⟨_, e3⟩ | ⟨mb2, e3, hm⟩
          · rw [e] at e3; cases e3
          · rw [e] at e3; cases e3
            have := hm.lt
            simp; omega
      have HOWN : Hid (OwnFrom (wr.alloc (.cells #[.pointer (some ⟨w.heap.size + 1, 0, none⟩)] 124)).heap.size (fun (T : List (Int × Int)) W => GK w.heap.size w W gh F m (w.heap.size + 1) mv1 T ∧ Bx3 W w.heap.size (w.heap.size + 2) wr.heap.size gh (w.heap.size + 1))) := Lib.hid (GK.own (fun k hk => by have := HF.out k hk; simp; omega) HMB.out (by simp; omega) (Nat.le_refl _))
      clear hg1 hc1 hs1 hh1 HBW HCM HV HTK hbx v0 v2 hx0 hx2 hX2 HX0 HX1 HX2 HJ
      obtain ⟨N, hN⟩ : ∃ N, N = i := ⟨_, rfl⟩
      rw [← hN]
      clear hN
      refine wpIn_rangeJ rfl (by omega) (gf := 62) (lb := #[.pointer (some ⟨wr.heap.size, 0, none⟩)]) rfl trivial (enters_of Try.func62 (by kernel_rfl) rfl) (allV_seq 4 (by omega) wr.heap.size (w.heap.size + 1)) (fun _ => rfl)
        (fun j W => ∃ T, Rds m.L roots T j ∧ GK w.heap.size w W gh F m (w.heap.size + 1) mv1 T ∧ Bx3 W w.heap.size (w.heap.size + 2) wr.heap.size gh (w.heap.size + 1))
        (fun j W W' row ⟨T, h1, h2⟩ hg hr => ⟨T, h1, HOWN.out T W W' row h2 hg hr⟩)
        ?good ?ende ⟨_, Rds.start m.L roots, HK0.out⟩
        (fun j x a' W => ∃ B9 T, a' = { tmps := #[.pointer (some ⟨gh, 0, none⟩), .slice q N c, .pointer (some ⟨w.heap.size, 0, none⟩), undef, .pointer none, .pointer (some ⟨w.heap.size + 1 + 1, 0, none⟩), undef, u7, .int .i64 (j : Int), .pointer (some ⟨B9, 0, none⟩), .agg #[.slice none 0 0, .map none, .slice none 0 0], .pointer (some ⟨w.heap.size + 1, 0, none⟩), .slice q N c, .int .i64 (N : Int), .int .i64 (N : Int), .bool false, u16, u17, u18, u19, u20, u21, u22, .pointer (some ⟨w.heap.size + 1, 0, none⟩), .pointer (some ⟨w.heap.size + 1, 0, none⟩), .pointer (some ⟨w.heap.size + 1, 0, none⟩), .func (.func 62) #[] #[.pointer (some ⟨wr.heap.size, 0, none⟩)], .int .i64 (x.1 : Int), .agg #[.int .i64 x.2.1, .int .i64 x.2.2], undef, undef, undef, undef, undef, undef], defers := [] } ∧ W.heap[B9]? = some (.cells #[.int .i64 x.2.1, .int .i64 x.2.2] 36 (0, 0)) ∧ x.1 = j ∧ T[j]? = some x.2 ∧ Rds m.L roots T j ∧ GK w.heap.size w W gh F m (w.heap.size + 1) mv1 T ∧ Bx3 W w.heap.size (w.heap.size + 2) wr.heap.size gh (w.heap.size + 1))
        ?ax ?assign ?body ?done
      case good =>
        rintro j W ⟨T, hR, hK, hB⟩
        obtain ⟨vt, vf, fs, hg, _⟩ := hK.gra
        refine ⟨by rw [cell_of_row _ _ 0 _ _ _ hB.b3]; rfl, T, hg.r.thg, ?_⟩
        have := has_len hg.r.nd fun v hv => (hR.rch v hv).has
        have := HOK.out
        omega
      case ende => exact fun j u W W' row ⟨T, h1, h2⟩ hg hr => ⟨T, Thg.own _ _ _ _ _ T W W' row h1 hg hr, h2⟩
      case ax =>
        rintro j x a' u W W' row ⟨B9, T, h1, h2, h3, h4, h5, h6⟩ hg hr
        refine ⟨B9, T, h1, (hg.block B9 (lt_of_block h2) fun e => ?_).trans h2, h3, h4, h5, HOWN.out T W W' row h6 hg hr⟩
        obtain ⟨_, o, ho, hcell⟩ := hr B9 e.symm
        rw [h2] at ho; cases ho; cases hcell
      case assign =>
        rintro l j x W K ⟨T, hR, hK, hB⟩ ⟨rfl, T2, hT2, hx⟩ hKK
        obtain ⟨px, a1, b1⟩ := x
        have HKK := Lib.hid hKK
        have HOW2 := Lib.hid (HOWN.out T W (W.alloc (.cells #[.int .i64 a1, .int .i64 b1] 36)) none ⟨hK, hB⟩ (World.grownBy_alloc W _ none) (fun r e => by cases e))
        have HR := Lib.hid hR
        have HXX : Hid (T[px]? = some (a1, b1)) := Lib.hid (by
          obtain ⟨vt, vf, fs, hg, _⟩ := hK.gra
          exact rnV_same hg.r hT2 hx)
        clear hKK hK hB hR hT2 hx
        gi_wp2
        exact HKK.out _ _ ((KeepsOthers.alloc _ _).from _) ⟨W.heap.size, T, rfl, heap_alloc_new W _, trivial, HXX.out, HR.out, HOW2.out⟩
      case body =>
        rintro l j x a' W hl ⟨B9, T, rfl, h9, rfl, hx, hR, hK, hB⟩
        obtain ⟨px, a1, b1⟩ := x
        obtain ⟨vt, vf, fs, hg, hlo⟩ := hK.gra
        have hx' : T[px]? = some (a1, b1) := hx
        have hmem := List.mem_of_getElem? hx'
        have hm : mv1 ≠ .map none := fun e => by
          rcases hg.r.map with ⟨e2, _⟩ | ⟨mb, e2, _⟩
          · rw [e2] at hmem; cases hmem
          · rw [e] at e2; cases e2
        have hTl := has_len hg.r.nd fun v hv => (hR.rch v hv).has
        have hpl : px < T.length := by
          rcases Nat.lt_or_ge px T.length with h1 | h1
          · exact h1
          · rw [List.getElem?_eq_none h1] at hx'; cases hx'
        have hFl := follow_any hK.hep hh hg (fun k hk e => by have := HF.out k hk; have := hlo k e; omega) a1 b1 (hg.r.dm _ hmem) (hR.rch _ hmem).has (obAt_fit hft _) (by have := obAt_len hsm (a1, b1); omega) px hpl (by have := HOK.out; omega)
        have HFL := Lib.hid hFl
        have HEND : Hid (∀ W2, GJ W W2 gh F m (w.heap.size + 1) vt mv1 vf (comeA m.L T (obAt m.L (a1, b1)).vs) → KeepsFrom (wr.alloc (.cells #[.pointer (some ⟨w.heap.size + 1, 0, none⟩)] 124)).heap.size W W2 ∧ ∃ T, Rds m.L roots T (px + 1) ∧ GK w.heap.size w W2 gh F m (w.heap.size + 1) mv1 T ∧ Bx3 W2 w.heap.size (w.heap.size + 2) wr.heap.size gh (w.heap.size + 1)) := Lib.hid fun W2 hj => by
          refine ⟨⟨hj.size, fun k o hk ho hcell => ?_⟩, _, hR.next hx', hK.step hB (Nat.le_refl _) HF.out hm hg hlo hj⟩
          refine (hj.block (Array.getElem?_eq_some_iff.1 ho).1 fun e => ?_).trans ho
          rcases e with (rfl | e | e) | e
          · rw [hg.r.hd] at ho; cases ho; cases hcell
          · obtain ⟨cur, hcur⟩ := own_head hg.r.row e
            rw [hcur] at ho; cases ho; cases hcell
          · have := HMB.out k e; omega
          · obtain ⟨cur, hcur⟩ := own_head hg.f e
            rw [hcur] at ho; cases ho; cases hcell
        have y0 := cell_of_row _ _ 0 _ _ _ h9
        have y1 := cell_of_row _ _ 1 _ _ _ h9
        have v0 := cell_of_row _ _ 0 _ _ _ hB.b0
        have v2 := cell_of_row _ _ 0 _ _ _ hB.b2
        simp at y0 y1 v0 v2
        clear hFl hpl hTl hm hmem hx hx' hg hlo h9 hB hK hR
        gi_wp2_with (refine ⟨trivial, ?_⟩; gi_at_call 49; refine (callsIn_wide.2 HFL.out).mono ?_; rintro e w4 ⟨rfl, hj4⟩; have HJ4 := Lib.hid (HEND.out _ hj4); clear hj4)
        exact ⟨by have := HJ4.out.1; simpa using this, HJ4.out.2⟩
      case done =>
        rintro D j W hD ⟨T, hR, hK, hB⟩ ⟨T2, hT2, hle⟩ hDD
        obtain ⟨vt, vf, fs, hg, hlo⟩ := hK.gra
        have hTl := hg.r.thg_len hT2
        have v2 := cell_of_row _ _ 0 _ _ _ hB.b2
        simp at v2
        have HDD := Lib.hid hDD
        have HFIN : Hid (GraphOf w (W.putObj D (.deferred none)) gh F m roots (.returned (.pointer (some ⟨w.heap.size + 1, 0, none⟩)))) := Lib.hid (by
          obtain ⟨hk2, _⟩ := HOWN.out T W (W.putObj D (.deferred none)) (some D) ⟨hK, hB⟩ (grownBy_putObj' W D _) (fun r e => by cases e; exact ⟨hD, _, hDD, rfl⟩)
          obtain ⟨vt2, vf2, fs2, hg2, hlo2⟩ := hk2.gra
          exact ⟨_, _, _, _, T, _, rfl, hg2, hlo2, hR.done (by omega), hk2.hep, hk2.below⟩)
        clear hg hlo hTl hK hR hB hT2 hle hDD
        gi_wp2
        refine ⟨by simp, .inl ⟨_, _, rfl, run_takeDeferred HDD.out, ?_⟩⟩
        refine ⟨.pointer (some ⟨w.heap.size + 1, 0, none⟩), ?_, HFIN.out⟩
        simp [results, Try.f26, go_sem]
end Go.Proofs.Ytekmboolfjicbaa
