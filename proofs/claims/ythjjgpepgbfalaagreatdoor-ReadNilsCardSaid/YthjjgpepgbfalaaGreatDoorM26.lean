/- Texts RdC2 to RdC2 of this seat, laid into one. -/
import Derived.Test.YthjjgpepgbfalaaGreatDoorM25
set_option linter.unusedVariables false
set_option linter.unusedSimpArgs false
set_option linter.constructorNameAsVariable false
section
/-! What lies in a chain laid in. -/
set_option maxRecDepth 20000
set_option linter.unusedSimpArgs false
set_option linter.unusedVariables false
namespace Go.Proofs.YthjjgpepgbfalaaGreatDoor
open Go.RowKit Go.Shelf
attribute [local go_sem] Oper.semAt_some

theorem gen_actC {F : Fence} {n : Nat} {P : Program} {c : Code} {Q : Exit → Act → World → Prop} {a : Act} {w : World} (h : ∀ A : Act, A = a → c.wpIn F n P Q A w) : c.wpIn F n P Q a w := h a rfl
theorem EndP.uniq {L : Pls} {v : Int × Int} {a b : Nat} (h : EndP L v a) (k : EndP L v b) : a = b := by
  rcases Nat.lt_trichotomy a b with h1 | h1 | h1
  · exact absurd (k.1 a h1) h.2
  · exact h1
  · exact absurd (h.1 b h1) k.2
/-- A frame with what a round is told. -/
def frC (A : Act) (x : (Int × Int) × (Int × Int)) (B7 : Nat) : Act := { tmps := ((A.tmps.setIfInBounds 50 (.agg #[.int .i64 x.1.1, .int .i64 x.1.2])).setIfInBounds 51 (.agg #[.int .i64 x.2.1, .int .i64 x.2.2])).setIfInBounds 7 (.pointer (some ⟨B7, 0, none⟩)), defers := [] }
section
variable {w wr w2 : World} {g : Nat} {F : Nat → Prop} {m : Hm} {S : Nat → Nat} {V : Nat → Value} {B : List Nd} {i k : Nat}
set_option maxRecDepth 100000 in
set_option maxHeartbeats 4000000 in
theorem lay_chain (h : Hep w g F m) (hh : Here m.L) (hn : Nds w S V B) (hap : ∀ k, footN S V B.length k → ¬ F k) (hB : B.length ≤ 20000) (hi : i < B.length) (hk : (ndAt B i).t.k ≠ 2) (n : Nat) (hn0 : 0 < n) (hp : pairsZ (ndAt B i) = (n : Int)) (hst : ∀ j ∈ (ndAt B i).is, ∃ k, stands B j = some k)
    (hd : ∀ j, domV (curM m.L (ndAt B i).v j)) (hc : EndP m.L (ndAt B i).v n) :
    Calls Tryz.prog 33 #[.pointer (some ⟨g, 0, none⟩), .pointer (some ⟨S i, 0, none⟩)] w fun e w' => e = .returned (.tuple #[]) ∧ WentH F g (layC m m.L B i n) w w' := by
  have hmix : Tryz.prog.follows .mixedOrders = true := by kernel_rfl
  obtain ⟨W2, hW2⟩ : ∃ W2, (w.alloc (.cells #[.pointer (some ⟨g, 0, none⟩)] 24)).alloc (.cells #[.pointer (some ⟨S i, 0, none⟩)] 56) = W2 := ⟨_, rfl⟩
  have hb : Below w.heap.size w W2 := by rw [← hW2]; exact ((Below.refl _ _).alloc (Nat.le_refl _) _).alloc (by simp) _
  have hs2 : W2.heap.size = w.heap.size + 2 := by rw [← hW2]; simp
  have b0 : W2.heap[w.heap.size]? = some (.cells #[.pointer (some ⟨g, 0, none⟩)] 24 (0, 0)) := by
    rw [← hW2]; exact (Below.heap_alloc _ _ _ (by simp)).trans (heap_alloc_new w _)
  have b1 : W2.heap[w.heap.size + 1]? = some (.cells #[.pointer (some ⟨S i, 0, none⟩)] 56 (0, 0)) := by
    rw [← hW2]
    have := heap_alloc_new (w.alloc (.cells #[.pointer (some ⟨g, 0, none⟩)] 24)) (.cells #[.pointer (some ⟨S i, 0, none⟩)] 56)
    rw [World.size_alloc] at this; exact this
  have hn2 := hn.below hb
  obtain ⟨⟨c0, -, -, -⟩, ⟨c4, -, -⟩, -, -, -⟩ := hn2.cells hi
  have y1 := cell_of_row _ _ 0 _ _ _ b1
  simp at y1
  have hP := Lib.hid (hn2.pairs (by omega) hi)
  rw [hp] at hP
  have hlen := hn.len i hi
  have hpl := (pairsZ_le (ndAt B i)).2
  rw [hp] at hpl
  have hnd : (ndAt B i).d = true → n + 1 = (ndAt B i).is.length := fun e => by
    unfold pairsZ at hp
    rw [e] at hp
    split at hp
    · simp at hp; omega
    · omega
  have hnn : (ndAt B i).d = false → n = (ndAt B i).is.length := fun e => by
    unfold pairsZ at hp
    rw [e] at hp
    split at hp
    · simp at hp; omega
    · omega
  have hnle : n ≤ (ndAt B i).is.length := by omega
  obtain ⟨b, cp, eV⟩ := own_some (hn.row i hi) (by omega)
  have hcp : (ndAt B i).is.length ≤ cp := by
    have hr := hn.row i hi
    rw [eV] at hr
    rcases hr.2 with ⟨e, _⟩ | ⟨g1, cap, cur, e, _, _, hle, _⟩
    · cases e
    · cases e; exact hle
  rw [eV] at c4
  have dk : (((ndAt B i).t.k : Int) == 2) = false := by simp; omega
  have dn : ((n : Int) == 0) = false := by simp; omega
  have dn2 : decide ((n : Int) = 0) = false := decide_eq_false (by omega)
  obtain ⟨-, -, v7, v8, -⟩ := hn2.cells hi
  obtain ⟨⟨v1, v2⟩, hv⟩ : ∃ v, (ndAt B i).v = v := ⟨_, rfl⟩
  rw [hv] at v7 v8 hd hc
  simp only at v7 v8
  have HH := Lib.hid h
  have HHH := Lib.hid hh
  have HN := Lib.hid hn
  have HAP := Lib.hid hap
  have HI := Lib.hid hi
  have HST := Lib.hid hst
  have HBB := Lib.hid hB
  have HEV := Lib.hid eV
  have HV := Lib.hid hv
  have HD := Lib.hid hd
  have HC := Lib.hid hc
  have HB := Lib.hid hb
  have HZ2 := Lib.hid hs2
  have HB0 := Lib.hid b0
  have HB1 := Lib.hid b1
  have HND := Lib.hid (And.intro hnd hnn)
  have HCP := Lib.hid hcp
  have HLE := Lib.hid hnle
  have HN0 := Lib.hid hn0
  obtain ⟨len, hln⟩ : ∃ len, (ndAt B i).is.length = len := ⟨_, rfl⟩
  have HLN := Lib.hid hln
  rw [hln] at c4 hlen hcp hnle
  have hlI : (len : Int) ≤ 20000 := by omega
  have hnI : (n : Int) ≤ 20000 := by omega
  have hW2' := hW2
  clear h hh hn hn2 hap hi hst eV hv hd hc hb hs2 b0 b1 hnd hnn hp hpl hk hn0 hln
  refine (callsIn_wide (n := 5)).1 ?_
  refine callsIn_of_wp_marks Tryz.func33 rfl trivial ?_ rfl
  simp only [Tryz.ntmps33, List.size_toArray, List.length_cons, List.length_nil, Nat.reduceAdd, Nat.reduceSub, Array.replicate_succ, Array.replicate_zero, List.push_toArray, List.append_toArray, List.nil_append, List.cons_append]
  refine wpIn_wide.2 ?_
  go_upto_region 9 with (go_at_call 45; with_reducible refine hP.out.mono ?_; rintro e w3 ⟨rfl, rfl⟩)
  have x0 := cell_of_row _ _ 0 _ _ _ HB0.out
  simp at x0
  have HBOX := Lib.hid (heap_alloc_new W2 (.cells #[.slice (some ⟨b, 0, none⟩) len cp] 72))
  have HB3 := Lib.hid (alloc_below W2 (.cells #[.slice (some ⟨b, 0, none⟩) len cp] 72))
  have HZ3 : Hid ((W2.alloc (.cells #[.slice (some ⟨b, 0, none⟩) len cp] 72)).heap.size = w.heap.size + 3) := Lib.hid (by rw [World.size_alloc, HZ2.out])
  rw [HZ2.out] at HBOX ⊢
  generalize W2.alloc (.cells #[.slice (some ⟨b, 0, none⟩) len cp] 72) = W3 at *
  have HS9 : Hid (∀ u, Below W3.heap.size W3 u → (fun u : World => u.cell? ⟨w.heap.size, 0, none⟩ = some (.pointer (some ⟨g, 0, none⟩)) ∧ u.cell? ⟨w.heap.size + 1, 0, none⟩ = some (.pointer (some ⟨S i, 0, none⟩)) ∧ u.cell? ⟨S i, 7, none⟩ = some (.int .i64 v1) ∧ u.cell? ⟨S i, 8, none⟩ = some (.int .i64 v2)) u) := Lib.hid fun u hu => by
    have hl : ∀ {p : Addr} {x : Value}, W2.cell? p = some x → u.cell? p = some x := fun {p x} hx => by
      have h1 := World.block_lt_of_cell? _ _ hx
      exact (hu.cell (Nat.lt_of_lt_of_le h1 HB3.out.size)).trans ((HB3.out.cell h1).trans hx)
    exact ⟨hl x0, hl y1, hl v7, hl v8⟩
  have HIT : Hid (∀ u, Below W3.heap.size W3 u → Calls Tryz.prog 55 #[.pointer (some ⟨g, 0, none⟩), .agg #[.int .i64 v1, .int .i64 v2]] u fun e w' => ItR u w' m.L (v1, v2) e) := Lib.hid fun u hu => items_any (HH.out.below (HB.out.trans ((HB3.out.trans (hu.mono HB3.out.size)).mono HB.out.size))) HHH.out (v1, v2) HD.out
  clear x0 y1 v7 v8 c0 c4 hW2 hW2' hP
  refine region_plain (S := fun u : World => u.cell? ⟨w.heap.size, 0, none⟩ = some (.pointer (some ⟨g, 0, none⟩)) ∧ u.cell? ⟨w.heap.size + 1, 0, none⟩ = some (.pointer (some ⟨S i, 0, none⟩)) ∧ u.cell? ⟨S i, 7, none⟩ = some (.int .i64 v1) ∧ u.cell? ⟨S i, 8, none⟩ = some (.int .i64 v2)) hmix (fun KK hKK => ?_)
  have hHeld := HS9.out W3.drew (Below.refl _ _).drew
  refine wpAnyH_take (i := 0) (v := ?_) rfl (by kernel_rfl) (by kernel_rfl) (by kernel_rfl) (fun _ _ _ h => by cases h.1) (Or.inl ⟨by rfl, ?_⟩) hHeld ?_
  rotate_left
  · intro u hSw
    try dsimp only at hSw
    obtain ⟨s1, s2, s3, s4⟩ := hSw
    go_simp
    all_goals (with_reducible rfl)
  try simp only [List.getElem_toArray, List.getElem_cons_succ, List.getElem_cons_zero]
  try simp only [Act.put]
  try simp only [List.setIfInBounds_toArray]
  try simp only [List.set]
  refine wpAnyH_take (i := 1) (v := ?_) rfl (by kernel_rfl) (by kernel_rfl) (by kernel_rfl) (fun _ _ _ h => by cases h.1) (Or.inl ⟨by rfl, ?_⟩) hHeld ?_
  rotate_left
  · intro u hSw
    try dsimp only at hSw
    obtain ⟨s1, s2, s3, s4⟩ := hSw
    go_simp
    all_goals (with_reducible rfl)
  try simp only [List.getElem_toArray, List.getElem_cons_succ, List.getElem_cons_zero]
  try simp only [Act.put]
  try simp only [List.setIfInBounds_toArray]
  try simp only [List.set]
  refine wpAnyH_take (i := 2) (v := ?_) rfl (by kernel_rfl) (by kernel_rfl) (by kernel_rfl) (fun _ _ _ h => by cases h.1) (Or.inl ⟨by rfl, ?_⟩) hHeld ?_
  rotate_left
  · intro u hSw
    try dsimp only at hSw
    obtain ⟨s1, s2, s3, s4⟩ := hSw
    go_simp
    all_goals (with_reducible rfl)
  try simp only [List.getElem_toArray, List.getElem_cons_succ, List.getElem_cons_zero]
  try simp only [Act.put]
  try simp only [List.setIfInBounds_toArray]
  try simp only [List.set]
  refine wpAnyH_take (i := 3) (v := ?_) rfl (by kernel_rfl) (by kernel_rfl) (by kernel_rfl) (fun _ _ _ h => by cases h.1) (Or.inl ⟨by rfl, ?_⟩) hHeld ?_
  rotate_left
  · intro u hSw
    try dsimp only at hSw
    obtain ⟨s1, s2, s3, s4⟩ := hSw
    go_simp
    all_goals (with_reducible rfl)
  try simp only [List.getElem_toArray, List.getElem_cons_succ, List.getElem_cons_zero]
  try simp only [Act.put]
  try simp only [List.setIfInBounds_toArray]
  try simp only [List.set]
  refine wpAnyH_take (i := 4) (v := ?_) rfl (by kernel_rfl) (by kernel_rfl) (by kernel_rfl) (fun _ _ _ h => by cases h.1) (Or.inl ⟨by rfl, ?_⟩) hHeld ?_
  rotate_left
  · intro u hSw
    try dsimp only at hSw
    obtain ⟨s1, s2, s3, s4⟩ := hSw
    go_simp
    all_goals (with_reducible rfl)
  try simp only [List.getElem_toArray, List.getElem_cons_succ, List.getElem_cons_zero]
  try simp only [Act.put]
  try simp only [List.setIfInBounds_toArray]
  try simp only [List.set]
  refine wpAnyH_ready (rs := [5]) (by kernel_rfl) (by simp) ?_
  refine AllReadyH.cons rfl (fun K hK => ?_) AllReadyH.nil
  go_simp
  go_at_call 55
  with_reducible refine (HIT.out _ (Below.refl _ _).drew).mono ?_
  rintro e w4 ⟨n', B5, vs, rfl, hend, h5, hrow, hbl, hB5⟩
  obtain rfl := EndP.uniq HC.out hend
  have HB4 : Hid (Below W3.heap.size W3 w4) := Lib.hid ((Below.refl _ _).drew.trans hbl)
  have H5 := Lib.hid h5
  have HROW : Hid (w4.ownsRow W3.heap.size 68 4 vs n (itC m.L (v1, v2) n)) := Lib.hid hrow
  have HB5 : Hid (W3.heap.size ≤ B5) := Lib.hid hB5
  clear hend h5 hrow hbl hB5
  refine hK.out _ _ ?_ (fun hHeld => ?_)
  · exact HS9.out _ HB4.out
  clear hK K
  try simp only [List.getElem_toArray, List.getElem_cons_succ, List.getElem_cons_zero]
  try simp only [Act.put]
  try simp only [List.setIfInBounds_toArray]
  try simp only [List.set]
  refine wpAnyH_done (by kernel_rfl) ⟨rfl, hKK _ _ ?_⟩ _
  clear hKK hHeld
  clear HS9 HIT
  have HJ0 : Hid (LcI w g F m S B i B5 W3.heap.size n b vs w4.heap.size 0 w4 (qF w F)) := Lib.hid (by
    have hz3 := HZ3.out
    have hb4 := HB4.out
    have hb24 := HB3.out.trans (hb4.mono HB3.out.size)
    have hbw : Below w.heap.size w w4 := HB.out.trans (hb24.mono HB.out.size)
    have z2 := HZ2.out
    refine ⟨F, rfl, HH.out.below hbw, Chp.of_below hbw, fun j _ hf => hf, (hb24.block _ (by omega)).trans HB0.out, (hb24.block _ (by omega)).trans HB1.out, ⟨0, len, cp, fun _ => rfl, by rw [HLN.out]; rfl, hcp, (hb4.block _ (by omega)).trans HBOX.out⟩, H5.out, ?_, Nat.le_refl _, fun k e => (HROW.out.lt k e).2, ?_, lt_of_block H5.out, ?_⟩
    · rw [HV.out]; exact HROW.out
    · have := HB5.out; omega
    · omega)
  have HTOP : Hid (w.heap.size + 3 ≤ w4.heap.size) := Lib.hid (by have := HB4.out.size; have := HZ3.out; omega)
  clear HB0 HB1 HBOX HB3 HB4 HZ2 HB H5 HROW HB5
  go_wp2_with fail
  clear hHeld KK
  refine (wpIn_wide (n := 5)).1 (gen_actC ?_)
  intro A0 hA0
  refine wpIn_rangeF rfl (by omega) (gf := 85) (lb := #[.pointer (some ⟨B5, 0, none⟩)]) (by rw [hA0]; rfl) trivial (enters_of Tryz.func85 (by kernel_rfl) rfl) (items_seq 4 (by omega) B5 W3.heap.size n (by omega) vs m.L (v1, v2)) (fun _ => rfl)
    (LcI w g F m S B i B5 W3.heap.size n b vs w4.heap.size) (LcI.stay (by have := HTOP.out; omega)) LcI.inF ?good (qF w F) HJ0.out
    (fun k x a' W Q => ∃ B7, a' = frC A0 x B7 ∧ (∃ F', Q = (fun j => qF w F' j ∨ j = B7) ∧ ¬ F' B7 ∧ LcJ w g F m S B i B5 W3.heap.size n b vs w4.heap.size (layC m m.L B i k) k W F') ∧ (k < n ∧ x = (curM m.L (v1, v2) k, atV m.L (curM m.L (v1, v2) k) 0)) ∧ W.heap[B7]? = some (.cells #[.int .i64 x.1.1, .int .i64 x.1.2] 36 (0, 0)) ∧ w4.heap.size ≤ B7)
    ?ax ?assign ?body ?done
  case good =>
    rintro k W Q a c ⟨F', rfl, h⟩
    refine ⟨h.b5, ?_⟩
    have := h.row
    rw [HV.out] at this
    exact this
  case ax =>
    rintro k x a' u W W' Q ⟨B7, h1, ⟨F', rfl, hF, h⟩, hx, h7, ht⟩ e1 e2 e3 e4 hk
    exact ⟨B7, h1, ⟨F', rfl, hF, h.keep (by have := HTOP.out; omega) e1 e2 e3 e4 fun j hj hq => hk j hj (hq.imp id .inl)⟩, hx, (hk _ (lt_of_block h7) (.inr (.inr rfl))).trans h7, ht⟩
  case assign =>
    rintro l k ⟨⟨p1, p2⟩, q1, q2⟩ W Q K ⟨F', rfl, h⟩ hx hKK
    have HKK := Lib.hid hKK
    have HX := Lib.hid hx
    have HJ := Lib.hid h
    have HBL := Lib.hid (alloc_below W (.cells #[.int .i64 p1, .int .i64 p2] 36))
    have HNW := Lib.hid (heap_alloc_new W (.cells #[.int .i64 p1, .int .i64 p2] 36))
    clear h hx hKK HJ0
    subst hA0
    gi_wp2
    exact HKK.out _ _ (fun j => qF w F' j ∨ j = W.heap.size) ⟨HBL.out.os, HBL.out.tape, HBL.out.output, HBL.out.size, fun j hj _ => HBL.out.block j hj, fun j hj => hj.imp id fun e => by omega⟩ ⟨W.heap.size, rfl, ⟨F', rfl, fun e => by have := HJ.out.hep.lt _ e; omega, HJ.out.keep (by have := HTOP.out; omega) HBL.out.os HBL.out.tape HBL.out.output HBL.out.size fun j hj _ => HBL.out.block j hj⟩, HX.out, HNW.out, HJ.out.top'⟩
  case done =>
    rintro D k W Q hD ⟨F', rfl, h⟩ hnD hend hDD
    have HDD := Lib.hid hDD
    obtain rfl : k = n := hend
    have hk2 := h.keep (W2 := W.putObj D (.deferred none)) (by have := HTOP.out; omega) rfl rfl rfl (grownBy_putObj' W D _).size fun j hj hq => World.putObj_heap_other (fun e => by subst e; exact hq.elim (fun e => by omega) hnD)
    have HFIN : Hid (WentH F g (layC m m.L B i k) w (W.putObj D (.deferred none))) := Lib.hid ⟨F', hk2.hep, hk2.chp⟩
    clear h hk2 hnD hDD HJ0
    subst hA0
    gi_wp2
    refine ⟨by simp, .inl ⟨_, _, rfl, run_takeDeferred HDD.out, ?_⟩⟩
    refine ⟨.tuple #[], ?_, rfl, HFIN.out⟩
    exact results_none Tryz.results33 _ _ _
  case body =>
    rintro l k ⟨⟨p1, p2⟩, q1, q2⟩ a' W Q hl ⟨B7, rfl, ⟨F', rfl, hF7, h⟩, ⟨hkn, hx⟩, h7, h7t⟩
    have hp : (p1, p2) = curM m.L (v1, v2) k := (Prod.mk.inj hx).1
    have hfl := HH.out.lt
    have htop := HTOP.out
    have hnd := h.nds HN.out HAP.out
    have hle := HLE.out
    have hkl : k < (ndAt B i).is.length := by omega
    obtain ⟨nk, hnk⟩ : ∃ j, (ndAt B i).is[k]? = some j := ⟨(ndAt B i).is[k], List.getElem?_eq_getElem hkl⟩
    have hnm := List.mem_of_getElem? hnk
    obtain ⟨b', c2, e2, xb⟩ := hnd.at' HI.out hnk
    rw [HEV.out] at e2
    cases e2
    unfold ptrN at xb
    obtain ⟨-, hnB⟩ := (hnd.ord i HI.out).1 nk hnm
    obtain ⟨s, hs⟩ := HST.out nk hnm
    have hsB := stands_lt hnd.ord B.length nk hnB (by omega) s hs
    have hbb : b < w.heap.size := own_lt (HN.out.row i HI.out) (by rw [HEV.out]; rfl)
    have hbF : ¬ F b := HAP.out b ⟨i, HI.out, .inr (by rw [HEV.out]; rfl)⟩
    have hSs : S s < w.heap.size := HN.out.lt _ ⟨s, hsB, .inl rfl⟩
    have hSF : ¬ F (S s) := HAP.out _ ⟨s, hsB, .inl rfl⟩
    have hSi : S i < w.heap.size := HN.out.lt _ ⟨i, HI.out, .inl rfl⟩
    have hSiF : ¬ F (S i) := HAP.out _ ⟨i, HI.out, .inl rfl⟩
    obtain ⟨o0, R, C, ho0, hR, hRC, hb2⟩ := h.b2
    obtain ⟨r, rfl⟩ : ∃ r, R = r + 1 := ⟨R - 1, by omega⟩
    obtain ⟨c, rfl⟩ : ∃ c, C = c + 1 := ⟨C - 1, by omega⟩
    rw [ho0 (by omega)] at hb2
    have hrI : (r : Int) ≤ 20000 := by have := HLN.out; omega
    obtain ⟨-, ⟨-, x5, -⟩, -⟩ := hnd.cells HI.out
    obtain ⟨-, -, s7, s8, -⟩ := hnd.cells hsB
    have htk := (hnd.tk s hsB).2.2
    obtain ⟨⟨z1, z2⟩, hz⟩ : ∃ z, (ndAt B s).v = z := ⟨_, rfl⟩
    rw [hz] at s7 s8 htk
    simp only at s7 s8 htk
    have x0 := cell_of_row _ _ 0 _ _ _ h.b0
    have x1 := cell_of_row _ _ 0 _ _ _ h.b1
    have x2 := cell_of_row _ _ 0 _ _ _ hb2
    have x70 := cell_of_row _ _ 0 _ _ _ h7
    have x71 := cell_of_row _ _ 1 _ _ _ h7
    simp at x0 x1 x2 x70 x71
    have hst0 : stV B nk = (z1, z2) := by unfold stV; rw [hs]; exact hz
    have hgd : (ndAt B i).is.getD k 0 = nk := by rw [List.getD_eq_getElem?_getD, hnk]; rfl
    obtain ⟨m1, hm1⟩ : ∃ m1, setM (layC m m.L B i k) (p1, p2) 0 (z1, z2) = m1 := ⟨_, rfl⟩
    have hlc := layC_here HHH.out m.L B i k
    have hm1h : Here m1.L := by rw [← hm1]; exact (setM_here hlc.1 _ _ _).1
    have hcell : ∀ {F2 : Nat → Prop} {u : World} {p : Addr} {x : Value}, Chp F' F2 W u → W.cell? p = some x → ¬ F' p.block → u.cell? p = some x := fun {F2 u p x} hc hx hn => (World.cell?_of_block (hc.block _ (World.block_lt_of_cell? _ _ hx) hn)).trans hx
    have hout := fun {j : Nat} (h1 : w.heap.size ≤ j) (h2 : j < w4.heap.size) => h.out hfl h1 h2
    have hF : ∀ {j}, j < w.heap.size → ¬ F j → ¬ F' j := fun {j} hj hf => h.ap j (by omega) hf
    have HS11 : Hid (∀ F2 u, Chp F' F2 W u → (fun u : World => u.cell? ⟨w.heap.size, 0, none⟩ = some (.pointer (some ⟨g, 0, none⟩)) ∧ u.cell? ⟨B7, 0, none⟩ = some (.int .i64 p1) ∧ u.cell? ⟨B7, 1, none⟩ = some (.int .i64 p2) ∧ u.cell? ⟨w.heap.size + 2, 0, none⟩ = some (.slice (some ⟨b, k, none⟩) (r + 1) (c + 1)) ∧ u.cell? ⟨b, k, none⟩ = some (.pointer (some ⟨S nk, 0, none⟩)) ∧ u.cell? ⟨S s, 7, none⟩ = some (.int .i64 z1) ∧ u.cell? ⟨S s, 8, none⟩ = some (.int .i64 z2)) u) := Lib.hid fun F2 u hc => ⟨hcell hc x0 (hout (by simp) (by simp; omega)), hcell hc x70 hF7, hcell hc x71 hF7, hcell hc x2 (hout (by simp) (by simp; omega)), hcell hc xb (hF hbb hbF), hcell hc s7 (hF hSs hSF), hcell hc s8 (hF hSs hSF)⟩
    have HSS : Hid (Calls Tryz.prog 34 #[.pointer (some ⟨S nk, 0, none⟩)] W.drew fun e w' => e = .returned (.pointer (some ⟨S s, 0, none⟩)) ∧ W.drew = w') := Lib.hid (by
      have := (hnd.below (Below.refl _ _).drew).stands (by omega) B.length nk hnB (by omega)
      rw [hs] at this
      exact this)
    have HSET : Hid (Calls Tryz.prog 54 #[.pointer (some ⟨g, 0, none⟩), .agg #[.int .i64 p1, .int .i64 p2], .int .i64 0, .agg #[.int .i64 z1, .int .i64 z2]] W.drew fun e w' => (∃ z, e = .returned (.int .i64 z)) ∧ WentH F' g m1 W.drew w') := Lib.hid ((Hep.set (h.hep.below (Below.refl _ _).drew) hlc.1 p1 p2 (by have := (HD.out k).2; rw [← hp] at this; exact this) 0 z1 z2 htk.2).mono fun e w' ⟨he, hw⟩ => ⟨⟨_, he⟩, hm1 ▸ hw⟩)
    have HGO : Hid (∀ w', WentH F' g m1 W.drew w' → (fun u : World => u.cell? ⟨w.heap.size, 0, none⟩ = some (.pointer (some ⟨g, 0, none⟩)) ∧ u.cell? ⟨B7, 0, none⟩ = some (.int .i64 p1) ∧ u.cell? ⟨B7, 1, none⟩ = some (.int .i64 p2) ∧ u.cell? ⟨w.heap.size + 2, 0, none⟩ = some (.slice (some ⟨b, k, none⟩) (r + 1) (c + 1)) ∧ u.cell? ⟨b, k, none⟩ = some (.pointer (some ⟨S nk, 0, none⟩)) ∧ u.cell? ⟨S s, 7, none⟩ = some (.int .i64 z1) ∧ u.cell? ⟨S s, 8, none⟩ = some (.int .i64 z2)) w' ∧ ∃ F2, LcJ w g F m S B i B5 W3.heap.size n b vs w4.heap.size m1 k w' F2 ∧ Chp (qF w F') (qF w F2) W w' ∧ ¬ F2 B7) := Lib.hid fun w' hw => by
      obtain ⟨F2, hw2, hwc⟩ := hw
      have hc : Chp F' F2 W w' := (Chp.of_below (Below.refl _ _).drew).trans hwc
      obtain ⟨F3, k1, k2⟩ := h.went hfl ⟨F2, hw2, hc⟩
      exact ⟨HS11.out _ _ hc, F3, k1, k2, fun e => (k2.fresh B7 (.inl e)).elim (fun e2 => e2.elim hF7 fun e3 => by omega) fun e2 => by have := lt_of_block h7; omega⟩
    have HK5 : Hid (m1 = setM (layC m m.L B i k) (curM m.L (v1, v2) k) 0 (stV B ((ndAt B i).is.getD k 0))) := Lib.hid (by rw [hgd, hst0, ← hp, hm1])
    have HX1 := Lib.hid (And.intro x1 x5)
    have HR := Lib.hid (And.intro hR hRC)
    have HM1 := Lib.hid hm1h
    have HHF := Lib.hid hfl
    have HPP := Lib.hid hp
    have hd1 : decide ((0 : Int) < ((r + 1 : Nat) : Int)) = true := decide_eq_true (by omega)
    have hd2 : decide (0 < r + 1) = true := decide_eq_true (by omega)
    have hrc : r ≤ c := by omega
    clear h hx h7 hnd hnm hnk xb s7 s8 x0 x2 x70 x71 hlc hm1h hcell hout hF hb2 hR hRC hp x1 x5 hm1 hst0 hgd hF7 HJ0
    subst hA0
    simp only [frC, List.setIfInBounds_toArray, List.set]
    gi_upto_region 11 with fail
    refine region_round (S := fun u : World => u.cell? ⟨w.heap.size, 0, none⟩ = some (.pointer (some ⟨g, 0, none⟩)) ∧ u.cell? ⟨B7, 0, none⟩ = some (.int .i64 p1) ∧ u.cell? ⟨B7, 1, none⟩ = some (.int .i64 p2) ∧ u.cell? ⟨w.heap.size + 2, 0, none⟩ = some (.slice (some ⟨b, k, none⟩) (r + 1) (c + 1)) ∧ u.cell? ⟨b, k, none⟩ = some (.pointer (some ⟨S nk, 0, none⟩)) ∧ u.cell? ⟨S s, 7, none⟩ = some (.int .i64 z1) ∧ u.cell? ⟨S s, 8, none⟩ = some (.int .i64 z2)) hmix (by kernel_rfl) (fun KK hKK => ?_)
    have hHeld := HS11.out _ W.drew (Chp.of_below (Below.refl _ _).drew)
    refine wpAnyH_take (i := 0) (v := ?_) rfl (by kernel_rfl) (by kernel_rfl) (by kernel_rfl) (fun _ _ _ h => by cases h.1) (Or.inl ⟨by rfl, ?_⟩) hHeld ?_
    rotate_left
    · intro u hSw
      try dsimp only at hSw
      obtain ⟨s1, s2, s3, s4, s5, s6, s7⟩ := hSw
      go_simp
      all_goals (with_reducible rfl)
    try simp only [List.getElem_toArray, List.getElem_cons_succ, List.getElem_cons_zero]
    try simp only [Act.put]
    try simp only [List.setIfInBounds_toArray]
    try simp only [List.set]
    refine wpAnyH_take (i := 1) (v := ?_) rfl (by kernel_rfl) (by kernel_rfl) (by kernel_rfl) (fun _ _ _ h => by cases h.1) (Or.inl ⟨by rfl, ?_⟩) hHeld ?_
    rotate_left
    · intro u hSw
      try dsimp only at hSw
      obtain ⟨s1, s2, s3, s4, s5, s6, s7⟩ := hSw
      go_simp
      all_goals (with_reducible rfl)
    try simp only [List.getElem_toArray, List.getElem_cons_succ, List.getElem_cons_zero]
    try simp only [Act.put]
    try simp only [List.setIfInBounds_toArray]
    try simp only [List.set]
    refine wpAnyH_take (i := 2) (v := ?_) rfl (by kernel_rfl) (by kernel_rfl) (by kernel_rfl) (fun _ _ _ h => by cases h.1) (Or.inl ⟨by rfl, ?_⟩) hHeld ?_
    rotate_left
    · intro u hSw
      try dsimp only at hSw
      obtain ⟨s1, s2, s3, s4, s5, s6, s7⟩ := hSw
      go_simp
      all_goals (with_reducible rfl)
    try simp only [List.getElem_toArray, List.getElem_cons_succ, List.getElem_cons_zero]
    try simp only [Act.put]
    try simp only [List.setIfInBounds_toArray]
    try simp only [List.set]
    refine wpAnyH_take (i := 3) (v := ?_) rfl (by kernel_rfl) (by kernel_rfl) (by kernel_rfl) (fun _ _ _ h => by cases h.1) (Or.inl ⟨by rfl, ?_⟩) hHeld ?_
    rotate_left
    · intro u hSw
      try dsimp only at hSw
      obtain ⟨s1, s2, s3, s4, s5, s6, s7⟩ := hSw
      go_simp
      all_goals (with_reducible rfl)
    try simp only [List.getElem_toArray, List.getElem_cons_succ, List.getElem_cons_zero]
    try simp only [Act.put]
    try simp only [List.setIfInBounds_toArray]
    try simp only [List.set]
    refine wpAnyH_take (i := 4) (v := ?_) rfl (by kernel_rfl) (by kernel_rfl) (by kernel_rfl) (fun _ _ _ h => by cases h.1) (Or.inl ⟨by rfl, ?_⟩) hHeld ?_
    rotate_left
    · intro u hSw
      try dsimp only at hSw
      obtain ⟨s1, s2, s3, s4, s5, s6, s7⟩ := hSw
      go_simp
      all_goals (with_reducible rfl)
    try simp only [List.getElem_toArray, List.getElem_cons_succ, List.getElem_cons_zero]
    try simp only [Act.put]
    try simp only [List.setIfInBounds_toArray]
    try simp only [List.set]
    refine wpAnyH_ready (rs := [5]) (by kernel_rfl) (by simp) ?_
    refine AllReadyH.cons rfl (fun K hK => ?_) AllReadyH.nil
    go_simp
    go_at_call 34
    with_reducible refine HSS.out.mono ?_
    rintro ex w5 ⟨rfl, rfl⟩
    refine hK.out _ _ ?_ (fun hHeld => ?_)
    · exact hHeld
    clear hK K
    try simp only [List.getElem_toArray, List.getElem_cons_succ, List.getElem_cons_zero]
    try simp only [Act.put]
    try simp only [List.setIfInBounds_toArray]
    try simp only [List.set]
    refine wpAnyH_take (i := 6) (v := ?_) rfl (by kernel_rfl) (by kernel_rfl) (by kernel_rfl) (fun _ _ _ h => by cases h.1) (Or.inl ⟨by rfl, ?_⟩) hHeld ?_
    rotate_left
    · intro u hSw
      try dsimp only at hSw
      obtain ⟨s1, s2, s3, s4, s5, s6, s7⟩ := hSw
      go_simp
      all_goals (with_reducible rfl)
    try simp only [List.getElem_toArray, List.getElem_cons_succ, List.getElem_cons_zero]
    try simp only [Act.put]
    try simp only [List.setIfInBounds_toArray]
    try simp only [List.set]
    refine wpAnyH_take (i := 7) (v := ?_) rfl (by kernel_rfl) (by kernel_rfl) (by kernel_rfl) (fun _ _ _ h => by cases h.1) (Or.inl ⟨by rfl, ?_⟩) hHeld ?_
    rotate_left
    · intro u hSw
      try dsimp only at hSw
      obtain ⟨s1, s2, s3, s4, s5, s6, s7⟩ := hSw
      go_simp
      all_goals (with_reducible rfl)
    try simp only [List.getElem_toArray, List.getElem_cons_succ, List.getElem_cons_zero]
    try simp only [Act.put]
    try simp only [List.setIfInBounds_toArray]
    try simp only [List.set]
    refine wpAnyH_take (i := 8) (v := ?_) rfl (by kernel_rfl) (by kernel_rfl) (by kernel_rfl) (fun _ _ _ h => by cases h.1) (Or.inl ⟨by rfl, ?_⟩) hHeld ?_
    rotate_left
    · intro u hSw
      try dsimp only at hSw
      obtain ⟨s1, s2, s3, s4, s5, s6, s7⟩ := hSw
      go_simp
      all_goals (with_reducible rfl)
    try simp only [List.getElem_toArray, List.getElem_cons_succ, List.getElem_cons_zero]
    try simp only [Act.put]
    try simp only [List.setIfInBounds_toArray]
    try simp only [List.set]
    refine wpAnyH_ready (rs := [9]) (by kernel_rfl) (by simp) ?_
    refine AllReadyH.cons rfl (fun K hK => ?_) AllReadyH.nil
    go_simp
    go_at_call 54
    with_reducible refine HSET.out.mono ?_
    rintro ex w5 ⟨⟨z, rfl⟩, hw5⟩
    obtain ⟨hS5, F2, hj5, hc5, hn7⟩ := HGO.out w5 hw5
    have HN7 := Lib.hid hn7
    clear hn7
    have HS5 := Lib.hid hS5
    have HJ5 := Lib.hid hj5
    have HC5 := Lib.hid hc5
    clear hw5 hj5 hc5
    refine hK.out _ _ ?_ (fun hHeld => ?_)
    · exact hS5
    clear hK K
    try simp only [List.getElem_toArray, List.getElem_cons_succ, List.getElem_cons_zero]
    try simp only [Act.put]
    try simp only [List.setIfInBounds_toArray]
    try simp only [List.set]
    refine wpAnyH_done (by kernel_rfl) ⟨rfl, hKK _ _ ?_⟩ _
    clear hKK hHeld
    obtain ⟨-, -, -, y2, -⟩ := HS5.out
    have HCUT : Hid (∀ o c', (0 < c' → o = k + 1) → r ≤ c' → (fun u : World => LcJ w g F m S B i B5 W3.heap.size n b vs w4.heap.size m1 (k + 1) u F2 ∧ Chp (qF w F2) (qF w F2) w5 u ∧ u.cell? ⟨B7, 0, none⟩ = some (.int .i64 p1) ∧ u.cell? ⟨B7, 1, none⟩ = some (.int .i64 p2) ∧ ¬ F2 B7) (w5.setCell ⟨w.heap.size + 2, 0, none⟩ (.slice (some ⟨b, o, none⟩) r c'))) := Lib.hid fun o c' ho hrc => by
      obtain ⟨k1, k2⟩ := HJ5.out.cut HHF.out (k2 := k + 1) ho (by have := HR.out.1; omega) hrc
      exact ⟨k1, k2, (World.cell?_of_block (heap_setCell_other _ _ _ _ (show B7 ≠ w.heap.size + 2 by omega))).trans HS5.out.2.1, (World.cell?_of_block (heap_setCell_other _ _ _ _ (show B7 ≠ w.heap.size + 2 by omega))).trans HS5.out.2.2.1, HN7.out⟩
    clear HS11 HSS HSET HGO HS5
    have f2 : w5.frozen? ⟨w.heap.size + 2, 0, none⟩ = false := by obtain ⟨_, _, _, _, _, _, h3⟩ := HJ5.out.b2; exact frozen_of_row _ _ 0 _ _ h3
    rcases Nat.eq_zero_or_pos c with hc0 | hc0
    · subst hc0; obtain rfl : r = 0 := by omega
      have HCU := Lib.hid (HCUT.out (k) 0 (by omega) (by omega))
      gi_upto_region 13 with fail
      generalize w5.setCell ⟨w.heap.size + 2, 0, none⟩ (.slice (some ⟨b, k, none⟩) 0 0) = w6 at *
      have HC6 : Hid (Chp (qF w F') (qF w F2) W w6) := Lib.hid (HC5.out.trans HCU.out.2.1)
      have HJ6 := Lib.hid HCU.out.1
      have Q70 := Lib.hid HCU.out.2.2
      clear HCUT HCU HC5 HJ5 y2 f2
      have hnd := HJ6.out.nds HN.out HAP.out
      have x1 := cell_of_row _ _ 0 _ _ _ HJ6.out.b1
      obtain ⟨o2, r2, c2, ho2, e1, hr2c, hb2⟩ := HJ6.out.b2
      obtain ⟨-, ⟨-, x5, -⟩, -⟩ := hnd.cells HI.out
      simp at x1
      have x2 := cell_of_row _ _ 0 _ _ _ hb2
      simp at x2
      have hrI2 : (r2 : Int) ≤ 20000 := by have := HLN.out; omega
      have HEND : Hid (¬ ((ndAt B i).d = true ∧ k + 2 = (ndAt B i).is.length) → ∃ Q2, LcI w g F m S B i B5 W3.heap.size n b vs w4.heap.size (k + 1) w6 Q2 ∧ Chp (fun j => qF w F' j ∨ j = B7) Q2 W w6) := Lib.hid fun hno => by
        refine ⟨qF w F2, ⟨F2, rfl, ?_⟩, HC6.out.left fun j hj => .inl hj⟩
        have e : layC m m.L B i (k + 1) = m1 := by
          show (if _ then _ else _) = _
          rw [if_neg hno, HV.out]
          exact HK5.out.symm
        rw [e]
        exact HJ6.out
      have hdf : (ndAt B i).d = false := by
        cases hdd : (ndAt B i).d with
        | false => rfl
        | true => have h1 := HND.out.1 hdd; have h2 := HR.out.1; omega
      rw [hdf] at x5
      have HF := Lib.hid (HEND.out (by rw [hdf]; simp))
      clear hnd hb2 e1 HEND HC6 HJ6 x2
      gi_wp2
      exact HF.out
    · obtain ⟨c, rfl⟩ : ∃ d, c = d + 1 := ⟨c - 1, by omega⟩
      have HCU := Lib.hid (HCUT.out (k + 1) (c + 1) (by omega) (by omega))
      gi_upto_region 13 with fail
      generalize w5.setCell ⟨w.heap.size + 2, 0, none⟩ (.slice (some ⟨b, k + 1, none⟩) r (c + 1)) = w6 at *
      have HC6 : Hid (Chp (qF w F') (qF w F2) W w6) := Lib.hid (HC5.out.trans HCU.out.2.1)
      have HJ6 := Lib.hid HCU.out.1
      have Q70 := Lib.hid HCU.out.2.2
      clear HCUT HCU HC5 HJ5 y2 f2
      have hnd := HJ6.out.nds HN.out HAP.out
      have x1 := cell_of_row _ _ 0 _ _ _ HJ6.out.b1
      obtain ⟨o2, r2, c2, ho2, e1, hr2c, hb2⟩ := HJ6.out.b2
      obtain ⟨-, ⟨-, x5, -⟩, -⟩ := hnd.cells HI.out
      simp at x1
      have x2 := cell_of_row _ _ 0 _ _ _ hb2
      simp at x2
      have hrI2 : (r2 : Int) ≤ 20000 := by have := HLN.out; omega
      have HEND : Hid (¬ ((ndAt B i).d = true ∧ k + 2 = (ndAt B i).is.length) → ∃ Q2, LcI w g F m S B i B5 W3.heap.size n b vs w4.heap.size (k + 1) w6 Q2 ∧ Chp (fun j => qF w F' j ∨ j = B7) Q2 W w6) := Lib.hid fun hno => by
        refine ⟨qF w F2, ⟨F2, rfl, ?_⟩, HC6.out.left fun j hj => .inl hj⟩
        have e : layC m m.L B i (k + 1) = m1 := by
          show (if _ then _ else _) = _
          rw [if_neg hno, HV.out]
          exact HK5.out.symm
        rw [e]
        exact HJ6.out
      cases hdd : (ndAt B i).d with
      | false =>
        rw [hdd] at x5
        have HF := Lib.hid (HEND.out (by rw [hdd]; simp))
        clear hnd hb2 e1 HEND HC6 HJ6 x2
        gi_wp2
        exact HF.out
      | true =>
        rw [hdd] at x5
        have hn1 := HND.out.1 hdd
        by_cases hr1 : r2 = 1
        · obtain rfl := ho2 (by omega)
          have dr : ((r2 : Int) == 1) = true := by rw [hr1]; rfl
          have dr2 : decide ((r2 : Int) = 1) = true := decide_eq_true (by omega)
          gi_upto_region 14 with fail
          have hkl2 : k + 1 < (ndAt B i).is.length := by omega
          obtain ⟨nk2, hnk2⟩ : ∃ j, (ndAt B i).is[k + 1]? = some j := ⟨(ndAt B i).is[k + 1], List.getElem?_eq_getElem hkl2⟩
          have hnm2 := List.mem_of_getElem? hnk2
          obtain ⟨b3, c3, e3, xb⟩ := hnd.at' HI.out hnk2
          rw [HEV.out] at e3
          cases e3
          unfold ptrN at xb
          obtain ⟨-, hnB2⟩ := (hnd.ord i HI.out).1 nk2 hnm2
          obtain ⟨s2, hs2⟩ := HST.out nk2 hnm2
          have hsB2 := stands_lt hnd.ord B.length nk2 hnB2 (by omega) s2 hs2
          have hSs2 : S s2 < w.heap.size := HN.out.lt _ ⟨s2, hsB2, .inl rfl⟩
          have hSF2 : ¬ F (S s2) := HAP.out _ ⟨s2, hsB2, .inl rfl⟩
          obtain ⟨-, -, s7, s8, -⟩ := hnd.cells hsB2
          have htk2 := (hnd.tk s2 hsB2).2.2
          obtain ⟨⟨y1, y2⟩, hy⟩ : ∃ z, (ndAt B s2).v = z := ⟨_, rfl⟩
          rw [hy] at s7 s8 htk2
          simp only at s7 s8 htk2
          have x0 := cell_of_row _ _ 0 _ _ _ HJ6.out.b0
          simp at x0
          have hst1 : stV B nk2 = (y1, y2) := by unfold stV; rw [hs2]; exact hy
          have hgd1 : (ndAt B i).is.getD (k + 1) 0 = nk2 := by rw [List.getD_eq_getElem?_getD, hnk2]; rfl
          have hfl := HHF.out
          have hout := fun {j : Nat} (h1 : w.heap.size ≤ j) (h2 : j < w4.heap.size) => HJ6.out.out hfl h1 h2
          have hF : ∀ {j}, j < w.heap.size → ¬ F j → ¬ F2 j := fun {j} hj hf => HJ6.out.ap j (by omega) hf
          have hcell : ∀ {F3 : Nat → Prop} {u : World} {p : Addr} {x : Value}, Chp F2 F3 w6 u → w6.cell? p = some x → ¬ F2 p.block → u.cell? p = some x := fun {F3 u p x} hc hx hn => (World.cell?_of_block (hc.block _ (World.block_lt_of_cell? _ _ hx) hn)).trans hx
          have HS14 : Hid (∀ F3 u, Chp F2 F3 w6 u → (fun u : World => u.cell? ⟨w.heap.size, 0, none⟩ = some (.pointer (some ⟨g, 0, none⟩)) ∧ u.cell? ⟨B7, 0, none⟩ = some (.int .i64 p1) ∧ u.cell? ⟨B7, 1, none⟩ = some (.int .i64 p2) ∧ u.cell? ⟨w.heap.size + 2, 0, none⟩ = some (.slice (some ⟨b, k + 1, none⟩) r2 c2) ∧ u.cell? ⟨b, k + 1, none⟩ = some (.pointer (some ⟨S nk2, 0, none⟩)) ∧ u.cell? ⟨S s2, 7, none⟩ = some (.int .i64 y1) ∧ u.cell? ⟨S s2, 8, none⟩ = some (.int .i64 y2)) u) := Lib.hid fun F3 u hc => ⟨hcell hc x0 (hout (by simp) (by simp; omega)), hcell hc Q70.out.1 Q70.out.2.2, hcell hc Q70.out.2.1 Q70.out.2.2, hcell hc x2 (hout (by simp) (by simp; omega)), hcell hc xb (hF hbb hbF), hcell hc s7 (hF hSs2 hSF2), hcell hc s8 (hF hSs2 hSF2)⟩
          have HSS : Hid (Calls Tryz.prog 34 #[.pointer (some ⟨S nk2, 0, none⟩)] w6.drew fun e w' => e = .returned (.pointer (some ⟨S s2, 0, none⟩)) ∧ w6.drew = w') := Lib.hid (by
            have := (hnd.below (Below.refl _ _).drew).stands (by omega) B.length nk2 hnB2 (by omega)
            rw [hs2] at this
            exact this)
          obtain ⟨m2, hm2⟩ : ∃ m2, setM m1 (p1, p2) 1 (y1, y2) = m2 := ⟨_, rfl⟩
          have HSET : Hid (Calls Tryz.prog 54 #[.pointer (some ⟨g, 0, none⟩), .agg #[.int .i64 p1, .int .i64 p2], .int .i64 1, .agg #[.int .i64 y1, .int .i64 y2]] w6.drew fun e w' => (∃ z, e = .returned (.int .i64 z)) ∧ WentH F2 g m2 w6.drew w') := Lib.hid ((Hep.set (HJ6.out.hep.below (Below.refl _ _).drew) HM1.out p1 p2 (by have := (HD.out k).2; rw [← HPP.out] at this; exact this) 1 y1 y2 htk2.2).mono fun e w' ⟨he, hw⟩ => ⟨⟨_, he⟩, hm2 ▸ hw⟩)
          have HGO : Hid (∀ w', WentH F2 g m2 w6.drew w' → (fun u : World => u.cell? ⟨w.heap.size, 0, none⟩ = some (.pointer (some ⟨g, 0, none⟩)) ∧ u.cell? ⟨B7, 0, none⟩ = some (.int .i64 p1) ∧ u.cell? ⟨B7, 1, none⟩ = some (.int .i64 p2) ∧ u.cell? ⟨w.heap.size + 2, 0, none⟩ = some (.slice (some ⟨b, k + 1, none⟩) r2 c2) ∧ u.cell? ⟨b, k + 1, none⟩ = some (.pointer (some ⟨S nk2, 0, none⟩)) ∧ u.cell? ⟨S s2, 7, none⟩ = some (.int .i64 y1) ∧ u.cell? ⟨S s2, 8, none⟩ = some (.int .i64 y2)) w' ∧ ∃ Q2, LcI w g F m S B i B5 W3.heap.size n b vs w4.heap.size (k + 1) w' Q2 ∧ Chp (fun j => qF w F' j ∨ j = B7) Q2 W w') := Lib.hid fun w' hw => by
            obtain ⟨F3, hw2, hwc⟩ := hw
            have hc : Chp F2 F3 w6 w' := (Chp.of_below (Below.refl _ _).drew).trans hwc
            obtain ⟨F4, k1, k2⟩ := HJ6.out.went hfl ⟨F3, hw2, hc⟩
            refine ⟨HS14.out _ _ hc, qF w F4, ⟨F4, rfl, ?_⟩, (HC6.out.trans k2).left fun j hj => .inl hj⟩
            have e : layC m m.L B i (k + 1) = m2 := by
              show (if _ then _ else _) = _
              rw [if_pos ⟨hdd, by omega⟩, HV.out, hgd1, hst1, ← HK5.out, ← HPP.out]
              exact hm2
            rw [e]
            exact k1
          have hd3 : decide ((0 : Int) < (r2 : Int)) = true := decide_eq_true (by omega)
          have hd4 : decide (0 < r2) = true := decide_eq_true (by omega)
          have hrI3 : (0 : Int) < (r2 : Int) := by omega
          clear hnd hnm2 hnk2 xb s7 s8 x0 hcell hout hF hb2 x1 x5 hm2 hst1 hgd1 HEND HC6 HJ6 x2 dr dr2 e1
          refine region_round (S := fun u : World => u.cell? ⟨w.heap.size, 0, none⟩ = some (.pointer (some ⟨g, 0, none⟩)) ∧ u.cell? ⟨B7, 0, none⟩ = some (.int .i64 p1) ∧ u.cell? ⟨B7, 1, none⟩ = some (.int .i64 p2) ∧ u.cell? ⟨w.heap.size + 2, 0, none⟩ = some (.slice (some ⟨b, k + 1, none⟩) r2 c2) ∧ u.cell? ⟨b, k + 1, none⟩ = some (.pointer (some ⟨S nk2, 0, none⟩)) ∧ u.cell? ⟨S s2, 7, none⟩ = some (.int .i64 y1) ∧ u.cell? ⟨S s2, 8, none⟩ = some (.int .i64 y2)) hmix (by kernel_rfl) (fun KK hKK => ?_)
          have hHeld := HS14.out _ w6.drew (Chp.of_below (Below.refl _ _).drew)
          refine wpAnyH_take (i := 0) (v := ?_) rfl (by kernel_rfl) (by kernel_rfl) (by kernel_rfl) (fun _ _ _ h => by cases h.1) (Or.inl ⟨by rfl, ?_⟩) hHeld ?_
          rotate_left
          · intro u hSw
            try dsimp only at hSw
            obtain ⟨s1, s2, s3, s4, s5, s6, s7⟩ := hSw
            go_simp
            all_goals (with_reducible rfl)
          try simp only [List.getElem_toArray, List.getElem_cons_succ, List.getElem_cons_zero]
          try simp only [Act.put]
          try simp only [List.setIfInBounds_toArray]
          try simp only [List.set]
          refine wpAnyH_take (i := 1) (v := ?_) rfl (by kernel_rfl) (by kernel_rfl) (by kernel_rfl) (fun _ _ _ h => by cases h.1) (Or.inl ⟨by rfl, ?_⟩) hHeld ?_
          rotate_left
          · intro u hSw
            try dsimp only at hSw
            obtain ⟨s1, s2, s3, s4, s5, s6, s7⟩ := hSw
            go_simp
            all_goals (with_reducible rfl)
          try simp only [List.getElem_toArray, List.getElem_cons_succ, List.getElem_cons_zero]
          try simp only [Act.put]
          try simp only [List.setIfInBounds_toArray]
          try simp only [List.set]
          refine wpAnyH_take (i := 2) (v := ?_) rfl (by kernel_rfl) (by kernel_rfl) (by kernel_rfl) (fun _ _ _ h => by cases h.1) (Or.inl ⟨by rfl, ?_⟩) hHeld ?_
          rotate_left
          · intro u hSw
            try dsimp only at hSw
            obtain ⟨s1, s2, s3, s4, s5, s6, s7⟩ := hSw
            go_simp
            all_goals (with_reducible rfl)
          try simp only [List.getElem_toArray, List.getElem_cons_succ, List.getElem_cons_zero]
          try simp only [Act.put]
          try simp only [List.setIfInBounds_toArray]
          try simp only [List.set]
          refine wpAnyH_take (i := 3) (v := ?_) rfl (by kernel_rfl) (by kernel_rfl) (by kernel_rfl) (fun _ _ _ h => by cases h.1) (Or.inl ⟨by rfl, ?_⟩) hHeld ?_
          rotate_left
          · intro u hSw
            try dsimp only at hSw
            obtain ⟨s1, s2, s3, s4, s5, s6, s7⟩ := hSw
            go_simp
            all_goals (with_reducible rfl)
          try simp only [List.getElem_toArray, List.getElem_cons_succ, List.getElem_cons_zero]
          try simp only [Act.put]
          try simp only [List.setIfInBounds_toArray]
          try simp only [List.set]
          refine wpAnyH_take (i := 4) (v := ?_) rfl (by kernel_rfl) (by kernel_rfl) (by kernel_rfl) (fun _ _ _ h => by cases h.1) (Or.inl ⟨by rfl, ?_⟩) hHeld ?_
          rotate_left
          · intro u hSw
            try dsimp only at hSw
            obtain ⟨s1, s2, s3, s4, s5, s6, s7⟩ := hSw
            go_simp
            all_goals (with_reducible rfl)
          try simp only [List.getElem_toArray, List.getElem_cons_succ, List.getElem_cons_zero]
          try simp only [Act.put]
          try simp only [List.setIfInBounds_toArray]
          try simp only [List.set]
          refine wpAnyH_ready (rs := [5]) (by kernel_rfl) (by simp) ?_
          refine AllReadyH.cons rfl (fun K hK => ?_) AllReadyH.nil
          go_simp
          go_at_call 34
          with_reducible refine HSS.out.mono ?_
          rintro ex w7 ⟨rfl, rfl⟩
          refine hK.out _ _ ?_ (fun hHeld => ?_)
          · exact hHeld
          clear hK K
          try simp only [List.getElem_toArray, List.getElem_cons_succ, List.getElem_cons_zero]
          try simp only [Act.put]
          try simp only [List.setIfInBounds_toArray]
          try simp only [List.set]
          refine wpAnyH_take (i := 6) (v := ?_) rfl (by kernel_rfl) (by kernel_rfl) (by kernel_rfl) (fun _ _ _ h => by cases h.1) (Or.inl ⟨by rfl, ?_⟩) hHeld ?_
          rotate_left
          · intro u hSw
            try dsimp only at hSw
            obtain ⟨s1, s2, s3, s4, s5, s6, s7⟩ := hSw
            go_simp
            all_goals (with_reducible rfl)
          try simp only [List.getElem_toArray, List.getElem_cons_succ, List.getElem_cons_zero]
          try simp only [Act.put]
          try simp only [List.setIfInBounds_toArray]
          try simp only [List.set]
          refine wpAnyH_take (i := 7) (v := ?_) rfl (by kernel_rfl) (by kernel_rfl) (by kernel_rfl) (fun _ _ _ h => by cases h.1) (Or.inl ⟨by rfl, ?_⟩) hHeld ?_
          rotate_left
          · intro u hSw
            try dsimp only at hSw
            obtain ⟨s1, s2, s3, s4, s5, s6, s7⟩ := hSw
            go_simp
            all_goals (with_reducible rfl)
          try simp only [List.getElem_toArray, List.getElem_cons_succ, List.getElem_cons_zero]
          try simp only [Act.put]
          try simp only [List.setIfInBounds_toArray]
          try simp only [List.set]
          refine wpAnyH_take (i := 8) (v := ?_) rfl (by kernel_rfl) (by kernel_rfl) (by kernel_rfl) (fun _ _ _ h => by cases h.1) (Or.inl ⟨by rfl, ?_⟩) hHeld ?_
          rotate_left
          · intro u hSw
            try dsimp only at hSw
            obtain ⟨s1, s2, s3, s4, s5, s6, s7⟩ := hSw
            go_simp
            all_goals (with_reducible rfl)
          try simp only [List.getElem_toArray, List.getElem_cons_succ, List.getElem_cons_zero]
          try simp only [Act.put]
          try simp only [List.setIfInBounds_toArray]
          try simp only [List.set]
          refine wpAnyH_ready (rs := [9]) (by kernel_rfl) (by simp) ?_
          refine AllReadyH.cons rfl (fun K hK => ?_) AllReadyH.nil
          go_simp
          go_at_call 54
          with_reducible refine HSET.out.mono ?_
          rintro ex w7 ⟨⟨z3, rfl⟩, hw7⟩
          obtain ⟨hS7, hQ7⟩ := HGO.out w7 hw7
          have HQ7 := Lib.hid hQ7
          clear hw7 hQ7
          refine hK.out _ _ ?_ (fun hHeld => ?_)
          · exact hS7
          clear hK K
          try simp only [List.getElem_toArray, List.getElem_cons_succ, List.getElem_cons_zero]
          try simp only [Act.put]
          try simp only [List.setIfInBounds_toArray]
          try simp only [List.set]
          refine wpAnyH_done (by kernel_rfl) ⟨rfl, hKK _ _ ?_⟩ _
          clear hKK hHeld
          clear HS14 HSS HSET HGO
          gi_wp2
          exact HQ7.out
        · have dr : ((r2 : Int) == 1) = false := by simp; omega
          have dr2 : decide ((r2 : Int) = 1) = false := decide_eq_false (by omega)
          have HF := Lib.hid (HEND.out (by omega))
          clear hnd hb2 HEND HC6 HJ6 e1
          gi_wp2
          exact HF.out
end
end Go.Proofs.YthjjgpepgbfalaaGreatDoor
end
