/- Texts RdI1 to RdI4 of this seat, laid into one. -/
import Derived.Test.YthjjgpepgbfalaaGreatDoorM08
import Derived.Test.YthjjgpepgbfalaaGreatDoorM23
set_option linter.unusedVariables false
set_option linter.unusedSimpArgs false
set_option linter.constructorNameAsVariable false
section
/-! The pairs of a chain, one by one. -/
set_option maxRecDepth 20000
set_option linter.unusedSimpArgs false
set_option linter.unusedVariables false
namespace Go.Proofs.YthjjgpepgbfalaaGreatDoor
open Go.RowKit Go.Shelf
attribute [local go_sem] Oper.semAt_some

theorem nodup_len {K : Type} [DecidableEq K] : ∀ (a b : List K), a.Nodup → (∀ x ∈ a, x ∈ b) → a.length ≤ b.length
  | [], b, _, _ => Nat.zero_le _
  | x :: a, b, hn, hs => by
    obtain ⟨h1, h2⟩ := List.nodup_cons.1 hn
    have hx : x ∈ b := hs x (by simp)
    have h3 := nodup_len a (b.erase x) h2 fun y hy => (List.mem_erase_of_ne (fun e : y = x => h1 (by rw [← e]; exact hy))).2 (hs y (by simp [hy]))
    rw [List.length_erase_of_mem hx] at h3
    have := List.length_pos_of_mem hx
    simp; omega
theorem has_len {L : Pls} {T : List (Int × Int)} (hn : T.Nodup) (h : ∀ v ∈ T, hasP L v = true) : T.length ≤ L.length := by
  have h1 : (T.map fun v => v.2.toNat).Nodup := by
    unfold List.Nodup
    rw [List.pairwise_map]
    refine hn.imp_of_mem fun {a b} ha hb hab e => hab ?_
    obtain ⟨a1, a2, _⟩ := hasP_iff.1 (h a ha)
    obtain ⟨b1, b2, _⟩ := hasP_iff.1 (h b hb)
    exact Prod.ext (by rw [a1, b1]) (by omega)
  have h2 : (T.map fun v => v.2.toNat) ⊆ List.range L.length := fun x hx => by
    obtain ⟨v, hv, rfl⟩ := List.mem_map.1 hx
    obtain ⟨_, _, c, hc⟩ := hasP_iff.1 (h v hv)
    exact List.mem_range.2 (clAt_some hc)
  have := nodup_len _ _ h1 fun x hx => h2 hx
  simpa using this
/-- What is come to by second values. -/
def curM (L : Pls) (v : Int × Int) : Nat → Int × Int
  | 0 => v
  | i + 1 => atV L (curM L v i) 1
/-- Does the chain go on at the i-th? -/
def goesM (L : Pls) (v : Int × Int) (i : Nat) : Prop := isPr L (curM L v i) = true ∧ ∀ j, j < i → curM L v j ≠ curM L v i
/-- What has been seen. -/
def seenM (L : Pls) (v : Int × Int) (i : Nat) : Int × Int → Option Unit := fun x => if ∃ j, j < i ∧ curM L v j = x then some () else none
theorem seenM_succ (L : Pls) (v : Int × Int) (i : Nat) : putG (seenM L v i) (curM L v i) () = seenM L v (i + 1) := by
  funext x
  unfold putG seenM
  by_cases h : x = curM L v i
  · rw [if_pos h, if_pos ⟨i, by omega, h.symm⟩]
  · rw [if_neg h]
    by_cases h2 : ∃ j, j < i ∧ curM L v j = x
    · obtain ⟨j, h3, h4⟩ := h2
      rw [if_pos ⟨j, h3, h4⟩, if_pos ⟨j, by omega, h4⟩]
    · rw [if_neg h2, if_neg (fun ⟨j, h3, h4⟩ => by
        rcases Nat.lt_or_ge j i with h5 | h5
        · exact h2 ⟨j, h5, h4⟩
        · have : j = i := by omega
          exact h (by rw [← h4, this]))]
theorem goes_short {L : Pls} {v : Int × Int} {i : Nat} (h : ∀ j, j < i → goesM L v j) : i ≤ L.length := by
  have h1 : ((List.range i).map (curM L v)).Nodup := by
    unfold List.Nodup
    rw [List.pairwise_map]
    refine (List.pairwise_lt_range (n := i)).imp_of_mem fun {a b} ha hb hab e => ?_
    exact (h b (List.mem_range.1 hb)).2 a hab e
  have := has_len (L := L) h1 fun x hx => by
    obtain ⟨j, hj, rfl⟩ := List.mem_map.1 hx
    have h2 := (h j (List.mem_range.1 hj)).1
    unfold isPr at h2
    rw [Bool.and_eq_true] at h2
    exact h2.1
  simpa using this
theorem valT : MapT (K := Int × Int) (V := Unit) 36 130 115 domV valV (fun _ => .agg #[]) (.agg #[]) :=
  ⟨keyedV, Tryz.underlying130, fun x hx => val_key hx.1 hx.2, fun x y h => valV_inj x y h, fun w => by rw [Tryz.zeroValue115]⟩
/-- What the iterator leans on: the memory, and both boxes. -/
def GoodP (g B1 B2 : Nat) (F : Nat → Prop) (m : Hm) (v : Int × Int) (_i : Nat) (W : World) (Q : Nat → Prop) : Prop :=
  Hep W g F m ∧ Bx2 W B1 (.int .i64 v.1) (.int .i64 v.2) ∧ W.heap[B2]? = some (.cells #[.pointer (some ⟨g, 0, none⟩)] 24 (0, 0))
def ItemP (L : Pls) (v : Int × Int) (i : Nat) (x : (Int × Int) × (Int × Int) × (Int × Int)) : Prop := goesM L v i ∧ x = (curM L v i, atV L (curM L v i) 0, atV L (curM L v i) 1)
def EndP (L : Pls) (v : Int × Int) (i : Nat) : Prop := (∀ j, j < i → goesM L v j) ∧ ¬ goesM L v i
/-- Amid the iterator. -/
structure PrI (J : Nat → World → (Nat → Prop) → Prop) (L : Pls) (v : Int × Int) (B mb b5 : Nat) (wr : World) (i : Nat) (Q : Nat → Prop) : Prop where
  goes : ∀ j, j < i → goesM L v j
  j : J i wr Q
  map : GMap 36 domV valV (fun _ : Unit => Value.agg #[]) wr mb i (seenM L v i)
  box : Bx2 wr b5 (.int .i64 (curM L v i).1) (.int .i64 (curM L v i).2)
  out : ¬ Q mb ∧ ¬ Q b5
  n : B ≤ mb ∧ B ≤ b5
def PrG (J : Nat → World → (Nat → Prop) → Prop) (L : Pls) (v : Int × Int) (B mb b5 : Nat) (wr : World) (r : Nat) : Prop := ∃ i Q, r + i = L.length ∧ PrI J L v B mb b5 wr i Q
set_option maxRecDepth 100000 in
set_option maxHeartbeats 4000000 in
theorem pairs_seq (n : Nat) (hn : 1 ≤ n) (g B1 B2 : Nat) (F : Nat → Prop) (m : Hm) (hh : Here m.L) (hlen : m.L.length ≤ 16384) (v : Int × Int) (hd : ∀ i, domV (curM m.L v i)) :
    SeqF Fence.wide n Tryz.prog 57 #[.pointer (some ⟨B1, 0, none⟩), .pointer (some ⟨B2, 0, none⟩)] (fun x : (Int × Int) × (Int × Int) × (Int × Int) => #[.agg #[.int .i64 x.1.1, .int .i64 x.1.2], .agg #[.int .i64 x.2.1.1, .int .i64 x.2.1.2, .int .i64 x.2.2.1, .int .i64 x.2.2.2]]) (GoodP g B1 B2 F m v) (ItemP m.L v) (EndP m.L v) := by
  intro l B J W Q hJ hIn hB hG hY h0
  have HY := Lib.hid hY
  have HJ := Lib.hid hJ
  have HIN := Lib.hid hIn
  have HG := Lib.hid hG
  have HD := Lib.hid hd
  have HHH := Lib.hid hh
  have HLN := Lib.hid hlen
  obtain ⟨g1, g2, g3⟩ := hG 0 W Q h0
  have g2' := g2.below (alloc_below W (.map #[] 0)) g2.lt
  have x0 := g2'.c0
  have x1 := g2'.c1
  have HG1 := Lib.hid g1
  obtain ⟨W2, hW2⟩ : ∃ W2, (W.alloc (.map #[] 0)).alloc (.cells #[.int .i64 v.1, .int .i64 v.2] 36) = W2 := ⟨_, rfl⟩
  have hb2 : Below W.heap.size W W2 := by rw [← hW2]; exact ((Below.refl _ _).alloc (Nat.le_refl _) _).alloc (by simp) _
  have hP0 : PrG J m.L v B W.heap.size (W.heap.size + 1) W2 m.L.length := by
    refine ⟨0, Q, by omega, fun j hj => by omega, hJ 0 W W2 Q h0 hb2.os hb2.tape hb2.output hb2.size fun k hk _ => hb2.block k hk, ?_, ?_, ⟨fun e => by have := hIn 0 W Q h0 _ e; omega, fun e => by have := hIn 0 W Q h0 _ e; omega⟩, by omega, by omega⟩
    · rw [← hW2]
      have h1 := (GMap.made (k := 36) (dom := domV) (kv := valV) (vv := fun _ : Unit => Value.agg #[]) W).below (alloc_below _ (.cells #[.int .i64 v.1, .int .i64 v.2] 36))
      have e0 : seenM m.L v 0 = fun _ => none := by
        funext x
        unfold seenM
        exact if_neg (fun h => by obtain ⟨j, h, _⟩ := h; omega)
      rw [e0]
      exact h1
    · refine Bx2.of ?_
      rw [← hW2]
      have := heap_alloc_new (W.alloc (.map #[] 0)) (.cells #[.int .i64 v.1, .int .i64 v.2] 36)
      rw [World.size_alloc] at this; exact this
  have HP0 := Lib.hid hP0
  have hmm := @run_makeMap Tryz.prog
  clear hY hJ hIn hG h0 g1 g2 g2' g3 hd hh hb2 hP0 hlen
  refine callsIn_of_wp Tryz.func57 rfl trivial ?_ rfl
  simp only [Tryz.ntmps57, List.size_toArray, List.length_cons, List.length_nil, Nat.reduceAdd, Nat.reduceSub, Array.replicate_succ, Array.replicate_zero, List.push_toArray, List.append_toArray, List.nil_append, List.cons_append]
  gi_wp2
  clear x0 x1 hmm
  have HBM : Hid (B ≤ W.heap.size) := Lib.hid hB
  clear hB hW2 HG1
  generalize W.heap.size = mb at *
  gi_loopw [5] (fun p wr => ∃ r : Nat, Hid (∃ b5, p = .pointer (some ⟨b5, 0, none⟩) ∧ PrG J m.L v B mb b5 wr r)) (fun p wr => leastN (fun r => Hid (∃ b5, p = .pointer (some ⟨b5, 0, none⟩) ∧ PrG J m.L v B mb b5 wr r)))
  case atStart => exact ⟨_, Lib.hid ⟨_, rfl, HP0.out⟩⟩
  case round =>
    have HL := leastN_is hrel
    generalize hG : leastN _ = G at HL
    have HGG := Lib.hid hG
    clear hrel HP0 hG
    obtain ⟨b5, rfl, i, Q1, hr, hp⟩ := HL.out
    have y0 := hp.box.c0
    have y1 := hp.box.c1
    have hbs := alloc_below wr (.cells #[] 115)
    have hlook : (Instr.lookup 130 (.map (some mb)) (.agg #[.int .i64 (curM m.L v i).1, .int .i64 (curM m.L v i).2]) true).run Tryz.prog wr = .ok (.tuple #[(seenM m.L v i (curM m.L v i)).elim (.agg #[]) (fun _ => .agg #[]), .bool (seenM m.L v i (curM m.L v i)).isSome]) wr := hp.map.look valT _ (HD.out i)
    have HJA : Hid (∀ Wn, Below wr.heap.size wr Wn → J i Wn Q1) := Lib.hid fun Wn hb => HJ.out i wr Wn Q1 hp.j hb.os hb.tape hb.output hb.size fun k hk _ => hb.block k hk
    by_cases hs : ∃ j, j < i ∧ curM m.L v j = curM m.L v i
    · have hs2 : seenM m.L v i (curM m.L v i) = some () := if_pos hs
      rw [hs2] at hlook
      have HE : Hid (EndP m.L v i) := Lib.hid ⟨hp.goes, fun h => by obtain ⟨j, h1, h2⟩ := hs; exact h.2 j h1 h2⟩
      have HJ2 := Lib.hid (HJA.out _ hbs)
      simp only [Option.elim, Option.isSome] at hlook
      clear hp hs hs2 hbs HL HGG hr
      generalize curM m.L v i = cu at *
      gi_wp2
      exact bodyPost_ret (results_none Tryz.results57 _ _ _) rfl ⟨⟨_, rfl⟩, i, Q1, HJ2.out, HE.out⟩
    · have hs2 : seenM m.L v i (curM m.L v i) = none := if_neg hs
      rw [hs2] at hlook
      simp only [Option.elim, Option.isSome] at hlook
      have hil : i ≤ 16384 := by have := goes_short hp.goes; have := HLN.out; omega
      obtain ⟨w9, hrun, hg9, ho9⟩ := GMap.store valT (hp.map.below hbs) (by omega) (curM m.L v i) () (HD.out i)
      rw [seenM_succ] at hg9
      have hrun' : (Instr.mapUpdate 130 (.map (some mb)) (.agg #[.int .i64 (curM m.L v i).1, .int .i64 (curM m.L v i).2]) (.agg #[])).run Tryz.prog (wr.alloc (.cells #[] 115)) = .ok () w9 := hrun
      have hne : b5 ≠ mb := fun e => by
        obtain ⟨es, c, hm⟩ := hp.map.isMap
        rw [← e, hp.box.row] at hm; cases hm
      have hb5a := hp.box.below hbs hp.box.lt
      have hb59 : Bx2 w9 b5 (.int .i64 (curM m.L v i).1) (.int .i64 (curM m.L v i).2) := Bx2.of ((ho9.block b5 hb5a.lt hne).trans hb5a.row)
      have HJ9 := Lib.hid (HJ.out i _ w9 Q1 (HJA.out _ hbs) ho9.os ho9.tape ho9.output ho9.size fun k hk hq => ho9.block k hk fun e => by
        subst e
        rcases hq with h | h
        · have := HBM.out; omega
        · exact hp.out.1 h)
      obtain ⟨q1, q2, q3⟩ := HG.out i w9 Q1 HJ9.out
      have z0 := hb59.c0
      have z1 := hb59.c1
      have z2 := cell_of_row _ _ 0 _ _ _ q3
      simp at z2
      have ya := hb5a.c0
      have yb := hb5a.c1
      have HP := Lib.hid (pair_any q1 HHH.out (curM m.L v i).1 (curM m.L v i).2 (HD.out i).2)
      have HPP := Lib.hid hp
      have HG9 := Lib.hid hg9
      have HB9 := Lib.hid hb59
      have HNE := Lib.hid hne
      have HSS := Lib.hid hs
      have HRR := Lib.hid hr
      cases hpr : isPr m.L (curM m.L v i) with
      | false =>
        have HE : Hid (EndP m.L v i) := Lib.hid ⟨hp.goes, fun h => by rw [h.1] at hpr; cases hpr⟩
        have HPF : Hid (Calls Tryz.prog 14 #[.pointer (some ⟨g, 0, none⟩), .agg #[.int .i64 (curM m.L v i).1, .int .i64 (curM m.L v i).2]] w9 fun e w' => e = .returned (.tuple #[.agg #[.int .i64 0, .int .i64 0], .agg #[.int .i64 0, .int .i64 0], .bool false]) ∧ Below w9.heap.size w9 w') := Lib.hid (by
          have h := HP.out
          unfold pairR at h
          rw [show ((curM m.L v i).1, (curM m.L v i).2) = curM m.L v i from rfl, hpr] at h
          exact h)
        have HJB : Hid (∀ Wn, Below w9.heap.size w9 Wn → J i Wn Q1) := Lib.hid fun Wn hb => HJ.out i w9 Wn Q1 HJ9.out hb.os hb.tape hb.output hb.size fun k hk _ => hb.block k hk
        clear hp hs hs2 hbs HL HGG hr hpr HP hrun hb59 hb5a q1 q2 q3 hg9 ho9 hne HJA
        generalize curM m.L v i = cu at *
        gi_wp2_with (refine ⟨trivial, ?_⟩; gi_at_call 14; refine (callsIn_wide.2 HPF.out).mono ?_; rintro e w10 ⟨rfl, hb10⟩)
        refine ⟨fun f hf => (by cases hf), ?_⟩
        gi_wp2
        exact bodyPost_ret (results_none Tryz.results57 _ _ _) rfl ⟨⟨_, rfl⟩, i, Q1, HJB.out _ ((hb10.alloc hb10.size _).alloc (Nat.le_trans hb10.size (by simp)) _), HE.out⟩
      | true =>
        have hgo : goesM m.L v i := ⟨hpr, fun j hj e => hs ⟨j, hj, e⟩⟩
        have HGO : Hid (∀ j, j < i + 1 → goesM m.L v j) := Lib.hid fun j hj => by
          rcases Nat.lt_or_ge j i with h | h
          · exact hp.goes j h
          · have : j = i := by omega
            subst this; exact hgo
        have hsh := goes_short HGO.out
        have HPT : Hid (Calls Tryz.prog 14 #[.pointer (some ⟨g, 0, none⟩), .agg #[.int .i64 (curM m.L v i).1, .int .i64 (curM m.L v i).2]] w9 fun e w' => e = .returned (.tuple #[.agg #[.int .i64 (atV m.L (curM m.L v i) 0).1, .int .i64 (atV m.L (curM m.L v i) 0).2], .agg #[.int .i64 (atV m.L (curM m.L v i) 1).1, .int .i64 (atV m.L (curM m.L v i) 1).2], .bool true]) ∧ Below w9.heap.size w9 w') := Lib.hid (by
          have h := HP.out
          unfold pairR at h
          rw [show ((curM m.L v i).1, (curM m.L v i).2) = curM m.L v i from rfl, hpr] at h
          exact h)
        have HJB : Hid (∀ Wn, Below w9.heap.size w9 Wn → J i Wn Q1) := Lib.hid fun Wn hb => HJ.out i w9 Wn Q1 HJ9.out hb.os hb.tape hb.output hb.size fun k hk _ => hb.block k hk
        have HYY : Hid (∀ Wn, Below w9.heap.size w9 Wn → YieldAt Fence.wide (n - 1) Tryz.prog l #[.agg #[.int .i64 (curM m.L v i).1, .int .i64 (curM m.L v i).2], .agg #[.int .i64 (atV m.L (curM m.L v i) 0).1, .int .i64 (atV m.L (curM m.L v i) 0).2, .int .i64 (atV m.L (curM m.L v i) 1).1, .int .i64 (atV m.L (curM m.L v i) 1).2]] Wn fun e W' => e = .returned (.bool true) ∧ ∃ Q2, J (i + 1) W' Q2 ∧ Chp Q1 Q2 Wn W') := Lib.hid fun Wn hb => HY.out i (curM m.L v i, atV m.L (curM m.L v i) 0, atV m.L (curM m.L v i) 1) Wn Q1 (HJB.out Wn hb) ⟨hgo, rfl⟩
        have HO := Lib.hid hp.out
        have HNN := Lib.hid hp.n
        have HEND : Hid (∀ Wy W3 Q2, Below w9.heap.size w9 Wy → Chp Q1 Q2 Wy W3 → J (i + 1) W3 Q2 → Bx2 W3 b5 (.int .i64 (curM m.L v i).1) (.int .i64 (curM m.L v i).2) ∧
            PrG J m.L v B mb W3.heap.size (((W3.setCell ⟨b5, 0, none⟩ (.int .i64 (atV m.L (curM m.L v i) 1).1)).setCell ⟨b5, 1, none⟩ (.int .i64 (atV m.L (curM m.L v i) 1).2)).alloc (.cells #[.int .i64 (atV m.L (curM m.L v i) 1).1, .int .i64 (atV m.L (curM m.L v i) 1).2] 36)) (m.L.length - (i + 1))) := Lib.hid fun Wy W3 Q2 hby hc hj3 => by
          have k5 := HB9.out.below hby HB9.out.lt
          have km := HG9.out.below hby
          have k5' := Bx2.of ((hc.block b5 k5.lt HO.out.2).trans k5.row)
          have km' := km.same (hc.block mb km.lt HO.out.1)
          have o := two_only W3 b5 (.int .i64 (atV m.L (curM m.L v i) 1).1) (.int .i64 (atV m.L (curM m.L v i) 1).2)
          have n5 : ¬ Q2 b5 := hc.out k5.lt HO.out.2
          have nm : ¬ Q2 mb := hc.out km.lt HO.out.1
          have km2 := km'.same (o.block mb km'.lt (Ne.symm HNE.out))
          have hsz : ((W3.setCell ⟨b5, 0, none⟩ (.int .i64 (atV m.L (curM m.L v i) 1).1)).setCell ⟨b5, 1, none⟩ (.int .i64 (atV m.L (curM m.L v i) 1).2)).heap.size = W3.heap.size := by simp
          have hj4 := HJ.out (i + 1) W3 _ Q2 hj3 o.os o.tape o.output o.size fun k hk hq => o.block k hk fun e => by
            subst e
            rcases hq with h | h
            · have := HNN.out.2; omega
            · exact n5 h
          generalize hw4 : (W3.setCell ⟨b5, 0, none⟩ (.int .i64 (atV m.L (curM m.L v i) 1).1)).setCell ⟨b5, 1, none⟩ (.int .i64 (atV m.L (curM m.L v i) 1).2) = W4 at *
          refine ⟨k5', i + 1, Q2, by omega, HGO.out, HJ.out.alloc hj4 _, km2.below (alloc_below _ _), Bx2.of ?_, ⟨nm, fun e => by have := HIN.out _ _ _ hj3 _ e; omega⟩, HNN.out.1, ?_⟩
          · have := heap_alloc_new W4 (.cells #[.int .i64 (atV m.L (curM m.L v i) 1).1, .int .i64 (atV m.L (curM m.L v i) 1).2] 36)
            rw [hsz] at this
            exact this
          · have h1 := HNN.out.2
            have h2 := k5'.lt
            omega
        have HGL : Hid (m.L.length - (i + 1) < G) := Lib.hid (by have := HRR.out; omega)
        clear hp hs hs2 hbs HL hr hpr HP hrun hb59 hb5a q1 q2 q3 hg9 ho9 hne HJA hgo hsh
        generalize atV m.L (curM m.L v i) 0 = x1 at *
        generalize atV m.L (curM m.L v i) 1 = x2 at *
        generalize curM m.L v i = cu at *
        gi_wp2_with (refine ⟨trivial, ?_⟩; gi_at_call 14; refine (callsIn_wide.2 HPT.out).mono ?_; rintro e w10 ⟨rfl, hb10⟩; have hb11 : Below w9.heap.size w9 ((w10.alloc (.cells #[.int .i64 x1.1, .int .i64 x1.2] 36)).alloc (.cells #[.int .i64 x2.1, .int .i64 x2.2] 36)) := (hb10.alloc hb10.size _).alloc (Nat.le_trans hb10.size (by simp)) _; have z5 := (HB9.out.below hb11 HB9.out.lt).c0; have z6 := (HB9.out.below hb11 HB9.out.lt).c1; obtain ⟨fn, tmps, assign, body, hy, hR⟩ := HYY.out ((w10.alloc (.cells #[.int .i64 x1.1, .int .i64 x1.2] 36)).alloc (.cells #[.int .i64 x2.1, .int .i64 x2.2] 36)) hb11; have HR := Lib.hid hR; clear hR)
        refine HR.out.mono ?_
        rintro e W3 ⟨rfl, Q2, hJ3, hc3⟩
        obtain ⟨k5, kP⟩ := HEND.out _ W3 Q2 hb11 hc3 hJ3
        have hr9 := heap_alloc_new (w10.alloc (.cells #[.int .i64 x1.1, .int .i64 x1.2] 36)) (.cells #[.int .i64 x2.1, .int .i64 x2.2] 36)
        rw [World.size_alloc] at hr9
        have k9 := Bx2.of ((hc3.block (w10.heap.size + 1) (by simp) fun e => by have h1 := HIN.out _ _ _ HJ9.out _ e; have h2 := hb10.size; omega).trans hr9)
        have a0 := k5.c0; have a1 := k5.c1; have a2 := k5.f0; have a3 := k5.f1; have a4 := k9.c0; have a5 := k9.c1
        have KP := Lib.hid kP
        clear hc3 k5 kP k9 hr9 hb11 hb10 hJ3 z5 z6 hy HEND HYY
        gi_wp2
        go_roundw
        case rel => exact ⟨_, Lib.hid ⟨_, rfl, KP.out⟩⟩
        case measure =>
          have h1 := leastN_le (Q := fun r => Hid (∃ bb, (Value.pointer (some ⟨W3.heap.size, 0, none⟩) = .pointer (some ⟨bb, 0, none⟩)) ∧ PrG J m.L v B mb bb (((W3.setCell ⟨b5, 0, none⟩ (.int .i64 x2.1)).setCell ⟨b5, 1, none⟩ (.int .i64 x2.2)).alloc (.cells #[.int .i64 x2.1, .int .i64 x2.2] 36)) r)) (m := m.L.length - (i + 1)) (Lib.hid ⟨_, rfl, KP.out⟩)
          have h2 := HGG.out
          have h3 := HGL.out
          exact Nat.lt_of_le_of_lt h1 (by rw [h2]; exact h3)
end Go.Proofs.YthjjgpepgbfalaaGreatDoor
end
section
/-! Items: the pairs of a chain with their items, told as they were. -/
set_option maxRecDepth 20000
set_option linter.unusedSimpArgs false
set_option linter.unusedVariables false
namespace Go.Proofs.YthjjgpepgbfalaaGreatDoor
open Go.RowKit Go.Shelf
attribute [local go_sem] Oper.semAt_some

theorem pairs_any (K N : Int) (g : Nat) (w : World) : Calls Tryz.prog 38 #[.pointer (some ⟨g, 0, none⟩), .agg #[.int .i64 K, .int .i64 N]] w fun e w' => e = .returned (.func (.func 57) #[] #[.pointer (some ⟨w.heap.size + 1, 0, none⟩), .pointer (some ⟨w.heap.size, 0, none⟩)]) ∧ w' = (w.alloc (.cells #[.pointer (some ⟨g, 0, none⟩)] 24)).alloc (.cells #[.int .i64 K, .int .i64 N] 36) := by
  have hmf : ∀ (fn : Fn) (first cap : Array Value) (w : World), (Instr.makeFunc fn first cap).run Tryz.prog w = .ok (.func fn first cap) w := fun _ _ _ _ => rfl
  go_enter Tryz.func38, Tryz.ntmps38
  go_wp2_with fail
  go_ret
  exact ⟨rfl, rfl⟩
theorem info2V : (Tryz.prog.info? 68).map (fun i => (i.zero, i.size, i.bytes)) = some (some (.agg #[.int .i64 0, .int .i64 0, .int .i64 0, .int .i64 0]), 4, 32) := by kernel_rfl
/-- The first items, as cells. -/
def itC (L : Pls) (v : Int × Int) (n : Nat) : List Value := (List.range n).flatMap fun i => [.int .i64 (curM L v i).1, .int .i64 (curM L v i).2, .int .i64 (atV L (curM L v i) 0).1, .int .i64 (atV L (curM L v i) 0).2]
theorem itC_succ (L : Pls) (v : Int × Int) (n : Nat) : itC L v (n + 1) = itC L v n ++ [.int .i64 (curM L v n).1, .int .i64 (curM L v n).2, .int .i64 (atV L (curM L v n) 0).1, .int .i64 (atV L (curM L v n) 0).2] := by
  unfold itC
  rw [List.range_succ, List.flatMap_append]; simp
/-- Amid Items. -/
structure ItJ (w : World) (g : Nat) (L : Pls) (v : Int × Int) (B5 B1 B2 : Nat) (vs : Value) (i : Nat) (W : World) : Prop where
  goes : ∀ j, j < i → goesM L v j
  b5 : W.heap[B5]? = some (.cells #[vs] 63 (0, 0))
  row : W.ownsRow w.heap.size 68 4 vs i (itC L v i)
  b1 : Bx2 W B1 (.int .i64 v.1) (.int .i64 v.2)
  b2 : W.heap[B2]? = some (.cells #[.pointer (some ⟨g, 0, none⟩)] 24 (0, 0))
  below : Below w.heap.size w W
def itQ (B5 : Nat) (vs : Value) : Nat → Prop := fun k => k = B5 ∨ vs.ownBlock = some k
def ItI (w : World) (g : Nat) (L : Pls) (v : Int × Int) (B5 B1 B2 : Nat) (i : Nat) (W : World) (Q : Nat → Prop) : Prop := ∃ vs, Q = itQ B5 vs ∧ ItJ w g L v B5 B1 B2 vs i W
section
variable {w W W2 : World} {g B : Nat} {L : Pls} {v : Int × Int} {B5 B1 B2 : Nat} {vs : Value} {i : Nat}
theorem ItJ.keep (h : ItJ w g L v B5 B1 B2 vs i W) (hB1 : B1 < B) (hB2 : B2 < B) (hw : w.heap.size ≤ B) (e1 : W2.os = W.os) (e2 : W2.tape = W.tape) (e3 : W2.output = W.output) (e4 : W.heap.size ≤ W2.heap.size) (hk : ∀ k, k < W.heap.size → k < B ∨ itQ B5 vs k → W2.heap[k]? = W.heap[k]?) : ItJ w g L v B5 B1 B2 vs i W2 :=
  ⟨h.goes, (hk _ (lt_of_block h.b5) (.inr (.inl rfl))).trans h.b5, own_other h.row fun k e => hk k (h.row.lt k e).2 (.inr (.inr e)), Bx2.of ((hk _ h.b1.lt (.inl hB1)).trans h.b1.row), (hk _ (lt_of_block h.b2) (.inl hB2)).trans h.b2, ⟨e1.trans h.below.os, e2.trans h.below.tape, e3.trans h.below.output, Nat.le_trans h.below.size e4, fun k hkk => (hk k (Nat.lt_of_lt_of_le hkk h.below.size) (.inl (by omega))).trans (h.below.block k hkk)⟩⟩
theorem ItI.stay (hB1 : B1 < B) (hB2 : B2 < B) (hw : w.heap.size ≤ B) : StayF B (ItI w g L v B5 B1 B2) := by
  rintro i W W' Q ⟨vs, rfl, h⟩ e1 e2 e3 e4 hk
  exact ⟨vs, rfl, h.keep hB1 hB2 hw e1 e2 e3 e4 hk⟩
theorem ItI.inF : InF (ItI w g L v B5 B1 B2) := by
  rintro i W Q ⟨vs, rfl, h⟩ k (rfl | e)
  · exact lt_of_block h.b5
  · exact (h.row.lt k e).2
end
end Go.Proofs.YthjjgpepgbfalaaGreatDoor
end
section
/-! Items. -/
set_option maxRecDepth 20000
set_option linter.unusedSimpArgs false
set_option linter.unusedVariables false
namespace Go.Proofs.YthjjgpepgbfalaaGreatDoor
open Go.RowKit Go.Shelf
attribute [local go_sem] Oper.semAt_some

/-- An append in a round: the new row lies where the old one did, or is new. -/
theorem wpListIn_append_lies {F : Fence} {n : Nat} {P : Program} (w : World) {ops : Array Oper} {rest : List Oper} {o : Oper} {a : Act} {Q : Exit → Act → World → Prop}
    (hg : o.guard = none) (s x : Operand) (t : TypeId) (hop : o.op = Op.call { callee := Callee.builtin Builtin.append, args := #[s, x], argTypes := #[t, t] })
    (base : Nat) (e : TypeId) (i : TypeInfo) (z : Value) (size bytes : Nat) (h1 : P.underlying t = some (.slice e)) (h2 : P.info? e = some i) (h3 : i.zero = some z) (h4 : i.size = size) (h5 : i.bytes = bytes) (h6 : z.cells.size = size) (h7 : 0 < size)
    (v : Value) (k : Nat) (xs : List Value) (hs : a.eval s = v) (hown : w.ownsRow base e size v k xs) (ad : Addr) (m c : Nat) (news : List Value) (hx : a.eval x = .slice (some ad) m c) (hn : news.length = m * size)
    (hc : ∀ j u, news[j]? = some u → w.cell? (ad.add j) = some u) (h1c : ∀ u ∈ news, u.oneCell' = true) (hm : 0 < m) (b1 : k + m ≤ maxLen) (b2 : (k + m) * bytes ≤ 140737488355328) (b3 : base ≤ w.heap.size) (H : Nat) (hH : w.heap.size = H)
    (hK : ∀ g cap w', w'.ownsRow base e size (.slice (some ⟨g, 0, none⟩) (k + m) cap) (k + m) (xs ++ news) → w.grownBy w' v.ownBlock → (v.ownBlock = some g ∨ g = H) → g < w'.heap.size → wpListIn F n P ops Q rest (a.put o.dst (.slice (some ⟨g, 0, none⟩) (k + m) cap)) w') :
    wpListIn F n P ops Q (o :: rest) a w := by
  refine wpListIn_plain hg fun K hK' => ?_
  obtain ⟨g, cap, w', hrun, r1, r2, r3, r4⟩ := run_append_lies (P := P) w t o.type base e i z size bytes h1 h2 h3 h4 h5 h6 h7 v k xs hown ad m c news hn hc h1c hm b1 b2 b3 H hH
  unfold Oper.wpIn
  refine ⟨?_, ?_⟩
  · simp [Oper.about, hop, resolve, Target.leads, Sem.run_pure]
  · rw [Oper.semAt_plain F _ _ (by rw [hop]; intro c hc'; cases hc')]
    simp [execOp, hop, resolve, invoke, builtin, hs, hx, hrun, Result.andThen]
    exact hK' _ _ (hK g cap w' r1 r2 r3 r4)
/-- One item more. -/
theorem ItJ.more {w W w2 : World} {g : Nat} {L : Pls} {v : Int × Int} {B5 B1 B2 B6 B7 : Nat} {vs : Value} {i : Nat} (h : ItJ w g L v B5 B1 B2 vs i W) (hgo : goesM L v i) (hn : B5 ≠ B1 ∧ B5 ≠ B2) (hw : w.heap.size ≤ B5) {nb : Obj} {gn cap : Nat}
    (ho : w2.ownsRow w.heap.size 68 4 (.slice (some ⟨gn, 0, none⟩) (i + 1) cap) (i + 1) (itC L v (i + 1))) (hg : (W.alloc nb).grownBy w2 vs.ownBlock) (hat : vs.ownBlock = some gn ∨ gn = W.heap.size + 1) (h6 : w.heap.size ≤ B6) (h7 : w.heap.size ≤ B7) :
    (w2.cell? ⟨B5, 0, none⟩ = some vs ∧ w2.frozen? ⟨B5, 0, none⟩ = false) ∧ ∃ Q2, ItI w g L v B5 B1 B2 (i + 1) (w2.setCell ⟨B5, 0, none⟩ (.slice (some ⟨gn, 0, none⟩) (i + 1) cap)) Q2 ∧ Chp (fun k => itQ B5 vs k ∨ k = B6 ∨ k = B7) Q2 W (w2.setCell ⟨B5, 0, none⟩ (.slice (some ⟨gn, 0, none⟩) (i + 1) cap)) := by
  have hb := alloc_below W nb
  have n5 : vs.ownBlock ≠ some B5 := fun e => by
    obtain ⟨cur, hc⟩ := own_head h.row e
    exact ne_of_ty h.b5 hc (by decide) rfl
  have hk : ∀ k, k < W.heap.size → vs.ownBlock ≠ some k → w2.heap[k]? = W.heap[k]? := fun k hk hne => (hg.block k (Nat.lt_of_lt_of_le hk hb.size) (fun e => hne e.symm)).trans (hb.block k hk)
  have r5 := (hk B5 (lt_of_block h.b5) n5).trans h.b5
  have ngn : gn ≠ B5 := fun e => by
    obtain ⟨cur, hc⟩ := own_head ho (by rfl : (Value.slice (some ⟨gn, 0, none⟩) (i + 1) cap).ownBlock = some gn)
    rw [e] at hc
    exact ne_of_ty r5 hc (by decide) rfl
  have o := Only.setCell B5 0 (.slice (some ⟨gn, 0, none⟩) (i + 1) cap) w2
  have nr : ∀ k, vs.ownBlock = some k → w.heap.size ≤ k := fun k e => (h.row.lt k e).1
  have nv1 : ∀ k cs ty, W.heap[k]? = some (.cells cs ty (0, 0)) → ty ≠ 68 → vs.ownBlock ≠ some k := fun k cs ty hh hty e => by
    obtain ⟨cur, hc⟩ := own_head h.row e
    exact ne_of_ty hh hc hty rfl
  have hbw : Below w.heap.size w w2 := ⟨hg.os.trans (hb.os.trans h.below.os), hg.tape.trans (hb.tape.trans h.below.tape), hg.output.trans (hb.output.trans h.below.output), Nat.le_trans h.below.size (Nat.le_trans hb.size hg.size), fun k hkk => (hk k (Nat.lt_of_lt_of_le hkk h.below.size) (fun e => by have := nr k e; omega)).trans (h.below.block k hkk)⟩
  refine ⟨⟨cell_of_row _ _ 0 _ _ _ r5, frozen_of_row _ _ 0 _ _ r5⟩, itQ B5 (.slice (some ⟨gn, 0, none⟩) (i + 1) cap), ⟨_, rfl, ⟨fun j hj => ?_, heap_setCell_same _ _ 0 _ _ _ r5, own_other ho fun k e => ?_, Bx2.of ?_, ?_, ?_⟩⟩, ⟨o.os.trans (hg.os.trans hb.os), o.tape.trans (hg.tape.trans hb.tape), o.output.trans (hg.output.trans hb.output), Nat.le_trans hb.size (Nat.le_trans hg.size o.size), fun k hkk hf => ?_, fun k hkk => ?_⟩⟩
  · rcases Nat.lt_or_ge j i with h1 | h1
    · exact h.goes j h1
    · have : j = i := by omega
      subst this; exact hgo
  · have : k = gn := by simpa [Value.ownBlock] using e.symm
    subst this
    exact heap_setCell_other _ _ _ _ ngn
  · exact (heap_setCell_other _ _ _ _ (Ne.symm hn.1)).trans ((hk _ h.b1.lt (nv1 _ _ _ h.b1.row (by decide))).trans h.b1.row)
  · exact (heap_setCell_other _ _ _ _ (Ne.symm hn.2)).trans ((hk _ (lt_of_block h.b2) (nv1 _ _ _ h.b2 (by decide))).trans h.b2)
  · exact ⟨o.os.trans hbw.os, o.tape.trans hbw.tape, o.output.trans hbw.output, Nat.le_trans hbw.size o.size, fun k hkk => (heap_setCell_other _ _ _ _ (fun e => by have e2 : k = B5 := e; omega)).trans (hbw.block k hkk)⟩
  · have e1 : k ≠ B5 := fun e => hf (.inl (.inl e))
    exact (heap_setCell_other _ _ _ _ e1).trans (hk k hkk fun e => hf (.inl (.inr e)))
  · rcases hkk with rfl | e
    · exact .inl (.inl (.inl rfl))
    · have : k = gn := by simpa [Value.ownBlock] using e.symm
      subst this
      rcases hat with h1 | h1
      · exact .inl (.inl (.inr h1))
      · exact .inr (by omega)
/-- What Items tells. -/
def ItR (w w' : World) (L : Pls) (v : Int × Int) (e : Ending) : Prop := ∃ n B5 vs, e = .returned (.func (.func 85) #[] #[.pointer (some ⟨B5, 0, none⟩)]) ∧ EndP L v n ∧ w'.heap[B5]? = some (.cells #[vs] 63 (0, 0)) ∧ w'.ownsRow w.heap.size 68 4 vs n (itC L v n) ∧ Below w.heap.size w w' ∧ w.heap.size ≤ B5
set_option maxRecDepth 100000 in
set_option maxHeartbeats 4000000 in
theorem items_any {w : World} {g : Nat} {F : Nat → Prop} {m : Hm} (h : Hep w g F m) (hh : Here m.L) (v : Int × Int) (hd : ∀ i, domV (curM m.L v i)) :
    Calls Tryz.prog 55 #[.pointer (some ⟨g, 0, none⟩), .agg #[.int .i64 v.1, .int .i64 v.2]] w fun e w' => ItR w w' m.L v e := by
  have HH := Lib.hid h
  have HHH := Lib.hid hh
  have HD := Lib.hid hd
  have HLN : Hid (m.L.length ≤ 16384) := Lib.hid (Nat.le_trans h.ok.len h.ok.l1)
  have hmf : ∀ (fn : Fn) (first cap : Array Value) (w : World), (Instr.makeFunc fn first cap).run Tryz.prog w = .ok (.func fn first cap) w := fun _ _ _ _ => rfl
  clear h hh hd
  refine (callsIn_wide (n := 5)).1 ?_
  refine callsIn_of_wp_marks Tryz.func55 rfl trivial ?_ rfl
  simp only [Tryz.ntmps55, List.size_toArray, List.length_cons, List.length_nil, Nat.reduceAdd, Nat.reduceSub, Array.replicate_succ, Array.replicate_zero, List.push_toArray, List.append_toArray, List.nil_append, List.cons_append]
  gi_wp2_with (refine ⟨trivial, ?_⟩; gi_at_call 38; refine (callsIn_wide.2 (pairs_any v.1 v.2 g _)).mono ?_; rintro e w2 ⟨rfl, rfl⟩)
  obtain ⟨w7, hw7⟩ : ∃ w7, (((w.alloc (.cells #[.int .i64 v.1, .int .i64 v.2] 36)).alloc (.cells #[.slice none 0 0] 63)).alloc (.cells #[.pointer (some ⟨g, 0, none⟩)] 24)).alloc (.cells #[.int .i64 v.1, .int .i64 v.2] 36) = w7 := ⟨_, rfl⟩
  have hz3 : ((w.alloc (.cells #[.int .i64 v.1, .int .i64 v.2] 36)).alloc (.cells #[.slice none 0 0] 63)).heap.size = w.heap.size + 2 := by simp
  have h123 := alloc3 (w.alloc (.cells #[.int .i64 v.1, .int .i64 v.2] 36)) (.cells #[.slice none 0 0] 63) (.cells #[.pointer (some ⟨g, 0, none⟩)] 24) (.cells #[.int .i64 v.1, .int .i64 v.2] 36)
  rw [World.size_alloc, hw7] at h123
  have hb7 : Below w.heap.size w w7 := by rw [← hw7]; exact ((((Below.refl _ _).alloc (Nat.le_refl _) _).alloc (by simp) _).alloc (by simp; omega) _).alloc (by simp; omega) _
  have hs7 : w7.heap.size = w.heap.size + 4 := by rw [← hw7]; simp
  rw [hw7]
  have hJ : ItJ w g m.L v (w.heap.size + 1) (w.heap.size + 3) (w.heap.size + 2) (.slice none 0 0) 0 w7 := ⟨fun j hj => by omega, h123.1, World.ownsRow_nil _ _ _ _, Bx2.of h123.2.2, h123.2.1, hb7⟩
  have HJ := Lib.hid hJ
  have HST : Hid (StayF w7.heap.size (ItI w g m.L v (w.heap.size + 1) (w.heap.size + 3) (w.heap.size + 2))) := Lib.hid (ItI.stay (by omega) (by omega) (by omega))
  have HSZ := Lib.hid hs7
  clear hJ h123 hb7 hs7 hz3 hw7
  refine wpIn_rangeF rfl (by omega) (gf := 57) (lb := #[.pointer (some ⟨w.heap.size + 3, 0, none⟩), .pointer (some ⟨w.heap.size + 2, 0, none⟩)]) rfl trivial (enters_of Tryz.func57 (by kernel_rfl) rfl) (pairs_seq 4 (by omega) g (w.heap.size + 3) (w.heap.size + 2) F m HHH.out HLN.out v HD.out) (fun _ => rfl)
    (ItI w g m.L v (w.heap.size + 1) (w.heap.size + 3) (w.heap.size + 2)) HST.out ItI.inF ?good (itQ (w.heap.size + 1) (.slice none 0 0)) ⟨_, rfl, HJ.out⟩
    (fun i x a' W Q => ∃ B6 B7 vs, a' = { tmps := #[.pointer (some ⟨g, 0, none⟩), .agg #[.int .i64 v.1, .int .i64 v.2], undef, .pointer (some ⟨w.heap.size, 0, none⟩), .nilFunc, .pointer (some ⟨w.heap.size + 1, 0, none⟩), .pointer (some ⟨B6, 0, none⟩), .pointer (some ⟨B7, 0, none⟩), .pointer (some ⟨g, 0, none⟩), .agg #[.int .i64 v.1, .int .i64 v.2], .func (.func 57) #[] #[.pointer (some ⟨w.heap.size + 1 + 1 + 1, 0, none⟩), .pointer (some ⟨w.heap.size + 1 + 1, 0, none⟩)], .agg #[.int .i64 x.1.1, .int .i64 x.1.2], .agg #[.int .i64 x.2.1.1, .int .i64 x.2.1.2, .int .i64 x.2.2.1, .int .i64 x.2.2.2], undef, undef, undef, undef, undef, undef, undef, undef], defers := [] } ∧ Q = (fun k => itQ (w.heap.size + 1) vs k ∨ k = B6 ∨ k = B7) ∧ Bx2 W B6 (.int .i64 x.1.1) (.int .i64 x.1.2) ∧ W.heap[B7]? = some (.cells #[.int .i64 x.2.1.1, .int .i64 x.2.1.2, .int .i64 x.2.2.1, .int .i64 x.2.2.2] 68 (0, 0)) ∧ w.heap.size ≤ B6 ∧ w.heap.size ≤ B7 ∧ ItemP m.L v i x ∧ ItJ w g m.L v (w.heap.size + 1) (w.heap.size + 3) (w.heap.size + 2) vs i W)
    ?ax ?assign ?body ?done
  case good =>
    rintro i W Q1 a b ⟨vs, rfl, h⟩
    exact ⟨HH.out.below h.below, h.b1, h.b2⟩
  case ax =>
    rintro i x a' u W W' Q ⟨B6, B7, vs, h1, rfl, h6, h7, n6, n7, hx, h⟩ e1 e2 e3 e4 hk
    refine ⟨B6, B7, vs, h1, rfl, Bx2.of ((hk _ h6.lt (.inr (.inr (.inl rfl)))).trans h6.row), (hk _ (lt_of_block h7) (.inr (.inr (.inr rfl)))).trans h7, n6, n7, hx, ?_⟩
    have hs := HSZ.out
    exact h.keep (B := w7.heap.size) (by omega) (by omega) (by omega) e1 e2 e3 e4 fun k hkk hq => hk k hkk (hq.imp id .inl)
  case assign =>
    rintro l i ⟨⟨a1, a2⟩, ⟨b1, b2⟩, c1, c2⟩ W Q K ⟨vs, rfl, h⟩ hx hKK
    have HKK := Lib.hid hKK
    have HX := Lib.hid hx
    have HI := Lib.hid h
    have hb : Below W.heap.size W ((W.alloc (.cells #[.int .i64 a1, .int .i64 a2] 36)).alloc (.cells #[.int .i64 b1, .int .i64 b2, .int .i64 c1, .int .i64 c2] 68)) := ((Below.refl _ _).alloc (Nat.le_refl _) _).alloc (by simp) _
    have r6 := (Below.heap_alloc (W.alloc (.cells #[.int .i64 a1, .int .i64 a2] 36)) (.cells #[.int .i64 b1, .int .i64 b2, .int .i64 c1, .int .i64 c2] 68) W.heap.size (by simp)).trans (heap_alloc_new W (.cells #[.int .i64 a1, .int .i64 a2] 36))
    have r7 := heap_alloc_new (W.alloc (.cells #[.int .i64 a1, .int .i64 a2] 36)) (.cells #[.int .i64 b1, .int .i64 b2, .int .i64 c1, .int .i64 c2] 68)
    rw [World.size_alloc] at r7
    have HB := Lib.hid hb
    have R6 := Lib.hid r6
    have R7 := Lib.hid r7
    clear h hx hKK hb r6 r7
    gi_wp2
    have hs := HI.out.below.size
    exact HKK.out _ _ (fun k => itQ (w.heap.size + 1) vs k ∨ k = W.heap.size ∨ k = W.heap.size + 1) ⟨HB.out.os, HB.out.tape, HB.out.output, HB.out.size, fun k hk _ => HB.out.block k hk, fun k hk => hk.elim .inl fun e => .inr (by omega)⟩
      ⟨W.heap.size, W.heap.size + 1, vs, rfl, rfl, Bx2.of R6.out, R7.out, by omega, by omega, HX.out, HI.out.keep (B := W.heap.size) (by have := lt_of_block HI.out.b1.row; omega) (by have := lt_of_block HI.out.b2; omega) (by omega) HB.out.os HB.out.tape HB.out.output HB.out.size fun k hk _ => HB.out.block k hk⟩
  case body =>
    rintro l i ⟨⟨a1, a2⟩, ⟨b1, b2⟩, c1, c2⟩ a' W Q hl ⟨B6, B7, vs, rfl, rfl, h6, h7, n6, n7, hx, h⟩
    obtain ⟨hgo, hx⟩ := hx
    have hz : (a1, a2) = curM m.L v i ∧ (b1, b2) = atV m.L (curM m.L v i) 0 := ⟨(Prod.mk.inj hx).1, (Prod.mk.inj (Prod.mk.inj hx).2).1⟩
    have hil : i ≤ 16384 := by have := goes_short h.goes; have := HLN.out; omega
    obtain ⟨i0, hi0, hz0, hz1, hz2⟩ := info_parts info2V
    have HI0 := Lib.hid hi0
    have HZ0 := Lib.hid hz0
    have HZ1 := Lib.hid hz1
    have HZ2 := Lib.hid hz2
    have y5 := cell_of_row _ _ 0 _ _ _ h.b5
    have y60 := h6.c0
    have y61 := h6.c1
    have y70 := cell_of_row _ _ 0 _ _ _ h7
    have y71 := cell_of_row _ _ 1 _ _ _ h7
    simp at y5 y70 y71
    have hro := own_below h.row (alloc_below W (.cells #[.int .i64 a1, .int .i64 a2, .int .i64 b1, .int .i64 b2] 68))
    obtain ⟨q, cp, e⟩ := own_form h.row
    have HIT : Hid (itC m.L v (i + 1) = itC m.L v i ++ [.int .i64 a1, .int .i64 a2, .int .i64 b1, .int .i64 b2]) := Lib.hid (by rw [itC_succ, ← hz.2, ← hz.1])
    have HM := Lib.hid (fun w2 gn cap p1 p2 p3 => @ItJ.more w W w2 g m.L v (w.heap.size + 1) (w.heap.size + 3) (w.heap.size + 2) B6 B7 vs i h hgo (by omega) (by omega) (.cells #[.int .i64 a1, .int .i64 a2, .int .i64 b1, .int .i64 b2] 68) gn cap p1 p2 p3 n6 n7)
    have HN6 := Lib.hid n6
    have HN7 := Lib.hid n7
    have HWS := Lib.hid h.below.size
    have HIL := Lib.hid hil
    subst e
    have HRO := Lib.hid hro
    clear h hgo hx hz hi0 hz0 hz1 hz2 h6 h7 hro n6 n7 hil
    gi_wp2_with (gi_at_builtin; refine wpListIn_append_lies _ rfl _ _ 63 rfl w.heap.size 68 i0 (.agg #[.int .i64 0, .int .i64 0, .int .i64 0, .int .i64 0]) 4 32 Tryz.underlying63 HI0.out HZ0.out HZ1.out HZ2.out rfl (by decide) (.slice q i cp) i (itC m.L v i) rfl HRO.out ⟨W.heap.size, 0, none⟩ 1 1 [.int .i64 a1, .int .i64 a2, .int .i64 b1, .int .i64 b2] rfl rfl (World.news_of_block (heap_alloc_new _ _)) (by simp [Value.oneCell']) (by decide) (by have := HIL.out; unfold maxLen; omega) (by have := HIL.out; omega) (by have := HWS.out; simp; omega) (W.heap.size + 1) (by simp) ?_; intro gn cap w2 hown hgrow hat hlt; obtain ⟨⟨k1, k2⟩, k3⟩ := HM.out w2 gn cap (by rw [HIT.out]; exact hown) hgrow hat; have K3 := Lib.hid k3; clear k3 hown hgrow hat hlt)
    exact K3.out
  case done =>
    rintro D i W Q hD ⟨vs, rfl, h⟩ hnD hend hDD
    have HDD := Lib.hid hDD
    obtain ⟨vs2, -, h2⟩ := HST.out.putObj ⟨vs, rfl, h⟩ (.deferred none) hD hnD
    have HFIN : Hid (ItR w (W.putObj D (.deferred none)) m.L v (.returned (.func (.func 85) #[] #[.pointer (some ⟨w.heap.size + 1, 0, none⟩)]))) := Lib.hid ⟨i, _, vs2, rfl, hend, h2.b5, h2.row, h2.below, by omega⟩
    clear h h2 hnD hend hDD
    gi_wp2
    refine ⟨by simp, .inl ⟨_, _, rfl, run_takeDeferred HDD.out, ?_⟩⟩
    refine ⟨.func (.func 85) #[] #[.pointer (some ⟨w.heap.size + 1, 0, none⟩)], ?_, HFIN.out⟩
    simp [results, Tryz.f55, go_sem]
end Go.Proofs.YthjjgpepgbfalaaGreatDoor
end
section
/-! The loop over what Items told. -/
set_option maxRecDepth 20000
set_option linter.unusedSimpArgs false
set_option linter.unusedVariables false
namespace Go.Proofs.YthjjgpepgbfalaaGreatDoor
open Go.RowKit Go.Shelf
attribute [local go_sem] Oper.semAt_some

theorem itC_len (L : Pls) (v : Int × Int) (n : Nat) : (itC L v n).length = n * 4 := by
  induction n with
  | zero => rfl
  | succ n ih => rw [itC_succ, List.length_append, ih]; simp; omega
theorem itC_get (L : Pls) (v : Int × Int) (n k : Nat) (h : k < n) :
    (itC L v n)[k * 4]? = some (.int .i64 (curM L v k).1) ∧ (itC L v n)[k * 4 + 1]? = some (.int .i64 (curM L v k).2) ∧ (itC L v n)[k * 4 + 2]? = some (.int .i64 (atV L (curM L v k) 0).1) ∧ (itC L v n)[k * 4 + 3]? = some (.int .i64 (atV L (curM L v k) 0).2) := by
  induction n with
  | zero => omega
  | succ n ih =>
    rw [itC_succ]
    have hl := itC_len L v n
    rcases Nat.lt_or_ge k n with h1 | h1
    · obtain ⟨a, b, c, d⟩ := ih h1
      refine ⟨?_, ?_, ?_, ?_⟩ <;> rw [List.getElem?_append_left (by omega)] <;> assumption
    · have : k = n := by omega
      subst this
      refine ⟨?_, ?_, ?_, ?_⟩ <;> rw [List.getElem?_append_right (by omega)] <;> rw [hl] <;> simp
/-- What the loop leans on. -/
def GoodI (B5 base n : Nat) (vs : Value) (L : Pls) (v : Int × Int) (_i : Nat) (W : World) (_Q : Nat → Prop) : Prop :=
  W.heap[B5]? = some (.cells #[vs] 63 (0, 0)) ∧ W.ownsRow base 68 4 vs n (itC L v n)
def ItemI (L : Pls) (v : Int × Int) (n i : Nat) (x : (Int × Int) × (Int × Int)) : Prop := i < n ∧ x = (curM L v i, atV L (curM L v i) 0)
set_option maxRecDepth 100000 in
set_option maxHeartbeats 4000000 in
theorem items_seq (nn : Nat) (hnn : 1 ≤ nn) (B5 base n : Nat) (hn : n ≤ 100000) (vs : Value) (L : Pls) (v : Int × Int) :
    SeqF Fence.wide nn Tryz.prog 85 #[.pointer (some ⟨B5, 0, none⟩)] (fun x : (Int × Int) × (Int × Int) => #[.agg #[.int .i64 x.1.1, .int .i64 x.1.2], .agg #[.int .i64 x.2.1, .int .i64 x.2.2]]) (GoodI B5 base n vs L v) (ItemI L v n) (fun i => i = n) := by
  intro l B J W Q hJ hIn hB hG hY h0
  have HY := Lib.hid hY
  have HJ := Lib.hid hJ
  have HG := Lib.hid hG
  obtain ⟨g1, g2⟩ := hG 0 W Q h0
  have y5 := cell_of_row _ _ 0 _ _ _ g1
  simp at y5
  obtain ⟨q, cp, e⟩ := own_form g2
  have HE := Lib.hid e
  rw [e] at y5
  have H0 : Hid (J 0 W Q) := Lib.hid h0
  have hnI : (n : Int) ≤ 100000 := by omega
  clear hY hJ hIn hB hG h0 g1 g2 e
  refine callsIn_of_wp Tryz.func85 rfl trivial ?_ rfl
  simp only [Tryz.ntmps85, List.size_toArray, List.length_cons, List.length_nil, Nat.reduceAdd, Nat.reduceSub, Array.replicate_succ, Array.replicate_zero, List.push_toArray, List.append_toArray, List.nil_append, List.cons_append]
  gi_wp2
  clear y5
  gi_loopw [7] (fun iv wr => ∃ k : Nat, k ≤ n ∧ iv = .int .i64 (k : Int) ∧ Hid (∃ Q1, J k wr Q1)) (fun iv _ => n - (RowKit.intOf iv).toNat)
  case atStart => exact ⟨0, by omega, by go_num, Lib.hid ⟨_, H0.out⟩⟩
  case round =>
    obtain ⟨k, hk, rfl, HK⟩ := hrel
    clear H0
    obtain ⟨Q1, hj⟩ := HK.out
    by_cases hlt : k < n
    · have d1 : decide ((k : Int) < (n : Int)) = true := decide_eq_true (by omega)
      have d2 : decide (k < n) = true := decide_eq_true hlt
      have hkI : (k : Int) < (n : Int) := by omega
      obtain ⟨g1, g2⟩ := HG.out k wr Q1 hj
      obtain ⟨b, c2, e2⟩ := own_some g2 (by omega)
      rw [HE.out] at e2 g2
      cases e2
      obtain ⟨f0, f1, f2, f3⟩ := itC_get L v n k hlt
      have x0 := (g2.cellAt (k * 4) (by omega)).trans f0
      have x1 := (g2.cellAt (k * 4 + 1) (by omega)).trans f1
      have x2 := (g2.cellAt (k * 4 + 2) (by omega)).trans f2
      have x3 := (g2.cellAt (k * 4 + 3) (by omega)).trans f3
      have HYY : Hid (YieldAt Fence.wide (nn - 1) Tryz.prog l #[.agg #[.int .i64 (curM L v k).1, .int .i64 (curM L v k).2], .agg #[.int .i64 (atV L (curM L v k) 0).1, .int .i64 (atV L (curM L v k) 0).2]] (wr.alloc (.cells #[.int .i64 (curM L v k).1, .int .i64 (curM L v k).2, .int .i64 (atV L (curM L v k) 0).1, .int .i64 (atV L (curM L v k) 0).2] 68)) fun e W' => e = .returned (.bool true) ∧ ∃ Q2, J (k + 1) W' Q2 ∧ Chp Q1 Q2 (wr.alloc (.cells #[.int .i64 (curM L v k).1, .int .i64 (curM L v k).2, .int .i64 (atV L (curM L v k) 0).1, .int .i64 (atV L (curM L v k) 0).2] 68)) W') := Lib.hid (HY.out k (curM L v k, atV L (curM L v k) 0) _ Q1 (HJ.out.alloc hj _) ⟨hlt, rfl⟩)
      have HLT := Lib.hid hlt
      clear g1 g2 f0 f1 f2 f3 hj hlt HK
      generalize curM L v k = cu at *
      generalize atV L cu 0 = ff at *
      obtain ⟨fn, tmps, assign, body, hy, hR⟩ := HYY.out
      have HR := Lib.hid hR
      clear hR HYY
      gi_wp2
      refine HR.out.mono ?_
      rintro e W3 ⟨rfl, Q2, hJ3, -⟩
      have HJ3 : Hid (∃ Q2, J (k + 1) W3 Q2) := Lib.hid ⟨_, hJ3⟩
      clear hJ3
      gi_wp2
      go_roundw
      case rel => exact ⟨k + 1, by have := HLT.out; omega, by go_num, HJ3⟩
      case measure => simp [RowKit.intOf]; omega
    · obtain rfl : k = n := by omega
      have d1 : decide ((k : Int) < (k : Int)) = false := decide_eq_false (by omega)
      have d2 : decide (k < k) = false := decide_eq_false (by omega)
      have HK2 := Lib.hid hj
      clear hj
      gi_wp2
      go_end0
      exact ⟨⟨_, rfl⟩, k, Q1, HK2.out, rfl⟩
end Go.Proofs.YthjjgpepgbfalaaGreatDoor
end
