/- Tokens, joined. -/
import Derived.Test.YtjpbbooeihdnfaaDoorLU4
import Derived.Test.YtjpbbooeihdnfaaDoorLT3
import Derived.Test.YtjpbbooeihdnfaaDoorLW1
set_option maxRecDepth 20000
set_option linter.unusedSimpArgs false
set_option linter.unusedVariables false
namespace Go.Proofs.YtjpbbooeihdnfaaDoor
open Go.RowKit

/-- Behind the check the builder is a used one, and no other block has changed. -/
theorem check2 (B b : Nat) (bs : List Value) (w : World) (h : Lib.IsBuilder 40 5 B b bs w) :
    Calls Tryd.prog 23 #[.pointer (some ⟨b, 0, none⟩)] w fun e w' => e = .returned (.tuple #[]) ∧ (Lib.BuilderAt 40 5 B b (.pointer (some ⟨b, 0, none⟩)) bs w' ∧ Below B w w') ∧ ∀ j, j ≠ b → w'.heap[j]? = w.heap[j]? := by
  rcases h with h | h
  · refine (check_fresh b w h.cell0 h.shape h.frozen0).mono ?_
    rintro e w' ⟨rfl, rfl⟩
    exact ⟨rfl, ⟨h.used _, (Below.refl B w).setCell (p := ⟨b, 0, none⟩) h.1 _⟩, fun j hj => heap_setCell_other _ _ _ _ hj⟩
  · refine (check_used b w h.cell0).mono ?_
    rintro e w' ⟨rfl, rfl⟩
    exact ⟨rfl, ⟨h, Below.refl B _⟩, fun j _ => rfl⟩
set_option maxHeartbeats 2000000 in
theorem wbyte2 {w : World} {B b j : Nat} {cs : Array Value} {l : List UInt8} (h : Bd w B b l) (hj : w.heap[j]? = some (.cells cs 30 (0, 0))) (c : UInt8) (hlen : l.length + 1 ≤ 140737488355328) (hBw : B ≤ w.heap.size) :
    Calls Tryd.prog 10 #[.pointer (some ⟨b, 0, none⟩), .int .u8 (c.toNat : Int)] w fun e w' => e = .returned .nilIface ∧ Bd w' B b (l ++ [c]) ∧ Below B w w' ∧ w'.heap[j]? = some (.cells cs 30 (0, 0)) := by
  obtain ⟨i0, hi, hz0, hz1, hz2⟩ := info_parts infoByte
  have hbs : (Lib.byteCells l).length = l.length := by simp [Lib.byteCells]
  go_enter Tryd.func10, Tryd.ntmps10
  go_wp2_with (go_at_call 23; refine (check2 B b _ _ h).mono ?_)
  rintro e w1 ⟨rfl, ⟨h1, hb1⟩, hsm⟩
  obtain ⟨hB, v, hbk, hown, hne⟩ := h1
  have hjb : j ≠ b := fun e => by
    subst e
    rcases h with ⟨_, v0, hb0, _⟩ | ⟨_, v0, hb0, _⟩ <;> rw [hj] at hb0 <;> injection hb0 with hb0 <;> injection hb0 with _ hb0 _ <;> exact absurd hb0 (by decide)
  have hj1 : w1.heap[j]? = some (.cells cs 30 (0, 0)) := (hsm j hjb).trans hj
  have hjlt : j < w1.heap.size := by
    rcases Nat.lt_or_ge j w1.heap.size with h' | h'
    · exact h'
    · simp [Array.getElem?_eq_none h'] at hj1
  have hjo : v.ownBlock ≠ some j := Lib.ownBlock_ne hown hj1 (by decide)
  have HJ := Lib.hid hj1
  clear hj1 hj hsm
  have c0 : w1.cell? ⟨b, 0, none⟩ = some (.pointer (some ⟨b, 0, none⟩)) := by rw [Lib.cell_of_heap hbk]; rfl
  have c1 : w1.cell? ⟨b, 1, none⟩ = some v := by rw [Lib.cell_of_heap hbk]; rfl
  go_wp2_with (at_builtin; refine wpList_append_own _ rfl _ _ 38 rfl B 5 i0 (.int .u8 0) 1 1 Tryd.underlying38 hi hz0 hz1 hz2 rfl (by decide) _ _ _ rfl (hown.alloc _) ⟨w1.heap.size, 0, none⟩ 1 1 [.int .u8 (c.toNat : Int)] rfl rfl ?c1 ?c2 ?c3 ?c4 ?c5 ?_)
  case c1 =>
    intro j u hj
    match j, hj with
    | 0, hj => simp at hj; subst hj; simp [Addr.add]
  case c2 => intro u hu; simp at hu; subst hu; rfl
  case c3 => unfold maxLen; omega
  case c4 => omega
  case c5 => have := hb1.size; simp; omega
  intro v' w2 hown' hgrow _
  have hlt : b < w1.heap.size := by
    rcases Nat.lt_or_ge b w1.heap.size with h' | h'
    · exact h'
    · simp [Array.getElem?_eq_none h'] at hbk
  have hb2 : w2.heap[b]? = some (.cells #[.pointer (some ⟨b, 0, none⟩), v] 40 (0, 0)) := by
    rw [hgrow.block b (by simp; omega) (fun e => hne e.symm), Lib.alloc_old w1 _ b hlt]
    exact hbk
  have d0 : w2.cell? ⟨b, 0, none⟩ = some (.pointer (some ⟨b, 0, none⟩)) := by rw [Lib.cell_of_heap hb2]; rfl
  have d1 : w2.cell? ⟨b, 1, none⟩ = some v := by rw [Lib.cell_of_heap hb2]; rfl
  have f1 : w2.frozen? ⟨b, 1, none⟩ = false := Lib.frozen_of_heap hb2 1
  obtain ⟨g, cap, rfl⟩ : ∃ g cap, v' = .slice (some ⟨g, 0, none⟩) (l.length + 1) cap := by
    rcases hown'.2 with ⟨_, h0⟩ | ⟨g, cap, cur, hv, _⟩
    · omega
    · exact ⟨g, cap, hv⟩
  have hj2 : w2.heap[j]? = some (.cells cs 30 (0, 0)) := by
    rw [hgrow.block j (by simp; omega) (fun e => hjo e.symm), Lib.alloc_old w1 _ j hjlt]
    exact HJ.out
  have HJ2 := Lib.hid hj2
  clear hj2
  go_wp2
  go_ret
  refine ⟨rfl, .inr ?_, ?_, (heap_setCell_other _ _ _ _ (by exact hjb)).trans HJ2.out⟩
  · have e : Lib.byteCells (l ++ [c]) = Lib.byteCells l ++ [.int .u8 (c.toNat : Int)] := by simp [Lib.byteCells]
    rw [e]
    exact Lib.BuilderAt.put (T := 40) (e := 5) hB hb2 (by simpa [hbs] using hown') (by decide)
  · exact ((hb1.alloc (by have := hb1.size; omega) _).grown hgrow (by have := hb1.size; simp; omega) (fun k hk => (hown.lt k hk).1)).setCell (p := ⟨b, 1, none⟩) hB _
theorem join_snoc : ∀ (l : List Tk) (t : Tk), joinM (l ++ [t]) = if l = [] then texM t else joinM l ++ 32 :: texM t
  | [], t => rfl
  | [u], t => rfl
  | u :: v :: r, t => by
    have ih := join_snoc (v :: r) t
    rw [if_neg (by simp)] at ih
    rw [if_neg (by simp)]
    show texM u ++ 32 :: joinM (v :: r ++ [t]) = texM u ++ 32 :: joinM (v :: r) ++ 32 :: texM t
    rw [ih]
    simp
theorem mks_len : ∀ k : Fin 9, (mks.getD k.1 []).length ≤ 4 := by decide
theorem tex_len {t : Tk} (hg : Gd t) (hs : t.s.length ≤ 5000) : (texM t).length ≤ 30000 := by
  cases hg with
  | mark k hk => rw [mark_text ⟨k, hk⟩]; exact Nat.le_trans (mks_len ⟨k, hk⟩) (by decide)
  | dot => decide
  | int n hn => have := text_len 10 n; show (numText 10 n).length ≤ _; omega
  | bool b hb => rcases hb with rfl | rfl <;> decide
  | char n hn => have := chr_len ⟨n, hn⟩; simp only at this; show (35 :: 92 :: chrT n).length ≤ _; simp; omega
  | str s hc =>
    have := body_len s
    have h2 : s.length ≤ 5000 := hs
    show (34 :: (bodyT s ++ [34])).length ≤ _
    simp; omega
  | sym s h => have h2 : s.length ≤ 5000 := hs; show s.length ≤ _; omega
  | lab n hn => have := text_len 10 (n : Int); show (35 :: (numText 10 (n : Int) ++ [61])).length ≤ _; simp; omega
  | again n hn => have := text_len 10 (n : Int); show (35 :: (numText 10 (n : Int) ++ [35])).length ≤ _; simp; omega
theorem join_len : ∀ (l : List Tk), (∀ t ∈ l, (texM t).length ≤ 30000) → (joinM l).length ≤ 30001 * l.length
  | [], _ => by simp [joinM]
  | [u], h => by have := h u (List.mem_cons_self ..); show (texM u).length ≤ _; simp; omega
  | u :: v :: r, h => by
    have h1 := h u (List.mem_cons_self ..)
    have h2 := join_len (v :: r) fun t ht => h t (List.mem_cons_of_mem _ ht)
    show (texM u ++ 32 :: joinM (v :: r)).length ≤ _
    simp at h2 ⊢; omega
set_option maxHeartbeats 6400000 in
theorem join_any (l : List (Tk × Nat)) (qa : Option Addr) (cap : Nat) (w : World) (hE : Env w) (hP : Pow w) (hR : l ≠ [] → ∃ g, qa = some ⟨g, 0, none⟩ ∧ TkR w (.slice qa l.length cap) l g cap)
    (hg : ∀ x ∈ l, Gd x.1 ∧ x.1.s.length ≤ 5000) (hl : l.length ≤ 5000) :
    Calls Tryd.prog 7 #[.slice qa l.length cap] w fun e w' => e = .returned (.string ⟨(joinM (l.map (·.1))).toArray⟩) ∧ Below w.heap.size w w' := by
  have HEW := Lib.hid hE
  have HPW := Lib.hid hP
  have HR := Lib.hid hR
  have HTX : Hid (∀ x ∈ l, ∀ W, Below w.heap.size w W → Calls Tryd.prog 12 #[tkV x.1 (x.2 : Int)] W fun e w' => e = .returned (.string ⟨(texM x.1).toArray⟩) ∧ Below W.heap.size W w') := Lib.hid fun x hx W hb => text_any (hg x hx).1 (hg x hx).2 _ W (hE.below hb) (pow_below hP hb)
  have HTL : Hid (∀ x ∈ l, (texM x.1).length ≤ 30000) := Lib.hid fun x hx => tex_len (hg x hx).1 (hg x hx).2
  obtain ⟨N, hN⟩ : ∃ N, l.length = N := ⟨_, rfl⟩
  have HN := Lib.hid hN
  rw [hN] at HR hl ⊢
  have hNI : (N : Int) ≤ 5000 := by omega
  have HLN0 := Lib.hid hl
  clear hE hP hR hg hN hl
  go_enter Tryd.func7, Tryd.ntmps7
  go_upto_region 2 with fail
  have HB0 := Lib.hid (alloc_below w (.cells #[.pointer none, .slice none 0 0] 40))
  have HD0 := Lib.hid (Bd.new w w.heap.size (Nat.le_refl _))
  generalize w.alloc (.cells #[.pointer none, .slice none 0 0] 40) = W0 at *
  go_wp2_with fail
  go_loopw [8] (fun iv wr => ∃ i : Nat, iv = .int .i64 (i : Int) ∧ i ≤ N ∧ Hid (Bd wr w.heap.size w.heap.size (joinM ((l.map (·.1)).take i)) ∧ Below w.heap.size w wr)) (fun iv _ => N - (intOf iv).toNat)
  case atStart => exact ⟨0, rfl, Nat.zero_le _, Lib.hid ⟨HD0.out, HB0.out⟩⟩
  case round =>
    obtain ⟨i, rfl, hi, HI⟩ := hrel
    have HLN : Hid ((joinM ((l.map (·.1)).take i)).length ≤ 30001 * 5000) := Lib.hid (by
      have h1 := join_len ((l.map (·.1)).take i) (fun t ht => by
        obtain ⟨x, hx, rfl⟩ := List.mem_map.1 (List.mem_of_mem_take ht)
        exact HTL.out x hx)
      rw [List.length_take, List.length_map, HN.out] at h1
      have := HLN0.out
      omega)
    by_cases hlt : i < N
    · obtain ⟨g, hqa, hTR0⟩ := HR.out (fun e => by have := HN.out; rw [e] at this; simp at this; omega)
      subst hqa
      have hTR := hTR0.below HI.out.2
      have c0 := hTR.k i (by rw [HN.out]; exact hlt)
      have c1 := hTR.n i (by rw [HN.out]; exact hlt)
      have c2 := hTR.s i (by rw [HN.out]; exact hlt)
      have c3 := hTR.a i (by rw [HN.out]; exact hlt)
      have hge : l.getD i zTA = l[i]'(by rw [HN.out]; exact hlt) := by rw [List.getD_eq_getElem?_getD, List.getElem?_eq_getElem]; rfl
      have hmem : l.getD i zTA ∈ l := by rw [hge]; exact List.getElem_mem _
      have hsn : (l.map (·.1)).take (i + 1) = (l.map (·.1)).take i ++ [(l.getD i zTA).1] := by
        rw [List.take_add_one, List.getElem?_map, List.getElem?_eq_getElem (by rw [HN.out]; exact hlt), hge]
        rfl
      have htx := HTX.out _ hmem
      have htl := HTL.out _ hmem
      generalize l.getD i zTA = x at *
      obtain ⟨t, a⟩ := x
      simp only at c0 c1 c2 c3 hsn htx htl
      have HSN : Hid (joinM ((l.map (·.1)).take (i + 1)) = if (l.map (·.1)).take i = [] then texM t else joinM ((l.map (·.1)).take i) ++ 32 :: texM t) := Lib.hid (by rw [hsn, join_snoc])
      have HTT := Lib.hid htx
      have HTLN := Lib.hid htl
      have hltI : (i : Int) < (N : Int) := by omega
      clear hTR0 hTR hge hmem hsn htx htl
      obtain ⟨T0, hT0⟩ : ∃ T, (t.k : Int) = T := ⟨_, rfl⟩
      obtain ⟨T1, hT1⟩ : ∃ T, t.n = T := ⟨_, rfl⟩
      obtain ⟨T2, hT2⟩ : ∃ T, (⟨t.s.toArray⟩ : ByteArray) = T := ⟨_, rfl⟩
      obtain ⟨T3, hT3⟩ : ∃ T, (a : Int) = T := ⟨_, rfl⟩
      unfold tkV at HTT
      rw [hT0] at c0
      rw [hT1] at c1
      rw [hT2] at c2
      rw [hT3] at c3
      rw [hT0, hT1, hT2, hT3] at HTT
      clear hT0 hT1 hT2 hT3
      have HB2 : Hid (Below wr.heap.size wr (wr.alloc (.cells #[.int .i64 T0, .int .i64 T1, .string T2, .int .i64 T3] 30))) := Lib.hid (alloc_below _ _)
      have HX9 := Lib.hid (heap_alloc_new wr (.cells #[.int .i64 T0, .int .i64 T1, .string T2, .int .i64 T3] 30))
      rcases Nat.eq_zero_or_pos i with h0 | h0
      · subst h0
        go_upto_region 5 with fail
        generalize wr.alloc (.cells #[.int .i64 T0, .int .i64 T1, .string T2, .int .i64 T3] 30) = W2 at *
        have d0 := cell_of_row _ _ 0 _ _ _ HX9.out
        have d1 := cell_of_row _ _ 1 _ _ _ HX9.out
        have d2 := cell_of_row _ _ 2 _ _ _ HX9.out
        have d3 := cell_of_row _ _ 3 _ _ _ HX9.out
        simp at d0 d1 d2 d3
        have HBW : Hid (Below w.heap.size w W2) := Lib.hid (HI.out.2.trans (HB2.out.mono HI.out.2.size))
        clear c0 c1 c2 c3
        go_wp2_with (first
          | (go_at_call 12; refine (HTT.out _ HBW.out).mono ?_; rintro e w5 ⟨rfl, hb5⟩; have HB5 : Hid (Below wr.heap.size wr w5) := Lib.hid (HB2.out.trans (hb5.mono HB2.out.size)); clear hb5)
          | (go_at_call 11; refine (wstr (HI.out.1.below HB5.out) ⟨(texM t).toArray⟩ (by have := HLN.out; have := HTLN.out; show _ + (texM t).toArray.size ≤ _; rw [List.size_toArray]; omega) (Nat.le_trans HI.out.2.size HB5.out.size)).mono ?_; rintro e w6 ⟨rfl, hd6, hb6⟩; have HD6 := Lib.hid hd6; have HB6 : Hid (Below w.heap.size w w6) := Lib.hid ((HI.out.2.trans (HB5.out.mono HI.out.2.size)).trans hb6); clear hd6 hb6))
        go_roundw
        case rel => exact ⟨1, rfl, by omega, Lib.hid ⟨by rw [HSN.out, if_pos List.take_zero]; exact HD6.out, HB6.out⟩⟩
        case measure => simp [intOf]; omega
      · have e3 : decide ((0 : Int) < (i : Int)) = true := decide_eq_true (by omega)
        have e3n : decide (0 < i) = true := decide_eq_true h0
        have HNE : Hid ((l.map (·.1)).take i ≠ []) := Lib.hid (fun e => by
          have := congrArg List.length e
          rw [List.length_take, List.length_map, HN.out, List.length_nil] at this
          omega)
        go_upto_region 5 with fail
        generalize wr.alloc (.cells #[.int .i64 T0, .int .i64 T1, .string T2, .int .i64 T3] 30) = W2 at *
        have HBW : Hid (Below w.heap.size w W2) := Lib.hid (HI.out.2.trans (HB2.out.mono HI.out.2.size))
        clear c0 c1 c2 c3
        go_wp2_with (first
          | (go_at_call 10; refine (wbyte2 (HI.out.1.below HB2.out) HX9.out 32 (by have := HLN.out; omega) HBW.out.size).mono ?_; rintro e w3 ⟨rfl, hd3, hb3, hj3⟩; have HD3 := Lib.hid hd3; have HB3 : Hid (Below w.heap.size w w3) := Lib.hid (HBW.out.trans hb3); have d0 := cell_of_row _ _ 0 _ _ _ hj3; have d1 := cell_of_row _ _ 1 _ _ _ hj3; have d2 := cell_of_row _ _ 2 _ _ _ hj3; have d3 := cell_of_row _ _ 3 _ _ _ hj3; simp at d0 d1 d2 d3; clear hd3 hb3 hj3)
          | (go_at_call 12; refine (HTT.out _ HB3.out).mono ?_; rintro e w5 ⟨rfl, hb5⟩; have HB5 := Lib.hid hb5; clear hb5)
          | (go_at_call 11; refine (wstr (HD3.out.below HB5.out) ⟨(texM t).toArray⟩ (by have := HLN.out; have := HTLN.out; show _ + (texM t).toArray.size ≤ _; rw [List.size_toArray, List.length_append, List.length_singleton]; omega) (Nat.le_trans HB3.out.size HB5.out.size)).mono ?_; rintro e w6 ⟨rfl, hd6, hb6⟩; have HD6 := Lib.hid hd6; have HB6 : Hid (Below w.heap.size w w6) := Lib.hid ((HB3.out.trans (HB5.out.mono HB3.out.size)).trans hb6); clear hd6 hb6))
        go_roundw
        case rel => exact ⟨i + 1, by go_num, by omega, Lib.hid ⟨by rw [HSN.out, if_neg HNE.out]; have h := HD6.out; rw [List.append_assoc] at h; exact h, HB6.out⟩⟩
        case measure => simp [intOf]; omega
    · have hie : i = N := by omega
      have hta : (l.map (·.1)).take i = l.map (·.1) := List.take_of_length_le (by rw [List.length_map, HN.out]; omega)
      rw [hta] at HI
      clear hlt hta
      subst hie
      go_wp2_with (go_at_call 13; refine (bstring HI.out.1 HI.out.2.size).mono ?_; rintro e w3 ⟨rfl, hb3⟩; have HB3 : Hid (Below w.heap.size w w3) := Lib.hid (HI.out.2.trans hb3); clear hb3)
      go_ret
      exact ⟨rfl, HB3.out⟩
end Go.Proofs.YtjpbbooeihdnfaaDoor
