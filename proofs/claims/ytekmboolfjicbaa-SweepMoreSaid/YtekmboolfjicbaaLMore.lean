/- SweepMore's walk. -/
import Derived.Test.YtekmboolfjicbaaLIn14
import Derived.Test.YtekmboolfjicbaaLBoth
import Derived.Test.YtekmboolfjicbaaLLight14
import Derived.Test.YtekmboolfjicbaaRCopy
import Derived.Test.YtekmboolfjicbaaIn
set_option maxRecDepth 20000
set_option linter.unusedSimpArgs false
set_option linter.unusedVariables false
namespace Go.Proofs.Ytekmboolfjicbaa
open Go.RowKit

/-- 'append(own, xs...)': xs came in. -/
theorem wpList_app1 (w : World) {ops : Array Oper} {rest : List Oper} {o : Oper} {a : Act} {Q : Exit → Act → World → Prop} (hgd : o.guard = none) (sl x : Operand) (t e : TypeId)
    (ho : o.op = .call { callee := .builtin .append, args := #[sl, x], argTypes := #[t, t] }) (ht : Try.prog.underlying t = some (.slice e)) (z : Value) (size bytes : Nat)
    (hin : (Try.prog.info? e).map (fun i => (i.zero, i.size, i.bytes)) = some (some z, size, bytes)) (hzs : z.cells.size = size) (hsz : 0 < size) (base : Nat) (v0 : Value) (k : Nat) (xs : List Value) (hs : a.eval sl = v0) (hv : w.ownsRow base e size v0 k xs)
    (q : Option Addr) (m c : Nat) (news : List Value) (hx : a.eval x = .slice q m c) (hq : q = none → c = 0) (hl : news.length = m * size)
    (hcell : 0 < m → ∃ ad, q = some ad ∧ ∀ j u, news[j]? = some u → w.cell? (ad.add j) = some u) (h1 : ∀ u ∈ news, u.oneCell' = true) (hm : k + m ≤ maxLen) (hmb : (k + m) * bytes ≤ 140737488355328) (hbase : base ≤ w.heap.size)
    (h : ∀ v' w', w'.ownsRow base e size v' (k + m) (xs ++ news) → Below base w w' → wpList Try.prog ops Q rest (a.put o.dst v') w') : wpList Try.prog ops Q (o :: rest) a w := by
  obtain ⟨i0, hi0, hz0, hz1, hz2⟩ := info_parts hin
  cases q with
  | none =>
    have hm0 : m = 0 := by
      rcases Nat.eq_zero_or_pos m with h | h
      · exact h
      · obtain ⟨_, e, _⟩ := hcell h; cases e
    subst hm0
    have hn : news = [] := List.eq_nil_of_length_eq_zero (by rw [hl]; omega)
    subst hn
    rw [hq rfl] at hx
    exact wpList_append_own_none hgd sl x t ho base e i0 size ht hi0 v0 k xs hs hv hx (h _ _ (by simpa using hv) (Below.refl _ _))
  | some ad =>
    have hcell2 : ∀ j u, news[j]? = some u → w.cell? (ad.add j) = some u := fun j u hj => by
      have hjl : j < news.length := (List.getElem?_eq_some_iff.1 hj).1
      obtain ⟨ad2, e2, hc⟩ := hcell (by
        rcases Nat.eq_zero_or_pos m with h | h
        · rw [hl, h] at hjl; omega
        · exact h)
      cases e2
      exact hc j u hj
    refine wpList_append_own w hgd sl x t ho base e i0 z size bytes ht hi0 hz0 hz1 hz2 hzs hsz v0 k xs hs hv ad m c news hx hl hcell2 h1 hm hmb hbase ?_
    intro v' w' h1 h2 _
    exact h v' w' h1 ((Below.refl _ _).grown h2 hbase (fun b hb => own_lo hv hb))

/-- What a list tells. -/
structure Lst (w : World) (q : Option Addr) (c : Nat) (L : Pls) (roots T : List (Int × Int)) : Prop where
  vls : Vls w q T.length T
  nd : T.Nodup
  mem : ∀ v, v ∈ T ↔ Rch L roots v
  le : T.length ≤ 16384
  cap : 0 < T.length → T.length ≤ c
theorem Lst.below {w w' : World} {q : Option Addr} {c : Nat} {L : Pls} {roots T : List (Int × Int)} (h : Lst w q c L roots T) (hb : Below w.heap.size w w') : Lst w' q c L roots T := ⟨h.vls.below hb, h.nd, h.mem, h.le, h.cap⟩
theorem list_x {w : World} {gh : Nat} {F : Nat → Prop} {m : Hm} (h : Hep w gh F m) (hh : Here m.L) (hsm : Sm m.L) (hft : Ft m.L) (q : Option Addr) (n c : Nat) (roots : List (Int × Int)) (hr : Vls w q n roots) (hrf : FitV roots) (hn : n ≤ 60000) :
    Calls Try.prog 8 #[.pointer (some ⟨gh, 0, none⟩), .slice q n c] w (fun e w' => ∃ q T c, e = .returned (.slice q T.length c) ∧ Lst w' q c m.L roots T ∧ Hep w' gh F m ∧ Below w.heap.size w w') := by
  refine (list_any h hh hsm hft q n c roots hr hrf hn).mono ?_
  rintro e w' ⟨q, T, c, rfl, ho, hnd, hT, _, h1, h2⟩
  refine ⟨q, T, c, rfl, ⟨Vls.own ho, hnd, hT, ?_, fun hp => ?_⟩, h1, h2⟩
  · exact Nat.le_trans (has_len hnd fun v hv => ((hT v).1 hv).has) (Nat.le_trans h.ok.len h.ok.l1)
  · obtain ⟨g, c', e⟩ := own_some ho hp
    cases e
    exact own_cap ho
theorem vls_take {w : World} {q : Option Addr} {n : Nat} {l : List (Int × Int)} (h : Vls w q n l) (i : Nat) (hi : i ≤ n) : Vls w q i (l.take i) := by
  refine ⟨by rw [List.length_take, h.len]; omega, fun hp => ?_⟩
  obtain ⟨b, o, e, hc⟩ := h.2 (by omega)
  refine ⟨b, o, e, fun j hj => ?_⟩
  have := hc j (by omega)
  rw [List.getD_eq_getElem?_getD] at this ⊢
  rw [List.getElem?_take_of_lt hj]
  exact this
theorem flatV_app (a b : List (Int × Int)) : flatV (a ++ b) = flatV a ++ flatV b := by rw [flatV_map, flatV_map, flatV_map, List.flatMap_append]
/-- A value does not lie ahead of itself. -/
theorem nd_take {l : List (Int × Int)} (h : l.Nodup) (i : Nat) (hi : i < l.length) : hasK (l.take i) (l.getD i (0, 0)) = false := hasK_no fun hm => by
  obtain ⟨j, hj, e⟩ := List.getElem_of_mem hm
  rw [List.length_take] at hj
  rw [List.getElem_take, List.getD_eq_getElem?_getD, List.getElem?_eq_getElem hi] at e
  exact absurd ((List.getElem_inj h).1 e) (by omega)
theorem take_snocV (l : List (Int × Int)) (k : Nat) (h : k < l.length) : l.take (k + 1) = l.take k ++ [l.getD k (0, 0)] := by
  rw [List.take_add_one, List.getElem?_eq_getElem h, List.getD_eq_getElem?_getD, List.getElem?_eq_getElem h]; rfl

set_option maxHeartbeats 12800000 in
theorem more_any (q qa qb : Option Addr) (n c na ca nb cb : Nat) (f : Nat → Opv) (a b : List (Int × Int)) (w : World) (hn : n ≤ 9223372036854775807) (hO : OpsIn w q n f) (hna : na ≤ 9223372036854775807) (hnb : nb ≤ 9223372036854775807)
    (ha : Vls w qa na a) (hb : Vls w qb nb b) (hfa : FitV a) (hfb : FitV b) (hqa : qa = none → ca = 0) (hqb : qb = none → cb = 0) :
    Calls Try.prog 3 #[.slice q n c, .slice qa na ca, .slice qb nb cb] w fun ex w' => ex = .returned (.bool true) ∧ Below w.heap.size w w' := by
  classical
  obtain ⟨b1, hb1⟩ : ∃ b, (b = true ↔ lightM f n ∧ na ≤ 50) := ⟨decide _, decide_eq_true_iff⟩
  obtain ⟨b2, hb2⟩ : ∃ b, (b = true ↔ lightM f n ∧ nb ≤ 50) := ⟨decide _, decide_eq_true_iff⟩
  have HL1 : Hid (Calls Try.prog 5 #[.slice q n c, .slice qa na ca] w fun e w' => e = .returned (.bool b1) ∧ w = w') := Lib.hid (light_det q n c f w hn hO qa na ca hna b1 hb1)
  have HL2 : Hid (Calls Try.prog 5 #[.slice q n c, .slice qb nb cb] w fun e w' => e = .returned (.bool b2) ∧ w = w') := Lib.hid (light_det q n c f w hn hO qb nb cb hnb b2 hb2)
  have HLV : Hid (∀ w1, Below w.heap.size w w1 → Calls Try.prog 6 #[] w1 fun e w' => e = .returned (.bool true) ∧ Below w.heap.size w w') := Lib.hid fun w1 hb => (lives14_any w1).mono fun e w' h => ⟨h.1, hb.trans (h.2.mono hb.size)⟩
  cases b1 with
  | false =>
    go_enter Try.func3, Try.ntmps3
    clear hb1 hb2 hn hO hna hnb ha hb hfa hfb hqa hqb HL2
    go_wp2_with (first | (go_at_call 5; with_reducible refine HL1.out.mono ?_; rintro ex w2 ⟨rfl, rfl⟩) | (go_at_call 6; with_reducible refine (HLV.out _ (Below.refl _ _)).mono ?_; rintro ex w2 ⟨rfl, hb⟩; have HB2 := Lib.hid hb; clear hb))
    go_ret
    exact ⟨rfl, HB2.out⟩
  | true =>
    cases b2 with
    | false =>
      go_enter Try.func3, Try.ntmps3
      clear hb1 hb2 hn hO hna hnb ha hb hfa hfb hqa hqb
      go_wp2_with (first | (go_at_call 5; first | (with_reducible refine HL1.out.mono ?_; rintro ex w2 ⟨rfl, rfl⟩) | (with_reducible refine HL2.out.mono ?_; rintro ex w2 ⟨rfl, rfl⟩)) | (go_at_call 6; with_reducible refine (HLV.out _ (Below.refl _ _)).mono ?_; rintro ex w2 ⟨rfl, hb⟩; have HB2 := Lib.hid hb; clear hb))
      go_ret
      exact ⟨rfl, HB2.out⟩
    | true =>
      obtain ⟨hl, hna5⟩ := hb1.1 rfl
      obtain ⟨_, hnb5⟩ := hb2.1 rfl
      have HM := Lib.hid (made_any q n c f w hO hl)
      have HNA := Lib.hid hna5
      have HNB := Lib.hid hnb5
      have HA := Lib.hid ha
      have HB := Lib.hid hb
      have HFA := Lib.hid hfa
      have HFB := Lib.hid hfb
      have HQA := Lib.hid hqa
      have HQB := Lib.hid hqb
      clear hb1 hb2 hn hO hna hnb ha hb hfa hfb hqa hqb hl hna5 hnb5
      go_enter Try.func3, Try.ntmps3
      go_upto_region 3 with (go_at_call 5; first | (with_reducible refine HL1.out.mono ?_; rintro ex w2 ⟨rfl, rfl⟩) | (with_reducible refine HL2.out.mono ?_; rintro ex w2 ⟨rfl, rfl⟩))
      go_upto_region 4 with (go_at_call 7; with_reducible refine HM.out.mono ?_; rintro ex w1 ⟨g, F, m, v, rfl, ⟨qq, nn, cc, rfl⟩, hh, hHere, hSm, hFt, hb1, -⟩)
      have HB3 : Hid (Below w.heap.size w (w1.alloc (.cells #[.slice qq nn cc, .int .i64 40] 29))) := Lib.hid (hb1.alloc hb1.size _)
      have HH3 : Hid (Hep (w1.alloc (.cells #[.slice qq nn cc, .int .i64 40] 29)) g F m) := Lib.hid (hh.below (alloc_below _ _))
      have HHE := Lib.hid hHere
      have HSM := Lib.hid hSm
      have HFT := Lib.hid hFt
      clear hh hHere hSm hFt hb1 HM HL1 HL2
      generalize w1.alloc (.cells #[.slice qq nn cc, .int .i64 40] 29) = w3 at *
      have HVA := Lib.hid (HA.out.below HB3.out)
      have HVB := Lib.hid (HB.out.below HB3.out)
      clear HA HB
      have HLA : Hid ((flatV a).length = na * 2) := Lib.hid (by rw [flatV_len, HVA.out.len])
      have HLB : Hid ((flatV b).length = nb * 2) := Lib.hid (by rw [flatV_len, HVB.out.len])
      have HOA := Lib.hid (flatV_one a)
      have HOB := Lib.hid (flatV_one b)
      have HCA := Lib.hid (fun hn => HVA.out.cells hn)
      go_upto_region 6 with (at_builtin; refine wpList_app0 _ rfl (.tmp 33) (.tmp 34) 23 36 rfl Try.underlying23 _ 2 16 Try.infoV rfl (by decide) (by rfl) qa na ca (flatV a) (by rfl) HQA.out HLA.out HCA.out HOA.out (by have := HNA.out; unfold maxLen; omega) (by have := HNA.out; omega) ?_; intro v4 w4 hr4 hb4; obtain ⟨q4, c4, rfl, hq4⟩ := own_formq hr4; have HR4 := Lib.hid hr4; have HB4 := Lib.hid hb4; clear hr4 hb4)
      have HVB4 := Lib.hid (HVB.out.below HB4.out)
      have HCB := Lib.hid (fun hn => HVB4.out.cells hn)
      go_upto_region 7 with (at_builtin; refine wpList_app1 _ rfl (.tmp 36) (.tmp 37) 23 36 rfl Try.underlying23 _ 2 16 Try.infoV rfl (by decide) w3.heap.size _ na (flatV a) (by rfl) HR4.out qb nb cb (flatV b) (by rfl) HQB.out HLB.out HCB.out HOB.out (by have := HNA.out; have := HNB.out; unfold maxLen; omega) (by have := HNA.out; have := HNB.out; omega) HB4.out.size ?_; intro v5 w5 hr5 hb5; obtain ⟨q5, c5, rfl, hq5⟩ := own_formq hr5; have HR5 := Lib.hid hr5; have HB5 := Lib.hid hb5; clear hr5 hb5)
      have HB35 : Hid (Below w3.heap.size w3 w5) := Lib.hid (HB4.out.trans HB5.out)
      have HV5 : Hid (Vls w5 q5 (na + nb) (a ++ b)) := Lib.hid (Vls.own (by rw [flatV_app]; exact HR5.out))
      have HVA5 := Lib.hid (HVA.out.below HB35.out)
      have HVB5 := Lib.hid (HVB.out.below HB35.out)
      have HH5 := Lib.hid (HH3.out.below HB35.out)
      have HB5W := Lib.hid (HB3.out.trans (HB35.out.mono HB3.out.size))
      clear HR4 HR5 HB4 HB5 HB35 HVB4 HCA HCB HLA HLB HOA HOB HVA HVB HH3 HB3 hq4 hq5
      have HS1 : Hid (∀ w6, Below w5.heap.size w5 w6 → Hep w6 g F m → Calls Try.prog 8 #[.pointer (some ⟨g, 0, none⟩), .slice qa na ca] w6 (fun e w' => ∃ q T c, e = .returned (.slice q T.length c) ∧ Lst w' q c m.L a T ∧ Hep w' g F m ∧ Below w6.heap.size w6 w')) := Lib.hid fun w6 hb hh => list_x hh HHE.out HSM.out HFT.out qa na ca a (HVA5.out.below hb) HFA.out (by have := HNA.out; omega)
      have HS2 : Hid (∀ w6, Below w5.heap.size w5 w6 → Hep w6 g F m → Calls Try.prog 8 #[.pointer (some ⟨g, 0, none⟩), .slice qb nb cb] w6 (fun e w' => ∃ q T c, e = .returned (.slice q T.length c) ∧ Lst w' q c m.L b T ∧ Hep w' g F m ∧ Below w6.heap.size w6 w')) := Lib.hid fun w6 hb hh => list_x hh HHE.out HSM.out HFT.out qb nb cb b (HVB5.out.below hb) HFB.out (by have := HNB.out; omega)
      have HS3 : Hid (∀ w6, Below w5.heap.size w5 w6 → Hep w6 g F m → Calls Try.prog 8 #[.pointer (some ⟨g, 0, none⟩), .slice q5 (na + nb) c5] w6 (fun e w' => ∃ q T c, e = .returned (.slice q T.length c) ∧ Lst w' q c m.L (a ++ b) T ∧ Hep w' g F m ∧ Below w6.heap.size w6 w')) := Lib.hid fun w6 hb hh => list_x hh HHE.out HSM.out HFT.out q5 (na + nb) c5 (a ++ b) (HV5.out.below hb) (fun z hz => (List.mem_append.1 hz).elim (HFA.out z) (HFB.out z)) (by have := HNA.out; have := HNB.out; omega)
      have HS4 : Hid (∀ w6, Hep w6 g F m → Calls Try.prog 8 #[.pointer (some ⟨g, 0, none⟩), .slice none 0 0] w6 (fun e w' => ∃ q c, e = .returned (.slice q 0 c) ∧ Below w6.heap.size w6 w')) := Lib.hid fun w6 hh => by
        refine (list_x hh HHE.out HSM.out HFT.out none 0 0 [] ⟨rfl, fun h => absurd h (Nat.lt_irrefl 0)⟩ (fun z hz => by cases hz) (by omega)).mono ?_
        rintro e w' ⟨q, T, c, rfl, h1, _, h2⟩
        have hT : T = [] := List.eq_nil_iff_forall_not_mem.2 fun v hv => Rch.none_ ((h1.mem v).1 hv)
        rw [hT]
        exact ⟨q, c, rfl, h2⟩
      clear HHE HSM HFT HVA5 HVB5 HV5 HFA HFB HNA HNB
      go_upto_region 8 with (go_at_call 8; first
        | (with_reducible refine (HS1.out _ (Below.refl _ _) HH5.out).mono ?_; rintro ex w6 ⟨ql, A, cl, rfl, hA6, hh6, hb6⟩; have HA6 := Lib.hid hA6; have HH6 := Lib.hid hh6; have HB6 := Lib.hid hb6; clear hA6 hh6 hb6 HS1)
        | (with_reducible refine (HS2.out _ HB6.out HH6.out).mono ?_; rintro ex w7 ⟨qm, B, cm, rfl, hA7, hh7, hb7⟩; have HA7 := Lib.hid hA7; have HH7 := Lib.hid hh7; have HB7 := Lib.hid hb7; clear hA7 hh7 hb7 HS2)
        | (with_reducible refine (HS3.out _ (HB6.out.trans (HB7.out.mono HB6.out.size)) HH7.out).mono ?_; rintro ex w8 ⟨qt, L, ct, rfl, hA8, hh8, hb8⟩; have HA8 := Lib.hid hA8; have HH8 := Lib.hid hh8; have HB8 := Lib.hid hb8; clear hA8 hh8 hb8 HS3))
      have HB68 : Hid (Below w6.heap.size w6 w8) := Lib.hid (HB7.out.trans (HB8.out.mono HB7.out.size))
      have HBW : Hid (Below w.heap.size w w8) := Lib.hid (HB5W.out.trans ((HB6.out.trans (HB68.out.mono HB6.out.size)).mono HB5W.out.size))
      have HLL := Lib.hid (HA6.out.below HB68.out)
      have HLM := Lib.hid (HA7.out.below HB8.out)
      clear HA6 HA7 HB6 HB7 HB8 HB5W HH5 HH6 HH7 HB68 HQA HQB
      have HME : Hid (∀ v, v ∈ L ↔ v ∈ A ∨ v ∈ B) := Lib.hid fun v => (HA8.out.mem v).trans (Rch.both.trans (or_congr (HLL.out.mem v) (HLM.out.mem v)).symm)
      have HBL := Lib.hid (both_len HLL.out.nd HLM.out.nd HA8.out.nd HME.out)
      obtain ⟨nl, HNL⟩ : ∃ k, Hid (A.length = k) := ⟨_, Lib.hid rfl⟩
      obtain ⟨nm, HNM⟩ : ∃ k, Hid (B.length = k) := ⟨_, Lib.hid rfl⟩
      obtain ⟨nt, HNT⟩ : ∃ k, Hid (L.length = k) := ⟨_, Lib.hid rfl⟩
      have HIL : Hid (∀ u (x y : Int), Below w8.heap.size w8 u → Calls Try.prog 9 #[.slice ql nl cl, .agg #[.int .i64 x, .int .i64 y]] u fun e w' => e = .returned (.bool (hasK A (x, y))) ∧ Below u.heap.size u w') := Lib.hid fun u x y hb => by
        have h := in_any ql A.length cl A (HLL.out.vls.below hb) (by have := HLL.out.le; omega) x y
        rw [HNL.out] at h
        exact h
      have HIM : Hid (∀ u (x y : Int), Below w8.heap.size w8 u → Calls Try.prog 9 #[.slice qm nm cm, .agg #[.int .i64 x, .int .i64 y]] u fun e w' => e = .returned (.bool (hasK B (x, y))) ∧ Below u.heap.size u w') := Lib.hid fun u x y hb => by
        have h := in_any qm B.length cm B (HLM.out.vls.below hb) (by have := HLM.out.le; omega) x y
        rw [HNM.out] at h
        exact h
      have HIT : Hid (∀ u (i : Nat) (x y : Int), i < nt → L.getD i (0, 0) = (x, y) → Below w8.heap.size w8 u → Calls Try.prog 9 #[.slice qt i ct, .agg #[.int .i64 x, .int .i64 y]] u fun e w' => e = .returned (.bool false) ∧ Below u.heap.size u w') := Lib.hid fun u i x y hi e hb => by
        have hi' : i < L.length := by have := HNT.out; omega
        have h := in_any qt i ct (L.take i) (vls_take (HA8.out.vls.below hb) i (by omega)) (by have := HA8.out.le; omega) x y
        rw [← e, nd_take HA8.out.nd i hi'] at h
        exact h
      rw [HNL.out, HNM.out, HNT.out]
      have hnt : (nt : Int) ≤ 16384 := by have := HA8.out.le; have := HNT.out; omega
      have hnl : (nl : Int) ≤ 16384 := by have := HLL.out.le; have := HNL.out; omega
      have hnm : (nm : Int) ≤ 16384 := by have := HLM.out.le; have := HNM.out; omega
      have HT0 : Hid (bothN A B (L.take 0) = 0) := Lib.hid rfl
      go_upto_region 10 with fail
      go_loopw [13, 14] (fun nv iv wr => ∃ i k : Nat, i ≤ nt ∧ iv = .int .i64 (i : Int) ∧ nv = .int .i64 (k : Int) ∧ k ≤ i ∧ Hid (bothN A B (L.take i) = k) ∧ Hid (Below w8.heap.size w8 wr)) (fun _ iv _ => nt - (intOf iv).toNat)
      case atStart => exact ⟨0, 0, by omega, by go_num, by go_num, by omega, HT0, Lib.hid (Below.refl _ _)⟩
      case round =>
        obtain ⟨i, k, hi, rfl, rfl, hk, HBN, HBR⟩ := hrel
        by_cases hlt : i < nt
        · have hin : (i : Int) < (nt : Int) := by omega
          have hki : (k : Int) ≤ 16384 := by omega
          obtain ⟨Bt, ot, e, hat⟩ := (HA8.out.vls.below HBR.out).2 (by have := HNT.out; omega)
          cases e
          obtain ⟨z0, z1⟩ := hat i (by have := HNT.out; omega)
          have hct : i ≤ ct := by have := HA8.out.cap (by have := HNT.out; omega); have := HNT.out; omega
          have hct' : (i : Int) ≤ (ct : Int) := by omega
          obtain ⟨v, HV⟩ : ∃ v, Hid (L.getD i (0, 0) = v) := ⟨_, Lib.hid rfl⟩
          rw [HV.out] at z0 z1
          obtain ⟨v1, v2⟩ := v
          dsimp only at z0 z1
          have hvm : (v1, v2) ∈ L := by
            rw [← HV.out, List.getD_eq_getElem?_getD, List.getElem?_eq_getElem (by have := HNT.out; omega)]
            exact List.getElem_mem _
          have hor : hasK A (v1, v2) = true ∨ hasK B (v1, v2) = true := ((HME.out _).1 hvm).imp hasK_yes hasK_yes
          have HNX : Hid (bothN A B (L.take (i + 1)) = k + (if (hasK A (v1, v2) && hasK B (v1, v2)) = true then 1 else 0)) := Lib.hid (by
            rw [take_snocV L i (by have := HNT.out; omega), bothN_snoc, HBN.out, HV.out])
          have HI1 : Hid (∀ u, Below w8.heap.size w8 u → Calls Try.prog 9 #[.slice ql nl cl, .agg #[.int .i64 v1, .int .i64 v2]] u fun e w' => e = .returned (.bool (hasK A (v1, v2))) ∧ Below u.heap.size u w') := Lib.hid fun u hb => HIL.out u v1 v2 hb
          have HI2 : Hid (∀ u, Below w8.heap.size w8 u → Calls Try.prog 9 #[.slice qm nm cm, .agg #[.int .i64 v1, .int .i64 v2]] u fun e w' => e = .returned (.bool (hasK B (v1, v2))) ∧ Below u.heap.size u w') := Lib.hid fun u hb => HIM.out u v1 v2 hb
          have HI3 : Hid (∀ u, Below w8.heap.size w8 u → Calls Try.prog 9 #[.slice (some ⟨Bt, ot, none⟩) i ct, .agg #[.int .i64 v1, .int .i64 v2]] u fun e w' => e = .returned (.bool false) ∧ Below u.heap.size u w') := Lib.hid fun u hb => HIT.out u i v1 v2 hlt HV.out hb
          have HZ : Hid (∀ u, Below wr.heap.size wr u → u.cell? ⟨Bt, ot + i * 2, none⟩ = some (.int .i64 v1) ∧ u.cell? ⟨Bt, ot + i * 2 + 1, none⟩ = some (.int .i64 v2)) := Lib.hid fun u hb => ⟨(hb.cell (World.block_lt_of_cell? wr _ z0)).trans z0, (hb.cell (World.block_lt_of_cell? wr _ z1)).trans z1⟩
          have HLT : Hid (i + 1 ≤ nt) := Lib.hid hlt
          clear hat hvm HV HA8 HIL HIM HIT HME HBN
          generalize hasK A (v1, v2) = o1 at *
          generalize hasK B (v1, v2) = o2 at *
          clear z0 z1
          obtain ⟨z0, z1⟩ := HZ.out _ (Below.refl _ _)
          have HREG : Hid (hor = hor) := Lib.hid rfl
          clear HREG
          go_upto_region 12 with fail
          go_region_held3 (fun u : World => u.cell? ⟨Bt, ot + i * 2, none⟩ = some (.int .i64 v1) ∧ u.cell? ⟨Bt, ot + i * 2 + 1, none⟩ = some (.int .i64 v2)) ((first
              | with_reducible exact ⟨z0, z1⟩
              | go_keep)) (first
            | (go_at_call 9
               with_reducible refine (HI1.out _ ?hyp).mono ?_
               case hyp => first | exact HBR.out.drew | exact HBR.out
               rintro ex wa ⟨rfl, hbA⟩
               have hL : Below wr.heap.size wr wa := (Below.refl _ _).drew.trans hbA
               obtain ⟨z0, z1⟩ := HZ.out _ hL)
            | (go_at_call 9
               with_reducible refine (HI2.out _ (HBR.out.trans (hL.mono HBR.out.size))).mono ?_
               rintro ex wb ⟨rfl, hbB⟩
               have hL := hL.trans (hbB.mono hL.size)
               obtain ⟨z0, z1⟩ := HZ.out _ hL))
          have HBB : Hid (Below w8.heap.size w8 wb) := Lib.hid (HBR.out.trans (hL.mono HBR.out.size))
          have HZ2 : Hid (∀ u, Below wb.heap.size wb u → u.cell? ⟨Bt, ot + i * 2, none⟩ = some (.int .i64 v1) ∧ u.cell? ⟨Bt, ot + i * 2 + 1, none⟩ = some (.int .i64 v2)) := Lib.hid fun u hb => HZ.out u (hL.trans (hb.mono hL.size))
          clear hL HI1 HI2 HZ HBR hbA hbB
          cases o1 <;> cases o2
          · exact absurd hor (by decide)
          all_goals
            clear hor
            simp only [Bool.and_true, Bool.and_false, Bool.false_and, Bool.true_and, if_true, if_false, Bool.false_eq_true, Nat.add_zero] at HNX
            go_upto_region 13 with fail
            clear z0 z1
            have y0 : ∀ s : In wb, s.1.cell? ⟨Bt, ot + i * 2, none⟩ = some (.int .i64 v1) := fun s => (HZ2.out _ s.2).1
            have y1 : ∀ s : In wb, s.1.cell? ⟨Bt, ot + i * 2 + 1, none⟩ = some (.int .i64 v2) := fun s => (HZ2.out _ s.2).2
            have HUP : Hid (∀ s : In wb, Below w8.heap.size w8 s.1) := Lib.hid fun s => HBB.out.trans (s.2.mono HBB.out.size)
            have hne := In.some wb
            refine region_in wb (by kernel_rfl) (by kernel_rfl) (Below.refl _ _) ?_
            repeat (go_big_quiet_step ((first | (go_at_call 9; exact Calls.quiet_in (HI3.out _ (HUP.out _))))))
            refine wpQuiet_nil ?_
            rintro wc ⟨s, rfl⟩
            have HBC := Lib.hid (HUP.out s)
            go_wp2_with fail
            go_roundw
          case rel => exact ⟨i + 1, k, by omega, by go_num, rfl, by omega, HNX, HBC⟩
          case rel => exact ⟨i + 1, k, by omega, by go_num, rfl, by omega, HNX, HBC⟩
          case rel => exact ⟨i + 1, k + 1, by omega, by go_num, by go_num, by omega, HNX, HBC⟩
          all_goals (simp [intOf]; omega)
        · obtain rfl : i = nt := by omega
          have hsum : i + k = nl + nm := by
            have h1 := HBN.out
            have h2 := HBL.out
            rw [List.take_of_length_le (by have := HNT.out; omega)] at h1
            have := HNT.out; have := HNL.out; have := HNM.out
            omega
          have hsumI : (nl : Int) + (nm : Int) - (k : Int) = (i : Int) := by omega
          have heq : decide ((i : Int) = (nl : Int) + (nm : Int) - (k : Int)) = true := decide_eq_true hsumI.symm
          have hki : (k : Int) ≤ 16384 := by omega
          have HH9 := Lib.hid (HH8.out.below HBR.out)
          have HBW9 : Hid (Below w.heap.size w wr) := Lib.hid (HBW.out.trans (HBR.out.mono HBW.out.size))
          clear HIL HIM HIT HME HBN HLL HLM HA8 HBL HT0 hsum HH8 HBW
          go_wp2_with (first
            | (go_at_call 8; with_reducible refine (HS4.out _ HH9.out).mono ?_; rintro ex w9 ⟨q9, c9, rfl, hb9⟩; have HB9 := Lib.hid (HBW9.out.trans (hb9.mono HBW9.out.size)); clear hb9)
            | (go_at_call 6; with_reducible refine (HLV.out _ HB9.out).mono ?_; rintro ex w10 ⟨rfl, hb⟩; have HB10 := Lib.hid hb; clear hb))
          go_ret
          exact ⟨rfl, HB10.out⟩
end Go.Proofs.Ytekmboolfjicbaa
