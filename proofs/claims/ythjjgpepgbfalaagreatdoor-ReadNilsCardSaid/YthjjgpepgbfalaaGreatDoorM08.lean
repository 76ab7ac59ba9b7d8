/- Texts RdW2 to RdW6 of this seat, laid into one. -/
import Derived.Test.YthjjgpepgbfalaaGreatDoorM07
set_option linter.unusedVariables false
set_option linter.unusedSimpArgs false
set_option linter.constructorNameAsVariable false
section
/-! behind and datum. -/
set_option maxRecDepth 20000
set_option linter.unusedSimpArgs false
set_option linter.unusedVariables false
namespace Go.Proofs.YthjjgpepgbfalaaGreatDoor
open Go.RowKit

section
variable {p sz tb f : Nat}
theorem WentM.trans {w w1 w2 : World} {dp lb : Nat} {S : Nat → Nat} {V : Nat → Value} {σ σ1 σ2 : Ps} (h : WentM p sz tb dp S V lb σ σ1 w w1) (k : ∀ S1 V1 lb1, Pm w1 p sz tb dp S1 V1 lb1 σ1 → WentM p sz tb dp S1 V1 lb1 σ1 σ2 w1 w2) : WentM p sz tb dp S V lb σ σ2 w w2 := by
  obtain ⟨S1, V1, lb1, hm⟩ := h.mid
  obtain ⟨S2, V2, lb2, hm2⟩ := (k _ _ _ hm.pm).mid
  exact (hm.trans hm2).went
set_option maxHeartbeats 1600000 in
theorem behind_step (hs : SkipsC p sz tb f) (hd : DatumC p sz tb f) : BehindC p sz tb (f + 1) := by
  intro w dp S V lb σ r i h hi hM
  rw [behindM] at hM
  cases hS : skipsM sz f dp σ with
  | none => rw [hS] at hM; cases hM
  | some r1 =>
    rw [hS] at hM
    obtain ⟨b, σ1⟩ := r1
    have HS := Lib.hid (hs w dp S V lb σ _ h hS)
    cases b with
    | false =>
      have e := Option.some.inj hM
      subst e
      clear h hi hM hS hs hd
      go_enter Tryz.func66, Tryz.ntmps66
      go_wp2_with (go_at_call 42; with_reducible refine HS.out.mono ?_; rintro e w1 ⟨rfl, h1⟩)
      go_ret
      exact ⟨rfl, h1⟩
    | true =>
      have hM2 : datumM sz f dp i σ1 = some r := hM
      have HD := Lib.hid (fun w1 (h1 : WentM p sz tb dp S V lb σ σ1 w w1) => show Calls Tryz.prog 43 #[.pointer (some ⟨p, 0, none⟩), .pointer (some ⟨S i, 0, none⟩)] w1 fun e w' => e = .returned (.bool r.1) ∧ WentM p sz tb dp S V lb σ r.2 w w' by
        obtain ⟨S1, V1, lb1, hm⟩ := h1.mid
        have hS1 := hm.sx i hi
        have := hd w1 dp S1 V1 lb1 σ1 r i hm.pm (Nat.lt_of_lt_of_le hi hm.len) hM2
        rw [hS1] at this
        refine this.mono ?_
        rintro e w' ⟨rfl, h2⟩
        obtain ⟨S2, V2, lb2, hm2⟩ := h2.mid
        exact ⟨rfl, (hm.trans hm2).went⟩)
      clear h hi hM hM2 hS hs hd
      go_enter Tryz.func66, Tryz.ntmps66
      go_wp2_with (first
        | (go_at_call 42; with_reducible refine HS.out.mono ?_; rintro e w1 ⟨rfl, h1⟩)
        | (go_at_call 43; with_reducible refine (HD.out _ h1).mono ?_; rintro e w2 ⟨rfl, h2⟩))
      go_ret
      exact ⟨rfl, h2⟩
set_option maxHeartbeats 1600000 in
theorem datum_step (hr : RestC p sz tb f) : DatumC p sz tb (f + 1) := by
  intro w dp S V lb σ r i h hi hM
  rw [datumM] at hM
  obtain ⟨E, hE⟩ : ∃ E, faultM dp σ i = E := ⟨_, rfl⟩
  have hF := h.fault hi
  rw [hE] at hM hF
  have HF := Lib.hid hF
  by_cases h0 : E = 0
  · subst h0
    rw [if_neg (by decide)] at hM
    cases hts : σ.ts with
    | nil => rw [hts] at hM; cases hM
    | cons x l =>
      rw [hts] at hM
      have hM2 : restM sz f (dp + 1) σ.A.length { σ with ts := l, A := addN σ.A i x.1 x.2 } = some r := hM
      have hroom := h.room
      have htk := h.tks x (by rw [hts]; exact List.mem_cons_self ..)
      have HT := Lib.hid (fun w1 (hb : Below w.heap.size w w1) => show Calls Tryz.prog 64 #[.pointer (some ⟨p, 0, none⟩)] w1 fun e w' => e = .returned (.agg (Lx.tkC x.1 (x.2 : Int))) ∧ Mid p sz tb dp S V lb σ.A.length w S V lb { σ with ts := l } w' from
        ((h.below hb).take hts).mono fun e w' ⟨h1, h2, h3⟩ => ⟨h1, (Mid.refl h |>.below hb).trans (Mid.of (σ := σ) h2 h3 rfl)⟩)
      have HA := Lib.hid (fun w1 (hm : Mid p sz tb dp S V lb σ.A.length w S V lb { σ with ts := l } w1) => show Calls Tryz.prog 69 #[.pointer (some ⟨S i, 0, none⟩), .agg (Lx.tkC x.1 (x.2 : Int))] w1 fun e w' => ∃ q, e = .returned (.pointer (some q)) ∧ Hid (∃ S1 V1, q = ⟨S1 σ.A.length, 0, none⟩ ∧ Mid p sz tb dp S V lb σ.A.length w S1 V1 lb { σ with ts := l, A := addN σ.A i x.1 x.2 } w' ∧ GMap 3 I64 intV (ptrN S1) w' lb σ.A.length σ.lab) by
        refine (hm.pm.nds.addItem (by have := hm.pm.room; simp at this; show σ.A.length ≤ _; omega) hi x.1 x.2 htk.1 htk.2).mono ?_
        intro e w' ha
        obtain ⟨S1, V1, he, hm2, hg2⟩ := hm.pm.addN (by rw [hts] at hroom; simp at hroom ⊢; omega) ha
        exact ⟨_, he, S1, V1, rfl, hm.trans hm2, hg2⟩)
      have HR := Lib.hid (fun w1 S1 V1 (hm : Mid p sz tb (dp + 1) S V lb σ.A.length w S1 V1 lb { σ with ts := l, A := addN σ.A i x.1 x.2 } w1) (hg : GMap 3 I64 intV (ptrN S1) w1 lb σ.A.length σ.lab) => show Calls Tryz.prog 70 #[.pointer (some ⟨p, 0, none⟩), .pointer (some ⟨S1 σ.A.length, 0, none⟩)] w1 fun e w' => e = .returned (.bool r.1) ∧ ∃ S2 V2 lb2, Mid p sz tb (dp + 1) S V lb σ.A.length w S2 V2 lb2 r.2 w' by
        refine (hr w1 (dp + 1) S1 V1 lb _ r σ.A.length hm.pm (by show _ < (addN σ.A i x.1 x.2).length; rw [addN_len]; omega) (by show (addN σ.A i x.1 x.2).length + 1 + 2 * l.length ≤ _; rw [addN_len]; rw [hts] at hroom; simp at hroom; omega) (by show GMap 3 I64 intV (ptrN S1) w1 lb ((addN σ.A i x.1 x.2).length - 1) σ.lab; rw [addN_len]; exact hg) hM2).mono ?_
        rintro e w' ⟨h1, h2⟩
        obtain ⟨S2, V2, lb2, hm2⟩ := h2.mid
        exact ⟨h1, S2, V2, lb2, hm.trans hm2⟩)
      have hdl := h.dpl
      have HDL := Lib.hid hdl
      have hdI : (dp : Int) ≤ 20000 := by omega
      have HAL : Hid (dp + 1 ≤ (addN σ.A i x.1 x.2).length) := Lib.hid (by rw [addN_len]; omega)
      clear h hi hM hM2 hr hE hroom htk hF hdl
      go_enter Tryz.func43, Tryz.ntmps43
      go_wp2_with (first
        | (go_at_call 67; with_reducible refine HF.out.mono ?_; rintro e w1 ⟨rfl, hb1⟩)
        | (go_at_call 64; with_reducible refine (HT.out _ hb1).mono ?_; rintro e w2 ⟨rfl, hm2⟩)
        | (go_at_call 69; with_reducible refine (HA.out _ hm2).mono ?_; rintro e w3 ⟨q3, rfl, hq3⟩; obtain ⟨S3, V3, rfl, hm3, hg3⟩ := hq3.out; have HG3 := Lib.hid hg3; clear hg3; obtain ⟨v3, ht3, -, ⟨c3, -, -⟩, fz3, -⟩ := hm3.pm.cells; have HM3 := Lib.hid hm3; have hf3 := fz3 3; clear hm3 hq3 ht3 fz3))
      have HM4 : Hid (Mid p sz tb (dp + 1) S V lb σ.A.length w S3 V3 lb { σ with ts := l, A := addN σ.A i x.1 x.2 } (w3.setCell ⟨p, 3, none⟩ (.int .i64 ((dp : Int) + 1)))) := Lib.hid (HM3.out.trans (HM3.out.pm.setDeep (dp' := dp + 1) HAL.out (x := (dp : Int) + 1) (by omega)))
      have HG4 : Hid (GMap 3 I64 intV (ptrN S3) (w3.setCell ⟨p, 3, none⟩ (.int .i64 ((dp : Int) + 1))) lb σ.A.length σ.lab) := Lib.hid (HG3.out.same (heap_setCell_other _ _ _ _ (fun e => HM3.out.pm.pne.1 e.symm)))
      clear c3 hf3
      generalize w3.setCell ⟨p, 3, none⟩ (.int .i64 ((dp : Int) + 1)) = w4 at *
      go_wp2_with (go_at_call 70; with_reducible refine (HR.out _ _ _ HM4.out HG4.out).mono ?_; rintro e w5 ⟨rfl, S5, V5, lb5, hm5⟩; obtain ⟨v5, ht5, -, ⟨c3, -, -⟩, fz5, -⟩ := hm5.pm.cells; have HM5 := Lib.hid hm5; have hf5 := fz5 3; clear hm5 ht5 fz5)
      go_ret
      exact ⟨rfl, (HM5.out.trans (HM5.out.pm.setDeep (dp' := dp) (by have := HM5.out.len; have := HDL.out; omega) (by omega))).went⟩
  · have hbe : (E != 0) = true := by simpa using h0
    rw [if_pos h0] at hM
    have e := Option.some.inj hM
    subst e
    have HFA := Lib.hid (fun w1 (hb : Below w.heap.size w w1) => show Calls Tryz.prog 68 #[.pointer (some ⟨p, 0, none⟩), .int .i64 E] w1 fun e w' => e = .returned (.bool false) ∧ WentM p sz tb dp S V lb σ (failM sz σ E) w w' from
      ((h.below hb).fails E).mono fun e w' ⟨h1, h2, h3⟩ => ⟨h1, ((Mid.refl h |>.below hb).trans (Mid.of (σ := σ) h2 h3 rfl)).went⟩)
    clear h hi hM hr hE h0 hF
    go_enter Tryz.func43, Tryz.ntmps43
    go_wp2_with (first
      | (go_at_call 67; with_reducible refine HF.out.mono ?_; rintro e w1 ⟨rfl, hb1⟩)
      | (go_at_call 68; with_reducible refine (HFA.out _ hb1).mono ?_; rintro e w2 ⟨rfl, h2⟩))
    go_ret
    exact ⟨rfl, h2⟩
end
end Go.Proofs.YthjjgpepgbfalaaGreatDoor
end
section
/-! skips. -/
set_option maxRecDepth 20000
set_option linter.unusedSimpArgs false
set_option linter.unusedVariables false
namespace Go.Proofs.YthjjgpepgbfalaaGreatDoor
open Go.RowKit

section
variable {w w1 w2 w4 w5 : World} {p sz tb dp dp1 dp2 lb lb1 lb2 lb5 n : Nat} {S S1 S2 S4 S5 : Nat → Nat} {V V1 V2 V4 V5 : Nat → Value} {σ σ1 σ2 σ4 σ5 : Ps} {A : List Nd}
theorem Nds.notMap (h : Nds w S V A) {b : Nat} (hb : ∃ es c, w.heap[b]? = some (.map es c)) : ¬ footN S V A.length b := by
  obtain ⟨es, c, hm⟩ := hb
  rintro ⟨i, hi, e | e⟩
  · have := h.hd i hi; rw [← e, hm] at this; cases this
  · obtain ⟨cur, hc⟩ := own_head (h.row i hi) e; rw [hm] at hc; cases hc
/-- The labels that were ahead, set again. -/
theorem Mid.restore (h : Pm w2 p sz tb dp S V lb σ2) (hm : Mid p sz tb dp S V lb σ2.A.length w2 S4 V4 lb2 σ4 w4) (hlb : w4.heap[lb]? = w2.heap[lb]?) (hl2 : w2.heap.size ≤ lb2) (k : Mid p sz tb dp S4 V4 lb2 σ4.A.length w4 S5 V5 lb5 σ5 w5) :
    Mid p sz tb dp S V lb σ2.A.length w2 S5 V5 lb { σ5 with lab := σ2.lab } (w5.setCell ⟨p, 2, none⟩ (.map (some lb))) := by
  obtain ⟨n1, n2, n3⟩ := h.pne
  have hlt := h.lab.lt
  have hmp4 : ∃ es c, w4.heap[lb]? = some (.map es c) := by obtain ⟨es, c, hh⟩ := h.lab.isMap; exact ⟨es, c, hlb.trans hh⟩
  have h5 : w5.heap[lb]? = w2.heap[lb]? := by
    refine (k.chp.block lb (Nat.lt_of_lt_of_le hlt hm.chp.size) ?_).trans hlb
    rintro (e | e | e)
    · exact n1 e.symm
    · omega
    · exact hm.pm.nds.notMap hmp4 e
  have hsx : ∀ j, j < σ2.A.length → S5 j = S j := fun j hj => (k.sx j (Nat.lt_of_lt_of_le hj hm.len)).trans (hm.sx j hj)
  have hle := Nat.le_trans hm.len k.len
  have hg : GMap 3 I64 intV (ptrN S5) w5 lb σ5.A.length σ2.lab := by
    refine ((h.lab.same h5).more hle).congr (fun x hx => ⟨fun s hs => ⟨s, hs, ?_⟩, id⟩) (fun x s hs => h.lab.inDom hs)
    unfold ptrN; rw [hsx s (h.labIn x s hs)]
  refine ⟨k.pm.setLab hg (fun x j hj => by have := h.labIn x j hj; omega), ?_, hsx, hle⟩
  have hc : Chp (footM p S V lb σ2.A.length) (fun q => q = lb ∨ footM p S5 V5 lb5 σ5.A.length q) w2 w5 := by
    have a1 := hm.chp.congr (G := footM p S V lb σ2.A.length) (G' := fun q => q = lb ∨ footM p S4 V4 lb2 σ4.A.length q) (fun q hq => hq) (fun q hq => hq.elim (fun e => .inr (.inl (.inr (.inl e)))) .inl)
    have a2 := k.chp.congr (G := fun q => q = lb ∨ footM p S4 V4 lb2 σ4.A.length q) (G' := fun q => q = lb ∨ footM p S5 V5 lb5 σ5.A.length q) (fun q hq => .inr hq) (fun q hq => hq.elim (fun e => .inr (.inl (.inl e))) .inl)
    exact a1.trans a2
  refine hc.trans ((Chp.setCell (F := fun q => q = lb ∨ footM p S5 V5 lb5 σ5.A.length q) (.inr (.inl rfl)) _ w5).congr (fun q hq => hq) fun q hq => .inr (.inl ?_))
  rcases hq with e | e | e
  · exact .inr (.inl e)
  · exact .inl e
  · exact .inr (.inr (.inr e))
/-- A copy of the labels, set. -/
theorem Mid.relab (h : Pm w2 p sz tb dp S V lb σ2) (hb : Below w2.heap.size w2 w4) (hl : w2.heap.size ≤ lb2) (hg : GMap 3 I64 intV (ptrN S) w4 lb2 σ2.A.length σ2.lab) :
    Mid p sz tb dp S V lb σ2.A.length w2 S V lb2 σ2 (w4.setCell ⟨p, 2, none⟩ (.map (some lb2))) := by
  have h4 := h.below hb
  refine ⟨(h4.setLab hg h.labIn), ?_, fun _ _ => rfl, Nat.le_refl _⟩
  refine ((Chp.of_below (F := footM p S V lb σ2.A.length) hb).trans (Chp.setCell (.inl rfl) _ w4)).congr (fun q hq => hq) fun q hq => ?_
  rcases hq with e | e | e
  · exact .inr (.inl (.inl e))
  · exact .inr (.inr (by omega))
  · exact .inr (.inl (.inr (.inr e)))
theorem ndC0 (S : Nat → Nat) : ndC S nd0 (.slice none 0 0) = #[.int .i64 0, .int .i64 0, .string ⟨#[]⟩, .int .i64 0, .slice none 0 0, .bool false, .pointer none, .int .i64 0, .int .i64 0] := rfl
/-- A node of none's. -/
theorem Mid.newN (h : Pm w p sz tb dp S V lb σ) (hr : σ.A.length + 1 + 2 * σ.ts.length ≤ 20000) :
    Mid p sz tb dp S V lb σ.A.length w (upd S σ.A.length w.heap.size) (upd V σ.A.length (.slice none 0 0)) lb { σ with A := σ.A ++ [nd0] } (w.alloc (.cells #[.int .i64 0, .int .i64 0, .string ⟨#[]⟩, .int .i64 0, .slice none 0 0, .bool false, .pointer none, .int .i64 0, .int .i64 0] 74)) := by
  obtain ⟨W, hW⟩ : ∃ W, w.alloc (.cells #[.int .i64 0, .int .i64 0, .string ⟨#[]⟩, .int .i64 0, .slice none 0 0, .bool false, .pointer none, .int .i64 0, .int .i64 0] 74) = W := ⟨_, rfl⟩
  have hb : Below w.heap.size w W := by rw [← hW]; exact alloc_below _ _
  have hx : W.heap[w.heap.size]? = some (.cells (ndC S nd0 (.slice none 0 0)) 74 (0, 0)) := by rw [← hW, ndC0]; exact heap_alloc_new _ _
  rw [hW]
  have hnb : ¬ footN S V σ.A.length w.heap.size := fun e => by have := h.nds.lt _ e; omega
  have hn := h.nds.snoc nd0 w.heap.size rfl rfl hx hnb (fun k hk => hb.block k (h.nds.lt k hk)) ⟨TkOk.zero, Nat.zero_le _, (by unfold I64; decide : I64 0), (by unfold I64; decide : I64 0)⟩
  have hsx : ∀ j, j < σ.A.length → upd S σ.A.length w.heap.size j = S j := fun j hj => upd_other _ _ (by omega)
  have h2 := h.below hb
  refine ⟨⟨h2.hd, ?_, hn, fun x j hj => ?_, h.tks, ?_, ?_, h.szl, h.pll⟩, ?_, hsx, ?_⟩
  · show GMap 3 I64 intV _ W lb (σ.A ++ [nd0]).length σ.lab
    rw [List.length_append]
    refine (h2.lab.more (Nat.le_succ _)).congr (fun x hx => ⟨fun s hs => ⟨s, hs, ?_⟩, id⟩) (fun x s hs => h.lab.inDom hs)
    unfold ptrN
    rw [hsx s (h.labIn x s hs)]
  · show j < (σ.A ++ [nd0]).length
    have := h.labIn x j hj; simp; omega
  · show dp ≤ (σ.A ++ [nd0]).length
    have := h.dpl; simp; omega
  · show (σ.A ++ [nd0]).length + 2 * σ.ts.length ≤ 20000
    simpa using hr
  · show Chp _ (footM p _ _ lb (σ.A ++ [nd0]).length) w W
    rw [show (σ.A ++ [nd0]).length = σ.A.length + 1 by simp]
    refine (Chp.of_below (F := footM p S V lb σ.A.length) hb).congr (fun q hq => hq) fun q hq => ?_
    rcases hq with e | e | e
    · exact .inr (.inl (.inl e))
    · exact .inr (.inl (.inr (.inl e)))
    · rcases footN_snoc (w := w) (S := S) (V := V) (Nat.le_refl _) q e with e2 | e2
      · exact .inr (.inl (.inr (.inr e2)))
      · exact .inr (.inr e2)
  · show _ ≤ (σ.A ++ [nd0]).length
    simp
end
end Go.Proofs.YthjjgpepgbfalaaGreatDoor
end
section
/-! skips, walked. -/
set_option maxRecDepth 20000
set_option linter.unusedSimpArgs false
set_option linter.unusedVariables false
namespace Go.Proofs.YthjjgpepgbfalaaGreatDoor
open Go.RowKit

theorem skipsM_no {sz f dp : Nat} {σ : Ps} {r : Bool × Ps} (hk : isK σ 8 = false) (h : skipsM sz f dp σ = some r) : r = (true, σ) := by
  cases f with
  | zero => rw [skipsM] at h; cases h
  | succ f =>
    rw [skipsM, if_neg (by rw [hk]; decide)] at h
    exact (Option.some.inj h).symm
theorem skipsM_yes {sz f dp : Nat} {σ : Ps} {r : Bool × Ps} (hk : isK σ 8 = true) (h : skipsM sz f dp σ = some r) : ∃ g b σ', f = g + 1 ∧ behindM sz g dp σ.A.length { σ with ts := σ.ts.tail, A := σ.A ++ [nd0] } = some (b, σ') ∧ (b = false → r = (false, σ')) ∧ (b = true → skipsM sz g dp { σ' with lab := σ.lab } = some r) := by
  cases f with
  | zero => rw [skipsM] at h; cases h
  | succ f =>
    rw [skipsM, if_pos hk] at h
    cases hB : behindM sz f dp σ.A.length { σ with ts := σ.ts.tail, A := σ.A ++ [nd0] } with
    | none => rw [hB] at h; cases h
    | some q =>
      obtain ⟨b, σ'⟩ := q
      rw [hB] at h
      refine ⟨f, b, σ', rfl, hB, fun e => ?_, fun e => ?_⟩
      · subst e; exact (Option.some.inj h).symm
      · subst e; exact h
theorem isK_cons {σ : Ps} {k : Nat} (h : isK σ k = true) : ∃ x l, σ.ts = x :: l := by
  unfold isK at h
  cases hts : σ.ts with
  | nil => rw [hts] at h; cases h
  | cons x l => exact ⟨x, l, rfl⟩
/-- The least number of a kind, if there is one. -/
theorem least_ex (Q : Nat → Prop) : ∃ n, (∀ m, Q m → n ≤ m) ∧ ((∃ m, Q m) → Q n) := by
  by_cases h : ∃ m, Q m
  · obtain ⟨m, hm⟩ := h
    induction m using Nat.strongRecOn with
    | ind m ih =>
      by_cases hl : ∃ k, k < m ∧ Q k
      · obtain ⟨k, hk, hq⟩ := hl
        exact ih k hk hq
      · exact ⟨m, fun k hk => Nat.le_of_not_lt fun hlt => hl ⟨k, hlt, hk⟩, fun _ => hm⟩
  · exact ⟨0, fun m _ => Nat.zero_le m, fun hm => absurd hm h⟩
noncomputable def leastN (Q : Nat → Prop) : Nat := Classical.choose (least_ex Q)
theorem leastN_le {Q : Nat → Prop} {m : Nat} (h : Q m) : leastN Q ≤ m := (Classical.choose_spec (least_ex Q)).1 m h
theorem leastN_is {Q : Nat → Prop} (h : ∃ m, Q m) : Q (leastN Q) := (Classical.choose_spec (least_ex Q)).2 h
section
variable {p sz tb f : Nat}
/-- Amid skips: with so many steps left. -/
def SkJ (p sz tb dp f : Nat) (S : Nat → Nat) (V : Nat → Value) (lb n : Nat) (w : World) (r : Bool × Ps) (wr : World) (g : Nat) : Prop := g ≤ f + 1 ∧ ∃ (S1 : Nat → Nat) (V1 : Nat → Value) (σ1 : Ps), Mid p sz tb dp S V lb n w S1 V1 lb σ1 wr ∧ skipsM sz g dp σ1 = some r
set_option maxHeartbeats 3200000 in
theorem skips_step (hb : ∀ g, g ≤ f → BehindC p sz tb g) : SkipsC p sz tb (f + 1) := by
  intro w dp S V lb σ r h hM
  have HJ0 : Hid (SkJ p sz tb dp f S V lb σ.A.length w r w (f + 1)) := Lib.hid ⟨Nat.le_refl _, S, V, σ, Mid.refl h, hM⟩
  have HW : Hid (∀ S1 V1 lb1 σ1 w1, Mid p sz tb dp S V lb σ.A.length w S1 V1 lb1 σ1 w1 → WentM p sz tb dp S V lb σ σ1 w w1) := Lib.hid fun S1 V1 lb1 σ1 w1 hm => hm.went
  have HBC := Lib.hid hb
  clear h hM hb
  generalize σ.A.length = n at *
  go_enter Tryz.func42, Tryz.ntmps42
  go_wp2_with fail
  go_loopw [] (fun wr => ∃ g : Nat, Hid (SkJ p sz tb dp f S V lb n w r wr g)) (fun wr => leastN (fun g => Hid (SkJ p sz tb dp f S V lb n w r wr g)))
  case atStart => exact ⟨_, HJ0⟩
  case round =>
    have HL := leastN_is hrel
    obtain ⟨G, hG⟩ : ∃ G, leastN (fun g => Hid (SkJ p sz tb dp f S V lb n w r wr g)) = G := ⟨_, rfl⟩
    rw [hG] at HL
    have HGG := Lib.hid hG
    clear hrel HJ0 hG
    obtain ⟨hg, S1, V1, σ1, hm, hM⟩ := HL.out
    have HM := Lib.hid hm
    have HI : Hid (Calls Tryz.prog 63 #[.pointer (some ⟨p, 0, none⟩), .int .i64 8] wr fun e w' => e = .returned (.bool (isK σ1 8)) ∧ wr = w') := Lib.hid (hm.pm.callIs 8)
    cases hk : isK σ1 8 with
    | false =>
      have hr := skipsM_no hk hM
      subst hr
      rw [hk] at HI
      clear hM hm hg hk HL HGG
      go_wp2_with (go_at_call 63; with_reducible refine HI.out.mono ?_; rintro e w1 ⟨rfl, rfl⟩)
      go_ret
      exact ⟨rfl, HW.out _ _ _ _ _ HM.out⟩
    | true =>
      rw [hk] at HI
      obtain ⟨g, b, σ2, rfl, hB, hb0, hb1⟩ := skipsM_yes hk hM
      obtain ⟨x, l, hts⟩ := isK_cons hk
      have hts2 : σ1.ts.tail = l := by rw [hts]; rfl
      rw [hts2] at hB
      have hroom := hm.pm.room
      rw [hts] at hroom
      have HT : Hid (Calls Tryz.prog 64 #[.pointer (some ⟨p, 0, none⟩)] wr fun e w' => e = .returned (.agg (Lx.tkC x.1 (x.2 : Int))) ∧ Mid p sz tb dp S V lb n w S1 V1 lb { σ1 with ts := l } w') :=
        Lib.hid ((hm.pm.take hts).mono fun e w' ⟨h1, h2, h3⟩ => ⟨h1, hm.trans (Mid.of (σ := σ1) h2 h3 rfl)⟩)
      have HB := Lib.hid (fun w1 S2 V2 lb2 (k : Mid p sz tb dp S V lb n w S2 V2 lb2 { σ1 with ts := l, A := σ1.A ++ [nd0] } w1) => show Calls Tryz.prog 66 #[.pointer (some ⟨p, 0, none⟩), .pointer (some ⟨S2 σ1.A.length, 0, none⟩)] w1 fun e w' => e = .returned (.bool b) ∧ ∃ S3 V3 lb3, Mid p sz tb dp S2 V2 lb2 (σ1.A.length + 1) w1 S3 V3 lb3 σ2 w' by
        have hl1 : (σ1.A ++ [nd0]).length = σ1.A.length + 1 := by simp
        refine (HBC.out g (by omega) w1 dp S2 V2 lb2 _ (b, σ2) σ1.A.length k.pm (by show _ < (σ1.A ++ [nd0]).length; omega) hB).mono ?_
        rintro e w' ⟨h1, h2⟩
        obtain ⟨S3, V3, lb3, h3⟩ := h2.mid
        have h4 : Mid p sz tb dp S2 V2 lb2 (σ1.A ++ [nd0]).length w1 S3 V3 lb3 σ2 w' := h3
        rw [hl1] at h4
        exact ⟨h1, S3, V3, lb3, h4⟩)
      have HR : Hid (σ1.A.length + 1 + 2 * l.length ≤ 20000) := Lib.hid (by simp at hroom; omega)
      have HB0 := Lib.hid hb0
      have HB1 := Lib.hid hb1
      have HGF : Hid (g ≤ f + 1) := Lib.hid (by omega)
      have HLN : Hid (n ≤ σ1.A.length) := Lib.hid hm.len
      clear hm hg hk hM hB hb0 hb1 hts hts2 hroom HL
      go_upto_region 4 with (first
        | (go_at_call 63; with_reducible refine HI.out.mono ?_; rintro e w1 ⟨rfl, rfl⟩)
        | (go_at_call 64; with_reducible refine HT.out.mono ?_; rintro e w2 ⟨rfl, hm2⟩; obtain ⟨v2, -, ⟨-, -, c2⟩, -, fz2, hp2⟩ := hm2.pm.cells; have HP2 := Lib.hid hp2; have HM2 := Lib.hid hm2; have hf2 := fz2 2; clear hm2 fz2 hp2))
      have HC := Lib.hid (labClone HM2.out.pm.lab)
      go_upto_region 5 with (go_at_call 65; with_reducible refine HC.out.mono ?_; rintro e w3 ⟨⟨lb2, rfl, hl2, hg3⟩, hb3⟩; have c3 := (hb3.cell (World.block_lt_of_cell? w2 _ c2)).trans c2; have f3 := (hb3.frozen (World.block_lt_of_cell? w2 _ c2)).trans hf2)
      have HMA : Hid (Mid p sz tb dp S1 V1 lb σ1.A.length w2 (upd S1 σ1.A.length (w3.setCell ⟨p, 2, none⟩ (.map (some lb2))).heap.size) (upd V1 σ1.A.length (.slice none 0 0)) lb2 { σ1 with ts := l, A := σ1.A ++ [nd0] } ((w3.setCell ⟨p, 2, none⟩ (.map (some lb2))).alloc (.cells #[.int .i64 0, .int .i64 0, .string ⟨#[]⟩, .int .i64 0, .slice none 0 0, .bool false, .pointer none, .int .i64 0, .int .i64 0] 74))) := Lib.hid (by
        have k := Mid.relab HM2.out.pm hb3 hl2 hg3
        exact k.trans (Mid.newN k.pm HR.out))
      have HLB : Hid (((w3.setCell ⟨p, 2, none⟩ (.map (some lb2))).alloc (.cells #[.int .i64 0, .int .i64 0, .string ⟨#[]⟩, .int .i64 0, .slice none 0 0, .bool false, .pointer none, .int .i64 0, .int .i64 0] 74)).heap[lb]? = w2.heap[lb]?) := Lib.hid (by
        have hlt := HM2.out.pm.lab.lt
        have hne := HM2.out.pm.pne.1
        have hl3 := Nat.lt_of_lt_of_le hlt hb3.size
        exact (Below.heap_alloc _ _ _ (by simpa using hl3)).trans ((heap_setCell_other _ _ _ _ (fun e => hne e.symm)).trans (hb3.block lb hlt)))
      have HL2 := Lib.hid hl2
      have hS4 : (w3.setCell ⟨p, 2, none⟩ (.map (some lb2))).heap.size = w3.heap.size := by simp
      clear hb3 hl2 hg3 c2 hf2 c3 f3 HC
      generalize w3.setCell ⟨p, 2, none⟩ (.map (some lb2)) = w4 at *
      have hS5 : ∀ j, j = w4.heap.size → upd S1 σ1.A.length w4.heap.size σ1.A.length = j := fun j hj => by rw [upd_same, hj]
      have HBX := HB.out _ _ _ _ (HM2.out.trans HMA.out)
      rw [upd_same] at HBX
      have HB' := Lib.hid HBX
      clear HBX HB hS4 hS5
      cases b with
      | false =>
        have hr := HB0.out rfl
        subst hr
        go_wp2_with (go_at_call 66; with_reducible refine HB'.out.mono ?_; rintro e w5 ⟨rfl, S5, V5, lb5, hm5⟩)
        go_ret
        refine ⟨rfl, HW.out _ _ _ _ _ (HM2.out.trans (HMA.out.trans (?_ : Mid p sz tb dp _ _ lb2 _ _ S5 V5 lb5 σ2 w5)))⟩
        rw [show (σ1.A ++ [nd0]).length = σ1.A.length + 1 by simp]
        exact hm5
      | true =>
        have HBT := Lib.hid (HB1.out rfl)
        clear HB1 HB0
        go_upto_region 7 with (go_at_call 66; with_reducible refine HB'.out.mono ?_; rintro e w5 ⟨rfl, S5, V5, lb5, hm5⟩; obtain ⟨v5, -, ⟨-, -, c5⟩, -, fz5, -⟩ := hm5.pm.cells; have HM5 := Lib.hid hm5; have hf5 := fz5 2; clear hm5 fz5)
        have HRS : Hid (Mid p sz tb dp S1 V1 lb σ1.A.length w2 S5 V5 lb { σ2 with lab := σ1.lab } (w5.setCell ⟨p, 2, none⟩ (.map (some lb)))) := Lib.hid (by
          have k := HM5.out
          rw [show σ1.A.length + 1 = (σ1.A ++ [nd0]).length by simp] at k
          exact Mid.restore (σ2 := { σ1 with ts := l }) HM2.out.pm HMA.out HLB.out HL2.out k)
        go_wp2_with fail
        go_roundw
        case rel => exact ⟨g, Lib.hid ⟨HGF.out, S5, V5, _, HM2.out.trans HRS.out, HBT.out⟩⟩
        case measure =>
          have h1 := leastN_le (Q := fun g => Hid (SkJ p sz tb dp f S V lb n w r (w5.setCell ⟨p, 2, none⟩ (.map (some lb))) g)) (m := g) (Lib.hid ⟨HGF.out, S5, V5, _, HM2.out.trans HRS.out, HBT.out⟩)
          have h2 := HGG.out
          omega
end
end Go.Proofs.YthjjgpepgbfalaaGreatDoor
end
section
/-! rest. -/
set_option maxRecDepth 20000
set_option linter.unusedSimpArgs false
set_option linter.unusedVariables false
namespace Go.Proofs.YthjjgpepgbfalaaGreatDoor
open Go.RowKit

section
variable {p sz tb f : Nat}
theorem nameOf_len (k : Nat) : (nameOf k).length ≤ 16 := by unfold nameOf; split <;> (try split) <;> (try split) <;> decide
set_option maxHeartbeats 1600000 in
theorem rest_row (hr : RowC p sz tb f) (w : World) (dp : Nat) (S : Nat → Nat) (V : Nat → Value) (lb : Nat) (σ : Ps) (r : Bool × Ps) (i : Nat) (h : Pm w p sz tb dp S V lb σ) (hi : i < σ.A.length)
    (hk : (ndAt σ.A i).t.k = 0 ∨ (ndAt σ.A i).t.k = 2 ∨ (ndAt σ.A i).t.k = 3) (hM : rowM sz f dp i σ = some r) :
    Calls Tryz.prog 70 #[.pointer (some ⟨p, 0, none⟩), .pointer (some ⟨S i, 0, none⟩)] w fun e w' => e = .returned (.bool r.1) ∧ WentM p sz tb dp S V lb σ r.2 w w' := by
  obtain ⟨⟨c0, -⟩, -⟩ := h.nds.cells hi
  have HR := Lib.hid (hr w dp S V lb σ r i h hi hM)
  obtain ⟨K, hK⟩ : ∃ K : Int, ((ndAt σ.A i).t.k : Int) = K := ⟨_, rfl⟩
  rw [hK] at c0
  rcases hk with e | e | e <;> (rw [e] at hK; simp at hK; subst hK) <;>
    (clear h hi hM hr e
     go_enter Tryz.func70, Tryz.ntmps70
     go_wp2_with (go_at_call 100; with_reducible refine HR.out.mono ?_; rintro e w1 ⟨rfl, h1⟩)
     go_ret
     exact ⟨rfl, h1⟩)
set_option maxHeartbeats 3200000 in
theorem rest_mark (hb : BehindC p sz tb f) (w : World) (dp : Nat) (S : Nat → Nat) (V : Nat → Value) (lb : Nat) (σ : Ps) (r : Bool × Ps) (i : Nat) (h : Pm w p sz tb dp S V lb σ) (hi : i < σ.A.length) (hroom : σ.A.length + 1 + 2 * σ.ts.length ≤ 20000)
    (hk : (ndAt σ.A i).t.k = 4 ∨ (ndAt σ.A i).t.k = 5 ∨ (ndAt σ.A i).t.k = 6 ∨ (ndAt σ.A i).t.k = 7) (hM : behindM sz f dp i { σ with A := addN σ.A i ⟨14, 0, nameOf (ndAt σ.A i).t.k⟩ 0 } = some r) :
    Calls Tryz.prog 70 #[.pointer (some ⟨p, 0, none⟩), .pointer (some ⟨S i, 0, none⟩)] w fun e w' => e = .returned (.bool r.1) ∧ WentM p sz tb dp S V lb σ r.2 w w' := by
  obtain ⟨⟨c0, -⟩, -⟩ := h.nds.cells hi
  have HNM := Lib.hid (nameOf_any (ndAt σ.A i).t.k (by omega))
  obtain ⟨T, hT⟩ : ∃ T, nameOf (ndAt σ.A i).t.k = T := ⟨_, rfl⟩
  have hTl : T.length ≤ 16 := by rw [← hT]; exact nameOf_len _
  rw [hT] at HNM hM
  have HA := Lib.hid (show Calls Tryz.prog 69 #[.pointer (some ⟨S i, 0, none⟩), .agg #[.int .i64 14, .int .i64 0, .string ⟨T.toArray⟩, .int .i64 0]] w fun e w' => ∃ q, e = .returned (.pointer (some q)) ∧ Hid (∃ S1 V1, Mid p sz tb dp S V lb σ.A.length w S1 V1 lb { σ with A := addN σ.A i ⟨14, 0, T⟩ 0 } w') by
    have h1 := h.nds.addItem (by omega) hi ⟨14, 0, T⟩ 0 ⟨by show 14 ≤ 16; decide, (by unfold I64; decide : I64 0), by show T.length ≤ _; omega⟩ (by omega)
    unfold Lx.tkC at h1
    refine h1.mono ?_
    intro e w' ha
    obtain ⟨S1, V1, he, hm2, -⟩ := h.addN hroom ha
    exact ⟨_, he, S1, V1, hm2⟩)
  have HB := Lib.hid (fun w1 S1 V1 (hm : Mid p sz tb dp S V lb σ.A.length w S1 V1 lb { σ with A := addN σ.A i ⟨14, 0, T⟩ 0 } w1) => show Calls Tryz.prog 66 #[.pointer (some ⟨p, 0, none⟩), .pointer (some ⟨S i, 0, none⟩)] w1 fun e w' => e = .returned (.bool r.1) ∧ WentM p sz tb dp S V lb σ r.2 w w' by
    have h1 := hb w1 dp S1 V1 lb _ r i hm.pm (by show i < (addN σ.A i ⟨14, 0, T⟩ 0).length; rw [addN_len]; omega) hM
    rw [hm.sx i hi] at h1
    refine h1.mono ?_
    rintro e w' ⟨h2, h3⟩
    obtain ⟨S2, V2, lb2, hm2⟩ := h3.mid
    exact ⟨h2, (hm.trans hm2).went⟩)
  have hbk := Lx.buildKS 14 ⟨T.toArray⟩
  obtain ⟨K, hK⟩ : ∃ K : Int, ((ndAt σ.A i).t.k : Int) = K := ⟨_, rfl⟩
  have HNM2 : Hid (∀ u, Calls Tryz.prog 101 #[.int .i64 K] u fun e w' => e = .returned (.string ⟨T.toArray⟩) ∧ u = w') := Lib.hid (by rw [← hK]; exact HNM.out)
  rw [hK] at c0
  rcases hk with e | e | e | e <;> (rw [e] at hK; simp at hK; subst hK) <;>
    (clear h hi hM hb e hroom HNM hT hTl
     go_enter Tryz.func70, Tryz.ntmps70
     go_wp2_with (first
       | (go_at_call 101; with_reducible refine (HNM2.out _).mono ?_; rintro e w1 ⟨rfl, rfl⟩)
       | (go_at_call 69; with_reducible refine HA.out.mono ?_; rintro e w2 ⟨q2, rfl, hq2⟩; obtain ⟨S2, V2, hm2⟩ := hq2.out)
       | (go_at_call 66; with_reducible refine (HB.out _ _ _ hm2).mono ?_; rintro e w3 ⟨rfl, h3⟩))
     go_ret
     exact ⟨rfl, h3⟩)
set_option maxHeartbeats 1600000 in
theorem rest_word (w : World) (dp : Nat) (S : Nat → Nat) (V : Nat → Value) (lb : Nat) (σ : Ps) (i : Nat) (h : Pm w p sz tb dp S V lb σ) (hi : i < σ.A.length)
    (hk : (ndAt σ.A i).t.k = 1 ∨ (ndAt σ.A i).t.k = 8 ∨ (ndAt σ.A i).t.k = 9 ∨ (ndAt σ.A i).t.k = 10 ∨ (ndAt σ.A i).t.k = 11 ∨ (ndAt σ.A i).t.k = 12 ∨ (ndAt σ.A i).t.k = 13 ∨ (ndAt σ.A i).t.k = 14) :
    Calls Tryz.prog 70 #[.pointer (some ⟨p, 0, none⟩), .pointer (some ⟨S i, 0, none⟩)] w fun e w' => e = .returned (.bool true) ∧ WentM p sz tb dp S V lb σ σ w w' := by
  obtain ⟨⟨c0, -⟩, -⟩ := h.nds.cells hi
  have HH := Lib.hid h
  obtain ⟨K, hK⟩ : ∃ K : Int, ((ndAt σ.A i).t.k : Int) = K := ⟨_, rfl⟩
  rw [hK] at c0
  rcases hk with e | e | e | e | e | e | e | e <;> (rw [e] at hK; simp at hK; subst hK) <;>
    (clear h hi e
     go_enter Tryz.func70, Tryz.ntmps70
     go_wp2_with fail
     go_ret
     exact ⟨rfl, WentM.refl HH.out⟩)
theorem upd_self {α : Type} (V : Nat → α) (i : Nat) : upd V i (V i) = V := by
  funext j; unfold upd; split
  · rename_i e; rw [e]
  · rfl
/-- A node's field set, what lies in it left. -/
theorem Pm.setNd {w w' : World} {dp lb i : Nat} {S : Nat → Nat} {V : Nat → Value} {σ : Ps} (h : Pm w p sz tb dp S V lb σ) (hi : i < σ.A.length) (x : Nd) (hx : x.is = (ndAt σ.A i).is) (hsm : ∀ j, x.sm = some j → j < σ.A.length) (ht : TkOk x.t ∧ x.a ≤ 100000 ∧ I64 x.v.1 ∧ I64 x.v.2)
    (hw : w'.heap[S i]? = some (.cells (ndC S x (V i)) 74 (0, 0))) (ho : Only (S i) w w') : Mid p sz tb dp S V lb σ.A.length w S V lb { σ with A := σ.A.set i x } w' := by
  have hlen : (σ.A.set i x).length = σ.A.length := List.length_set ..
  have hn := h.nds.put hi x (V i) hw (by
      rw [hx]
      exact own_other (h.nds.row i hi) fun k hk => ho.block k (own_lt (h.nds.row i hi) hk) (h.nds.ne hi hi hk).symm)
    (fun k hk n1 n2 => ho.block k (h.nds.lt k hk) n1) (fun k hk => .inl hk) ⟨fun j hj => (h.nds.ord i hi).1 j (hx ▸ hj), hsm⟩ (by rw [hx]; exact h.nds.len i hi) ht
  rw [upd_self] at hn
  obtain ⟨n1, n2, n3⟩ := h.pne
  obtain ⟨v, h1, h2⟩ := h.hd
  have e1 : p ≠ S i := fun e => n2 ⟨i, hi, .inl e⟩
  have e2 : lb ≠ S i := fun e => n3 ⟨i, hi, .inl e⟩
  refine ⟨⟨⟨v, (ho.block p h.plt e1).trans h1, h2.keep fun hh => ?_⟩, ?_, hn, fun y j hj => ?_, h.tks, ?_, ?_, h.szl, h.pll⟩, ?_, fun _ _ => rfl, ?_⟩
  · have hnb := h.tbn hh
    obtain ⟨cs, fr, hh⟩ := hh
    exact ho.block tb (lt_of_block hh) fun e => hnb (.inr (.inr ⟨i, hi, .inl e⟩))
  · show GMap 3 I64 intV (ptrN S) w' lb (σ.A.set i x).length σ.lab
    rw [hlen]; exact h.lab.same (ho.block lb h.lab.lt e2)
  · show j < (σ.A.set i x).length
    rw [hlen]; exact h.labIn y j hj
  · show dp ≤ (σ.A.set i x).length
    rw [hlen]; exact h.dpl
  · show (σ.A.set i x).length + 2 * σ.ts.length ≤ 20000
    rw [hlen]; exact h.room
  · show Chp _ (footM p S V lb (σ.A.set i x).length) w w'
    rw [hlen]; exact Chp.only ho (.inr (.inr ⟨i, hi, .inl rfl⟩))
  · show _ ≤ (σ.A.set i x).length
    rw [hlen]; exact Nat.le_refl _
/-- A label put. -/
theorem Pm.putLb {w w9 : World} {dp lb i : Nat} {S : Nat → Nat} {V : Nat → Value} {σ : Ps} {x : Int} (h : Pm w p sz tb dp S V lb σ) (hi : i < σ.A.length) (hg : GMap 3 I64 intV (ptrN S) w9 lb σ.A.length (putLab σ.lab x i)) (ho : Only lb w w9) :
    Mid p sz tb dp S V lb σ.A.length w S V lb { σ with lab := putLab σ.lab x i } w9 := by
  obtain ⟨n1, n2, n3⟩ := h.pne
  obtain ⟨v, h1, h2⟩ := h.hd
  refine ⟨⟨⟨v, (ho.block p h.plt n1).trans h1, h2.keep fun hh => ?_⟩, hg, h.nds.keep fun k hk => ho.block k (h.nds.lt k hk) fun e => n3 (e ▸ hk), fun y j hj => ?_, h.tks, h.dpl, h.room, h.szl, h.pll⟩, Chp.only ho (.inr (.inl rfl)), fun _ _ => rfl, Nat.le_refl _⟩
  · have hn := h.tbn hh
    obtain ⟨cs, fr, hh⟩ := hh
    exact ho.block tb (lt_of_block hh) fun e => hn (.inr (.inl e))
  · have hj2 : putLab σ.lab x i y = some j := hj
    unfold putLab at hj2
    split at hj2
    · cases hj2; exact hi
    · exact h.labIn y j hj2
set_option maxHeartbeats 3200000 in
theorem rest_label (hb : BehindC p sz tb f) (w : World) (dp : Nat) (S : Nat → Nat) (V : Nat → Value) (lb : Nat) (σ : Ps) (r : Bool × Ps) (i : Nat) (h : Pm w p sz tb dp S V lb σ) (hi : i < σ.A.length) (hroom : σ.A.length + 1 + 2 * σ.ts.length ≤ 20000)
    (hl : GMap 3 I64 intV (ptrN S) w lb (σ.A.length - 1) σ.lab) (hk : (ndAt σ.A i).t.k = 15) (hM : behindM sz f dp i { σ with lab := putLab σ.lab (ndAt σ.A i).t.n i } = some r) :
    Calls Tryz.prog 70 #[.pointer (some ⟨p, 0, none⟩), .pointer (some ⟨S i, 0, none⟩)] w fun e w' => e = .returned (.bool r.1) ∧ WentM p sz tb dp S V lb σ r.2 w w' := by
  obtain ⟨⟨c0, c1, -⟩, -⟩ := h.nds.cells hi
  obtain ⟨v, -, ⟨-, -, p2⟩, -, -, -⟩ := h.cells
  have hn := (h.nds.tk i hi).1.n
  rw [hk] at c0
  have c0' : w.cell? ⟨S i, 0, none⟩ = some (.int .i64 15) := c0
  obtain ⟨N, hN⟩ : ∃ N, (ndAt σ.A i).t.n = N := ⟨_, rfl⟩
  rw [hN] at hM c1 hn
  obtain ⟨w9, hrun, hg9, ho9⟩ := GMap.store (labT S) (hl.same (w' := w.drew) rfl) (by omega) N i hn
  have hg9' : GMap 3 I64 intV (ptrN S) w9 lb σ.A.length (putLab σ.lab N i) := by
    rw [show σ.A.length - 1 + 1 = σ.A.length by omega] at hg9; exact hg9
  have hrun' : (Instr.mapUpdate 109 (.map (some lb)) (.int .i64 N) (.pointer (some ⟨S i, 0, none⟩))).run Tryz.prog w.drew = .ok () w9 := hrun
  have HM9 := Lib.hid (Pm.putLb (h.below (w' := w.drew) (Below.refl _ _).drew) hi hg9' ho9)
  have HB := Lib.hid (show Calls Tryz.prog 66 #[.pointer (some ⟨p, 0, none⟩), .pointer (some ⟨S i, 0, none⟩)] w9 fun e w' => e = .returned (.bool r.1) ∧ WentM p sz tb dp S V lb σ r.2 w w' by
    refine (hb w9 dp S V lb _ r i HM9.out.pm hi hM).mono ?_
    rintro e w' ⟨h2, h3⟩
    obtain ⟨S2, V2, lb2, hm2⟩ := h3.mid
    exact ⟨h2, ((Mid.below (Mid.refl h) (w2 := w.drew) (Below.refl _ _).drew).trans (HM9.out.trans hm2)).went⟩)
  clear h hi hM hb hroom hl hk hn hN c0 hrun hg9 hg9' ho9
  go_enter Tryz.func70, Tryz.ntmps70
  go_upto_region 13 with fail
  go_region
  go_wp2_with (go_at_call 66; with_reducible refine HB.out.mono ?_; rintro e w3 ⟨rfl, h3⟩)
  go_ret
  exact ⟨rfl, h3⟩
set_option maxHeartbeats 3200000 in
theorem rest_again (w : World) (dp : Nat) (S : Nat → Nat) (V : Nat → Value) (lb : Nat) (σ : Ps) (i j : Nat) (h : Pm w p sz tb dp S V lb σ) (hi : i < σ.A.length) (hk : (ndAt σ.A i).t.k = 16) (hj : σ.lab (ndAt σ.A i).t.n = some j) :
    Calls Tryz.prog 70 #[.pointer (some ⟨p, 0, none⟩), .pointer (some ⟨S i, 0, none⟩)] w fun e w' => e = .returned (.bool true) ∧ WentM p sz tb dp S V lb σ { σ with A := setSame σ.A i (stands σ.A j) } w w' := by
  obtain ⟨⟨c0, c1, -⟩, ⟨-, -, c6⟩, -, -, fz⟩ := h.nds.cells hi
  obtain ⟨v, -, ⟨-, -, p2⟩, -, -, -⟩ := h.cells
  have hf6 := fz 6
  have hn := (h.nds.tk i hi).1.n
  have hlook := (h.lab.same (w' := w.drew) rfl).look1 (labT S) _ hn
  rw [hj] at hlook
  have hj2 := h.labIn _ _ hj
  have hroom := h.room
  have HST := Lib.hid ((h.nds.keep (w' := w.drew) fun _ _ => rfl).stands (by omega) σ.A.length j hj2 (by omega))
  rw [hk] at c0
  have c0' : w.cell? ⟨S i, 0, none⟩ = some (.int .i64 16) := c0
  obtain ⟨N, hN⟩ : ∃ N, (ndAt σ.A i).t.n = N := ⟨_, rfl⟩
  rw [hN] at c1 hlook
  have hlook' : (Instr.lookup 109 (.map (some lb)) (.int .i64 N) false).run Tryz.prog w.drew = .ok (.pointer (some ⟨S j, 0, none⟩)) w.drew := hlook
  obtain ⟨so, hso⟩ : ∃ so, stands σ.A j = so := ⟨_, rfl⟩
  have HSO := Lib.hid (fun q hq => stands_lt h.nds.ord σ.A.length j hj2 (by omega) q (hso.trans hq))
  rw [hso] at HST ⊢
  have HH := Lib.hid h
  have HFIN : Hid (WentM p sz tb dp S V lb σ { σ with A := setSame σ.A i so } w (w.setCell ⟨S i, 6, none⟩ (.pointer (so.map fun j => ⟨S j, 0, none⟩))).drew) := Lib.hid (by
    have hm := h.setNd (w' := w.setCell ⟨S i, 6, none⟩ (.pointer (so.map fun j => ⟨S j, 0, none⟩))) hi { ndAt σ.A i with sm := so } rfl HSO.out (h.nds.tk i hi) (heap_setCell_same w _ 6 _ _ _ (h.nds.hd i hi)) (Only.setCell _ _ _ _)
    exact (hm.below (Below.refl _ _).drew).went)
  unfold ptrO at HST
  clear h hi hj hk hn hN c0 hlook hroom fz hso hj2
  go_enter Tryz.func70, Tryz.ntmps70
  go_upto_region 16 with fail
  go_region_with (go_at_call 34; with_reducible refine HST.out.mono ?_; rintro e w3 ⟨rfl, rfl⟩)
  all_goals go_wp2_with fail
  all_goals go_ret
  all_goals exact ⟨rfl, HFIN.out⟩
end
end Go.Proofs.YthjjgpepgbfalaaGreatDoor
end
section
/-! rest, row, and all of them. -/
set_option maxRecDepth 20000
set_option linter.unusedSimpArgs false
set_option linter.unusedVariables false
namespace Go.Proofs.YthjjgpepgbfalaaGreatDoor
open Go.RowKit

section
variable {p sz tb f : Nat}
theorem rest_step (hb : BehindC p sz tb f) (hw : RowC p sz tb f) : RestC p sz tb (f + 1) := by
  intro w dp S V lb σ r i h hi hroom hl hM
  have hk16 := (h.nds.tk i hi).1.k
  rw [restM] at hM
  by_cases h1 : (ndAt σ.A i).t.k = 0 ∨ (ndAt σ.A i).t.k = 2 ∨ (ndAt σ.A i).t.k = 3
  · rw [if_pos h1] at hM
    exact rest_row hw w dp S V lb σ r i h hi h1 hM
  · rw [if_neg h1] at hM
    by_cases h2 : (ndAt σ.A i).t.k = 4 ∨ (ndAt σ.A i).t.k = 5 ∨ (ndAt σ.A i).t.k = 6 ∨ (ndAt σ.A i).t.k = 7
    · rw [if_pos h2] at hM
      exact rest_mark hb w dp S V lb σ r i h hi hroom h2 hM
    · rw [if_neg h2] at hM
      by_cases h3 : (ndAt σ.A i).t.k = 15
      · rw [if_pos h3] at hM
        exact rest_label hb w dp S V lb σ r i h hi hroom hl h3 hM
      · rw [if_neg h3] at hM
        by_cases h4 : (ndAt σ.A i).t.k = 16
        · rw [if_pos h4] at hM
          cases hj : σ.lab (ndAt σ.A i).t.n with
          | none => rw [hj] at hM; cases hM
          | some j =>
            rw [hj] at hM
            have e := Option.some.inj hM
            subst e
            exact rest_again w dp S V lb σ i j h hi h4 hj
        · rw [if_neg h4] at hM
          have e := Option.some.inj hM
          subst e
          exact rest_word w dp S V lb σ i h hi (by omega)
/-- A state of the parser behind another one. -/
def MidX (p sz tb dp : Nat) (S : Nat → Nat) (V : Nat → Value) (lb n : Nat) (w : World) (σ1 : Ps) (w1 : World) : Prop := ∃ S1 V1 lb1, Mid p sz tb dp S V lb n w S1 V1 lb1 σ1 w1
section
variable {w w1 : World} {dp lb n : Nat} {S : Nat → Nat} {V : Nat → Value} {σ1 : Ps} {r1 : Bool × Ps}
theorem SkipsC.mid (hs : SkipsC p sz tb f) (hm : MidX p sz tb dp S V lb n w σ1 w1) (h : skipsM sz f dp σ1 = some r1) : Calls Tryz.prog 42 #[.pointer (some ⟨p, 0, none⟩)] w1 fun e w' => e = .returned (.bool r1.1) ∧ MidX p sz tb dp S V lb n w r1.2 w' := by
  obtain ⟨S1, V1, lb1, hm⟩ := hm
  refine (hs w1 dp S1 V1 lb1 σ1 r1 hm.pm h).mono ?_
  rintro e w' ⟨h1, h2⟩
  obtain ⟨S2, V2, lb2, hm2⟩ := h2.mid
  exact ⟨h1, S2, V2, lb2, hm.trans hm2⟩
theorem BehindC.mid (hs : BehindC p sz tb f) (hm : MidX p sz tb dp S V lb n w σ1 w1) {i : Nat} (hi : i < n) (h : behindM sz f dp i σ1 = some r1) : Calls Tryz.prog 66 #[.pointer (some ⟨p, 0, none⟩), .pointer (some ⟨S i, 0, none⟩)] w1 fun e w' => e = .returned (.bool r1.1) ∧ MidX p sz tb dp S V lb n w r1.2 w' := by
  obtain ⟨S1, V1, lb1, hm⟩ := hm
  have h1 := hs w1 dp S1 V1 lb1 σ1 r1 i hm.pm (Nat.lt_of_lt_of_le hi hm.len) h
  rw [hm.sx i hi] at h1
  refine h1.mono ?_
  rintro e w' ⟨h1, h2⟩
  obtain ⟨S2, V2, lb2, hm2⟩ := h2.mid
  exact ⟨h1, S2, V2, lb2, hm.trans hm2⟩
theorem DatumC.mid (hs : DatumC p sz tb f) (hm : MidX p sz tb dp S V lb n w σ1 w1) {i : Nat} (hi : i < n) (h : datumM sz f dp i σ1 = some r1) : Calls Tryz.prog 43 #[.pointer (some ⟨p, 0, none⟩), .pointer (some ⟨S i, 0, none⟩)] w1 fun e w' => e = .returned (.bool r1.1) ∧ MidX p sz tb dp S V lb n w r1.2 w' := by
  obtain ⟨S1, V1, lb1, hm⟩ := hm
  have h1 := hs w1 dp S1 V1 lb1 σ1 r1 i hm.pm (Nat.lt_of_lt_of_le hi hm.len) h
  rw [hm.sx i hi] at h1
  refine h1.mono ?_
  rintro e w' ⟨h1, h2⟩
  obtain ⟨S2, V2, lb2, hm2⟩ := h2.mid
  exact ⟨h1, S2, V2, lb2, hm.trans hm2⟩
theorem MidX.is (hm : MidX p sz tb dp S V lb n w σ1 w1) (k : Nat) {K : Int} (hK : K = (k : Int)) : Calls Tryz.prog 63 #[.pointer (some ⟨p, 0, none⟩), .int .i64 K] w1 fun e w' => e = .returned (.bool (isK σ1 k)) ∧ w1 = w' := by
  obtain ⟨S1, V1, lb1, hm⟩ := hm
  rw [hK]; exact hm.pm.callIs k
theorem MidX.take (hm : MidX p sz tb dp S V lb n w σ1 w1) {x : Lx.Tk × Nat} {l : List (Lx.Tk × Nat)} (hts : σ1.ts = x :: l) : Calls Tryz.prog 64 #[.pointer (some ⟨p, 0, none⟩)] w1 fun e w' => e = .returned (.agg (Lx.tkC x.1 (x.2 : Int))) ∧ MidX p sz tb dp S V lb n w { σ1 with ts := l } w' := by
  obtain ⟨S1, V1, lb1, hm⟩ := hm
  exact (hm.pm.take hts).mono fun e w' ⟨h1, h2, h3⟩ => ⟨h1, S1, V1, lb1, hm.trans (Mid.of (σ := σ1) h2 h3 rfl)⟩
theorem MidX.close (hm : MidX p sz tb dp S V lb n w σ1 w1) : Calls Tryz.prog 121 #[.pointer (some ⟨p, 0, none⟩)] w1 fun e w' => e = .returned (.bool (closeM sz σ1).1) ∧ MidX p sz tb dp S V lb n w (closeM sz σ1).2 w' := by
  obtain ⟨S1, V1, lb1, hm⟩ := hm
  refine hm.pm.close.mono ?_
  rintro e w' ⟨h1, h2⟩
  obtain ⟨S2, V2, lb2, hm2⟩ := h2.mid
  exact ⟨h1, S2, V2, lb2, hm.trans hm2⟩
theorem MidX.went {σ : Ps} (hm : MidX p sz tb dp S V lb σ.A.length w σ1 w1) : WentM p sz tb dp S V lb σ σ1 w w1 := by
  obtain ⟨S1, V1, lb1, hm⟩ := hm
  exact hm.went
/-- A node's kind, and what lies in it. -/
theorem MidX.cells (hm : MidX p sz tb dp S V lb n w σ1 w1) {i : Nat} (hi : i < n) : ∃ q c, w1.cell? ⟨S i, 0, none⟩ = some (.int .i64 ((ndAt σ1.A i).t.k : Int)) ∧ w1.cell? ⟨S i, 4, none⟩ = some (.slice q (ndAt σ1.A i).is.length c) ∧ (ndAt σ1.A i).is.length ≤ 20000 := by
  obtain ⟨S1, V1, lb1, hm⟩ := hm
  have hi2 := Nat.lt_of_lt_of_le hi hm.len
  obtain ⟨⟨c0, -⟩, ⟨c4, -⟩, -⟩ := hm.pm.nds.cells hi2
  obtain ⟨q, c, e⟩ := hm.pm.nds.form hi2
  have h1 := hm.pm.nds.len i hi2
  have h2 := hm.pm.room
  rw [hm.sx i hi, e] at c4
  rw [hm.sx i hi] at c0
  exact ⟨q, c, c0, c4, by omega⟩
/-- The dot set. -/
theorem MidX.dot (hm : MidX p sz tb dp S V lb n w σ1 w1) {i : Nat} (hi : i < n) : w1.cell? ⟨S i, 5, none⟩ = some (.bool (ndAt σ1.A i).d) ∧ w1.frozen? ⟨S i, 5, none⟩ = false ∧ MidX p sz tb dp S V lb n w { σ1 with A := setDot σ1.A i } (w1.setCell ⟨S i, 5, none⟩ (.bool true)) := by
  obtain ⟨S1, V1, lb1, hm⟩ := hm
  have hi2 := Nat.lt_of_lt_of_le hi hm.len
  obtain ⟨-, ⟨-, c5, -⟩, -, -, fz⟩ := hm.pm.nds.cells hi2
  have hf := fz 5
  have hs := hm.pm.setNd (w' := w1.setCell ⟨S1 i, 5, none⟩ (.bool true)) hi2 { ndAt σ1.A i with d := true } rfl (hm.pm.nds.ord i hi2).2 (hm.pm.nds.tk i hi2) (heap_setCell_same w1 _ 5 _ _ _ (hm.pm.nds.hd i hi2)) (Only.setCell _ _ _ _)
  have hm2 := hm.trans hs
  rw [hm.sx i hi] at c5 hf
  rw [hm.sx i hi] at hm2
  exact ⟨c5, hf, S1, V1, lb1, hm2⟩
end
end
end Go.Proofs.YthjjgpepgbfalaaGreatDoor
end
