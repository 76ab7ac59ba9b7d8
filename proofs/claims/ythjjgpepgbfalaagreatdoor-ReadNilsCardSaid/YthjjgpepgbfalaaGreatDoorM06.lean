/- Texts RdT2 to HLay of this seat, laid into one. -/
import Derived.Lib.SliceRun
import Derived.Deep.AppendLies
import Derived.Deep.RegionHeld3
import Derived.Deep.Cut
import Derived.Deep.DeepCutAuto
import Derived.Test.YthjjgpepgbfalaaGreatDoorM03
import Derived.Test.YthjjgpepgbfalaaGreatDoorM05
set_option linter.unusedVariables false
set_option linter.unusedSimpArgs false
set_option linter.constructorNameAsVariable false
section
/-! The parser's take. -/
set_option maxRecDepth 20000
set_option linter.unusedSimpArgs false
set_option linter.unusedVariables false
namespace Go.Proofs.YthjjgpepgbfalaaGreatDoor
open Go.RowKit

/-- A world behind a store to the parser and two boxes. -/
theorem Pm.took {w : World} {p sz tb dp lb : Nat} {S : Nat → Nat} {V : Nat → Value} {σ : Ps} (h : Pm w p sz tb dp S V lb σ) {x : Lx.Tk × Nat} {l : List (Lx.Tk × Nat)} (hts : σ.ts = x :: l) {v' : Value} (hv : Toks w tb v' l) (o1 o2 : Obj) :
    Pm (((w.setCell ⟨p, 0, none⟩ v').alloc o1).alloc o2) p sz tb dp S V lb { σ with ts := l } ∧ Chp (footM p S V lb σ.A.length) (footM p S V lb σ.A.length) w (((w.setCell ⟨p, 0, none⟩ v').alloc o1).alloc o2) := by
  obtain ⟨v, ht, _, _, _, hrow⟩ := h.cells
  have hpl := h.plt
  have hb : Below (w.setCell ⟨p, 0, none⟩ v').heap.size (w.setCell ⟨p, 0, none⟩ v') (((w.setCell ⟨p, 0, none⟩ v').alloc o1).alloc o2) := ((Below.refl _ _).alloc (Nat.le_refl _) _).alloc (by simp) _
  have hs : Pm (w.setCell ⟨p, 0, none⟩ v') p sz tb dp S V lb { σ with ts := l } :=
    h.setP (fun k _ hk => heap_setCell_other _ _ _ _ hk) (heap_setCell_same w _ 0 _ _ _ hrow) hv rfl rfl h.dpl (fun y hy => h.tks y (by rw [hts]; exact List.mem_cons_of_mem _ hy)) (by rw [hts]; simp) h.pll
  exact ⟨hs.below hb, (Chp.setCell (.inl rfl) v' w).trans (Chp.of_below hb)⟩
section
variable {w w' : World} {p sz tb dp lb : Nat} {S : Nat → Nat} {V : Nat → Value} {σ : Ps}
set_option maxHeartbeats 1600000 in
theorem Pm.take (h : Pm w p sz tb dp S V lb σ) {x : Lx.Tk × Nat} {l : List (Lx.Tk × Nat)} (hts : σ.ts = x :: l) :
    Calls Tryz.prog 64 #[.pointer (some ⟨p, 0, none⟩)] w fun e w' => e = .returned (.agg (Lx.tkC x.1 (x.2 : Int))) ∧ Pm w' p sz tb dp S V lb { σ with ts := l } ∧ Chp (footM p S V lb σ.A.length) (footM p S V lb σ.A.length) w w' := by
  obtain ⟨v, ht, ⟨c0, c1, c2⟩, ⟨c3, c4, c5⟩, fz, hrow⟩ := h.cells
  have hrm := h.room
  have hpl := h.plt
  rw [hts] at ht hrm
  obtain ⟨o, c, rfl, hc, ⟨x0, x1, x2, x3⟩, htl⟩ := ht.head
  have htb := World.block_lt_of_cell? w _ x0
  have HH := Lib.hid h
  have HT := Lib.hid htl
  obtain ⟨⟨k, n, s⟩, a⟩ := x
  have hl : l.length ≤ 20000 := by simp at hrm; omega
  have hf0 := fz 0
  unfold Lx.tkC
  have HBX : Hid (∀ u : World, u.heap.size = w.heap.size → ((u.alloc (.cells #[.int .i64 (k : Int), .int .i64 n, .string ⟨s.toArray⟩, .int .i64 (a : Int)] 71)).alloc (.cells #[.int .i64 (k : Int), .int .i64 n, .string ⟨s.toArray⟩, .int .i64 (a : Int)] 71)).heap[w.heap.size]? = some (.cells #[.int .i64 (k : Int), .int .i64 n, .string ⟨s.toArray⟩, .int .i64 (a : Int)] 71 (0, 0))) := Lib.hid fun u hu => by
    rw [← hu]
    exact (Below.heap_alloc _ _ _ (by simp)).trans (heap_alloc_new u _)
  have HSZ : Hid ((Tryz.prog.info? 71).map (·.size) = some 4) := Lib.hid Lx.sizeTok
  clear h ht hrm htl
  go_enter Tryz.func64, Tryz.ntmps64
  go_wp2_with fail
  · obtain rfl : l = [] := List.length_eq_zero_iff.1 (by omega)
    have HF := HH.out.took hts (v' := .slice (some ⟨tb, o, none⟩) ([] : List (Lx.Tk × Nat)).length 0) ⟨_, 0, rfl, by simp, fun e => absurd rfl e⟩ (.cells #[.int .i64 (k : Int), .int .i64 n, .string ⟨s.toArray⟩, .int .i64 (a : Int)] 71) (.cells #[.int .i64 (k : Int), .int .i64 n, .string ⟨s.toArray⟩, .int .i64 (a : Int)] 71)
    have hR := HBX.out ((w.setCell ⟨p, 0, none⟩ (.slice (some ⟨tb, o, none⟩) ([] : List (Lx.Tk × Nat)).length 0))) (by simp)
    exact bodyPost_ret (results_cell_row Tryz.results64 _ _ w.heap.size 71 _ (0, 0) _ rfl hR Tryz.underlying71 rfl HSZ.out) rfl ⟨rfl, HF⟩
  · have HF := HH.out.took hts HT.out (.cells #[.int .i64 (k : Int), .int .i64 n, .string ⟨s.toArray⟩, .int .i64 (a : Int)] 71) (.cells #[.int .i64 (k : Int), .int .i64 n, .string ⟨s.toArray⟩, .int .i64 (a : Int)] 71)
    have hR := HBX.out ((w.setCell ⟨p, 0, none⟩ (.slice (some ⟨tb, o + 4, none⟩) l.length c))) (by simp)
    exact bodyPost_ret (results_cell_row Tryz.results64 _ _ w.heap.size 71 _ (0, 0) _ rfl hR Tryz.underlying71 rfl HSZ.out) rfl ⟨rfl, HF⟩
end
end Go.Proofs.YthjjgpepgbfalaaGreatDoor
end
section
/-! The parser's fails and close. -/
set_option maxRecDepth 20000
set_option linter.unusedSimpArgs false
set_option linter.unusedVariables false
namespace Go.Proofs.YthjjgpepgbfalaaGreatDoor
open Go.RowKit

section
variable {w w' : World} {p sz tb dp lb : Nat} {S : Nat → Nat} {V : Nat → Value} {σ : Ps}
theorem headA_le (h : Pm w p sz tb dp S V lb σ) : headA sz σ.ts ≤ 100000 := by
  unfold headA
  cases hts : σ.ts with
  | nil => exact h.szl
  | cons x l => exact (h.tks x (by rw [hts]; exact List.mem_cons_self ..)).2
set_option maxHeartbeats 1600000 in
theorem Pm.fails (h : Pm w p sz tb dp S V lb σ) (er : Int) :
    Calls Tryz.prog 68 #[.pointer (some ⟨p, 0, none⟩), .int .i64 er] w fun e w' => e = .returned (.bool false) ∧ Pm w' p sz tb dp S V lb (failM sz σ er) ∧ Chp (footM p S V lb σ.A.length) (footM p S V lb σ.A.length) w w' := by
  obtain ⟨v, ht, ⟨c0, c1, c2⟩, ⟨c3, c4, c5⟩, fz, hrow⟩ := h.cells
  have hrm := h.room
  have hpl := h.plt
  have HF := Lib.hid (fun (u : World) (hk : ∀ k, k < w.heap.size → k ≠ p → u.heap[k]? = w.heap[k]?) (hx : u.heap[p]? = some (Obj.cells #[v, .int .i64 (sz : Int), .map (some lb), .int .i64 (dp : Int), .int .i64 (headA sz σ.ts : Int), .int .i64 er] 111 (0, 0))) => h.setP (σ' := failM sz σ er) hk hx ht rfl rfl h.dpl h.tks (Nat.le_refl _) (headA_le h))
  have HROW := Lib.hid hrow
  have hf4 := fz 4
  have hf5 := fz 5
  have HP : Hid (footM p S V lb σ.A.length p) := Lib.hid (.inl rfl)
  cases hts : σ.ts with
  | nil =>
    rw [hts] at ht HF
    obtain ⟨q, c, rfl⟩ := ht.nil_
    clear h hts ht hrm c3 fz hrow
    go_enter Tryz.func68, Tryz.ntmps68
    go_wp2_with fail
    go_ret
    refine ⟨rfl, HF.out _ (fun k _ hk => (heap_setCell_other _ _ _ _ hk).trans (heap_setCell_other _ _ _ _ hk)) ?_, (Chp.setCell HP.out _ _).trans (Chp.setCell HP.out _ _)⟩
    exact heap_setCell_same _ _ 5 _ _ _ (heap_setCell_same _ _ 4 _ _ _ HROW.out)
  | cons x l =>
    rw [hts] at ht hrm HF
    obtain ⟨o, c, rfl, hc, hx, _⟩ := ht.head
    have x0 := hx.a
    have hl : l.length ≤ 20000 := by simp at hrm; omega
    have htb := World.block_lt_of_cell? w _ x0
    have htn : tb ≠ p := fun e => by
      obtain ⟨q, c, e1, _, h2⟩ := ht
      obtain ⟨⟨cs, fr, hh⟩, _⟩ := h2 (by simp)
      subst e
      exact ne_of_ty hrow hh (by decide) rfl
    have d1 : decide ((0 : Int) < ((l.length + 1 : Nat) : Int)) = true := decide_eq_true (by omega)
    have d2 : decide (0 < l.length + 1) = true := decide_eq_true (by omega)
    have hlI : (0 : Int) < ((l.length + 1 : Nat) : Int) := by omega
    generalize hN : l.length + 1 = n at *
    clear h hts ht hrm c3 fz hrow hx hN hc hl
    go_enter Tryz.func68, Tryz.ntmps68
    go_wp2_with fail
    go_ret
    refine ⟨rfl, HF.out _ (fun k _ hk => (heap_setCell_other _ _ _ _ hk).trans ((heap_setCell_other _ _ _ _ hk).trans (heap_setCell_other _ _ _ _ hk))) ?_, ((Chp.setCell HP.out _ _).trans (Chp.setCell HP.out _ _)).trans (Chp.setCell HP.out _ _)⟩
    first
      | exact heap_setCell_same _ _ 4 _ _ _ (heap_setCell_same _ _ 5 _ _ _ (heap_setCell_same _ _ 4 _ _ _ HROW.out))
      | exact heap_setCell_same _ _ 4 _ _ _ (heap_setCell_same _ _ 5 _ _ _ HROW.out)
end
end Go.Proofs.YthjjgpepgbfalaaGreatDoor
end
section
/-! The parser's close; what a node stands for. -/
set_option maxRecDepth 20000
set_option linter.unusedSimpArgs false
set_option linter.unusedVariables false
namespace Go.Proofs.YthjjgpepgbfalaaGreatDoor
open Go.RowKit

section
variable {w w' w2 : World} {p sz tb dp lb : Nat} {S : Nat → Nat} {V : Nat → Value} {σ σ' σ2 : Ps} {A : List Nd}
theorem WentM.of (h : Pm w' p sz tb dp S V lb σ') (hc : Chp (footM p S V lb σ.A.length) (footM p S V lb σ.A.length) w w') (hA : σ'.A = σ.A) : WentM p sz tb dp S V lb σ σ' w w' :=
  ⟨S, V, lb, h, by rw [hA]; exact hc, fun _ _ => rfl, by rw [hA]; exact Nat.le_refl _⟩
theorem WentM.then (h : WentM p sz tb dp S V lb σ σ' w w') (hb : Below w'.heap.size w' w2) : WentM p sz tb dp S V lb σ σ' w w2 := by
  obtain ⟨S', V', lb', h1, h2, h3, h4⟩ := h
  exact ⟨S', V', lb', h1.below hb, h2.trans (Chp.of_below hb), h3, h4⟩
theorem WentM.pre (hb : Below w.heap.size w w') (h : WentM p sz tb dp S V lb σ σ' w' w2) : WentM p sz tb dp S V lb σ σ' w w2 := by
  obtain ⟨S', V', lb', h1, h2, h3, h4⟩ := h
  exact ⟨S', V', lb', h1, (Chp.of_below hb).trans h2, h3, h4⟩
set_option maxHeartbeats 1600000 in
theorem Pm.close (h : Pm w p sz tb dp S V lb σ) :
    Calls Tryz.prog 121 #[.pointer (some ⟨p, 0, none⟩)] w fun e w' => e = .returned (.bool (closeM sz σ).1) ∧ WentM p sz tb dp S V lb σ (closeM sz σ).2 w w' := by
  obtain ⟨v, ht, ⟨c0, c1, c2⟩, ⟨c3, c4, c5⟩, fz, hrow⟩ := h.cells
  have hrm := h.room
  obtain ⟨R, hR⟩ : ∃ R, closeM sz σ = R := ⟨_, rfl⟩
  rw [hR]
  unfold closeM at hR
  cases hts : σ.ts with
  | nil =>
    rw [hts] at ht hR
    subst hR
    obtain ⟨q, c, rfl⟩ := ht.nil_
    have HF := Lib.hid (h.fails 3)
    clear h hts ht hrm c3 c4 c5 fz hrow
    go_enter Tryz.func121, Tryz.ntmps121
    go_wp2_with (go_at_call 68; with_reducible refine HF.out.mono ?_; rintro e w1 ⟨rfl, h1, h2⟩)
    go_ret
    exact ⟨rfl, WentM.of h1 h2 rfl⟩
  | cons x l =>
    rw [hts] at ht hrm hR
    have hR2 : (if x.1.k = 1 then (true, { σ with ts := l }) else (false, failM sz σ 4)) = R := hR
    clear hR
    obtain ⟨o, c, rfl, hc, hx, _⟩ := ht.head
    have hl : l.length ≤ 20000 := by simp at hrm; omega
    have d1 : (((l.length + 1 : Nat) : Int) == 0) = false := by simp; omega
    have hlI : (0 : Int) < ((l.length + 1 : Nat) : Int) := by omega
    have hI := h.callIs 1
    rw [show isK σ 1 = decide (x.1.k = 1) by unfold isK; rw [hts]] at hI
    have HI : Hid (Calls Tryz.prog 63 #[.pointer (some ⟨p, 0, none⟩), .int .i64 1] w fun e w' => e = .returned (.bool (decide (x.1.k = 1))) ∧ w = w') := Lib.hid hI
    have HT := Lib.hid (h.take hts)
    have HF := Lib.hid (h.fails 4)
    generalize hN : l.length + 1 = n at *
    by_cases hk : x.1.k = 1
    · rw [if_pos hk] at hR2
      subst hR2
      rw [decide_eq_true hk] at HI
      clear h hts ht hrm c3 c4 c5 fz hrow hx hN hc hl hI hk
      go_enter Tryz.func121, Tryz.ntmps121
      go_wp2_with (go_at_call 63; with_reducible refine HI.out.mono ?_; rintro e w1 ⟨rfl, rfl⟩)
      refine HT.out.mono ?_
      rintro e w1 ⟨rfl, h1, h2⟩
      go_wp2_with fail
      go_ret
      exact ⟨rfl, WentM.of h1 h2 rfl⟩
    · rw [if_neg hk] at hR2
      subst hR2
      rw [decide_eq_false hk] at HI
      clear h hts ht hrm c3 c4 c5 fz hrow hx hN hc hl hI hk
      go_enter Tryz.func121, Tryz.ntmps121
      go_wp2_with (first | (go_at_call 63; with_reducible refine HI.out.mono ?_; rintro e w1 ⟨rfl, rfl⟩) | (go_at_call 68; with_reducible refine HF.out.mono ?_; rintro e w1 ⟨rfl, h1, h2⟩))
      go_ret
      exact ⟨rfl, WentM.of h1 h2 rfl⟩
/-- A node's pointer, or none. -/
def ptrO (S : Nat → Nat) (o : Option Nat) : Value := .pointer (o.map fun j => ⟨S j, 0, none⟩)
set_option maxHeartbeats 1600000 in
theorem Nds.stands (h : Nds w S V A) (hA : A.length ≤ 100000) : ∀ (n i : Nat), i < A.length → A.length ≤ i + n →
    Calls Tryz.prog 34 #[.pointer (some ⟨S i, 0, none⟩)] w fun e w' => e = .returned (ptrO S (Go.Proofs.YthjjgpepgbfalaaGreatDoor.stands A i)) ∧ w = w'
  | 0, i, hi, hn => by omega
  | n + 1, i, hi, hn => by
    have IH := fun j (h1 : i < j) (h2 : j < A.length) => Nds.stands h hA n j h2 (by omega)
    obtain ⟨⟨c0, c1, c2, c3⟩, ⟨c4, c5, c6⟩, c7, c8, fz⟩ := h.cells hi
    rw [stands_step h.ord hi]
    have hk := (h.tk i hi).1.k
    have hlen := h.len i hi
    have hor := (h.ord i hi).1
    have hat := fun j (hj : (ndAt A i).is[0]? = some j) => h.at' hi hj
    obtain ⟨q, cp, e⟩ := h.form hi
    rw [e] at c4
    by_cases h1 : (ndAt A i).t.k = 16
    · rw [if_pos h1]
      have d1 : (((ndAt A i).t.k : Int) == 16) = true := by rw [h1]; rfl
      unfold ptrO
      clear IH hat hor h hi hn h1 fz e
      go_enter Tryz.func34, Tryz.ntmps34
      go_wp2_with fail
      go_ret
      exact ⟨rfl, rfl⟩
    · rw [if_neg h1]
      have d1 : (((ndAt A i).t.k : Int) == 16) = false := by simp; omega
      by_cases h2 : (ndAt A i).t.k ≠ 15
      · rw [if_pos h2]
        have d2 : (((ndAt A i).t.k : Int) != 15) = true := by simp; omega
        unfold ptrO
        clear IH hat hor h hi hn h1 h2 fz e
        go_enter Tryz.func34, Tryz.ntmps34
        go_wp2_with fail
        go_ret
        exact ⟨rfl, rfl⟩
      · rw [if_neg h2]
        have d2 : (((ndAt A i).t.k : Int) != 15) = false := by simp; omega
        cases hs : (ndAt A i).is with
        | nil =>
          rw [hs] at c4
          have d3 : ((([] : List Nat).length : Int) == 0) = true := rfl
          unfold ptrO
          clear IH hat hor h hi hn h1 h2 fz e hlen
          go_enter Tryz.func34, Tryz.ntmps34
          go_wp2_with fail
          go_ret
          exact ⟨rfl, rfl⟩
        | cons j l =>
          obtain ⟨b, c, e2, hc⟩ := hat j (by rw [hs]; rfl)
          rw [hs] at c4 hlen
          rw [e, hs] at e2
          cases e2
          have hj := hor j (by rw [hs]; exact List.mem_cons_self ..)
          have HC := Lib.hid (IH j hj.1 hj.2)
          have d3 : (((l.length + 1 : Nat) : Int) == 0) = false := by simp; omega
          have hlI : (0 : Int) < ((l.length + 1 : Nat) : Int) := by omega
          simp only [List.length_cons] at c4
          have hl : l.length ≤ 100000 := by simp at hlen; omega
          generalize hN : l.length + 1 = N at *
          unfold ptrN at hc
          clear IH hat hor h hi hn h1 h2 fz e hlen hs hj hN
          go_enter Tryz.func34, Tryz.ntmps34
          go_wp2_with (go_at_call 34; with_reducible refine HC.out.mono ?_; rintro e w1 ⟨rfl, rfl⟩)
          go_ret
          exact ⟨rfl, rfl⟩
end
end Go.Proofs.YthjjgpepgbfalaaGreatDoor
end
section
/-! slices.Clone of values and of bytes; an object copied. -/
set_option maxRecDepth 20000
set_option linter.unusedSimpArgs false
namespace Go.Proofs.YthjjgpepgbfalaaGreatDoor
open Go.RowKit

theorem Tryz.infoV : (Tryz.prog.info? 36).map (fun i => (i.zero, i.size, i.bytes)) = some (some (.agg #[.int .i64 0, .int .i64 0]), 2, 16) := by kernel_rfl
theorem own_low {w : World} {base B E m n : Nat} {v : Value} {xs : List Value} (h : w.ownsRow base E m v n xs) (hB : B ≤ base) : w.ownsRow B E m v n xs := by
  refine ⟨h.1, ?_⟩
  rcases h.2 with h2 | ⟨g, cap, cur, e, hb, hg, hr⟩
  · exact .inl h2
  · exact .inr ⟨g, cap, cur, e, Nat.le_trans hB hb, hg, hr⟩
set_option maxHeartbeats 800000 in
theorem vclone_any (q : Option Addr) (n c : Nat) (l : List (Int × Int)) (w : World) (hn : n ≤ 100000) (hp : Vls w q n l) :
    Calls Tryz.prog 105 #[.slice q n c] w fun e w' => ∃ v, e = .returned v ∧ w'.ownsRow w.heap.size 36 2 v n (flatV l) ∧ Below w.heap.size w w' := by
  have hnil := Lib.run_eql_slice_nil (P := Tryz.prog) w 30 36 q n c 0 0 Tryz.underlying30
  cases q with
  | none =>
    have h0 : n = 0 := by
      rcases Nat.eq_zero_or_pos n with h | h
      · exact h
      · obtain ⟨_, _, e, _⟩ := hp.2 h; cases e
    subst h0
    obtain rfl := List.length_eq_zero_iff.1 hp.1
    go_enter Tryz.func105, Tryz.ntmps105
    go_wp2_with fail
    go_ret
    exact ⟨_, rfl, World.ownsRow_nil _ _ _ _, Below.refl _ _⟩
  | some a =>
    obtain ⟨i0, hi, hz0, hzs, hzb⟩ := info_parts Tryz.infoV
    have HI := Lib.hid hi
    have HZ0 := Lib.hid hz0
    have HZ1 := Lib.hid hzs
    have HZ2 := Lib.hid hzb
    have HROW : Hid ((w.alloc (.cells #[] 36)).ownsRow w.heap.size 36 2 (.slice (some ⟨w.heap.size, 0, none⟩) 0 0) 0 []) := Lib.hid
      ⟨rfl, .inr ⟨w.heap.size, 0, #[], rfl, Nat.le_refl _, heap_alloc_new w _, Nat.le_refl _, by unfold maxLen; omega, rfl, rfl⟩⟩
    have HB1 : Hid (Below w.heap.size w (w.alloc (.cells #[] 36))) := Lib.hid ((Below.refl _ _).alloc (Nat.le_refl _) _)
    have HCE : Hid (∀ j u, (flatV l)[j]? = some u → (w.alloc (.cells #[] 36)).cell? (a.add j) = some u) := Lib.hid (by
      intro j u hj
      have hlt : j < l.length * 2 := by rw [← flatV_len]; exact (List.getElem?_eq_some_iff.1 hj).1
      obtain ⟨ad, e, hc⟩ := (hp.below HB1.out).cells (by rw [← hp.1]; omega)
      cases e
      exact hc j u hj)
    have HLN : Hid ((flatV l).length = n * 2) := Lib.hid (by rw [flatV_len, hp.1])
    have HONE := Lib.hid (flatV_one l)
    clear hi hz0 hzs hzb hp
    go_enter Tryz.func105, Tryz.ntmps105
    go_wp2_with (at_builtin; refine wpList_append_own _ rfl (.tmp 5) (.tmp 6) 30 rfl w.heap.size 36 i0 (.agg #[.int .i64 0, .int .i64 0]) 2 16 Tryz.underlying30 HI.out HZ0.out HZ1.out HZ2.out rfl (by decide) (.slice (some ⟨w.heap.size, 0, none⟩) 0 0) 0 [] (by rfl) HROW.out a n c (flatV l) (by rfl) HLN.out HCE.out HONE.out (by unfold maxLen; omega) (by omega) HB1.out.size ?_; intro v' w2 hown hgrow _)
    have HV : Hid (w2.ownsRow w.heap.size 36 2 v' n (flatV l)) := Lib.hid (by rw [Nat.zero_add, List.nil_append] at hown; exact hown)
    have HB2 := Lib.hid (HB1.out.grown hgrow HB1.out.size (fun j e => (HROW.out.lt j e).1))
    clear hown hgrow
    go_wp2_with fail
    go_ret
    exact ⟨v', rfl, HV.out, HB2.out⟩
set_option maxHeartbeats 800000 in
theorem bclone_any (q : Option Addr) (n c : Nat) (l : List Nat) (w : World) (hn : n ≤ 100000) (hp : Bys w q n l) :
    Calls Tryz.prog 106 #[.slice q n c] w fun e w' => ∃ v, e = .returned v ∧ w'.ownsRow w.heap.size 5 1 v n (u8s l) ∧ Below w.heap.size w w' := by
  have hnil := Lib.run_eql_slice_nil (P := Tryz.prog) w 101 5 q n c 0 0 Tryz.underlying101
  cases q with
  | none =>
    have h0 : n = 0 := by
      rcases Nat.eq_zero_or_pos n with h | h
      · exact h
      · obtain ⟨_, _, e, _⟩ := hp.inn h; cases e
    subst h0
    obtain rfl := hp.nil_
    go_enter Tryz.func106, Tryz.ntmps106
    go_wp2_with fail
    go_ret
    exact ⟨_, rfl, World.ownsRow_nil _ _ _ _, Below.refl _ _⟩
  | some a =>
    obtain ⟨i0, hi, hz0, hzs, hzb⟩ := info_parts Tryz.info5
    have HI := Lib.hid hi
    have HZ0 := Lib.hid hz0
    have HZ1 := Lib.hid hzs
    have HZ2 := Lib.hid hzb
    have HROW : Hid ((w.alloc (.cells #[] 5)).ownsRow w.heap.size 5 1 (.slice (some ⟨w.heap.size, 0, none⟩) 0 0) 0 []) := Lib.hid
      ⟨rfl, .inr ⟨w.heap.size, 0, #[], rfl, Nat.le_refl _, heap_alloc_new w _, Nat.le_refl _, by unfold maxLen; omega, rfl, rfl⟩⟩
    have HB1 : Hid (Below w.heap.size w (w.alloc (.cells #[] 5))) := Lib.hid ((Below.refl _ _).alloc (Nat.le_refl _) _)
    have HCE : Hid (∀ j u, (u8s l)[j]? = some u → (w.alloc (.cells #[] 5)).cell? (a.add j) = some u) := Lib.hid (by
      intro j u hj
      have hlt : j < l.length := by rw [← u8s_len]; exact (List.getElem?_eq_some_iff.1 hj).1
      obtain ⟨ad, e, hc⟩ := (hp.below HB1.out).cells (by rw [← hp.len]; omega)
      cases e
      exact hc j u hj)
    have HLN : Hid ((u8s l).length = n * 1) := Lib.hid (by rw [u8s_len, hp.len]; omega)
    have HONE := Lib.hid (u8s_one l)
    clear hi hz0 hzs hzb hp
    go_enter Tryz.func106, Tryz.ntmps106
    go_wp2_with (at_builtin; refine wpList_append_own _ rfl (.tmp 5) (.tmp 6) 101 rfl w.heap.size 5 i0 (.int .u8 0) 1 1 Tryz.underlying101 HI.out HZ0.out HZ1.out HZ2.out rfl (by decide) (.slice (some ⟨w.heap.size, 0, none⟩) 0 0) 0 [] (by rfl) HROW.out a n c (u8s l) (by rfl) HLN.out HCE.out HONE.out (by unfold maxLen; omega) (by omega) HB1.out.size ?_; intro v' w2 hown hgrow _)
    have HV : Hid (w2.ownsRow w.heap.size 5 1 v' n (u8s l)) := Lib.hid (by rw [Nat.zero_add, List.nil_append] at hown; exact hown)
    have HB2 := Lib.hid (HB1.out.grown hgrow HB1.out.size (fun j e => (HROW.out.lt j e).1))
    clear hown hgrow
    go_wp2_with fail
    go_ret
    exact ⟨v', rfl, HV.out, HB2.out⟩
/-- An object's copy. -/
structure Cpy (w w' : World) (o : Ob) (vv vb : Value) : Prop where
  vs : w'.ownsRow w.heap.size 36 2 vv o.vs.length (flatV o.vs)
  bs : w'.ownsRow w.heap.size 5 1 vb o.bs.length (u8s o.bs)
  below : Below w.heap.size w w'
theorem three_row (W : World) (g t : Nat) (a0 a1 a2 b0 b1 b2 : Value) (h : W.heap[g]? = some (.cells #[a0, a1, a2] t (0, 0))) :
    (((W.setCell ⟨g, 0, none⟩ b0).setCell ⟨g, 1, none⟩ b1).setCell ⟨g, 2, none⟩ b2).heap[g]? = some (.cells #[b0, b1, b2] t (0, 0)) :=
  heap_setCell_same _ _ 2 _ _ _ (heap_setCell_same _ _ 1 _ _ _ (heap_setCell_same _ _ 0 _ _ _ h))
set_option maxHeartbeats 3200000 in
theorem copyOf_any (o : Ob) (q p : Option Addr) (n c d e : Nat) (w : World) (hov : Vls w q n o.vs) (hob : Bys w p d o.bs) (hn : n ≤ 100000) (hd : d ≤ 100000) :
    Calls Tryz.prog 79 #[.agg #[.int .i64 o.k, .slice q n c, .slice p d e]] w fun ex w' => ∃ vv vb, ex = .returned (.agg #[.int .i64 o.k, vv, vb]) ∧ Cpy w w' o vv vb := by
  have HB0 : Hid (Below w.heap.size w ((w.alloc (.cells #[.int .i64 o.k, .slice q n c, .slice p d e] 103)).alloc (.cells #[.int .i64 0, .slice none 0 0, .slice none 0 0] 103))) := Lib.hid (((Below.refl _ _).alloc (Nat.le_refl _) _).alloc (by simp) _)
  have hvl := hov.len
  have hbl := hob.len
  have hx1 : ((w.alloc (.cells #[.int .i64 o.k, .slice q n c, .slice p d e] 103)).alloc (.cells #[.int .i64 0, .slice none 0 0, .slice none 0 0] 103)).heap[w.heap.size]? = some (.cells #[.int .i64 o.k, .slice q n c, .slice p d e] 103 (0, 0)) := heap_alloc2_old w _ _
  have hx2 : ((w.alloc (.cells #[.int .i64 o.k, .slice q n c, .slice p d e] 103)).alloc (.cells #[.int .i64 0, .slice none 0 0, .slice none 0 0] 103)).heap[w.heap.size + 1]? = some (.cells #[.int .i64 0, .slice none 0 0, .slice none 0 0] 103 (0, 0)) := heap_alloc2_new w _ _
  have hsz : ((w.alloc (.cells #[.int .i64 o.k, .slice q n c, .slice p d e] 103)).alloc (.cells #[.int .i64 0, .slice none 0 0, .slice none 0 0] 103)).heap.size = w.heap.size + 2 := by simp
  have HOV := Lib.hid (hov.below HB0.out)
  have HOB := Lib.hid (hob.below HB0.out)
  have HX1 := Lib.hid hx1
  have HX2 := Lib.hid hx2
  have HSZ := Lib.hid hsz
  obtain ⟨k, HK⟩ : ∃ k, Hid (o.k = k) := ⟨_, Lib.hid rfl⟩
  rw [HK.out] at HB0 HOV HOB HX1 HX2 HSZ ⊢
  clear hov hob hx1 hx2 hsz
  have HV : Hid (∀ w1, Below ((w.alloc (.cells #[.int .i64 k, .slice q n c, .slice p d e] 103)).alloc (.cells #[.int .i64 0, .slice none 0 0, .slice none 0 0] 103)).heap.size ((w.alloc (.cells #[.int .i64 k, .slice q n c, .slice p d e] 103)).alloc (.cells #[.int .i64 0, .slice none 0 0, .slice none 0 0] 103)) w1 → Calls Tryz.prog 105 #[.slice q n c] w1 fun e w' => ∃ v, e = .returned v ∧ w'.ownsRow w1.heap.size 36 2 v n (flatV o.vs) ∧ Below w1.heap.size w1 w') := Lib.hid fun w1 hb => vclone_any q n c o.vs w1 hn (HOV.out.below hb)
  have HBC : Hid (∀ w1, Below ((w.alloc (.cells #[.int .i64 k, .slice q n c, .slice p d e] 103)).alloc (.cells #[.int .i64 0, .slice none 0 0, .slice none 0 0] 103)).heap.size ((w.alloc (.cells #[.int .i64 k, .slice q n c, .slice p d e] 103)).alloc (.cells #[.int .i64 0, .slice none 0 0, .slice none 0 0] 103)) w1 → Calls Tryz.prog 106 #[.slice p d e] w1 fun e w' => ∃ v, e = .returned v ∧ w'.ownsRow w1.heap.size 5 1 v d (u8s o.bs) ∧ Below w1.heap.size w1 w') := Lib.hid fun w1 hb => bclone_any p d e o.bs w1 hd (HOB.out.below hb)
  clear hn hd
  go_enter Tryz.func79, Tryz.ntmps79
  go_upto_region 1 with fail
  have hk : (o.k = k) := HK.out
  generalize hW : (w.alloc (.cells #[.int .i64 k, .slice q n c, .slice p d e] 103)).alloc (.cells #[.int .i64 0, .slice none 0 0, .slice none 0 0] 103) = W at *
  have HSW := HSZ.out
  have hgw : w.heap.size < W.heap.size := by omega
  have hgw1 : w.heap.size + 1 < W.heap.size := by omega
  have z0 := cell_of_row _ _ 0 _ _ _ HX1.out
  have z1 := cell_of_row _ _ 1 _ _ _ HX1.out
  have z2 := cell_of_row _ _ 2 _ _ _ HX1.out
  simp at z0 z1 z2
  have HALL : Hid (∀ u, Below W.heap.size W u → u.cell? ⟨w.heap.size, 0, none⟩ = some (.int .i64 k) ∧ u.cell? ⟨w.heap.size, 1, none⟩ = some (.slice q n c) ∧ u.cell? ⟨w.heap.size, 2, none⟩ = some (.slice p d e) ∧ u.heap[w.heap.size + 1]? = some (.cells #[.int .i64 0, .slice none 0 0, .slice none 0 0] 103 (0, 0))) := Lib.hid fun u hb => ⟨(hb.cell hgw).trans z0, (hb.cell hgw).trans z1, (hb.cell hgw).trans z2, (hb.block _ hgw1).trans HX2.out⟩
  clear hW hk
  go_region_held3 (fun u : World => u.cell? ⟨w.heap.size, 0, none⟩ = some (.int .i64 k) ∧ u.cell? ⟨w.heap.size, 1, none⟩ = some (.slice q n c) ∧ u.cell? ⟨w.heap.size, 2, none⟩ = some (.slice p d e)) ((first
        | with_reducible exact ⟨z0, z1, z2⟩
        | go_keep)) (first
      | (go_at_call 105
         with_reducible refine (HV.out _ ?hyp).mono ?_
         case hyp => first | exact (Below.refl _ _).drew | exact Below.refl _ _
         rintro ex wa ⟨va, rfl, hrA, hbA⟩
         obtain ⟨qa, ca, rfl⟩ := own_form hrA
         have hL : Below W.heap.size W wa := (Below.refl _ _).drew.trans hbA
         obtain ⟨z0, z1, z2, -⟩ := HALL.out _ hL)
      | (go_at_call 106
         with_reducible refine (HBC.out _ hL).mono ?_
         rintro ex wb ⟨vb, rfl, hrB, hbB⟩
         obtain ⟨qb, cb, rfl⟩ := own_form hrB
         have hrA := own_below hrA hbB
         have hL := hL.trans (hbB.mono hL.size)
         obtain ⟨z0, z1, z2, hx2⟩ := HALL.out _ hL
         have y0 := cell_of_row _ _ 0 _ _ _ hx2
         have y1 := cell_of_row _ _ 1 _ _ _ hx2
         have y2 := cell_of_row _ _ 2 _ _ _ hx2
         have f0 := frozen_of_row _ _ 0 _ _ hx2
         have f1 := frozen_of_row _ _ 1 _ _ hx2
         have f2 := frozen_of_row _ _ 2 _ _ hx2
         simp at y0 y1 y2))
  have hF := three_row wb (w.heap.size + 1) _ _ _ _ (.int .i64 k) (.slice qa n ca) (.slice qb d cb) hx2
  have HS : Hid (∀ b, b ≠ w.heap.size + 1 → (((wb.setCell ⟨w.heap.size + 1, 0, none⟩ (.int .i64 k)).setCell ⟨w.heap.size + 1, 1, none⟩ (.slice qa n ca)).setCell ⟨w.heap.size + 1, 2, none⟩ (.slice qb d cb)).heap[b]? = wb.heap[b]?) := Lib.hid fun b hb => by
    rw [Below.heap_setCell _ _ _ _ hb, Below.heap_setCell _ _ _ _ hb, Below.heap_setCell _ _ _ _ hb]
  have HBW : Hid (Below w.heap.size w (((wb.setCell ⟨w.heap.size + 1, 0, none⟩ (.int .i64 k)).setCell ⟨w.heap.size + 1, 1, none⟩ (.slice qa n ca)).setCell ⟨w.heap.size + 1, 2, none⟩ (.slice qb d cb))) :=
    Lib.hid ((((HB0.out.trans (hL.mono (by omega))).setCell (by show w.heap.size ≤ w.heap.size + 1; omega) _).setCell (by show w.heap.size ≤ w.heap.size + 1; omega) _).setCell (by show w.heap.size ≤ w.heap.size + 1; omega) _)
  have HRA : Hid (∀ b, (Value.slice qa n ca).ownBlock = some b → w.heap.size + 2 ≤ b) := Lib.hid fun b hb => by have : W.heap.size ≤ b := own_ge hrA hb; omega
  have HRB : Hid (∀ b, (Value.slice qb d cb).ownBlock = some b → w.heap.size + 2 ≤ b) := Lib.hid fun b hb => by have h1 : wa.heap.size ≤ b := own_ge hrB hb; have h2 : W.heap.size ≤ wa.heap.size := hbA.size; omega
  have HC : Hid (Cpy w (((wb.setCell ⟨w.heap.size + 1, 0, none⟩ (.int .i64 k)).setCell ⟨w.heap.size + 1, 1, none⟩ (.slice qa n ca)).setCell ⟨w.heap.size + 1, 2, none⟩ (.slice qb d cb)) o (.slice qa n ca) (.slice qb d cb)) := Lib.hid
    ⟨by rw [hvl]; exact own_low (own_other hrA fun b hb => HS.out b (by have := HRA.out b hb; omega)) (by show w.heap.size ≤ W.heap.size; omega),
     by rw [hbl]; exact own_low (own_other hrB fun b hb => HS.out b (by have := HRB.out b hb; omega)) (by have : W.heap.size ≤ wa.heap.size := hbA.size; omega), HBW.out⟩
  generalize ((wb.setCell ⟨w.heap.size + 1, 0, none⟩ (.int .i64 k)).setCell ⟨w.heap.size + 1, 1, none⟩ (.slice qa n ca)).setCell ⟨w.heap.size + 1, 2, none⟩ (.slice qb d cb) = V at *
  have v0 := cell_of_row _ _ 0 _ _ _ hF
  have v1 := cell_of_row _ _ 1 _ _ _ hF
  have v2 := cell_of_row _ _ 2 _ _ _ hF
  simp at v0 v1 v2
  clear HS HBW HRA HRB hF
  go_wp2_with fail
  exact bodyPost_ret (v := .agg #[.int .i64 k, .slice qa n ca, .slice qb d cb]) (by simp [results, Tryz.results79, go_sem, v0, v1, v2]) rfl ⟨_, _, rfl, HC.out⟩
end Go.Proofs.YthjjgpepgbfalaaGreatDoor
end
section
/-! An object laid at the least place. -/
set_option maxRecDepth 20000
set_option linter.unusedSimpArgs false
namespace Go.Proofs.YthjjgpepgbfalaaGreatDoor
open Go.RowKit

theorem Tryz.infoP : (Tryz.prog.info? 98).map (fun i => (i.zero, i.size, i.bytes)) = some (some (.pointer none), 1, 8) := by kernel_rfl
section
variable {w w' : World} {g mb : Nat} {vr vr' : Value} {S : Nat → Option Pos} {m : Hm}
/-- What is told of a memory in which an object was laid. -/
theorem Hp.laid (h : Hp w g vr mb S m) {x : Pos} {c : Cl} (hc : CelAt w x c) (hx : ∀ k, blkP x k → ¬ footH g vr mb S k) (hn : c.num = 0) (hr : liveN m.L < m.lim)
    (hd : w'.heap[g]? = some (.cells #[.int .i64 (m.lim : Int), vr', .int .i64 ((liveN m.L : Int) + 1), .int .i64 ((gapH m.L : Int) + 1), .map (some mb), m.by_, .int .i64 (m.fet : Int)] 52 (0, 0)))
    (hrow : w'.ownsRow 0 98 1 vr' (putH m.L (gapH m.L) c).length (ptrs (putS S (gapH m.L) (some x)) (putH m.L (gapH m.L) c).length))
    (hk : ∀ k, k < w.heap.size → k ≠ g → vr.ownBlock ≠ some k → w'.heap[k]? = w.heap[k]?) :
    Hp w' g vr' mb (putS S (gapH m.L) (some x)) (m.lay c) := by
  obtain ⟨n0, n1, n2⟩ := h.ne
  have hg := gapH_le m.L
  have hat : ∀ j, clAt (m.lay c).L j = if j = gapH m.L then some c else clAt m.L j := fun j => clAt_put hg
  have hlive : liveN (m.lay c).L = liveN m.L + 1 := liveN_put c hg (gapH_none _)
  refine ⟨?_, hrow, ?_, ?_, ?_, ?_, h.ok.lay hn hr⟩
  · rw [hlive, hd]; rfl
  · intro j e he
    rw [hat] at he
    split at he
    · rename_i ej
      cases he
      refine ⟨x, by unfold putS; rw [if_pos ej], hc.keep fun k hkx => hk k (hc.lt k hkx) (fun e => hx k hkx (.inl e)) (fun e => hx k hkx (.inr (.inl e)))⟩
    · rename_i hj
      obtain ⟨y, hy, hca⟩ := h.at_ j e he
      refine ⟨y, by unfold putS; rw [if_neg hj]; exact hy, hca.keep fun k hky => ?_⟩
      obtain ⟨a1, _, a3⟩ := n2 j y hy k hky
      exact hk k (hca.lt k hky) a1 a3
  · intro j hj
    rw [hat] at hj
    split at hj
    · cases hj
    · rename_i hj2
      unfold putS; rw [if_neg hj2]; exact h.none_ j hj
  · exact h.nums.same (hk mb h.nums.lt (Ne.symm n0) (fun e => (n1 mb e).2 rfl))
  · intro i j y z hij hy hz k hky hkz
    unfold putS at hy hz
    split at hy
    · cases hy
      split at hz
      · omega
      · exact hx k hky (.inr (.inr (.inr ⟨j, z, hz, hkz⟩)))
    · split at hz
      · cases hz
        exact hx k hkz (.inr (.inr (.inr ⟨i, y, hy, hky⟩)))
      · exact h.sep i j y z hij hy hz k hky hkz
/-- .. and which blocks it has changed. -/
theorem foot_laid {x : Pos} {i : Nat} (hv : ∀ k, vr'.ownBlock = some k → vr.ownBlock = some k ∨ w.heap.size ≤ k) :
    ∀ k, footH g vr' mb (putS S i (some x)) k → (footH g vr mb S k ∨ blkP x k) ∨ w.heap.size ≤ k := by
  rintro k (rfl | e | rfl | ⟨j, y, hy, hk⟩)
  · exact .inl (.inl (.inl rfl))
  · rcases hv k e with h | h
    · exact .inl (.inl (.inr (.inl h)))
    · exact .inr h
  · exact .inl (.inl (.inr (.inr (.inl rfl))))
  · unfold putS at hy
    split at hy
    · cases hy; exact .inl (.inr hk)
    · exact .inl (.inl (.inr (.inr (.inr ⟨j, y, hy, hk⟩))))
/-- What lay leaves. -/
def LaidX (w w' : World) (g : Nat) (vr : Value) (mb : Nat) (S : Nat → Option Pos) (m : Hm) (x : Pos) (c : Cl) (i : Nat) : Prop :=
  ∃ vr', Hp w' g vr' mb (putS S i (some x)) (m.lay c) ∧ Chp (fun k => footH g vr mb S k ∨ blkP x k) (footH g vr' mb (putS S i (some x))) w w'
def LaidR (w w' : World) (g : Nat) (vr : Value) (mb : Nat) (S : Nat → Option Pos) (m : Hm) (x : Pos) (c : Cl) : Prop := LaidX w w' g vr mb S m x c (gapH m.L)
set_option maxHeartbeats 3200000 in
theorem Hp.lay (h : Hp w g vr mb S m) {x : Pos} {c : Cl} (hc : CelAt w x c) (hx : ∀ k, blkP x k → ¬ footH g vr mb S k) (hn : c.num = 0) (hr : liveN m.L < m.lim) :
    Calls Tryz.prog 78 #[.pointer (some ⟨g, 0, none⟩), .pointer (some ⟨x.1, 0, none⟩)] w fun e w' => e = .returned (.int .i64 (gapH m.L : Int)) ∧ LaidR w w' g vr mb S m x c := by
  have HP := Lib.hid h
  have HLD := Lib.hid (fun (w' : World) (vr' : Value) => h.laid (w' := w') (vr' := vr') hc hx hn hr)
  have HFT := Lib.hid (fun (vr' : Value) => foot_laid (w := w) (g := g) (vr := vr) (vr' := vr') (mb := mb) (S := S) (x := x) (i := gapH m.L))
  obtain ⟨n0, n1, -⟩ := h.ne
  have HN1 := Lib.hid n1
  have c1 := h.c1
  have c2 := h.c2
  have c3 := h.c3
  have cf1 := h.fz 1
  have cf2 := h.fz 2
  have cf3 := h.fz 3
  have hs := h.short
  have hgap := gapH_le m.L
  have hlg := h.ok.least_gap
  have hlv := liveN_le m.L
  have HG : Hid (∀ j, j < gapH m.L → ∃ y, ptrV S j = .pointer (some ⟨y, 0, none⟩)) := Lib.hid fun j hj => by
    obtain ⟨d, hd⟩ := gapH_live hj
    obtain ⟨y, hy, _⟩ := h.at_ j d hd
    exact ⟨y.1, by unfold ptrV; rw [hy]; rfl⟩
  have HG0 : Hid (ptrV S (gapH m.L) = .pointer none) := Lib.hid (by unfold ptrV; rw [h.none_ _ (gapH_none _)]; rfl)
  have HAT : Hid (∀ k, k < m.L.length → ∃ b c, vr = .slice (some ⟨b, 0, none⟩) m.L.length c ∧ m.L.length ≤ c ∧ w.cell? ⟨b, k, none⟩ = some (ptrV S k) ∧ w.frozen? ⟨b, k, none⟩ = false) := Lib.hid fun k hk => h.at' hk
  have HROW := Lib.hid h.row
  have HPL : Hid ((putH m.L (gapH m.L) c).length = max m.L.length (gapH m.L + 1)) := Lib.hid (putH_len hgap)
  have hglt := h.glt
  have HD := Lib.hid h.hd
  obtain ⟨q, cp, e⟩ := h.form
  subst e
  obtain ⟨l0, HL0⟩ : ∃ l0, Hid (m.least = l0) := ⟨_, Lib.hid rfl⟩
  obtain ⟨G, HGG⟩ : ∃ G, Hid (gapH m.L = G) := ⟨_, Lib.hid rfl⟩
  obtain ⟨N, HNN⟩ : ∃ N, Hid (m.L.length = N) := ⟨_, Lib.hid rfl⟩
  obtain ⟨lv, HLV⟩ : ∃ lv, Hid (liveN m.L = lv) := ⟨_, Lib.hid rfl⟩
  unfold LaidR
  rw [HGG.out] at hgap hlg HG HG0 HLD HFT HPL ⊢
  rw [HL0.out] at c3 hlg HD
  rw [HNN.out] at hs hgap hlv HAT HROW HPL c1 HD HLD HFT HN1 HP ⊢
  rw [HLV.out] at c2 hlv HD HLD
  clear h hc hx hn hr n1
  go_enter Tryz.func78, Tryz.ntmps78
  go_wp2_with fail
  go_loopw [5] (fun iv wr => ∃ i : Nat, i ≤ G ∧ iv = .int .i64 (i : Int) ∧ wr = w) (fun iv _ => G - (RowKit.intOf iv).toNat)
  case atStart => exact ⟨l0, hlg, by go_num, rfl⟩
  case round =>
    obtain ⟨i, hi, rfl, rfl⟩ := hrel
    by_cases hlt : i < G
    · obtain ⟨y, hy⟩ := HG.out i hlt
      obtain ⟨b, c', e, hcc, a1, _⟩ := HAT.out i (by omega)
      cases e
      rw [hy] at a1
      have hil : (i : Int) < (N : Int) := by omega
      go_wp2_with fail
      go_roundw
      case rel => exact ⟨i + 1, by omega, by go_num, trivial⟩
      case measure => simp [RowKit.intOf]; omega
    · obtain rfl : i = G := by omega
      have hPN := HG0.out
      by_cases hiN : i < N
      · obtain ⟨b, c', e, hcc, a1, f1⟩ := HAT.out i hiN
        cases e
        rw [hPN] at a1
        have hil : (i : Int) < (N : Int) := by omega
        have hne : ((i : Int) == (N : Int)) = false := by simp; omega
        obtain ⟨nb, -⟩ := HN1.out b rfl
        have HNB := Lib.hid nb
        have HX : Hid (LaidX wr (((wr.setCell ⟨b, i, none⟩ (.pointer (some ⟨x.1, 0, none⟩))).setCell ⟨g, 2, none⟩ (.int .i64 ((lv : Int) + 1))).setCell ⟨g, 3, none⟩ (.int .i64 ((i : Int) + 1))) g (.slice (some ⟨b, 0, none⟩) N cp) mb S m x c i) := Lib.hid (by
          refine ⟨.slice (some ⟨b, 0, none⟩) N cp, HLD.out _ _ ?_ ?_ ?_, ?_⟩
          · exact heap_setCell_same _ _ 3 _ _ _ (heap_setCell_same _ _ 2 _ _ _ ((heap_setCell_other _ _ _ _ (Ne.symm nb)).trans HD.out))
          · rw [HPL.out, Nat.max_eq_left (by omega), ← ptrs_set]
            exact own_other (HROW.out.stored i _).1 fun k e => by
              cases e
              exact (heap_setCell_other _ _ _ _ nb).trans (heap_setCell_other _ _ _ _ nb)
          · intro k _ h1 h2
            have h3 : k ≠ b := fun e => h2 (by rw [e]; rfl)
            exact (heap_setCell_other _ _ _ _ h1).trans ((heap_setCell_other _ _ _ _ h1).trans (heap_setCell_other _ _ _ _ h3))
          · have hc0 : Chp (fun k => footH g (.slice (some ⟨b, 0, none⟩) N cp) mb S k ∨ blkP x k) (fun k => footH g (.slice (some ⟨b, 0, none⟩) N cp) mb S k ∨ blkP x k) wr (((wr.setCell ⟨b, i, none⟩ (.pointer (some ⟨x.1, 0, none⟩))).setCell ⟨g, 2, none⟩ (.int .i64 ((lv : Int) + 1))).setCell ⟨g, 3, none⟩ (.int .i64 ((i : Int) + 1))) :=
              ((Chp.setCell (.inl (.inr (.inl rfl))) _ _).trans (Chp.setCell (.inl (.inl rfl)) _ _)).trans (Chp.setCell (.inl (.inl rfl)) _ _)
            exact hc0.congr (fun k h => h) (fun k h => (HFT.out (.slice (some ⟨b, 0, none⟩) N cp) (fun k h => .inl h) k h).elim .inl (fun h => .inr (.inr h))))
        go_wp2_with fail
        go_ret
        exact ⟨rfl, HX.out⟩
      · obtain rfl : i = N := by omega
        obtain ⟨i0, hi0, hz0, hz1, hz2⟩ := info_parts Tryz.infoP
        have HI0 := Lib.hid hi0
        have HZ0 := Lib.hid hz0
        have HZ1 := Lib.hid hz1
        have HZ2 := Lib.hid hz2
        have he : ((i : Int) == (i : Int)) = true := by simp
        have hrow : Hid ((wr.alloc (.cells #[.pointer none] 98)).ownsRow 0 98 1 (.slice q i cp) i (ptrs S i)) := Lib.hid (HROW.out.alloc _)
        have HPW : Hid (Hp wr g (.slice q i cp) mb S m) := HP
        have hgne : some g ≠ (Value.slice q i cp).ownBlock := fun e => (HN1.out g e.symm).1 rfl
        have HGN := Lib.hid hgne
        clear hi0 hz0 hz1 hz2 hgne HAT HG
        go_wp2_with (at_builtin; refine wpList_append_lies _ rfl (.tmp 40) (.tmp 41) 49 rfl 0 98 i0 (.pointer none) 1 8 Tryz.underlying49 HI0.out HZ0.out HZ1.out HZ2.out rfl (by decide) (.slice q i cp) i (ptrs S i) (by rfl) hrow.out ⟨wr.heap.size, 0, none⟩ 1 1 [.pointer none] (by rfl) rfl (cell_one_new wr _ _) (by decide) (by omega) (by unfold maxLen; omega) (by omega) (Nat.zero_le _) (wr.heap.size + 1) (by simp) ?_)
        intro gN cap w3 hown hgrow hat hlt3
        have hsz3 : wr.heap.size ≤ w3.heap.size := Nat.le_trans (by simp) hgrow.size
        have h3 : ∀ k, k < wr.heap.size → (Value.slice q i cp).ownBlock ≠ some k → w3.heap[k]? = wr.heap[k]? := fun k hk hne =>
          (hgrow.block k (by simp; omega) (fun e => hne e.symm)).trans (Below.heap_alloc wr _ k hk)
        have hgN : gN ≠ g := by
          rcases hat with e | e
          · exact (HN1.out _ e).1
          · omega
        have hHD3 := (h3 g hglt (fun e => HGN.out e.symm)).trans HD.out
        have hown1 : w3.ownsRow 0 98 1 (.slice (some ⟨gN, 0, none⟩) (i + 1) cap) (i + 1) (ptrs S (i + 1)) := by rw [ptrs_succ, HG0.out]; exact hown
        have a1 := hown1.cellAt i (by omega)
        rw [ptrs_get _ _ _ (by omega), HG0.out] at a1
        have f1 := hown1.frozenAt i
        have k1 := cell_of_row _ _ 1 _ _ _ hHD3
        have k2 := cell_of_row _ _ 2 _ _ _ hHD3
        have k3 := cell_of_row _ _ 3 _ _ _ hHD3
        have g1 := frozen_of_row _ _ 1 _ _ hHD3
        have g2 := frozen_of_row _ _ 2 _ _ hHD3
        have g3 := frozen_of_row _ _ 3 _ _ hHD3
        simp at k1 k2 k3
        have HX : Hid (LaidX wr ((((w3.setCell ⟨g, 1, none⟩ (.slice (some ⟨gN, 0, none⟩) (i + 1) cap)).setCell ⟨gN, i, none⟩ (.pointer (some ⟨x.1, 0, none⟩))).setCell ⟨g, 2, none⟩ (.int .i64 ((lv : Int) + 1))).setCell ⟨g, 3, none⟩ (.int .i64 ((i : Int) + 1))) g (.slice q i cp) mb S m x c i) := Lib.hid (by
          refine ⟨.slice (some ⟨gN, 0, none⟩) (i + 1) cap, HLD.out _ _ ?_ ?_ ?_, ?_⟩
          · exact heap_setCell_same _ _ 3 _ _ _ (heap_setCell_same _ _ 2 _ _ _ ((heap_setCell_other _ _ _ _ (Ne.symm hgN)).trans (heap_setCell_same _ _ 1 _ _ _ hHD3)))
          · rw [HPL.out, Nat.max_eq_right (by omega), ← ptrs_set]
            have hr4 : (w3.setCell ⟨g, 1, none⟩ (.slice (some ⟨gN, 0, none⟩) (i + 1) cap)).ownsRow 0 98 1 (.slice (some ⟨gN, 0, none⟩) (i + 1) cap) (i + 1) (ptrs S (i + 1)) := own_other hown1 fun k e => by
              cases e; exact heap_setCell_other _ _ _ _ hgN
            exact own_other (hr4.stored i _).1 fun k e => by
              cases e
              exact (heap_setCell_other _ _ _ _ hgN).trans (heap_setCell_other _ _ _ _ hgN)
          · intro k hk h1 h2
            have h4 : k ≠ gN := by
              rcases hat with e | e
              · intro e2; rw [e2] at h2; exact h2 e
              · omega
            exact (heap_setCell_other _ _ _ _ h1).trans ((heap_setCell_other _ _ _ _ h1).trans ((heap_setCell_other _ _ _ _ h4).trans ((heap_setCell_other _ _ _ _ h1).trans (h3 k hk h2))))
          · refine ⟨hgrow.os, hgrow.tape, hgrow.output, by simpa using hsz3, fun k hk hF => ?_, fun k h => HFT.out (.slice (some ⟨gN, 0, none⟩) (i + 1) cap) (fun k e => ?_) k h⟩
            · have h1 : k ≠ g := fun e => hF (.inl (.inl e))
              have h2 : (Value.slice q i cp).ownBlock ≠ some k := fun e => hF (.inl (.inr (.inl e)))
              have h4 : k ≠ gN := by
                rcases hat with e | e
                · intro e2; rw [e2] at h2; exact h2 e
                · omega
              exact (heap_setCell_other _ _ _ _ h1).trans ((heap_setCell_other _ _ _ _ h1).trans ((heap_setCell_other _ _ _ _ h4).trans ((heap_setCell_other _ _ _ _ h1).trans (h3 k hk h2))))
            · have e2 : gN = k := by simpa [Value.ownBlock] using e
              subst e2
              rcases hat with e3 | e3
              · exact .inl e3
              · exact .inr (by omega))
        have hii : (i : Int) < (i : Int) + 1 := by omega
        clear hown hgrow hat hlt3 hown1 hHD3 c1 c2 c3 cf1 cf2 cf3 HLD HFT
        go_wp2_with fail
        go_ret
        exact ⟨rfl, HX.out⟩
end
end Go.Proofs.YthjjgpepgbfalaaGreatDoor
end
