/- Texts QPlan to Torn5 of this seat, laid into one. -/
import Derived.Deep.AppendLies
import Derived.Deep.RegionHeldLaw
import Derived.Deep.RegionHeld3
import Derived.Test.YthcnofdihigohaaGreatM03
import Derived.Test.YthcnofdihigohaaGreatM06
import Derived.Test.YthcnofdihigohaaGreatM07
import Derived.Test.YthcnofdihigohaaGreatM11
import Derived.Test.YthcnofdihigohaaGreatM12
import Derived.Test.YthcnofdihigohaaGreatM13
import Derived.Test.YthcnofdihigohaaGreatM15
section
/- What a plan makes: without memory. -/
set_option maxRecDepth 20000
set_option linter.unusedSimpArgs false
namespace Go.Proofs.YthcnofdihigohaaGreat
open Go.RowKit

theorem keys_nodup (f : Pgs) : f.keys.Nodup := List.nodup_range.filter _
theorem tmems_nodup (f : Nat → Bool) (n : Nat) : (Tb.mems f n).Nodup := List.nodup_range.filter _
theorem mem_tmems {f : Nat → Bool} {n x : Nat} : x ∈ Tb.mems f n ↔ x < n ∧ f x = true := by unfold Tb.mems; rw [List.mem_filter, List.mem_range]
theorem getD_mem {l : List Nat} {i : Nat} (h : i < l.length) : l.getD i 0 ∈ l := by rw [List.getD_eq_getElem?_getD, List.getElem?_eq_getElem h]; exact List.getElem_mem _
theorem mem_getD {l : List Nat} {x : Nat} (h : x ∈ l) : ∃ i, i < l.length ∧ l.getD i 0 = x := by
  obtain ⟨i, hi, e⟩ := List.mem_iff_getElem.1 h
  exact ⟨i, hi, by rw [List.getD_eq_getElem?_getD, List.getElem?_eq_getElem hi]; exact e⟩
theorem nodup_getD {l : List Nat} (h : l.Nodup) {i j : Nat} (hi : i < l.length) (hj : j < l.length) (e : l.getD i 0 = l.getD j 0) : i = j := by
  rw [List.getD_eq_getElem?_getD, List.getD_eq_getElem?_getD, List.getElem?_eq_getElem hi, List.getElem?_eq_getElem hj] at e
  have e : l[i] = l[j] := e
  have hp := List.pairwise_iff_getElem.1 h
  rcases Nat.lt_trichotomy i j with h1 | h1 | h1
  · exact absurd e (hp i j hi hj h1)
  · exact h1
  · exact absurd e.symm (hp j i hj hi h1)
theorem drop_getD (l : List Nat) (k i : Nat) : (l.drop k).getD i 0 = l.getD (k + i) 0 := by
  rw [List.getD_eq_getElem?_getD, List.getElem?_drop, ← List.getD_eq_getElem?_getD]
theorem kT_mL (s : Sp) (F : List Nat) : ∀ i, kT s F i = mL s.kp s.fr.keys F i
  | 0 => rfl
  | i + 1 => by show Tb.updN (kT s F i) _ _ = Tb.updN (mL _ _ _ i) _ _; rw [kT_mL s F i]
theorem mL_key {M : List Nat} (hM : M.Nodup) (lv : Nat → Nat) (F : List Nat) : ∀ (i j : Nat), j < i → i ≤ M.length → mL lv M F i (M.getD j 0) = F.getD j 0
  | 0, j, hj, _ => by omega
  | i + 1, j, hj, hi => by
    show Tb.updN (mL lv M F i) (M.getD i 0) (F.getD i 0) (M.getD j 0) = _
    by_cases e : j = i
    · subst e; exact Tb.updN_same _ _ _
    · rw [Tb.updN_other _ _ _ _ (fun h => e (nodup_getD hM (by omega) (by omega) h)), mL_key hM lv F i j (by omega) (by omega)]
theorem mL_not {M : List Nat} (lv : Nat → Nat) (F : List Nat) (l : Nat) : ∀ (i : Nat), (∀ j, j < i → M.getD j 0 ≠ l) → mL lv M F i l = lv l
  | 0, _ => rfl
  | i + 1, h => by
    show Tb.updN (mL lv M F i) (M.getD i 0) (F.getD i 0) l = _
    rw [Tb.updN_other _ _ _ _ (fun e => h i (by omega) e.symm), mL_not lv F l i (fun j hj => h j (by omega))]
theorem bL_val (lv T : Nat → Nat) (l : Nat) : ∀ i, bL lv T i l = if l < i ∧ Tb.bareB T l = true then 0 else lv l
  | 0 => by rw [if_neg (by omega)]; rfl
  | i + 1 => by
    show (if Tb.bareB T i then Tb.updN (bL lv T i) i 0 else bL lv T i) l = _
    by_cases hb : Tb.bareB T i = true
    · rw [if_pos hb]
      by_cases e : l = i
      · subst e; rw [Tb.updN_same, if_pos ⟨by omega, hb⟩]
      · rw [Tb.updN_other _ _ _ _ e, bL_val lv T l i]
        by_cases h1 : l < i ∧ Tb.bareB T l = true
        · rw [if_pos h1, if_pos ⟨by omega, h1.2⟩]
        · rw [if_neg h1, if_neg (fun h => h1 ⟨by omega, h.2⟩)]
    · rw [if_neg hb, bL_val lv T l i]
      by_cases h1 : l < i ∧ Tb.bareB T l = true
      · rw [if_pos h1, if_pos ⟨by omega, h1.2⟩]
      · rw [if_neg h1, if_neg (fun h => h1 ⟨by
          by_cases e : l = i
          · exact absurd (e ▸ h.2) hb
          · omega, h.2⟩)]
theorem bare_iff {f : Nat → Nat} {i : Nat} : Tb.bareB f i = true ↔ ∀ k, k < 128 → f (128 * i + k) = 0 := by
  unfold Tb.bareB Tb.sameN Tb.leafF; simp
theorem dif_iff {f k : Nat → Nat} {i : Nat} : Tb.difB f k i = false ↔ ∀ j, j < 128 → f (128 * i + j) = k (128 * i + j) := by
  unfold Tb.difB Tb.sameN Tb.leafF; simp
theorem freshB_iff {f : Pgs} {i : Nat} : freshB f i = true ↔ ∃ l, l ∈ f.keys ∧ l / 128 = i := by unfold freshB; simp
/-- What a plan stands on. -/
structure Base (s : Sp) (pg : Nat) : Prop where
  pgE : s.g.r.pg = (pg : Int)
  p4 : 4 ≤ pg
  p5 : pg ≤ 512
  ap : Apart (lab ⟨0, 0, 0, 0⟩ s.g.lv s.kp) (List.range 517) (pg : Int)
  held : ∀ n, n < 517 → lab ⟨0, 0, 0, 0⟩ s.g.lv s.kp n ≠ 0 → heldS s (lab ⟨0, 0, 0, 0⟩ s.g.lv s.kp n) = true
  okk : Tb.Ok s.kp
  okl : ∀ i, i < 4 → Tb.pgN (s.g.lv i) = true
  lvb : ∀ i, i < 4 → Tb.bareB s.g.tb i = false → s.g.lv i ≠ 0
  ex : ∀ l b, s.fr l = some b → s.kp l = 0 ∧ l < 512 ∧ b.length = 512 ∧ ∀ x ∈ b, x < 256
  hi : ∀ l, 512 ≤ l → s.kp l = 0
/-- A state that a block tells of. -/
structure StGood (st : St) : Prop where
  mays : Mays st.r
  us : st.us = some (usF st.r st.lv st.tb)
  ap : ApartS st.r st.lv st.tb
  okt : Tb.Ok st.tb
  okl : ∀ i, i < 4 → Tb.pgN (st.lv i) = true
  bare : ∀ i, i < 4 → (st.lv i = 0 ↔ Tb.bareB st.tb i = true)
  hi : ∀ l, 512 ≤ l → st.tb l = 0
section
variable {s : Sp} {pg : Nat}
theorem free_mem (hB : Base s pg) {p : Nat} : p ∈ freeL s ↔ p < pg ∧ 2 ≤ p ∧ heldS s p = false := by
  unfold freeL
  rw [mem_tmems, hB.pgE, Int.toNat_natCast]
  unfold frB
  simp
theorem free_nodup (s : Sp) : (freeL s).Nodup := tmems_nodup _ _
/-- Which free page a label takes. -/
def idx (s : Sp) (j n : Nat) : Prop :=
  (n = 0 ∧ j = s.fr.keys.length + (movL s).length) ∨ (∃ i t, i < 4 ∧ n = i + 1 ∧ t < (movL s).length ∧ j = s.fr.keys.length + t ∧ (movL s).getD t 0 = i) ∨ (∃ l, l < 512 ∧ n = l + 5 ∧ j < s.fr.keys.length ∧ s.fr.keys.getD j 0 = l)
theorem idx_inj {j n k : Nat} (h1 : idx s j n) (h2 : idx s j k) : n = k := by
  rcases h1 with ⟨rfl, e1⟩ | ⟨i, t, hi, rfl, ht, e1, em⟩ | ⟨l, hl, rfl, hj, ek⟩ <;> rcases h2 with ⟨rfl, e2⟩ | ⟨i', t', hi', rfl, ht', e2, em'⟩ | ⟨l', hl', rfl, hj', ek'⟩ <;> try omega
  · have : t = t' := by omega
    subst this; omega
theorem idx_lt {j n : Nat} (hN : needS s ≤ (freeL s).length) (h : idx s j n) : j < (freeL s).length := by
  unfold needS at hN
  rcases h with ⟨_, e1⟩ | ⟨_, t, _, _, ht, e1, _⟩ | ⟨_, _, _, hj, _⟩ <;> omega
theorem plT_key (s : Sp) {j : Nat} (hj : j < s.fr.keys.length) : plT s (s.fr.keys.getD j 0) = (freeL s).getD j 0 := by
  unfold plT; rw [kT_mL]; exact mL_key (keys_nodup _) _ _ _ _ hj (Nat.le_refl _)
theorem plT_not (s : Sp) {l : Nat} (h : l ∉ s.fr.keys) : plT s l = s.kp l := by
  unfold plT; rw [kT_mL]
  exact mL_not _ _ _ _ (fun j hj e => h (by rw [← e]; exact getD_mem hj))
theorem plL_mov (s : Sp) {t : Nat} (ht : t < (movL s).length) : plL s ((movL s).getD t 0) = (freeL s).getD (s.fr.keys.length + t) 0 := by
  unfold plL plF
  rw [mL_key (show (movL s).Nodup from tmems_nodup _ _) _ _ _ _ ht (Nat.le_refl _), drop_getD]
theorem plL_not (s : Sp) {i : Nat} (hi : i < 4) (h : movB s i = false) : plL s i = if Tb.bareB (plT s) i = true then 0 else s.g.lv i := by
  unfold plL
  rw [mL_not _ _ _ _ (fun j hj e => by
    have h1 := getD_mem hj
    rw [e] at h1
    unfold movL at h1
    have h2 := (mem_tmems.1 h1).2
    rw [h] at h2; cases h2), bL_val]
  by_cases hb : Tb.bareB (plT s) i = true
  · rw [if_pos ⟨hi, hb⟩, if_pos hb]
  · rw [if_neg (fun h => hb h.2), if_neg hb]
theorem plD_eq (s : Sp) : plD s = (freeL s).getD (s.fr.keys.length + (movL s).length) 0 := by unfold plD plF; rw [drop_getD]
theorem movL_at (s : Sp) {i : Nat} (hi : i < 4) (h : movB s i = true) : ∃ t, t < (movL s).length ∧ (movL s).getD t 0 = i := mem_getD (mem_tmems.2 ⟨hi, h⟩)
/-- Where each label's page comes from. -/
theorem lab_src (_hB : Base s pg) (r : Rt) (n : Nat) (hn : n < 517) :
    lab (planRt s r) (plL s) (plT s) n = 0 ∨ lab (planRt s r) (plL s) (plT s) n = lab ⟨0, 0, 0, 0⟩ s.g.lv s.kp n ∨ ∃ j, idx s j n ∧ lab (planRt s r) (plL s) (plT s) n = (freeL s).getD j 0 := by
  rcases (show n = 0 ∨ (∃ i, i < 4 ∧ n = i + 1) ∨ (∃ l, l < 512 ∧ n = l + 5) by
    rcases Nat.lt_or_ge n 5 with h | h
    · rcases Nat.eq_zero_or_pos n with h0 | h0
      · exact .inl h0
      · exact .inr (.inl ⟨n - 1, by omega, by omega⟩)
    · exact .inr (.inr ⟨n - 5, by omega, by omega⟩)) with rfl | ⟨i, hi, rfl⟩ | ⟨l, hl, rfl⟩
  · refine .inr (.inr ⟨_, .inl ⟨rfl, rfl⟩, ?_⟩)
    rw [lab_dir, ← plD_eq]
    exact Int.toNat_natCast _
  · rw [lab_lv _ _ _ _ hi, lab_lv _ _ _ _ hi]
    cases h : movB s i
    · rw [plL_not s hi h]
      split
      · exact .inl rfl
      · exact .inr (.inl rfl)
    · obtain ⟨t, ht, e⟩ := movL_at s hi h
      have h1 := plL_mov s ht
      rw [e] at h1
      exact .inr (.inr ⟨_, .inr (.inl ⟨i, t, hi, rfl, ht, rfl, e⟩), h1⟩)
  · rw [lab_tb, lab_tb]
    by_cases h : l ∈ s.fr.keys
    · obtain ⟨j, hj, e⟩ := mem_getD h
      have h1 := plT_key s hj
      rw [e] at h1
      exact .inr (.inr ⟨_, .inr (.inr ⟨l, hl, rfl, hj, e⟩), h1⟩)
    · exact .inr (.inl (plT_not s h))
theorem plan_apart (hB : Base s pg) (hN : needS s ≤ (freeL s).length) (r : Rt) (hr : r.pg = (pg : Int)) : ApartS (planRt s r) (plL s) (plT s) := by
  have hF : ∀ {j n}, idx s j n → (freeL s).getD j 0 < pg ∧ 2 ≤ (freeL s).getD j 0 ∧ heldS s ((freeL s).getD j 0) = false := fun h => (free_mem hB).1 (getD_mem (idx_lt hN h))
  refine ⟨fun n hn h0 => ?_, fun n hn k hk h0 e => ?_⟩
  · rw [List.mem_range] at hn
    show _ < r.pg
    rw [hr]
    rcases lab_src hB r n hn with h | h | ⟨j, hj, h⟩
    · exact absurd h h0
    · rw [h] at h0 ⊢
      exact hB.ap.lt n (List.mem_range.2 hn) h0
    · rw [h]; have := (hF hj).1; omega
  · rw [List.mem_range] at hn hk
    rcases lab_src hB r n hn with h | h | ⟨j, hj, h⟩
    · exact absurd h h0
    · rcases lab_src hB r k hk with h2 | h2 | ⟨j2, hj2, h2⟩
      · rw [h2] at e; exact absurd e h0
      · rw [h] at h0; rw [h, h2] at e
        exact hB.ap.inj n (List.mem_range.2 hn) k (List.mem_range.2 hk) h0 e
      · rw [h] at h0
        have h3 := hB.held n hn h0
        rw [h, h2] at e
        rw [e, (hF hj2).2.2] at h3; cases h3
    · rcases lab_src hB r k hk with h2 | h2 | ⟨j2, hj2, h2⟩
      · rw [h2] at e; exact absurd e h0
      · rw [h, h2] at e
        have h3 := (hF hj).2.2
        rw [e] at h3
        have h4 := (hF hj).2.1
        rw [hB.held k hk (by omega)] at h3; cases h3
      · rw [h, h2] at e
        have := nodup_getD (free_nodup s) (idx_lt hN hj) (idx_lt hN hj2) e
        subst this
        exact idx_inj hj hj2
theorem free_two (hB : Base s pg) {j : Nat} (hj : j < (freeL s).length) : 2 ≤ (freeL s).getD j 0 ∧ (freeL s).getD j 0 < pg := by
  have := (free_mem hB).1 (getD_mem hj)
  exact ⟨this.2.1, this.1⟩
theorem key_at {l : Nat} (h : l ∈ s.fr.keys) : ∃ b, s.fr l = some b := Option.isSome_iff_exists.1 (Pgs.mem_keys.1 h).2
theorem bare_mov (hB : Base s pg) (hN : needS s ≤ (freeL s).length) {i : Nat} (_hi : i < 4) (h : movB s i = true) : Tb.bareB (plT s) i = false := by
  cases e : Tb.bareB (plT s) i
  · rfl
  · exfalso
    have hz := bare_iff.1 e
    unfold movB at h
    rw [Bool.or_eq_true] at h
    rcases h with h | h
    · obtain ⟨l, hl, h1⟩ := freshB_iff.1 h
      obtain ⟨j, hj, e2⟩ := mem_getD hl
      have h2 := plT_key s hj
      rw [e2] at h2
      have h3 := hz (l % 128) (Nat.mod_lt _ (by omega))
      rw [show 128 * i + l % 128 = l by omega, h2] at h3
      unfold needS at hN
      have := (free_two hB (j := j) (by omega)).1
      omega
    · rw [Bool.and_eq_true, Bool.not_eq_true'] at h
      have h2 := h.2
      rw [show Tb.bareB s.kp i = true from bare_iff.2 fun k hk => by
        by_cases hm : 128 * i + k ∈ s.fr.keys
        · obtain ⟨b, hb⟩ := key_at hm
          exact (hB.ex _ _ hb).1
        · rw [← plT_not s hm]; exact hz k hk] at h2
      cases h2
theorem leaf_same (_hB : Base s pg) {i : Nat} (h : movB s i = false) (hb : Tb.bareB (plT s) i = false) : ∀ k, k < 128 → plT s (128 * i + k) = s.g.tb (128 * i + k) := by
  unfold movB at h
  rw [Bool.or_eq_false_iff] at h
  have hnk : ∀ k, k < 128 → 128 * i + k ∉ s.fr.keys := fun k hk hm => by
    have := freshB_iff.2 ⟨_, hm, show (128 * i + k) / 128 = i by omega⟩
    rw [h.1] at this; cases this
  have hkb : Tb.bareB s.kp i = false := by
    cases e : Tb.bareB s.kp i
    · rfl
    · rw [show Tb.bareB (plT s) i = true from bare_iff.2 fun k hk => by rw [plT_not s (hnk k hk)]; exact bare_iff.1 e k hk] at hb; cases hb
  have h2 := h.2
  rw [hkb] at h2
  have hd : Tb.difB s.kp s.g.tb i = false := by simpa using h2
  intro k hk
  rw [plT_not s (hnk k hk)]
  exact dif_iff.1 hd k hk
theorem plan_bare (hB : Base s pg) (hN : needS s ≤ (freeL s).length) (i : Nat) (hi : i < 4) : plL s i = 0 ↔ Tb.bareB (plT s) i = true := by
  cases h : movB s i
  · rw [plL_not s hi h]
    constructor
    · intro h0
      by_cases hb : Tb.bareB (plT s) i = true
      · exact hb
      · exfalso
        rw [if_neg hb] at h0
        have hbf : Tb.bareB (plT s) i = false := by simpa using hb
        refine hB.lvb i hi ?_ h0
        cases e : Tb.bareB s.g.tb i
        · rfl
        · exact absurd (bare_iff.2 fun k hk => by rw [leaf_same hB h hbf k hk]; exact bare_iff.1 e k hk) hb
    · intro hb; rw [if_pos hb]
  · have hbf := bare_mov hB hN hi h
    obtain ⟨t, ht, e⟩ := movL_at s hi h
    have h1 := plL_mov s ht
    rw [e] at h1
    unfold needS at hN
    have := (free_two hB (j := s.fr.keys.length + t) (by omega)).1
    rw [hbf, h1]
    constructor
    · intro h0; omega
    · intro h0; cases h0
theorem free_pgN (hB : Base s pg) {j : Nat} (hj : j < (freeL s).length) : Tb.pgN ((freeL s).getD j 0) = true := by
  have h1 := free_two hB hj
  have h2 := hB.p5
  generalize (freeL s).getD j 0 = x at *
  unfold Tb.pgN
  simp; omega
theorem plan_okt (hB : Base s pg) (hN : needS s ≤ (freeL s).length) : Tb.Ok (plT s) := fun l => by
  by_cases h : l ∈ s.fr.keys
  · obtain ⟨j, hj, e⟩ := mem_getD h
    have h1 := plT_key s hj
    rw [e] at h1
    rw [h1]
    unfold needS at hN
    exact free_pgN hB (by omega)
  · rw [plT_not s h]; exact hB.okk l
theorem plan_okl (hB : Base s pg) (hN : needS s ≤ (freeL s).length) (i : Nat) (hi : i < 4) : Tb.pgN (plL s i) = true := by
  cases h : movB s i
  · rw [plL_not s hi h]
    split
    · rfl
    · exact hB.okl i hi
  · obtain ⟨t, ht, e⟩ := movL_at s hi h
    have h1 := plL_mov s ht
    rw [e] at h1
    rw [h1]
    unfold needS at hN
    exact free_pgN hB (by omega)
theorem plan_mays (hB : Base s pg) (hN : needS s ≤ (freeL s).length) {r : Rt} (hr : r.pg = (pg : Int)) (hm : may r = true) : Mays (planRt s r) := by
  have h := may_yes hm
  have h1 : s.fr.keys.length + (movL s).length < (freeL s).length := by unfold needS at hN; omega
  have h2 := free_two hB h1
  rw [← plD_eq] at h2
  exact ⟨h.e0, h.e1, h.p0, h.p1, by show (2 : Int) ≤ (plD s : Int); omega, by show (plD s : Int) < r.pg; omega, h.w0, h.w1⟩
/-- What a plan makes is a state. -/
theorem plan_good (hB : Base s pg) (hN : needS s ≤ (freeL s).length) {r : Rt} (hr : r.pg = (pg : Int)) (hm : may r = true) : StGood ⟨planRt s r, plL s, plT s, some (plU s r)⟩ := by
  have hM := plan_mays hB hN hr hm
  have hA := plan_apart hB hN r hr
  refine ⟨hM, ?_, hA, plan_okt hB hN, plan_okl hB hN, plan_bare hB hN, fun l hl => ?_⟩
  · unfold plU; rw [pgsM_yes hM.d0 hM.p1 hA]
  · show plT s l = 0
    rw [plT_not s (fun h => by have := (Pgs.mem_keys.1 h).1; omega)]
    exact hB.hi l hl
theorem plU_eq (hB : Base s pg) (hN : needS s ≤ (freeL s).length) {r : Rt} (hr : r.pg = (pg : Int)) (hm : may r = true) : plU s r = usF (planRt s r) (plL s) (plT s) := by
  have hM := plan_mays hB hN hr hm
  unfold plU; rw [pgsM_yes hM.d0 hM.p1 (plan_apart hB hN r hr)]
end
end Go.Proofs.YthcnofdihigohaaGreat
end
section
/- A fuse that is laid, a start, and the writes that wait. -/
set_option maxRecDepth 20000
set_option linter.unusedSimpArgs false
namespace Go.Proofs.YthcnofdihigohaaGreat
open Go.RowKit
theorem below2 (w : World) (a b : Obj) : Below w.heap.size w ((w.alloc a).alloc b) := ((Below.refl _ _).alloc (Nat.le_refl _) _).alloc (by simp) _
theorem infoInt : (Tryz.prog.info? 3).map (fun i => (i.zero, i.size, i.bytes)) = some (some (.int .i64 0), 1, 8) := by kernel_rfl
section
variable {w : World} {g bO cO bL cL : Nat} {vW : Value} {os ls : List Value} {ws : List Vw} {m : Dsk}
set_option maxHeartbeats 400000 in
theorem fuse_any (h : Dk0 w g bO cO bL cL vW os ls ws m) (n : Int) (h0 : -9223372036854775808 ≤ n) (h1 : n ≤ 9223372036854775807) :
    Calls Tryz.prog 23 #[.pointer (some ⟨g, 0, none⟩), .int .i64 n] w fun e w' => e = .returned (.tuple #[]) ∧ Stays g bO cO bL cL vW os ls ws (fuseM m n) w w' := by
  have hf := h.fz 3
  have hc3 := h.c3
  have HM : Hid (∀ f : Int, max n (-1) = f → Stays g bO cO bL cL vW os ls ws (fuseM m n) w (w.setCell ⟨g, 3, none⟩ (.int .i64 f))) := Lib.hid (fun f hf => by
    subst hf; exact ⟨h.setFuse (max n (-1)) (by omega) (by omega), Dk0.chgG _ _ _⟩)
  clear h
  go_enter Tryz.func23, Tryz.ntmps23
  go_wp2_with fail
  all_goals go_end0
  all_goals exact ⟨rfl, HM.out _ (by omega)⟩
set_option maxHeartbeats 400000 in
theorem fuse_nil (n : Int) (w : World) : Calls Tryz.prog 23 #[.pointer none, .int .i64 n] w fun e w' => e = .returned (.tuple #[]) ∧ w = w' := by
  go_enter Tryz.func23, Tryz.ntmps23
  go_wp2_with fail
  go_end0
  exact ⟨rfl, rfl⟩
set_option maxHeartbeats 400000 in
theorem start_down (h : Dk0 w g bO cO bL cL vW os ls ws m) (hd : m.down = true) :
    Calls Tryz.prog 41 #[.pointer (some ⟨g, 0, none⟩)] w fun e w' => e = .returned (.tuple #[]) ∧ Went (foot g bO bL vW) g (startM m) w w' := by
  have HE : Hid (startM m = { forgot m with fuse := -1, down := false }) := Lib.hid (by unfold startM; rw [if_pos hd]; rfl)
  rw [HE.out]
  have hc4 := h.c4
  rw [hd] at hc4
  have HH := Lib.hid h
  clear h hd HE
  go_enter Tryz.func41, Tryz.ntmps41
  go_wp2_with fail
  refine (forget_any HH.out).mono ?_
  rintro e w3 ⟨rfl, hD, hCh⟩
  clear hc4
  have hc3 := hD.c3
  have hc4 := hD.c4
  have f3 := hD.fz 3
  have f4 := hD.fz 4
  have HW : Hid (Went (foot g bO bL vW) g { forgot m with fuse := -1, down := false } w ((w3.setCell ⟨g, 3, none⟩ (.int .i64 (-1))).setCell ⟨g, 4, none⟩ (.bool false))) := Lib.hid ⟨_, (setBoth hD false).1.went, hCh.trans (setBoth hD false).2⟩
  clear hD hCh
  go_wp2_with fail
  go_end0
  exact ⟨rfl, HW.out⟩
set_option maxHeartbeats 400000 in
theorem start_up (h : Dk0 w g bO cO bL cL vW os ls ws m) (hd : m.down = false) :
    Calls Tryz.prog 41 #[.pointer (some ⟨g, 0, none⟩)] w fun e w' => e = .returned (.tuple #[]) ∧ w = w' := by
  have hc4 := h.c4
  rw [hd] at hc4
  clear h hd
  go_enter Tryz.func41, Tryz.ntmps41
  go_wp2_with fail
  refine bodyPost_ret (results_none rfl _ _ _) rfl ?_
  exact ⟨rfl, rfl⟩
set_option maxHeartbeats 400000 in
theorem start_nil (w : World) : Calls Tryz.prog 41 #[.pointer none] w fun e w' => e = .returned (.tuple #[]) ∧ w = w' := by
  go_enter Tryz.func41, Tryz.ntmps41
  go_wp2_with fail
  refine bodyPost_ret (results_none rfl _ _ _) rfl ?_
  exact ⟨rfl, rfl⟩
end
set_option maxHeartbeats 400000 in
theorem waiting_nil (w : World) : Calls Tryz.prog 34 #[.pointer none] w fun e w' => e = .returned (.slice none 0 0) ∧ w = w' := by
  go_enter Tryz.func34, Tryz.ntmps34
  go_wp2_with fail
  go_ret
  exact ⟨rfl, rfl⟩
def ats (l : List Wr) : List Value := l.map fun x => .int .i64 (x.1 : Int)
theorem ats_take (l : List Wr) (k : Nat) (h : k < l.length) : ats (l.take (k + 1)) = ats (l.take k) ++ [.int .i64 ((wr l k).1 : Int)] := by
  have e : wr l k = l[k] := by unfold wr; rw [List.getD_eq_getElem?_getD, List.getElem?_eq_getElem h]; rfl
  unfold ats
  rw [List.take_succ_eq_append_getElem h, List.map_append, e]; rfl
set_option maxHeartbeats 1600000 in
theorem waiting_any {w : World} {g bO cO bL cL : Nat} {vW : Value} {os ls : List Value} {ws : List Vw} {m : Dsk} (h : Dk0 w g bO cO bL cL vW os ls ws m) (n : Nat) (hn : Hid (m.row.length = n)) (hl : n ≤ 1099511627776) :
    Calls Tryz.prog 34 #[.pointer (some ⟨g, 0, none⟩)] w fun e w' => (∃ q c, e = .returned (.slice q n c) ∧ w'.ownsRow w.heap.size 3 1 (.slice q n c) n (ats m.row)) ∧ Below w.heap.size w w' := by
  obtain ⟨i0, hi0, hz0, hz1, hz2⟩ := info_parts infoInt
  have HI := Lib.hid hi0
  have HZ0 := Lib.hid hz0
  have HZ1 := Lib.hid hz1
  have HZ2 := Lib.hid hz2
  clear hi0 hz0 hz1 hz2
  obtain ⟨q2, c2, rfl⟩ := h.wslice n hn
  have hc2 := h.c2
  have HR : Hid (∀ k, k < n → ∃ b c v, q2 = some ⟨b, 0, none⟩ ∧ b < w.heap.size ∧ w.cell? ⟨b, k * 2, none⟩ = some (.int .i64 ((wr m.row k).1 : Int)) ∧ w.cell? ⟨b, k * 2 + 1, none⟩ = some (.slice (some ⟨v, 0, none⟩) 128 c)) := Lib.hid (fun k hk => by
    have hk2 : k < m.row.length := by rw [hn.out]; exact hk
    have hr := h.rw_
    obtain ⟨b, c, e, _, hb⟩ := hr.form (by omega)
    simp only [Value.slice.injEq] at e
    obtain ⟨rfl, _, rfl⟩ := e
    have hr2 : w.ownsRow 0 123 2 (.slice (some ⟨b, 0, none⟩) m.row.length c2) m.row.length (flat ws) := by
      have := hr; rw [hn.out]; rw [hn.out] at this; exact this
    have h1 := hr2.cellAt (k * 2) (by omega)
    have h2 := hr2.cellAt (k * 2 + 1) (by omega)
    have hf := flat_get ws k (by rw [h.sw.len]; exact hk2)
    obtain ⟨hv1, hv2⟩ := h.sw.at_ k hk2
    obtain ⟨bD, cD, hvD, _⟩ := hv2.bys
    rw [hv1, hvD] at hf
    rw [hf.1] at h1
    rw [hf.2] at h2
    exact ⟨b, cD, bD, rfl, hb, h1, h2⟩)
  have HAT : Hid (∀ k, k < n → ats (m.row.take (k + 1)) = ats (m.row.take k) ++ [.int .i64 ((wr m.row k).1 : Int)]) := Lib.hid (fun k hk => ats_take _ _ (by rw [hn.out]; exact hk))
  have HA0 : Hid (ats (m.row.take 0) = []) := Lib.hid rfl
  have HAN : Hid (ats (m.row.take n) = ats m.row) := Lib.hid (by rw [← hn.out, List.take_length])
  have hgl := h.lt
  clear h hn
  go_enter Tryz.func34, Tryz.ntmps34
  go_wp2_with fail
  go_loopw [3, 13] (fun vv iv wq => ∃ (k : Nat) (q : Option Addr) (c : Nat), k ≤ n ∧ iv = .int .i64 (k : Int) ∧ vv = .slice q k c ∧ Hid (wq.ownsRow w.heap.size 3 1 (.slice q k c) k (ats (m.row.take k)) ∧ Below w.heap.size w wq)) (fun _ iv _ => n - (RowKit.intOf iv).toNat)
  case atStart => exact ⟨0, none, 0, by omega, by go_num, rfl, Lib.hid ⟨by rw [HA0.out]; exact World.ownsRow_nil _ _ _ _, Below.refl _ _⟩⟩
  case round =>
    obtain ⟨k, q, c, hk, rfl, rfl, hr⟩ := hrel
    by_cases hlt : k < n
    · obtain ⟨b, cD, bD, rfl, hb, h1, h2⟩ := HR.out k hlt
      have k1 := (hr.out.2.cell (p := ⟨b, k * 2, none⟩) hb).trans h1
      have k2 := (hr.out.2.cell (p := ⟨b, k * 2 + 1, none⟩) hb).trans h2
      have b1 : (0 : Int) ≤ (k : Int) := by omega
      have b2 : (k : Int) < (n : Int) := by omega
      clear h1 h2
      have HE := Lib.hid (HAT.out k hlt)
      generalize (Go.Proofs.YthcnofdihigohaaGreat.wr m.row k).1 = i at *
      have HONE : Hid (∀ u ∈ [Value.int .i64 (i : Int)], u.oneCell' = true) := Lib.hid (by
        intro u hu
        obtain rfl := List.mem_singleton.1 hu
        rfl)
      have H63 : Hid (k + 1 ≤ maxLen) := Lib.hid (by unfold maxLen; omega)
      have HOWN : Hid (∀ o o2 : Obj, ((wr.alloc o).alloc o2).ownsRow w.heap.size 3 1 (.slice q k c) k (ats (m.row.take k))) := Lib.hid (fun o o2 => (hr.out.1.alloc o).alloc o2)
      have HSZ : Hid (∀ o o2 : Obj, w.heap.size ≤ ((wr.alloc o).alloc o2).heap.size) := Lib.hid (fun o o2 => Nat.le_trans hr.out.2.size (below2 wr o o2).size)
      have HBB : Hid (∀ (o o2 : Obj) (w3 : World), ((wr.alloc o).alloc o2).grownBy w3 (Value.slice q k c).ownBlock → Below w.heap.size w w3) := Lib.hid (fun o o2 w3 hg => (hr.out.2.trans ((below2 wr o o2).mono hr.out.2.size)).grown hg (HSZ.out o o2) (fun j e => (hr.out.1.lt j e).1))
      clear hr
      go_wp2_with (at_builtin; refine wpList_append_lies _ rfl (.tmp 17) (.tmp 20) 62 rfl w.heap.size 3 i0 (.int .i64 0) 1 8 Tryz.underlying62 HI.out HZ0.out HZ1.out HZ2.out rfl (by decide) (.slice q k c) k _ (by rfl) (HOWN.out _ _) ⟨_, 0, none⟩ 1 1 [.int .i64 (i : Int)] (by rfl) rfl (World.news_of_block (heap_alloc2_new _ _ _)) HONE.out (by omega) H63.out (by omega) (HSZ.out _ _) _ rfl ?_)
      intro gN cap w3 hown hgrow hat _
      have HN : Hid (w3.ownsRow w.heap.size 3 1 (.slice (some ⟨gN, 0, none⟩) (k + 1) cap) (k + 1) (ats (m.row.take (k + 1))) ∧ Below w.heap.size w w3) := Lib.hid ⟨by rw [HE.out]; exact hown, HBB.out _ _ _ hgrow⟩
      clear hown hgrow hat HOWN HSZ HBB
      go_wp2_with fail
      go_roundw
      case rel => exact ⟨k + 1, _, _, by omega, by go_num, rfl, HN⟩
      case measure => simp [RowKit.intOf]; omega
    · obtain rfl : k = n := by omega
      go_wp2_with fail
      go_ret
      have h3 := hr.out
      rw [HAN.out] at h3
      exact ⟨⟨q, c, rfl, h3.1⟩, h3.2⟩
end Go.Proofs.YthcnofdihigohaaGreat
end
section
/- A barrier. -/
set_option maxRecDepth 20000
set_option linter.unusedSimpArgs false
namespace Go.Proofs.YthcnofdihigohaaGreat
open Go.RowKit
section
variable {w : World} {g bO cO bL cL : Nat} {vW : Value} {os ls : List Value} {ws : List Vw} {m : Dsk}
set_option maxHeartbeats 800000 in
theorem barrier_up (h : Dk0 w g bO cO bL cL vW os ls ws m) (hd : m.down = false) (hz : m.fuse ≠ 0) (hn : m.done ≤ 4611686018427387904) (hl : m.row.length ≤ 4611686018427387904) :
    Calls Tryz.prog 100 #[.pointer (some ⟨g, 0, none⟩)] w fun e w' => e = .returned (.int .i64 0) ∧ Went (foot g bO bL vW) g (barM m) w w' := by
  have HR := Lib.hid (ready_up h hd)
  have HBu := burn_any h hn
  rw [show burnE m = 0 from if_neg hz, show burnM m = burns m from if_neg hz] at HBu
  have HBU := Lib.hid HBu
  clear HBu
  have HFin : Hid (forgot (mkf (burns m) all128 m.row.length) = barM m) := Lib.hid (by
    unfold barM
    rw [if_neg (by simp [hd]), if_neg hz]
    show ({ burns m with out := failN m.row m.out all128 m.row.length, row := [] } : Dsk) = _
    rw [failN_all (f := all128) h.ok.out h.ok.row (fun _ _ => rfl) _ (Nat.le_refl _)]; rfl)
  have H0 : Hid (Stays g bO cO bL cL vW os ls ws m w w) := Lib.hid (Stays.refl h)
  clear h hd hz
  obtain ⟨n, hnn⟩ : ∃ n, Hid (m.row.length = n) := ⟨_, Lib.hid rfl⟩
  rw [hnn.out] at hl HFin
  go_enter Tryz.func100, Tryz.ntmps100
  go_wp2_with fail
  refine HR.out.mono ?_
  rintro e w1 ⟨rfl, rfl⟩
  go_wp2_with fail
  refine HBU.out.mono ?_
  rintro e w1 ⟨rfl, hs⟩
  have HS := Lib.hid hs
  clear hs HBU HR H0
  obtain ⟨q, cq, hvW⟩ := HS.out.1.wslice n hnn
  have hc2 := HS.out.1.c2
  rw [hvW] at hc2
  have HV := Lib.hid hvW
  clear hvW
  go_wp2_with fail
  clear hc2
  have HS0 : Hid (Stays g bO cO bL cL vW os ls ws (mkf (burns m) all128 0) w w1) := HS
  go_loopw [21] (fun iv wr => ∃ k : Nat, k ≤ n ∧ iv = .int .i64 (k : Int) ∧ Hid (∃ os', Stays g bO cO bL cL vW os' ls ws (mkf (burns m) all128 k) w wr)) (fun iv _ => n - (RowKit.intOf iv).toNat)
  case atStart => exact ⟨0, by omega, by go_num, Lib.hid ⟨_, HS0.out⟩⟩
  case round =>
    obtain ⟨k, hk, rfl, hr⟩ := hrel
    clear HS HS0
    by_cases hlt : k < n
    · go_wp2_with fail
      obtain ⟨os', hs⟩ := hr.out
      have HS := Lib.hid hs
      clear hs hr
      refine (bring_step HS.out.1 (f := all128) (k := k) (a := 128) (show k < m.row.length by rw [hnn.out]; exact hlt) rfl (by omega) (show m.row.length ≤ _ by rw [hnn.out]; exact hl) 128 (Lib.hid rfl)).mono ?_
      rintro e w3 ⟨rfl, os2, hs2⟩
      have HS2 := Lib.hid (HS.out.trans hs2)
      clear hs2 HS
      go_wp2_with fail
      go_roundw
      case rel => exact ⟨k + 1, by omega, by go_num, Lib.hid ⟨_, HS2.out⟩⟩
      case measure => simp [RowKit.intOf]; omega
    · obtain rfl : k = n := by omega
      go_wp2_with fail
      obtain ⟨os', hs⟩ := hr.out
      have HS := Lib.hid hs
      clear hs hr
      refine (forget_any HS.out.1).mono ?_
      rintro e w3 ⟨rfl, hD, hC⟩
      rw [HFin.out] at hD
      have HW : Hid (Went (foot g bO bL vW) g (barM m) w w3) := Lib.hid ⟨_, hD.went, HS.out.2.trans hC⟩
      clear hD hC HS
      go_wp2_with fail
      go_ret
      exact ⟨rfl, HW.out⟩

set_option maxHeartbeats 400000 in
theorem barrier_down (h : Dk0 w g bO cO bL cL vW os ls ws m) (hd : m.down = true) :
    Calls Tryz.prog 100 #[.pointer (some ⟨g, 0, none⟩)] w fun e w' => e = .returned (.int .i64 9) ∧ w = w' := by
  have HR := Lib.hid (ready_down h hd)
  clear h hd
  go_enter Tryz.func100, Tryz.ntmps100
  go_wp2_with (go_at_call 128; refine HR.out.mono ?_; rintro e w' ⟨rfl, rfl⟩)
  go_ret
  exact ⟨rfl, rfl⟩
set_option maxHeartbeats 400000 in
theorem barrier_nil (w : World) : Calls Tryz.prog 100 #[.pointer none] w fun e w' => e = .returned (.int .i64 1) ∧ w = w' := by
  go_enter Tryz.func100, Tryz.ntmps100
  go_wp2_with (go_at_call 128; refine (ready_nil _).mono ?_; rintro e w' ⟨rfl, rfl⟩)
  go_ret
  exact ⟨rfl, rfl⟩
set_option maxHeartbeats 400000 in
theorem barrier_burnt (h : Dk0 w g bO cO bL cL vW os ls ws m) (hd : m.down = false) (hz : m.fuse = 0) (hn : m.done ≤ 4611686018427387904) :
    Calls Tryz.prog 100 #[.pointer (some ⟨g, 0, none⟩)] w fun e w' => e = .returned (.int .i64 9) ∧ Went (foot g bO bL vW) g (burnt m) w w' := by
  have HR := Lib.hid (ready_up h hd)
  have HBu := burn_any h hn
  rw [show burnE m = 9 from if_pos hz, show burnM m = burnt m from if_pos hz] at HBu
  have HBU := Lib.hid HBu
  clear HBu h hd hz
  go_enter Tryz.func100, Tryz.ntmps100
  go_wp2_with fail
  refine HR.out.mono ?_
  rintro e w1 ⟨rfl, rfl⟩
  go_wp2_with fail
  refine HBU.out.mono ?_
  rintro e w1 ⟨rfl, hs⟩
  have HS := Lib.hid hs
  clear hs
  go_wp2_with fail
  go_ret
  exact ⟨rfl, _, HS.out.1.went, HS.out.2⟩
end
theorem barrier_any {w : World} {g : Nat} {F : List Nat} {m : Dsk} (h : Dk w g F m) (hn : m.done ≤ 4611686018427387904) (hl : m.row.length ≤ 4611686018427387904) :
    Calls Tryz.prog 100 #[.pointer (some ⟨g, 0, none⟩)] w fun e w' => e = .returned (.int .i64 (barE m)) ∧ Went F g (barM m) w w' := by
  obtain ⟨bO, cO, bL, cL, vW, os, ls, ws, h, rfl⟩ := h
  by_cases hd : m.down = true
  · have hE : barE m = 9 := by unfold barE; rw [if_pos hd]
    have hM : barM m = m := by unfold barM; rw [if_pos hd]
    rw [hE, hM]
    refine (barrier_down h hd).mono ?_
    rintro e w' ⟨rfl, rfl⟩
    exact ⟨rfl, Went.refl h.went⟩
  · have hd0 : m.down = false := by simpa using hd
    by_cases hz : m.fuse = 0
    · have hE : barE m = 9 := by unfold barE; rw [if_neg hd, if_pos hz]
      have hM : barM m = burnt m := by unfold barM; rw [if_neg hd, if_pos hz]
      rw [hE, hM]
      exact barrier_burnt h hd0 hz hn
    · have hE : barE m = 0 := by unfold barE; rw [if_neg hd, if_neg hz]
      rw [hE]
      exact barrier_up h hd0 hz hn hl
end Go.Proofs.YthcnofdihigohaaGreat
end
section
/- What a commit writes is laid on the disk. -/
set_option maxRecDepth 20000
set_option linter.unusedSimpArgs false
namespace Go.Proofs.YthcnofdihigohaaGreat
open Go.RowKit

/-- So many pages written, till one is refused. -/
def layW (m : Dsk) (ps : List (Nat × List Nat)) : Nat → Dsk × Int
  | 0 => (m, 0)
  | k + 1 => if (layW m ps k).2 ≠ 0 then layW m ps k else wpE (layW m ps k).1 (ps.getD k (0, [])).1 (ps.getD k (0, [])).2 4
/-- The pages, a barrier, the root, a barrier. -/
def layM (m : Dsk) (ps : List (Nat × List Nat)) (r : Rt) : Dsk × Int :=
  if (layW m ps ps.length).2 ≠ 0 then layW m ps ps.length else
  if barE (layW m ps ps.length).1 ≠ 0 then (barM (layW m ps ps.length).1, barE (layW m ps ps.length).1) else
  if putE (barM (layW m ps ps.length).1) (place r.ep) (block r) ≠ 0 then (putM (barM (layW m ps ps.length).1) (place r.ep) (block r), putE (barM (layW m ps ps.length).1) (place r.ep) (block r)) else
  (barM (putM (barM (layW m ps ps.length).1) (place r.ep) (block r)), barE (putM (barM (layW m ps ps.length).1) (place r.ep) (block r)))
theorem layW_stop (m : Dsk) (ps : List (Nat × List Nat)) (k : Nat) (h : (layW m ps k).2 ≠ 0) : ∀ j, k ≤ j → layW m ps j = layW m ps k := by
  intro j hj
  induction j with
  | zero => obtain rfl : k = 0 := Nat.le_zero.1 hj; rfl
  | succ j ih =>
    by_cases e : k = j + 1
    · rw [e]
    · have h1 := ih (by omega)
      show (if (layW m ps j).2 ≠ 0 then layW m ps j else _) = _
      rw [h1, if_pos h]
theorem layW_bounds (m : Dsk) (ps : List (Nat × List Nat)) (k : Nat) : (layW m ps k).1.done ≤ m.done + 4 * k ∧ (layW m ps k).1.row.length ≤ m.row.length + 4 * k ∧ (layW m ps k).1.out = m.out := by
  induction k with
  | zero => exact ⟨Nat.le_refl _, Nat.le_refl _, rfl⟩
  | succ k ih =>
    have e : layW m ps (k + 1) = if (layW m ps k).2 ≠ 0 then layW m ps k else wpE (layW m ps k).1 (ps.getD k (0, [])).1 (ps.getD k (0, [])).2 4 := rfl
    rw [e]
    split
    · exact ⟨by omega, by omega, ih.2.2⟩
    · have h1 := wpE_bounds (layW m ps k).1 (ps.getD k (0, [])).1 (ps.getD k (0, [])).2 4
      exact ⟨by omega, by omega, h1.2.2.trans ih.2.2⟩
theorem wrs_get (ps : List (Nat × List Nat)) (k : Nat) (h : k < ps.length) : (wrs ps)[k * 2]? = some (.int .i64 (((ps.getD k (0, [])).1 : Nat) : Int)) ∧ (wrs ps)[k * 2 + 1]? = some (.string (strB (ps.getD k (0, [])).2)) := by
  induction ps generalizing k with
  | nil => cases h
  | cons a ps ih =>
    cases k with
    | zero => exact ⟨rfl, rfl⟩
    | succ k =>
      have h2 := ih k (by simpa using h)
      have e : wrs (a :: ps) = .int .i64 ((a.1 : Nat) : Int) :: .string (strB a.2) :: wrs ps := rfl
      rw [e, show (k + 1) * 2 = k * 2 + 1 + 1 by omega]
      exact h2
theorem own_dsk {F F' : List Nat} {w w' : World} {base E n k : Nat} {v : Value} {xs : List Value} (h : w.ownsRow base E n v k xs) (hc : Chg F F' w w') (hT : Typed w F) (hE : E ≠ 107 ∧ E ≠ 94 ∧ E ≠ 123) : w'.ownsRow base E n v k xs := by
  refine ⟨h.1, ?_⟩
  rcases h.2 with h2 | ⟨g, cap, cur, e, hb, hg, hr⟩
  · exact .inl h2
  · exact .inr ⟨g, cap, cur, e, hb, hc.keep hT hg hE, hr⟩
/-- What stays while it is laid. -/
structure LyK (W : World) (g d br : Nat) (r : Rt) (B : Nat) (p : Option Addr) (n c : Nat) (ps : List (Nat × List Nat)) : Prop where
  sp : ∃ cs fr, W.heap[g]? = some (.cells cs 84 fr) ∧ cs[0]? = some (.pointer (some ⟨d, 0, none⟩))
  rt : RtAt W br 74 r
  row : W.ownsRow B 142 2 (.slice p n c) n (wrs ps)
section
variable {W W' : World} {g d br : Nat} {r : Rt} {B n c : Nat} {p : Option Addr} {ps : List (Nat × List Nat)} {F F' : List Nat}
theorem LyK.below (h : LyK W g d br r B p n c ps) (hb : Below W.heap.size W W') : LyK W' g d br r B p n c ps := by
  obtain ⟨cs, fr, h1, h2⟩ := h.sp
  exact ⟨⟨cs, fr, (hb.block _ (lt_of_block h1)).trans h1, h2⟩, h.rt.below hb, own_below h.row hb⟩
theorem LyK.chg (h : LyK W g d br r B p n c ps) (hc : Chg F F' W W') (hT : Typed W F) : LyK W' g d br r B p n c ps := by
  obtain ⟨cs, fr, h1, h2⟩ := h.sp
  exact ⟨⟨cs, fr, hc.keep hT h1 (by decide), h2⟩, hc.keep hT h.rt (by decide), own_dsk h.row hc hT (by decide)⟩
theorem LyK.c0 (h : LyK W g d br r B p n c ps) : W.cell? ⟨g, 0, none⟩ = some (.pointer (some ⟨d, 0, none⟩)) := by
  obtain ⟨cs, fr, h1, h2⟩ := h.sp
  rw [cell_of_row _ _ _ _ _ _ h1]; exact h2
theorem LyK.at (h : LyK W g d br r B p n c ps) (hn : ps.length = n) {k : Nat} (hk : k < n) : ∃ bq, p = some ⟨bq, 0, none⟩ ∧ n ≤ c ∧ W.cell? ⟨bq, k * 2, none⟩ = some (.int .i64 (((ps.getD k (0, [])).1 : Nat) : Int)) ∧ W.cell? ⟨bq, k * 2 + 1, none⟩ = some (.string (strB (ps.getD k (0, [])).2)) := by
  have hr := h.row
  rcases hr.2 with ⟨e, hx⟩ | ⟨g', cap, cur, e, _, _, h1, _⟩
  · cases e; omega
  · cases e
    have a1 := hr.cellAt (k * 2) (by omega)
    have a2 := hr.cellAt (k * 2 + 1) (by omega)
    obtain ⟨f1, f2⟩ := wrs_get ps k (by omega)
    rw [f1] at a1
    rw [f2] at a2
    exact ⟨g', rfl, h1, a1, a2⟩
end
end Go.Proofs.YthcnofdihigohaaGreat
end
section
/- lay: the walk. -/
set_option maxRecDepth 20000
set_option linter.unusedSimpArgs false
namespace Go.Proofs.YthcnofdihigohaaGreat
open Go.RowKit

theorem bar_bounds (m : Dsk) : (barM m).done ≤ m.done + 1 ∧ (barM m).row.length ≤ m.row.length ∧ (barM m).out.length = m.out.length := by
  unfold barM burns burnt
  repeat' split
  all_goals first | exact ⟨by omega, by omega, rfl⟩ | exact ⟨by show m.done ≤ _; omega, by show m.row.length ≤ _; omega, rfl⟩ | exact ⟨by show m.done ≤ _; omega, by show 0 ≤ _; omega, last_len m⟩ | exact ⟨by show m.done + 1 ≤ _; omega, by show 0 ≤ _; omega, last_len m⟩
section
variable {w : World} {g d : Nat} {F : List Nat} {m : Dsk} {B n c : Nat} {p : Option Addr} {ps : List (Nat × List Nat)} {r : Rt}
set_option maxHeartbeats 3200000 in
theorem lay_any (h : Dk w d F m) (hsp : ∃ cs fr, w.heap[g]? = some (.cells cs 84 fr) ∧ cs[0]? = some (.pointer (some ⟨d, 0, none⟩))) (hrow : w.ownsRow B 142 2 (.slice p n c) n (wrs ps)) (hn : ps.length = n) (hn2 : n ≤ 1000)
    (hps : ∀ k, k < n → (ps.getD k (0, [])).2.length = 512 ∧ (∀ x ∈ (ps.getD k (0, [])).2, x < 256) ∧ (ps.getD k (0, [])).1 ≤ 512) (hm : Mays r) (hl : r.pg * 4 ≤ (m.out.length : Int)) (hdn : m.done ≤ 4611686018427380000) (hrl : m.row.length ≤ 1099511620000) :
    Calls Tryz.prog 59 #[.pointer (some ⟨g, 0, none⟩), .slice p n c, r.val] w fun e w' => e = .returned (.int .i64 (layM m ps r).2) ∧ Went F d (layM m ps r).1 w w' := by
  have HPS := Lib.hid hps
  have HN := Lib.hid hn
  have HB0 := Lib.hid (alloc_below w (.cells #[.int .i64 r.ep, .int .i64 r.pg, .int .i64 r.dr, .int .i64 r.wd] 74))
  have HT0 := Lib.hid (h.below HB0.out).typed
  have HW0 := Lib.hid (Went.refl (h.below HB0.out))
  obtain ⟨br, hbr⟩ : ∃ br, w.heap.size = br := ⟨_, rfl⟩
  have HK0 : Hid (LyK (w.alloc (.cells #[.int .i64 r.ep, .int .i64 r.pg, .int .i64 r.dr, .int .i64 r.wd] 74)) g d br r B p n c ps) := Lib.hid (by
    rw [← hbr]
    obtain ⟨cs, fr, h1, h2⟩ := hsp
    exact ⟨⟨cs, fr, (HB0.out.block _ (lt_of_block h1)).trans h1, h2⟩, RtAt.new w r 74, own_below hrow HB0.out⟩)
  have HDN := Lib.hid hdn
  have HRL := Lib.hid hrl
  have HM := Lib.hid hm
  have HL := Lib.hid hl
  clear h hsp hrow hps hn hm hl hdn hrl
  have HFA : Hid (∀ W, Went F d (layM m ps r).1 (w.alloc (.cells #[.int .i64 r.ep, .int .i64 r.pg, .int .i64 r.dr, .int .i64 r.wd] 74)) W → Went F d (layM m ps r).1 w W) := Lib.hid fun W hW => hW.after HB0.out
  unfold Rt.val
  go_enter Tryz.func59, Tryz.ntmps59
  go_upto_region 1 with fail
  have HBR := Lib.hid hbr
  clear hbr HB0
  generalize w.alloc (.cells #[.int .i64 r.ep, .int .i64 r.pg, .int .i64 r.dr, .int .i64 r.wd] 74) = w0 at *
  go_wp2_with fail
  go_loopw [8, 9, 14] (fun _ _ iv wr => ∃ k : Nat, k ≤ n ∧ iv = .int .i64 (k : Int) ∧ Hid ((layW m ps k).2 = 0) ∧ Hid (Went F d (layW m ps k).1 w0 wr)) (fun _ _ iv _ => n - (RowKit.intOf iv).toNat)
  case atStart => exact ⟨0, Nat.zero_le _, by go_num, Lib.hid rfl, HW0⟩
  case round =>
    obtain ⟨k, hk, rfl, hz, hwt⟩ := hrel
    obtain ⟨F1, hD1, hC1⟩ := hwt.out
    have HKr := Lib.hid (HK0.out.chg hC1 HT0.out)
    have HD1 := Lib.hid hD1
    have HC1 := Lib.hid hC1
    clear hD1 hC1
    by_cases hlt : k < n
    · have hkn : (k : Int) < (n : Int) := by omega
      obtain ⟨bq, rfl, hnc, a0, a1⟩ := HKr.out.at HN.out hlt
      obtain ⟨h512, hdig, hp5⟩ := HPS.out k hlt
      have hbd := layW_bounds m ps k
      have HNX : Hid (layW m ps (k + 1) = wpE (layW m ps k).1 (ps.getD k (0, [])).1 (ps.getD k (0, [])).2 4) := Lib.hid (by
        show (if (layW m ps k).2 ≠ 0 then _ else _) = _
        rw [if_neg (by rw [hz.out]; decide)])
      have HB1 : Hid (Below wr.heap.size wr (wr.alloc (.cells #[.int .i64 (((ps.getD k (0, [])).1 : Nat) : Int), .string (strB (ps.getD k (0, [])).2)] 142))) := Lib.hid (alloc_below wr _)
      have HWP : Hid (∀ W2, Below (wr.alloc (.cells #[.int .i64 (((ps.getD k (0, [])).1 : Nat) : Int), .string (strB (ps.getD k (0, [])).2)] 142)).heap.size (wr.alloc (.cells #[.int .i64 (((ps.getD k (0, [])).1 : Nat) : Int), .string (strB (ps.getD k (0, [])).2)] 142)) W2 → Calls Tryz.prog 99 #[.pointer (some ⟨d, 0, none⟩), .int .i64 (((ps.getD k (0, [])).1 : Nat) : Int), .string (strB (ps.getD k (0, [])).2)] W2 fun e w' => e = .returned (.int .i64 (layW m ps (k + 1)).2) ∧ Went F d (layW m ps (k + 1)).1 w0 w' ∧ w'.cell? ⟨g, 0, none⟩ = some (.pointer (some ⟨d, 0, none⟩)) ∧ w'.cell? ⟨wr.heap.size, 0, none⟩ = some (.int .i64 (((ps.getD k (0, [])).1 : Nat) : Int)) ∧ w'.cell? ⟨wr.heap.size, 1, none⟩ = some (.string (strB (ps.getD k (0, [])).2))) := Lib.hid fun W2 hb => by
        rw [HNX.out]
        have hb2 := Below.more HB1.out hb HB1.out.size
        have hD2 := HD1.out.below hb2
        refine (writePage_any hD2 _ _ h512 hdig hp5 (by have := HDN.out; omega) (by have := HRL.out; omega)).mono ?_
        rintro e w' ⟨he, F2, hD3, hC2⟩
        have hbx := (hb.block wr.heap.size (by simp)).trans (heap_alloc_new wr (.cells #[.int .i64 (((ps.getD k (0, [])).1 : Nat) : Int), .string (strB (ps.getD k (0, [])).2)] 142))
        have hbx2 := hC2.keep hD2.typed hbx (by decide)
        exact ⟨he, ⟨F2, hD3, HC1.out.trans ((Chg.of_below hb2).trans hC2)⟩, ((HKr.out.below hb2).chg hC2 hD2.typed).c0, by rw [cell_of_row _ _ _ _ _ _ hbx2]; rfl, by rw [cell_of_row _ _ _ _ _ _ hbx2]; rfl⟩
      have x0 := (HKr.out.below HB1.out).c0
      clear h512 hdig hp5 hbd HNX
      generalize (ps.getD k (0, [])).1 = pg at *
      generalize strB (ps.getD k (0, [])).2 = S at *
      have b0 := World.cell?_alloc_new wr #[.int .i64 (pg : Int), .string S] 142 0
      have b1 := World.cell?_alloc_new wr #[.int .i64 (pg : Int), .string S] 142 1
      go_upto_region 4 with fail
      go_region_held3 (fun u : World => u.cell? ⟨g, 0, none⟩ = some (.pointer (some ⟨d, 0, none⟩)) ∧ u.cell? ⟨wr.heap.size, 0, none⟩ = some (.int .i64 (pg : Int)) ∧ u.cell? ⟨wr.heap.size, 1, none⟩ = some (.string S)) ((first
        | with_reducible exact ⟨y0, y1, y2⟩
        | go_keep)) (first
        | (go_at_call 99; refine (HWP.out _ (Below.refl _ _).drew).mono ?_; rintro e w5 ⟨rfl, hw5, y0, y1, y2⟩))
      clear a0 a1 b0 b1 x0 y0 y1 y2
      obtain ⟨E, HE⟩ : ∃ E, Hid ((layW m ps (k + 1)).2 = E) := ⟨_, Lib.hid rfl⟩
      have HW5 := Lib.hid hw5
      rw [HE.out]
      clear hw5 HWP
      by_cases hE : E = 0
      · subst hE
        go_wp2_with fail
        go_roundw
        case rel => exact ⟨k + 1, by omega, by go_num, HE, HW5⟩
        case measure => simp [RowKit.intOf]; omega
      · have hb : (E != 0) = true := by simpa using hE
        have HLM : Hid (layM m ps r = layW m ps (k + 1)) := Lib.hid (by
          have h1 := layW_stop m ps (k + 1) (by rw [HE.out]; exact hE) ps.length (by rw [HN.out]; omega)
          unfold layM
          rw [h1, if_pos (by rw [HE.out]; exact hE)])
        clear hE
        go_wp2_with fail
        go_ret
        exact ⟨by rw [HLM.out, HE.out]; rfl, HFA.out _ (by rw [HLM.out]; exact HW5.out)⟩
    · obtain rfl : k = n := by omega
      have hbd := layW_bounds m ps k
      obtain ⟨m1, hm1⟩ : ∃ m1, (layW m ps k).1 = m1 := ⟨_, rfl⟩
      rw [hm1] at HD1 hbd
      have HLY : Hid (layM m ps r = if barE m1 ≠ 0 then (barM m1, barE m1) else if putE (barM m1) (place r.ep) (block r) ≠ 0 then (putM (barM m1) (place r.ep) (block r), putE (barM m1) (place r.ep) (block r)) else (barM (putM (barM m1) (place r.ep) (block r)), barE (putM (barM m1) (place r.ep) (block r)))) := Lib.hid (by
        unfold layM
        rw [HN.out, if_neg (by rw [hz.out]; decide), hm1])
      have HD := Lib.hid (⟨by have := HDN.out; omega, by have := HRL.out; omega, by rw [hbd.2.2]; exact HL.out⟩ : m1.done ≤ 4611686018427384000 ∧ m1.row.length ≤ 1099511624000 ∧ r.pg * 4 ≤ (m1.out.length : Int))
      clear hbd hm1 hlt hwt hz
      have c0 := HKr.out.c0
      have HBA := Lib.hid (barrier_any HD1.out (by have := HD.out; omega) (by have := HD.out; omega))
      obtain ⟨E1, HE1⟩ : ∃ E1, Hid (barE m1 = E1) := ⟨_, Lib.hid rfl⟩
      rw [HE1.out] at HBA
      go_upto_region 9 with (go_at_call 100; refine HBA.out.mono ?_; rintro e w6 ⟨rfl, hw6⟩; have HW6 := Lib.hid hw6; clear hw6)
      obtain ⟨F6, hD6, hC6⟩ := HW6.out
      have HK6 := Lib.hid (HKr.out.chg hC6 HD1.out.typed)
      have HD6 := Lib.hid hD6
      have HC6 := Lib.hid (HC1.out.trans hC6)
      clear hD6 hC6 HW6 HBA c0
      by_cases hE : E1 = 0
      · subst hE
        have hbb := bar_bounds m1
        obtain ⟨m2, hm2⟩ : ∃ m2, barM m1 = m2 := ⟨_, rfl⟩
        have hLY := HLY.out
        rw [HE1.out, if_neg (by decide), hm2] at hLY
        rw [hm2] at HD6 hbb
        have HL2 := Lib.hid hLY
        have HS6 : Hid (∀ u, Below w6.heap.size w6 u → Calls Tryz.prog 101 #[.pointer (some ⟨d, 0, none⟩), r.val] u fun e w' => e = .returned (.int .i64 (putE m2 (place r.ep) (block r))) ∧ Went F d (putM m2 (place r.ep) (block r)) w0 w' ∧ LyK w' g d br r B p k c ps) := Lib.hid fun u hu => by
          have hDu := HD6.out.below hu
          refine (store_put r u hDu HM.out (by have := HD.out; omega) (by have := HD.out; omega) (by have := HD.out; omega)).mono ?_
          rintro e w' ⟨he, F7, hD7, hC7⟩
          exact ⟨he, ⟨F7, hD7, HC6.out.trans ((Chg.of_below hu).trans hC7)⟩, (HK6.out.below hu).chg hC7 hDu.typed⟩
        have HDD := Lib.hid (⟨by have := HD.out; omega, by have := HD.out; omega⟩ : m2.done ≤ 4611686018427385000 ∧ m2.row.length ≤ 1099511625000)
        clear hbb hm2 hLY HLY
        have hpb := put_bounds m2 (place r.ep) (block r)
        obtain ⟨m3, hm3⟩ : ∃ m3, putM m2 (place r.ep) (block r) = m3 := ⟨_, rfl⟩
        obtain ⟨E2, hE2⟩ : ∃ E2, putE m2 (place r.ep) (block r) = E2 := ⟨_, rfl⟩
        rw [hm3] at hpb
        rw [hm3, hE2] at HL2 HS6
        clear hm3 hE2
        have c0 := HK6.out.c0
        have r0 := HK6.out.rt.c0
        have r1 := HK6.out.rt.c1
        have r2 := HK6.out.rt.c2
        have r3 := HK6.out.rt.c3
        have HRV : Hid (r.val = .agg #[.int .i64 r.ep, .int .i64 r.pg, .int .i64 r.dr, .int .i64 r.wd]) := Lib.hid rfl
        rw [HRV.out] at HS6
        go_upto_region 11 with fail
        go_region_held3 (fun u : World => u.cell? ⟨g, 0, none⟩ = some (.pointer (some ⟨d, 0, none⟩)) ∧ u.cell? ⟨br, 0, none⟩ = some (.int .i64 r.ep) ∧ u.cell? ⟨br, 1, none⟩ = some (.int .i64 r.pg) ∧ u.cell? ⟨br, 2, none⟩ = some (.int .i64 r.dr) ∧ u.cell? ⟨br, 3, none⟩ = some (.int .i64 r.wd)) ((first
          | with_reducible exact ⟨hk7.c0, hk7.rt.c0, hk7.rt.c1, hk7.rt.c2, hk7.rt.c3⟩
          | go_keep)) (first
          | (go_at_call 101; refine (HS6.out _ (Below.refl _ _).drew).mono ?_; rintro e w7 ⟨rfl, hw7, hk7⟩))
        obtain ⟨F7, hD7, hC7⟩ := hw7
        have HD7 := Lib.hid hD7
        have HC7 := Lib.hid hC7
        have HK7 := Lib.hid hk7
        clear hD7 hC7 hk7 c0 r0 r1 r2 r3 HS6
        by_cases hE : E2 = 0
        · subst hE
          have hLY := HL2.out
          rw [if_neg (by decide)] at hLY
          have HLM := Lib.hid hLY
          have HBA := Lib.hid (barrier_any HD7.out (by have := HDD.out; omega) (by have := HDD.out; omega))
          have c0 := HK7.out.c0
          clear hLY HL2 hpb
          go_wp2_with (go_at_call 100; refine HBA.out.mono ?_; rintro e w8 ⟨rfl, hw8⟩; have HW8 := Lib.hid hw8; clear hw8)
          go_ret
          obtain ⟨F8, hD8, hC8⟩ := HW8.out
          exact ⟨by rw [HLM.out]; rfl, HFA.out _ (by rw [HLM.out]; exact ⟨F8, hD8, HC7.out.trans hC8⟩)⟩
        · have hb : (E2 != 0) = true := by simpa using hE
          have HLM : Hid (layM m ps r = (m3, E2)) := Lib.hid (by rw [HL2.out, if_pos hE])
          clear hE
          go_wp2_with fail
          go_ret
          exact ⟨by rw [HLM.out]; rfl, HFA.out _ (by rw [HLM.out]; exact ⟨F7, HD7.out, HC7.out⟩)⟩
      · have hb : (E1 != 0) = true := by simpa using hE
        have HLM : Hid (layM m ps r = (barM m1, E1)) := Lib.hid (by rw [HLY.out, HE1.out, if_pos hE])
        clear hE
        go_wp2_with fail
        go_ret
        exact ⟨by rw [HLM.out]; rfl, HFA.out _ (by rw [HLM.out]; exact ⟨F6, HD6.out, HC6.out⟩)⟩
end
end Go.Proofs.YthcnofdihigohaaGreat
end
section
/- A block that is written over another one's and torn anywhere: what it is. -/
namespace Go.Proofs.YthcnofdihigohaaGreat

def oldB (was : Rt) : List Nat := if was.ep = 0 then zs128 else block was
def tornB (new old : List Nat) (t : Nat) : List Nat := new.take t ++ old.drop t
theorem tornB_len {new old : List Nat} (hn : new.length = 128) (ho : old.length = 128) {t : Nat} (h : t ≤ 128) : (tornB new old t).length = 128 := by
  unfold tornB; rw [List.length_append, List.length_take, List.length_drop]; omega
theorem tornB_first {new old : List Nat} (hn : new.length = 128) {t : Nat} (h : 8 ≤ t) : (tornB new old t).take 8 = new.take 8 := by
  unfold tornB
  rw [List.take_append_of_le_length (by rw [List.length_take]; omega), List.take_take, Nat.min_eq_left h]
theorem tornB_last {new old : List Nat} (hn : new.length = 128) {t : Nat} (h : t ≤ 120) : (tornB new old t).drop 120 = old.drop 120 := by
  unfold tornB
  have hl : (new.take t).length = t := by rw [List.length_take]; omega
  rw [show 120 = t + (120 - t) by omega, drop_app _ _ hl, List.drop_drop]
/-- Torn anywhere, and of one epoch: the old one or the new one. -/
theorem torn_same {new old : List Nat} (hn : new.length = 128) (en : new.take 8 = new.drop 120) (eo : old.take 8 = old.drop 120) (hne : new.take 8 ≠ old.take 8) {t : Nat} (ht : t ≤ 128)
    (h : (tornB new old t).take 8 = (tornB new old t).drop 120) : (tornB new old t = old ∧ t ≤ 8) ∨ (tornB new old t = new ∧ 120 ≤ t) := by
  by_cases h1 : t ≤ 8
  · left
    refine ⟨?_, h1⟩
    rw [tornB_last hn (by omega), ← eo] at h
    have hl : (new.take t).length = t := by rw [List.length_take]; omega
    have h2 : new.take t = old.take t := by
      have := congrArg (List.take t) h
      unfold tornB at this
      rw [List.take_take, List.take_take, Nat.min_eq_left h1, take_app _ _ hl] at this
      exact this
    unfold tornB
    rw [h2, List.take_append_drop]
  · by_cases h2 : 120 ≤ t
    · right
      refine ⟨?_, h2⟩
      rw [tornB_first hn (by omega), en] at h
      have hl : (new.take t).length = t := by rw [List.length_take]; omega
      have h3 : new.drop t = old.drop t := by
        have h4 := congrArg (List.drop (t - 120)) h
        rw [List.drop_drop, List.drop_drop, show 120 + (t - 120) = t by omega] at h4
        unfold tornB at h4
        rw [drop_app0 _ _ hl] at h4
        exact h4
      unfold tornB
      rw [← h3, List.take_append_drop]
    · rw [tornB_first hn (by omega), tornB_last hn (by omega), ← eo] at h
      exact absurd h hne
theorem oldB_len (was : Rt) : (oldB was).length = 128 := by
  unfold oldB
  split
  · unfold zs128; rw [List.length_replicate]
  · exact block_len was
theorem oldB_dig (was : Rt) : ∀ x ∈ oldB was, x < 256 := by
  unfold oldB
  split
  · exact dig_zeros 128
  · exact block_dig was
theorem zs_ends : zs128.take 8 = zs128.drop 120 := by unfold zs128; rw [List.take_replicate, List.drop_replicate]; rfl
theorem oldB_ends (was : Rt) : (oldB was).take 8 = (oldB was).drop 120 := by
  unfold oldB
  split
  · exact zs_ends
  · rw [block_first, block_last]
theorem oldB_none : oldB Rt.none_ = zs128 := by unfold oldB; rw [if_pos (show Rt.none_.ep = 0 from rfl)]
theorem oldB_first {was : Rt} (hw : was = Rt.none_ ∨ Mays was) : (oldB was).take 8 = be 8 was.ep.toNat := by
  rcases hw with rfl | hw
  · rw [oldB_none]
    show zs128.take 8 = be 8 0
    rw [be_zero]
    unfold zs128
    rw [List.take_replicate]; rfl
  · have := hw.e0
    unfold oldB
    rw [if_neg (by omega), block_first]
theorem decE_zs : decE zs128 = 5 := by unfold decE; rw [if_neg (by unfold zs128; rw [List.length_replicate]; simp), if_pos rfl]
theorem rt_ext {a b : Rt} (h1 : a.ep = b.ep) (h2 : a.pg = b.pg) (h3 : a.dr = b.dr) (h4 : a.wd = b.wd) : a = b := by
  cases a; cases b; simp only at h1 h2 h3 h4; rw [h1, h2, h3, h4]
/-- What a torn block is told as. -/
theorem torn_cases {was now : Rt} (hw : was = Rt.none_ ∨ Mays was) (hm : Mays now) (he : was.ep ≠ now.ep) {t : Nat} (ht : t ≤ 128) :
    (decE (tornB (block now) (oldB was) t) = 4 ∧ 0 < t ∧ t < 128) ∨
    (decE (tornB (block now) (oldB was) t) = 5 ∧ was = Rt.none_) ∨
    (decE (tornB (block now) (oldB was) t) = 0 ∧ decR (tornB (block now) (oldB was) t) = was ∧ t < 128) ∨
    (decE (tornB (block now) (oldB was) t) = 0 ∧ decR (tornB (block now) (oldB was) t) = now ∧ 0 < t) := by
  have hn := block_len now
  have ho := oldB_len was
  have en : (block now).take 8 = (block now).drop 120 := by rw [block_first, block_last]
  have eo := oldB_ends was
  have b0 : 0 ≤ was.ep ∧ was.ep ≤ 4611686018427387904 := by
    rcases hw with rfl | h
    · exact ⟨Int.le_refl 0, by decide⟩
    · exact ⟨by have := h.e0; omega, h.e1⟩
  have b1 := hm.e0
  have b2 := hm.e1
  have hne : (block now).take 8 ≠ (oldB was).take 8 := by
    rw [block_first, oldB_first hw]
    intro h
    have := be_inj (k := 8) (by omega) (by omega) h
    omega
  by_cases h8 : (tornB (block now) (oldB was) t).take 8 = (tornB (block now) (oldB was) t).drop 120
  · rcases torn_same hn en eo hne ht h8 with ⟨h, hl⟩ | ⟨h, hl⟩
    · rw [h]
      rcases hw with rfl | hw
      · right; left
        refine ⟨?_, rfl⟩
        rw [oldB_none]; exact decE_zs
      · right; right; left
        have := hw.e0
        have e : oldB was = block was := by unfold oldB; rw [if_neg (by omega)]
        rw [e]
        exact ⟨decE_block hw, decR_block hw, by omega⟩
    · rw [h]
      right; right; right
      exact ⟨decE_block hm, decR_block hm, by omega⟩
  · left
    have hl := tornB_len hn ho ht
    have hz : tornB (block now) (oldB was) t ≠ zs128 := fun e => h8 (by rw [e]; exact zs_ends)
    refine ⟨by unfold decE; rw [if_neg (by simp [hl]), if_neg hz, if_pos h8], ?_, ?_⟩
    · rcases Nat.eq_zero_or_pos t with h0 | h0
      · subst h0
        exfalso
        apply h8
        show (oldB was).take 8 = (oldB was).drop 120
        exact eo
      · exact h0
    · rcases Nat.lt_or_ge t 128 with h0 | h0
      · exact h0
      · exfalso
        apply h8
        have e : tornB (block now) (oldB was) t = block now := by
          unfold tornB
          rw [List.take_of_length_le (by omega), List.drop_eq_nil_of_le (by omega), List.append_nil]
        rw [e]; exact en
end Go.Proofs.YthcnofdihigohaaGreat
end
