/- Texts QCnt to XKeeps of this seat, laid into one. -/
import Derived.Test.YthcnofdihigohaaGreatM19
import Derived.Test.YthcnofdihigohaaGreatM21
section
/- How many pages are held behind a commit: without memory. -/
set_option maxRecDepth 20000
set_option linter.unusedSimpArgs false
namespace Go.Proofs.YthcnofdihigohaaGreat
open Go.RowKit

theorem cnt_one (g : Nat → Bool) (x : Nat) (h : g x = false) : ∀ n, Bi.cnt (fun p => g p || p == x) n = Bi.cnt g n + (decide (x < n)).toNat
  | 0 => by rw [decide_eq_false (Nat.not_lt_zero x)]; rfl
  | n + 1 => by
    have ih := cnt_one g x h n
    show Bi.cnt (fun p => g p || p == x) n + (g n || n == x).toNat = Bi.cnt g n + (g n).toNat + _
    rw [ih]
    by_cases e : n = x
    · subst e
      rw [h, decide_eq_false (Nat.lt_irrefl n), decide_eq_true (Nat.lt_succ_self n)]
      simp
    · have e2 : (n == x) = false := beq_eq_false_iff_ne.2 e
      rw [e2, Bool.or_false]
      by_cases hl : x < n
      · rw [decide_eq_true hl, decide_eq_true (Nat.lt_succ_of_lt hl)]; omega
      · rw [decide_eq_false hl, decide_eq_false (by omega)]; simp
theorem cnt_same {f g : Nat → Bool} (h : ∀ p, f p = g p) (n : Nat) : Bi.cnt f n = Bi.cnt g n := by rw [funext h]
theorem cnt_more (n : Nat) : ∀ (l : List Nat) (g : Nat → Bool), l.Nodup → (∀ p ∈ l, p < n ∧ g p = false) → Bi.cnt (fun p => g p || decide (p ∈ l)) n = Bi.cnt g n + l.length
  | [], g, _, _ => by
    rw [cnt_same (g := g) (fun p => by simp)]; rfl
  | x :: l, g, hn, hl => by
    have h1 := hl x (by simp)
    have hx := (List.nodup_cons.1 hn)
    have ih := cnt_more n l (fun p => g p || p == x) hx.2 (fun p hp => ⟨(hl p (by simp [hp])).1, by
      rw [(hl p (by simp [hp])).2, Bool.false_or]
      exact beq_eq_false_iff_ne.2 (fun e => hx.1 (e ▸ hp))⟩)
    rw [cnt_one g x h1.2, decide_eq_true h1.1] at ih
    rw [List.length_cons, cnt_same (g := fun p => (g p || p == x) || decide (p ∈ l)) (fun p => by
      rw [Bool.or_assoc]
      congr 1
      rw [Bool.eq_iff_iff]
      simp), ih]
    show _ + 1 + _ = _
    omega
section
variable {s : Sp} {pg : Nat} {L : List (List Nat)}
theorem lab_idx (_hB : Base s pg) (r : Rt) {j : Nat} (hj : j < needS s) : ∃ n, n < 517 ∧ lab (planRt s r) (plL s) (plT s) n = (freeL s).getD j 0 := by
  unfold needS at hj
  by_cases h1 : j < s.fr.keys.length
  · have h2 : s.fr.keys.getD j 0 < 512 := (Pgs.mem_keys.1 (getD_mem h1)).1
    refine ⟨s.fr.keys.getD j 0 + 5, by omega, ?_⟩
    rw [lab_tb]; exact plT_key s h1
  · by_cases h2 : j < s.fr.keys.length + (movL s).length
    · have ht : j - s.fr.keys.length < (movL s).length := by omega
      have h3 : (movL s).getD (j - s.fr.keys.length) 0 < 4 := (mem_tmems.1 (getD_mem ht)).1
      refine ⟨(movL s).getD (j - s.fr.keys.length) 0 + 1, by omega, ?_⟩
      rw [lab_lv _ _ _ _ h3, plL_mov s ht, show s.fr.keys.length + (j - s.fr.keys.length) = j by omega]
    · refine ⟨0, by omega, ?_⟩
      rw [lab_dir]
      show ((plD s : Nat) : Int).toNat = _
      rw [Int.toNat_natCast, plD_eq, show s.fr.keys.length + (movL s).length = j by omega]
theorem idx_need {j n : Nat} (h : idx s j n) : j < needS s := by
  unfold needS
  rcases h with ⟨_, e1⟩ | ⟨_, t, _, _, ht, e1, _⟩ | ⟨_, _, _, hj, _⟩ <;> omega
theorem mem_takeN {l : List Nat} {p n : Nat} : p ∈ l.take n ↔ ∃ j, j < n ∧ j < l.length ∧ l.getD j 0 = p := by
  rw [List.mem_take_iff_getElem]
  constructor
  · rintro ⟨j, hj, e⟩
    exact ⟨j, by omega, by omega, by rw [List.getD_eq_getElem?_getD, List.getElem?_eq_getElem (by omega)]; exact e⟩
  · rintro ⟨j, hj, hl, e⟩
    refine ⟨j, by omega, ?_⟩
    rw [List.getD_eq_getElem?_getD, List.getElem?_eq_getElem hl] at e
    exact e
theorem held_comm (h : SpGood s L pg) (hN : needS s ≤ (freeL s).length) {r : Rt} (hr : r.pg = (pg : Int)) (hm : may r = true) (p : Nat) :
    heldS (commS s r) p = (usF s.g.r s.g.lv s.g.tb p || decide (p ∈ (freeL s).take (needS s))) := by
  have hB := h.base
  have e : heldS (commS s r) p = (plU s r p || usF s.g.r s.g.lv s.g.tb p) := by
    unfold heldS orB
    show ((false || plU s r p) || (match s.g.us with | none => false | some k => k p)) = _
    rw [h.g.us, Bool.false_or]
  rw [e, plU_eq hB hN hr hm, Bool.eq_iff_iff, Bool.or_eq_true, Bool.or_eq_true, decide_eq_true_eq, usF_iff]
  constructor
  · rintro (⟨h0, n, hn, rfl⟩ | h1)
    · rcases lab_src hB r n hn with h1 | h1 | ⟨j, hj, h1⟩
      · exact absurd h1 h0
      · rw [h1] at h0 ⊢
        have := h.labs n h0
        exact .inl (usF_iff.2 ⟨h0, n, hn, this.symm⟩)
      · exact .inr (mem_takeN.2 ⟨j, idx_need hj, idx_lt hN hj, h1.symm⟩)
    · exact .inl h1
  · rintro (h1 | h1)
    · exact .inr h1
    · obtain ⟨j, hj, hl, rfl⟩ := mem_takeN.1 h1
      obtain ⟨n, hn, e⟩ := lab_idx hB r hj
      have := (free_two hB hl).1
      exact .inl ⟨by omega, n, hn, e⟩
/-- Behind a commit there are held the state's pages as it was, and as many as it needed. -/
theorem held_cnt (h : SpGood s L pg) (hN : needS s ≤ (freeL s).length) {r : Rt} (hr : r.pg = (pg : Int)) (hm : may r = true) :
    Bi.cnt (heldS (commS s r)) 512 = Bi.cnt (usF s.g.r s.g.lv s.g.tb) 512 + needS s := by
  have hB := h.base
  rw [cnt_same (held_comm h hN hr hm), cnt_more 512 _ _ ((free_nodup s).sublist (List.take_sublist _ _)) (fun p hp => ?_), List.length_take, Nat.min_eq_left hN]
  have h1 := (free_mem hB).1 (List.mem_of_mem_take hp)
  have h2 := hB.p5
  refine ⟨by omega, ?_⟩
  cases e : usF s.g.r s.g.lv s.g.tb p
  · rfl
  · rw [h.heldU e] at h1
    exact absurd h1.2.2 (by simp)
/-- How many pages a state has. -/
theorem cnt_filter (P : Nat → Nat) (l : List Nat) (f : Nat → Nat) : (l.map f).countP (fun n => !(P n == 0)) = l.countP (fun n => !(P (f n) == 0)) := by
  rw [List.countP_map]; rfl
theorem countP_range (f : Nat → Bool) : ∀ n, (List.range n).countP f = Bi.cnt f n
  | 0 => rfl
  | n + 1 => by
    rw [List.range_succ, List.countP_append, countP_range f n]
    show _ + _ = Bi.cnt f n + (f n).toNat
    congr 1
theorem map_nodup {l : List Nat} {f : Nat → Nat} (hn : l.Nodup) (h : ∀ a ∈ l, ∀ b ∈ l, f a = f b → a = b) : (l.map f).Nodup := by
  unfold List.Nodup at *
  rw [List.pairwise_map]
  exact hn.imp_of_mem fun {a b} ha hb hab e => hab (h a ha b hb e)
theorem us_cnt {r : Rt} {lv tb : Nat → Nat} (hA : ApartS r lv tb) (hp : r.pg ≤ 512) (hd : 2 ≤ r.dr) : Bi.cnt (usF r lv tb) 512 = 1 + Bi.cnt (fun i => !(lv i == 0)) 4 + Bi.cnt (Tb.told tb) 512 := by
  have e : List.range 517 = [0] ++ ((List.range 4).map (fun i => i + 1) ++ (List.range 512).map (fun l => l + 5)) := by decide +kernel
  let l := ((List.range 517).filter fun n => !(lab r lv tb n == 0))
  have hl : ∀ n, n ∈ l ↔ n < 517 ∧ lab r lv tb n ≠ 0 := fun n => by
    show n ∈ (List.range 517).filter _ ↔ _
    rw [List.mem_filter, List.mem_range]; simp
  have h1 : Bi.cnt (usF r lv tb) 512 = (l.map (lab r lv tb)).length := by
    rw [cnt_same (g := fun p => (fun _ => false) p || decide (p ∈ l.map (lab r lv tb))) (fun p => by
      rw [Bool.false_or, Bool.eq_iff_iff, usF_iff, decide_eq_true_eq, List.mem_map]
      constructor
      · rintro ⟨h0, n, hn, rfl⟩; exact ⟨n, (hl n).2 ⟨hn, h0⟩, rfl⟩
      · rintro ⟨n, hn, rfl⟩; exact ⟨((hl n).1 hn).2, n, ((hl n).1 hn).1, rfl⟩),
      cnt_more 512 _ (fun _ => false) (map_nodup (List.nodup_range.filter _) (fun a ha b hb e => hA.inj a (List.mem_range.2 ((hl a).1 ha).1) b (List.mem_range.2 ((hl b).1 hb).1) ((hl a).1 ha).2 e)) (fun p hp2 => by
        obtain ⟨n, hn, rfl⟩ := List.mem_map.1 hp2
        have := hA.lt n (List.mem_range.2 ((hl n).1 hn).1) ((hl n).1 hn).2
        exact ⟨by omega, rfl⟩)]
    have h0 : ∀ n, Bi.cnt (fun _ => false) n = 0 := fun n => by
      induction n with
      | zero => rfl
      | succ n ih => show _ + 0 = 0; rw [ih]
    rw [h0, Nat.zero_add]
  rw [h1, List.length_map]
  show ((List.range 517).filter _).length = _
  rw [← List.countP_eq_length_filter, e, List.countP_append, List.countP_append, cnt_filter (lab r lv tb), cnt_filter (lab r lv tb), countP_range, countP_range]
  have h2 : List.countP (fun n => !(lab r lv tb n == 0)) [0] = 1 := by
    rw [List.countP_cons, lab_dir]
    have : (r.dr.toNat == 0) = false := beq_eq_false_iff_ne.2 (by omega)
    simp [this]
  rw [h2, cnt_congr2 (f := fun n => !(lab r lv tb (n + 1) == 0)) (g := fun i => !(lv i == 0)) (fun i hi => by rw [lab_lv _ _ _ _ hi]), cnt_congr2 (f := fun n => !(lab r lv tb (n + 5) == 0)) (g := Tb.told tb) (fun i hi => by rw [lab_tb]; rfl)]
  omega
end
end Go.Proofs.YthcnofdihigohaaGreat
end
section
/- How many leaves tell something, by the document, in memory. -/
set_option maxRecDepth 20000
set_option linter.unusedSimpArgs false
namespace Go.Proofs.YthcnofdihigohaaGreat
open Go.RowKit

/-- Does this leaf tell something? -/
def lvX (f : Nat → List Nat) (i : Nat) : Bool := !bareX f i 128
set_option maxHeartbeats 3200000 in
theorem leaves_any {w : World} {g o : Nat} {f : Nat → List Nat} (h : Txt w g o f) : Calls Tryz.prog 36 #[.pointer (some ⟨g, o, none⟩)] w fun e w' => e = .returned (.int .i64 (Bi.cnt (lvX f) 4 : Nat)) ∧ w = w' := by
  have HT := Lib.hid h
  clear h
  go_enter Tryz.func36, Tryz.ntmps36
  go_wp2_with fail
  go_loop [3, 4, 5, 6] (fun nv iv _ _ => ∃ i : Nat, i ≤ 4 ∧ iv = .int .i64 (i : Int) ∧ nv = .int .i64 ((Bi.cnt (lvX f) i : Nat) : Int)) (fun _ iv _ _ => 4 - (RowKit.intOf iv).toNat)
  case atStart => exact ⟨0, by omega, by go_num, rfl⟩
  case round =>
    obtain ⟨i, hi, rfl, rfl⟩ := hrel
    have hle := Bi.cnt_le (lvX f) i
    by_cases hlt : i < 4
    · have hiN : (i : Int) < 4 := by omega
      have HS : Hid (Bi.cnt (lvX f) (i + 1) = Bi.cnt (lvX f) i + (!bareX f i 128).toNat) := Lib.hid rfl
      generalize Bi.cnt (lvX f) i = n0 at *
      go_wp2_with fail
      go_loop [5, 6] (fun bv lv => ∃ k l : Nat, k ≤ 128 ∧ Hid (l = 128 * i + k) ∧ bv = .bool (bareX f i k) ∧ lv = .int .i64 (l : Int)) (fun _ lv => 128 * i + 128 - (RowKit.intOf lv).toNat)
      case atStart => exact ⟨0, 128 * i, by omega, Lib.hid rfl, rfl, by go_num⟩
      case round =>
        obtain ⟨k, l, hk, HLK, rfl, rfl⟩ := hrel
        by_cases hlk : k < 128
        · have hl := HLK.out
          have hlN : (l : Int) < 128 * (i : Int) + 128 := by omega
          have hl5 : l < 512 := by omega
          have hl5N : (l : Int) < 512 := by omega
          have c1 := HT.out l hl5
          have e1 := txt_empty (f l)
          obtain ⟨p, hp⟩ : ∃ p, (f l).isEmpty = p := ⟨_, rfl⟩
          rw [hp] at e1
          have HN : Hid (bareX f i (k + 1) = (bareX f i k && p)) := Lib.hid (by
            show (bareX f i k && !nn f (128 * i + k)) = _
            unfold nn
            rw [← hl, hp]; simp)
          have HL2 : Hid (l + 1 = 128 * i + (k + 1)) := Lib.hid (by omega)
          clear hp hl
          generalize strB (f l) = S at *
          generalize bareX f i k = b at *
          cases b with
          | true =>
            go_wp2_with fail
            go_round
            case rel => exact ⟨k + 1, l + 1, by omega, HL2, by rw [HN.out]; first | rfl | (cases p <;> rfl), by go_num⟩
            case measure => simp [RowKit.intOf]; have := HLK.out; omega
          | false =>
            go_wp2_with fail
            go_round
            case rel => exact ⟨k + 1, l + 1, by omega, HL2, by rw [HN.out]; first | rfl | (cases p <;> rfl), by go_num⟩
            case measure => simp [RowKit.intOf]; have := HLK.out; omega
        · obtain rfl : k = 128 := by omega
          have hlN : decide ((l : Int) < 128 * (i : Int) + 128) = false := decide_eq_false (by have := HLK.out; omega)
          generalize bareX f i 128 = b at *
          cases b with
          | true =>
            go_wp2_with fail
            go_round
            case rel => exact ⟨i + 1, by omega, by go_num, by rw [HS.out]; rfl⟩
            case measure => simp [RowKit.intOf]; omega
          | false =>
            go_wp2_with fail
            go_round
            case rel => exact ⟨i + 1, by omega, by go_num, by rw [HS.out]; go_num⟩
            case measure => simp [RowKit.intOf]; omega
    · obtain rfl : i = 4 := by omega
      go_wp2_with fail
      go_ret
      exact ⟨rfl, rfl⟩
end Go.Proofs.YthcnofdihigohaaGreat
end
section
/- Commits with nothing changed, and with one page changed: how many pages are held. -/
set_option maxRecDepth 20000
set_option linter.unusedSimpArgs false
namespace Go.Proofs.YthcnofdihigohaaGreat
open Go.RowKit

section
variable {s : Sp} {pg : Nat} {L : List (List Nat)} {x : Xv}
/-- Nothing is changed. -/
structure Still (s : Sp) : Prop where
  fr : s.fr = fun _ => none
  kp : s.kp = s.g.tb
theorem Still.comm (s : Sp) (r : Rt) : Still (commS s r) := ⟨rfl, rfl⟩
theorem Still.need (h : Still s) : needS s = 1 := by
  have hk : s.fr.keys = [] := by
    rw [h.fr]
    unfold Pgs.keys
    simp
  have hm : movL s = [] := by
    unfold movL Tb.mems
    rw [List.filter_eq_nil_iff]
    intro i _
    unfold movB freshB
    rw [hk, h.kp]
    have : Tb.difB s.g.tb s.g.tb i = false := by unfold Tb.difB Tb.sameN; simp
    rw [this]; simp
  unfold needS
  rw [hk, hm]; rfl
theorem Still.isN (h : Still s) (l : Nat) : isN s l = Tb.told s.g.tb l := by
  unfold Go.Proofs.YthcnofdihigohaaGreat.isN Tb.told
  rw [h.fr, h.kp]; rfl
/-- How many pages a state has, by the document. -/
def sizeX (x : Xv) : Nat := Bi.cnt (nn x.now) 512 + Bi.cnt (lvX x.now) 4 + 1
theorem Still.size (h : Still s) (hs : Sim s L x) (hG : SpGood s L pg) (hL : Secs128 L) : Bi.cnt (usF s.g.r s.g.lv s.g.tb) 512 = sizeX x := by
  rw [us_cnt hG.g.ap hG.g.mays.p1 hG.g.mays.d0]
  unfold sizeX
  have e1 : Bi.cnt (nn x.now) 512 = Bi.cnt (Tb.told s.g.tb) 512 := cnt_congr2 fun l hl => by rw [hs.nnow hG hL hl, h.isN]
  have e2 : Bi.cnt (lvX x.now) 4 = Bi.cnt (fun i => !(s.g.lv i == 0)) 4 := cnt_congr2 fun i hi => by
    unfold lvX
    congr 1
    rw [Bool.eq_iff_iff, hs.bare hG hL hi, beq_iff_eq, hG.g.bare i hi]
    unfold Tb.bareB Tb.sameN Tb.leafF
    rw [decide_eq_true_eq]
    constructor
    · intro hh k hk
      have := (hh k hk).2
      rw [h.kp] at this; exact this
    · intro hh k hk
      exact ⟨by rw [h.fr], by rw [h.kp]; exact hh k hk⟩
  rw [e1, e2]; omega
theorem cnt_eq_one {x n : Nat} (h : x < n) : Bi.cnt (fun p => p == x) n = 1 := by
  have h1 := cnt_one (fun _ => false) x rfl n
  have h0 : ∀ n, Bi.cnt (fun _ => false) n = 0 := fun n => by
    induction n with
    | zero => rfl
    | succ n ih => show _ + 0 = 0; rw [ih]
  rw [h0, decide_eq_true h, cnt_same (g := fun p => p == x) (fun p => by simp)] at h1
  exact h1
theorem Still.put (h : Still s) {l : Nat} (hl : l < 512) (c : List Nat) : needS (putS s l c) = 3 := by
  have hfr : (putS s l c).fr = Pgs.put (fun _ => none) l c := by show s.fr.put l c = _; rw [h.fr]
  have hsm : ∀ k, ((putS s l c).fr k).isSome = (k == l) := fun k => by
    rw [hfr]
    by_cases e : k = l
    · subst e; rw [Pgs.put_same]; simp
    · rw [Pgs.put_other _ _ _ _ e]; simp [e]
  have hk : (putS s l c).fr.keys.length = 1 := by
    rw [keys_cnt, cnt_same hsm]; exact cnt_eq_one hl
  have hmem : ∀ k, k ∈ (putS s l c).fr.keys ↔ k = l := fun k => by
    rw [Pgs.mem_keys, hsm k]
    simp
    intro e; omega
  have hf : ∀ i, freshB (putS s l c).fr i = (i == l / 128) := fun i => by
    rw [Bool.eq_iff_iff, freshB_iff, beq_iff_eq]
    constructor
    · rintro ⟨k, hk, e⟩; rw [(hmem k).1 hk] at e; exact e.symm
    · intro e; exact ⟨l, (hmem l).2 rfl, e.symm⟩
  have hm : ∀ i, movB (putS s l c) i = (i == l / 128) := fun i => by
    unfold movB
    rw [hf]
    by_cases e : i = l / 128
    · rw [beq_iff_eq.2 e]; rfl
    · rw [beq_eq_false_iff_ne.2 e, Bool.false_or]
      have : Tb.difB (putS s l c).kp (putS s l c).g.tb i = false ∨ ∃ k, k < 128 ∧ 128 * i + k = l := by
        by_cases h2 : ∃ k, k < 128 ∧ 128 * i + k = l
        · exact .inr h2
        · refine .inl ?_
          unfold Tb.difB Tb.sameN Tb.leafF
          rw [Bool.not_eq_false', decide_eq_true_eq]
          intro k hk
          show Tb.dropT s.kp (l : Int) (128 * i + k) = s.g.tb (128 * i + k)
          rw [dropT_at _ hl, if_neg (fun e3 => h2 ⟨k, hk, e3⟩), h.kp]
      rcases this with h3 | ⟨k, hk, h3⟩
      · rw [h3]; rfl
      · omega
  have hml : (movL (putS s l c)).length = 1 := by
    unfold movL
    rw [Tb.mems_cnt]
    rw [cnt_same hm]
    exact cnt_eq_one (by omega)
  unfold needS
  rw [hk, hml]
end
end Go.Proofs.YthcnofdihigohaaGreat
end
section
/- PagerKeeps: the walk. -/
set_option maxRecDepth 20000
set_option linter.unusedSimpArgs false
namespace Go.Proofs.YthcnofdihigohaaGreat
open Go.RowKit

section
variable {b : Nat} {w : World} {d g X : Nat} {m : Dsk} {s : Sp} {pg : Nat} {x y : Xv} {k : Nat}
theorem cmt_held (h : Duo b w d g X m s pg x y k) {word : Int} (hE : ComE s word 0) : Bi.cnt (heldS (commS s (nextR s word))) 512 = Bi.cnt (usF s.g.r s.g.lv s.g.tb) 512 + needS s := by
  rcases hE with ⟨_, e⟩ | ⟨_, _, e⟩ | ⟨hw, hN, _⟩
  · cases e
  · cases e
  · have h1 := h.ep
    have h2 := h.k
    exact held_cnt h.inv.sp hN h.inv.sp.pgE (by rw [may_word h.inv ⟨h1.1, by omega⟩, decide_eq_true hw.1, decide_eq_true hw.2]; rfl)
theorem size_commit (x : Xv) (word : Int) : sizeX (x.commit word) = sizeX x := rfl
/-- Amid the commits. -/
structure Kp2 (w wr : World) (d g X : Nat) (i : Nat) : Prop where
  duo : ∃ m s x, Duo w.heap.size wr d g X m s 40 x x (39 + i) ∧ (2 ≤ i → Still s) ∧ (3 ≤ i → Bi.cnt (heldS s) 512 = sizeX x + 1)
  bel : Below w.heap.size w wr
theorem Kp2.step {w wr : World} {d g X i : Nat} (h : Kp2 w wr d g X i) (h1 : 1 ≤ i) (h3 : i < 3) :
    Calls Tryz.prog 24 #[.pointer (some ⟨g, 0, none⟩), .int .i64 (i : Int)] wr fun e w' => (e = .returned (.int .i64 8) ∧ Below w.heap.size w w') ∨ (e = .returned (.int .i64 0) ∧ Calls Tryz.prog 30 #[.pointer (some ⟨X, 0, none⟩), .int .i64 (i : Int)] w' fun e w2 => e = .returned (.tuple #[]) ∧ Kp2 w w2 d g X (i + 1)) := by
  obtain ⟨m, s, x, hd, hS, _⟩ := h.duo
  refine (cmt_duo hd (by omega) (i : Int)).mono ?_
  rintro e w' ⟨⟨E, rfl, hE, _, hE2⟩, hb⟩
  by_cases h0 : E = 0
  · subst h0
    obtain ⟨m', hd'⟩ := hE2 rfl
    refine .inr ⟨rfl, ?_⟩
    have hx := hd.sim.ep
    have hep := hd.ep
    refine (rcommit_duo hd' (by omega) (i : Int)).mono ?_
    rintro e w2 ⟨rfl, hd2, hb2⟩
    refine ⟨rfl, ⟨⟨m', _, _, hd2, fun _ => Still.comm s _, fun hi => ?_⟩, (h.bel.trans hb).trans hb2⟩⟩
    have hst := hS (by omega)
    rw [cmt_held hd hE, hst.need, hst.size hd.sim hd.inv.sp hd.secs]; rfl
  · rcases hE with ⟨hw, rfl⟩ | ⟨hw, hf, rfl⟩ | ⟨hw, hf, rfl⟩
    · exact absurd (by omega) hw
    · exact .inl ⟨rfl, h.bel.trans hb⟩
    · exact absurd rfl h0
/-- A page is written and committed. -/
theorem put_duo (h : Duo b w d g X m s pg x y k) {l : Nat} (hl : l < 512) (ht : thX y.now (l : Int) = true) (c : List Nat) (hc : c.length = 512 ∧ ∀ v ∈ c, v < 256) :
    Calls Tryz.prog 38 #[.pointer (some ⟨g, 0, none⟩), .int .i64 (l : Int), .string (strB c)] w fun e w' => e = .returned (.int .i64 0) ∧ Duo b w' d g X m (putS s l c) pg x (y.put l c) k ∧ Below b w w' := by
  obtain ⟨F, pt, pk, mb, pu, po, hD, hS, hF, hG⟩ := h.parts
  refine (write_sp hS (l : Int) (by omega) (by omega) c hc.1).mono ?_
  rintro e w' ⟨rfl, hs, hch⟩
  rw [h.th (l : Int), ht] at hs ⊢
  exact ⟨rfl, h.spUp hS hG hD hF hs hch (h.inv.sp.put hl hc) rfl rfl (h.sim.put hl c), hch.belowB hG h.bl⟩
end
set_option maxHeartbeats 6400000 in
theorem keeps_walk (p : Option Addr) (n c : Nat) (f : Nat → Op4) (l : Int) (v : Nat) (w : World) (h0 : -9223372036854775808 ≤ l) (h1 : l ≤ 9223372036854775807) (hv : v < 256) (hn : n ≤ 9223372036854775807) (hO : OpsIn w p n f) :
    Calls Tryz.prog 6 #[.slice p n c, .int .i64 l, .int .u8 (v : Int)] w fun e w' => e = .returned (.bool true) ∧ Below w.heap.size w w' := by
  have HMD := Lib.hid (made_any (pg := 40) (by omega) (by omega) p n c f w hn hO)
  have HLV := Lib.hid lives_any
  have HFL : Hid (∀ u, Calls Tryz.prog 32 #[.int .u8 (v : Int)] u fun e w' => e = .returned (.string (strB (fulL v))) ∧ Below u.heap.size u w') := Lib.hid fun u => filled_any v hv u
  clear hO
  go_enter Tryz.func6, Tryz.ntmps6
  go_upto_region 2 with (go_at_call 11; refine HMD.out.mono ?_; rintro e w1 ⟨d, g, X, rfl, hM⟩)
  have HK : Hid (Kp2 w w1 d g X 1) := Lib.hid (by
    obtain ⟨m, s, x, hd⟩ := hM.duo
    exact ⟨⟨m, s, x, hd, fun h => absurd h (by omega), fun h => absurd h (by omega)⟩, hM.bel⟩)
  clear hM HMD
  go_upto_region 5 with fail
  go_loopw [11] (fun iv wr => ∃ i : Nat, 1 ≤ i ∧ i ≤ 3 ∧ iv = .int .i64 (i : Int) ∧ Hid (Kp2 w wr d g X i)) (fun iv _ => 3 - (RowKit.intOf iv).toNat)
  case atStart => exact ⟨1, by omega, by omega, by go_num, HK⟩
  case round =>
    obtain ⟨i, hi1, hi3, rfl, HI⟩ := hrel
    by_cases hlt : i < 3
    · have hd : decide ((i : Int) < 3) = true := decide_eq_true (by omega)
      have HS := Lib.hid (HI.out.step hi1 hlt)
      go_upto_region 8 with (go_at_call 24; refine HS.out.mono ?_; rintro e w2 hh; rcases hh with ⟨rfl, hb2⟩ | ⟨rfl, h2⟩)
      · go_wp2_with (go_at_call 10; refine (HLV.out _).mono ?_; rintro e w3 ⟨rfl, hb3⟩)
        go_ret
        exact ⟨rfl, Below.more hb2 hb3 hb2.size⟩
      · have H2 := Lib.hid h2
        clear h2
        go_wp2_with (go_at_call 30; refine H2.out.mono ?_; rintro e w3 ⟨rfl, h3⟩; have H3 := Lib.hid h3; clear h3)
        go_roundw
        case rel => exact ⟨i + 1, by omega, by omega, by go_num, H3⟩
        case measure => simp [RowKit.intOf]; omega
    · obtain rfl : i = 3 := by omega
      have hd : decide (((3 : Nat) : Int) < 3) = false := by decide
      obtain ⟨m, s, x, hdu, hS, hC⟩ := HI.out.duo
      have HD := Lib.hid hdu
      have HBL := Lib.hid HI.out.bel
      have HST := Lib.hid (hS (by omega))
      have hcn : Bi.cnt (heldS s) 512 = Bi.cnt (nn x.now) 512 + Bi.cnt (lvX x.now) 4 + 1 + 1 := hC (by omega)
      have HUS : Hid (Bi.cnt (usF s.g.r s.g.lv s.g.tb) 512 = Bi.cnt (nn x.now) 512 + Bi.cnt (lvX x.now) 4 + 1) := Lib.hid (HST.out.size HD.out.sim HD.out.inv.sp HD.out.secs)
      have hN1 : Bi.cnt (nn x.now) 512 ≤ 512 := Bi.cnt_le _ _
      have hN2 : Bi.cnt (lvX x.now) 4 ≤ 4 := Bi.cnt_le _ _
      have HA : Hid (∀ t : In wr, Calls Tryz.prog 35 #[.pointer (some ⟨X, 512, none⟩)] t.1 fun e w' => e = .returned (.int .i64 (Bi.cnt (nn x.now) 512 : Nat)) ∧ t.1 = w') := Lib.hid fun t => count_duo (HD.out.below t.2)
      have HB : Hid (∀ t : In wr, Calls Tryz.prog 36 #[.pointer (some ⟨X, 512, none⟩)] t.1 fun e w' => e = .returned (.int .i64 (Bi.cnt (lvX x.now) 4 : Nat)) ∧ t.1 = w') := Lib.hid fun t => leaves_any (HD.out.below t.2).xb.now
      have HH : Hid (∀ u, Below wr.heap.size wr u → Calls Tryz.prog 12 #[.pointer (some ⟨g, 0, none⟩)] u fun e w' => (∃ g' b', e = .returned (.pointer (some ⟨g', 0, none⟩)) ∧ Bi.Sat w' g' b' 512 (heldS s)) ∧ Below u.heap.size u w') := Lib.hid fun u hu => held_duo (HD.out.below hu)
      have HCN : Hid (∀ u g' b', Bi.Sat u g' b' 512 (heldS s) → Calls Tryz.prog 21 #[.pointer (some ⟨g', 0, none⟩)] u fun e w' => e = .returned (.int .i64 (Bi.cnt (heldS s) 512 : Nat)) ∧ Below u.heap.size u w') := Lib.hid fun u g' b' hs => Bi.count_any hs
      clear hdu hS hC HI HK
      generalize Bi.cnt (heldS s) 512 = cN at *
      generalize Bi.cnt (nn x.now) 512 = N1 at *
      generalize Bi.cnt (lvX x.now) 4 = N2 at *
      have hq : ((cN : Int) != (N1 : Int) + (N2 : Int) + 1 + 1) = false := by
        have : (cN : Int) = (N1 : Int) + (N2 : Int) + 1 + 1 := by omega
        rw [this]; simp
      go_upto_region 11 with fail
      have hne := In.some wr
      refine region_in wr (by kernel_rfl) (by kernel_rfl) (Below.refl _ _) ?_
      repeat (go_big_quiet_step ((first
        | (go_at_call 35; exact Calls.quiet_in_same (HA.out _))
        | (go_at_call 36; exact Calls.quiet_in_same (HB.out _)))))
      refine wpQuiet_nil ?_
      intro w12 hw'
      have hb12 : Below wr.heap.size wr w12 := by
        obtain ⟨⟨wz, hbz⟩, hw''⟩ := hw'
        subst hw''
        exact hbz
      clear hw'
      have HB12 := Lib.hid hb12
      go_upto_region 14 with (first
        | (go_at_call 12; refine (HH.out _ HB12.out).mono ?_; rintro e w13 ⟨⟨g', b', rfl, hs⟩, hb13⟩; have HS13 := Lib.hid hs; have HB13 := Lib.hid (Below.more HB12.out hb13 HB12.out.size); clear hs hb13)
        | (go_at_call 21; refine (HCN.out _ _ _ HS13.out).mono ?_; rintro e w14 ⟨rfl, hb14⟩; have HB14 := Lib.hid (Below.more HB13.out hb14 HB13.out.size); clear hb14))
      have HD14 := Lib.hid (HD.out.below HB14.out)
      have HBW := Lib.hid (Below.more HBL.out HB14.out HBL.out.size)
      have HTH := Lib.hid (there_duo HD14.out l h0 h1)
      clear HH HCN HA HB hb12 HB12 HB13 HS13 hq hcn
      cases ht : thX x.now l
      · rw [ht] at HTH
        go_wp2_with (first
          | (go_at_call 37; refine HTH.out.mono ?_; rintro e w15 ⟨rfl, rfl⟩)
          | (go_at_call 10; refine (HLV.out _).mono ?_; rintro e w16 ⟨rfl, hb16⟩))
        go_ret
        exact ⟨rfl, Below.more HBW.out hb16 HBW.out.size⟩
      · obtain ⟨t1, t2, t3⟩ := th_lt ht
        obtain ⟨j, hj⟩ : ∃ j : Nat, l.toNat = j := ⟨_, rfl⟩
        rw [hj] at t1 t3
        subst t3
        have HT := Lib.hid ht
        rw [ht] at HTH
        clear ht
        have HPU : Hid (∀ u, Below w14.heap.size w14 u → Calls Tryz.prog 38 #[.pointer (some ⟨g, 0, none⟩), .int .i64 (j : Int), .string (strB (fulL v))] u fun e w' => e = .returned (.int .i64 0) ∧ Duo w.heap.size w' d g X m (putS s j (fulL v)) 40 x (x.put j (fulL v)) (39 + 3) ∧ Below w.heap.size u w') := Lib.hid fun u hu => put_duo (HD14.out.below hu) t1 HT.out (fulL v) (fulL_ok hv)
        have HN3 : Hid (needS (putS s j (fulL v)) = 3) := Lib.hid (HST.out.put t1 (fulL v))
        have HCM : Hid (∀ u, Duo w.heap.size u d g X m (putS s j (fulL v)) 40 x (x.put j (fulL v)) (39 + 3) → Calls Tryz.prog 24 #[.pointer (some ⟨g, 0, none⟩), .int .i64 4] u fun e w' => (e = .returned (.int .i64 8) ∧ Below w.heap.size u w') ∨ (e = .returned (.int .i64 0) ∧ Below w.heap.size u w' ∧ ∀ u2, Below w'.heap.size w' u2 → Calls Tryz.prog 12 #[.pointer (some ⟨g, 0, none⟩)] u2 fun e w3 => (∃ g' b', e = .returned (.pointer (some ⟨g', 0, none⟩)) ∧ ∃ hl, Bi.Sat w3 g' b' 512 hl ∧ Bi.cnt hl 512 = N1 + N2 + 4) ∧ Below u2.heap.size u2 w3)) := Lib.hid fun u hu => (cmt_duo hu (by omega) 4).mono (by
          rintro e w' ⟨⟨E, rfl, hE, _, hE2⟩, hb⟩
          by_cases he0 : E = 0
          · subst he0
            obtain ⟨m', hd'⟩ := hE2 rfl
            refine .inr ⟨rfl, hb, fun u2 hu2 => (held_duo (hd'.below hu2)).mono ?_⟩
            rintro e w3 ⟨⟨g', b', he, hs⟩, hb3⟩
            refine ⟨⟨g', b', he, _, hs, ?_⟩, hb3⟩
            rw [cmt_held hu hE, HN3.out]
            have := HUS.out
            show Bi.cnt (usF s.g.r s.g.lv s.g.tb) 512 + 3 = _
            omega
          · rcases hE with ⟨hw, rfl⟩ | ⟨hw, hf, rfl⟩ | ⟨hw, hf, rfl⟩
            · exact absurd ⟨by omega, by omega⟩ hw
            · exact .inl ⟨rfl, hb⟩
            · exact absurd rfl he0)
        have hq3 : ((N1 + N2 + 4 : Nat) : Int) == (N1 : Int) + (N2 : Int) + 1 + 3 := by simp; omega
        have hq4 : ((N1 : Int) + (N2 : Int) + 4 == (N1 : Int) + (N2 : Int) + 1 + 3) = true := by simp; omega
        clear HUS HN3 HT HD14 HD HST
        generalize strB (fulL v) = CS at *
        go_upto_region 15 with (first
          | (go_at_call 37; refine HTH.out.mono ?_; rintro e w15 ⟨rfl, rfl⟩)
          | (go_at_call 32; refine (HFL.out _).mono ?_; rintro e w16 ⟨rfl, hb16⟩; have HB16 := Lib.hid hb16; clear hb16)
          | (go_at_call 38; refine (HPU.out _ HB16.out).mono ?_; rintro e w17 ⟨rfl, hd17, hb17⟩; have HD17 := Lib.hid hd17; have HB17 := Lib.hid (Below.trans (HB16.out.mono (by have := HBW.out.size; omega)) hb17); clear hd17 hb17)
          | (go_at_call 24; refine (HCM.out _ HD17.out).mono ?_; rintro e w18 hh; rcases hh with ⟨rfl, hb18⟩ | ⟨rfl, hb18, hH⟩)
          | (go_at_call 12; refine (hH _ (Below.refl _ _)).mono ?_; rintro e w19 ⟨⟨g2, b2, rfl, hl, hs19, hc19⟩, hb19⟩)
          | (go_at_call 21; refine (Bi.count_any hs19).mono ?_; rw [hc19]; rintro e w20 ⟨rfl, hb20⟩)
          | (go_at_call 10; refine (HLV.out _).mono ?_; rintro e w21 ⟨rfl, hb21⟩))
        · go_wp2_with (go_at_call 10; refine (HLV.out _).mono ?_; rintro e w22 ⟨rfl, hb22⟩)
          go_ret
          exact ⟨rfl, Below.more (HBW.out.trans (HB17.out.trans hb18)) hb22 (HBW.out.trans (HB17.out.trans hb18)).size⟩
        · go_ret
          have B1 := HBW.out.trans (HB17.out.trans hb18)
          have B2 := Below.more B1 hb19 B1.size
          have B3 := Below.more B2 hb20 B2.size
          exact ⟨rfl, Below.more B3 hb21 B3.size⟩
end Go.Proofs.YthcnofdihigohaaGreat
end
