/- Texts QCnt to XTorn0 of this seat, laid into one. -/
import Derived.Test.YthcnofdihigohaaGreatM07
import Derived.Test.YthcnofdihigohaaGreatM08
import Derived.Test.YthcnofdihigohaaGreatM16
import Derived.Test.YthcnofdihigohaaGreatM19
import Derived.Test.YthcnofdihigohaaGreatM21
section
/- How many pages are held behind a commit: without memory. -/
set_option maxRecDepth 20000
set_option linter.unusedSimpArgs false
namespace Go.Proofs.YthcnofdihigohaaGreat
open Go.RowKit

theorem cnt_one (g : Nat → Bool) (x : Nat) (h : g x = false) : ∀ n, Bi.cnt (fun p => g p || p == x) n = Bi.cnt g n + (decide (x < n)).toNat
  | 0 => by rw [decide_eq_false (Nat.not_lt_zero x)]; rfl
  | n + 1 => by
    have ih := cnt_one g x h n
    show Bi.cnt (fun p => g p || p == x) n + (g n || n == x).toNat = Bi.cnt g n + (g n).toNat + _
    rw [ih]
    by_cases e : n = x
    · subst e
      rw [h, decide_eq_false (Nat.lt_irrefl n), decide_eq_true (Nat.lt_succ_self n)]
      simp
    · have e2 : (n == x) = false := beq_eq_false_iff_ne.2 e
      rw [e2, Bool.or_false]
      by_cases hl : x < n
      · rw [decide_eq_true hl, decide_eq_true (Nat.lt_succ_of_lt hl)]; omega
      · rw [decide_eq_false hl, decide_eq_false (by omega)]; simp
theorem cnt_same {f g : Nat → Bool} (h : ∀ p, f p = g p) (n : Nat) : Bi.cnt f n = Bi.cnt g n := by rw [funext h]
theorem cnt_more (n : Nat) : ∀ (l : List Nat) (g : Nat → Bool), l.Nodup → (∀ p ∈ l, p < n ∧ g p = false) → Bi.cnt (fun p => g p || decide (p ∈ l)) n = Bi.cnt g n + l.length
  | [], g, _, _ => by
    rw [cnt_same (g := g) (fun p => by simp)]; rfl
  | x :: l, g, hn, hl => by
    have h1 := hl x (by simp)
    have hx := (List.nodup_cons.1 hn)
    have ih := cnt_more n l (fun p => g p || p == x) hx.2 (fun p hp => ⟨(hl p (by simp [hp])).1, by
      rw [(hl p (by simp [hp])).2, Bool.false_or]
      exact beq_eq_false_iff_ne.2 (fun e => hx.1 (e ▸ hp))⟩)
    rw [cnt_one g x h1.2, decide_eq_true h1.1] at ih
    rw [List.length_cons, cnt_same (g := fun p => (g p || p == x) || decide (p ∈ l)) (fun p => by
      rw [Bool.or_assoc]
      congr 1
      rw [Bool.eq_iff_iff]
      simp), ih]
    show _ + 1 + _ = _
    omega
section
variable {s : Sp} {pg : Nat} {L : List (List Nat)}
theorem lab_idx (_hB : Base s pg) (r : Rt) {j : Nat} (hj : j < needS s) : ∃ n, n < 517 ∧ lab (planRt s r) (plL s) (plT s) n = (freeL s).getD j 0 := by
  unfold needS at hj
  by_cases h1 : j < s.fr.keys.length
  · have h2 : s.fr.keys.getD j 0 < 512 := (Pgs.mem_keys.1 (getD_mem h1)).1
    refine ⟨s.fr.keys.getD j 0 + 5, by omega, ?_⟩
    rw [lab_tb]; exact plT_key s h1
  · by_cases h2 : j < s.fr.keys.length + (movL s).length
    · have ht : j - s.fr.keys.length < (movL s).length := by omega
      have h3 : (movL s).getD (j - s.fr.keys.length) 0 < 4 := (mem_tmems.1 (getD_mem ht)).1
      refine ⟨(movL s).getD (j - s.fr.keys.length) 0 + 1, by omega, ?_⟩
      rw [lab_lv _ _ _ _ h3, plL_mov s ht, show s.fr.keys.length + (j - s.fr.keys.length) = j by omega]
    · refine ⟨0, by omega, ?_⟩
      rw [lab_dir]
      show ((plD s : Nat) : Int).toNat = _
      rw [Int.toNat_natCast, plD_eq, show s.fr.keys.length + (movL s).length = j by omega]
theorem idx_need {j n : Nat} (h : idx s j n) : j < needS s := by
  unfold needS
  rcases h with ⟨_, e1⟩ | ⟨_, t, _, _, ht, e1, _⟩ | ⟨_, _, _, hj, _⟩ <;> omega
theorem mem_takeN {l : List Nat} {p n : Nat} : p ∈ l.take n ↔ ∃ j, j < n ∧ j < l.length ∧ l.getD j 0 = p := by
  rw [List.mem_take_iff_getElem]
  constructor
  · rintro ⟨j, hj, e⟩
    exact ⟨j, by omega, by omega, by rw [List.getD_eq_getElem?_getD, List.getElem?_eq_getElem (by omega)]; exact e⟩
  · rintro ⟨j, hj, hl, e⟩
    refine ⟨j, by omega, ?_⟩
    rw [List.getD_eq_getElem?_getD, List.getElem?_eq_getElem hl] at e
    exact e
theorem held_comm (h : SpGood s L pg) (hN : needS s ≤ (freeL s).length) {r : Rt} (hr : r.pg = (pg : Int)) (hm : may r = true) (p : Nat) :
    heldS (commS s r) p = (usF s.g.r s.g.lv s.g.tb p || decide (p ∈ (freeL s).take (needS s))) := by
  have hB := h.base
  have e : heldS (commS s r) p = (plU s r p || usF s.g.r s.g.lv s.g.tb p) := by
    unfold heldS orB
    show ((false || plU s r p) || (match s.g.us with | none => false | some k => k p)) = _
    rw [h.g.us, Bool.false_or]
  rw [e, plU_eq hB hN hr hm, Bool.eq_iff_iff, Bool.or_eq_true, Bool.or_eq_true, decide_eq_true_eq, usF_iff]
  constructor
  · rintro (⟨h0, n, hn, rfl⟩ | h1)
    · rcases lab_src hB r n hn with h1 | h1 | ⟨j, hj, h1⟩
      · exact absurd h1 h0
      · rw [h1] at h0 ⊢
        have := h.labs n h0
        exact .inl (usF_iff.2 ⟨h0, n, hn, this.symm⟩)
      · exact .inr (mem_takeN.2 ⟨j, idx_need hj, idx_lt hN hj, h1.symm⟩)
    · exact .inl h1
  · rintro (h1 | h1)
    · exact .inr h1
    · obtain ⟨j, hj, hl, rfl⟩ := mem_takeN.1 h1
      obtain ⟨n, hn, e⟩ := lab_idx hB r hj
      have := (free_two hB hl).1
      exact .inl ⟨by omega, n, hn, e⟩
/-- Behind a commit there are held the state's pages as it was, and as many as it needed. -/
theorem held_cnt (h : SpGood s L pg) (hN : needS s ≤ (freeL s).length) {r : Rt} (hr : r.pg = (pg : Int)) (hm : may r = true) :
    Bi.cnt (heldS (commS s r)) 512 = Bi.cnt (usF s.g.r s.g.lv s.g.tb) 512 + needS s := by
  have hB := h.base
  rw [cnt_same (held_comm h hN hr hm), cnt_more 512 _ _ ((free_nodup s).sublist (List.take_sublist _ _)) (fun p hp => ?_), List.length_take, Nat.min_eq_left hN]
  have h1 := (free_mem hB).1 (List.mem_of_mem_take hp)
  have h2 := hB.p5
  refine ⟨by omega, ?_⟩
  cases e : usF s.g.r s.g.lv s.g.tb p
  · rfl
  · rw [h.heldU e] at h1
    exact absurd h1.2.2 (by simp)
/-- How many pages a state has. -/
theorem cnt_filter (P : Nat → Nat) (l : List Nat) (f : Nat → Nat) : (l.map f).countP (fun n => !(P n == 0)) = l.countP (fun n => !(P (f n) == 0)) := by
  rw [List.countP_map]; rfl
theorem countP_range (f : Nat → Bool) : ∀ n, (List.range n).countP f = Bi.cnt f n
  | 0 => rfl
  | n + 1 => by
    rw [List.range_succ, List.countP_append, countP_range f n]
    show _ + _ = Bi.cnt f n + (f n).toNat
    congr 1
theorem map_nodup {l : List Nat} {f : Nat → Nat} (hn : l.Nodup) (h : ∀ a ∈ l, ∀ b ∈ l, f a = f b → a = b) : (l.map f).Nodup := by
  unfold List.Nodup at *
  rw [List.pairwise_map]
  exact hn.imp_of_mem fun {a b} ha hb hab e => hab (h a ha b hb e)
theorem us_cnt {r : Rt} {lv tb : Nat → Nat} (hA : ApartS r lv tb) (hp : r.pg ≤ 512) (hd : 2 ≤ r.dr) : Bi.cnt (usF r lv tb) 512 = 1 + Bi.cnt (fun i => !(lv i == 0)) 4 + Bi.cnt (Tb.told tb) 512 := by
  have e : List.range 517 = [0] ++ ((List.range 4).map (fun i => i + 1) ++ (List.range 512).map (fun l => l + 5)) := by decide +kernel
  let l := ((List.range 517).filter fun n => !(lab r lv tb n == 0))
  have hl : ∀ n, n ∈ l ↔ n < 517 ∧ lab r lv tb n ≠ 0 := fun n => by
    show n ∈ (List.range 517).filter _ ↔ _
    rw [List.mem_filter, List.mem_range]; simp
  have h1 : Bi.cnt (usF r lv tb) 512 = (l.map (lab r lv tb)).length := by
    rw [cnt_same (g := fun p => (fun _ => false) p || decide (p ∈ l.map (lab r lv tb))) (fun p => by
      rw [Bool.false_or, Bool.eq_iff_iff, usF_iff, decide_eq_true_eq, List.mem_map]
      constructor
      · rintro ⟨h0, n, hn, rfl⟩; exact ⟨n, (hl n).2 ⟨hn, h0⟩, rfl⟩
      · rintro ⟨n, hn, rfl⟩; exact ⟨((hl n).1 hn).2, n, ((hl n).1 hn).1, rfl⟩),
      cnt_more 512 _ (fun _ => false) (map_nodup (List.nodup_range.filter _) (fun a ha b hb e => hA.inj a (List.mem_range.2 ((hl a).1 ha).1) b (List.mem_range.2 ((hl b).1 hb).1) ((hl a).1 ha).2 e)) (fun p hp2 => by
        obtain ⟨n, hn, rfl⟩ := List.mem_map.1 hp2
        have := hA.lt n (List.mem_range.2 ((hl n).1 hn).1) ((hl n).1 hn).2
        exact ⟨by omega, rfl⟩)]
    have h0 : ∀ n, Bi.cnt (fun _ => false) n = 0 := fun n => by
      induction n with
      | zero => rfl
      | succ n ih => show _ + 0 = 0; rw [ih]
    rw [h0, Nat.zero_add]
  rw [h1, List.length_map]
  show ((List.range 517).filter _).length = _
  rw [← List.countP_eq_length_filter, e, List.countP_append, List.countP_append, cnt_filter (lab r lv tb), cnt_filter (lab r lv tb), countP_range, countP_range]
  have h2 : List.countP (fun n => !(lab r lv tb n == 0)) [0] = 1 := by
    rw [List.countP_cons, lab_dir]
    have : (r.dr.toNat == 0) = false := beq_eq_false_iff_ne.2 (by omega)
    simp [this]
  rw [h2, cnt_congr2 (f := fun n => !(lab r lv tb (n + 1) == 0)) (g := fun i => !(lv i == 0)) (fun i hi => by rw [lab_lv _ _ _ _ hi]), cnt_congr2 (f := fun n => !(lab r lv tb (n + 5) == 0)) (g := Tb.told tb) (fun i hi => by rw [lab_tb]; rfl)]
  omega
end
end Go.Proofs.YthcnofdihigohaaGreat
end
section
/- A disk behind a failure, started again. -/
set_option maxRecDepth 20000
set_option linter.unusedSimpArgs false
namespace Go.Proofs.YthcnofdihigohaaGreat
open Go.RowKit

theorem failM_down (m : Dsk) (k : Nat → Bool) (t a : Int) : (failM m k t a).down = true := rfl
/-- The disk behind a failure and a start. -/
def failS (m : Dsk) (k : Nat → Bool) (t a : Int) : Dsk := startM (failM m k t a)
set_option maxHeartbeats 800000 in
theorem failL_any {w : World} {g bO cO bL cL : Nat} {vW : Value} {os ls : List Value} {ws : List Vw} {m : Dsk} (h : Dk0 w g bO cO bL cL vW os ls ws m) (hl : m.row.length ≤ 4611686018427387904) (p : Option Addr) (nk ck : Nat) (f : Nat → Bool) (hK : Kp w p nk f) (hO : 0 < nk → Off (foot g bO bL vW) p) (hnk : nk ≤ 9223372036854775807) (fuse torn at_ : Int) :
    Calls Tryz.prog 27 #[.pointer (some ⟨g, 0, none⟩), .agg #[.int .i64 fuse, .int .i64 torn, .int .i64 at_, .slice p nk ck]] w fun e w' => e = .returned (.tuple #[]) ∧ Went (foot g bO bL vW) g (failS m (keepB nk f) torn at_) w w' := by
  have HB0 : Hid (Below w.heap.size w (w.alloc (.cells #[.int .i64 fuse, .int .i64 torn, .int .i64 at_, .slice p nk ck] 49))) := Lib.hid (alloc_below w _)
  have a1 := World.cell?_alloc_new w #[.int .i64 fuse, .int .i64 torn, .int .i64 at_, .slice p nk ck] 49 1
  have a2 := World.cell?_alloc_new w #[.int .i64 fuse, .int .i64 torn, .int .i64 at_, .slice p nk ck] 49 2
  have a3 := World.cell?_alloc_new w #[.int .i64 fuse, .int .i64 torn, .int .i64 at_, .slice p nk ck] 49 3
  have HF := Lib.hid (fail_any (h.below HB0.out) hl p nk ck f (hK.chg (F := []) (F' := []) (fun _ _ _ _ hb => by cases hb) (Chg.of_below HB0.out)) hO hnk torn at_)
  have hdn := failM_down m (keepB nk f) torn at_
  have HD := Lib.hid hdn
  clear h hK hO hdn
  go_enter Tryz.func27, Tryz.ntmps27
  go_upto_region 1 with fail
  generalize w.alloc (.cells #[.int .i64 fuse, .int .i64 torn, .int .i64 at_, .slice p nk ck] 49) = w1 at *
  go_upto_region 2 with (go_at_call 40; refine HF.out.mono ?_; rintro e w2 ⟨rfl, hw⟩; have HW := Lib.hid hw; clear hw)
  obtain ⟨F2, ⟨bO2, cO2, bL2, cL2, vW2, os2, ls2, ws2, hD2, hF2⟩, hC2⟩ := HW.out
  have HST := Lib.hid (start_down hD2 HD.out)
  have HC2 := Lib.hid hC2
  have HF2 := Lib.hid hF2
  clear hD2 hC2 hF2 HW HF
  go_wp2_with (go_at_call 41; refine HST.out.mono ?_; rintro e w3 ⟨rfl, hw⟩; have HW3 := Lib.hid hw; clear hw)
  go_end0
  refine ⟨rfl, ?_⟩
  obtain ⟨F3, hD3, hC3⟩ := HW3.out
  rw [← HF2.out] at hC3
  exact ⟨F3, hD3, (Chg.of_below HB0.out).trans (HC2.out.trans hC3)⟩
end Go.Proofs.YthcnofdihigohaaGreat
end
section
/- What a failure leaves of a commit that was cut: without memory. -/
set_option maxRecDepth 20000
set_option linter.unusedSimpArgs false
namespace Go.Proofs.YthcnofdihigohaaGreat
open Go.RowKit

theorem bring_other (L : List (List Nat)) {x : Wr} (o : Option Nat) {j : Nat} (h : x.1 ≠ j) : sec (bring L x o) j = sec L j := by
  cases o with
  | none => rfl
  | some a => exact sec_set_ne _ h
theorem failN_other {l : List Wr} (L : List (List Nat)) (f : Nat → Option Nat) {j : Nat} (h : ∀ x ∈ l, x.1 ≠ j) : ∀ k, k ≤ l.length → sec (failN l L f k) j = sec L j
  | 0, _ => rfl
  | k + 1, hk => (bring_other _ _ (h _ (wr_mem (by omega)))).trans (failN_other L f h k (by omega))
theorem RootIs.stay {L L' : List (List Nat)} {r : Rt} (h : RootIs L r) (h0 : sec L' 0 = sec L 0) (h4 : sec L' 4 = sec L 4) : RootIs L' r := by
  have hb : ∀ k, k = 0 ∨ k = 4 → sec L' k = sec L k := fun k hk => by rcases hk with rfl | rfl <;> assumption
  refine ⟨h.mays, by rw [h0]; exact h.b0, by rw [h4]; exact h.b4, ?_, fun k hk => ?_⟩
  · rw [hb _ (by split <;> simp)]; exact h.at_
  · rw [hb k (by rw [hk]; split <;> simp)]; exact h.oth k hk
/-- A torn block: the old one, the new one, or none. -/
theorem torn_three {was now : Rt} (hw : was = Rt.none_ ∨ Mays was) (hm : Mays now) (he : was.ep ≠ now.ep) {t : Nat} (ht : t ≤ 128) :
    decE (tornB (block now) (oldB was) t) = 4 ∨ tornB (block now) (oldB was) t = oldB was ∨ tornB (block now) (oldB was) t = block now := by
  have hn := block_len now
  have ho := oldB_len was
  have en : (block now).take 8 = (block now).drop 120 := by rw [block_first, block_last]
  have eo := oldB_ends was
  have b0 : 0 ≤ was.ep ∧ was.ep ≤ 4611686018427387904 := by
    rcases hw with rfl | h
    · exact ⟨Int.le_refl 0, by decide⟩
    · exact ⟨by have := h.e0; omega, h.e1⟩
  have b1 := hm.e0
  have b2 := hm.e1
  have hne : (block now).take 8 ≠ (oldB was).take 8 := by
    rw [block_first, oldB_first hw]
    intro h
    have := be_inj (k := 8) (by omega) (by omega) h
    omega
  by_cases h8 : (tornB (block now) (oldB was) t).take 8 = (tornB (block now) (oldB was) t).drop 120
  · rcases torn_same hn en eo hne ht h8 with ⟨h, _⟩ | ⟨h, _⟩
    · exact .inr (.inl h)
    · exact .inr (.inr h)
  · left
    have hl := tornB_len hn ho ht
    have hz : tornB (block now) (oldB was) t ≠ zs128 := fun e => h8 (by rw [e]; exact zs_ends)
    unfold decE; rw [if_neg (by simp [hl]), if_neg hz, if_pos h8]
/-- What counts at the other place behind a torn write. -/
theorem oth_old {was : Rt} {e : Int} (hw : was = Rt.none_ ∨ Mays was) (he : was.ep < e) (k : Int) : plE (oldB was) k ≠ 0 ∨ (plR (oldB was) k).ep < e := by
  rcases hw with rfl | hw
  · left
    rw [oldB_none]
    unfold plE
    rw [if_neg (by rw [decE_zs]; omega), decE_zs]; omega
  · rw [oldB_mays hw]
    by_cases h : plE (block was) k = 0
    · right
      obtain ⟨_, _, h3, _⟩ := pl_ok h
      rw [h3, decR_block hw]; exact he
    · exact .inl h
/-- A disk behind a failure and a start. -/
structure Up (m : Dsk) (n : Nat) : Prop where
  up : m.down = false
  row : m.row = []
  fuse : m.fuse = -1
  len : m.out.length = n
  ok : Ok m
theorem failS_eq (m : Dsk) (k : Nat → Bool) (t a : Int) : failS m k t a = { m with out := failN m.row m.out (outb k t (cut128 a)) m.row.length, row := [], fuse := -1, down := false } := by
  unfold failS startM failM
  rfl
theorem failS_up {m : Dsk} (h : Ok m) (k : Nat → Bool) (t a : Int) : Up (failS m k t a) m.out.length :=
  ⟨by rw [failS_eq], by rw [failS_eq], by rw [failS_eq], by rw [failS_eq]; exact failN_len _ _ _ _, Ok.start (Ok.fail h _ _ _)⟩
/-- Behind a failure: the pages that were held lie as they lay; the block's sector is torn anywhere (or as it was), and if it is not as it was all pages are out. -/
structure Trn (m : Dsk) (s : Sp) (r : Rt) (pl : Nat) (m2 : Dsk) : Prop where
  len : m2.out.length = m.out.length
  page : ∀ p, 2 ≤ p → heldS s p = true → pageB m2.out p = pageB m.out p
  low : ∀ j, j < 8 → j ≠ pl → sec m2.out j = sec m.out j
  at_ : sec m2.out pl = sec m.out pl ∨ ((∃ c, c ≤ 128 ∧ sec m2.out pl = tornB (block (planRt s r)) (sec m.out pl) c) ∧ ∀ p, 2 ≤ p → pageB m2.out p = pageB (wrP m.out (plW s r)) p)
/-- Or all is out. -/
structure Nwo (m : Dsk) (s : Sp) (r : Rt) (pl : Nat) (m2 : Dsk) : Prop where
  len : m2.out.length = m.out.length
  page : ∀ p, 2 ≤ p → pageB m2.out p = pageB (wrP m.out (plW s r)) p
  low : ∀ j, j < 8 → j ≠ pl → sec m2.out j = sec m.out j
  at_ : sec m2.out pl = block (planRt s r)
theorem pageB_secs {L L' : List (List Nat)} {p : Nat} (h : ∀ j, j / 4 = p → sec L' j = sec L j) : pageB L' p = pageB L p :=
  pageB_congr fun j hj => h _ (by omega)
theorem cut_secs {m : Dsk} {s : Sp} {pg : Nat} (hup : m.down = false) (hrw : m.row = []) (hlen : m.out.length = 4 * pg) (hB : Base s pg) (hN : needS s ≤ (freeL s).length) {r : Rt} (hr : r.pg = (pg : Int)) (hm : may r = true) {pl : Nat} (hple : pl = (if r.ep % 2 = 1 then 4 else 0 : Nat)) (cut : Int) (kp : Nat → Bool) (t a : Int) :
    let M := layM (fuseM m cut) (plW s r) (planRt s r)
    (M.2 = 0 ∨ M.2 = 9) ∧ M.1.row.length ≤ 4 * needS s + 3 ∧ ((M.2 = 9 ∧ Trn m s r pl (failS M.1 kp t a)) ∨ Nwo m s r pl (failS M.1 kp t a)) := by
  intro M
  have hM : Mays (planRt s r) := plan_mays hB hN hr hm
  have hp4 := hB.p4
  have hpl : place (planRt s r).ep = (pl : Int) := by rw [hple]; exact place_nat hM.e0 hM.e1
  have hp8 : pl < 8 := by rw [hple]; split <;> omega
  have hlt : pl < (fuseM m cut).out.length := by show pl < m.out.length; omega
  have hL := lay_laid (m := fuseM m cut) (r := planRt s r) hup hrw (psOk hB hN r (by show 4 * pg ≤ m.out.length; omega)) hpl hlt
  have hrow := layM_row (fuseM m cut) (plW s r) (planRt s r)
  rw [plW_len, show (fuseM m cut).row = [] from hrw] at hrow
  have hwl := wrP_len m.out (plW s r)
  have hlow : ∀ j, j < 8 → sec (wrP m.out (plW s r)) j = sec m.out j := low_stay hB hN r
  have hplw : ∀ y ∈ plW s r, 2 ≤ y.1 ∧ y.1 < pg ∧ heldS s y.1 = false := fun y hy => by
    have := (free_mem hB).1 (plW_page hN hy)
    exact ⟨this.2.1, this.1, this.2.2⟩
  change Laid (fuseM m cut) _ pl _ M at hL
  change M.1.row.length ≤ _ at hrow
  generalize M = M at *
  have hstay : ∀ p, heldS s p = true → pageB (wrP m.out (plW s r)) p = pageB m.out p := fun p hp => held_stay hB hN _ hp
  have hset2 : ∀ (x : List Nat) (p : Nat), 2 ≤ p → pageB ((wrP m.out (plW s r)).set pl x) p = pageB (wrP m.out (plW s r)) p := fun x p hp => pageB_set _ _ (by omega)
  have hlow2 : ∀ (x : List Nat) (j : Nat), j < 8 → j ≠ pl → sec ((wrP m.out (plW s r)).set pl x) j = sec m.out j := fun x j hj hne => (sec_set_ne x (fun e => hne e.symm)).trans (hlow j hj)
  have hat2 : ∀ x : List Nat, sec ((wrP m.out (plW s r)).set pl x) pl = x := fun x => by rw [sec_set _ (by rw [hwl]; omega), if_pos rfl]
  rw [failS_eq]
  have hrl : M.1.row.length ≤ 4 * needS s + 3 := by simpa using hrow
  cases hL with
  | all e d rq o f =>
    refine ⟨.inl e, hrl, .inr ?_⟩
    have ho : failN M.1.row M.1.out (outb kp t (cut128 a)) M.1.row.length = (wrP m.out (plW s r)).set pl (block (planRt s r)) := by rw [rq]; exact o
    refine ⟨?_, fun p hp => ?_, fun j hj hne => ?_, ?_⟩
    · show List.length (failN _ _ _ _) = _; rw [ho, List.length_set, hwl]
    · show pageB (failN _ _ _ _) p = _; rw [ho]; exact hset2 _ p hp
    · show sec (failN _ _ _ _) j = _; rw [ho]; exact hlow2 _ j hj hne
    · show sec (failN _ _ _ _) pl = _; rw [ho]; exact hat2 _
  | cut e d f o rq =>
    refine ⟨.inr e, hrl, .inl ⟨e, ?_⟩⟩
    have ho : M.1.out = m.out := o
    have hs : ∀ j, (j < 8 ∨ heldS s (j / 4) = true) → sec (failN M.1.row M.1.out (outb kp t (cut128 a)) M.1.row.length) j = sec m.out j := fun j hj => by
      rw [failN_other _ _ (fun x hx e2 => ?_) _ (Nat.le_refl _), ho]
      obtain ⟨y, hy, hxy⟩ := rq x hx
      have h1 := hplw y hy
      rw [e2] at hxy
      rcases hj with hj | hj
      · omega
      · rw [hxy, h1.2.2] at hj; cases hj
    refine ⟨?_, fun p _ hp => pageB_secs fun j hj => hs j (.inr (by rw [hj]; exact hp)), fun j hj _ => hs j (.inl hj), .inl (hs pl (.inl hp8))⟩
    show List.length (failN _ _ _ _) = _
    rw [failN_len, ho]
  | half e d f o rq =>
    refine ⟨.inr e, hrl, .inl ⟨e, ?_⟩⟩
    have ho : M.1.out = wrP m.out (plW s r) := o
    have hwas : ∀ D : Dsk, D.out = wrP m.out (plW s r) → Trn m s r pl D := fun D hD => ⟨by rw [hD, hwl], fun p _ hp => by rw [hD]; exact hstay p hp, fun j hj _ => by rw [hD]; exact hlow j hj, .inl (by rw [hD]; exact hlow pl hp8)⟩
    rcases rq with rq | rq
    · refine hwas _ ?_
      show failN M.1.row M.1.out _ M.1.row.length = _
      rw [rq]; exact ho
    · have hf : failN M.1.row M.1.out (outb kp t (cut128 a)) M.1.row.length = bring (wrP m.out (plW s r)) (pl, block (planRt s r)) (outb kp t (cut128 a) 0) := by rw [rq, ← ho]; rfl
      cases hb : outb kp t (cut128 a) 0 with
      | none =>
        rw [hb] at hf
        exact hwas _ hf
      | some c =>
        rw [hb] at hf
        have hc := bits_le (cut128_le a) 0 c hb
        have ho2 : failN M.1.row M.1.out (outb kp t (cut128 a)) M.1.row.length = (wrP m.out (plW s r)).set pl (tornB (block (planRt s r)) (sec (wrP m.out (plW s r)) pl) c) := hf
        rw [hlow pl hp8] at ho2
        refine ⟨?_, fun p h2 hp => ?_, fun j hj hne => ?_, .inr ⟨⟨c, hc, ?_⟩, fun p hp => ?_⟩⟩
        · show List.length (failN _ _ _ _) = _; rw [ho2, List.length_set, hwl]
        · show pageB (failN _ _ _ _) p = _; rw [ho2]; exact (hset2 _ p h2).trans (hstay p hp)
        · show sec (failN _ _ _ _) j = _; rw [ho2]; exact hlow2 _ j hj hne
        · show sec (failN _ _ _ _) pl = _; rw [ho2]; exact hat2 _
        · show pageB (failN _ _ _ _) p = _; rw [ho2]; exact hset2 _ p hp
/-- The state as it was lies there, or the new one. -/
structure Was (m : Dsk) (s : Sp) (r0 : Rt) (m2 : Dsk) : Prop where
  len : m2.out.length = m.out.length
  page : ∀ p, 2 ≤ p → heldS s p = true → pageB m2.out p = pageB m.out p
  rt : RootIs m2.out r0
structure Now (m : Dsk) (s : Sp) (r : Rt) (m2 : Dsk) : Prop where
  len : m2.out.length = m.out.length
  page : ∀ p, 2 ≤ p → pageB m2.out p = pageB (wrP m.out (plW s r)) p
  rt : RootIs m2.out (planRt s r)
section
variable {m m2 : Dsk} {s : Sp} {r r0 : Rt} {pl : Nat}
/-- The next root's block lies at its place. -/
theorem RootIs.next2 {L L' : List (List Nat)} {r r' : Rt} (h : RootIs L r) (hm : Mays r') (he : r'.ep = r.ep + 1) {pl : Nat} (hp : pl = (if r'.ep % 2 = 1 then 4 else 0)) (hs : ∀ j, j < 8 → j ≠ pl → sec L' j = sec L j) (ha : sec L' pl = block r') : RootIs L' r' := by
  have h1 := block_len r'
  have hb : ∀ k, k = 0 ∨ k = 4 → (sec L' k).length = 128 := fun k hk => by
    by_cases e : k = pl
    · rw [e, ha]; exact h1
    · rw [hs k (by omega) e]
      rcases hk with rfl | rfl
      · exact h.b0
      · exact h.b4
  refine ⟨hm, hb 0 (.inl rfl), hb 4 (.inr rfl), by rw [← hp]; exact ha, fun k hk => ?_⟩
  have hne : k ≠ pl := by rw [hp, hk]; split <;> omega
  have hko : k = (if r.ep % 2 = 1 then 4 else 0) := by
    rw [hk, he]
    by_cases ho : r.ep % 2 = 1
    · rw [if_pos ho, if_neg (by omega)]
    · rw [if_neg ho, if_pos (by omega)]
  rw [hs k (by rw [hk]; split <;> omega) hne]
  have hb := pl_block h.mays hko
  have ha := h.at_
  rw [← hko] at ha
  rw [ha]
  exact .inr (by rw [hb.2]; omega)
theorem Nwo.now (h : Nwo m s r pl m2) (hrt : RootIs m.out r0) (hM : Mays (planRt s r)) (he : r.ep = r0.ep + 1) (hpl : pl = (if r.ep % 2 = 1 then 4 else 0 : Nat)) : Now m s r m2 :=
  ⟨h.len, h.page, hrt.next2 hM he hpl h.low h.at_⟩
theorem Trn.cases (h : Trn m s r pl m2) (hrt : RootIs m.out r0) (hO : RootO m.out r0) (hM : Mays (planRt s r)) (he : r.ep = r0.ep + 1) (hpl : pl = (if r.ep % 2 = 1 then 4 else 0 : Nat)) : Was m s r0 m2 ∨ Now m s r m2 := by
  have hpo : pl = (if r0.ep % 2 = 1 then 0 else 4) := by
    rw [hpl, he]
    by_cases ho : r0.ep % 2 = 1
    · rw [if_pos ho, if_neg (by omega)]
    · rw [if_neg ho, if_pos (by omega)]
  have hoth : ∀ x : List Nat, sec m2.out pl = x → x.length = 128 → (plE x (pl : Int) ≠ 0 ∨ (plR x (pl : Int)).ep < r0.ep) → Was m s r0 m2 := fun x hx hl hp => by
    have hb : ∀ k, k = 0 ∨ k = 4 → (sec m2.out k).length = 128 := fun k hk => by
      by_cases e : k = pl
      · rw [e, hx]; exact hl
      · rw [h.low k (by omega) e]
        rcases hk with rfl | rfl
        · exact hrt.b0
        · exact hrt.b4
    refine ⟨h.len, h.page, ⟨hrt.mays, hb 0 (.inl rfl), hb 4 (.inr rfl), ?_, fun k hk => ?_⟩⟩
    · rw [h.low _ (by split <;> omega) (by rw [hpo]; split <;> omega)]; exact hrt.at_
    · obtain rfl : k = pl := hk.trans hpo.symm
      rw [hx]; exact hp
  obtain ⟨was, hw, hwe, hws⟩ := hO pl hpo
  rcases h.at_ with h1 | ⟨⟨c, hc, h1⟩, h2⟩
  · rw [hws] at h1
    exact .inl (hoth _ h1 (oldB_len was) (oth_old hw hwe _))
  · rw [hws] at h1
    have hep : (planRt s r).ep = r.ep := rfl
    have hxl := tornB_len (block_len (planRt s r)) (oldB_len was) hc
    rcases torn_three hw hM (by rw [hep]; omega) hc with h4 | h4 | h4
    · exact .inl (hoth _ h1 hxl (.inl (by unfold plE; rw [if_neg (by rw [h4]; omega), h4]; omega)))
    · rw [h4] at h1
      exact .inl (hoth _ h1 (oldB_len was) (oth_old hw hwe _))
    · rw [h4] at h1
      exact .inr (Nwo.now ⟨h.len, h2, h.low, h1⟩ hrt hM he hpl)
end
/-- Behind a failure of a commit that may be cut. -/
theorem cut_after {m : Dsk} {s : Sp} {pg : Nat} (h : Inv m s pg) (hO : RootO m.out s.g.r) (hN : needS s ≤ (freeL s).length) (word : Int) (hm : may (nextR s word) = true) (cut : Int) (kp : Nat → Bool) (t a : Int) :
    let M := layM (fuseM m cut) (plW s (nextR s word)) (planRt s (nextR s word))
    (M.2 = 0 ∨ M.2 = 9) ∧ M.1.row.length ≤ 4 * needS s + 3 ∧ ((M.2 = 9 ∧ Was m s s.g.r (failS M.1 kp t a)) ∨ Now m s (nextR s word) (failS M.1 kp t a)) := by
  intro M
  have hM : Mays (planRt s (nextR s word)) := plan_mays h.sp.base hN h.sp.pgE hm
  obtain ⟨h1, h2, h3⟩ := cut_secs h.up h.row h.len h.sp.base hN (r := nextR s word) h.sp.pgE hm rfl cut kp t a
  refine ⟨h1, h2, ?_⟩
  rcases h3 with ⟨h4, h5⟩ | h5
  · rcases h5.cases h.rt hO hM rfl rfl with h6 | h6
    · exact .inl ⟨h4, h6⟩
    · exact .inr h6
  · exact .inr (h5.now h.rt hM rfl rfl)
end Go.Proofs.YthcnofdihigohaaGreat
end
section
/- What is opened behind a failure: without memory. -/
set_option maxRecDepth 20000
set_option linter.unusedSimpArgs false
namespace Go.Proofs.YthcnofdihigohaaGreat
open Go.RowKit

/-- A disk on which a state lies, opened. -/
structure Opn (m : Dsk) (st : St) (pg : Nat) : Prop where
  e : openE m = 0
  like : StLike (openS m).g st
  inv : Inv m (openS m) pg
  kp : (openS m).kp = st.tb
  fr : (openS m).fr = fun _ => none
theorem open_up {m : Dsk} {st : St} {pg : Nat} (hu : Up m (4 * pg)) (h4 : 4 ≤ pg) (hg : StGood st) (hpg : st.r.pg = (pg : Int)) (hl : LiesOn m.out st) (hr : RootIs m.out st.r) : Opn m st pg := by
  have hla : m.last = m.out := by unfold Dsk.last; rw [hu.row]; rfl
  have hln := hu.len
  obtain ⟨h1, h2, h3, h4, h5⟩ := open_lies hu.up (by omega) hg (by rw [hla]; exact hl) (by rw [hla]; exact hr)
  refine ⟨h1, h2, ⟨hu.up, hu.row, hu.fuse, hu.len, hu.ok, ⟨h2.good hg, by rw [h2.r]; exact hpg, h2.lies hl, fun l => ?_, fun l b e => ?_⟩, by rw [h2.r]; exact hr⟩, h3, h4⟩
  · rw [h3, h2.tb]; exact .inr rfl
  · rw [h4] at e; cases e
section
variable {m m2 : Dsk} {s : Sp} {pg : Nat} {x : Xv}
theorem us_two (h : SpGood s m.out pg) {p : Nat} (hp : usF s.g.r s.g.lv s.g.tb p = true) : 2 ≤ p := (usF_two h.g.mays.d0 h.g.okl h.g.okt h.g.ap hp).1
/-- The state as it was. -/
theorem Was.opn (h : Inv m s pg) (hu : Up m2 m.out.length) (hw : Was m s s.g.r m2) : Opn m2 s.g pg := by
  have hln := h.len
  refine open_up (by rw [← hln]; exact hu) h.sp.base.p4 h.sp.g h.sp.pgE (h.sp.lies.stay h.sp.g hw.len fun p hp => ?_) hw.rt
  exact hw.page p (us_two h.sp hp) (h.sp.heldU hp)
theorem Was.com (h : Inv m s pg) (hw : Was m s s.g.r m2) (l : Nat) : comS s m2.out l = comS s m.out l := by
  unfold comS
  by_cases h0 : s.g.tb l = 0
  · rw [if_pos h0, if_pos h0]
  · rw [if_neg h0, if_neg h0]
    have hl := (h.sp.tbLt l h0).1
    have hu : usF s.g.r s.g.lv s.g.tb (s.g.tb l) = true := usF_iff.2 ⟨h0, l + 5, by omega, lab_tb _ _ _ _⟩
    exact hw.page _ (us_two h.sp hu) (h.sp.heldU hu)
theorem Was.sim (h : Inv m s pg) (hu : Up m2 m.out.length) (hw : Was m s s.g.r m2) (hs : Sim s m.out x) : Sim (openS m2) m2.out x.abort := by
  have ho := hw.opn h hu
  refine ⟨fun l hl => ?_, fun l hl => ?_, fun l _ => by rw [ho.fr]; rfl, by rw [ho.like.r]; exact hs.word, by rw [ho.like.r]; exact hs.ep⟩
  · show x.com l = _
    rw [hs.com l hl, ← hw.com h l]; unfold comS; rw [ho.like.tb]
  · show x.com l = _
    rw [hs.com l hl, ← hw.com h l]; unfold comS nowS; rw [ho.fr, ho.kp]
/-- The new state. -/
theorem Now.opn (h : Inv m s pg) (hN : needS s ≤ (freeL s).length) (word : Int) (hm : may (nextR s word) = true) (hu : Up m2 m.out.length) (hw : Now m s (nextR s word) m2) : Opn m2 (commS s (nextR s word)).g pg := by
  have hln := h.len
  have hc := SpGood.comm (r := nextR s word) h.sp hN h.sp.pgE hm hw.len (fun p hp => hw.page p hp)
  exact open_up (by rw [← hln]; exact hu) h.sp.base.p4 hc.g hc.pgE hc.lies hw.rt
theorem Now.sim (h : Inv m s pg) (hN : needS s ≤ (freeL s).length) (word : Int) (hm : may (nextR s word) = true) (hu : Up m2 m.out.length) (hw : Now m s (nextR s word) m2) (hs : Sim s m.out x) : Sim (openS m2) m2.out (x.commit word) := by
  have ho := hw.opn h hN word hm hu
  exact (hs.comm h.sp hN word (L' := m2.out) (fun p hp => hw.page p hp)).like ho.like ho.kp ho.fr
/-- A state has a gap. -/
theorem nn_lt {f : Nat → Bool} : ∀ n, Bi.cnt f n < n → ∃ l, l < n ∧ f l = false
  | 0, h => by omega
  | n + 1, h => by
    have e : Bi.cnt f (n + 1) = Bi.cnt f n + (f n).toNat := rfl
    cases hf : f n
    · exact ⟨n, by omega, hf⟩
    · rw [hf] at e
      obtain ⟨l, hl, h2⟩ := nn_lt n (by rw [e] at h; simpa using h)
      exact ⟨l, by omega, h2⟩
theorem gapF_some {h : Nat → Bool} : ∀ (k i : Nat), gapF h k i = none → ∀ l, i ≤ l → l < i + k → h l = true
  | 0, i, _, l, h0, h1 => by omega
  | k + 1, i, e, l, h0, h1 => by
    unfold gapF at e
    by_cases hi : h i = true
    · rw [if_pos hi] at e
      by_cases hl : l = i
      · rw [hl]; exact hi
      · exact gapF_some k (i + 1) e l (by omega) (by omega)
    · rw [if_neg hi] at e; cases e
theorem Opn.gap {st : St} (h : Opn m st pg) (hx : Sim (openS m) m.out x) (hs : Secs128 m.out) : gapF (nn x.now) 512 0 ≠ none := by
  intro e
  have hp := h.inv.sp.pgs
  have ha := us_cnt h.inv.sp.g.ap h.inv.sp.g.mays.p1 h.inv.sp.g.mays.d0
  have hall : ∀ l, l < 512 → Tb.told (openS m).g.tb l = true := fun l hl => by
    have h1 := gapF_some 512 0 e l (by omega) (by omega)
    rw [hx.nnow h.inv.sp hs hl] at h1
    unfold isN at h1
    rw [h.fr, h.kp, ← h.like.tb] at h1
    simpa [Tb.told] using h1
  have h2 : Bi.cnt (Tb.told (openS m).g.tb) 512 = 512 := by
    have : ∀ n, n ≤ 512 → Bi.cnt (Tb.told (openS m).g.tb) n = n := fun n => by
      induction n with
      | zero => intro _; rfl
      | succ n ih =>
        intro hn
        show Bi.cnt _ n + (Tb.told _ n).toNat = _
        rw [ih (by omega), hall n (by omega)]; rfl
    exact this 512 (Nat.le_refl _)
  have h3 := Bi.cnt_le (usF (openS m).g.r (openS m).g.lv (openS m).g.tb) 512
  omega
end
end Go.Proofs.YthcnofdihigohaaGreat
end
section
/- A table that isn't there: what its calls tell. -/
set_option maxRecDepth 20000
set_option linter.unusedSimpArgs false
namespace Go.Proofs.YthcnofdihigohaaGreat.Tb
open Go.Proofs.YthcnofdihigohaaGreat.Bi
open Go.RowKit Go.Shelf
attribute [local go_sem] Oper.semAt_some

theorem copy_nil (w : World) : Calls Tryz.prog 72 #[.pointer none] w fun e w' => e = .returned (.pointer none) ∧ w = w' := by
  go_enter Tryz.func72, Tryz.ntmps72
  go_wp2_with fail
  go_ret
  exact ⟨rfl, rfl⟩
theorem reach_nil (x : Int) (w : World) : Calls Tryz.prog 107 #[.pointer none, .int .i64 x] w fun e w' => e = .returned (.bool false) ∧ w = w' := by
  go_enter Tryz.func107, Tryz.ntmps107
  go_wp2_with fail
  go_ret
  exact ⟨rfl, rfl⟩
theorem get_nil (x : Int) (w : World) : Calls Tryz.prog 64 #[.pointer none, .int .i64 x] w fun e w' => e = .returned (.tuple #[.int .i64 0, .bool false]) ∧ w = w' := by
  have HR := Lib.hid (reach_nil x)
  go_enter Tryz.func64, Tryz.ntmps64
  go_wp2_with (go_at_call 107; refine (HR.out _).mono ?_; rintro e w1 ⟨rfl, rfl⟩)
  go_ret2
  exact ⟨rfl, rfl⟩
theorem all_nil (w : World) :
    Calls Tryz.prog 103 #[.pointer none] w fun e w' => (∃ Bs, e = .returned (.func (.func 131) #[] #[.pointer (some ⟨Bs, 0, none⟩)]) ∧ w.heap.size ≤ Bs ∧ Bs < w'.heap.size ∧ w'.cell? ⟨Bs, 0, none⟩ = some (.pointer none)) ∧ Below w.heap.size w w' := by
  have HT := Lib.hid copy_nil
  go_enter Tryz.func103, Tryz.ntmps103
  go_wp2_with (go_at_call 72; refine (HT.out _).mono ?_; rintro e w7 ⟨rfl, rfl⟩)
  go_ret
  exact ⟨⟨w.heap.size, rfl, Nat.le_refl _, by simp, World.cell?_alloc_new w _ _ 0⟩, alloc_below w _⟩
set_option maxRecDepth 100000 in
set_option maxHeartbeats 2000000 in
theorem all1_nil (n : Nat) (hn : 1 ≤ n) (l Bs : Nat) (f : Nat → Nat) (J Jx : List Nat → World → Prop)
    (W : World) (hBs : W.cell? ⟨Bs, 0, none⟩ = some (.pointer none)) (h0 : J [] W) :
    CallsIn Fence.wide n Tryz.prog 131 #[.func (.yield l) #[] #[], .pointer (some ⟨Bs, 0, none⟩)] W fun e W' => (∃ v, e = .returned v) ∧
      ((∃ ys, ys = [] ∧ J ys W') ∨ (∃ pre, (∃ j, j ≤ 512 ∧ pre = mems (told f) j) ∧ Jx pre W')) := by
  have HBs := Lib.hid hBs
  have HG := Lib.hid get_nil
  clear hBs
  refine callsIn_of_wp Tryz.func131 rfl trivial ?_ rfl
  simp only [Tryz.ntmps131, List.size_toArray, List.length_cons, List.length_nil, Nat.reduceAdd, Nat.reduceSub, Array.replicate_succ, Array.replicate_zero, List.push_toArray, List.append_toArray, List.nil_append, List.cons_append]
  gi_wp2
  gi_loopw [6] (fun i wr => ∃ s : Nat, s ≤ 512 ∧ i = .int .i64 (s : Int) ∧ W = wr)
    (fun i _ => 512 - (RowKit.intOf i).toNat)
  case atStart => exact ⟨0, Nat.zero_le _, rfl, rfl⟩
  case round =>
    obtain ⟨s, hs, rfl, rfl⟩ := hrel
    by_cases hlt : s < 512
    · have hd : decide ((s : Int) < 512) = true := decide_eq_true (by omega)
      have hb := HBs.out
      have hz : (s : Int) ≤ 512 := by omega
      have HL := Lib.hid hlt
      clear hlt hs
      gi_wp2_with (refine ⟨trivial, ?_⟩; gi_at_call 64; refine (callsIn_wide.2 (HG.out _ _)).mono ?_; rintro e w' ⟨rfl, rfl⟩)
      refine ⟨fun _ h => (by cases h), ?_⟩
      gi_wp2
      go_roundw
      case rel => exact ⟨s + 1, by have := HL.out; omega, by go_num, by first | rfl | trivial⟩
      case measure => have := HL.out; simp [RowKit.intOf]; omega
    · have hd : decide ((s : Int) < 512) = false := decide_eq_false (by omega)
      clear hlt hs
      gi_wp2
      go_end0
      exact ⟨⟨_, rfl⟩, .inl ⟨_, rfl, h0⟩⟩
/-- One block lies as it lay. -/
def One (x : Nat) (A B : World) : Prop := B.heap[x]? = A.heap[x]?
set_option maxRecDepth 100000 in
set_option maxHeartbeats 2000000 in
theorem len_nil (w : World) :
    Calls Tryz.prog 62 #[.pointer none] w fun e w' => e = .returned (.int .i64 0) ∧ Below w.heap.size w w' := by
  have HT := Lib.hid all_nil
  refine (callsIn_wide (n := 5)).1 ?_
  refine callsIn_of_wp_marks Tryz.func62 rfl trivial ?_ rfl
  simp only [Tryz.ntmps62, List.size_toArray, List.length_cons, List.length_nil, Nat.reduceAdd, Nat.reduceSub, Array.replicate_succ, Array.replicate_zero, List.push_toArray, List.append_toArray, List.nil_append, List.cons_append]
  gi_wp2_with (refine ⟨trivial, ?_⟩; gi_at_call 103; refine (callsIn_wide.2 (HT.out _)).mono ?_; rintro e w7 ⟨⟨Bs, rfl, t1, t2, t3⟩, hb⟩)
  have hbB : Below w.heap.size w w7 := ((Below.refl _ _).alloc (Nat.le_refl _) (.cells #[.int .i64 0] 3)).trans (hb.mono (by simp))
  have hbx : Bx w7 w.heap.size 0 := ⟨(hb.cell (p := ⟨w.heap.size, 0, none⟩) (by simp)).trans (World.cell?_alloc_new w _ _ 0), (World.frozen?_of_block (hb.block w.heap.size (by simp))).trans (free_of_one (heap_alloc_new w _))⟩
  have hsz : w.heap.size < w7.heap.size := by have := hb.size; simp at this; omega
  have n1 : Bs ≠ w.heap.size := by simp at t1; omega
  refine wpIn_rangeFunc_ownG rfl (by omega) (gf := 131) (lb := #[.pointer (some ⟨Bs, 0, none⟩)]) rfl trivial (enters_of Tryz.func131 (by kernel_rfl) rfl)
    (show SeqStopsK Fence.wide 4 Tryz.prog 131 #[.pointer (some ⟨Bs, 0, none⟩)] (tell fun _ => 0) (Two Bs Bs) (fun ys => ys = ([] : List Nat)) (fun pre => ∃ j, j ≤ 512 ∧ pre = mems (told fun _ => 0) j) 513 w7 from fun l J Jx W hW _ _ hY h0 => all1_nil 4 (by omega) l Bs (fun _ => 0) J Jx W ((hW.cell (p := ⟨Bs, 0, none⟩) t2).trans t3) h0) Two.trans (Two.put t2 t2) (Below.refl _ _) (fun _ => rfl)
    (fun pre W => Bx W w.heap.size (pre.length : Int) ∧ Below w.heap.size w W)
    (fun _ _ _ => False)
    (OwnFrom.and (Own.from (Bx.own (fun pre => (pre.length : Int))) _) (ownFrom_below (by omega) (by omega)))
    (fun c => ownFrom_pure _ _)
    ⟨hbx, hbB⟩
    (fun x => { tmps := #[.pointer none, undef, .int .i64 0, .pointer (some ⟨w.heap.size, 0, none⟩), .pointer none, .func (.func 131) #[] #[.pointer (some ⟨Bs, 0, none⟩)], .int .i64 (x : Int), .int .i64 0, undef, undef, undef], defers := [] }) ?assign ?body ?done ?stop
  case assign =>
    intro l x W K hK
    unfold tell
    gi_wp2
    first
      | exact hK
      | (simp; exact hK)
  case body =>
    rintro l pre x W ⟨hbx2, hB2⟩ hlen
    have hc := hbx2.cell
    have hf := hbx2.fz
    have hb1 : (pre.length : Int) ≤ 512 := by omega
    have hb0 : (0 : Int) ≤ (pre.length : Int) := by omega
    have HTS : Hid (((pre ++ [x]).length : Int) = (pre.length : Int) + 1) := Lib.hid (by rw [List.length_append]; simp)
    have HB2 := Lib.hid hB2
    clear hbx2 hB2 hlen
    generalize pre.length = tp at *
    gi_wp2
    refine ⟨(KeepsOthers.setCell _ _ _).from _, Two.setCell n1 n1 _ _, ⟨?_, ?_⟩, HB2.out.setCell (p := ⟨w.heap.size, 0, none⟩) (Nat.le_refl _) _⟩
    · rw [HTS.out]; exact World.cell?_setCell_same' _ _ _ (by rw [hc]; rfl)
    · rw [World.frozen?_setCell]; exact hf
  case done =>
    rintro D ys W hD rfl ⟨hbx2, hB2⟩ hK
    have hc : W.cell? ⟨w.heap.size, 0, none⟩ = some (.int .i64 0) := hbx2.cell
    clear hbx2
    have HB2 := Lib.hid (hB2.trans (belowK_b (w := w) (Nat.le_refl _) W D _ (.deferred none) (by omega) hK rfl rfl))
    have HK := Lib.hid hK
    clear hB2 hK
    gi_wp2
    refine ⟨by simp, .inl ⟨_, _, rfl, run_takeDeferred HK.out, ?_⟩⟩
    refine ⟨.int .i64 0, ?_, rfl, HB2.out⟩
    simp [results, Tryz.f62, go_sem]
  case stop =>
    rintro D cd pre W hD _ hf hK
    exact hf.elim
end Go.Proofs.YthcnofdihigohaaGreat.Tb
end
section
/- A space that is gone: what its calls tell; the commit that may be cut, told with what it leaves. -/
set_option maxRecDepth 20000
set_option linter.unusedSimpArgs false
namespace Go.Proofs.YthcnofdihigohaaGreat
open Go.RowKit

theorem Gone.below {w w' : World} {g : Nat} (h : Gone w g) (hb : Below w.heap.size w w') : Gone w' g := (hb.block g (lt_of_block h)).trans h
section
variable {w : World} {g : Nat}
theorem alloc_gone (h : Gone w g) : Calls Tryz.prog 25 #[.pointer (some ⟨g, 0, none⟩)] w fun e w' => e = .returned (.tuple #[.int .i64 0, .int .i64 9]) ∧ w = w' := by
  have HR := Lib.hid (refusal_gone h)
  clear h
  go_enter Tryz.func25, Tryz.ntmps25
  go_wp2_with (go_at_call 48; refine HR.out.mono ?_; rintro e w7 ⟨rfl, rfl⟩)
  go_ret2
  exact ⟨rfl, rfl⟩
theorem held_gone (h : Gone w g) : Calls Tryz.prog 12 #[.pointer (some ⟨g, 0, none⟩)] w fun e w' => e = .returned (.pointer none) ∧ w = w' := by
  have HR := Lib.hid (refusal_gone h)
  clear h
  go_enter Tryz.func12, Tryz.ntmps12
  go_wp2_with (go_at_call 48; refine HR.out.mono ?_; rintro e w7 ⟨rfl, rfl⟩)
  go_ret
  exact ⟨rfl, rfl⟩
theorem len_gone (h : Gone w g) : Calls Tryz.prog 26 #[.pointer (some ⟨g, 0, none⟩)] w fun e w' => e = .returned (.int .i64 0) ∧ Below w.heap.size w w' := by
  have l12 : ∀ t : In w, t.1.cell? ⟨g, 12, none⟩ = some (.pointer none) := fun t => by rw [cell_of_row _ _ _ _ _ _ (h.below t.2)]; rfl
  have l13 : ∀ t : In w, t.1.cell? ⟨g, 13, none⟩ = some (.map none) := fun t => by rw [cell_of_row _ _ _ _ _ _ (h.below t.2)]; rfl
  have HL : Hid (∀ t : In w, Calls Tryz.prog 62 #[.pointer none] t.1 fun e w' => e = .returned (.int .i64 0) ∧ Below t.1.heap.size t.1 w') := Lib.hid fun t => Tb.len_nil t.1
  have hLen : ∀ (t : In w) (ty : TypeId), (Builtin.len_ #[82] ty #[.map none]).run Tryz.prog t.1 = .ok (.int .i64 0) t.1 := fun t ty => rfl
  clear h
  go_enter Tryz.func26, Tryz.ntmps26
  have hne := In.some w
  go_upto_region 3 with fail
  refine region_in w (by kernel_rfl) (by kernel_rfl) (Below.refl _ _) ?_
  repeat (go_big_quiet_step ((go_at_call 62; exact Calls.quiet_in (HL.out _))))
  refine wpQuiet_nil ?_
  intro w12 hw'
  have hb12 : Below w.heap.size w w12 := by
    obtain ⟨⟨wz, hbz⟩, hw''⟩ := hw'
    subst hw''
    exact hbz
  clear hw'
  go_wp2_with fail
  go_ret
  exact ⟨by simp, hb12⟩
end
end Go.Proofs.YthcnofdihigohaaGreat
end
section
/- The commit that may be cut, and what is opened behind a failure. -/
set_option maxRecDepth 20000
set_option linter.unusedSimpArgs false
namespace Go.Proofs.YthcnofdihigohaaGreat
open Go.RowKit

/-- The disk has a fuse, else all is at rest; the document's space lies there. -/
structure Fux (b : Nat) (w : World) (d g X : Nat) (m : Dsk) (s : Sp) (pg : Nat) (x : Xv) (cut : Int) : Prop where
  fus : Fus b w d g m s pg cut
  xb : Xb w X x
  xge : b ≤ X
section
variable {b : Nat} {w : World} {d g X : Nat} {m : Dsk} {s : Sp} {pg : Nat} {x y : Xv} {k : Nat}
theorem fuse_fux (h : Duo b w d g X m s pg x y k) (cut : Int) (h0 : 0 ≤ cut) (h1 : cut ≤ 9223372036854775807) :
    Calls Tryz.prog 23 #[.pointer (some ⟨d, 0, none⟩), .int .i64 cut] w fun e w' => e = .returned (.tuple #[]) ∧ Fux b w' d g X m s pg x cut ∧ Below b w w' := by
  obtain ⟨F, G, hD, hS, hge⟩ := h.mem
  have hD0 := hD
  obtain ⟨bO, cO, bL, cL, vW, os, ls, ws, hD, rfl⟩ := hD
  have a1 := h.k
  have a2 := h.dn
  have a3 := h.ep
  refine (fuse_any hD cut (by omega) h1).mono ?_
  rintro e w' ⟨rfl, hD1, hc⟩
  have hgeF : ∀ j ∈ foot d bO bL vW, b ≤ j := fun j hj => hge j (List.mem_append_left _ hj)
  obtain ⟨cs, hx, _⟩ := h.xb.box
  exact ⟨rfl, ⟨⟨⟨foot d bO bL vW, G, ⟨_, _, _, _, _, _, _, _, hD1, rfl⟩, hS.stay hc hD0.typed.kin (apart_of' hD0.typed hS), hge⟩, h.inv, by omega, ⟨a3.1, by omega⟩, Nat.le_trans h.bl hc.size⟩, h.xb.same ((hc.keep hD0.typed hx (by decide)).trans hx.symm), h.xge⟩, hc.belowB hgeF h.bl⟩
theorem Fux.below {cut : Int} (h : Fux b w d g X m s pg x cut) {w' : World} (hb : Below w.heap.size w w') : Fux b w' d g X m s pg x cut := ⟨h.fus.below hb, h.xb.below hb, h.xge⟩
theorem need_fux {cut : Int} (h : Fux b w d g X m s pg x cut) : Calls Tryz.prog 17 #[.pointer (some ⟨g, 0, none⟩)] w fun e w' => e = .returned (.int .i64 (needS s : Int)) ∧ Below w.heap.size w w' := by
  obtain ⟨F, G, hD, ⟨pt, pk, mb, pu, po, hS, rfl⟩, hge⟩ := h.fus.mem
  exact need_any hS
theorem free_fux {cut : Int} (h : Fux b w d g X m s pg x cut) : Calls Tryz.prog 20 #[.pointer (some ⟨g, 0, none⟩)] w fun e w' => e = .returned (.int .i64 ((freeL s).length : Int)) ∧ Below w.heap.size w w' := by
  obtain ⟨F, G, hD, ⟨pt, pk, mb, pu, po, hS, rfl⟩, hge⟩ := h.fus.mem
  exact Free_any hS pg h.fus.inv.sp.pgE h.fus.inv.pgle.2
/-- The disk behind a commit that was cut, or not; the document's space; the space, gone. -/
structure Cutd (b : Nat) (w : World) (d g X : Nat) (x : Xv) (M : Dsk × Int) : Prop where
  mem : ∃ F, Dk w d F M.1 ∧ ∀ k ∈ F, b ≤ k
  xb : Xb w X x
  xge : b ≤ X
  gone : M.2 ≠ 0 → Gone w g
  bl : b ≤ w.heap.size
theorem Cutd.below {M : Dsk × Int} (h : Cutd b w d g X x M) {w' : World} (hb : Below w.heap.size w w') : Cutd b w' d g X x M := by
  obtain ⟨F, hD, hge⟩ := h.mem
  exact ⟨⟨F, hD.below hb, hge⟩, h.xb.below hb, h.xge, fun e => (h.gone e).below hb, Nat.le_trans h.bl hb.size⟩
def cutM (s : Sp) (m : Dsk) (cut word : Int) : Dsk × Int := layM (fuseM m cut) (plW s (nextR s word)) (planRt s (nextR s word))
theorem commit_fux {cut : Int} (h : Fux b w d g X m s pg x cut) (word : Int) (hw : 0 ≤ word ∧ word ≤ 2147483647) :
    Calls Tryz.prog 24 #[.pointer (some ⟨g, 0, none⟩), .int .i64 word] w fun e w' =>
      ∃ E, e = .returned (.int .i64 E) ∧ (((freeL s).length < needS s ∧ E = 8 ∧ Fux b w' d g X m s pg x cut) ∨ (needS s ≤ (freeL s).length ∧ E = (cutM s m cut word).2 ∧ Cutd b w' d g X x (cutM s m cut word))) ∧ Below b w w' := by
  obtain ⟨F, G, hD, hS, hge⟩ := h.fus.mem
  obtain ⟨pt, pk, mb, pu, po, hS, rfl⟩ := hS
  have hI := h.fus.inv
  have hep := h.fus.ep
  have hdn := h.fus.dn
  have hmw := may_word hI ⟨hep.1, by omega⟩ word
  have hpg := hI.pgle
  have hpgE := hI.sp.pgE
  have he1 : -9223372036854775808 ≤ s.g.r.ep ∧ s.g.r.ep ≤ 4611686018427387904 := ⟨by have := hep.1; omega, by have := hep.2; omega⟩
  have hm : may (nextR s word) = true := by rw [hmw, decide_eq_true hw.1, decide_eq_true hw.2]; rfl
  by_cases hf : (freeL s).length < needS s
  · refine (commit_full hS word he1 hm pg hpgE hpg.2 hf).mono ?_
    rintro e w' ⟨rfl, hb⟩
    exact ⟨_, rfl, .inl ⟨hf, rfl, h.below hb⟩, hb.mono h.fus.bl⟩
  · have hN : needS s ≤ (freeL s).length := Nat.le_of_not_lt hf
    have hB := hI.sp.base
    have hnl := need_le s
    have hpl := plW_len s (nextR s word)
    have hln := hI.len
    have hp4 := hB.p4
    have hM : Mays (planRt s (nextR s word)) := plan_mays hB hN hpgE hm
    have hr0 : (fuseM m cut).row.length = 0 := by show m.row.length = 0; rw [hI.row]; rfl
    refine (commit_go hS hD word he1 hm pg hpgE hpg.2 hN (fun k hk => ?_) (by omega) hM (by show _ ≤ (m.out.length : Int); omega) (by show m.done ≤ _; omega) (by omega)).mono ?_
    · have h1 := plW_ok hB hN (nextR s word) (getD_memP hk)
      exact ⟨h1.1, h1.2.1, by have := h1.2.2; omega⟩
    · rintro e w' ⟨rfl, F', G', hD', hC, hR⟩
      have hgeF' : ∀ j ∈ F', b ≤ j := fun j hj => hC.ge hge h.fus.bl j (List.mem_append_left _ hj)
      refine ⟨_, rfl, .inr ⟨hN, rfl, ⟨⟨F', hD', hgeF'⟩, h.xb.chg hD ⟨pt, pk, mb, pu, po, hS, rfl⟩ hC, h.xge, fun h0 => ?_, Nat.le_trans h.fus.bl hC.size⟩⟩, hC.belowB hge h.fus.bl⟩
      rcases hR with ⟨_, _, hg⟩ | ⟨h1, _⟩
      · exact hg
      · exact absurd h1 h0
/-- The law's fail, over a disk behind a cut. -/
theorem fail_cut {M : Dsk × Int} (h : Cutd b w d g X x M) (hl : M.1.row.length ≤ 4611686018427387904) (p : Option Addr) (nk ck : Nat) (f : Nat → Bool) (hK : Kp w p nk f) (hO : 0 < nk → ∃ B o, p = some ⟨B, o, none⟩ ∧ B < b) (hnk : nk ≤ 9223372036854775807) (fuse torn at_ : Int) :
    Calls Tryz.prog 27 #[.pointer (some ⟨d, 0, none⟩), .agg #[.int .i64 fuse, .int .i64 torn, .int .i64 at_, .slice p nk ck]] w fun e w' => e = .returned (.tuple #[]) ∧ Cutd b w' d g X x (failS M.1 (keepB nk f) torn at_, 0) ∧ Below b w w' := by
  obtain ⟨F, hD, hge⟩ := h.mem
  have hD0 := hD
  obtain ⟨bO, cO, bL, cL, vW, os, ls, ws, hD, rfl⟩ := hD
  refine (failL_any hD hl p nk ck f hK (fun hn B o e hm => ?_) hnk fuse torn at_).mono ?_
  · obtain ⟨B', o', e', hlt⟩ := hO hn
    rw [e] at e'
    cases e'
    exact absurd (hge B hm) (by omega)
  · rintro e w' ⟨rfl, F', hD', hc⟩
    obtain ⟨cs, hx, _⟩ := h.xb.box
    exact ⟨rfl, ⟨⟨F', hD', hc.ge hge h.bl⟩, h.xb.same ((hc.keep hD0.typed hx (by decide)).trans hx.symm), h.xge, fun e => absurd rfl e, Nat.le_trans h.bl hc.size⟩, hc.belowB hge h.bl⟩
/-- What is opened behind it. -/
theorem open_cut {m2 : Dsk} {e2 : Int} {st : St} (h : Cutd b w d g X x (m2, e2)) (ho : Opn m2 st pg) (hdn : m2.done ≤ 250000) (hep : 0 ≤ st.r.ep ∧ st.r.ep ≤ 100) (hy : Sim (openS m2) m2.out y) :
    Calls Tryz.prog 28 #[.pointer (some ⟨d, 0, none⟩)] w fun e w' => ∃ g', e = .returned (.tuple #[.pointer (some ⟨g', 0, none⟩), .int .i64 0]) ∧ Duo b w' d g' X m2 (openS m2) pg x y 100 ∧ Below b w w' := by
  obtain ⟨F, hD, hge⟩ := h.mem
  have hp := ho.inv.pgle
  have hl := ho.inv.len
  refine (open_sp hD ho.inv.up (by show m2.out.length ≤ 2048; omega)).mono ?_
  rintro e w' ⟨hh, hb⟩
  rcases hh with ⟨hn, _⟩ | ⟨_, g', G', rfl, hs, hG'⟩
  · exact absurd ho.e hn
  · refine ⟨g', rfl, ⟨⟨F, G', hD.below hb, hs, fun j hj => (List.mem_append.1 hj).elim (hge j) (fun hm => Nat.le_trans h.bl (hG' j hm))⟩, h.xb.below hb, h.xge, ho.inv, hy, by omega, by rw [ho.like.r]; exact ⟨hep.1, by omega⟩, fun hk => absurd hk (by omega), by omega, Nat.le_trans h.bl hb.size, od_open ho.inv.len⟩, hb.mono h.bl⟩
theorem epoch_y (h : Duo b w d g X m s pg x y k) : Calls Tryz.prog 15 #[.pointer (some ⟨g, 0, none⟩)] w fun e w' => e = .returned (.int .i64 y.ep) ∧ Below w.heap.size w w' := by
  obtain ⟨F, pt, pk, mb, pu, po, hD, hS, hF, hG⟩ := h.parts
  rw [h.sim.ep]; exact epoch_any hS
theorem word_y (h : Duo b w d g X m s pg x y k) : Calls Tryz.prog 14 #[.pointer (some ⟨g, 0, none⟩)] w fun e w' => e = .returned (.int .i64 y.word) ∧ Below w.heap.size w w' := by
  obtain ⟨F, pt, pk, mb, pu, po, hD, hS, hF, hG⟩ := h.parts
  rw [h.sim.word]; exact word_any hS
theorem alloc_ok (h : Duo b w d g X m s pg x y k) (hg : gapF (nn y.now) 512 0 ≠ none) :
    Calls Tryz.prog 25 #[.pointer (some ⟨g, 0, none⟩)] w fun e w' => ∃ (l : Nat) (s' : Sp), e = .returned (.tuple #[.int .i64 (l : Int), .int .i64 0]) ∧ l < 512 ∧ Duo b w' d g X m s' pg x (y.put l zs512) k ∧ Below b w w' :=
  (alloc_duo h).mono fun e w' ⟨hh, hb, _⟩ => by
    rcases hh with ⟨l, _, hl, he, s', hd⟩ | ⟨hn, _⟩
    · exact ⟨l, s', he, hl, hd, hb⟩
    · exact absurd hn hg
theorem cmt_ok (h : Duo b w d g X m s pg x y k) (hk : k + 1 ≤ 1000) (hN : needS s ≤ (freeL s).length) (word : Int) (hw : 0 ≤ word ∧ word ≤ 2147483647) :
    Calls Tryz.prog 24 #[.pointer (some ⟨g, 0, none⟩), .int .i64 word] w fun e w' => e = .returned (.int .i64 0) ∧ (∃ m' s', Duo b w' d g X m' s' pg x (y.commit word) (k + 1)) ∧ Below b w w' :=
  (cmt_duo h hk word).mono fun e w' ⟨⟨E, he, hc, _, h2⟩, hb⟩ => by
    rcases hc with ⟨h1, _⟩ | ⟨_, h1, _⟩ | ⟨_, _, h1⟩
    · exact absurd hw h1
    · exact absurd h1 (by omega)
    · subst h1
      obtain ⟨m', hd⟩ := h2 rfl
      exact ⟨he, ⟨m', _, hd⟩, hb⟩
theorem read_ok (h : Duo b w d g X m s pg x y k) (l : Nat) (hl : l < 512) {c : List Nat} (hc : y.now l = c) (hn : c ≠ []) :
    Calls Tryz.prog 31 #[.pointer (some ⟨g, 0, none⟩), .int .i64 (l : Int)] w fun e w' => e = .returned (.tuple #[.string (strB c), .int .i64 0]) ∧ Below w.heap.size w w' :=
  (read_duo h (l : Int) (by omega) (by omega)).mono fun e w' ⟨he, hb⟩ => by
    have ht : thX y.now (l : Int) = true := by
      rw [th_nat hl]; unfold nn; rw [hc]
      cases c with
      | nil => exact absurd rfl hn
      | cons a c => rfl
    rw [if_pos ht, Int.toNat_natCast, hc] at he
    exact ⟨he, hb⟩
end
/-- A failure by value, in its box. -/
structure FlB (w : World) (g : Nat) (fu tn at_ : Int) (v : Value) : Prop where
  box : w.heap[g]? = some (.cells #[.int .i64 fu, .int .i64 tn, .int .i64 at_, v] 49 (0, 0))
section
variable {w : World} {g : Nat} {fu tn at_ : Int} {v : Value}
theorem FlB.c0 (h : FlB w g fu tn at_ v) : w.cell? ⟨g, 0, none⟩ = some (.int .i64 fu) := by rw [cell_of_row _ _ _ _ _ _ h.box]; rfl
theorem FlB.c1 (h : FlB w g fu tn at_ v) : w.cell? ⟨g, 1, none⟩ = some (.int .i64 tn) := by rw [cell_of_row _ _ _ _ _ _ h.box]; rfl
theorem FlB.c2 (h : FlB w g fu tn at_ v) : w.cell? ⟨g, 2, none⟩ = some (.int .i64 at_) := by rw [cell_of_row _ _ _ _ _ _ h.box]; rfl
theorem FlB.c3 (h : FlB w g fu tn at_ v) : w.cell? ⟨g, 3, none⟩ = some v := by rw [cell_of_row _ _ _ _ _ _ h.box]; rfl
theorem FlB.below (h : FlB w g fu tn at_ v) {b : Nat} {w' : World} (hb : Below b w w') (hg : g < b) : FlB w' g fu tn at_ v := ⟨(hb.block g hg).trans h.box⟩
end
end Go.Proofs.YthcnofdihigohaaGreat
end
