/- Texts QGood to XFmt of this seat, laid into one. -/
import Derived.Deep.RegionHeldLaw
import Derived.Test.YthcnofdihigohaaGreatM14
import Derived.Test.YthcnofdihigohaaGreatM17
section
/- A space whose state lies on the disk; behind a commit it lies there again: without memory. -/
set_option maxRecDepth 20000
set_option linter.unusedSimpArgs false
namespace Go.Proofs.YthcnofdihigohaaGreat
open Go.RowKit

/-- The old leaves lie on these sectors. -/
def OldLv (L : List (List Nat)) (s : Sp) : Prop := ∀ i, i < 4 → s.g.lv i ≠ 0 → pageB L (s.g.lv i) = Tb.fours (Tb.leafF s.g.tb i) 128
section
variable {s : Sp} {pg : Nat} {L : List (List Nat)}
theorem held_stay (hB : Base s pg) (hN : needS s ≤ (freeL s).length) (r : Rt) {p : Nat} (hp : heldS s p = true) : pageB (wrP L (plW s r)) p = pageB L p :=
  wrP_other _ _ _ (fun x hx e => by
    have h1 := ((free_mem hB).1 (plW_page hN hx)).2.2
    rw [e, hp] at h1; cases h1)
theorem plan_lies (hB : Base s pg) (hN : needS s ≤ (freeL s).length) {r : Rt} (hr : r.pg = (pg : Int)) (hm : may r = true) (hn : 4 * pg ≤ L.length) (hO : OldLv L s) :
    LiesOn (wrP L (plW s r)) ⟨planRt s r, plL s, plT s, some (plU s r)⟩ := by
  have hat : ∀ x ∈ plW s r, pageB (wrP L (plW s r)) x.1 = x.2 := fun x hx => by
    have h1 := plW_ok hB hN r hx
    exact wrP_at L _ (plW_nodup hN r) x hx (by omega) h1.1
  refine ⟨?_, ?_, fun i hi h0 => ?_⟩
  · rw [wrP_len]
    show 4 * r.pg ≤ _
    omega
  · show pageB _ ((plD s : Int)).toNat = _
    rw [Int.toNat_natCast, hat _ (plW_dir s r), dirO_eq hB hN, plU_eq hB hN hr hm]
  · show pageB _ (plL s i) = Tb.fours (Tb.leafF (plT s) i) 128
    cases h : movB s i
    · have hb : Tb.bareB (plT s) i = false := by
        cases e : Tb.bareB (plT s) i
        · rfl
        · exact absurd ((plan_bare hB hN i hi).2 e) h0
      have e : plL s i = s.g.lv i := by rw [plL_not s hi h, if_neg (by rw [hb]; simp)]
      have h1 : s.g.lv i ≠ 0 := by rw [← e]; exact h0
      have h2 := hB.held (i + 1) (by omega)
      rw [lab_lv _ _ _ _ hi] at h2
      rw [e, held_stay hB hN r (h2 h1), hO i hi h1]
      exact Tb.fours_congr fun k hk => (leaf_same hB h hb k hk).symm
    · obtain ⟨t, ht, e⟩ := movL_at s hi h
      have h1 := plL_mov s ht
      have h2 := hat _ (plW_leaf s r ht)
      rw [e] at h1 h2
      rw [h1]; exact h2
/-- What a logical page has on the disk behind a commit. -/
theorem plan_data (hB : Base s pg) (hN : needS s ≤ (freeL s).length) (r : Rt) (hn : 4 * pg ≤ L.length) (l : Nat) :
    (∀ b, s.fr l = some b → plT s l ≠ 0 ∧ pageB (wrP L (plW s r)) (plT s l) = b) ∧ (s.fr l = none → plT s l = s.kp l ∧ (s.kp l ≠ 0 → pageB (wrP L (plW s r)) (s.kp l) = pageB L (s.kp l))) := by
  constructor
  · intro b hb
    have hl := (hB.ex l b hb).2.1
    have hk : l ∈ s.fr.keys := Pgs.mem_keys.2 ⟨hl, by rw [hb]; rfl⟩
    obtain ⟨j, hj, e⟩ := mem_getD hk
    have h1 := plT_key s hj
    have h2 := plW_key s r hj
    rw [e] at h1 h2
    rw [hb] at h2
    have h3 := plW_ok hB hN r h2
    have h4 := wrP_at L _ (plW_nodup hN r) _ h2 (by have := h3.2.2; omega) h3.1
    have h5 := free_two hB (j := j) (by unfold needS at hN; omega)
    rw [h1]
    exact ⟨by omega, h4⟩
  · intro hb
    have hk : l ∉ s.fr.keys := fun h => by obtain ⟨b, h⟩ := key_at h; rw [hb] at h; cases h
    refine ⟨plT_not s hk, fun h0 => held_stay hB hN r ?_⟩
    have hl : l < 512 := by
      rcases Nat.lt_or_ge l 512 with h | h
      · exact h
      · exact absurd (hB.hi l h) h0
    have h1 := hB.held (l + 5) (by omega)
    rw [lab_tb] at h1
    exact h1 h0
end
/-- A space whose state lies on these sectors, and what has changed since. -/
structure SpGood (s : Sp) (L : List (List Nat)) (pg : Nat) : Prop where
  g : StGood s.g
  pgE : s.g.r.pg = (pg : Int)
  lies : LiesOn L s.g
  kp : ∀ l, s.kp l = 0 ∨ s.kp l = s.g.tb l
  ex : ∀ l b, s.fr l = some b → s.kp l = 0 ∧ l < 512 ∧ b.length = 512 ∧ ∀ x ∈ b, x < 256
section
variable {s : Sp} {pg : Nat} {L : List (List Nat)}
theorem SpGood.heldU (h : SpGood s L pg) {p : Nat} (hp : usF s.g.r s.g.lv s.g.tb p = true) : heldS s p = true := by
  unfold heldS orB
  rw [h.g.us]
  simp [hp]
theorem SpGood.labs (h : SpGood s L pg) (n : Nat) (h0 : lab ⟨0, 0, 0, 0⟩ s.g.lv s.kp n ≠ 0) : lab ⟨0, 0, 0, 0⟩ s.g.lv s.kp n = lab s.g.r s.g.lv s.g.tb n := by
  unfold lab at h0 ⊢
  by_cases h1 : n = 0
  · rw [if_pos h1] at h0; exact absurd rfl h0
  · rw [if_neg h1] at h0 ⊢
    rw [if_neg h1]
    by_cases h2 : n < 5
    · rw [if_pos h2, if_pos h2]
    · rw [if_neg h2] at h0 ⊢
      rw [if_neg h2]
      exact (h.kp (n - 5)).resolve_left h0
theorem SpGood.pgs (h : SpGood s L pg) : 4 ≤ pg ∧ pg ≤ 512 ∧ 4 * pg ≤ L.length := by
  have h1 := h.g.mays
  have h2 := h1.p0
  have h3 := h1.p1
  have h4 := h.pgE
  have h5 := h.lies.len
  omega
theorem SpGood.base (h : SpGood s L pg) : Base s pg := by
  have hp := h.pgs
  refine ⟨h.pgE, hp.1, hp.2.1, ⟨fun n hn h0 => ?_, fun n hn k hk h0 e => ?_⟩, fun n hn h0 => ?_, fun l => ?_, h.g.okl, fun i hi hb h0 => ?_, h.ex, fun l hl => ?_⟩
  · have e := h.labs n h0
    rw [e] at h0 ⊢
    rw [← h.pgE]
    exact h.g.ap.lt n hn h0
  · have e2 := h.labs n h0
    have e3 := h.labs k (by rw [← e]; exact h0)
    rw [e2] at h0
    rw [e2, e3] at e
    exact h.g.ap.inj n hn k hk h0 e
  · have e := h.labs n h0
    rw [e] at h0 ⊢
    exact h.heldU (usF_iff.2 ⟨h0, n, hn, rfl⟩)
  · rcases h.kp l with e | e
    · rw [e]; rfl
    · rw [e]; exact h.g.okt l
  · rw [(h.g.bare i hi).1 h0] at hb; cases hb
  · rcases h.kp l with e | e
    · exact e
    · rw [e]; exact h.g.hi l hl
/-- Behind a commit. -/
theorem SpGood.comm (h : SpGood s L pg) (hN : needS s ≤ (freeL s).length) {r : Rt} (hr : r.pg = (pg : Int)) (hm : may r = true) {L' : List (List Nat)} (hL : L'.length = L.length) (hs : ∀ p, 2 ≤ p → pageB L' p = pageB (wrP L (plW s r)) p) : SpGood (commS s r) L' pg := by
  have hB := h.base
  have hg := plan_good hB hN hr hm
  have hl := plan_lies hB hN hr hm h.pgs.2.2 h.lies.leaf
  refine ⟨hg, hr, hl.stay hg (by rw [hL, wrP_len]) (fun p hp => hs p ?_), fun l => .inr rfl, fun l b e => by cases e⟩
  obtain ⟨h0, n, hn, e⟩ := usF_iff.1 hp
  have e : lab (planRt s r) (plL s) (plT s) n = p := e
  have h1 := lab_src hB r n hn
  rw [e] at h1
  rcases h1 with h1 | h1 | ⟨j, hj, h1⟩
  · omega
  · have h2 := hB.okl
    have h3 := hB.okk
    rw [h1] at h0 ⊢
    unfold lab at h0 ⊢
    by_cases e0 : n = 0
    · rw [if_pos e0] at h0; exact absurd rfl h0
    · rw [if_neg e0] at h0 ⊢
      by_cases e5 : n < 5
      · rw [if_pos e5] at h0 ⊢
        have := h2 (n - 1) (by omega)
        unfold Tb.pgN at this
        simp at this; omega
      · rw [if_neg e5] at h0 ⊢
        have := h3 (n - 5)
        unfold Tb.pgN at this
        simp at this; omega
  · rw [h1]; exact (free_two hB (idx_lt hN hj)).1
end
end Go.Proofs.YthcnofdihigohaaGreat
end
section
/- The root that counts, and a space over a disk: without memory. -/
set_option maxRecDepth 20000
set_option linter.unusedSimpArgs false
namespace Go.Proofs.YthcnofdihigohaaGreat
open Go.RowKit

/-- This root's block lies at its place, and the other block does not come behind it. -/
structure RootIs (L : List (List Nat)) (r : Rt) : Prop where
  mays : Mays r
  b0 : (sec L 0).length = 128
  b4 : (sec L 4).length = 128
  at_ : sec L (if r.ep % 2 = 1 then 4 else 0) = block r
  oth : ∀ k, k = (if r.ep % 2 = 1 then 0 else 4) → plE (sec L k) (k : Int) ≠ 0 ∨ (plR (sec L k) (k : Int)).ep < r.ep
theorem pl_block {r : Rt} (h : Mays r) {k : Nat} (hk : k = (if r.ep % 2 = 1 then 4 else 0)) : plE (block r) (k : Int) = 0 ∧ plR (block r) (k : Int) = r := by
  have h1 := place_mays h
  have h2 : place r.ep = (k : Int) := by
    rw [h1, hk]; split <;> rfl
  unfold plE plR
  rw [decE_block h, decR_block h, h2]
  simp
theorem RootIs.nw {L : List (List Nat)} {r : Rt} (h : RootIs L r) : nwE (sec L 0) (sec L 4) = 0 ∧ nwA (sec L 0) (sec L 4) = r := by
  have n0 : plE (sec L 0) 0 ≠ 1 := fun e => (plE_one _ _).1 e h.b0
  have n4 : plE (sec L 4) 4 ≠ 1 := fun e => (plE_one _ _).1 e h.b4
  by_cases ho : r.ep % 2 = 1
  · have ha := h.at_
    rw [if_pos ho] at ha
    have hb := pl_block h.mays (k := 4) (by rw [if_pos ho])
    rw [← ha] at hb
    have hb1 : plE (sec L 4) 4 = 0 := hb.1
    have hb2 : plR (sec L 4) 4 = r := hb.2
    have e : nwE (sec L 0) (sec L 4) = 0 := by
      unfold nwE
      rw [if_neg (fun x => x.elim n0 n4), if_pos (.inr hb1)]
    refine ⟨e, ?_⟩
    unfold nwA
    rw [if_pos e, if_neg, hb2]
    rintro ⟨h1, h2⟩
    rcases h2 with h2 | h2
    · exact h2 hb1
    · rcases h.oth 0 (by rw [if_pos ho]) with h3 | h3
      · exact h3 h1
      · have h3 : (plR (sec L 0) 0).ep < r.ep := h3
        rw [hb2] at h2; omega
  · have ha := h.at_
    rw [if_neg ho] at ha
    have hb := pl_block h.mays (k := 0) (by rw [if_neg ho])
    rw [← ha] at hb
    have hb1 : plE (sec L 0) 0 = 0 := hb.1
    have hb2 : plR (sec L 0) 0 = r := hb.2
    have e : nwE (sec L 0) (sec L 4) = 0 := by
      unfold nwE
      rw [if_neg (fun x => x.elim n0 n4), if_pos (.inl hb1)]
    refine ⟨e, ?_⟩
    unfold nwA
    rw [if_pos e, if_pos, hb2]
    refine ⟨hb1, ?_⟩
    rcases h.oth 4 (by rw [if_neg ho]) with h3 | h3
    · exact .inl h3
    · exact .inr (by rw [hb2]; exact h3)
/-- The next root's block laid. -/
theorem RootIs.next {L L' : List (List Nat)} {r r' : Rt} (h : RootIs L r) (hm : Mays r') (he : r'.ep = r.ep + 1) (hn : 8 ≤ L'.length) (hs : ∀ j, j < 8 → sec L' j = sec L j) {pl : Nat} (hp : pl = (if r'.ep % 2 = 1 then 4 else 0)) : RootIs (L'.set pl (block r')) r' := by
  have hpl : pl < L'.length := by rw [hp]; split <;> omega
  have h1 := block_len r'
  refine ⟨hm, ?_, ?_, ?_, fun k hk => ?_⟩
  · rw [sec_set _ hpl]
    split
    · exact h1
    · rw [hs 0 (by omega)]; exact h.b0
  · rw [sec_set _ hpl]
    split
    · exact h1
    · rw [hs 4 (by omega)]; exact h.b4
  · rw [sec_set _ hpl, if_pos hp]
  · have hne : pl ≠ k := by rw [hp, hk]; split <;> omega
    rw [sec_set _ hpl, if_neg hne, hs k (by rw [hk]; split <;> omega)]
    have hko : k = (if r.ep % 2 = 1 then 4 else 0) := by
      rw [hk, he]
      by_cases ho : r.ep % 2 = 1
      · rw [if_pos ho, if_neg (by omega)]
      · rw [if_neg ho, if_pos (by omega)]
    have hb := pl_block h.mays hko
    have ha := h.at_
    rw [← hko] at ha
    rw [ha]
    exact .inr (by rw [hb.2]; omega)
theorem place_nat {e : Int} (h0 : 1 ≤ e) (h1 : e ≤ 4611686018427387904) : place e = ((if e % 2 = 1 then 4 else 0 : Nat) : Int) := by
  unfold place mayE
  rw [if_pos (by simp [h0, h1])]
  split <;> rfl
/-- A space over a disk, at rest. -/
structure Inv (m : Dsk) (s : Sp) (pg : Nat) : Prop where
  up : m.down = false
  row : m.row = []
  fuse : m.fuse = -1
  len : m.out.length = 4 * pg
  ok : Ok m
  sp : SpGood s m.out pg
  rt : RootIs m.out s.g.r
theorem Inv.last {m : Dsk} {s : Sp} {pg : Nat} (h : Inv m s pg) : m.last = m.out := by unfold Dsk.last; rw [h.row]; rfl
theorem pageB_set (L : List (List Nat)) {pl p : Nat} (x : List Nat) (h : pl / 4 ≠ p) : pageB (L.set pl x) p = pageB L p :=
  pageB_congr fun j hj => by
    unfold sec
    rw [List.getD_eq_getElem?_getD, List.getD_eq_getElem?_getD, List.getElem?_set_ne (by omega)]
theorem psOk {s : Sp} {pg n : Nat} (hB : Base s pg) (hN : needS s ≤ (freeL s).length) (r : Rt) (hn : 4 * pg ≤ n) : PsOk n (plW s r) := fun x hx => by
  have h := plW_ok hB hN r hx
  exact ⟨by have := h.2.2; omega, h.1⟩
theorem low_stay {s : Sp} {pg : Nat} {L : List (List Nat)} (hB : Base s pg) (hN : needS s ≤ (freeL s).length) (r : Rt) (j : Nat) (hj : j < 8) : sec (wrP L (plW s r)) j = sec L j :=
  wrP_sec _ _ _ (fun x hx e => by
    have h1 := ((free_mem hB).1 (plW_page hN hx)).2.1
    omega)
/-- A commit that isn't cut. -/
theorem Inv.comm {m : Dsk} {s : Sp} {pg : Nat} (h : Inv m s pg) (hN : needS s ≤ (freeL s).length) (word : Int) (hm : may (nextR s word) = true) (hok : Ok (layM m (plW s (nextR s word)) (planRt s (nextR s word))).1) :
    (layM m (plW s (nextR s word)) (planRt s (nextR s word))).2 = 0 ∧ Inv (layM m (plW s (nextR s word)) (planRt s (nextR s word))).1 (commS s (nextR s word)) pg := by
  have hB := h.sp.base
  have hM : Mays (planRt s (nextR s word)) := plan_mays hB hN h.sp.pgE hm
  have hlen := h.len
  have hp4 := hB.p4
  have hpl : place (planRt s (nextR s word)).ep = ((if (s.g.r.ep + 1) % 2 = 1 then 4 else 0 : Nat) : Int) := place_nat hM.e0 hM.e1
  have hlt : (if (s.g.r.ep + 1) % 2 = 1 then 4 else 0 : Nat) < m.out.length := by split <;> omega
  have hL := lay_laid h.up h.row (psOk hB hN (nextR s word) (by omega)) hpl hlt
  generalize layM m (plW s (nextR s word)) (planRt s (nextR s word)) = M at *
  cases hL with
  | all e d r o f =>
    refine ⟨e, d, r, f h.fuse, by rw [o, List.length_set, wrP_len]; exact hlen, hok, ?_, ?_⟩
    · rw [o]
      exact SpGood.comm (r := nextR s word) h.sp hN h.sp.pgE hm (by rw [List.length_set, wrP_len]) (fun p hp => pageB_set (wrP m.out (plW s (nextR s word))) (pl := if (s.g.r.ep + 1) % 2 = 1 then 4 else 0) (block (planRt s (nextR s word))) (by split <;> omega))
    · rw [o]
      exact h.rt.next hM rfl (by rw [wrP_len]; omega) (fun j hj => low_stay hB hN _ j hj) rfl
  | cut _ _ f => exact absurd h.fuse f
  | half _ _ f => exact absurd h.fuse f
/-- The same state, but for what no one asks. -/
structure StLike (a b : St) : Prop where
  r : a.r = b.r
  tb : a.tb = b.tb
  us : a.us = b.us
  lv : ∀ i, i < 4 → a.lv i = b.lv i
theorem StLike.lab {a b : St} (h : StLike a b) : lab a.r a.lv a.tb = lab b.r b.lv b.tb := by rw [h.r, h.tb]; exact lab_congr h.lv
theorem StLike.usF {a b : St} (h : StLike a b) : usF a.r a.lv a.tb = usF b.r b.lv b.tb := by unfold Go.Proofs.YthcnofdihigohaaGreat.usF; rw [h.lab]
theorem StLike.good {a b : St} (h : StLike a b) (g : StGood b) : StGood a :=
  ⟨by rw [h.r]; exact g.mays, by rw [h.us, h.usF]; exact g.us, by unfold ApartS; rw [h.lab, h.r]; exact g.ap, by rw [h.tb]; exact g.okt, fun i hi => by rw [h.lv i hi]; exact g.okl i hi, fun i hi => by rw [h.lv i hi, h.tb]; exact g.bare i hi, by rw [h.tb]; exact g.hi⟩
theorem StLike.lies {a b : St} {L : List (List Nat)} (h : StLike a b) (g : LiesOn L b) : LiesOn L a :=
  ⟨by rw [h.r]; exact g.len, by
    rw [show a.r.dr = b.r.dr by rw [h.r], h.usF, g.dir]
    unfold dirF
    rw [h.lv 0 (by omega), h.lv 1 (by omega), h.lv 2 (by omega), h.lv 3 (by omega)], fun i hi h0 => by
    rw [h.lv i hi] at h0 ⊢
    rw [h.tb]; exact g.leaf i hi h0⟩
theorem readS_up {m : Dsk} (hd : m.down = false) {i : Nat} (hi : i < m.out.length) : readS m (i : Int) = sec m.last i := by
  unfold readS
  rw [if_neg (by simp [hd]), if_neg (by rw [has_true (by omega) (by omega)]; simp), Int.toNat_natCast]
theorem ld_nw {m : Dsk} {x0 x4 : List Nat} (hd : m.down = false) (hn : 16 ≤ m.out.length) (e0 : readS m 0 = x0) (e4 : readS m 4 = x4) : ldE m = nwE x0 x4 ∧ ldA m = nwA x0 x4 ∧ ldB m = nwB x0 x4 := by
  have h1 : ¬ m.out.length < 16 := by omega
  have h2 : ¬ m.down = true := by simp [hd]
  unfold ldE ldA ldB
  rw [e0, e4]
  exact ⟨by rw [if_neg h1, if_neg h2], by rw [if_neg h1, if_neg h2], by rw [if_neg h1, if_neg h2]⟩
theorem ld_root {m : Dsk} {r : Rt} (hd : m.down = false) (hn : 16 ≤ m.out.length) (hr : RootIs m.last r) : ldE m = 0 ∧ ldA m = r := by
  have h := hr.nw
  have e0 : readS m ((0 : Nat) : Int) = sec m.last 0 := readS_up (i := 0) hd (by omega)
  have e4 : readS m ((4 : Nat) : Int) = sec m.last 4 := readS_up (i := 4) hd (by omega)
  have h2 := ld_nw hd hn e0 e4
  exact ⟨h2.1.trans h.1, h2.2.1.trans h.2⟩
/-- A state's space, with nothing changed. -/
def mkSp (a : St) (u : Option (Nat → Bool)) : Sp := ⟨a, u, a.tb, fun _ => none, false⟩
theorem mkSp_g (a : St) (u : Option (Nat → Bool)) : (mkSp a u).g = a := rfl
theorem mkSp_kp (a : St) (u : Option (Nat → Bool)) : (mkSp a u).kp = a.tb := rfl
theorem mkSp_fr (a : St) (u : Option (Nat → Bool)) : (mkSp a u).fr = fun _ => none := rfl
theorem mkSp_ch (a : St) (u : Option (Nat → Bool)) : (mkSp a u).ch = false := rfl
theorem openS_mk (m : Dsk) : openS m = mkSp (loadSt m (ldA m)) (usedM m (ldB m)) := rfl
theorem openS_g (m : Dsk) : (openS m).g = loadSt m (ldA m) := by rw [openS_mk, mkSp_g]
theorem openS_kp (m : Dsk) : (openS m).kp = (loadSt m (ldA m)).tb := by rw [openS_mk, mkSp_kp]
theorem openS_fr (m : Dsk) : (openS m).fr = fun _ => none := by rw [openS_mk, mkSp_fr]
theorem openS_ch (m : Dsk) : (openS m).ch = false := by rw [openS_mk, mkSp_ch]
theorem loadSt_r (m : Dsk) (r : Rt) : (loadSt m r).r = r := rfl
theorem openE_of {m : Dsk} (h : ldE m = 0) : openE m = loadEr m (ldA m) := by unfold openE; rw [if_neg (by simp [h])]
/-- What is opened of a disk on which a state lies. -/
theorem open_lies {m : Dsk} {st : St} (hd : m.down = false) (hn : 16 ≤ m.out.length) (hg : StGood st) (hl : LiesOn m.last st) (hr : RootIs m.last st.r) : openE m = 0 ∧ StLike (openS m).g st ∧ (openS m).kp = st.tb ∧ (openS m).fr = (fun _ => none) ∧ (openS m).ch = false := by
  obtain ⟨h1, h2⟩ := ld_root hd hn hr
  have hL := load_lies hg hl
  refine ⟨?_, ?_, ?_, openS_fr m, openS_ch m⟩
  · rw [openE_of h1, h2]; exact hL.er
  · rw [openS_g, h2]
    exact ⟨loadSt_r _ _, hL.tb, hL.us, hL.lv⟩
  · rw [openS_kp, h2]
    exact hL.tb
theorem Inv.opens {m : Dsk} {s : Sp} {pg : Nat} (h : Inv m s pg) : openE m = 0 ∧ StLike (openS m).g s.g ∧ Inv m (openS m) pg ∧ (openS m).kp = s.g.tb ∧ (openS m).fr = (fun _ => none) ∧ (openS m).ch = false := by
  have hp := h.sp.pgs
  have hl := h.len
  have hla := h.last
  obtain ⟨h1, h2, h3, h4, h5⟩ := open_lies h.up (by omega) h.sp.g (by rw [hla]; exact h.sp.lies) (by rw [hla]; exact h.rt)
  refine ⟨h1, h2, ⟨h.up, h.row, h.fuse, h.len, h.ok, ⟨h2.good h.sp.g, by rw [h2.r]; exact h.sp.pgE, h2.lies h.sp.lies, fun l => ?_, fun l b e => ?_⟩, by rw [h2.r]; exact h.rt⟩, h3, h4, h5⟩
  · rw [h3, h2.tb]; exact .inr rfl
  · rw [h4] at e; cases e
end Go.Proofs.YthcnofdihigohaaGreat
end
section
/- A space and the document's rows of pages tell the same: without memory. -/
set_option maxRecDepth 20000
set_option linter.unusedSimpArgs false
namespace Go.Proofs.YthcnofdihigohaaGreat
open Go.RowKit

/-- The document's space. -/
structure Xv where
  com : Nat → List Nat
  now : Nat → List Nat
  dirty : Nat → Bool
  word : Int
  ep : Int
def comS (s : Sp) (L : List (List Nat)) (l : Nat) : List Nat := if s.g.tb l = 0 then [] else pageB L (s.g.tb l)
def nowS (s : Sp) (L : List (List Nat)) (l : Nat) : List Nat := match s.fr l with | some b => b | none => if s.kp l = 0 then [] else pageB L (s.kp l)
structure Sim (s : Sp) (L : List (List Nat)) (x : Xv) : Prop where
  com : ∀ l, l < 512 → x.com l = comS s L l
  now : ∀ l, l < 512 → x.now l = nowS s L l
  dirty : ∀ l, l < 512 → x.dirty l = (s.fr l).isSome
  word : x.word = s.g.r.wd
  ep : x.ep = s.g.r.ep
/-- Sectors of 128 bytes. -/
theorem pageB_len {L : List (List Nat)} (hs : Secs128 L) {p : Nat} (hp : 4 * p + 4 ≤ L.length) : (pageB L p).length = 512 ∧ ∀ x ∈ pageB L p, x < 256 := by
  have h : ∀ j, j < 4 → (sec L (4 * p + j)).length = 128 ∧ ∀ x ∈ sec L (4 * p + j), x < 256 := fun j hj => hs _ (sec_mem (by omega))
  unfold pageB
  rw [cat_four]
  refine ⟨by rw [List.length_append, List.length_append, List.length_append, (h 0 (by omega)).1, (h 1 (by omega)).1, (h 2 (by omega)).1, (h 3 (by omega)).1], fun x hx => ?_⟩
  rcases List.mem_append.1 hx with hx | hx
  · rcases List.mem_append.1 hx with hx | hx
    · rcases List.mem_append.1 hx with hx | hx
      · exact (h 0 (by omega)).2 x hx
      · exact (h 1 (by omega)).2 x hx
    · exact (h 2 (by omega)).2 x hx
  · exact (h 3 (by omega)).2 x hx
section
variable {s : Sp} {L : List (List Nat)} {pg : Nat} {x : Xv}
theorem SpGood.tbLt (h : SpGood s L pg) (l : Nat) (h0 : s.g.tb l ≠ 0) : l < 512 ∧ 4 * s.g.tb l + 4 ≤ L.length := by
  have hl : l < 512 := by
    rcases Nat.lt_or_ge l 512 with h1 | h1
    · exact h1
    · exact absurd (h.g.hi l h1) h0
  have h1 := h.g.ap.lt (l + 5) (List.mem_range.2 (by omega))
  rw [lab_tb] at h1
  have h2 := h1 h0
  have h3 := h.pgE
  have h4 := h.pgs.2.2
  exact ⟨hl, by omega⟩
theorem SpGood.kpLt (h : SpGood s L pg) (l : Nat) (h0 : s.kp l ≠ 0) : l < 512 ∧ 4 * s.kp l + 4 ≤ L.length := by
  have e := (h.kp l).resolve_left h0
  rw [e] at h0 ⊢
  exact h.tbLt l h0
/-- Is a logical page there? -/
def isN (s : Sp) (l : Nat) : Bool := (s.fr l).isSome || !(s.kp l == 0)
theorem now_len (h : SpGood s L pg) (hs : Secs128 L) (l : Nat) : (isN s l = true → (nowS s L l).length = 512 ∧ ∀ x ∈ nowS s L l, x < 256) ∧ (isN s l = false → nowS s L l = []) := by
  unfold isN nowS
  cases e : s.fr l with
  | some b => exact ⟨fun _ => (h.ex l b e).2.2, fun h => by simp at h⟩
  | none =>
    by_cases h0 : s.kp l = 0
    · refine ⟨fun h1 => ?_, fun _ => ?_⟩
      · simp [h0] at h1
      · show (if s.kp l = 0 then [] else pageB L (s.kp l)) = []; rw [if_pos h0]
    · refine ⟨fun _ => ?_, fun h1 => ?_⟩
      · show (if s.kp l = 0 then [] else pageB L (s.kp l)).length = 512 ∧ ∀ x ∈ (if s.kp l = 0 then [] else pageB L (s.kp l)), x < 256
        rw [if_neg h0]; exact pageB_len hs (h.kpLt l h0).2
      · simp [h0] at h1
theorem com_len (h : SpGood s L pg) (hs : Secs128 L) (l : Nat) : (s.g.tb l ≠ 0 → (comS s L l).length = 512 ∧ ∀ x ∈ comS s L l, x < 256) ∧ (s.g.tb l = 0 → comS s L l = []) := by
  unfold comS
  constructor
  · intro h0; rw [if_neg h0]; exact pageB_len hs (h.tbLt l h0).2
  · intro h0; rw [if_pos h0]
theorem now_nil (h : SpGood s L pg) (hs : Secs128 L) (l : Nat) : (nowS s L l = [] ↔ isN s l = false) := by
  have h1 := now_len h hs l
  constructor
  · intro e
    cases e2 : isN s l
    · rfl
    · have := (h1.1 e2).1; rw [e] at this; cases this
  · exact h1.2
theorem com_nil (h : SpGood s L pg) (hs : Secs128 L) (l : Nat) : (comS s L l = [] ↔ s.g.tb l = 0) := by
  have h1 := com_len h hs l
  constructor
  · intro e
    by_cases e2 : s.g.tb l = 0
    · exact e2
    · have := (h1.1 e2).1; rw [e] at this; cases this
  · exact h1.2
theorem hasS_isN (s : Sp) {l : Nat} (h : l < 512) : hasS s (l : Int) = isN s l := by
  unfold hasS isN Pgs.at_
  rw [if_pos (by omega), Int.toNat_natCast, Tb.getI_nat _ h]
theorem hasS_out (s : Sp) {y : Int} (h : ¬ (0 ≤ y ∧ y < 512)) (hf : ∀ l, (s.fr l).isSome = true → l < 512) : hasS s y = false := by
  unfold hasS Pgs.at_
  rw [Tb.getI_out _ h]
  by_cases h0 : 0 ≤ y
  · rw [if_pos h0]
    cases e : (s.fr y.toNat).isSome
    · rfl
    · have := hf _ e; omega
  · rw [if_neg h0]; rfl
theorem SpGood.frLt (h : SpGood s L pg) (l : Nat) (e : (s.fr l).isSome = true) : l < 512 := by
  obtain ⟨b, hb⟩ := Option.isSome_iff_exists.1 e
  exact (h.ex l b hb).2.1
theorem dropT_at (f : Nat → Nat) {l : Nat} (hl : l < 512) (k : Nat) : Tb.dropT f (l : Int) k = if k = l then 0 else f k := by
  unfold Tb.dropT
  rw [if_pos (by omega), Int.toNat_natCast]
  by_cases e : k = l
  · subst e; rw [if_pos rfl, Tb.updN_same]
  · rw [if_neg e, Tb.updN_other _ _ _ _ e]
/-- A page written. -/
theorem SpGood.put (h : SpGood s L pg) {l : Nat} (hl : l < 512) {b : List Nat} (hb : b.length = 512 ∧ ∀ x ∈ b, x < 256) : SpGood (putS s l b) L pg := by
  refine ⟨h.g, h.pgE, h.lies, fun k => ?_, fun k c e => ?_⟩
  · show Tb.dropT s.kp (l : Int) k = 0 ∨ Tb.dropT s.kp (l : Int) k = s.g.tb k
    rw [dropT_at _ hl]
    by_cases ek : k = l
    · rw [if_pos ek]; exact .inl rfl
    · rw [if_neg ek]; exact h.kp k
  · show Tb.dropT s.kp (l : Int) k = 0 ∧ _
    rw [dropT_at _ hl]
    have e : s.fr.put l b k = some c := e
    by_cases ek : k = l
    · rw [if_pos ek]
      subst ek
      rw [Pgs.put_same] at e
      cases e
      exact ⟨rfl, hl, hb⟩
    · rw [Pgs.put_other _ _ _ _ ek] at e
      rw [if_neg ek]
      exact h.ex k c e
def Xv.put (x : Xv) (l : Nat) (b : List Nat) : Xv := { x with now := fun k => if k = l then b else x.now k, dirty := fun k => if k = l then true else x.dirty k }
theorem Sim.put (h : Sim s L x) {l : Nat} (hl : l < 512) (b : List Nat) : Sim (putS s l b) L (x.put l b) := by
  refine ⟨h.com, fun k hk => ?_, fun k hk => ?_, h.word, h.ep⟩
  · show (if k = l then b else x.now k) = nowS (putS s l b) L k
    unfold nowS
    show _ = (match s.fr.put l b k with | some b => b | none => if Tb.dropT s.kp (l : Int) k = 0 then [] else pageB L (Tb.dropT s.kp (l : Int) k))
    by_cases ek : k = l
    · subst ek; rw [if_pos rfl, Pgs.put_same]
    · rw [if_neg ek, Pgs.put_other _ _ _ _ ek, h.now k hk, dropT_at _ hl, if_neg ek]; rfl
  · show (if k = l then true else x.dirty k) = (s.fr.put l b k).isSome
    by_cases ek : k = l
    · subst ek; rw [if_pos rfl, Pgs.put_same]; rfl
    · rw [if_neg ek, Pgs.put_other _ _ _ _ ek]; exact h.dirty k hk
theorem drop_at (f : Pgs) (l k : Nat) : f.drop (l : Int) k = if k = l then none else f k := by
  unfold Pgs.drop
  by_cases e : k = l
  · subst e; rw [if_pos rfl, if_pos rfl]
  · rw [if_neg (by omega), if_neg e]
/-- A page dropped. -/
theorem SpGood.drop (h : SpGood s L pg) {l : Nat} (hl : l < 512) : SpGood (dropS s (l : Int)) L pg := by
  refine ⟨h.g, h.pgE, h.lies, fun k => ?_, fun k c e => ?_⟩
  · show Tb.dropT s.kp (l : Int) k = 0 ∨ Tb.dropT s.kp (l : Int) k = s.g.tb k
    rw [dropT_at _ hl]
    by_cases ek : k = l
    · rw [if_pos ek]; exact .inl rfl
    · rw [if_neg ek]; exact h.kp k
  · show Tb.dropT s.kp (l : Int) k = 0 ∧ _
    have e : s.fr.drop (l : Int) k = some c := e
    rw [drop_at] at e
    by_cases ek : k = l
    · rw [if_pos ek] at e; cases e
    · rw [if_neg ek] at e
      rw [dropT_at _ hl, if_neg ek]
      exact h.ex k c e
def Xv.drop (x : Xv) (l : Nat) : Xv := { x with now := fun k => if k = l then [] else x.now k, dirty := fun k => if k = l then false else x.dirty k }
theorem Sim.drop (h : Sim s L x) {l : Nat} (hl : l < 512) : Sim (dropS s (l : Int)) L (x.drop l) := by
  refine ⟨h.com, fun k hk => ?_, fun k hk => ?_, h.word, h.ep⟩
  · show (if k = l then [] else x.now k) = nowS (dropS s (l : Int)) L k
    unfold nowS
    show _ = (match s.fr.drop (l : Int) k with | some b => b | none => if Tb.dropT s.kp (l : Int) k = 0 then [] else pageB L (Tb.dropT s.kp (l : Int) k))
    rw [drop_at]
    by_cases ek : k = l
    · rw [if_pos ek, if_pos ek, dropT_at _ hl, if_pos ek]; rfl
    · rw [if_neg ek, if_neg ek, h.now k hk, dropT_at _ hl, if_neg ek]; rfl
  · show (if k = l then false else x.dirty k) = (s.fr.drop (l : Int) k).isSome
    rw [drop_at]
    by_cases ek : k = l
    · rw [if_pos ek, if_pos ek]; rfl
    · rw [if_neg ek, if_neg ek]; exact h.dirty k hk
/-- Nothing changed. -/
theorem SpGood.settle (h : SpGood s L pg) : SpGood (settleS s) L pg := ⟨h.g, h.pgE, h.lies, fun k => .inr rfl, fun k c e => by cases e⟩
def Xv.abort (x : Xv) : Xv := { x with now := x.com, dirty := fun _ => false }
theorem Sim.settle (h : Sim s L x) : Sim (settleS s) L x.abort := ⟨h.com, h.com, fun _ _ => rfl, h.word, h.ep⟩
/-- A space of the same state, with nothing changed. -/
theorem Sim.like (h : Sim s L x) {s' : Sp} (hg : StLike s'.g s.g) (hk : s'.kp = s.g.tb) (hf : s'.fr = fun _ => none) : Sim s' L x.abort := by
  refine ⟨fun l hl => ?_, fun l hl => ?_, fun l _ => by rw [hf]; rfl, by rw [hg.r]; exact h.word, by rw [hg.r]; exact h.ep⟩
  · show x.com l = _
    rw [h.com l hl]; unfold comS; rw [hg.tb]
  · show x.com l = _
    rw [h.com l hl]; unfold comS nowS; rw [hf, hk]
def Xv.commit (x : Xv) (word : Int) : Xv := { com := x.now, now := x.now, dirty := fun _ => false, word := word, ep := x.ep + 1 }
theorem Sim.comm (h : Sim s L x) (hG : SpGood s L pg) (hN : needS s ≤ (freeL s).length) (word : Int) {L' : List (List Nat)} (hs : ∀ p, 2 ≤ p → pageB L' p = pageB (wrP L (plW s (nextR s word))) p) : Sim (commS s (nextR s word)) L' (x.commit word) := by
  have hB := hG.base
  have hkey : ∀ l, comS (commS s (nextR s word)) L' l = nowS s L l := fun l => by
    have hd := plan_data hB hN (nextR s word) hG.pgs.2.2 l
    unfold comS nowS
    show (if plT s l = 0 then [] else pageB L' (plT s l)) = _
    cases e : s.fr l with
    | some b =>
      have h1 := hd.1 b e
      have h2 := plan_okt hB hN l
      rw [if_neg h1.1, hs _ (by unfold Tb.pgN at h2; simp at h2; omega)]
      exact h1.2
    | none =>
      have h1 := hd.2 e
      rw [h1.1]
      by_cases h0 : s.kp l = 0
      · rw [if_pos h0]; show _ = (if s.kp l = 0 then [] else pageB L (s.kp l)); rw [if_pos h0]
      · have h2 := hB.okk l
        rw [if_neg h0, hs _ (by unfold Tb.pgN at h2; simp at h2; omega), h1.2 h0]
        show _ = (if s.kp l = 0 then [] else pageB L (s.kp l)); rw [if_neg h0]
  refine ⟨fun l hl => ?_, fun l hl => ?_, fun _ _ => rfl, rfl, ?_⟩
  · show x.now l = _
    rw [h.now l hl, hkey l]
  · show x.now l = _
    rw [h.now l hl, ← hkey l]; rfl
  · show x.ep + 1 = s.g.r.ep + 1
    rw [h.ep]
/-- What the document says a read gives. -/
theorem rd_now (m : Dsk) (s : Sp) (hm : m.last = L) {l : Nat} (hl : l < 512) : rdV m s (l : Int) = if isN s l = true then some (nowS s L l) else none := by
  unfold rdV isN nowS Pgs.at_
  rw [if_pos (by omega), Int.toNat_natCast, Tb.getI_nat _ hl, hm]
  cases e : s.fr l with
  | some b => rfl
  | none =>
    by_cases h0 : s.kp l = 0
    · simp [h0]
    · simp [h0]
end
end Go.Proofs.YthcnofdihigohaaGreat
end
section
/- How many pages there are, and a commit needs, by the document: without memory. -/
set_option maxRecDepth 20000
set_option linter.unusedSimpArgs false
namespace Go.Proofs.YthcnofdihigohaaGreat
open Go.RowKit

/-- Is a row's page there? -/
def nn (f : Nat → List Nat) (l : Nat) : Bool := !(f l).isEmpty
theorem nn_iff {f : Nat → List Nat} {l : Nat} : nn f l = true ↔ f l ≠ [] := by unfold nn; simp
theorem cnt_congr2 {f g : Nat → Bool} {n : Nat} (h : ∀ l, l < n → f l = g l) : Bi.cnt f n = Bi.cnt g n := by
  induction n with
  | zero => rfl
  | succ n ih => show Bi.cnt f n + (f n).toNat = Bi.cnt g n + (g n).toNat; rw [ih (fun l hl => h l (by omega)), h n (by omega)]
theorem cnt_add2 (f : Nat → Bool) (a b : Nat) : Bi.cnt f (a + b) = Bi.cnt f a + Bi.cnt (fun j => f (a + j)) b := by
  induction b with
  | zero => rfl
  | succ b ih => show Bi.cnt f (a + b) + (f (a + b)).toNat = _ + (_ + (f (a + b)).toNat); rw [ih]; omega
theorem cnt_or {f g : Nat → Bool} {n : Nat} (h : ∀ l, l < n → f l = true → g l = false) : Bi.cnt (fun l => f l || g l) n = Bi.cnt f n + Bi.cnt g n := by
  induction n with
  | zero => rfl
  | succ n ih =>
    show Bi.cnt (fun l => f l || g l) n + (f n || g n).toNat = (Bi.cnt f n + (f n).toNat) + (Bi.cnt g n + (g n).toNat)
    rw [ih (fun l hl => h l (by omega))]
    have := h n (by omega)
    cases e1 : f n <;> cases e2 : g n <;> simp_all <;> omega
theorem keys_cnt (f : Pgs) : f.keys.length = Bi.cnt (fun l => (f l).isSome) 512 := Bi.mems_cnt (fun l => (f l).isSome) 512
/-- How many pages of a leaf were written, by the document. -/
def wrX (x : Xv) (l : Nat) : Bool := nn x.now l && x.dirty l
def chX (x : Xv) (l : Nat) : Bool := wrX x l || (nn x.now l != nn x.com l)
/-- .. among its first so many. -/
def chgX (x : Xv) (i : Nat) : Nat → Bool
  | 0 => false
  | k + 1 => chgX x i k || chX x (128 * i + k)
def bareX (f : Nat → List Nat) (i : Nat) : Nat → Bool
  | 0 => true
  | k + 1 => bareX f i k && !nn f (128 * i + k)
def needX (x : Xv) : Nat → Nat
  | 0 => 1
  | i + 1 => needX x i + Bi.cnt (fun j => wrX x (128 * i + j)) 128 + (chgX x i 128 && !bareX x.now i 128).toNat
theorem chgX_iff {x : Xv} {i : Nat} : ∀ k, chgX x i k = true ↔ ∃ j, j < k ∧ chX x (128 * i + j) = true
  | 0 => by simp [chgX]
  | k + 1 => by
    show (chgX x i k || chX x (128 * i + k)) = true ↔ _
    rw [Bool.or_eq_true, chgX_iff k]
    constructor
    · rintro (⟨j, hj, h⟩ | h)
      · exact ⟨j, by omega, h⟩
      · exact ⟨k, by omega, h⟩
    · rintro ⟨j, hj, h⟩
      by_cases e : j = k
      · subst e; exact .inr h
      · exact .inl ⟨j, by omega, h⟩
theorem bareX_iff {f : Nat → List Nat} {i : Nat} : ∀ k, bareX f i k = true ↔ ∀ j, j < k → nn f (128 * i + j) = false
  | 0 => by simp [bareX]
  | k + 1 => by
    show (bareX f i k && !nn f (128 * i + k)) = true ↔ _
    rw [Bool.and_eq_true, bareX_iff k]
    constructor
    · rintro ⟨h1, h2⟩ j hj
      by_cases e : j = k
      · subst e; simpa using h2
      · exact h1 j (by omega)
    · intro h
      exact ⟨fun j hj => h j (by omega), by rw [h k (by omega)]; rfl⟩
section
variable {s : Sp} {L : List (List Nat)} {pg : Nat} {x : Xv}
theorem Sim.nnow (h : Sim s L x) (hG : SpGood s L pg) (hs : Secs128 L) {l : Nat} (hl : l < 512) : nn x.now l = isN s l := by
  have h1 := now_nil hG hs l
  rw [← h.now l hl] at h1
  cases e : isN s l
  · cases e2 : nn x.now l
    · rfl
    · exact absurd (h1.2 e) (nn_iff.1 e2)
  · cases e2 : nn x.now l
    · exfalso
      have : x.now l = [] := by unfold nn at e2; simpa using e2
      rw [h1.1 this] at e; cases e
    · rfl
theorem Sim.ncom (h : Sim s L x) (hG : SpGood s L pg) (hs : Secs128 L) {l : Nat} (hl : l < 512) : nn x.com l = !(s.g.tb l == 0) := by
  have h1 := com_nil hG hs l
  rw [← h.com l hl] at h1
  cases e2 : nn x.com l
  · have : x.com l = [] := by unfold nn at e2; simpa using e2
    rw [h1.1 this]; rfl
  · have := nn_iff.1 e2
    have h2 : s.g.tb l ≠ 0 := fun e => this (h1.2 e)
    simp [h2]
theorem Sim.wr (h : Sim s L x) (hG : SpGood s L pg) (hs : Secs128 L) {l : Nat} (hl : l < 512) : wrX x l = (s.fr l).isSome := by
  unfold wrX
  rw [h.nnow hG hs hl, h.dirty l hl]
  unfold isN
  cases (s.fr l).isSome <;> simp
theorem Sim.bare (h : Sim s L x) (hG : SpGood s L pg) (hs : Secs128 L) {i : Nat} (hi : i < 4) : bareX x.now i 128 = true ↔ ∀ k, k < 128 → s.fr (128 * i + k) = none ∧ s.kp (128 * i + k) = 0 := by
  rw [bareX_iff]
  constructor
  · intro h1 k hk
    have h2 := h1 k hk
    rw [h.nnow hG hs (by omega)] at h2
    unfold isN at h2
    cases e : s.fr (128 * i + k) with
    | some b => rw [e] at h2; simp at h2
    | none =>
      rw [e] at h2
      simp at h2
      exact ⟨rfl, h2⟩
  · intro h1 k hk
    rw [h.nnow hG hs (by omega)]
    unfold isN
    rw [(h1 k hk).1, (h1 k hk).2]; rfl
theorem Sim.mov (h : Sim s L x) (hG : SpGood s L pg) (hs : Secs128 L) {i : Nat} (hi : i < 4) : (chgX x i 128 && !bareX x.now i 128) = movB s i := by
  have hB := hG.base
  have hch : ∀ k, k < 128 → chX x (128 * i + k) = ((s.fr (128 * i + k)).isSome || (isN s (128 * i + k) != !(s.g.tb (128 * i + k) == 0))) := fun k hk => by
    unfold chX
    rw [h.wr hG hs (by omega), h.nnow hG hs (by omega), h.ncom hG hs (by omega)]
  rw [Bool.eq_iff_iff, Bool.and_eq_true, Bool.not_eq_true', chgX_iff]
  unfold movB
  rw [Bool.or_eq_true, Bool.and_eq_true, Bool.not_eq_true', freshB_iff]
  constructor
  · rintro ⟨⟨k, hk, h1⟩, h2⟩
    rw [hch k hk] at h1
    by_cases hf : ∃ l, l ∈ s.fr.keys ∧ l / 128 = i
    · exact .inl hf
    · right
      have hno : ∀ j, j < 128 → s.fr (128 * i + j) = none := fun j hj => by
        cases e : s.fr (128 * i + j) with
        | none => rfl
        | some b => exact absurd ⟨128 * i + j, Pgs.mem_keys.2 ⟨by omega, by rw [e]; rfl⟩, by omega⟩ hf
      rw [hno k hk] at h1
      unfold isN at h1
      rw [hno k hk] at h1
      constructor
      · cases e : Tb.difB s.kp s.g.tb i
        · have := dif_iff.1 e k hk
          rw [this] at h1
          simp at h1
        · rfl
      · cases e : Tb.bareB s.kp i
        · rfl
        · have : bareX x.now i 128 = true := (h.bare hG hs hi).2 fun j hj => ⟨hno j hj, bare_iff.1 e j hj⟩
          rw [this] at h2; cases h2
  · rintro (⟨l, hl, he⟩ | ⟨h1, h2⟩)
    · have hl5 := (Pgs.mem_keys.1 hl).1
      have hle : 128 * i + l % 128 = l := by omega
      refine ⟨⟨l % 128, Nat.mod_lt _ (by omega), ?_⟩, ?_⟩
      · rw [hch _ (Nat.mod_lt _ (by omega)), hle, (Pgs.mem_keys.1 hl).2]; rfl
      · cases e : bareX x.now i 128
        · rfl
        · have := ((h.bare hG hs hi).1 e (l % 128) (Nat.mod_lt _ (by omega))).1
          rw [hle] at this
          have h3 := (Pgs.mem_keys.1 hl).2
          rw [this] at h3; cases h3
    · have hd : ∃ k, k < 128 ∧ s.kp (128 * i + k) ≠ s.g.tb (128 * i + k) := by
        apply Classical.byContradiction
        intro hc
        have : Tb.difB s.kp s.g.tb i = false := dif_iff.2 fun j hj => Classical.byContradiction fun hne => hc ⟨j, hj, hne⟩
        rw [this] at h1; cases h1
      obtain ⟨k, hk, hne⟩ := hd
      refine ⟨⟨k, hk, ?_⟩, ?_⟩
      · rw [hch k hk]
        have hz := (hG.kp (128 * i + k)).resolve_right hne
        unfold isN
        rw [hz] at hne ⊢
        cases e : (s.fr (128 * i + k)).isSome
        · have : s.g.tb (128 * i + k) ≠ 0 := fun e => hne e.symm
          simp [this]
        · rfl
      · cases e : bareX x.now i 128
        · rfl
        · have : Tb.bareB s.kp i = true := bare_iff.2 fun j hj => ((h.bare hG hs hi).1 e j hj).2
          rw [this] at h2; cases h2
theorem needX_eq (h : Sim s L x) (hG : SpGood s L pg) (hs : Secs128 L) : ∀ i, i ≤ 4 → needX x i = 1 + Bi.cnt (fun l => (s.fr l).isSome) (128 * i) + Bi.cnt (movB s) i
  | 0, _ => rfl
  | i + 1, hi => by
    show needX x i + Bi.cnt (fun j => wrX x (128 * i + j)) 128 + (chgX x i 128 && !bareX x.now i 128).toNat = _
    rw [needX_eq h hG hs i (by omega), h.mov hG hs (by omega), cnt_congr2 (g := fun j => (s.fr (128 * i + j)).isSome) (fun j hj => h.wr hG hs (by omega)), show 128 * (i + 1) = 128 * i + 128 by omega, cnt_add2]
    show _ = _ + (Bi.cnt (movB s) i + (movB s i).toNat)
    omega
theorem need_eq (h : Sim s L x) (hG : SpGood s L pg) (hs : Secs128 L) : needX x 4 = needS s := by
  rw [needX_eq h hG hs 4 (Nat.le_refl _)]
  unfold needS movL
  rw [keys_cnt, Tb.mems_cnt, show 128 * 4 = 512 from rfl]
  omega
theorem len_eq (h : Sim s L x) (hG : SpGood s L pg) (hs : Secs128 L) : lenS s = Bi.cnt (nn x.now) 512 := by
  rw [cnt_congr2 (g := fun l => Tb.told s.kp l || (s.fr l).isSome) (fun l hl => by
    rw [h.nnow hG hs hl]
    unfold isN Tb.told
    rw [Bool.or_comm])]
  rw [cnt_or (fun l _ h1 => ?_)]
  · unfold lenS; rw [keys_cnt]
  · cases e : s.fr l with
    | none => rfl
    | some b =>
      have := (hG.ex l b e).1
      unfold Tb.told at h1
      rw [this] at h1; cases h1
theorem gapF_congr {f g : Nat → Bool} : ∀ (k i : Nat), (∀ l, i ≤ l → l < i + k → f l = g l) → gapF f k i = gapF g k i
  | 0, _, _ => rfl
  | k + 1, i, h => by
    unfold gapF
    rw [h i (by omega) (by omega), gapF_congr k (i + 1) (fun l h1 h2 => h l (by omega) (by omega))]
theorem gap_eq (h : Sim s L x) (hG : SpGood s L pg) (hs : Secs128 L) : gapS s = gapF (nn x.now) 512 0 := by
  unfold gapS
  exact gapF_congr 512 0 fun l _ hl => by rw [hasS_isN s (by omega), h.nnow hG hs (by omega)]
end
end Go.Proofs.YthcnofdihigohaaGreat
end
section
/- Format, up to its commit. -/
set_option maxRecDepth 20000
set_option linter.unusedSimpArgs false
namespace Go.Proofs.YthcnofdihigohaaGreat
open Go.RowKit

/-- The space that Format commits. -/
def fmtS (m : Dsk) : Sp := ⟨⟨⟨(ldA m).ep, (pgOf m : Int), 0, 0⟩, fun _ => 0, fun _ => 0, usedM m (ldA m)⟩, usedM m (ldB m), fun _ => 0, fun _ => none, false⟩
theorem fm_read {w : World} {g b i : Nat} (h : b ≠ g) (v1 v2 v3 v4 v5 v6 v7 v8 v9 v10 : Value) : ((((((((((w.setCell ⟨g, 1, none⟩ v1).setCell ⟨g, 2, none⟩ v2).setCell ⟨g, 3, none⟩ v3).setCell ⟨g, 4, none⟩ v4).setCell ⟨g, 5, none⟩ v5).setCell ⟨g, 6, none⟩ v6).setCell ⟨g, 7, none⟩ v7).setCell ⟨g, 8, none⟩ v8).setCell ⟨g, 9, none⟩ v9).setCell ⟨g, 10, none⟩ v10).cell? ⟨b, i, none⟩ = w.cell? ⟨b, i, none⟩ := by
  have h2 : g ≠ b := Ne.symm h
  rw [World.cell?_setCell_far _ _ _ _ h2, World.cell?_setCell_far _ _ _ _ h2, World.cell?_setCell_far _ _ _ _ h2, World.cell?_setCell_far _ _ _ _ h2, World.cell?_setCell_far _ _ _ _ h2, World.cell?_setCell_far _ _ _ _ h2, World.cell?_setCell_far _ _ _ _ h2, World.cell?_setCell_far _ _ _ _ h2, World.cell?_setCell_far _ _ _ _ h2, World.cell?_setCell_far _ _ _ _ h2]
theorem fm_only (w : World) (g : Nat) (v1 v2 v3 v4 v5 v6 v7 v8 v9 v10 : Value) : Only g w ((((((((((w.setCell ⟨g, 1, none⟩ v1).setCell ⟨g, 2, none⟩ v2).setCell ⟨g, 3, none⟩ v3).setCell ⟨g, 4, none⟩ v4).setCell ⟨g, 5, none⟩ v5).setCell ⟨g, 6, none⟩ v6).setCell ⟨g, 7, none⟩ v7).setCell ⟨g, 8, none⟩ v8).setCell ⟨g, 9, none⟩ v9).setCell ⟨g, 10, none⟩ v10) :=
  (((((((((Only.setCell g 1 v1 _).trans (Only.setCell g 2 v2 _)).trans (Only.setCell g 3 v3 _)).trans (Only.setCell g 4 v4 _)).trans (Only.setCell g 5 v5 _)).trans (Only.setCell g 6 v6 _)).trans (Only.setCell g 7 v7 _)).trans (Only.setCell g 8 v8 _)).trans (Only.setCell g 9 v9 _)).trans (Only.setCell g 10 v10 _)
theorem fm_chain {w : World} {g : Nat} {a0 a1 a2 a3 a4 a5 a6 a7 a8 a9 a10 a11 a12 a13 a14 : Value} (h : w.heap[g]? = some (.cells #[a0, a1, a2, a3, a4, a5, a6, a7, a8, a9, a10, a11, a12, a13, a14] 84 (0, 0))) (v1 v2 v3 v4 v5 v6 v7 v8 v9 v10 : Value) :
    ((((((((((w.setCell ⟨g, 1, none⟩ v1).setCell ⟨g, 2, none⟩ v2).setCell ⟨g, 3, none⟩ v3).setCell ⟨g, 4, none⟩ v4).setCell ⟨g, 5, none⟩ v5).setCell ⟨g, 6, none⟩ v6).setCell ⟨g, 7, none⟩ v7).setCell ⟨g, 8, none⟩ v8).setCell ⟨g, 9, none⟩ v9).setCell ⟨g, 10, none⟩ v10).heap[g]? = some (.cells #[a0, v1, v2, v3, v4, v5, v6, v7, v8, v9, v10, a11, a12, a13, a14] 84 (0, 0)) := by
  have h1 : (w.setCell ⟨g, 1, none⟩ v1).heap[g]? = some (.cells #[a0, v1, a2, a3, a4, a5, a6, a7, a8, a9, a10, a11, a12, a13, a14] 84 (0, 0)) := heap_setCell_same _ g 1 _ 84 v1 h
  have h2 : ((w.setCell ⟨g, 1, none⟩ v1).setCell ⟨g, 2, none⟩ v2).heap[g]? = some (.cells #[a0, v1, v2, a3, a4, a5, a6, a7, a8, a9, a10, a11, a12, a13, a14] 84 (0, 0)) := heap_setCell_same _ g 2 _ 84 v2 h1
  have h3 : (((w.setCell ⟨g, 1, none⟩ v1).setCell ⟨g, 2, none⟩ v2).setCell ⟨g, 3, none⟩ v3).heap[g]? = some (.cells #[a0, v1, v2, v3, a4, a5, a6, a7, a8, a9, a10, a11, a12, a13, a14] 84 (0, 0)) := heap_setCell_same _ g 3 _ 84 v3 h2
  have h4 : ((((w.setCell ⟨g, 1, none⟩ v1).setCell ⟨g, 2, none⟩ v2).setCell ⟨g, 3, none⟩ v3).setCell ⟨g, 4, none⟩ v4).heap[g]? = some (.cells #[a0, v1, v2, v3, v4, a5, a6, a7, a8, a9, a10, a11, a12, a13, a14] 84 (0, 0)) := heap_setCell_same _ g 4 _ 84 v4 h3
  have h5 : (((((w.setCell ⟨g, 1, none⟩ v1).setCell ⟨g, 2, none⟩ v2).setCell ⟨g, 3, none⟩ v3).setCell ⟨g, 4, none⟩ v4).setCell ⟨g, 5, none⟩ v5).heap[g]? = some (.cells #[a0, v1, v2, v3, v4, v5, a6, a7, a8, a9, a10, a11, a12, a13, a14] 84 (0, 0)) := heap_setCell_same _ g 5 _ 84 v5 h4
  have h6 : ((((((w.setCell ⟨g, 1, none⟩ v1).setCell ⟨g, 2, none⟩ v2).setCell ⟨g, 3, none⟩ v3).setCell ⟨g, 4, none⟩ v4).setCell ⟨g, 5, none⟩ v5).setCell ⟨g, 6, none⟩ v6).heap[g]? = some (.cells #[a0, v1, v2, v3, v4, v5, v6, a7, a8, a9, a10, a11, a12, a13, a14] 84 (0, 0)) := heap_setCell_same _ g 6 _ 84 v6 h5
  have h7 : (((((((w.setCell ⟨g, 1, none⟩ v1).setCell ⟨g, 2, none⟩ v2).setCell ⟨g, 3, none⟩ v3).setCell ⟨g, 4, none⟩ v4).setCell ⟨g, 5, none⟩ v5).setCell ⟨g, 6, none⟩ v6).setCell ⟨g, 7, none⟩ v7).heap[g]? = some (.cells #[a0, v1, v2, v3, v4, v5, v6, v7, a8, a9, a10, a11, a12, a13, a14] 84 (0, 0)) := heap_setCell_same _ g 7 _ 84 v7 h6
  have h8 : ((((((((w.setCell ⟨g, 1, none⟩ v1).setCell ⟨g, 2, none⟩ v2).setCell ⟨g, 3, none⟩ v3).setCell ⟨g, 4, none⟩ v4).setCell ⟨g, 5, none⟩ v5).setCell ⟨g, 6, none⟩ v6).setCell ⟨g, 7, none⟩ v7).setCell ⟨g, 8, none⟩ v8).heap[g]? = some (.cells #[a0, v1, v2, v3, v4, v5, v6, v7, v8, a9, a10, a11, a12, a13, a14] 84 (0, 0)) := heap_setCell_same _ g 8 _ 84 v8 h7
  have h9 : (((((((((w.setCell ⟨g, 1, none⟩ v1).setCell ⟨g, 2, none⟩ v2).setCell ⟨g, 3, none⟩ v3).setCell ⟨g, 4, none⟩ v4).setCell ⟨g, 5, none⟩ v5).setCell ⟨g, 6, none⟩ v6).setCell ⟨g, 7, none⟩ v7).setCell ⟨g, 8, none⟩ v8).setCell ⟨g, 9, none⟩ v9).heap[g]? = some (.cells #[a0, v1, v2, v3, v4, v5, v6, v7, v8, v9, a10, a11, a12, a13, a14] 84 (0, 0)) := heap_setCell_same _ g 9 _ 84 v9 h8
  have h10 : ((((((((((w.setCell ⟨g, 1, none⟩ v1).setCell ⟨g, 2, none⟩ v2).setCell ⟨g, 3, none⟩ v3).setCell ⟨g, 4, none⟩ v4).setCell ⟨g, 5, none⟩ v5).setCell ⟨g, 6, none⟩ v6).setCell ⟨g, 7, none⟩ v7).setCell ⟨g, 8, none⟩ v8).setCell ⟨g, 9, none⟩ v9).setCell ⟨g, 10, none⟩ v10).heap[g]? = some (.cells #[a0, v1, v2, v3, v4, v5, v6, v7, v8, v9, v10, a11, a12, a13, a14] 84 (0, 0)) := heap_setCell_same _ g 10 _ 84 v10 h9
  exact h10
/-- What Format has made ahead of settle. -/
structure FmQ (w0 W w : World) (d g pt : Nat) (pu po : Option Addr) (s : Sp) : Prop where
  box : w.heap[g]? = some (.cells (spA d s.g.r s.g.lv (some ⟨pt, 0, none⟩) pu po none none false) 84 (0, 0))
  tab : Tb.Tab w pt s.g.tb
  us : Stp w pu s.g.us
  od : Stp w po s.od
  bl : Below w0.heap.size w0 w
theorem fm_both {w0 W u : World} {d g : Nat} {pu po : Option Addr} {m : Dsk} (h0 : Below w0.heap.size w0 W) (hB : Below W.heap.size W u) (hg0 : w0.heap.size ≤ g)
    (hg : W.heap[g]? = some (.cells #[.pointer (some ⟨d, 0, none⟩), .int .i64 0, .int .i64 0, .int .i64 0, .int .i64 0, .int .i64 0, .int .i64 0, .int .i64 0, .int .i64 0, .pointer none, .pointer none, .pointer po, .pointer none, .map none, .bool false] 84 (0, 0)))
    (hT : Tb.Tab u W.heap.size (fun _ => 0)) (hpu : Stp u pu (usedM m (ldA m))) (hpo : Stp W po (usedM m (ldB m))) :
    Hid (FmQ w0 W ((((((((((u.setCell ⟨g, 1, none⟩ (.int .i64 (ldA m).ep)).setCell ⟨g, 2, none⟩ (.int .i64 (pgOf m : Int))).setCell ⟨g, 3, none⟩ (.int .i64 0)).setCell ⟨g, 4, none⟩ (.int .i64 0)).setCell ⟨g, 5, none⟩ (.int .i64 0)).setCell ⟨g, 6, none⟩ (.int .i64 0)).setCell ⟨g, 7, none⟩ (.int .i64 0)).setCell ⟨g, 8, none⟩ (.int .i64 0)).setCell ⟨g, 9, none⟩ (.pointer (some ⟨W.heap.size, 0, none⟩))).setCell ⟨g, 10, none⟩ (.pointer pu)) d g W.heap.size pu po (fmtS m)) := Lib.hid (by
  have hl := lt_of_block hg
  have hgu := (hB.block g hl).trans hg
  have hO := fm_only u g (.int .i64 (ldA m).ep) (.int .i64 (pgOf m : Int)) (.int .i64 0) (.int .i64 0) (.int .i64 0) (.int .i64 0) (.int .i64 0) (.int .i64 0) (.pointer (some ⟨W.heap.size, 0, none⟩)) (.pointer pu)
  refine ⟨fm_chain hgu _ _ _ _ _ _ _ _ _ _, hT.only hO (by omega), ?_, ?_, hO.below (Below.more h0 hB h0.size) (Nat.le_trans h0.size hB.size) hg0⟩
  · refine hpu.chg2 (Chg.of_only (G := [g]) hO (by simp)) (fun k hk => ?_)
    obtain rfl := List.mem_singleton.1 hk
    exact .inr ⟨_, _, _, hgu, by simp⟩
  · refine (hpo.below hB).chg2 (Chg.of_only (G := [g]) hO (by simp)) (fun k hk => ?_)
    obtain rfl := List.mem_singleton.1 hk
    exact .inr ⟨_, _, _, hgu, by simp⟩)
section
variable {w : World} {d : Nat} {F : List Nat} {m : Dsk}
set_option maxHeartbeats 6400000 in
theorem format_go (hD : Dk w d F m) (hup : m.down = false) (hl : m.out.length ≤ 2048) (hE : ldE m = 0 ∨ ldE m = 5 ∨ ldE m = 13) (Q : Nat → Int → World → Prop)
    (hC : ∀ u g pt pk mb pu po, Spc0 u g d pt pk mb pu po (fmtS m) → Below w.heap.size w u → w.heap.size ≤ g → w.heap.size ≤ pt → w.heap.size ≤ pk → w.heap.size ≤ mb → Calls Tryz.prog 24 #[.pointer (some ⟨g, 0, none⟩), .int .i64 0] u fun e w' => ∃ E, e = .returned (.int .i64 E) ∧ Q g E w') :
    Calls Tryz.prog 9 #[.pointer (some ⟨d, 0, none⟩)] w fun e w' => ∃ g E, e = .returned (.tuple #[.pointer (if E = 0 then some ⟨g, 0, none⟩ else none), .int .i64 E]) ∧ Q g E w' := by
  have HCM := Lib.hid hC
  clear hC
  have HN := Lib.hid (load_any hD)
  have HD := Lib.hid hD
  have HA : Hid (∀ u : World, ((u.alloc (.cells #[.int .i64 0, .int .i64 0, .int .i64 0, .int .i64 0] 74)).alloc (.cells #[.int .i64 0, .int .i64 0, .int .i64 0, .int .i64 0] 74)).heap[u.heap.size]? = some (.cells #[.int .i64 0, .int .i64 0, .int .i64 0, .int .i64 0] 74 (0, 0)) ∧
      ((u.alloc (.cells #[.int .i64 0, .int .i64 0, .int .i64 0, .int .i64 0] 74)).alloc (.cells #[.int .i64 0, .int .i64 0, .int .i64 0, .int .i64 0] 74)).heap[u.heap.size + 1]? = some (.cells #[.int .i64 0, .int .i64 0, .int .i64 0, .int .i64 0] 74 (0, 0))) := Lib.hid fun u => ⟨heap_alloc2_old u _ _, heap_alloc2_new u _ _⟩
  clear hD
  unfold Rt.val at HN
  generalize hEE : ldE m = E at *
  go_enter Tryz.func9, Tryz.ntmps9
  have hq : ((E != 0) && (E != 5) && (E != 13)) = false := by rcases hE with rfl | rfl | rfl <;> rfl
  go_upto_region 2 with (go_at_call 42; refine HN.out.mono ?_; rintro e w7 ⟨rfl, hb7⟩)
  have hb8 : Below w7.heap.size w7 ((w7.alloc (.cells #[.int .i64 (ldA m).ep, .int .i64 (ldA m).pg, .int .i64 (ldA m).dr, .int .i64 (ldA m).wd] 74)).alloc (.cells #[.int .i64 (ldB m).ep, .int .i64 (ldB m).pg, .int .i64 (ldB m).dr, .int .i64 (ldB m).wd] 74)) := ((Below.refl _ _).alloc (Nat.le_refl _) _).alloc (by simp) _
  have HB4 := Lib.hid (Below.more hb7 hb8 hb7.size)
  have HRA : Hid (RtAt ((w7.alloc (.cells #[.int .i64 (ldA m).ep, .int .i64 (ldA m).pg, .int .i64 (ldA m).dr, .int .i64 (ldA m).wd] 74)).alloc (.cells #[.int .i64 (ldB m).ep, .int .i64 (ldB m).pg, .int .i64 (ldB m).dr, .int .i64 (ldB m).wd] 74)) w7.heap.size 74 (ldA m)) := Lib.hid (heap_alloc2_old w7 _ _)
  have HRB : Hid (RtAt ((w7.alloc (.cells #[.int .i64 (ldA m).ep, .int .i64 (ldA m).pg, .int .i64 (ldA m).dr, .int .i64 (ldA m).wd] 74)).alloc (.cells #[.int .i64 (ldB m).ep, .int .i64 (ldB m).pg, .int .i64 (ldB m).dr, .int .i64 (ldB m).wd] 74)) (w7.heap.size + 1) 74 (ldB m)) := Lib.hid (heap_alloc2_new w7 _ _)
  have HB47 : Hid (w.heap.size ≤ w7.heap.size) := Lib.hid hb7.size
  clear hb7 hb8
  generalize ((w7.alloc (.cells #[.int .i64 (ldA m).ep, .int .i64 (ldA m).pg, .int .i64 (ldA m).dr, .int .i64 (ldA m).wd] 74)).alloc (.cells #[.int .i64 (ldB m).ep, .int .i64 (ldB m).pg, .int .i64 (ldB m).dr, .int .i64 (ldB m).wd] 74)) = W4 at *
  generalize w7.heap.size + 1 = b5 at *
  generalize w7.heap.size = b4 at *
  have HU := Lib.hid (usedBy_any (ldB m) (HD.out.below HB4.out) hup hl)
  unfold Rt.val at HU
  have q0 := HRB.out.c0
  have q1 := HRB.out.c1
  have q2 := HRB.out.c2
  have q3 := HRB.out.c3
  go_cut [24] (fun v wx => v = .bool false ∧ wx = W4)
  case first =>
    rcases hE with rfl | rfl | rfl
    all_goals go_wp2_with fail
    all_goals go_meet
    all_goals exact ⟨rfl, rfl⟩
  case rest =>
    obtain ⟨rfl, hwc⟩ := hcut
    obtain rfl := hwc.symm
    go_upto_region 5 with (go_at_call 43; refine HU.out.mono ?_; rintro e w8 ⟨⟨po, rfl, hpo⟩, hb8⟩)
    have HG : Hid ((w8.alloc (.cells #[.pointer (some ⟨d, 0, none⟩), .int .i64 0, .int .i64 0, .int .i64 0, .int .i64 0, .int .i64 0, .int .i64 0, .int .i64 0, .int .i64 0, .pointer none, .pointer none, .pointer po, .pointer none, .map none, .bool false] 84)).heap[w8.heap.size]? = some (.cells #[.pointer (some ⟨d, 0, none⟩), .int .i64 0, .int .i64 0, .int .i64 0, .int .i64 0, .int .i64 0, .int .i64 0, .int .i64 0, .int .i64 0, .pointer none, .pointer none, .pointer po, .pointer none, .map none, .bool false] 84 (0, 0))) := Lib.hid (heap_alloc_new w8 _)
    have HB5 : Hid (Below W4.heap.size W4 (w8.alloc (.cells #[.pointer (some ⟨d, 0, none⟩), .int .i64 0, .int .i64 0, .int .i64 0, .int .i64 0, .int .i64 0, .int .i64 0, .int .i64 0, .int .i64 0, .pointer none, .pointer none, .pointer po, .pointer none, .map none, .bool false] 84))) := Lib.hid (hb8.alloc hb8.size _)
    have HP5 : Hid (Stp (w8.alloc (.cells #[.pointer (some ⟨d, 0, none⟩), .int .i64 0, .int .i64 0, .int .i64 0, .int .i64 0, .int .i64 0, .int .i64 0, .int .i64 0, .int .i64 0, .pointer none, .pointer none, .pointer po, .pointer none, .map none, .bool false] 84)) po (usedM m (ldB m))) := Lib.hid (hpo.below (alloc_below w8 _))
    have HG4 : Hid (W4.heap.size ≤ w8.heap.size) := Lib.hid hb8.size
    clear hpo hb8 q0 q1 q2 q3 HRB HU
    generalize (w8.alloc (.cells #[.pointer (some ⟨d, 0, none⟩), .int .i64 0, .int .i64 0, .int .i64 0, .int .i64 0, .int .i64 0, .int .i64 0, .int .i64 0, .int .i64 0, .pointer none, .pointer none, .pointer po, .pointer none, .map none, .bool false] 84)) = W at *
    generalize w8.heap.size = g at *
    have HBW : Hid (Below w.heap.size w W) := Lib.hid (Below.more HB4.out HB5.out HB4.out.size)
    have HRD : Hid (∀ u, Below W.heap.size W u → u.cell? ⟨b4, 0, none⟩ = some (.int .i64 (ldA m).ep) ∧ u.cell? ⟨b4, 1, none⟩ = some (.int .i64 (ldA m).pg) ∧ u.cell? ⟨b4, 2, none⟩ = some (.int .i64 (ldA m).dr) ∧ u.cell? ⟨b4, 3, none⟩ = some (.int .i64 (ldA m).wd)) := Lib.hid fun u hu =>
      have a := (HRA.out.below HB5.out).below hu
      ⟨a.c0, a.c1, a.c2, a.c3⟩
    have HRG : Hid (∀ u, Below W.heap.size W u → (u.cell? ⟨g, 1, none⟩ = some (.int .i64 0) ∧ u.cell? ⟨g, 2, none⟩ = some (.int .i64 0) ∧ u.cell? ⟨g, 3, none⟩ = some (.int .i64 0) ∧ u.cell? ⟨g, 4, none⟩ = some (.int .i64 0) ∧ u.cell? ⟨g, 5, none⟩ = some (.int .i64 0) ∧ u.cell? ⟨g, 6, none⟩ = some (.int .i64 0) ∧ u.cell? ⟨g, 7, none⟩ = some (.int .i64 0) ∧ u.cell? ⟨g, 8, none⟩ = some (.int .i64 0) ∧ u.cell? ⟨g, 9, none⟩ = some (.pointer none) ∧ u.cell? ⟨g, 10, none⟩ = some (.pointer none)) ∧ ∀ i, u.frozen? ⟨g, i, none⟩ = false) := Lib.hid fun u hu => by
      have h := (hu.block g (lt_of_block HG.out)).trans HG.out
      exact ⟨by simp only [cell_of_row _ _ _ _ _ _ h]; exact ⟨rfl, rfl, rfl, rfl, rfl, rfl, rfl, rfl, rfl, rfl⟩, fun i => frozen_of_row _ g i _ _ h⟩
    have HPG : Hid (∀ u, Below W.heap.size W u → Calls Tryz.prog 44 #[.pointer (some ⟨d, 0, none⟩)] u fun e w' => e = .returned (.int .i64 (pgOf m : Int)) ∧ u = w') := Lib.hid fun u hu => pagesOf_any (HD.out.below (Below.more HBW.out hu HBW.out.size)) hl
    have HUA : Hid (∀ u, Below W.heap.size W u → Calls Tryz.prog 43 #[.pointer (some ⟨d, 0, none⟩), .agg #[.int .i64 (ldA m).ep, .int .i64 (ldA m).pg, .int .i64 (ldA m).dr, .int .i64 (ldA m).wd]] u fun e w' => (∃ p, e = .returned (.pointer p) ∧ Stp w' p (usedM m (ldA m))) ∧ Below u.heap.size u w') := Lib.hid fun u hu => usedBy_any (ldA m) (HD.out.below (Below.more HBW.out hu HBW.out.size)) hup hl
    have hbg : b4 ≠ g := by
      have := lt_of_block HRA.out
      have := HG4.out
      omega
    obtain ⟨a0, a1, a2, a3⟩ := HRD.out W.drew (Below.refl _ _).drew
    go_region_held_law (fun u : World => u.cell? ⟨b4, 0, none⟩ = some (.int .i64 (ldA m).ep) ∧ u.cell? ⟨b4, 1, none⟩ = some (.int .i64 (ldA m).pg) ∧ u.cell? ⟨b4, 2, none⟩ = some (.int .i64 (ldA m).dr) ∧ u.cell? ⟨b4, 3, none⟩ = some (.int .i64 (ldA m).wd)) ((first
      | with_reducible exact HRD.out _ hk2
      | with_reducible exact HRD.out _ hk1
      | with_reducible exact ⟨(fm_read hbg ..).trans (HRD.out _ hk2).1, (fm_read hbg ..).trans (HRD.out _ hk2).2.1, (fm_read hbg ..).trans (HRD.out _ hk2).2.2.1, (fm_read hbg ..).trans (HRD.out _ hk2).2.2.2⟩
      | go_keep)) (first
      | (go_at_call 44; refine (HPG.out _ (Below.refl _ _).drew).mono ?_; rintro e w10 ⟨rfl, rfl⟩)
      | (go_at_call 45; refine (Tb.new_any _).mono ?_; rintro e w11 ⟨rfl, hT11, hb11⟩; have hk1 : Below W.heap.size W w11 := (Below.refl _ _).drew.trans hb11)
      | (go_at_call 43; refine (HUA.out _ hk1).mono ?_; rintro e w12 ⟨⟨pu, rfl, hpu⟩, hb12⟩; have hk2 : Below W.heap.size W w12 := Below.more hk1 hb12 hk1.size; obtain ⟨⟨g1, g2, g3, g4, g5, g6, g7, g8, g9, g10⟩, gf⟩ := HRG.out _ hk2))
    have hgw : w.heap.size ≤ g := Nat.le_trans HB4.out.size HG4.out
    have HT12 : Hid (Tb.Tab w12 W.heap.size (fun _ => 0)) := Lib.hid (Tb.Tab.below hT11 hb12)
    have HQ := fm_both HBW.out hk2 hgw HG.out HT12.out hpu HP5.out
    have HWS := Lib.hid (HBW.out.size)
    have HGW := Lib.hid hgw
    clear hk1 hk2 hT11 hb11 hb12 hpu gf g1 g2 g3 g4 g5 g6 g7 g8 g9 g10 a0 a1 a2 a3 HRD HRG HPG HUA HT12 hbg hgw HA HN HRA HP5
    generalize ((((((((((w12.setCell ⟨g, 1, none⟩ (.int .i64 (ldA m).ep)).setCell ⟨g, 2, none⟩ (.int .i64 (pgOf m : Int))).setCell ⟨g, 3, none⟩ (.int .i64 0)).setCell ⟨g, 4, none⟩ (.int .i64 0)).setCell ⟨g, 5, none⟩ (.int .i64 0)).setCell ⟨g, 6, none⟩ (.int .i64 0)).setCell ⟨g, 7, none⟩ (.int .i64 0)).setCell ⟨g, 8, none⟩ (.int .i64 0)).setCell ⟨g, 9, none⟩ (.pointer (some ⟨W.heap.size, 0, none⟩))).setCell ⟨g, 10, none⟩ (.pointer pu)) = w13 at *
    generalize W.heap.size = pt at *
    have HSE := Lib.hid (settle_any (s := fmtS m) HQ.out.box HQ.out.tab HQ.out.us HQ.out.od)
    go_upto_region 8 with (first
      | (go_at_call 46; refine HSE.out.mono ?_; rintro e w14 ⟨rfl, ⟨pk, mb, k1, k2, hx⟩, ho⟩; have HC14 := Lib.hid (HCM.out w14 g pt pk mb pu po hx (ho.below HQ.out.bl HQ.out.bl.size HGW.out) HGW.out HWS.out (Nat.le_trans HQ.out.bl.size k1) (Nat.le_trans HQ.out.bl.size k2)); clear k1 k2 hx ho)
      | (go_at_call 24; refine HC14.out.mono ?_; rintro e w15 ⟨E', rfl, hQ⟩; have HQ15 := Lib.hid hQ; clear hQ))
    by_cases hE0 : E' = 0
    · subst hE0
      go_wp2_with fail
      go_ret2
      exact ⟨g, 0, rfl, HQ15.out⟩
    · have hb : (E' != 0) = true := by simpa using hE0
      have HEN := Lib.hid hE0
      clear hE0
      go_wp2_with fail
      go_ret2
      exact ⟨g, E', by rw [if_neg HEN.out]; rfl, HQ15.out⟩
set_option maxHeartbeats 1600000 in
theorem format_bad (hD : Dk w d F m) (h0 : ldE m ≠ 0) (h5 : ldE m ≠ 5) (h13 : ldE m ≠ 13) :
    Calls Tryz.prog 9 #[.pointer (some ⟨d, 0, none⟩)] w fun e w' => e = .returned (.tuple #[.pointer none, .int .i64 (ldE m)]) ∧ Below w.heap.size w w' := by
  have HN := Lib.hid (load_any hD)
  clear hD
  unfold Rt.val at HN
  generalize ldE m = E at *
  go_enter Tryz.func9, Tryz.ntmps9
  have q0 : (E != 0) = true := by simpa using h0
  have q5 : (E != 5) = true := by simpa using h5
  have q13 : (E != 13) = true := by simpa using h13
  clear h0 h5 h13
  go_upto_region 2 with (go_at_call 42; refine HN.out.mono ?_; rintro e w7 ⟨rfl, hb7⟩)
  have hb8 : Below w7.heap.size w7 ((w7.alloc (.cells #[.int .i64 (ldA m).ep, .int .i64 (ldA m).pg, .int .i64 (ldA m).dr, .int .i64 (ldA m).wd] 74)).alloc (.cells #[.int .i64 (ldB m).ep, .int .i64 (ldB m).pg, .int .i64 (ldB m).dr, .int .i64 (ldB m).wd] 74)) := ((Below.refl _ _).alloc (Nat.le_refl _) _).alloc (by simp) _
  have HB4 := Lib.hid (Below.more hb7 hb8 hb7.size)
  clear hb7 hb8
  generalize ((w7.alloc (.cells #[.int .i64 (ldA m).ep, .int .i64 (ldA m).pg, .int .i64 (ldA m).dr, .int .i64 (ldA m).wd] 74)).alloc (.cells #[.int .i64 (ldB m).ep, .int .i64 (ldB m).pg, .int .i64 (ldB m).dr, .int .i64 (ldB m).wd] 74)) = W4 at *
  go_wp2_with fail
  go_ret2
  exact ⟨rfl, HB4.out⟩
end
end Go.Proofs.YthcnofdihigohaaGreat
end
