/- Texts QDisk to PCommit2 of this seat, laid into one. -/
import Derived.Deep.RegionHeld3
import Derived.Test.YthcnofdihigohaaGreatM10
import Derived.Test.YthcnofdihigohaaGreatM12
import Derived.Test.YthcnofdihigohaaGreatM15
import Derived.Test.YthcnofdihigohaaGreatM16
section
/- What laying pages, and a root, makes of a disk: without memory. -/
set_option maxRecDepth 20000
set_option linter.unusedSimpArgs false
namespace Go.Proofs.YthcnofdihigohaaGreat
open Go.RowKit

/-- The first sectors of a page set. -/
def pgSetN (L : List (List Nat)) (p : Nat) (b : List Nat) : Nat → List (List Nat)
  | 0 => L
  | i + 1 => (pgSetN L p b i).set (4 * p + i) ((b.drop (i * 128)).take 128)
def pgSet (L : List (List Nat)) (p : Nat) (b : List Nat) : List (List Nat) := pgSetN L p b 4
theorem pgSetN_len (L : List (List Nat)) (p : Nat) (b : List Nat) (i : Nat) : (pgSetN L p b i).length = L.length := by
  induction i with
  | zero => rfl
  | succ i ih => show ((pgSetN L p b i).set _ _).length = _; rw [List.length_set, ih]
theorem pgSetN_other (L : List (List Nat)) (p : Nat) (b : List Nat) (i j : Nat) (h : j / 4 ≠ p) (hi : i ≤ 4) : sec (pgSetN L p b i) j = sec L j := by
  induction i with
  | zero => rfl
  | succ i ih =>
    have h1 := ih (by omega)
    show sec ((pgSetN L p b i).set (4 * p + i) _) j = _
    rw [← h1]
    unfold sec
    rw [List.getD_eq_getElem?_getD, List.getD_eq_getElem?_getD, List.getElem?_set_ne (by omega)]
theorem pgSetN_same (L : List (List Nat)) (p : Nat) (b : List Nat) (hp : 4 * p + 4 ≤ L.length) : ∀ (i j : Nat), j < i → i ≤ 4 → sec (pgSetN L p b i) (4 * p + j) = (b.drop (j * 128)).take 128
  | 0, j, h, _ => by omega
  | i + 1, j, h, hi => by
    show sec ((pgSetN L p b i).set (4 * p + i) _) (4 * p + j) = _
    rw [sec_set _ (by rw [pgSetN_len]; omega)]
    by_cases e : i = j
    · subst e; rw [if_pos rfl]
    · rw [if_neg (by omega)]
      exact pgSetN_same L p b hp i j (by omega) (by omega)
theorem cat_four (f : Nat → List Nat) : cat f 4 = f 0 ++ f 1 ++ f 2 ++ f 3 := by
  show ((([] ++ f 0) ++ f 1) ++ f 2) ++ f 3 = _
  rw [List.nil_append]
theorem cut_four (b : List Nat) (h : b.length = 512) : (b.drop (0 * 128)).take 128 ++ (b.drop (1 * 128)).take 128 ++ (b.drop (2 * 128)).take 128 ++ (b.drop (3 * 128)).take 128 = b := by
  have e : ∀ k, (b.drop k).take 128 ++ (b.drop (k + 128)) = b.drop k := fun k => by
    rw [← List.drop_drop]; exact List.take_append_drop 128 (b.drop k)
  have e3 : (b.drop 384).take 128 = b.drop 384 := List.take_of_length_le (by rw [List.length_drop]; omega)
  show (b.drop 0).take 128 ++ (b.drop 128).take 128 ++ (b.drop 256).take 128 ++ (b.drop 384).take 128 = b
  rw [List.append_assoc, List.append_assoc, e3, e 256, e 128]
  have := e 0
  rw [List.drop_zero] at this ⊢
  exact this
theorem pageB_same (L : List (List Nat)) (p : Nat) (b : List Nat) (hp : 4 * p + 4 ≤ L.length) (hb : b.length = 512) : pageB (pgSet L p b) p = b := by
  unfold pageB pgSet
  rw [cat_four, pgSetN_same L p b hp 4 0 (by omega) (by omega), pgSetN_same L p b hp 4 1 (by omega) (by omega), pgSetN_same L p b hp 4 2 (by omega) (by omega), pgSetN_same L p b hp 4 3 (by omega) (by omega)]
  exact cut_four b hb
/-- Pages that have the same sectors. -/
theorem pageB_congr {L L' : List (List Nat)} {p : Nat} (h : ∀ j, j < 4 → sec L (4 * p + j) = sec L' (4 * p + j)) : pageB L p = pageB L' p := by
  unfold pageB
  rw [cat_four, cat_four, h 0 (by omega), h 1 (by omega), h 2 (by omega), h 3 (by omega)]
theorem pageB_other (L : List (List Nat)) (p q : Nat) (b : List Nat) (h : q ≠ p) : pageB (pgSet L p b) q = pageB L q :=
  pageB_congr fun j hj => pgSetN_other L p b 4 _ (by omega) (Nat.le_refl _)
/-- Pages set one behind the other. -/
def wrP (L : List (List Nat)) : List (Nat × List Nat) → List (List Nat)
  | [] => L
  | x :: ps => wrP (pgSet L x.1 x.2) ps
theorem wrP_app (L : List (List Nat)) (a b : List (Nat × List Nat)) : wrP L (a ++ b) = wrP (wrP L a) b := by
  induction a generalizing L with
  | nil => rfl
  | cons x a ih => exact ih _
theorem wrP_len (L : List (List Nat)) (ps : List (Nat × List Nat)) : (wrP L ps).length = L.length := by
  induction ps generalizing L with
  | nil => rfl
  | cons x ps ih => show (wrP (pgSet L x.1 x.2) ps).length = _; rw [ih]; exact pgSetN_len _ _ _ _
theorem wrP_sec (L : List (List Nat)) (ps : List (Nat × List Nat)) (j : Nat) (h : ∀ x ∈ ps, x.1 ≠ j / 4) : sec (wrP L ps) j = sec L j := by
  induction ps generalizing L with
  | nil => rfl
  | cons x ps ih =>
    show sec (wrP (pgSet L x.1 x.2) ps) j = _
    rw [ih _ (fun y hy => h y (by simp [hy]))]
    exact pgSetN_other L x.1 x.2 4 j (fun e => h x (by simp) e.symm) (Nat.le_refl _)
theorem wrP_other (L : List (List Nat)) (ps : List (Nat × List Nat)) (p : Nat) (h : ∀ x ∈ ps, x.1 ≠ p) : pageB (wrP L ps) p = pageB L p :=
  pageB_congr fun j hj => wrP_sec L ps _ (fun x hx => by rw [show (4 * p + j) / 4 = p by omega]; exact h x hx)
theorem wrP_at (L : List (List Nat)) (ps : List (Nat × List Nat)) (hn : (ps.map (·.1)).Nodup) (x : Nat × List Nat) (hx : x ∈ ps) (hp : 4 * x.1 + 4 ≤ L.length) (hb : x.2.length = 512) : pageB (wrP L ps) x.1 = x.2 := by
  induction ps generalizing L with
  | nil => cases hx
  | cons y ps ih =>
    rw [List.map_cons, List.nodup_cons] at hn
    show pageB (wrP (pgSet L y.1 y.2) ps) x.1 = _
    rcases List.mem_cons.1 hx with rfl | h1
    · rw [wrP_other _ ps _ (fun z hz e => hn.1 (List.mem_map.2 ⟨z, hz, e⟩))]
      exact pageB_same L _ _ hp hb
    · exact ih _ hn.2 h1 (by rw [show (pgSet L y.1 y.2).length = L.length from pgSetN_len _ _ _ _]; exact hp)
theorem last_put {m : Dsk} {i : Nat} {s : List Nat} (hd : m.down = false) (hi : i < m.out.length) (hs : s.length = 128) (hf : m.fuse ≠ 0) :
    putM m (i : Int) s = { burns m with row := m.row ++ [(i, s)] } ∧ putE m (i : Int) s = 0 ∧ (putM m (i : Int) s).last = m.last.set i s := by
  have h1 : m.has (i : Int) = true := has_true (by omega) (by omega)
  have e : putM m (i : Int) s = { burns m with row := m.row ++ [(i, s)] } := by
    unfold putM
    rw [if_neg (by simp [hd]), if_neg (by simp [h1]), if_neg (by simp [hs]), if_neg hf]; rfl
  refine ⟨e, ?_, ?_⟩
  · unfold putE
    rw [if_neg (by simp [hd]), if_neg (by simp [h1]), if_neg (by simp [hs]), if_neg hf]
  · rw [e]
    show appAll (m.row ++ [(i, s)]) m.out = _
    rw [appAll_snoc]; rfl
theorem putQ_burnt {m : Dsk} {i : Nat} {s : List Nat} (hd : m.down = false) (hi : i < m.out.length) (hs : s.length = 128) (hf : m.fuse = 0) :
    putM m (i : Int) s = burnt m ∧ putE m (i : Int) s = 9 := by
  have h1 : m.has (i : Int) = true := has_true (by omega) (by omega)
  constructor
  · unfold putM
    rw [if_neg (by simp [hd]), if_neg (by simp [h1]), if_neg (by simp [hs]), if_pos hf]
  · unfold putE
    rw [if_neg (by simp [hd]), if_neg (by simp [h1]), if_neg (by simp [hs]), if_pos hf]
/-- Amid writes: the disk is up, or a write was refused. -/
structure Lw (m : Dsk) (S : Nat → Prop) (L : List (List Nat)) (M : Dsk × Int) : Prop where
  out : M.1.out = m.out
  row : ∀ x ∈ M.1.row, S x.1
  st : (M.2 = 0 ∧ M.1.down = false ∧ M.1.last = L ∧ (m.fuse = -1 → M.1.fuse = -1)) ∨ (M.2 = 9 ∧ M.1.down = true ∧ m.fuse ≠ -1)
theorem wpE_lw {m m0 : Dsk} {S : Nat → Prop} {p : Nat} {b : List Nat} (h : Lw m0 S m.last (m, 0)) (hp : 4 * p + 4 ≤ m0.out.length) (hb : b.length = 512) : ∀ i, i ≤ 4 → Lw m0 (fun x => S x ∨ x / 4 = p) (pgSetN m.last p b i) (wpE m p b i)
  | 0, _ => ⟨h.out, fun x hx => .inl (h.row x hx), h.st⟩
  | i + 1, hi => by
    have ih := wpE_lw h hp hb i (by omega)
    have e : wpE m p b (i + 1) = if (wpE m p b i).2 ≠ 0 then wpE m p b i else (putM (wpE m p b i).1 ((4 * p + i : Nat) : Int) ((b.drop (i * 128)).take 128), putE (wpE m p b i).1 ((4 * p + i : Nat) : Int) ((b.drop (i * 128)).take 128)) := rfl
    rw [e]
    rcases ih.st with ⟨h0, hd, hl, hf⟩ | ⟨h9, hd, hf⟩
    · rw [if_neg (by simp [h0])]
      have hs : ((b.drop (i * 128)).take 128).length = 128 := by rw [List.length_take, List.length_drop]; omega
      have hlt : 4 * p + i < (wpE m p b i).1.out.length := by rw [ih.out]; omega
      by_cases hz : (wpE m p b i).1.fuse = 0
      · obtain ⟨e1, e2⟩ := putQ_burnt hd hlt hs hz
        rw [e1, e2]
        exact ⟨ih.out, ih.row, .inr ⟨rfl, rfl, fun h => by have := hf h; omega⟩⟩
      · obtain ⟨e1, e2, e3⟩ := last_put hd hlt hs hz
        rw [e2]
        refine ⟨by rw [e1]; exact ih.out, fun x hx => ?_, .inl ⟨rfl, by rw [e1]; exact hd, by rw [e3, hl]; rfl, fun h => by rw [e1]; show (if (wpE m p b i).1.fuse = -1 then (-1 : Int) else _) = -1; rw [if_pos (hf h)]⟩⟩
        rw [e1] at hx
        rcases List.mem_append.1 (show x ∈ (wpE m p b i).1.row ++ [(4 * p + i, _)] from hx) with h1 | h1
        · exact ih.row x h1
        · rw [List.mem_singleton.1 h1]; exact .inr (by show (4 * p + i) / 4 = p; omega)
    · rw [if_pos (by rw [h9]; decide)]
      exact ⟨ih.out, ih.row, .inr ⟨h9, hd, hf⟩⟩
/-- Pages that may be written. -/
def PsOk (n : Nat) (ps : List (Nat × List Nat)) : Prop := ∀ x ∈ ps, 4 * x.1 + 4 ≤ n ∧ x.2.length = 512
theorem layW_lw {m : Dsk} {ps : List (Nat × List Nat)} (hd : m.down = false) (hr : m.row = []) (hps : PsOk m.out.length ps) : ∀ k, k ≤ ps.length → Lw m (fun x => ∃ y ∈ ps, x / 4 = y.1) (wrP m.out (ps.take k)) (layW m ps k)
  | 0, _ => ⟨rfl, fun x hx => (by rw [show (layW m ps 0).1.row = [] from hr] at hx; cases hx), .inl ⟨rfl, hd, by show appAll m.row m.out = _; rw [hr]; rfl, fun h => h⟩⟩
  | k + 1, hk => by
    have ih := layW_lw hd hr hps k (by omega)
    have e : layW m ps (k + 1) = if (layW m ps k).2 ≠ 0 then layW m ps k else wpE (layW m ps k).1 (ps.getD k (0, [])).1 (ps.getD k (0, [])).2 4 := rfl
    have hx : ps.getD k (0, []) ∈ ps := by rw [List.getD_eq_getElem?_getD, List.getElem?_eq_getElem (by omega)]; exact List.getElem_mem _
    have et : ps.take (k + 1) = ps.take k ++ [ps.getD k (0, [])] := by
      rw [List.take_add_one, List.getD_eq_getElem?_getD, List.getElem?_eq_getElem (by omega)]; rfl
    rw [e]
    rcases ih.st with ⟨h0, hd1, hl, hf⟩ | ⟨h9, hd1, hf⟩
    · rw [if_neg (by simp [h0])]
      have h1 := wpE_lw (m := (layW m ps k).1) (m0 := m) (S := fun x => ∃ y ∈ ps, x / 4 = y.1) (p := (ps.getD k (0, [])).1) (b := (ps.getD k (0, [])).2) ⟨ih.out, ih.row, .inl ⟨rfl, hd1, rfl, hf⟩⟩ (hps _ hx).1 (hps _ hx).2 4 (Nat.le_refl _)
      refine ⟨h1.out, fun x hx2 => (h1.row x hx2).elim id (fun h => ⟨_, hx, h⟩), ?_⟩
      rw [et, wrP_app, ← hl]
      exact h1.st
    · rw [if_pos (by rw [h9]; decide)]
      exact ⟨ih.out, ih.row, .inr ⟨h9, hd1, hf⟩⟩
/-- What a lay leaves: all is out; or the disk is down, and what was out is, and what waits are sectors of the pages; or the pages are out, and at most the root waits. -/
inductive Laid (m : Dsk) (ps : List (Nat × List Nat)) (pl : Nat) (blk : List Nat) (M : Dsk × Int) : Prop
  | all (e : M.2 = 0) (d : M.1.down = false) (r : M.1.row = []) (o : M.1.out = (wrP m.out ps).set pl blk) (f : m.fuse = -1 → M.1.fuse = -1)
  | cut (e : M.2 = 9) (d : M.1.down = true) (f : m.fuse ≠ -1) (o : M.1.out = m.out) (r : ∀ x ∈ M.1.row, ∃ y ∈ ps, x.1 / 4 = y.1)
  | half (e : M.2 = 9) (d : M.1.down = true) (f : m.fuse ≠ -1) (o : M.1.out = wrP m.out ps) (r : M.1.row = [] ∨ M.1.row = [(pl, blk)])
theorem lay_laid {m : Dsk} {ps : List (Nat × List Nat)} {r : Rt} {pl : Nat} (hd : m.down = false) (hr : m.row = []) (hps : PsOk m.out.length ps) (hp : place r.ep = (pl : Int)) (hpl : pl < m.out.length) : Laid m ps pl (block r) (layM m ps r) := by
  have h1 := layW_lw hd hr hps ps.length (Nat.le_refl _)
  rw [List.take_length] at h1
  unfold layM
  generalize layW m ps ps.length = A at *
  obtain ⟨M, e⟩ := A
  simp only at h1 ⊢
  rcases h1.st with ⟨h0, hd1, hl, hf⟩ | ⟨h9, hd1, hf⟩
  · simp only at h0 hd1 hl hf
    subst h0
    rw [if_neg (by simp)]
    have ho : M.out = m.out := h1.out
    by_cases hz : M.fuse = 0
    · have e1 : barE M = 9 := by unfold barE; rw [if_neg (by simp [hd1]), if_pos hz]
      have e2 : barM M = burnt M := by unfold barM; rw [if_neg (by simp [hd1]), if_pos hz]
      rw [e1, if_pos (by decide), e2]
      exact .cut rfl rfl (fun h => by have := hf h; omega) ho h1.row
    · have e1 : barE M = 0 := by unfold barE; rw [if_neg (by simp [hd1]), if_neg hz]
      have e2 : barM M = { burns M with out := M.last, row := [] } := by unfold barM; rw [if_neg (by simp [hd1]), if_neg hz]
      rw [e1, if_neg (by simp)]
      obtain ⟨B, hB⟩ : ∃ B, barM M = B := ⟨_, rfl⟩
      have b1 : B.down = false := by rw [← hB, e2]; exact hd1
      have b2 : B.row = [] := by rw [← hB, e2]
      have b3 : B.out = wrP m.out ps := by rw [← hB, e2]; exact hl
      have b4 : m.fuse = -1 → B.fuse = -1 := fun h => by rw [← hB, e2]; show (if M.fuse = -1 then (-1 : Int) else _) = -1; rw [if_pos (hf h)]
      rw [hB, hp]
      have hlt : pl < B.out.length := by rw [b3, wrP_len]; exact hpl
      by_cases hz2 : B.fuse = 0
      · obtain ⟨c1, c2⟩ := putQ_burnt b1 hlt (block_len r) hz2
        rw [c2, if_pos (by decide), c1]
        exact .half rfl rfl (fun h => by have := b4 h; omega) b3 (.inl b2)
      · obtain ⟨c1, c2, c3⟩ := last_put b1 hlt (block_len r) hz2
        rw [c2, if_neg (by simp)]
        obtain ⟨C, hC⟩ : ∃ C, putM B (pl : Int) (block r) = C := ⟨_, rfl⟩
        have d1 : C.down = false := by rw [← hC, c1]; exact b1
        have d2 : C.row = [(pl, block r)] := by rw [← hC, c1, b2]; rfl
        have d3 : C.out = wrP m.out ps := by rw [← hC, c1]; exact b3
        have d4 : m.fuse = -1 → C.fuse = -1 := fun h => by rw [← hC, c1]; show (if B.fuse = -1 then (-1 : Int) else _) = -1; rw [if_pos (b4 h)]
        have d5 : C.last = (wrP m.out ps).set pl (block r) := by
          rw [← hC, c3]
          show (appAll B.row B.out).set pl (block r) = _
          rw [b2, b3]; rfl
        rw [hC]
        by_cases hz3 : C.fuse = 0
        · have e3 : barE C = 9 := by unfold barE; rw [if_neg (by simp [d1]), if_pos hz3]
          have e4 : barM C = burnt C := by unfold barM; rw [if_neg (by simp [d1]), if_pos hz3]
          rw [e3, e4]
          exact .half rfl rfl (fun h => by have := d4 h; omega) d3 (.inr d2)
        · have e3 : barE C = 0 := by unfold barE; rw [if_neg (by simp [d1]), if_neg hz3]
          have e4 : barM C = { burns C with out := C.last, row := [] } := by unfold barM; rw [if_neg (by simp [d1]), if_neg hz3]
          rw [e3, e4]
          exact .all rfl d1 rfl d5 (fun h => by show (if C.fuse = -1 then (-1 : Int) else _) = -1; rw [if_pos (d4 h)])
  · simp only at h9 hd1
    rw [if_pos (by rw [h9]; decide)]
    exact .cut h9 hd1 hf h1.out h1.row
end Go.Proofs.YthcnofdihigohaaGreat
end
section
/- What the bytes of a directory tell. -/
set_option linter.unusedSimpArgs false
namespace Go.Proofs.YthcnofdihigohaaGreat.Tb
open Go.RowKit Go.Proofs.YthcnofdihigohaaGreat.Bi

theorem dir_val (x y z u : Int) (f : Nat → Bool) (k : Nat) (hk : k < 4) : valB (dirB x y z u f) k = lvF x y z u k := by
  unfold dirB
  rw [List.append_assoc, valB_app _ _ _ (by rw [fours_len]; omega), valB_fours _ _ _ hk]
theorem dir_drop (x y z u : Int) (f : Nat → Bool) : (dirB x y z u f).drop 80 = List.replicate 432 0 := by
  unfold dirB
  exact List.drop_left' (by rw [List.length_append, fours_len, rowF_len])
theorem dir_set (x y z u : Int) (f : Nat → Bool) : dsB (dirB x y z u f) = rowF f 64 := by
  unfold dsB dirB
  rw [List.append_assoc, List.drop_left' (by rw [fours_len]), List.take_left' (by rw [rowF_len])]
theorem mayI_pgN {x : Int} (h : mayI x = true) : pgN x.toNat = true := by
  unfold mayI pgI at h
  unfold pgN
  simp only [Bool.or_eq_true, beq_iff_eq, Bool.and_eq_true, decide_eq_true_eq] at h ⊢
  omega
theorem dir_ok {x y z u : Int} (h : okL x y z u = true) (f : Nat → Bool) : dirE 512 (dirB x y z u f) = 0 := by
  unfold dirE
  rw [if_neg (by decide)]
  have h1 : okV (valB (dirB x y z u f)) 4 = true := decide_eq_true fun j hj => by
    rw [dir_val _ _ _ _ _ _ hj]
    unfold okL at h
    simp only [Bool.and_eq_true] at h
    rcases (show j = 0 ∨ j = 1 ∨ j = 2 ∨ j = 3 by omega) with rfl | rfl | rfl | rfl
    · exact mayI_pgN h.1.1.1
    · exact mayI_pgN h.1.1.2
    · exact mayI_pgN h.1.2
    · exact mayI_pgN h.2
  have h2 : allZ ((dirB x y z u f).drop 80) 432 = true := decide_eq_true fun j hj => by
    rw [dir_drop, List.getD_eq_getElem?_getD, List.getElem?_replicate, if_pos hj]; rfl
  rw [h1, h2]; rfl
theorem dir_trs {f : Nat → Bool} (hs : Sub 512 f) : trs (rowF f 64) = f := by
  funext i
  by_cases hi : i < 512
  · exact trs_rowF (by omega)
  · rw [trs_far (by rw [rowF_len]; omega), hs i (by omega)]
end Go.Proofs.YthcnofdihigohaaGreat.Tb
end
section
/- A state that lies on a disk is loaded as it is: without memory. -/
set_option maxRecDepth 20000
set_option linter.unusedSimpArgs false
namespace Go.Proofs.YthcnofdihigohaaGreat
open Go.RowKit

/-- A directory's bytes. -/
def dirF (lv : Nat → Nat) (f : Nat → Bool) : List Nat := Tb.dirB (lv 0 : Nat) (lv 1 : Nat) (lv 2 : Nat) (lv 3 : Nat) f
/-- A state lies on these sectors. -/
structure LiesOn (L : List (List Nat)) (st : St) : Prop where
  len : 4 * st.r.pg ≤ (L.length : Int)
  dir : pageB L st.r.dr.toNat = dirF st.lv (usF st.r st.lv st.tb)
  leaf : ∀ i, i < 4 → st.lv i ≠ 0 → pageB L (st.lv i) = Tb.fours (Tb.leafF st.tb i) 128
theorem okL_of {lv : Nat → Nat} (h : ∀ i, i < 4 → Tb.pgN (lv i) = true) : Tb.okL (lv 0 : Nat) (lv 1 : Nat) (lv 2 : Nat) (lv 3 : Nat) = true := by
  unfold Tb.okL
  rw [Tb.mayI_nat, Tb.mayI_nat, Tb.mayI_nat, Tb.mayI_nat, h 0 (by omega), h 1 (by omega), h 2 (by omega), h 3 (by omega)]; rfl
theorem lvF_at (lv : Nat → Nat) (i : Nat) (h : i < 4) : Tb.lvF (lv 0 : Nat) (lv 1 : Nat) (lv 2 : Nat) (lv 3 : Nat) i = lv i := by
  rcases (show i = 0 ∨ i = 1 ∨ i = 2 ∨ i = 3 by omega) with rfl | rfl | rfl | rfl <;> exact Int.toNat_natCast _
theorem dirF_val (lv : Nat → Nat) (f : Nat → Bool) (i : Nat) (h : i < 4) : Tb.valB (dirF lv f) i = lv i := by unfold dirF; rw [Tb.dir_val _ _ _ _ _ _ h, lvF_at lv i h]
theorem lab_congr {r : Rt} {lv lv' tb : Nat → Nat} (h : ∀ i, i < 4 → lv' i = lv i) : lab r lv' tb = lab r lv tb := by
  funext n
  unfold lab
  by_cases h0 : n = 0
  · rw [if_pos h0, if_pos h0]
  · rw [if_neg h0, if_neg h0]
    by_cases h5 : n < 5
    · rw [if_pos h5, if_pos h5, h _ (by omega)]
    · rw [if_neg h5, if_neg h5]
/-- A table's first leaves. -/
def tbI (tb : Nat → Nat) (i : Nat) : Nat → Nat := fun l => if l < 128 * i then tb l else 0
theorem fours512 (f : Nat → Nat) : (Tb.fours f 128).length = 512 := by rw [Tb.fours_len]
theorem leafM_ok {m : Dsk} {st : St} (hg : StGood st) (hl : LiesOn m.last st) {lv' : Nat → Nat} (hlv : ∀ i, i < 4 → lv' i = st.lv i) (i : Nat) (hi : i < 4) :
    leafM m st.r lv' (tbI st.tb i) i = (0, tbI st.tb (i + 1)) := by
  unfold leafM
  rw [hlv i hi]
  by_cases h0 : st.lv i = 0
  · rw [if_pos h0]
    congr 1
    funext l
    unfold tbI
    by_cases h1 : l < 128 * i
    · rw [if_pos h1, if_pos (by omega)]
    · rw [if_neg h1]
      by_cases h2 : l < 128 * (i + 1)
      · rw [if_pos h2]
        have := bare_iff.1 ((hg.bare i hi).1 h0) (l - 128 * i) (by omega)
        rw [show 128 * i + (l - 128 * i) = l by omega] at this
        exact this.symm
      · rw [if_neg h2]
  · rw [if_neg h0]
    have hlt : ((st.lv i : Nat) : Int) < st.r.pg := by
      have := hg.ap.lt (i + 1) (List.mem_range.2 (by omega))
      rw [lab_lv _ _ _ _ hi] at this
      exact this h0
    rw [if_neg (by omega), hl.leaf i hi h0]
    have hv : ∀ k, k < 128 → Tb.valB (Tb.fours (Tb.leafF st.tb i) 128) k = st.tb (128 * i + k) := fun k hk => Tb.valB_fours _ _ _ hk
    have hE : Tb.loadE (i : Int) (Tb.fours (Tb.leafF st.tb i) 128) = 0 := by
      unfold Tb.loadE
      have hk : Tb.okV (Tb.valB (Tb.fours (Tb.leafF st.tb i) 128)) 128 = true := decide_eq_true fun j hj => by rw [hv j hj]; exact hg.okt _
      rw [if_neg (by omega), fours512, if_neg (by decide), if_pos hk]
    have hF : Tb.loadF (tbI st.tb i) (i : Int) (Tb.fours (Tb.leafF st.tb i) 128) = tbI st.tb (i + 1) := by
      unfold Tb.loadF
      rw [if_pos hE, Int.toNat_natCast]
      funext l
      by_cases h1 : 128 * i ≤ l ∧ l < 128 * i + 128
      · have e : l = 128 * i + (l - 128 * i) := by omega
        rw [e, Tb.over_in _ _ _ _ _ _ (by omega), Nat.zero_add, hv _ (by omega)]
        unfold tbI
        rw [if_pos (by omega)]
      · rw [Tb.over_out _ _ _ _ _ _ (by omega)]
        unfold tbI
        by_cases h2 : l < 128 * i
        · rw [if_pos h2, if_pos (by omega)]
        · rw [if_neg h2, if_neg (by omega)]
    rw [if_neg (by rw [hE]; simp), hF]
    have hb : Tb.bareB (tbI st.tb (i + 1)) i = false := by
      cases e : Tb.bareB (tbI st.tb (i + 1)) i
      · rfl
      · exfalso
        refine h0 ((hg.bare i hi).2 (bare_iff.2 fun k hk => ?_))
        have := bare_iff.1 e k hk
        unfold tbI at this
        rw [if_pos (by omega)] at this
        exact this
    rw [if_neg (by rw [hb]; simp)]
theorem lfM_ok {m : Dsk} {st : St} (hg : StGood st) (hl : LiesOn m.last st) {lv' : Nat → Nat} (hlv : ∀ i, i < 4 → lv' i = st.lv i) : ∀ i, i ≤ 4 → lfM m st.r lv' i = (0, tbI st.tb i)
  | 0, _ => by
    show (0, fun _ => 0) = _
    congr 1
  | i + 1, hi => by
    have ih := lfM_ok hg hl hlv i (by omega)
    rw [lfM_succ (by rw [ih]), ih]
    exact leafM_ok hg hl hlv i (by omega)
theorem tbI_four {st : St} (hg : StGood st) : tbI st.tb 4 = st.tb := by
  funext l
  unfold tbI
  by_cases h : l < 128 * 4
  · rw [if_pos h]
  · rw [if_neg h, hg.hi l (by omega)]
/-- What a root's state loads as. -/
structure Loads (m : Dsk) (st : St) : Prop where
  er : loadEr m st.r = 0
  tb : (loadSt m st.r).tb = st.tb
  lv : ∀ i, i < 4 → (loadSt m st.r).lv i = st.lv i
  us : (loadSt m st.r).us = st.us
theorem load_lies {m : Dsk} {st : St} (hg : StGood st) (hl : LiesOn m.last st) : Loads m st := by
  have hM := hg.mays
  have hd : dirBs m st.r = dirF st.lv (usF st.r st.lv st.tb) := hl.dir
  have hlv : ∀ i, i < 4 → Tb.valB (dirF st.lv (usF st.r st.lv st.tb)) i = st.lv i := fun i hi => dirF_val _ _ i hi
  have hlf := lfM_ok hg hl hlv 4 (Nat.le_refl _)
  rw [tbI_four hg] at hlf
  have hp : pgsM st.r (Tb.valB (dirF st.lv (usF st.r st.lv st.tb))) st.tb = (usF st.r st.lv st.tb, true) := by
    have hA : ApartS st.r (Tb.valB (dirF st.lv (usF st.r st.lv st.tb))) st.tb := by
      unfold ApartS; rw [lab_congr hlv]; exact hg.ap
    rw [pgsM_yes hM.d0 hM.p1 hA]
    congr 1
    show inL (lab _ _ _) _ = inL (lab _ _ _) _
    rw [lab_congr hlv]
  have hpg : ¬ (may st.r = false ∨ (pgOf m : Int) < st.r.pg) := by
    rintro (h | h)
    · rw [hM.may] at h; cases h
    · have h1 := hl.len
      have h2 := hM.p1
      have h3 := last_len m
      unfold pgOf at h
      omega
  refine ⟨?_, ?_, fun i hi => ?_, ?_⟩
  · rw [lfM_load hpg hd rfl (by unfold dirF; exact Tb.dir_ok (okL_of hg.okl) _) (by rw [hlf]), hlf, hp]
    rw [if_neg]
    rintro (h | h)
    · cases h
    · apply h
      show Bi.rowF (usF st.r st.lv st.tb) 64 = _
      unfold dirF
      rw [Tb.dir_set, Tb.dir_trs (usF_sub hM.p1 hg.ap)]
  · unfold loadSt
    rw [hd]
    show (lfM m st.r _ 4).2 = _
    rw [hlf]
  · unfold loadSt
    rw [hd]
    exact hlv i hi
  · unfold loadSt
    rw [hd]
    show some (pgsM st.r _ (lfM m st.r _ 4).2).1 = _
    rw [hlf, hp, hg.us]
/-- Pages that stay leave a state as it lies. -/
theorem LiesOn.stay {L L' : List (List Nat)} {st : St} (hg : StGood st) (h : LiesOn L st) (hn : L'.length = L.length) (hs : ∀ p, usF st.r st.lv st.tb p = true → pageB L' p = pageB L p) : LiesOn L' st := by
  refine ⟨by rw [hn]; exact h.len, ?_, fun i hi h0 => ?_⟩
  · have h0 := hg.mays.d0
    rw [hs st.r.dr.toNat (usF_iff.2 ⟨by omega, 0, by omega, rfl⟩)]; exact h.dir
  · rw [hs _ (usF_iff.2 ⟨h0, i + 1, by omega, lab_lv _ _ _ _ hi⟩)]; exact h.leaf i hi h0
end Go.Proofs.YthcnofdihigohaaGreat
end
section
/- Commit: where it is refused. -/
set_option maxRecDepth 20000
set_option linter.unusedSimpArgs false
namespace Go.Proofs.YthcnofdihigohaaGreat
open Go.RowKit

/-- The root that a commit plans. -/
def nextR (s : Sp) (word : Int) : Rt := ⟨s.g.r.ep + 1, s.g.r.pg, 2, word⟩
section
variable {w : World} {g d pt pk mb : Nat} {pu po : Option Addr} {s : Sp}
set_option maxHeartbeats 1600000 in
theorem commit_range (h : Spc0 w g d pt pk mb pu po s) (word : Int) (he : -9223372036854775808 ≤ s.g.r.ep ∧ s.g.r.ep ≤ 4611686018427387904) (hm : may (nextR s word) = false) :
    Calls Tryz.prog 24 #[.pointer (some ⟨g, 0, none⟩), .int .i64 word] w fun e w' => e = .returned (.int .i64 7) ∧ Below w.heap.size w w' := by
  have HX := Lib.hid h
  have HRF := Lib.hid (refusal_any h)
  have HMY : Hid (∀ u, Calls Tryz.prog 57 #[.agg #[.int .i64 (s.g.r.ep + 1), .int .i64 s.g.r.pg, .int .i64 2, .int .i64 word]] u fun x w' => x = .returned (.bool false) ∧ Below u.heap.size u w') := Lib.hid fun u => by
    have := may_any (nextR s word) u
    rw [hm] at this
    exact this
  have h1 := he.1
  have h2 := he.2
  clear h hm he
  go_enter Tryz.func24, Tryz.ntmps24
  go_wp2_with (first
    | (go_at_call 48; refine HRF.out.mono ?_; rintro e w1 ⟨rfl, rfl⟩)
    | (go_at_call 15; refine (epoch_any HX.out).mono ?_; rintro e w2 ⟨rfl, hb2⟩; have HX2 := Lib.hid (HX.out.below hb2); have HB2 := Lib.hid hb2; clear hb2)
    | (go_at_call 16; refine (pages_any HX2.out).mono ?_; rintro e w3 ⟨rfl, hb3⟩; have HB3 := Lib.hid (HB2.out.trans (hb3.mono HB2.out.size)); clear hb3)
    | (go_at_call 57; refine (HMY.out _).mono ?_; rintro e w4 ⟨rfl, hb4⟩; have HB4 := Lib.hid hb4; clear hb4))
  go_ret
  have hb := HB3.out.alloc HB3.out.size (.cells #[.int .i64 (s.g.r.ep + 1), .int .i64 s.g.r.pg, .int .i64 2, .int .i64 word] 74)
  exact ⟨rfl, hb.trans (HB4.out.mono hb.size)⟩
set_option maxHeartbeats 1600000 in
theorem commit_full (h : Spc0 w g d pt pk mb pu po s) (word : Int) (he : -9223372036854775808 ≤ s.g.r.ep ∧ s.g.r.ep ≤ 4611686018427387904) (hm : may (nextR s word) = true) (pg : Nat) (hr : s.g.r.pg = (pg : Int)) (hpg : pg ≤ 512) (hf : (freeL s).length < needS s) :
    Calls Tryz.prog 24 #[.pointer (some ⟨g, 0, none⟩), .int .i64 word] w fun e w' => e = .returned (.int .i64 8) ∧ Below w.heap.size w w' := by
  have HX := Lib.hid h
  have HRF := Lib.hid (refusal_any h)
  have HMY : Hid (∀ u, Calls Tryz.prog 57 #[.agg #[.int .i64 (s.g.r.ep + 1), .int .i64 s.g.r.pg, .int .i64 2, .int .i64 word]] u fun x w' => x = .returned (.bool true) ∧ Below u.heap.size u w') := Lib.hid fun u => by
    have := may_any (nextR s word) u
    rw [hm] at this
    exact this
  have HND : Hid (∀ u, Below w.heap.size w u → Calls Tryz.prog 17 #[.pointer (some ⟨g, 0, none⟩)] u fun e w' => e = .returned (.int .i64 (needS s : Int)) ∧ Below u.heap.size u w') := Lib.hid fun u hu => need_any (h.below hu)
  have HFR : Hid (∀ u, Below w.heap.size w u → Calls Tryz.prog 20 #[.pointer (some ⟨g, 0, none⟩)] u fun e w' => e = .returned (.int .i64 ((freeL s).length : Int)) ∧ Below u.heap.size u w') := Lib.hid fun u hu => Free_any (h.below hu) pg hr hpg
  have h1 := he.1
  have h2 := he.2
  have hd : decide (((freeL s).length : Int) < (needS s : Int)) = true := by simp; omega
  have hd2 : decide ((freeL s).length < needS s) = true := by simp; omega
  clear h hm he hr
  generalize needS s = nd at *
  generalize (freeL s).length = fr at *
  go_enter Tryz.func24, Tryz.ntmps24
  go_wp2_with (first
    | (go_at_call 48; refine HRF.out.mono ?_; rintro e w1 ⟨rfl, rfl⟩)
    | (go_at_call 15; refine (epoch_any HX.out).mono ?_; rintro e w2 ⟨rfl, hb2⟩; have HX2 := Lib.hid (HX.out.below hb2); have HB2 := Lib.hid hb2; clear hb2)
    | (go_at_call 16; refine (pages_any HX2.out).mono ?_; rintro e w3 ⟨rfl, hb3⟩; have HB3 := Lib.hid (HB2.out.trans (hb3.mono HB2.out.size)); have HB3a := Lib.hid (HB3.out.alloc HB3.out.size (.cells #[.int .i64 (s.g.r.ep + 1), .int .i64 s.g.r.pg, .int .i64 2, .int .i64 word] 74)); clear hb3)
    | (go_at_call 57; refine (HMY.out _).mono ?_; rintro e w4 ⟨rfl, hb4⟩; have HB4 := Lib.hid (HB3a.out.trans (hb4.mono HB3a.out.size)); clear hb4)
    | (go_at_call 17; refine (HND.out _ HB4.out).mono ?_; rintro e w5 ⟨rfl, hb5⟩; have HB5 := Lib.hid (HB4.out.trans (hb5.mono HB4.out.size)); clear hb5)
    | (go_at_call 20; refine (HFR.out _ HB5.out).mono ?_; rintro e w6 ⟨rfl, hb6⟩; have HB6 := Lib.hid (HB5.out.trans (hb6.mono HB5.out.size)); clear hb6))
  go_ret
  exact ⟨rfl, HB6.out⟩
end
end Go.Proofs.YthcnofdihigohaaGreat
end
section
/- What a plan writes, and that the state then lies on the disk: without memory. -/
set_option maxRecDepth 20000
set_option linter.unusedSimpArgs false
namespace Go.Proofs.YthcnofdihigohaaGreat
open Go.RowKit

theorem range_take (l : List Nat) (n : Nat) (h : n ≤ l.length) : (List.range n).map (fun j => l.getD j 0) = l.take n := by
  apply List.ext_getElem?
  intro i
  rw [List.getElem?_map, List.getElem?_take]
  by_cases hi : i < n
  · rw [if_pos hi, List.getElem?_range hi, List.getElem?_eq_getElem (by omega)]
    show some (l.getD i 0) = _
    rw [List.getD_eq_getElem?_getD, List.getElem?_eq_getElem (by omega)]; rfl
  · rw [if_neg hi, List.getElem?_eq_none (by rw [List.length_range]; omega)]; rfl
section
variable {s : Sp} {pg : Nat}
theorem plW_pages (hN : needS s ≤ (freeL s).length) (r : Rt) : (plW s r).map (·.1) = (freeL s).take (needS s) := by
  rw [← range_take _ _ hN]
  unfold needS plW kW mW
  rw [List.map_append, List.map_append, List.map_map, List.map_map, Nat.add_assoc, List.range_add, List.map_append, List.range_succ, List.map_append, List.map_append, List.map_map, List.append_assoc, plD_eq]
  congr 1
  congr 1
  apply List.map_congr_left
  intro j _
  show (plF s).getD j 0 = _
  unfold plF
  rw [drop_getD]; rfl
theorem plW_nodup (hN : needS s ≤ (freeL s).length) (r : Rt) : ((plW s r).map (·.1)).Nodup := by
  rw [plW_pages hN r]; exact (free_nodup s).sublist (List.take_sublist _ _)
theorem plW_len (s : Sp) (r : Rt) : (plW s r).length = needS s := by
  unfold plW needS
  rw [List.length_append, List.length_append, kW_len, mW_len]; rfl
theorem plW_page (hN : needS s ≤ (freeL s).length) {r : Rt} {x : Nat × List Nat} (hx : x ∈ plW s r) : x.1 ∈ freeL s := by
  have h1 : x.1 ∈ (plW s r).map (·.1) := List.mem_map.2 ⟨x, hx, rfl⟩
  rw [plW_pages hN r] at h1
  exact List.mem_of_mem_take h1
theorem plW_key (s : Sp) (r : Rt) {j : Nat} (hj : j < s.fr.keys.length) : ((freeL s).getD j 0, (s.fr (s.fr.keys.getD j 0)).getD []) ∈ plW s r := by
  unfold plW kW
  exact List.mem_append.2 (.inl (List.mem_append.2 (.inl (List.mem_map.2 ⟨j, List.mem_range.2 hj, rfl⟩))))
theorem plW_leaf (s : Sp) (r : Rt) {t : Nat} (ht : t < (movL s).length) : ((freeL s).getD (s.fr.keys.length + t) 0, Tb.fours (Tb.leafF (plT s) ((movL s).getD t 0)) 128) ∈ plW s r := by
  unfold plW mW
  refine List.mem_append.2 (.inl (List.mem_append.2 (.inr (List.mem_map.2 ⟨t, List.mem_range.2 ht, ?_⟩))))
  unfold plF; rw [drop_getD]
theorem plW_dir (s : Sp) (r : Rt) : (plD s, dirO (plL s) (plU s r)) ∈ plW s r := by unfold plW; simp
theorem dirO_eq (hB : Base s pg) (hN : needS s ≤ (freeL s).length) (f : Nat → Bool) : dirO (plL s) f = dirF (plL s) f := by
  unfold dirO; rw [if_pos (okL_of (plan_okl hB hN))]; rfl
theorem dirF_len (lv : Nat → Nat) (f : Nat → Bool) : (dirF lv f).length = 512 := Tb.dirB_len _ _ _ _ _
theorem plW_ok (hB : Base s pg) (hN : needS s ≤ (freeL s).length) (r : Rt) {x : Nat × List Nat} (hx : x ∈ plW s r) : x.2.length = 512 ∧ (∀ b ∈ x.2, b < 256) ∧ x.1 < pg := by
  refine ⟨?_, ?_, ((free_mem hB).1 (plW_page hN hx)).1⟩
  all_goals
    unfold plW at hx
    rcases List.mem_append.1 hx with hx | hx
    · rcases List.mem_append.1 hx with hx | hx
      · unfold kW at hx
        obtain ⟨j, hj, rfl⟩ := List.mem_map.1 hx
        obtain ⟨b, hb⟩ := key_data (List.mem_range.1 hj)
        have h1 := hB.ex _ _ hb
        show ((s.fr (s.fr.keys.getD j 0)).getD [] : List Nat) |> fun z => _
        rw [hb]
        first | exact h1.2.2.1 | exact h1.2.2.2
      · unfold mW at hx
        obtain ⟨t, ht, rfl⟩ := List.mem_map.1 hx
        first | exact fours512 _ | exact Tb.fours_dig (fun j => (plan_okt hB hN).lt _) 128
    · rw [List.mem_singleton.1 hx]
      show (dirO (plL s) (plU s r)) |> fun z => _
      rw [dirO_eq hB hN]
      first | exact dirF_len _ _ | exact Tb.dirB_dig (okL_of (plan_okl hB hN)) _
end
end Go.Proofs.YthcnofdihigohaaGreat
end
section
/- Commit: what is planned is laid. -/
set_option maxRecDepth 20000
set_option linter.unusedSimpArgs false
namespace Go.Proofs.YthcnofdihigohaaGreat
open Go.RowKit

/-- What a plan's call leaves, cell by cell. -/
structure PlanT (s : Sp) (r : Rt) (w w' : World) (pt gu bu : Nat) (q : Option Addr) (c : Nat) : Prop where
  hi : w.heap.size ≤ pt ∧ w.heap.size ≤ gu ∧ w.heap.size ≤ bu
  tab : Tb.Tab w' pt (plT s)
  us : Bi.Sat w' gu bu 512 (plU s r)
  row : w'.ownsRow w.heap.size 142 2 (.slice q (plW s r).length c) (plW s r).length (wrs (plW s r))
/-- The space behind a commit. -/
def commS (s : Sp) (r : Rt) : Sp := { g := ⟨planRt s r, plL s, plT s, some (plU s r)⟩, od := s.g.us, kp := plT s, fr := fun _ => none, ch := false }
/-- What a commit that got so far leaves: a disk, and the space as it was told, or none. -/
def CommR (s : Sp) (r : Rt) (d g : Nat) (M : Dsk × Int) (F G : List Nat) (w w' : World) : Prop :=
  ∃ F' G', Dk w' d F' M.1 ∧ Chg (F ++ G) (F' ++ G') w w' ∧ ((M.2 ≠ 0 ∧ G' = [g] ∧ Gone w' g) ∨ (M.2 = 0 ∧ Spc w' g G' d (commS s r)))
theorem size84 : (Tryz.prog.info? 84).map (·.size) = some 15 := by kernel_rfl
theorem gone_one : goneA.all (·.oneCell') = true := by simp [goneA, Value.oneCell']
theorem only_drew {g : Nat} {w w' : World} (h : Only g w w') : Only g w w'.drew := ⟨h.os, h.tape, h.output, h.size, h.block⟩
theorem spc_only (w : World) (g : Nat) (v1 v2 v3 v4 v5 v6 v7 v8 v9 v10 v11 : Value) : Only g w (((((((((((w.setCell ⟨g, 1, none⟩ v1).setCell ⟨g, 2, none⟩ v2).setCell ⟨g, 3, none⟩ v3).setCell ⟨g, 4, none⟩ v4).setCell ⟨g, 5, none⟩ v5).setCell ⟨g, 6, none⟩ v6).setCell ⟨g, 7, none⟩ v7).setCell ⟨g, 8, none⟩ v8).setCell ⟨g, 9, none⟩ v9).setCell ⟨g, 10, none⟩ v10).setCell ⟨g, 11, none⟩ v11) :=
  ((((((((((Only.setCell g 1 v1 _).trans (Only.setCell g 2 v2 _)).trans (Only.setCell g 3 v3 _)).trans (Only.setCell g 4 v4 _)).trans (Only.setCell g 5 v5 _)).trans (Only.setCell g 6 v6 _)).trans (Only.setCell g 7 v7 _)).trans (Only.setCell g 8 v8 _)).trans (Only.setCell g 9 v9 _)).trans (Only.setCell g 10 v10 _)).trans (Only.setCell g 11 v11 _)
theorem spc_chain {w : World} {g : Nat} {a0 a1 a2 a3 a4 a5 a6 a7 a8 a9 a10 a11 a12 a13 a14 : Value} (h : w.heap[g]? = some (.cells #[a0, a1, a2, a3, a4, a5, a6, a7, a8, a9, a10, a11, a12, a13, a14] 84 (0, 0))) (v1 v2 v3 v4 v5 v6 v7 v8 v9 v10 v11 : Value) :
    (((((((((((w.setCell ⟨g, 1, none⟩ v1).setCell ⟨g, 2, none⟩ v2).setCell ⟨g, 3, none⟩ v3).setCell ⟨g, 4, none⟩ v4).setCell ⟨g, 5, none⟩ v5).setCell ⟨g, 6, none⟩ v6).setCell ⟨g, 7, none⟩ v7).setCell ⟨g, 8, none⟩ v8).setCell ⟨g, 9, none⟩ v9).setCell ⟨g, 10, none⟩ v10).setCell ⟨g, 11, none⟩ v11).heap[g]? = some (.cells #[a0, v1, v2, v3, v4, v5, v6, v7, v8, v9, v10, v11, a12, a13, a14] 84 (0, 0)) := by
  have h1 : (w.setCell ⟨g, 1, none⟩ v1).heap[g]? = some (.cells #[a0, v1, a2, a3, a4, a5, a6, a7, a8, a9, a10, a11, a12, a13, a14] 84 (0, 0)) := heap_setCell_same _ g 1 _ 84 v1 h
  have h2 : ((w.setCell ⟨g, 1, none⟩ v1).setCell ⟨g, 2, none⟩ v2).heap[g]? = some (.cells #[a0, v1, v2, a3, a4, a5, a6, a7, a8, a9, a10, a11, a12, a13, a14] 84 (0, 0)) := heap_setCell_same _ g 2 _ 84 v2 h1
  have h3 : (((w.setCell ⟨g, 1, none⟩ v1).setCell ⟨g, 2, none⟩ v2).setCell ⟨g, 3, none⟩ v3).heap[g]? = some (.cells #[a0, v1, v2, v3, a4, a5, a6, a7, a8, a9, a10, a11, a12, a13, a14] 84 (0, 0)) := heap_setCell_same _ g 3 _ 84 v3 h2
  have h4 : ((((w.setCell ⟨g, 1, none⟩ v1).setCell ⟨g, 2, none⟩ v2).setCell ⟨g, 3, none⟩ v3).setCell ⟨g, 4, none⟩ v4).heap[g]? = some (.cells #[a0, v1, v2, v3, v4, a5, a6, a7, a8, a9, a10, a11, a12, a13, a14] 84 (0, 0)) := heap_setCell_same _ g 4 _ 84 v4 h3
  have h5 : (((((w.setCell ⟨g, 1, none⟩ v1).setCell ⟨g, 2, none⟩ v2).setCell ⟨g, 3, none⟩ v3).setCell ⟨g, 4, none⟩ v4).setCell ⟨g, 5, none⟩ v5).heap[g]? = some (.cells #[a0, v1, v2, v3, v4, v5, a6, a7, a8, a9, a10, a11, a12, a13, a14] 84 (0, 0)) := heap_setCell_same _ g 5 _ 84 v5 h4
  have h6 : ((((((w.setCell ⟨g, 1, none⟩ v1).setCell ⟨g, 2, none⟩ v2).setCell ⟨g, 3, none⟩ v3).setCell ⟨g, 4, none⟩ v4).setCell ⟨g, 5, none⟩ v5).setCell ⟨g, 6, none⟩ v6).heap[g]? = some (.cells #[a0, v1, v2, v3, v4, v5, v6, a7, a8, a9, a10, a11, a12, a13, a14] 84 (0, 0)) := heap_setCell_same _ g 6 _ 84 v6 h5
  have h7 : (((((((w.setCell ⟨g, 1, none⟩ v1).setCell ⟨g, 2, none⟩ v2).setCell ⟨g, 3, none⟩ v3).setCell ⟨g, 4, none⟩ v4).setCell ⟨g, 5, none⟩ v5).setCell ⟨g, 6, none⟩ v6).setCell ⟨g, 7, none⟩ v7).heap[g]? = some (.cells #[a0, v1, v2, v3, v4, v5, v6, v7, a8, a9, a10, a11, a12, a13, a14] 84 (0, 0)) := heap_setCell_same _ g 7 _ 84 v7 h6
  have h8 : ((((((((w.setCell ⟨g, 1, none⟩ v1).setCell ⟨g, 2, none⟩ v2).setCell ⟨g, 3, none⟩ v3).setCell ⟨g, 4, none⟩ v4).setCell ⟨g, 5, none⟩ v5).setCell ⟨g, 6, none⟩ v6).setCell ⟨g, 7, none⟩ v7).setCell ⟨g, 8, none⟩ v8).heap[g]? = some (.cells #[a0, v1, v2, v3, v4, v5, v6, v7, v8, a9, a10, a11, a12, a13, a14] 84 (0, 0)) := heap_setCell_same _ g 8 _ 84 v8 h7
  have h9 : (((((((((w.setCell ⟨g, 1, none⟩ v1).setCell ⟨g, 2, none⟩ v2).setCell ⟨g, 3, none⟩ v3).setCell ⟨g, 4, none⟩ v4).setCell ⟨g, 5, none⟩ v5).setCell ⟨g, 6, none⟩ v6).setCell ⟨g, 7, none⟩ v7).setCell ⟨g, 8, none⟩ v8).setCell ⟨g, 9, none⟩ v9).heap[g]? = some (.cells #[a0, v1, v2, v3, v4, v5, v6, v7, v8, v9, a10, a11, a12, a13, a14] 84 (0, 0)) := heap_setCell_same _ g 9 _ 84 v9 h8
  have h10 : ((((((((((w.setCell ⟨g, 1, none⟩ v1).setCell ⟨g, 2, none⟩ v2).setCell ⟨g, 3, none⟩ v3).setCell ⟨g, 4, none⟩ v4).setCell ⟨g, 5, none⟩ v5).setCell ⟨g, 6, none⟩ v6).setCell ⟨g, 7, none⟩ v7).setCell ⟨g, 8, none⟩ v8).setCell ⟨g, 9, none⟩ v9).setCell ⟨g, 10, none⟩ v10).heap[g]? = some (.cells #[a0, v1, v2, v3, v4, v5, v6, v7, v8, v9, v10, a11, a12, a13, a14] 84 (0, 0)) := heap_setCell_same _ g 10 _ 84 v10 h9
  have h11 : (((((((((((w.setCell ⟨g, 1, none⟩ v1).setCell ⟨g, 2, none⟩ v2).setCell ⟨g, 3, none⟩ v3).setCell ⟨g, 4, none⟩ v4).setCell ⟨g, 5, none⟩ v5).setCell ⟨g, 6, none⟩ v6).setCell ⟨g, 7, none⟩ v7).setCell ⟨g, 8, none⟩ v8).setCell ⟨g, 9, none⟩ v9).setCell ⟨g, 10, none⟩ v10).setCell ⟨g, 11, none⟩ v11).heap[g]? = some (.cells #[a0, v1, v2, v3, v4, v5, v6, v7, v8, v9, v10, v11, a12, a13, a14] 84 (0, 0)) := heap_setCell_same _ g 11 _ 84 v11 h10
  exact h11
theorem drew_heap (u : World) : u.drew.heap = u.heap := rfl
theorem spc_both {w : World} {g : Nat} {a0 a1 a2 a3 a4 a5 a6 a7 a8 a9 a10 a11 a12 a13 a14 : Value} (h : w.heap[g]? = some (.cells #[a0, a1, a2, a3, a4, a5, a6, a7, a8, a9, a10, a11, a12, a13, a14] 84 (0, 0))) (v1 v2 v3 v4 v5 v6 v7 v8 v9 v10 v11 : Value) :
    Hid ((((((((((((w.setCell ⟨g, 1, none⟩ v1).setCell ⟨g, 2, none⟩ v2).setCell ⟨g, 3, none⟩ v3).setCell ⟨g, 4, none⟩ v4).setCell ⟨g, 5, none⟩ v5).setCell ⟨g, 6, none⟩ v6).setCell ⟨g, 7, none⟩ v7).setCell ⟨g, 8, none⟩ v8).setCell ⟨g, 9, none⟩ v9).setCell ⟨g, 10, none⟩ v10).setCell ⟨g, 11, none⟩ v11).drew.heap[g]? = some (.cells #[a0, v1, v2, v3, v4, v5, v6, v7, v8, v9, v10, v11, a12, a13, a14] 84 (0, 0)) ∧ Only g w (((((((((((w.setCell ⟨g, 1, none⟩ v1).setCell ⟨g, 2, none⟩ v2).setCell ⟨g, 3, none⟩ v3).setCell ⟨g, 4, none⟩ v4).setCell ⟨g, 5, none⟩ v5).setCell ⟨g, 6, none⟩ v6).setCell ⟨g, 7, none⟩ v7).setCell ⟨g, 8, none⟩ v8).setCell ⟨g, 9, none⟩ v9).setCell ⟨g, 10, none⟩ v10).setCell ⟨g, 11, none⟩ v11).drew) :=
  Lib.hid ⟨(congrArg (fun (x : Array Obj) => x[g]?) (drew_heap _)).trans (spc_chain h v1 v2 v3 v4 v5 v6 v7 v8 v9 v10 v11), only_drew (spc_only w g v1 v2 v3 v4 v5 v6 v7 v8 v9 v10 v11)⟩
theorem only_row (w : World) (g : Nat) (cs : Array Value) : Only g w (w.setRow g cs) := ⟨rfl, rfl, rfl, by simp [World.setRow], fun k _ hk => setRow_other w g k cs hk⟩
theorem commit_chg {w w9 w10 : World} {F F9 G G' : List Nat} {g : Nat} (hC : Chg F F9 w w9) (hO : Only g w9 w10) (hg : g ∈ G) (hG' : ∀ k ∈ G', k ∈ G ∨ w.heap.size ≤ k) : Chg (F ++ G) (F9 ++ G') w w10 := by
  refine ⟨hO.os.trans hC.os, hO.tape.trans hC.tape, hO.output.trans hC.output, Nat.le_trans hC.size hO.size, fun k hk hn => ?_, fun k hk => ?_⟩
  · exact (hO.block k (Nat.lt_of_lt_of_le hk hC.size) (fun e => hn (List.mem_append.2 (.inr (by rw [e]; exact hg))))).trans (hC.block k hk (fun e => hn (List.mem_append.2 (.inl e))))
  · rcases List.mem_append.1 hk with h1 | h1
    · exact (hC.fresh k h1).imp (fun e => List.mem_append.2 (.inl e)) id
    · exact (hG' k h1).imp (fun e => List.mem_append.2 (.inr e)) id
theorem Dk.keepG {w w' : World} {F : List Nat} {g d : Nat} {m : Dsk} {cs : Array Value} {fr : Nat × Nat} (h : Dk w d F m) (hb : w.heap[g]? = some (.cells cs 84 fr)) (hO : Only g w w') : Dk w' d F m := by
  refine h.stay2 (Chg.of_only (G := [g]) hO (by simp)) (fun k hk => ?_) (fun k hk hk2 => ?_)
  · obtain rfl := List.mem_singleton.1 hk
    exact .inr ⟨_, _, _, hb, by simp⟩
  · obtain rfl := List.mem_singleton.1 hk2
    obtain ⟨cs2, t2, fr2, h1, h2⟩ := h.typed k hk
    rw [hb] at h1
    cases h1
    revert h2; decide
section
variable {w : World} {g d pt pk mb : Nat} {pu po : Option Addr} {s : Sp} {F : List Nat} {m : Dsk}
theorem plan_at (h : Spc0 w g d pt pk mb pu po s) (pg : Nat) (hr : s.g.r.pg = (pg : Int)) (hpg : pg ≤ 512) (r : Rt) (hN : needS s ≤ (freeL s).length) :
    Calls Tryz.prog 58 #[.pointer (some ⟨g, 0, none⟩), .agg #[.int .i64 r.ep, .int .i64 r.pg, .int .i64 r.dr, .int .i64 r.wd]] w fun e w' => (∃ pt gu bu q c, e = .returned (.tuple #[.agg #[.int .i64 r.ep, .int .i64 r.pg, .int .i64 (plD s : Int), .int .i64 r.wd, .int .i64 (plL s 0 : Nat), .int .i64 (plL s 1 : Nat), .int .i64 (plL s 2 : Nat), .int .i64 (plL s 3 : Nat), .pointer (some ⟨pt, 0, none⟩), .pointer (some ⟨gu, 0, none⟩)], .slice q (plW s r).length c]) ∧ PlanT s r w w' pt gu bu q c) ∧ Below w.heap.size w w' := by
  refine (plan_sp h pg hr hpg r hN).mono ?_
  rintro e w' ⟨⟨pt, gu, bu, vr, he, h1, h2, h3, h4, h5, h6⟩, hb⟩
  have h7 := h6
  rcases h6.2 with ⟨rfl, hx⟩ | ⟨g', cap, cur, rfl, _⟩
  · exfalso
    unfold plW at hx
    simp at hx
  · exact ⟨⟨pt, gu, bu, _, _, he, ⟨h1, h2, h3⟩, h4, h5, h7⟩, hb⟩
set_option maxHeartbeats 3200000 in
theorem commit_go (h : Spc0 w g d pt pk mb pu po s) (hD : Dk w d F m) (word : Int) (he : -9223372036854775808 ≤ s.g.r.ep ∧ s.g.r.ep ≤ 4611686018427387904) (hm : may (nextR s word) = true) (pg : Nat) (hr : s.g.r.pg = (pg : Int)) (hpg : pg ≤ 512) (hf : needS s ≤ (freeL s).length)
    (hps : ∀ k, k < (plW s (nextR s word)).length → ((plW s (nextR s word)).getD k (0, [])).2.length = 512 ∧ (∀ x ∈ ((plW s (nextR s word)).getD k (0, [])).2, x < 256) ∧ ((plW s (nextR s word)).getD k (0, [])).1 ≤ 512) (hpn : (plW s (nextR s word)).length ≤ 1000)
    (hms : Mays (planRt s (nextR s word))) (hl : s.g.r.pg * 4 ≤ (m.out.length : Int)) (hdn : m.done ≤ 4611686018427380000) (hrl : m.row.length ≤ 1099511620000) :
    Calls Tryz.prog 24 #[.pointer (some ⟨g, 0, none⟩), .int .i64 word] w fun e w' => e = .returned (.int .i64 (layM m (plW s (nextR s word)) (planRt s (nextR s word))).2) ∧ CommR s (nextR s word) d g (layM m (plW s (nextR s word)) (planRt s (nextR s word))) F [g, pt, pk, mb] w w' := by
  have HX := Lib.hid h
  have HDK := Lib.hid hD
  have HRF := Lib.hid (refusal_any h)
  have HMY : Hid (∀ u, Calls Tryz.prog 57 #[.agg #[.int .i64 (s.g.r.ep + 1), .int .i64 s.g.r.pg, .int .i64 2, .int .i64 word]] u fun x w' => x = .returned (.bool true) ∧ Below u.heap.size u w') := Lib.hid fun u => by
    have := may_any (nextR s word) u
    rw [hm] at this
    exact this
  have HND : Hid (∀ u, Below w.heap.size w u → Calls Tryz.prog 17 #[.pointer (some ⟨g, 0, none⟩)] u fun e w' => e = .returned (.int .i64 (needS s : Int)) ∧ Below u.heap.size u w') := Lib.hid fun u hu => need_any (h.below hu)
  have HFR : Hid (∀ u, Below w.heap.size w u → Calls Tryz.prog 20 #[.pointer (some ⟨g, 0, none⟩)] u fun e w' => e = .returned (.int .i64 ((freeL s).length : Int)) ∧ Below u.heap.size u w') := Lib.hid fun u hu => Free_any (h.below hu) pg hr hpg
  have HPL : Hid (∀ u, Below w.heap.size w u → Calls Tryz.prog 58 #[.pointer (some ⟨g, 0, none⟩), .agg #[.int .i64 (s.g.r.ep + 1), .int .i64 s.g.r.pg, .int .i64 2, .int .i64 word]] u fun e w' => (∃ pt gu bu q c, e = .returned (.tuple #[.agg #[.int .i64 (s.g.r.ep + 1), .int .i64 s.g.r.pg, .int .i64 (plD s : Int), .int .i64 word, .int .i64 (plL s 0 : Nat), .int .i64 (plL s 1 : Nat), .int .i64 (plL s 2 : Nat), .int .i64 (plL s 3 : Nat), .pointer (some ⟨pt, 0, none⟩), .pointer (some ⟨gu, 0, none⟩)], .slice q (plW s (nextR s word)).length c]) ∧ PlanT s (nextR s word) u w' pt gu bu q c) ∧ Below u.heap.size u w') := Lib.hid fun u hu => plan_at (h.below hu) pg hr hpg (nextR s word) hf
  have HLA : Hid (∀ u B q c, Below w.heap.size w u → u.ownsRow B 142 2 (.slice q (plW s (nextR s word)).length c) (plW s (nextR s word)).length (wrs (plW s (nextR s word))) → Calls Tryz.prog 59 #[.pointer (some ⟨g, 0, none⟩), .slice q (plW s (nextR s word)).length c, .agg #[.int .i64 (s.g.r.ep + 1), .int .i64 s.g.r.pg, .int .i64 (plD s : Int), .int .i64 word]] u fun e w' => e = .returned (.int .i64 (layM m (plW s (nextR s word)) (planRt s (nextR s word))).2) ∧ Went F d (layM m (plW s (nextR s word)) (planRt s (nextR s word))).1 u w') := Lib.hid fun u B q c hu ho =>
    lay_any (r := planRt s (nextR s word)) (hD.below hu) ⟨_, _, (h.below hu).box, rfl⟩ ho rfl hpn hps hms hl hdn hrl
  have h1 := he.1
  have h2 := he.2
  have hd : decide (((freeL s).length : Int) < (needS s : Int)) = false := by simp; omega
  have hd2 : decide ((freeL s).length < needS s) = false := by simp; omega
  clear h hD hm he hr hps hpn hms hl hdn hrl hf
  generalize needS s = nd at *
  generalize (freeL s).length = fr at *
  generalize hW : plW s (nextR s word) = W at *
  obtain ⟨M, hM⟩ : ∃ M, layM m W (planRt s (nextR s word)) = M := ⟨_, rfl⟩
  rw [hM] at HLA ⊢
  obtain ⟨n, hn⟩ : ∃ n, W.length = n := ⟨_, rfl⟩
  rw [hn] at HPL HLA
  have HN := Lib.hid hn
  have HW := Lib.hid hW
  clear hn hM hW
  go_enter Tryz.func24, Tryz.ntmps24
  go_upto_region 10 with (first
    | (go_at_call 48; refine HRF.out.mono ?_; rintro e w1 ⟨rfl, rfl⟩)
    | (go_at_call 15; refine (epoch_any HX.out).mono ?_; rintro e w2 ⟨rfl, hb2⟩; have HX2 := Lib.hid (HX.out.below hb2); have HB2 := Lib.hid hb2; clear hb2)
    | (go_at_call 16; refine (pages_any HX2.out).mono ?_; rintro e w3 ⟨rfl, hb3⟩; have HB3 := Lib.hid (HB2.out.trans (hb3.mono HB2.out.size)); have HB3a := Lib.hid (HB3.out.alloc HB3.out.size (.cells #[.int .i64 (s.g.r.ep + 1), .int .i64 s.g.r.pg, .int .i64 2, .int .i64 word] 74)); have HR3 := Lib.hid (RtAt.new w3 (nextR s word) 74); clear hb3)
    | (go_at_call 57; refine (HMY.out _).mono ?_; rintro e w4 ⟨rfl, hb4⟩; have HB4 := Lib.hid (HB3a.out.trans (hb4.mono HB3a.out.size)); have HR4 := Lib.hid (HR3.out.below hb4); clear hb4)
    | (go_at_call 17; refine (HND.out _ HB4.out).mono ?_; rintro e w5 ⟨rfl, hb5⟩; have HB5 := Lib.hid (HB4.out.trans (hb5.mono HB4.out.size)); have HR5 := Lib.hid (HR4.out.below hb5); clear hb5)
    | (go_at_call 20; refine (HFR.out _ HB5.out).mono ?_; rintro e w6 ⟨rfl, hb6⟩; have HB6 := Lib.hid (HB5.out.trans (hb6.mono HB5.out.size)); have hr6 := HR5.out.below hb6; have r0 := hr6.c0; have r1 := hr6.c1; have r2 := hr6.c2; have r3 := hr6.c3; clear hb6 hr6)
    | (go_at_call 58; refine (HPL.out _ HB6.out).mono ?_; rintro e w7 ⟨⟨pt', gu, bu, q, c, rfl, hP7⟩, hb7⟩))
  have HP7 := Lib.hid hP7
  have HB7 := Lib.hid (HB6.out.trans (hb7.mono HB6.out.size))
  have HU6 := Lib.hid HB6.out.size
  clear hP7 hb7 r0 r1 r2 r3 HPL HND HFR HMY HRF
  have HB8 : Hid (Below w.heap.size w (w7.alloc (.cells #[.int .i64 (s.g.r.ep + 1), .int .i64 s.g.r.pg, .int .i64 (plD s : Int), .int .i64 word, .int .i64 (plL s 0 : Nat), .int .i64 (plL s 1 : Nat), .int .i64 (plL s 2 : Nat), .int .i64 (plL s 3 : Nat), .pointer (some ⟨pt', 0, none⟩), .pointer (some ⟨gu, 0, none⟩)] 81))) := Lib.hid (HB7.out.alloc HB7.out.size _)
  have HN8 : Hid ((w7.alloc (.cells #[.int .i64 (s.g.r.ep + 1), .int .i64 s.g.r.pg, .int .i64 (plD s : Int), .int .i64 word, .int .i64 (plL s 0 : Nat), .int .i64 (plL s 1 : Nat), .int .i64 (plL s 2 : Nat), .int .i64 (plL s 3 : Nat), .pointer (some ⟨pt', 0, none⟩), .pointer (some ⟨gu, 0, none⟩)] 81)).heap[w7.heap.size]? = some (.cells #[.int .i64 (s.g.r.ep + 1), .int .i64 s.g.r.pg, .int .i64 (plD s : Int), .int .i64 word, .int .i64 (plL s 0 : Nat), .int .i64 (plL s 1 : Nat), .int .i64 (plL s 2 : Nat), .int .i64 (plL s 3 : Nat), .pointer (some ⟨pt', 0, none⟩), .pointer (some ⟨gu, 0, none⟩)] 81 (0, 0))) := Lib.hid (heap_alloc_new w7 _)
  have HP8 : Hid (PlanT s (nextR s word) w6 (w7.alloc (.cells #[.int .i64 (s.g.r.ep + 1), .int .i64 s.g.r.pg, .int .i64 (plD s : Int), .int .i64 word, .int .i64 (plL s 0 : Nat), .int .i64 (plL s 1 : Nat), .int .i64 (plL s 2 : Nat), .int .i64 (plL s 3 : Nat), .pointer (some ⟨pt', 0, none⟩), .pointer (some ⟨gu, 0, none⟩)] 81)) pt' gu bu q c) := Lib.hid ⟨HP7.out.hi, HP7.out.tab.below (alloc_below _ _), HP7.out.us.below (alloc_below _ _), own_below (by rw [HW.out, HN.out]; have := HP7.out.row; rw [HW.out, HN.out] at this; exact this) (alloc_below _ _)⟩
  generalize w7.alloc (.cells #[.int .i64 (s.g.r.ep + 1), .int .i64 s.g.r.pg, .int .i64 (plD s : Int), .int .i64 word, .int .i64 (plL s 0 : Nat), .int .i64 (plL s 1 : Nat), .int .i64 (plL s 2 : Nat), .int .i64 (plL s 3 : Nat), .pointer (some ⟨pt', 0, none⟩), .pointer (some ⟨gu, 0, none⟩)] 81) = w8 at *
  obtain ⟨b7, hb7⟩ : ∃ b7, w7.heap.size = b7 := ⟨_, rfl⟩
  rw [hb7] at HN8 ⊢
  clear hb7 HP7 HB7
  have x0 : w8.cell? ⟨b7, 0, none⟩ = some (.int .i64 (s.g.r.ep + 1)) := by rw [cell_of_row _ _ _ _ _ _ HN8.out]; rfl
  have x1 : w8.cell? ⟨b7, 1, none⟩ = some (.int .i64 s.g.r.pg) := by rw [cell_of_row _ _ _ _ _ _ HN8.out]; rfl
  have x2 : w8.cell? ⟨b7, 2, none⟩ = some (.int .i64 (plD s : Int)) := by rw [cell_of_row _ _ _ _ _ _ HN8.out]; rfl
  have x3 : w8.cell? ⟨b7, 3, none⟩ = some (.int .i64 word) := by rw [cell_of_row _ _ _ _ _ _ HN8.out]; rfl
  have hro := HP8.out.row
  rw [HW.out, HN.out] at hro
  have HL8 := Lib.hid (HLA.out _ _ _ _ HB8.out hro)
  clear hro HLA
  go_upto_region 11 with (go_at_call 59; refine HL8.out.mono ?_; rintro e w9 ⟨rfl, hw9⟩; have HW9 := Lib.hid hw9; clear hw9)
  obtain ⟨F9, hD9, hC9⟩ := HW9.out
  have HT8 := Lib.hid (HDK.out.below HB8.out).typed
  have HBX : Hid (w9.heap[g]? = some (.cells (spA d s.g.r s.g.lv (some ⟨pt, 0, none⟩) pu po (some ⟨pk, 0, none⟩) (some mb) s.ch) 84 (0, 0))) := Lib.hid (hC9.keep HT8.out (HX.out.below HB8.out).box (by decide))
  have HD9 := Lib.hid hD9
  have HC9 : Hid (Chg F F9 w w9) := Lib.hid ((Chg.of_below HB8.out).trans hC9)
  have HN9 := Lib.hid (hC9.keep HT8.out HN8.out (by decide))
  have HTB : Hid (Tb.Tab w9 pt' (plT s) ∧ Bi.Sat w9 gu bu 512 (plU s (nextR s word)) ∧ Stp w9 pu s.g.us) := Lib.hid (by
    obtain ⟨cur, hcur⟩ := own_head HP8.out.us.row rfl
    exact ⟨HP8.out.tab.same ((hC9.keep HT8.out HP8.out.tab.row (by decide)).trans HP8.out.tab.row.symm), HP8.out.us.same ((hC9.keep HT8.out HP8.out.us.box (by decide)).trans HP8.out.us.box.symm) ((hC9.keep HT8.out hcur (by decide)).trans hcur.symm), (HX.out.below HB8.out).us.chg2 hC9 HT8.out.kin⟩)
  clear hD9 hC9 HW9 HL8 x0 x1 x2 x3 HN8
  obtain ⟨E, HE⟩ : ∃ E, Hid (M.2 = E) := ⟨_, Lib.hid rfl⟩
  rw [HE.out]
  by_cases hE : E = 0
  · subst hE
    have cg := fun (i : Nat) (v : Value) (hv : (spA d s.g.r s.g.lv (some ⟨pt, 0, none⟩) pu po (some ⟨pk, 0, none⟩) (some mb) s.ch)[i]? = some v) => (show w9.cell? ⟨g, i, none⟩ = some v by rw [cell_of_row _ _ _ _ _ _ HBX.out]; exact hv)
    have c1 := cg 1 _ rfl
    have c2 := cg 2 _ rfl
    have c3 := cg 3 _ rfl
    have c4 := cg 4 _ rfl
    have c5 := cg 5 _ rfl
    have c6 := cg 6 _ rfl
    have c7 := cg 7 _ rfl
    have c8 := cg 8 _ rfl
    have c9 := cg 9 _ rfl
    have c10 := cg 10 (.pointer pu) rfl
    have c11 := cg 11 (.pointer po) rfl
    have cf : ∀ i, w9.frozen? ⟨g, i, none⟩ = false := fun i => frozen_of_row _ _ i _ _ HBX.out
    have ch := fun (i : Nat) (v : Value) (hv : (#[.int .i64 (s.g.r.ep + 1), .int .i64 s.g.r.pg, .int .i64 (plD s : Int), .int .i64 word, .int .i64 (plL s 0 : Nat), .int .i64 (plL s 1 : Nat), .int .i64 (plL s 2 : Nat), .int .i64 (plL s 3 : Nat), .pointer (some ⟨pt', 0, none⟩), .pointer (some ⟨gu, 0, none⟩)] : Array Value)[i]? = some v) => (show w9.cell? ⟨b7, i, none⟩ = some v by rw [cell_of_row _ _ _ _ _ _ HN9.out]; exact hv)
    have x0 := ch 0 _ rfl
    have x1 := ch 1 _ rfl
    have x2 := ch 2 _ rfl
    have x3 := ch 3 _ rfl
    have x4 := ch 4 _ rfl
    have x5 := ch 5 _ rfl
    have x6 := ch 6 _ rfl
    have x7 := ch 7 _ rfl
    have x8 := ch 8 (.pointer (some ⟨pt', 0, none⟩)) rfl
    have x9 := ch 9 (.pointer (some ⟨gu, 0, none⟩)) rfl
    have hgb : b7 ≠ g := cells_ne HN9.out HBX.out (by decide)
    have hbg : g ≠ b7 := Ne.symm hgb
    clear cg ch
    go_upto_region 14 with fail
    go_region
    have hbx : w9.heap[g]? = some (.cells #[.pointer (some ⟨d, 0, none⟩), .int .i64 s.g.r.ep, .int .i64 s.g.r.pg, .int .i64 s.g.r.dr, .int .i64 s.g.r.wd, .int .i64 (s.g.lv 0 : Nat), .int .i64 (s.g.lv 1 : Nat), .int .i64 (s.g.lv 2 : Nat), .int .i64 (s.g.lv 3 : Nat), .pointer (some ⟨pt, 0, none⟩), .pointer pu, .pointer po, .pointer (some ⟨pk, 0, none⟩), .map (some mb), .bool s.ch] 84 (0, 0)) := HBX.out
    have HCO := spc_both hbx (.int .i64 (s.g.r.ep + 1)) (.int .i64 s.g.r.pg) (.int .i64 (plD s : Int)) (.int .i64 word) (.int .i64 (plL s 0 : Nat)) (.int .i64 (plL s 1 : Nat)) (.int .i64 (plL s 2 : Nat)) (.int .i64 (plL s 3 : Nat)) (.pointer (some ⟨pt', 0, none⟩)) (.pointer (some ⟨gu, 0, none⟩)) (.pointer pu)
    clear hbx
    clear c1 c2 c3 c4 c5 c6 c7 c8 c9 c10 c11 cf x0 x1 x2 x3 x4 x5 x6 x7 x8 x9
    generalize (((((((((((w9.setCell ⟨g, 1, none⟩ (.int .i64 (s.g.r.ep + 1))).setCell ⟨g, 2, none⟩ (.int .i64 s.g.r.pg)).setCell ⟨g, 3, none⟩ (.int .i64 (plD s : Int))).setCell ⟨g, 4, none⟩ (.int .i64 word)).setCell ⟨g, 5, none⟩ (.int .i64 (plL s 0 : Nat))).setCell ⟨g, 6, none⟩ (.int .i64 (plL s 1 : Nat))).setCell ⟨g, 7, none⟩ (.int .i64 (plL s 2 : Nat))).setCell ⟨g, 8, none⟩ (.int .i64 (plL s 3 : Nat))).setCell ⟨g, 9, none⟩ (.pointer (some ⟨pt', 0, none⟩))).setCell ⟨g, 10, none⟩ (.pointer (some ⟨gu, 0, none⟩))).setCell ⟨g, 11, none⟩ (.pointer pu)).drew = w10 at *
    have HO10 := Lib.hid HCO.out.2
    have HC10 : Hid (w10.heap[g]? = some (.cells (spA d (planRt s (nextR s word)) (plL s) (some ⟨pt', 0, none⟩) (some ⟨gu, 0, none⟩) pu (some ⟨pk, 0, none⟩) (some mb) s.ch) 84 (0, 0))) := Lib.hid HCO.out.1
    have HT10 : Hid (Tb.Tab w10 pt' (plT s) ∧ Stp w10 (some ⟨gu, 0, none⟩) (some (plU s (nextR s word))) ∧ Stp w10 pu s.g.us) := Lib.hid (by
      obtain ⟨q1, q2, q3⟩ := HTB.out
      obtain ⟨cur, hcur⟩ := own_head q2.row rfl
      refine ⟨q1.only HO10.out (cells_ne q1.row HBX.out (by decide)), ⟨gu, bu, rfl, q2.only HO10.out (cells_ne q2.box HBX.out (by decide)) (cells_ne hcur HBX.out (by decide))⟩, q3.chg2 (Chg.of_only (G := [g]) HO10.out (by simp)) (fun k hk => ?_)⟩
      obtain rfl := List.mem_singleton.1 hk
      exact .inr ⟨_, _, _, HBX.out, by simp⟩)
    have HSE := Lib.hid (settle_any (s := { g := ⟨planRt s (nextR s word), plL s, plT s, some (plU s (nextR s word))⟩, od := s.g.us, kp := s.kp, fr := s.fr, ch := s.ch }) HC10.out HT10.out.1 HT10.out.2.1 HT10.out.2.2)
    go_wp2_with (go_at_call 46; refine HSE.out.mono ?_; rintro e w11 ⟨rfl, hx11, ho11⟩; have HX11 := Lib.hid hx11; have HO11 := Lib.hid ho11; clear hx11 ho11)
    go_ret
    obtain ⟨pk', mb', k1, k2, k3⟩ := HX11.out
    have hO := HO10.out.trans HO11.out
    have hsz : w.heap.size ≤ w10.heap.size := Nat.le_trans HC9.out.size HO10.out.size
    have hpt := HP8.out.hi.1
    have hu6 := HU6.out
    refine ⟨by rw [HE.out]; rfl, F9, [g, pt', pk', mb'], HD9.out.keepG HBX.out hO, commit_chg HC9.out hO (by simp) (fun k hk => ?_), .inr ⟨HE.out, pt', pk', mb', _, _, k3, rfl⟩⟩
    simp only [List.mem_cons, List.not_mem_nil, or_false] at hk
    rcases hk with rfl | rfl | rfl | rfl
    · exact .inl (by simp)
    · exact .inr (Nat.le_trans hu6 hpt)
    · exact .inr (Nat.le_trans hsz k1)
    · exact .inr (Nat.le_trans hsz k2)
  · have HEN := Lib.hid hE
    have hb : (E != 0) = true := by simpa using hE
    clear hE
    go_wp2_with (refine wpList_store_row rfl 84 (.tmp 47) (.tmp 46) rfl g goneA rfl rfl 84 _ HBX.out size84 rfl gone_one ?_)
    go_ret
    exact ⟨by rw [HE.out]; rfl, F9, [g], HD9.out.keepG HBX.out (only_row _ _ _), commit_chg HC9.out (only_row _ _ _) (by simp) (fun k hk => .inl (by obtain rfl := List.mem_singleton.1 hk; simp)), .inl ⟨by rw [HE.out]; exact HEN.out, rfl, setRow_heap _ _ _ _ _ _ HBX.out⟩⟩
end
end Go.Proofs.YthcnofdihigohaaGreat
end
