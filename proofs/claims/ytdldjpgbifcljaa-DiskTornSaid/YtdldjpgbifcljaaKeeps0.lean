/- What DiskKeeps rests on: boxes beside a disk; what stays of a sector that is not written again. -/
import Derived.Test.YtdldjpgbifcljaaPlayed
namespace Go.Proofs.Ytdldjpgbifcljaa
open Go.RowKit

/-- A block that lies so. -/
structure Blk (w : World) (b t : Nat) (cs : Array Value) : Prop where
  hd : w.heap[b]? = some (.cells cs t (0, 0))
theorem Blk.c {w : World} {b t : Nat} {cs : Array Value} (h : Blk w b t cs) (i : Nat) : w.cell? ⟨b, i, none⟩ = cs[i]? := cell_of_row w b i _ _ _ h.hd
theorem Blk.fz {w : World} {b t : Nat} {cs : Array Value} (h : Blk w b t cs) (i : Nat) : w.frozen? ⟨b, i, none⟩ = false := frozen_of_row w b i _ _ h.hd
theorem Blk.lt {w : World} {b t : Nat} {cs : Array Value} (h : Blk w b t cs) : b < w.heap.size := lt_of_block h.hd
theorem Blk.below {w w' : World} {b t : Nat} {cs : Array Value} (h : Blk w b t cs) (hb : Below w.heap.size w w') : Blk w' b t cs := ⟨(hb.block b h.lt).trans h.hd⟩
theorem Blk.chg {w w' : World} {F F' : List Nat} {b t : Nat} {cs : Array Value} (h : Blk w b t cs) (hc : Chg F F' w w') (hT : Typed w F) (ht : t ≠ 63 ∧ t ≠ 59 ∧ t ≠ 77) : Blk w' b t cs := ⟨hc.keep hT h.hd ht⟩
theorem Blk.set {w : World} {b t : Nat} {cs : Array Value} (h : Blk w b t cs) (i : Nat) (u : Value) : Blk (w.setCell ⟨b, i, none⟩ u) b t (cs.setIfInBounds i u) := ⟨heap_setCell_same w b i _ _ u h.hd⟩
theorem Blk.other {w : World} {b t : Nat} {cs : Array Value} (h : Blk w b t cs) {k i : Nat} (hk : b ≠ k) (u : Value) : Blk (w.setCell ⟨k, i, none⟩ u) b t cs := ⟨(heap_setCell_other _ _ _ _ hk).trans h.hd⟩
/-- Four cells. -/
def four (f : Nat → Value) : Array Value := #[f 0, f 1, f 2, f 3]
theorem four_get (f : Nat → Value) (i : Nat) (h : i < 4) : (four f)[i]? = some (f i) := by
  match i, h with
  | 0, _ => rfl
  | 1, _ => rfl
  | 2, _ => rfl
  | 3, _ => rfl
theorem four_set (f : Nat → Value) (i : Nat) (u : Value) (h : i < 4) : (four f).setIfInBounds i u = four (fun k => if k = i then u else f k) := by
  match i, h with
  | 0, _ => rfl
  | 1, _ => rfl
  | 2, _ => rfl
  | 3, _ => rfl
theorem four_congr {f g : Nat → Value} (h : ∀ i, i < 4 → f i = g i) : four f = four g := by
  unfold four; rw [h 0 (by omega), h 1 (by omega), h 2 (by omega), h 3 (by omega)]

/-- The law's disk, that it made itself. -/
structure HI (w wr : World) (g : Nat) (m : Dsk) : Prop where
  dk : ∃ F, Dk wr g F m ∧ ∀ k ∈ F, w.heap.size ≤ k
  below : Below w.heap.size w wr
theorem HI.le {w wr w' : World} {g : Nat} {m : Dsk} (h : HI w wr g m) (hb : Below wr.heap.size wr w') : HI w w' g m := by
  obtain ⟨F, h1, h2⟩ := h.dk
  exact ⟨⟨F, h1.below hb, h2⟩, h.below.trans (hb.mono h.below.size)⟩
/-- A call on it. -/
def Goes (w wr w' : World) (g : Nat) (m' : Dsk) : Prop := HI w w' g m' ∧ ∀ b t cs, t ≠ 63 ∧ t ≠ 59 ∧ t ≠ 77 → Blk wr b t cs → Blk w' b t cs
theorem HI.went {w wr : World} {g : Nat} {m : Dsk} (h : HI w wr g m) : ∃ F, Dk wr g F m ∧ (∀ k ∈ F, w.heap.size ≤ k) ∧ ∀ w' m', Went F g m' wr w' → Goes w wr w' g m' := by
  obtain ⟨F, h1, h2⟩ := h.dk
  refine ⟨F, h1, h2, fun w' m' ⟨F', hD, hC⟩ => ⟨⟨⟨F', hD, hC.high h.below.size h2⟩, hC.below h.below h.below.size h2⟩, fun b t cs ht hB => hB.chg hC h1.typed ht⟩⟩
theorem Dk.apartB {wx W5 : World} {g k t : Nat} {Fx : List Nat} {md : Dsk} (hD : Dk wx g Fx md) {cs0 : Array Value} (hB : Blk wx k t cs0) (ht : t ≠ 63 ∧ t ≠ 59 ∧ t ≠ 77 ∧ t ≠ 5) (hall : ∀ j, j ≠ k → W5.heap[j]? = wx.heap[j]?) : Dk W5 g Fx md := by
  obtain ⟨bO, cO, bL, cL, vW, os, ls, ws, h, rfl⟩ := hD
  have hF : ∀ j ∈ foot g bO bL vW, j ≠ k := fun j hj => by
    obtain ⟨cs, t, fr, h1, h2⟩ := h.typed j hj
    exact ne_of_ty h1 hB.hd (by rcases h2 with e | e | e <;> subst e <;> first | exact fun e => ht.1 e.symm | exact fun e => ht.2.1 e.symm | exact fun e => ht.2.2.1 e.symm)
  have hs := fun j hj => hall j (hF j hj)
  have sec : ∀ {v : Value} {s : List Nat}, Sec wx v s → Sec W5 v s := fun {v s} hsec => by
    obtain ⟨b, c, cur, fr, rfl, hh, hr⟩ := hsec
    exact ⟨b, c, cur, fr, rfl, (hall b (ne_of_ty hh hB.hd (fun e => ht.2.2.2 e.symm))).trans hh, hr⟩
  refine ⟨bO, cO, bL, cL, vW, os, ls, ws, ⟨(hs g (by simp [foot])).trans h.hd, own_other h.ro (fun j hj => hs j ?_), own_other h.rl (fun j hj => hs j ?_), own_other h.rw_ (fun j hj => hs j ?_), ⟨h.so.len, fun i hi => sec (h.so.at_ i hi)⟩, ⟨h.sl.len, fun i hi => sec (h.sl.at_ i hi)⟩, ⟨h.sw.len, fun i hi => ⟨(h.sw.at_ i hi).1, sec (h.sw.at_ i hi).2⟩⟩, h.nil_, h.ne, h.ok⟩, rfl⟩
  · cases hj; simp [foot]
  · cases hj; simp [foot]
  · simp [foot, hj]
/-- A box of its own is stored into. -/
theorem HI.set {w wr : World} {g : Nat} {m : Dsk} (h : HI w wr g m) {b t : Nat} {cs : Array Value} (hB : Blk wr b t cs) (ht : t ≠ 63 ∧ t ≠ 59 ∧ t ≠ 77 ∧ t ≠ 5) (hb : w.heap.size ≤ b) (i : Nat) (u : Value) : HI w (wr.setCell ⟨b, i, none⟩ u) g m := by
  obtain ⟨F, h1, h2⟩ := h.dk
  exact ⟨⟨F, h1.apartB hB ht (fun j hj => heap_setCell_other _ _ _ _ hj), h2⟩, h.below.setCell hb u⟩

/-- What stays: the sectors that are not written again. -/
structure KI (base : List (List Nat)) (ag : Nat → Bool) (i : Nat) (m : Dsk) : Prop where
  near : Near m 4 i
  row : ∀ x ∈ m.row, ag x.1 = true
  out : ∀ j, j < 4 → ag j = false → sec m.out j = sec base j
theorem sec_appN {l : List Wr} {L : List (List Nat)} {j : Nat} : ∀ k, k ≤ l.length → (∀ x ∈ l, x.1 ≠ j) → sec (appN l L k) j = sec L j
  | 0, _, _ => rfl
  | k + 1, hk, h => by
    have hx := h _ (wr_mem (show k < l.length by omega))
    show sec ((appN l L k).set (wr l k).1 (wr l k).2) j = _
    have e : sec ((appN l L k).set (wr l k).1 (wr l k).2) j = sec (appN l L k) j := by
      unfold sec
      simp only [List.getD_eq_getElem?_getD, List.getElem?_set_ne hx]
    rw [e, sec_appN k (by omega) h]
theorem sec_failN {l : List Wr} {L : List (List Nat)} {f : Nat → Option Nat} {j : Nat} : ∀ k, k ≤ l.length → (∀ x ∈ l, x.1 ≠ j) → sec (failN l L f k) j = sec L j
  | 0, _, _ => rfl
  | k + 1, hk, h => by
    have hx := h _ (wr_mem (show k < l.length by omega))
    show sec (bring (failN l L f k) (wr l k) (f k)) j = _
    have e : sec (bring (failN l L f k) (wr l k) (f k)) j = sec (failN l L f k) j := by
      cases f k with
      | none => rfl
      | some a =>
        show sec ((failN l L f k).set (wr l k).1 _) j = _
        unfold sec
        simp only [List.getD_eq_getElem?_getD, List.getElem?_set_ne hx]
    rw [e, sec_failN k (by omega) h]
theorem KI.start {m : Dsk} {i : Nat} (h : Near m 4 i) (h2 : m.down = false) (h3 : m.fuse ≠ 0) : KI m.last (fun _ => false) (i + 1) (barM m) := by
  have hl := last_len m
  unfold barM
  rw [if_neg (by simp [h2]), if_neg h3]
  exact ⟨⟨hl.trans h.out, Nat.succ_le_succ h.done, Nat.zero_le _⟩, fun x hx => (by cases hx), fun j _ _ => rfl⟩
theorem KI.le {base : List (List Nat)} {ag : Nat → Bool} {i : Nat} {m : Dsk} (h : KI base ag i m) : KI base ag (i + 1) m := ⟨⟨h.near.out, Nat.le_succ_of_le h.near.done, Nat.le_succ_of_le h.near.row⟩, h.row, h.out⟩
theorem KI.bar {base : List (List Nat)} {ag : Nat → Bool} {i : Nat} {m : Dsk} (h : KI base ag i m) : KI base ag (i + 1) (barM m) := by
  have hl := last_len m
  unfold barM
  split
  · exact h.le
  · split
    · exact ⟨⟨h.near.out, Nat.le_succ_of_le h.near.done, Nat.le_succ_of_le h.near.row⟩, h.row, h.out⟩
    · refine ⟨⟨hl.trans h.near.out, Nat.succ_le_succ h.near.done, Nat.zero_le _⟩, fun x hx => (by cases hx), fun j hj ha => ?_⟩
      rw [← h.out j hj ha]
      exact sec_appN _ (Nat.le_refl _) (fun x hx e => by have := h.row x hx; rw [e, ha] at this; cases this)
/-- A write, and the sector's mark. -/
def mark (ag : Nat → Bool) (a : Int) : Nat → Bool := fun k => if (k : Int) = a then true else ag k
theorem KI.mark {base : List (List Nat)} {ag : Nat → Bool} {i : Nat} {m : Dsk} (h : KI base ag i m) (a : Int) : KI base (mark ag a) i m := by
  refine ⟨h.near, fun x hx => ?_, fun j hj ha => h.out j hj ?_⟩
  · unfold Go.Proofs.Ytdldjpgbifcljaa.mark; split
    · rfl
    · exact h.row x hx
  · unfold Go.Proofs.Ytdldjpgbifcljaa.mark at ha; split at ha
    · cases ha
    · exact ha
theorem KI.put {base : List (List Nat)} {ag : Nat → Bool} {i : Nat} {m : Dsk} (h : KI base ag i m) (a : Int) (s : List Nat) (ha : 0 ≤ a → a < 4 → ag a.toNat = true) : KI base ag (i + 1) (putM m a s) := by
  unfold putM
  split
  · exact h.le
  · split
    · exact h.le
    · split
      · exact h.le
      · split
        · exact ⟨⟨h.near.out, Nat.le_succ_of_le h.near.done, Nat.le_succ_of_le h.near.row⟩, h.row, h.out⟩
        · rename_i h1 h2 h3 h4
          have h5 : m.has a = true := by simpa using h2
          unfold Dsk.has at h5
          simp only [Bool.and_eq_true, decide_eq_true_eq] at h5
          have h6 := h.near.out
          refine ⟨⟨h.near.out, Nat.succ_le_succ h.near.done, by show (m.row ++ [_]).length ≤ _; rw [List.length_append]; exact Nat.succ_le_succ h.near.row⟩, fun x hx => ?_, h.out⟩
          rcases List.mem_append.1 hx with hx | hx
          · exact h.row x hx
          · obtain rfl := List.mem_singleton.1 hx
            exact ha h5.1 (by omega)
/-- Behind the failure and the start. -/
theorem KI.end_ {base : List (List Nat)} {ag : Nat → Bool} {i : Nat} {m : Dsk} (h : KI base ag i m) (keep : Nat → Bool) (torn n : Int) : ∀ j : Nat, j < 4 → readE (startM (failM m keep torn n)) (j : Int) = 0 ∧ (ag j = false → readS (startM (failM m keep torn n)) (j : Int) = sec base j) := fun j hj => by
  have e : startM (failM m keep torn n) = { m with out := failN m.row m.out (bits keep torn (cut128 n)) m.row.length, row := [], fuse := -1, down := false } := by unfold startM failM; rfl
  have hh : (startM (failM m keep torn n)).has (j : Int) = true := by
    refine has_true (by omega) ?_
    rw [e]
    show (j : Int) < ((failN _ _ _ _).length : Int)
    rw [failN_len, h.near.out]; omega
  have hd : (startM (failM m keep torn n)).down = false := by rw [e]
  refine ⟨by unfold readE; rw [if_neg (by simp [hd]), if_neg (by simp [hh])], fun ha => ?_⟩
  unfold readS
  rw [if_neg (by simp [hd]), if_neg (by simp [hh]), e]
  show sec (failN _ _ _ _) (Int.toNat j) = _
  rw [Int.toNat_natCast, sec_failN _ (Nat.le_refl _) (fun x hx e => by have := h.row x hx; rw [e, ha] at this; cases this)]
  exact h.out j hj ha
end Go.Proofs.Ytdldjpgbifcljaa
