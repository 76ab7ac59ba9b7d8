/- Texts RdL4 to RdV2 of this seat, laid into one. -/
import Derived.Test.YthjjgpepgbfalaaGreatDoorM21
import Derived.Test.YthjjgpepgbfalaaGreatDoorM23
import Derived.Test.YthjjgpepgbfalaaGreatDoorM24
set_option linter.unusedVariables false
set_option linter.unusedSimpArgs false
set_option linter.constructorNameAsVariable false
section
/-! The first of build's two ways over the nodes. -/
set_option maxRecDepth 20000
set_option linter.unusedSimpArgs false
set_option linter.unusedVariables false
namespace Go.Proofs.YthjjgpepgbfalaaGreatDoor
open Go.RowKit Go.Shelf

/-- One node's value set. -/
def bareS (s : Hm × List ByteArray × List Nd) (i : Nat) : Hm × List ByteArray × List Nd := ((bareM s.1 s.2.1 s.2.2 i).2.1, (bareM s.1 s.2.1 s.2.2 i).2.2, setVal s.2.2 i (bareM s.1 s.2.1 s.2.2 i).1)
def foldB (s : Hm × List ByteArray × List Nd) (d : List Nat) : Hm × List ByteArray × List Nd := d.foldl bareS s
theorem foldB_snoc (s : Hm × List ByteArray × List Nd) (d : List Nat) (i : Nat) : foldB s (d ++ [i]) = bareS (foldB s d) i := by unfold foldB; rw [List.foldl_append]; rfl
theorem ndAt_setVal (B : List Nd) (i : Nat) (v : Int × Int) (j : Nat) : (ndAt (setVal B i v) j).is = (ndAt B j).is ∧ (ndAt (setVal B i v) j).t = (ndAt B j).t ∧ (ndAt (setVal B i v) j).d = (ndAt B j).d ∧ (ndAt (setVal B i v) j).sm = (ndAt B j).sm := by
  unfold setVal
  by_cases hi : i < B.length
  · rw [ndAt_set hi]
    by_cases e : j = i
    · rw [if_pos e, e]; exact ⟨rfl, rfl, rfl, rfl⟩
    · rw [if_neg e]; exact ⟨rfl, rfl, rfl, rfl⟩
  · rw [List.set_eq_of_length_le (by omega)]; exact ⟨rfl, rfl, rfl, rfl⟩
theorem foldB_same (s : Hm × List ByteArray × List Nd) : ∀ (d : List Nat), (foldB s d).2.2.length = s.2.2.length ∧ ∀ j, (ndAt (foldB s d).2.2 j).is = (ndAt s.2.2 j).is ∧ (ndAt (foldB s d).2.2 j).t = (ndAt s.2.2 j).t ∧ (ndAt (foldB s d).2.2 j).d = (ndAt s.2.2 j).d ∧ (ndAt (foldB s d).2.2 j).sm = (ndAt s.2.2 j).sm := by
  intro d
  induction d generalizing s with
  | nil => exact ⟨rfl, fun j => ⟨rfl, rfl, rfl, rfl⟩⟩
  | cons i d ih =>
    obtain ⟨h1, h2⟩ := ih (bareS s i)
    refine ⟨?_, fun j => ?_⟩
    · show (foldB (bareS s i) d).2.2.length = _
      rw [h1]; unfold bareS setVal; simp
    · obtain ⟨a, b, c, e⟩ := h2 j
      obtain ⟨a2, b2, c2, e2⟩ := ndAt_setVal s.2.2 i (bareM s.1 s.2.1 s.2.2 i).1 j
      exact ⟨a.trans a2, b.trans b2, c.trans c2, e.trans e2⟩
theorem addM_ok {m : Hm} (hm : m.Ok) (o : Ob) : (addM m o).Ok := by
  unfold addM
  split
  · rename_i h
    refine hm.lay rfl ?_
    unfold addE at h
    split at h
    · cases h
    · split at h
      · cases h
      · omega
  · exact hm
theorem bzS_ok {m : Hm} (hm : m.Ok) : ∀ i, (bzS m i).1.Ok
  | 0 => hm
  | i + 1 => addM_ok (bzS_ok hm i) _
theorem bzS_dom {m : Hm} (hm : m.Ok) : ∀ i, domV (bzS m i).2
  | 0 => domV_zero
  | i + 1 => domV_add _ (bzS_ok hm i) _
theorem domV_k (k n : Int) (hk : 0 ≤ k ∧ k ≤ 8) (hn : I64 n) : domV (k, n) := ⟨⟨by show (-9223372036854775808 : Int) ≤ k; omega, by show k ≤ 9223372036854775807; omega⟩, hn⟩
theorem numA_fit (N : List ByteArray) (T : ByteArray) (hN : N.length ≤ 16384) : I64 (Sy.numA N T) := by
  unfold Sy.numA
  split
  · split
    · rename_i h
      have := Sy.atN_lt h
      exact ⟨by omega, by omega⟩
    · exact ⟨by omega, by omega⟩
  · exact ⟨by decide, by decide⟩
theorem bareM_dom {m : Hm} (hm : m.Ok) (N : List ByteArray) (A : List Nd) (i : Nat) (ht : I64 (ndAt A i).t.n) (hN : N.length ≤ 16384) : domV (bareM m N A i).1 := by
  unfold bareM
  split
  · exact domV_k _ _ (by decide) ht
  split
  · exact domV_k _ _ (by decide) ht
  split
  · exact domV_k _ _ (by decide) ht
  split
  · exact domV_k _ _ (by decide) (numA_fit _ _ hN)
  split
  · exact domV_add _ hm _
  split
  · exact domV_add _ hm _
  split
  · exact domV_add _ hm _
  · exact bzS_dom hm _
/-- Amid build's first way. -/
structure BdJ (w : World) (g gt : Nat) (F : Nat → Prop) (Ft : List Nat) (S : Nat → Nat) (V : Nat → Value) (m : Hm) (N : List ByteArray) (A : List Nd) (b3 b4 : Nat) (d : List Nat) (W : World) : Prop where
  st : ∃ F' Ft', Bth W g gt F' Ft' (foldB (m, N, A) d).1 (foldB (m, N, A) d).2.1 ∧ Chp (fun k => bthF F Ft k ∨ footN S V A.length k) (fun k => bthF F' Ft' k ∨ footN S V A.length k) w W ∧ (∀ k, footN S V A.length k → ¬ bthF F' Ft' k) ∧ ¬ bthF F' Ft' b3 ∧ ¬ bthF F' Ft' b4
  nds : Nds W S V (foldB (m, N, A) d).2.2
  b3 : W.heap[b3]? = some (.cells #[.pointer (some ⟨g, 0, none⟩)] 24 (0, 0))
  b4 : W.heap[b4]? = some (.cells #[.pointer (some ⟨gt, 0, none⟩)] 28 (0, 0))
section
variable {w W : World} {g gt : Nat} {F : Nat → Prop} {Ft : List Nat} {S : Nat → Nat} {V : Nat → Value} {m : Hm} {N : List ByteArray} {A : List Nd} {b3 b4 : Nat} {d : List Nat}
/-- Behind one node's value. -/
theorem BdJ.step (h : BdJ w g gt F Ft S V m N A b3 b4 d W) {i : Nat} (hi : i < A.length) (hn3 : ∀ j, j < A.length → S j ≠ b3 ∧ S j ≠ b4) {W5 : World} {F' : Nat → Prop} {Ft' : List Nat}
    (h1 : Bth W g gt F' Ft' (foldB (m, N, A) d).1 (foldB (m, N, A) d).2.1) (h2 : Chp (fun k => bthF F Ft k ∨ footN S V A.length k) (fun k => bthF F' Ft' k ∨ footN S V A.length k) w W) (h3 : (∀ k, footN S V A.length k → ¬ bthF F' Ft' k) ∧ ¬ bthF F' Ft' b3 ∧ ¬ bthF F' Ft' b4)
    (hN : (foldB (m, N, A) d).2.1.length ≤ 16384)
    (hw : WentB F' Ft' g gt (bareM (foldB (m, N, A) d).1 (foldB (m, N, A) d).2.1 (foldB (m, N, A) d).2.2 i).2.1 (bareM (foldB (m, N, A) d).1 (foldB (m, N, A) d).2.1 (foldB (m, N, A) d).2.2 i).2.2 W W5) :
    BdJ w g gt F Ft S V m N A b3 b4 (d ++ [i]) ((W5.setCell ⟨S i, 7, none⟩ (.int .i64 (bareM (foldB (m, N, A) d).1 (foldB (m, N, A) d).2.1 (foldB (m, N, A) d).2.2 i).1.1)).setCell ⟨S i, 8, none⟩ (.int .i64 (bareM (foldB (m, N, A) d).1 (foldB (m, N, A) d).2.1 (foldB (m, N, A) d).2.2 i).1.2)) := by
  obtain ⟨hlen, hsm⟩ := foldB_same (m, N, A) d
  have hd := bareM_dom h1.hp.ok (foldB (m, N, A) d).2.1 (foldB (m, N, A) d).2.2 i (h.nds.tk i (by rw [hlen]; exact hi)).1.n hN
  have hfs : foldB (m, N, A) (d ++ [i]) = bareS (foldB (m, N, A) d) i := foldB_snoc _ _ _
  have hnd := h.nds
  obtain ⟨F2, Ft2, k1, k2⟩ := hw
  generalize hB : (foldB (m, N, A) d).2.2 = B at *
  have hiB : i < B.length := by rw [hlen]; exact hi
  have hfoot : ∀ k, footN S V A.length k → k < W.heap.size := fun k hk => hnd.lt k (by rw [hlen]; exact hk)
  have hkeep : ∀ k, footN S V A.length k → W5.heap[k]? = W.heap[k]? := fun k hk => k2.block k (hfoot k hk) (h3.1 k hk)
  have hn5 : Nds W5 S V B := hnd.keep fun k hk => hkeep k (by rw [hlen] at hk; exact hk)
  have hap2 : ∀ k, footN S V A.length k → ¬ bthF F2 Ft2 k := fun k hk => k2.out (hfoot k hk) (h3.1 k hk)
  have hor := hnd.ord i hiB
  have hle := hnd.len i hiB
  have htk := hnd.tk i hiB
  unfold bareS at hfs
  rw [hB] at hfs
  generalize hr : bareM (foldB (m, N, A) d).1 (foldB (m, N, A) d).2.1 B i = r at *
  obtain ⟨⟨r1, r2⟩, rm, rn⟩ := r
  have hf1 : (foldB (m, N, A) (d ++ [i])).1 = rm := by rw [hfs]
  have hf2 : (foldB (m, N, A) (d ++ [i])).2.1 = rn := by rw [hfs]
  have hf3 : (foldB (m, N, A) (d ++ [i])).2.2 = B.set i { ndAt B i with v := (r1, r2) } := by rw [hfs]; rfl
  have hcell := hn5.hd i hiB
  have hx6 : ((W5.setCell ⟨S i, 7, none⟩ (.int .i64 r1)).setCell ⟨S i, 8, none⟩ (.int .i64 r2)).heap[S i]? = some (.cells (ndC S { ndAt B i with v := (r1, r2) } (V i)) 74 (0, 0)) := heap_setCell_same _ _ 8 _ _ _ (heap_setCell_same _ _ 7 _ _ _ hcell)
  have ho : ∀ k, k ≠ S i → ((W5.setCell ⟨S i, 7, none⟩ (.int .i64 r1)).setCell ⟨S i, 8, none⟩ (.int .i64 r2)).heap[k]? = W5.heap[k]? := fun k hk => (heap_setCell_other _ _ _ _ hk).trans (heap_setCell_other _ _ _ _ hk)
  have hos : Only (S i) W5 ((W5.setCell ⟨S i, 7, none⟩ (.int .i64 r1)).setCell ⟨S i, 8, none⟩ (.int .i64 r2)) := (Only.setCell _ 7 _ W5).trans (Only.setCell _ 8 _ _)
  have hput := hn5.put hiB { ndAt B i with v := (r1, r2) } (V i) hx6 (own_other (hn5.row i hiB) fun k e => ho k (fun e2 => hn5.ne hiB hiB e e2.symm)) (fun k _ n1 _ => ho k n1) (fun k e => .inl e) hor hle ⟨htk.1, htk.2.1, hd.1, hd.2⟩
  rw [upd_self] at hput
  have hSi : footN S V A.length (S i) := ⟨i, hi, .inl rfl⟩
  refine ⟨⟨F2, Ft2, by rw [hf1, hf2]; exact k1.keep fun k hk => ho k fun e => hap2 (S i) hSi (e ▸ hk), h2.trans ⟨hos.os.trans k2.os, hos.tape.trans k2.tape, hos.output.trans k2.output, Nat.le_trans k2.size hos.size, fun k hk hf => (ho k fun e => hf (.inr (e ▸ hSi))).trans (k2.block k hk fun e => hf (.inl e)), fun k hk => ?_⟩, hap2, k2.out (lt_of_block h.b3) h3.2.1, k2.out (lt_of_block h.b4) h3.2.2⟩, by rw [hf3]; exact hput, ?_, ?_⟩
  · rcases hk with hk | hk
    · exact (k2.fresh k hk).imp .inl id
    · exact .inl (.inr hk)
  · exact (ho _ (Ne.symm (hn3 i hi).1)).trans ((k2.block _ (lt_of_block h.b3) h3.2.1).trans h.b3)
  · exact (ho _ (Ne.symm (hn3 i hi).2)).trans ((k2.block _ (lt_of_block h.b4) h3.2.2).trans h.b4)
end
end Go.Proofs.YthjjgpepgbfalaaGreatDoor
end
section
/-! What build does at each node on its first way. -/
set_option maxRecDepth 20000
set_option linter.unusedSimpArgs false
set_option linter.unusedVariables false
namespace Go.Proofs.YthjjgpepgbfalaaGreatDoor
open Go.RowKit Go.Shelf

section
variable {w W : World} {g gt : Nat} {F : Nat → Prop} {Ft : List Nat} {S : Nat → Nat} {V : Nat → Value} {m : Hm} {N : List ByteArray} {A : List Nd} {b3 b4 : Nat} {d : List Nat}
set_option maxHeartbeats 1600000 in
theorem build1_any (h : BdJ w g gt F Ft S V m N A b3 b4 d W) {i : Nat} (hi : i < A.length) (hA : A.length ≤ 20000) (hn3 : ∀ j, j < A.length → S j ≠ b3 ∧ S j ≠ b4) (hN : (foldB (m, N, A) d).2.1.length ≤ 16383)
    (hroom : 0 ≤ pairsZ (ndAt A i) ∧ (pairsZ (ndAt A i)).toNat + liveN (foldB (m, N, A) d).1.L ≤ (foldB (m, N, A) d).1.lim) :
    Calls Tryz.prog 30 #[.pointer (some ⟨S i, 0, none⟩), .pointer (some ⟨b3, 0, none⟩), .pointer (some ⟨b4, 0, none⟩)] W fun e W' => e = .returned (.tuple #[]) ∧ BdJ w g gt F Ft S V m N A b3 b4 (d ++ [i]) W' := by
  obtain ⟨F', Ft', h1, h2, h3⟩ := h.st
  obtain ⟨hlen, hsm⟩ := foldB_same (m, N, A) d
  have hp : pairsZ (ndAt (foldB (m, N, A) d).2.2 i) = pairsZ (ndAt A i) := by
    obtain ⟨a, b, c, e⟩ := hsm i
    unfold pairsZ
    rw [a, b, c]
  have hlen2 : (foldB (m, N, A) d).2.2.length = A.length := hlen
  have HB := Lib.hid (bare_any h1 h.nds (fun k hk => h3.1 k (by rw [hlen2] at hk; exact hk)) (by rw [hlen2]; exact hA) hN (i := i) (by rw [hlen2]; exact hi) (by rw [hp]; exact hroom))
  have HS := Lib.hid (fun W5 hw => h.step hi hn3 (W5 := W5) h1 h2 h3 (by omega) hw)
  have HC : Hid (∀ W5, WentB F' Ft' g gt (bareM (foldB (m, N, A) d).1 (foldB (m, N, A) d).2.1 (foldB (m, N, A) d).2.2 i).2.1 (bareM (foldB (m, N, A) d).1 (foldB (m, N, A) d).2.1 (foldB (m, N, A) d).2.2 i).2.2 W W5 → (∃ z, W5.cell? ⟨S i, 7, none⟩ = some (.int .i64 z)) ∧ (∃ z, W5.cell? ⟨S i, 8, none⟩ = some (.int .i64 z)) ∧ W5.frozen? ⟨S i, 7, none⟩ = false ∧ W5.frozen? ⟨S i, 8, none⟩ = false) := Lib.hid fun W5 ⟨F2, Ft2, k1, k2⟩ => by
    have hnd := h.nds.hd i (by rw [hlen2]; exact hi)
    have hr := (k2.block _ (lt_of_block hnd) (h3.1 _ ⟨i, hi, .inl rfl⟩)).trans hnd
    exact ⟨⟨_, cell_of_row _ _ 7 _ _ _ hr⟩, ⟨_, cell_of_row _ _ 8 _ _ _ hr⟩, frozen_of_row _ _ 7 _ _ hr, frozen_of_row _ _ 8 _ _ hr⟩
  have y3 := cell_of_row _ _ 0 _ _ _ h.b3
  have y4 := cell_of_row _ _ 0 _ _ _ h.b4
  simp at y3 y4
  clear h h1 h2 h3 hlen hsm hp hlen2 hroom hn3 hN
  generalize bareM (foldB (m, N, A) d).1 (foldB (m, N, A) d).2.1 (foldB (m, N, A) d).2.2 i = r at *
  obtain ⟨⟨r1, r2⟩, rm, rn⟩ := r
  go_enter Tryz.func30, Tryz.ntmps30
  go_wp2_with (go_at_call 31; with_reducible refine HB.out.mono ?_; rintro e W5 ⟨rfl, hw⟩; obtain ⟨⟨z7, y7⟩, ⟨z8, y8⟩, f7, f8⟩ := HC.out W5 hw)
  go_end0
  exact ⟨rfl, HS.out _ hw⟩
end
end Go.Proofs.YthjjgpepgbfalaaGreatDoor
end
section
/-! What lies in a vector laid in: the model, and the memory's Set. -/
set_option maxRecDepth 20000
set_option linter.unusedSimpArgs false
set_option linter.unusedVariables false
namespace Go.Proofs.YthjjgpepgbfalaaGreatDoor
open Go.RowKit Go.Shelf

section
variable {w w' : World} {g : Nat} {F : Nat → Prop} {m : Hm}
theorem Hep.set (h : Hep w g F m) (hh : Here m.L) (K N : Int) (hN : I64 N) (i : Int) (yk yn : Int) (hy : I64 yn) :
    Calls Tryz.prog 54 #[.pointer (some ⟨g, 0, none⟩), .agg #[.int .i64 K, .int .i64 N], .int .i64 i, .agg #[.int .i64 yk, .int .i64 yn]] w fun e w' => e = .returned (.int .i64 (setE m.L (K, N) i (yk, yn))) ∧ WentH F g (setM m (K, N) i (yk, yn)) w w' := by
  obtain ⟨vr, mb, S, hp, rfl⟩ := h
  exact hp.setI hh K N hN.1 hN.2 i yk yn hy
end
/-- What a Set leaves: all that is there is there, and nothing is away. -/
theorem setM_here {m : Hm} (hh : Here m.L) (v : Int × Int) (i : Int) (y : Int × Int) : Here (setM m v i y).L ∧ (setM m v i y).L.length = m.L.length ∧ (setM m v i y).lim = m.lim := by
  unfold setM
  split
  · split
    · rename_i c hc
      refine ⟨fun j d hd => ?_, by show (m.L.set _ _).length = _; simp, rfl⟩
      have hd2 : clAt (m.L.set v.2.toNat (some (setC c i y))) j = some d := hd
      rw [clAt_set (clAt_some hc)] at hd2
      split at hd2
      · cases hd2
        exact hh _ c hc
      · exact hh j d hd2
    · exact ⟨hh, rfl, rfl⟩
  · exact ⟨hh, rfl, rfl⟩
/-- The value of what stands for a node. -/
def stV (B : List Nd) (j : Nat) : Int × Int := match stands B j with
  | some k => (ndAt B k).v
  | none => (0, 0)
/-- The first k of a vector's items laid in. -/
def layV (m : Hm) (B : List Nd) (i : Nat) : Nat → Hm
  | 0 => m
  | k + 1 => setM (layV m B i k) (ndAt B i).v (k : Int) (stV B ((ndAt B i).is.getD k 0))
theorem layV_here {m : Hm} (hh : Here m.L) (B : List Nd) (i : Nat) : ∀ k, Here (layV m B i k).L ∧ (layV m B i k).L.length = m.L.length ∧ (layV m B i k).lim = m.lim
  | 0 => ⟨hh, rfl, rfl⟩
  | k + 1 => by
    obtain ⟨h1, h2, h3⟩ := layV_here hh B i k
    obtain ⟨a, b, c⟩ := setM_here h1 (ndAt B i).v (k : Int) (stV B ((ndAt B i).is.getD k 0))
    exact ⟨a, b.trans h2, c.trans h3⟩
end Go.Proofs.YthjjgpepgbfalaaGreatDoor
end
section
/-! What lies in a chain laid in: the model, and what holds amid the loop. -/
set_option maxRecDepth 20000
set_option linter.unusedSimpArgs false
set_option linter.unusedVariables false
namespace Go.Proofs.YthjjgpepgbfalaaGreatDoor
open Go.RowKit Go.Shelf

/-- The first k of a chain's items laid in, and behind the last but one the end. -/
def layC (m : Hm) (L : Pls) (B : List Nd) (i : Nat) : Nat → Hm
  | 0 => m
  | k + 1 => if (ndAt B i).d = true ∧ k + 2 = (ndAt B i).is.length
    then setM (setM (layC m L B i k) (curM L (ndAt B i).v k) 0 (stV B ((ndAt B i).is.getD k 0))) (curM L (ndAt B i).v k) 1 (stV B ((ndAt B i).is.getD (k + 1) 0))
    else setM (layC m L B i k) (curM L (ndAt B i).v k) 0 (stV B ((ndAt B i).is.getD k 0))
theorem layC_here {m : Hm} (hh : Here m.L) (L : Pls) (B : List Nd) (i : Nat) : ∀ k, Here (layC m L B i k).L ∧ (layC m L B i k).L.length = m.L.length ∧ (layC m L B i k).lim = m.lim
  | 0 => ⟨hh, rfl, rfl⟩
  | k + 1 => by
    obtain ⟨h1, h2, h3⟩ := layC_here hh L B i k
    obtain ⟨a, b, c⟩ := setM_here h1 (curM L (ndAt B i).v k) 0 (stV B ((ndAt B i).is.getD k 0))
    unfold layC
    split
    · obtain ⟨a2, b2, c2⟩ := setM_here a (curM L (ndAt B i).v k) 1 (stV B ((ndAt B i).is.getD (k + 1) 0))
      exact ⟨a2, b2.trans (b.trans h2), c2.trans (c.trans h3)⟩
    · exact ⟨a, b.trans h2, c.trans h3⟩
/-- Amid lay's loop over a chain. -/
structure LcJ (w : World) (g : Nat) (F : Nat → Prop) (m : Hm) (S : Nat → Nat) (B : List Nd) (i B5 base n b : Nat) (vs : Value) (top : Nat) (mk : Hm) (k : Nat) (W : World) (F' : Nat → Prop) : Prop where
  hep : Hep W g F' mk
  chp : Chp F F' w W
  ap : ∀ j, j < top → ¬ F j → ¬ F' j
  b0 : W.heap[w.heap.size]? = some (.cells #[.pointer (some ⟨g, 0, none⟩)] 24 (0, 0))
  b1 : W.heap[w.heap.size + 1]? = some (.cells #[.pointer (some ⟨S i, 0, none⟩)] 56 (0, 0))
  b2 : ∃ o r c, (0 < c → o = k) ∧ r + k = (ndAt B i).is.length ∧ r ≤ c ∧ W.heap[w.heap.size + 2]? = some (.cells #[.slice (some ⟨b, o, none⟩) r c] 72 (0, 0))
  b5 : W.heap[B5]? = some (.cells #[vs] 63 (0, 0))
  row : W.ownsRow base 68 4 vs n (itC m.L (ndAt B i).v n)
  top' : top ≤ W.heap.size
  vst : ∀ k, vs.ownBlock = some k → k < top
  n5 : w.heap.size + 3 ≤ B5 ∧ B5 < top ∧ w.heap.size + 3 ≤ base
def qF (w : World) (F' : Nat → Prop) : Nat → Prop := fun j => F' j ∨ j = w.heap.size + 2
def LcI (w : World) (g : Nat) (F : Nat → Prop) (m : Hm) (S : Nat → Nat) (B : List Nd) (i B5 base n b : Nat) (vs : Value) (top : Nat) (k : Nat) (W : World) (Q : Nat → Prop) : Prop := ∃ F', Q = qF w F' ∧ LcJ w g F m S B i B5 base n b vs top (layC m m.L B i k) k W F'
section
variable {w W W2 : World} {g : Nat} {F F' : Nat → Prop} {m mk : Hm} {S : Nat → Nat} {V : Nat → Value} {B : List Nd} {i B5 base n b : Nat} {vs : Value} {top k : Nat} {Q : Nat → Prop}
theorem LcJ.keep (h : LcJ w g F m S B i B5 base n b vs top mk k W F') (hw : w.heap.size ≤ top) (e1 : W2.os = W.os) (e2 : W2.tape = W.tape) (e3 : W2.output = W.output) (e4 : W.heap.size ≤ W2.heap.size) (hk : ∀ k, k < W.heap.size → k < top ∨ qF w F' k → W2.heap[k]? = W.heap[k]?) : LcJ w g F m S B i B5 base n b vs top mk k W2 F' := by
  obtain ⟨o, r, c, h0, h1, h2, h3⟩ := h.b2
  have h5 := h.n5
  have ht := h.top'
  refine ⟨h.hep.keep fun j hj => hk j (h.hep.lt j hj) (.inr (.inl hj)), ⟨e1.trans h.chp.os, e2.trans h.chp.tape, e3.trans h.chp.output, Nat.le_trans h.chp.size e4, fun j hj hf => (hk j (by omega) (.inl (by omega))).trans (h.chp.block j hj hf), h.chp.fresh⟩, h.ap,
    (hk _ (lt_of_block h.b0) (.inl (by omega))).trans h.b0, (hk _ (lt_of_block h.b1) (.inl (by omega))).trans h.b1, ⟨o, r, c, h0, h1, h2, (hk _ (lt_of_block h3) (.inl (by omega))).trans h3⟩, (hk _ (lt_of_block h.b5) (.inl (by omega))).trans h.b5,
    own_other h.row fun j e => hk j (h.row.lt j e).2 (.inl (h.vst j e)), Nat.le_trans ht e4, h.vst, h5⟩
theorem LcI.stay (hw : w.heap.size ≤ top) : StayF top (LcI w g F m S B i B5 base n b vs top) := by
  rintro k W W' Q ⟨F', rfl, h⟩ e1 e2 e3 e4 hk
  exact ⟨F', rfl, h.keep hw e1 e2 e3 e4 hk⟩
theorem LcI.inF : InF (LcI w g F m S B i B5 base n b vs top) := by
  rintro k W Q ⟨F', rfl, h⟩ j hj
  rcases hj with h1 | h1
  · exact h.hep.lt j h1
  · obtain ⟨_, r, c, _, _, _, h3⟩ := h.b2
    rw [h1]; exact lt_of_block h3
theorem LcJ.nds (h : LcJ w g F m S B i B5 base n b vs top mk k W F') (hn : Nds w S V B) (hap : ∀ k, footN S V B.length k → ¬ F k) : Nds W S V B :=
  hn.keep fun j hj => h.chp.block j (hn.lt j hj) (hap j hj)
theorem LcJ.out (h : LcJ w g F m S B i B5 base n b vs top mk k W F') (hl : ∀ k, F k → k < w.heap.size) {j : Nat} (h1 : w.heap.size ≤ j) (h2 : j < top) : ¬ F' j := h.ap j h2 fun e => by have := hl j e; omega
/-- Behind a Set. -/
theorem LcJ.went (h : LcJ w g F m S B i B5 base n b vs top mk k W F') (hl : ∀ k, F k → k < w.heap.size) {m2 : Hm} (hw : WentH F' g m2 W W2) :
    ∃ F2, LcJ w g F m S B i B5 base n b vs top m2 k W2 F2 ∧ Chp (qF w F') (qF w F2) W W2 := by
  obtain ⟨F2, h2, hc⟩ := hw
  obtain ⟨o1, r1, c1, hr0, hr1, hr2, h3⟩ := h.b2
  have h5 := h.n5
  have ht := h.top'
  have hz := hc.size
  have kb : ∀ j, w.heap.size ≤ j → j < top → W2.heap[j]? = W.heap[j]? := fun j hj hjt => hc.block j (by omega) (h.out hl hj hjt)
  refine ⟨F2, ⟨h2, h.chp.trans hc, fun j hj hf => hc.out (by omega) (h.ap j hj hf), (kb _ (by omega) (by omega)).trans h.b0, (kb _ (by omega) (by omega)).trans h.b1, ⟨o1, r1, c1, hr0, hr1, hr2, (kb _ (by omega) (by omega)).trans h3⟩, (kb _ (by omega) (by omega)).trans h.b5, own_other h.row fun j e => ?_, Nat.le_trans ht hz, h.vst, h5⟩, ⟨hc.os, hc.tape, hc.output, hz, fun j hj hf => hc.block j hj fun e => hf (.inl e), fun j hj => ?_⟩⟩
  · have e2 := h.row.lt j e
    exact kb j (by omega) (h.vst j e)
  · rcases hj with hj | hj
    · exact (hc.fresh j hj).imp .inl id
    · exact .inl (.inr hj)
/-- The items' box is cut. -/
theorem LcJ.cut (h : LcJ w g F m S B i B5 base n b vs top mk k W F') (hl : ∀ k, F k → k < w.heap.size) {k2 o r c : Nat} (hoo : 0 < c → o = k2) (hr : r + k2 = (ndAt B i).is.length) (hrc : r ≤ c) :
    LcJ w g F m S B i B5 base n b vs top mk k2 (W.setCell ⟨w.heap.size + 2, 0, none⟩ (.slice (some ⟨b, o, none⟩) r c)) F' ∧ Chp (qF w F') (qF w F') W (W.setCell ⟨w.heap.size + 2, 0, none⟩ (.slice (some ⟨b, o, none⟩) r c)) := by
  obtain ⟨_, r1, c1, _, _, _, h3⟩ := h.b2
  have h5 := h.n5
  have ht := h.top'
  have ho : ∀ j, j ≠ w.heap.size + 2 → (W.setCell ⟨w.heap.size + 2, 0, none⟩ (.slice (some ⟨b, o, none⟩) r c)).heap[j]? = W.heap[j]? := fun j hj => heap_setCell_other _ _ _ _ hj
  have hos : Only (w.heap.size + 2) W (W.setCell ⟨w.heap.size + 2, 0, none⟩ (.slice (some ⟨b, o, none⟩) r c)) := Only.setCell _ 0 _ W
  refine ⟨⟨h.hep.keep fun j hj => ho j fun e => h.out hl (by omega) (by omega) (e ▸ hj), ⟨hos.os.trans h.chp.os, hos.tape.trans h.chp.tape, hos.output.trans h.chp.output, Nat.le_trans h.chp.size hos.size, fun j hj hf => (ho j (by omega)).trans (h.chp.block j hj hf), h.chp.fresh⟩, h.ap, (ho _ (by omega)).trans h.b0, (ho _ (by omega)).trans h.b1, ⟨o, r, c, hoo, hr, hrc, heap_setCell_same _ _ 0 _ _ _ h3⟩, (ho _ (by omega)).trans h.b5, own_other h.row fun j e => ?_, Nat.le_trans ht hos.size, h.vst, h5⟩, ⟨hos.os, hos.tape, hos.output, hos.size, fun j hj hf => ho j fun e => hf (.inr e), fun j hj => .inl hj⟩⟩
  have e2 := h.row.lt j e
  exact ho j (by omega)
theorem Chp.left {Q Q' Q2 : Nat → Prop} {w w' : World} (h : Chp Q Q2 w w') (hq : ∀ j, Q j → Q' j) : Chp Q' Q2 w w' := ⟨h.os, h.tape, h.output, h.size, fun j hj hf => h.block j hj fun e => hf (hq j e), fun j hj => (h.fresh j hj).imp (hq j) id⟩
end
end Go.Proofs.YthjjgpepgbfalaaGreatDoor
end
section
/-! What lies in a vector laid in. -/
set_option maxRecDepth 20000
set_option linter.unusedSimpArgs false
set_option linter.unusedVariables false
namespace Go.Proofs.YthjjgpepgbfalaaGreatDoor
open Go.RowKit Go.Shelf

/-- Amid lay. -/
structure LvJ (w : World) (g : Nat) (F : Nat → Prop) (m : Hm) (S : Nat → Nat) (V : Nat → Value) (B : List Nd) (i k : Nat) (wr : World) : Prop where
  st : ∃ F', Hep wr g F' (layV m B i k) ∧ Chp F F' w wr ∧ ∀ j, j < w.heap.size + 2 → ¬ F j → ¬ F' j
  b2 : wr.heap[w.heap.size]? = some (.cells #[.pointer (some ⟨g, 0, none⟩)] 24 (0, 0))
  b3 : wr.heap[w.heap.size + 1]? = some (.cells #[.pointer (some ⟨S i, 0, none⟩)] 56 (0, 0))
section
variable {w wr w2 : World} {g : Nat} {F : Nat → Prop} {m : Hm} {S : Nat → Nat} {V : Nat → Value} {B : List Nd} {i k : Nat}
theorem LvJ.nds (h : LvJ w g F m S V B i k wr) (hn : Nds w S V B) (hap : ∀ k, footN S V B.length k → ¬ F k) : Nds wr S V B := by
  obtain ⟨F', h1, h2, h3⟩ := h.st
  exact hn.keep fun k hk => h2.block k (hn.lt k hk) (hap k hk)
theorem LvJ.step (h : LvJ w g F m S V B i k wr) (hl : ∀ k, F k → k < w.heap.size) {F' : Nat → Prop} (h1 : Hep wr g F' (layV m B i k)) (h2 : Chp F F' w wr) (h3 : ∀ j, j < w.heap.size + 2 → ¬ F j → ¬ F' j) (hw : WentH F' g (layV m B i (k + 1)) wr w2) : LvJ w g F m S V B i (k + 1) w2 := by
  obtain ⟨F2, k1, k2⟩ := hw
  have n2 : ¬ F' w.heap.size := h3 _ (by omega) fun e => by have := hl _ e; omega
  have n3 : ¬ F' (w.heap.size + 1) := h3 _ (by omega) fun e => by have := hl _ e; omega
  have l2 := lt_of_block h.b2
  have l3 := lt_of_block h.b3
  exact ⟨⟨F2, k1, h2.trans k2, fun j hj hf => k2.out (by omega) (h3 j hj hf)⟩, (k2.block _ l2 n2).trans h.b2, (k2.block _ l3 n3).trans h.b3⟩
set_option maxHeartbeats 3200000 in
theorem lay_vec (h : Hep w g F m) (hh : Here m.L) (hn : Nds w S V B) (hap : ∀ k, footN S V B.length k → ¬ F k) (hB : B.length ≤ 20000) (hi : i < B.length) (hk : (ndAt B i).t.k = 2) (hst : ∀ j ∈ (ndAt B i).is, ∃ k, stands B j = some k) :
    Calls Tryz.prog 33 #[.pointer (some ⟨g, 0, none⟩), .pointer (some ⟨S i, 0, none⟩)] w fun e w' => e = .returned (.tuple #[]) ∧ WentH F g (layV m B i (ndAt B i).is.length) w w' := by
  obtain ⟨W2, hW2⟩ : ∃ W2, (w.alloc (.cells #[.pointer (some ⟨g, 0, none⟩)] 24)).alloc (.cells #[.pointer (some ⟨S i, 0, none⟩)] 56) = W2 := ⟨_, rfl⟩
  have hb : Below w.heap.size w W2 := by rw [← hW2]; exact ((Below.refl _ _).alloc (Nat.le_refl _) _).alloc (by simp) _
  have b2 : W2.heap[w.heap.size]? = some (.cells #[.pointer (some ⟨g, 0, none⟩)] 24 (0, 0)) := by
    rw [← hW2]; exact (Below.heap_alloc _ _ _ (by simp)).trans (heap_alloc_new w _)
  have b3 : W2.heap[w.heap.size + 1]? = some (.cells #[.pointer (some ⟨S i, 0, none⟩)] 56 (0, 0)) := by
    rw [← hW2]
    have := heap_alloc_new (w.alloc (.cells #[.pointer (some ⟨g, 0, none⟩)] 24)) (.cells #[.pointer (some ⟨S i, 0, none⟩)] 56)
    rw [World.size_alloc] at this; exact this
  have HJ0 : Hid (LvJ w g F m S V B i 0 W2) := Lib.hid ⟨⟨F, h.below hb, Chp.of_below hb, fun j _ hf => hf⟩, b2, b3⟩
  obtain ⟨⟨c0, -, -, -⟩, ⟨c4, -, -⟩, -, -, -⟩ := (hn.below hb).cells hi
  obtain ⟨q, cp, eV⟩ := hn.form hi
  rw [eV] at c4
  rw [hk] at c0
  have y3 := cell_of_row _ _ 0 _ _ _ b3
  simp at y3
  have hlen := hn.len i hi
  have HH := Lib.hid h
  have HHH := Lib.hid hh
  have HN := Lib.hid hn
  have HAP := Lib.hid hap
  have HI := Lib.hid hi
  have HST := Lib.hid hst
  have HBB := Lib.hid hB
  have HEV := Lib.hid eV
  obtain ⟨n, hnn⟩ : ∃ n, (ndAt B i).is.length = n := ⟨_, rfl⟩
  rw [hnn] at c4 hlen HEV ⊢
  have HNN := Lib.hid hnn
  have hnI : (n : Int) ≤ 20000 := by omega
  clear h hh hn hap hi hk hst hb b2 b3 eV hnn
  go_enter Tryz.func33, Tryz.ntmps33
  go_wp2_with fail
  clear c0 c4 y3 hW2
  go_loopw [19] (fun iv wr => ∃ k : Nat, k ≤ n ∧ iv = .int .i64 (k : Int) ∧ Hid (LvJ w g F m S V B i k wr)) (fun iv _ => n - (RowKit.intOf iv).toNat)
  case atStart => exact ⟨0, by omega, by go_num, HJ0⟩
  case round =>
    obtain ⟨k, hk, rfl, HJ⟩ := hrel
    clear HJ0
    by_cases hlt : k < n
    · have d1 : decide ((k : Int) < (n : Int)) = true := decide_eq_true (by omega)
      have d2 : decide (k < n) = true := decide_eq_true hlt
      have hkI : (k : Int) < (n : Int) := by omega
      have hnd := HJ.out.nds HN.out HAP.out
      have hkl : k < (ndAt B i).is.length := by rw [HNN.out]; exact hlt
      obtain ⟨j, hj⟩ : ∃ j, (ndAt B i).is[k]? = some j := ⟨(ndAt B i).is[k], List.getElem?_eq_getElem hkl⟩
      have hjm := List.mem_of_getElem? hj
      obtain ⟨b, c2, e2, x0⟩ := hnd.at' HI.out hj
      rw [HEV.out, HNN.out] at e2
      cases e2
      unfold ptrN at x0
      obtain ⟨hjl, hjB⟩ := (hnd.ord i HI.out).1 j hjm
      obtain ⟨s, hs⟩ := HST.out j hjm
      have hsB := stands_lt hnd.ord B.length j hjB (by omega) s hs
      have hS := hnd.stands (by have := HBB.out; omega) B.length j hjB (by omega)
      rw [hs] at hS
      obtain ⟨F', h1, h2, h3⟩ := HJ.out.st
      obtain ⟨-, -, v7, v8, -⟩ := hnd.cells HI.out
      obtain ⟨-, -, s7, s8, -⟩ := hnd.cells hsB
      have hdv := (hnd.tk i HI.out).2.2
      have hds := (hnd.tk s hsB).2.2
      have hlay : layV m B i (k + 1) = setM (layV m B i k) (ndAt B i).v (k : Int) (ndAt B s).v := by
        show setM _ _ _ _ = _
        have e : (ndAt B i).is.getD k 0 = j := by rw [List.getD_eq_getElem?_getD, hj]; rfl
        rw [e]
        unfold stV
        rw [hs]
      have HSS : Hid (∀ W', Below wr.heap.size wr W' → Calls Tryz.prog 34 #[.pointer (some ⟨S j, 0, none⟩)] W' fun e w' => e = .returned (.pointer (some ⟨S s, 0, none⟩)) ∧ W' = w') := Lib.hid fun W' hb => by
        have := (hnd.below hb).stands (by have := HBB.out; omega) B.length j hjB (by omega)
        rw [hs] at this
        exact this
      have HSET : Hid (∀ W', Below wr.heap.size wr W' → Calls Tryz.prog 54 #[.pointer (some ⟨g, 0, none⟩), .agg #[.int .i64 (ndAt B i).v.1, .int .i64 (ndAt B i).v.2], .int .i64 (k : Int), .agg #[.int .i64 (ndAt B s).v.1, .int .i64 (ndAt B s).v.2]] W' fun e w' => (∃ z, e = .returned (.int .i64 z)) ∧ LvJ w g F m S V B i (k + 1) w') := Lib.hid fun W' hb => by
        have hx := (h1.below hb).set (layV_here HHH.out B i k).1 (ndAt B i).v.1 (ndAt B i).v.2 hdv.2 (k : Int) (ndAt B s).v.1 (ndAt B s).v.2 hds.2
        refine hx.mono ?_
        rintro e w' ⟨rfl, hw⟩
        rw [show ((ndAt B i).v.1, (ndAt B i).v.2) = (ndAt B i).v from rfl, show ((ndAt B s).v.1, (ndAt B s).v.2) = (ndAt B s).v from rfl, ← hlay] at hw
        obtain ⟨F2, q1, q2⟩ := hw
        exact ⟨⟨_, rfl⟩, HJ.out.step HH.out.lt h1 h2 h3 ⟨F2, q1, (Chp.of_below hb).trans q2⟩⟩
      have z2 := cell_of_row _ _ 0 _ _ _ HJ.out.b2
      have z3 := cell_of_row _ _ 0 _ _ _ HJ.out.b3
      simp at z2 z3
      have HLT := Lib.hid hlt
      clear hnd hj hjm hjl hjB hs hsB hS h1 h2 h3 hdv hds hlay hkl hlt HJ
      generalize (ndAt B i).v.1 = a1 at *
      generalize (ndAt B i).v.2 = a2 at *
      generalize (ndAt B s).v.1 = c1 at *
      generalize (ndAt B s).v.2 = c2' at *
      go_upto_region 5 with fail
      go_region_with (first | (go_at_call 34; with_reducible refine (HSS.out _ (by first | exact (Below.refl _ _).drew | exact (Below.refl _ _).drew.drew | exact Lx.below_drewN (Below.refl _ _) _ | exact Below.refl _ _)).mono ?_; rintro e w3 ⟨rfl, rfl⟩) | (go_at_call 54; with_reducible refine (HSET.out _ (by first | exact (Below.refl _ _).drew | exact (Below.refl _ _).drew.drew | exact Lx.below_drewN (Below.refl _ _) _ | exact Below.refl _ _)).mono ?_; rintro e w4 ⟨⟨z, rfl⟩, hj4⟩))
      all_goals (
        have HJ4 := Lib.hid hj4
        clear hj4
        go_wp2_with fail
        go_roundw
        case rel => exact ⟨k + 1, by have := HLT.out; omega, by go_num, HJ4⟩
        case measure =>
          have := HLT.out
          simp [RowKit.intOf]; omega)
    · obtain rfl : k = n := by omega
      have d1 : decide ((k : Int) < (k : Int)) = false := decide_eq_false (by omega)
      have d2 : decide (k < k) = false := decide_eq_false (by omega)
      go_wp2_with fail
      refine bodyPost_ret (results_none Tryz.results33 _ _ _) rfl ⟨rfl, ?_⟩
      obtain ⟨F', h1, h2, h3⟩ := HJ.out.st
      exact ⟨F', h1, h2⟩
end
end Go.Proofs.YthjjgpepgbfalaaGreatDoor
end
