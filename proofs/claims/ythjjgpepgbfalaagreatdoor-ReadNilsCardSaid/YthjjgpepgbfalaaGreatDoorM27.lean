/- Texts RdC3 to RdG3 of this seat, laid into one. -/
import Derived.Test.YthjjgpepgbfalaaGreatDoorM09
import Derived.Test.YthjjgpepgbfalaaGreatDoorM16
import Derived.Test.YthjjgpepgbfalaaGreatDoorM25
import Derived.Test.YthjjgpepgbfalaaGreatDoorM26
set_option linter.unusedVariables false
set_option linter.unusedSimpArgs false
set_option linter.constructorNameAsVariable false
section
/-! What lies in a datum laid in, whatever it is. -/
set_option maxRecDepth 20000
set_option linter.unusedSimpArgs false
set_option linter.unusedVariables false
namespace Go.Proofs.YthjjgpepgbfalaaGreatDoor
open Go.RowKit Go.Shelf

/-- What lay makes of the memory. -/
def layS (m : Hm) (B : List Nd) (i : Nat) : Hm := if (ndAt B i).t.k = 2 then layV m B i (ndAt B i).is.length else layC m m.L B i (pairsZ (ndAt B i)).toNat
theorem layS_here {m : Hm} (hh : Here m.L) (B : List Nd) (i : Nat) : Here (layS m B i).L ∧ (layS m B i).L.length = m.L.length ∧ (layS m B i).lim = m.lim := by
  unfold layS
  split
  · exact layV_here hh B i _
  · exact layC_here hh _ B i _
section
variable {w : World} {g : Nat} {F : Nat → Prop} {m : Hm} {S : Nat → Nat} {V : Nat → Value} {B : List Nd} {i : Nat}
set_option maxHeartbeats 1600000 in
theorem lay_none (h : Hep w g F m) (hn : Nds w S V B) (hB : B.length ≤ 20000) (hi : i < B.length) (hk : (ndAt B i).t.k ≠ 2) (hp : pairsZ (ndAt B i) = 0) :
    Calls Tryz.prog 33 #[.pointer (some ⟨g, 0, none⟩), .pointer (some ⟨S i, 0, none⟩)] w fun e w' => e = .returned (.tuple #[]) ∧ Below w.heap.size w w' := by
  obtain ⟨W2, hW2⟩ : ∃ W2, (w.alloc (.cells #[.pointer (some ⟨g, 0, none⟩)] 24)).alloc (.cells #[.pointer (some ⟨S i, 0, none⟩)] 56) = W2 := ⟨_, rfl⟩
  have hb : Below w.heap.size w W2 := by rw [← hW2]; exact ((Below.refl _ _).alloc (Nat.le_refl _) _).alloc (by simp) _
  have b1 : W2.heap[w.heap.size + 1]? = some (.cells #[.pointer (some ⟨S i, 0, none⟩)] 56 (0, 0)) := by
    rw [← hW2]
    have := heap_alloc_new (w.alloc (.cells #[.pointer (some ⟨g, 0, none⟩)] 24)) (.cells #[.pointer (some ⟨S i, 0, none⟩)] 56)
    rw [World.size_alloc] at this; exact this
  have hn2 := hn.below hb
  obtain ⟨⟨c0, -, -, -⟩, -⟩ := hn2.cells hi
  have y1 := cell_of_row _ _ 0 _ _ _ b1
  simp at y1
  have hP := Lib.hid (hn2.pairs (by omega) hi)
  rw [hp] at hP
  have dk : (((ndAt B i).t.k : Int) == 2) = false := by simp; omega
  have HB := Lib.hid hb
  clear h hn hn2 hb b1 hi hk hp hB
  go_enter Tryz.func33, Tryz.ntmps33
  go_wp2_with (go_at_call 45; with_reducible refine hP.out.mono ?_; rintro e w3 ⟨rfl, rfl⟩)
  exact bodyPost_ret (results_none Tryz.results33 _ _ _) rfl ⟨rfl, HB.out⟩
theorem lay_any (h : Hep w g F m) (hh : Here m.L) (hn : Nds w S V B) (hap : ∀ k, footN S V B.length k → ¬ F k) (hB : B.length ≤ 20000) (hi : i < B.length) (hp0 : 0 ≤ pairsZ (ndAt B i)) (hst : ∀ j ∈ (ndAt B i).is, ∃ k, stands B j = some k)
    (hdc : 0 < pairsZ (ndAt B i) → (∀ j, domV (curM m.L (ndAt B i).v j)) ∧ EndP m.L (ndAt B i).v (pairsZ (ndAt B i)).toNat) :
    Calls Tryz.prog 33 #[.pointer (some ⟨g, 0, none⟩), .pointer (some ⟨S i, 0, none⟩)] w fun e w' => e = .returned (.tuple #[]) ∧ WentH F g (layS m B i) w w' := by
  unfold layS
  by_cases hk : (ndAt B i).t.k = 2
  · rw [if_pos hk]
    exact lay_vec h hh hn hap hB hi hk hst
  · rw [if_neg hk]
    obtain ⟨n, hnn⟩ : ∃ n : Nat, pairsZ (ndAt B i) = (n : Int) := ⟨(pairsZ (ndAt B i)).toNat, by omega⟩
    have hc2 := fun h0 => (hdc h0).2
    rw [hnn, Int.toNat_natCast] at hc2
    rw [hnn, Int.toNat_natCast]
    rcases Nat.eq_zero_or_pos n with h0 | h0
    · subst h0
      refine (lay_none h hn hB hi hk hnn).mono ?_
      rintro e w' ⟨rfl, hb⟩
      exact ⟨rfl, F, h.below hb, Chp.of_below hb⟩
    · exact lay_chain h hh hn hap hB hi hk n h0 hnn hst (hdc (by omega)).1 (hc2 (by omega))
end
end Go.Proofs.YthjjgpepgbfalaaGreatDoor
end
section
/-! Build's first way over all nodes. -/
set_option maxRecDepth 20000
set_option linter.unusedSimpArgs false
set_option linter.unusedVariables false
namespace Go.Proofs.YthjjgpepgbfalaaGreatDoor
open Go.RowKit Go.Shelf

section
variable {w W : World} {g gt : Nat} {F : Nat → Prop} {Ft : List Nat} {S : Nat → Nat} {V : Nat → Value} {m : Hm} {N : List ByteArray} {A : List Nd} {b3 b4 : Nat}
/-- There is room for each, and for its name. -/
def RoomB (m : Hm) (N : List ByteArray) (A : List Nd) : Prop := ∀ d i r, d ++ i :: r = pre A 0 → i < A.length ∧ (foldB (m, N, A) d).2.1.length ≤ 16383 ∧ 0 ≤ pairsZ (ndAt A i) ∧ (pairsZ (ndAt A i)).toNat + liveN (foldB (m, N, A) d).1.L ≤ (foldB (m, N, A) d).1.lim
theorem first_way (h : BdJ w g gt F Ft S V m N A b3 b4 [] W) (hA0 : 0 < A.length) (hA : A.length ≤ 20000) (hord : Ord A) (hn3 : ∀ j, j < A.length → S j ≠ b3 ∧ S j ≠ b4) (hroom : RoomB m N A) :
    Calls Tryz.prog 29 #[.pointer (some ⟨S 0, 0, none⟩), .func (.func 30) #[] #[.pointer (some ⟨b3, 0, none⟩), .pointer (some ⟨b4, 0, none⟩)]] W fun e W' => e = .returned (.tuple #[]) ∧ BdJ w g gt F Ft S V m N A b3 b4 (pre A 0) W' := by
  have h1 := each_any (fid := 30) (caps := #[.pointer (some ⟨b3, 0, none⟩), .pointer (some ⟨b4, 0, none⟩)]) (A := A) (S := S) (V := V) (J := BdJ w g gt F Ft S V m N A b3 b4) (L := pre A 0) (enters_of Tryz.func30 (by kernel_rfl) rfl) hord
    (fun d W hj => by
      obtain ⟨hlen, hsm⟩ := foldB_same (m, N, A) d
      exact hj.nds.shp hlen (fun i hi => (hsm i).1) (by omega))
    (fun d i r W hL hj => by
      obtain ⟨r1, r2, r3, r4⟩ := hroom d i r hL
      exact build1_any hj r1 hA hn3 r2 ⟨r3, r4⟩)
    A.length 0 hA0 (by omega) [] [] (by simp) W h
  simpa using h1
end
end Go.Proofs.YthjjgpepgbfalaaGreatDoor
end
section
/-! There is room all along build's first way. -/
set_option maxRecDepth 20000
set_option linter.unusedSimpArgs false
set_option linter.unusedVariables false
namespace Go.Proofs.YthjjgpepgbfalaaGreatDoor
open Go.RowKit Go.Shelf

theorem addM_live (m : Hm) (o : Ob) : liveN (addM m o).L ≤ liveN m.L + 1 ∧ (addM m o).lim = m.lim := by
  unfold addM
  split
  · refine ⟨?_, rfl⟩
    show liveN (putH m.L (gapH m.L) (newCl o)) ≤ _
    rw [liveN_put _ (gapH_le _) (gapH_none _)]
    exact Nat.le_refl _
  · exact ⟨by omega, rfl⟩
theorem bzS_live (m : Hm) : ∀ n, liveN (bzS m n).1.L ≤ liveN m.L + n ∧ (bzS m n).1.lim = m.lim
  | 0 => ⟨Nat.le_refl _, rfl⟩
  | n + 1 => by
    obtain ⟨h1, h2⟩ := bzS_live m n
    obtain ⟨h3, h4⟩ := addM_live (bzS m n).1 (obP (0, 0) (bzS m n).2)
    exact ⟨by show liveN (addM _ _).L ≤ _; omega, h4.trans h2⟩
/-- A node's value takes no more objects than are counted for it. -/
theorem bareM_live (m : Hm) (N : List ByteArray) (A : List Nd) (i : Nat) (hp : 0 ≤ pairsZ (ndAt A i)) : (liveN (bareM m N A i).2.1.L : Int) ≤ liveN m.L + objZ (ndAt A i) ∧ (bareM m N A i).2.1.lim = m.lim := by
  have hz : 0 ≤ objZ (ndAt A i) := by unfold objZ; split <;> omega
  unfold bareM
  split
  · exact ⟨by simp only; omega, rfl⟩
  split
  · exact ⟨by simp only; omega, rfl⟩
  split
  · exact ⟨by simp only; omega, rfl⟩
  split
  · exact ⟨by simp only; omega, rfl⟩
  split
  · rename_i h
    have e : objZ (ndAt A i) = 1 := if_pos (.inl h)
    have := addM_live m (obS ⟨(ndAt A i).t.s.toArray⟩)
    exact ⟨by simp only; omega, this.2⟩
  split
  · rename_i h
    have e : objZ (ndAt A i) = 1 := if_pos (.inr (.inr h))
    have := addM_live m ⟨3, [], bytM A (ndAt A i).is⟩
    exact ⟨by simp only; omega, this.2⟩
  split
  · rename_i h
    have e : objZ (ndAt A i) = 1 := if_pos (.inr (.inl h))
    have := addM_live m (obL (List.replicate (ndAt A i).is.length (0, 0)))
    exact ⟨by simp only; omega, this.2⟩
  · rename_i h1 h2 h3
    have e : objZ (ndAt A i) = pairsZ (ndAt A i) := if_neg (by omega)
    have := bzS_live m (pairsZ (ndAt A i)).toNat
    exact ⟨by simp only; omega, this.2⟩
theorem objZ_same {x y : Nd} (h1 : x.is = y.is) (h2 : x.t = y.t) (h3 : x.d = y.d) : objZ x = objZ y ∧ pairsZ x = pairsZ y := by
  have : pairsZ x = pairsZ y := by unfold pairsZ; rw [h1, h2, h3]
  exact ⟨by unfold objZ; rw [h2, this], this⟩
theorem foldB_live (m : Hm) (N : List ByteArray) (A : List Nd) (d : List Nat) (hp : ∀ i ∈ d, 0 ≤ pairsZ (ndAt A i)) : (liveN (foldB (m, N, A) d).1.L : Int) ≤ liveN m.L + objsZ A d ∧ (foldB (m, N, A) d).1.lim = m.lim := by
  obtain ⟨r, hr⟩ : ∃ r, d.reverse = r := ⟨_, rfl⟩
  obtain rfl : d = r.reverse := by rw [← hr, List.reverse_reverse]
  clear hr
  induction r with
  | nil => exact ⟨by simp [objsZ, foldB], rfl⟩
  | cons i r ih =>
    rw [List.reverse_cons] at hp ⊢
    obtain ⟨h1, h2⟩ := ih fun j hj => hp j (List.mem_append_left _ hj)
    rw [foldB_snoc, objsZ_snoc]
    obtain ⟨-, hs⟩ := foldB_same (m, N, A) r.reverse
    obtain ⟨a, b, c, -⟩ := hs i
    obtain ⟨e1, e2⟩ := objZ_same a b c
    have h3 := bareM_live (foldB (m, N, A) r.reverse).1 (foldB (m, N, A) r.reverse).2.1 (foldB (m, N, A) r.reverse).2.2 i (by rw [e2]; exact hp i (by simp))
    rw [e1] at h3
    exact ⟨by show (liveN (bareM _ _ _ _).2.1.L : Int) ≤ _; have := h3.1; simp only at this; omega, h3.2.trans h2⟩
end Go.Proofs.YthjjgpepgbfalaaGreatDoor
end
section
/-! Room for all makes room for each. -/
set_option maxRecDepth 20000
set_option linter.unusedSimpArgs false
set_option linter.unusedVariables false
namespace Go.Proofs.YthjjgpepgbfalaaGreatDoor
open Go.RowKit Go.Shelf

theorem objsZ_append (A : List Nd) (a b : List Nat) : objsZ A (a ++ b) = objsZ A a + objsZ A b := by
  unfold objsZ
  rw [List.map_append, List.sum_append]
theorem objZ_nonneg {x : Nd} (h : 0 ≤ pairsZ x) : 0 ≤ objZ x := by unfold objZ; split <;> omega
theorem pairsZ_obj {x : Nd} (h : 0 ≤ pairsZ x) : pairsZ x ≤ objZ x := by
  unfold objZ
  split
  · rename_i hk
    have : chainK x.t.k = false := by
      rcases hk with hk | hk | hk <;> rw [hk] <;> rfl
    unfold pairsZ
    rw [this]; simp
  · omega
theorem objsZ_nonneg (A : List Nd) : ∀ l : List Nat, (∀ i ∈ l, 0 ≤ pairsZ (ndAt A i)) → 0 ≤ objsZ A l
  | [], _ => by simp [objsZ]
  | i :: l, h => by
    have h1 := objsZ_nonneg A l fun j hj => h j (List.mem_cons_of_mem _ hj)
    have h2 := objZ_nonneg (h i (List.mem_cons_self ..))
    have e : objsZ A (i :: l) = objZ (ndAt A i) + objsZ A l := rfl
    omega
theorem numM_len (N : List ByteArray) (T : ByteArray) : (Sy.numM N T).length ≤ N.length + 1 := by
  unfold Sy.numM
  split
  · split
    · omega
    · simp
  · omega
theorem bareM_names (m : Hm) (N : List ByteArray) (A : List Nd) (i : Nat) : (bareM m N A i).2.2.length ≤ N.length + 1 := by
  unfold bareM
  repeat' split
  all_goals first
    | exact numM_len _ _
    | (simp only; omega)
theorem foldB_names (m : Hm) (N : List ByteArray) (A : List Nd) (d : List Nat) : (foldB (m, N, A) d).2.1.length ≤ N.length + d.length := by
  obtain ⟨r, hr⟩ : ∃ r, d.reverse = r := ⟨_, rfl⟩
  obtain rfl : d = r.reverse := by rw [← hr, List.reverse_reverse]
  clear hr
  induction r with
  | nil => simp [foldB]
  | cons i r ih =>
    rw [List.reverse_cons, foldB_snoc]
    have := bareM_names (foldB (m, N, A) r.reverse).1 (foldB (m, N, A) r.reverse).2.1 (foldB (m, N, A) r.reverse).2.2 i
    rw [List.length_append]
    show (bareM _ _ _ _).2.2.length ≤ _
    simp only [List.length_singleton]
    omega
/-- Room for all objects and few names: room for each. -/
theorem roomB_of {m : Hm} {N : List ByteArray} {A : List Nd} (hlt : ∀ i ∈ pre A 0, i < A.length) (hp : ∀ i ∈ pre A 0, 0 ≤ pairsZ (ndAt A i)) (ho : (liveN m.L : Int) + objsZ A (pre A 0) ≤ m.lim) (hN : N.length + (pre A 0).length ≤ 16383) : RoomB m N A := by
  intro d i r hL
  have hi : i ∈ pre A 0 := by rw [← hL]; simp
  have hd : ∀ j ∈ d, 0 ≤ pairsZ (ndAt A j) := fun j hj => hp j (by rw [← hL]; exact List.mem_append_left _ hj)
  have hr : ∀ j ∈ r, 0 ≤ pairsZ (ndAt A j) := fun j hj => hp j (by rw [← hL]; exact List.mem_append_right _ (List.mem_cons_of_mem _ hj))
  have h1 := foldB_live m N A d hd
  have h2 := foldB_names m N A d
  have h3 := pairsZ_obj (hp i hi)
  have h4 := objsZ_nonneg A r hr
  have h5 := hp i hi
  have h6 : objsZ A (pre A 0) = objsZ A d + (objZ (ndAt A i) + objsZ A r) := by
    rw [← hL, objsZ_append]; rfl
  have h7 : d.length ≤ (pre A 0).length := by rw [← hL, List.length_append]; omega
  refine ⟨hlt i hi, by omega, h5, ?_⟩
  have h8 := h1.1
  rw [h1.2]
  omega
end Go.Proofs.YthjjgpepgbfalaaGreatDoor
end
section
/-! A memory without gaps: what is added stands behind; a chain that was made; what is set. -/
set_option maxRecDepth 20000
set_option linter.unusedSimpArgs false
set_option linter.unusedVariables false
namespace Go.Proofs.YthjjgpepgbfalaaGreatDoor
open Go.RowKit Go.Shelf

def FullL (L : Pls) : Prop := ∀ i, i < L.length → ∃ c, clAt L i = some c
theorem FullL.gap {L : Pls} (h : FullL L) : gapH L = L.length := gapH_eq (fun j hj => h j hj) (clAt_ge (Nat.le_refl _))
theorem FullL.live {L : Pls} (h : FullL L) : liveN L = L.length := liveN_full h.gap
structure ExtL (L L' : Pls) : Prop where
  len : L.length ≤ L'.length
  at' : ∀ i, i < L.length → clAt L' i = clAt L i
theorem ExtL.refl (L : Pls) : ExtL L L := ⟨Nat.le_refl _, fun _ _ => rfl⟩
theorem ExtL.trans {a b c : Pls} (h : ExtL a b) (k : ExtL b c) : ExtL a c := ⟨Nat.le_trans h.len k.len, fun i hi => (k.at' i (Nat.lt_of_lt_of_le hi h.len)).trans (h.at' i hi)⟩
theorem addM_new {m : Hm} (h : FullL m.L) (o : Ob) (he : addE m o = 0) : (addM m o).L = m.L ++ [some (newCl o)] ∧ addV m o = (8, (m.L.length : Int)) := by
  unfold addM addV
  rw [if_pos he, if_pos he, h.gap]
  refine ⟨?_, rfl⟩
  show putH m.L (gapH m.L) (newCl o) = _
  rw [h.gap]
  unfold putH
  rw [if_pos rfl]
theorem addM_no {m : Hm} (o : Ob) (he : addE m o ≠ 0) : addM m o = m ∧ addV m o = (0, 0) := by
  unfold addM addV
  rw [if_neg he, if_neg he]; exact ⟨rfl, rfl⟩
theorem addM_full {m : Hm} (h : FullL m.L) (hh : Here m.L) (o : Ob) : FullL (addM m o).L ∧ Here (addM m o).L ∧ ExtL m.L (addM m o).L ∧ (addM m o).lim = m.lim := by
  by_cases he : addE m o = 0
  · obtain ⟨e, -⟩ := addM_new h o he
    refine ⟨fun i hi => ?_, fun i c hc => ?_, ⟨?_, fun i hi => ?_⟩, (addM_live m o).2⟩
    · rw [e, clAt_snoc]
      rw [e, List.length_append] at hi
      split
      · exact ⟨_, rfl⟩
      · exact h i (by simp at hi; omega)
    · rw [e, clAt_snoc] at hc
      split at hc
      · cases hc; rfl
      · exact hh i c hc
    · rw [e, List.length_append]; omega
    · rw [e, clAt_snoc, if_neg (by omega)]
  · rw [(addM_no o he).1]
    exact ⟨h, hh, ExtL.refl _, rfl⟩
/-- The j-th pair of a chain whose places begin at p; none: its end. -/
def nxt (p : Nat) : Nat → Int × Int
  | 0 => (0, 0)
  | j + 1 => (8, ((p + j : Nat) : Int))
theorem addE_pair {m : Hm} (h : FullL m.L) {p j : Nat} (hp : m.L.length = p + j) (hl : p + j < m.lim) : addE m (obP (0, 0) (nxt p j)) = 0 := by
  have hmay : mayV m.L (nxt p j) = true := by
    cases j with
    | zero => unfold mayV nxt; simp
    | succ j =>
      unfold mayV nxt
      rw [if_pos rfl]
      exact hasP_iff.2 ⟨rfl, by show (0 : Int) ≤ ((p + j : Nat) : Int); omega, h (p + j) (by omega)⟩
  have hm0 : mayV m.L (0, 0) = true := by unfold mayV; simp
  unfold addE
  have hO : mayO m.L (obP (0, 0) (nxt p j)) = true := by
    unfold mayO obP lowV highV highB
    simp [hmay, hm0]
  rw [hO, if_neg (by decide), if_neg (by rw [h.live]; omega)]
/-- A chain of n pairs that is made. -/
theorem bzS_full {m : Hm} (h : FullL m.L) (hh : Here m.L) : ∀ n, FullL (bzS m n).1.L ∧ Here (bzS m n).1.L ∧ ExtL m.L (bzS m n).1.L ∧ (bzS m n).1.lim = m.lim ∧
    (m.L.length + n ≤ m.lim → (bzS m n).1.L.length = m.L.length + n ∧ (bzS m n).2 = nxt m.L.length n ∧ ∀ j, j < n → clAt (bzS m n).1.L (m.L.length + j) = some (newCl (obP (0, 0) (nxt m.L.length j))))
  | 0 => ⟨h, hh, ExtL.refl _, rfl, fun _ => ⟨rfl, rfl, fun j hj => by omega⟩⟩
  | n + 1 => by
    obtain ⟨h1, h2, h3, h4, h5⟩ := bzS_full h hh n
    obtain ⟨k1, k2, k3, k4⟩ := addM_full h1 h2 (obP (0, 0) (bzS m n).2)
    refine ⟨k1, k2, h3.trans k3, k4.trans h4, fun hr => ?_⟩
    obtain ⟨e1, e2, e3⟩ := h5 (by omega)
    have he := addE_pair (m := (bzS m n).1) h1 e1 (by rw [h4]; omega)
    rw [← e2] at he
    obtain ⟨f1, f2⟩ := addM_new h1 _ he
    refine ⟨?_, ?_, fun j hj => ?_⟩
    · show (addM _ _).L.length = _
      rw [f1, List.length_append, e1]; simp; omega
    · show addV _ _ = _
      rw [f2, e1]; rfl
    · show clAt (addM _ _).L _ = _
      rw [f1, clAt_snoc, e1]
      split
      · have : j = n := by omega
        subst this
        rw [e2]
      · exact e3 j (by omega)
theorem bareM_full {m : Hm} (h : FullL m.L) (hh : Here m.L) (N : List ByteArray) (A : List Nd) (i : Nat) : FullL (bareM m N A i).2.1.L ∧ Here (bareM m N A i).2.1.L ∧ ExtL m.L (bareM m N A i).2.1.L ∧ (bareM m N A i).2.1.lim = m.lim := by
  have h0 := (⟨h, hh, ExtL.refl _, rfl⟩ : FullL m.L ∧ Here m.L ∧ ExtL m.L m.L ∧ m.lim = m.lim)
  unfold bareM
  repeat' split
  all_goals first
    | exact h0
    | exact addM_full h hh _
    | (have := bzS_full h hh (pairsZ (ndAt A i)).toNat; exact ⟨this.1, this.2.1, this.2.2.1, this.2.2.2.1⟩)
theorem foldB_append (s : Hm × List ByteArray × List Nd) (d e : List Nat) : foldB s (d ++ e) = foldB (foldB s d) e := by unfold foldB; rw [List.foldl_append]
theorem foldB_full : ∀ (d : List Nat) (s : Hm × List ByteArray × List Nd), FullL s.1.L → Here s.1.L → FullL (foldB s d).1.L ∧ Here (foldB s d).1.L ∧ ExtL s.1.L (foldB s d).1.L ∧ (foldB s d).1.lim = s.1.lim
  | [], s, h, hh => ⟨h, hh, ExtL.refl _, rfl⟩
  | i :: d, s, h, hh => by
    obtain ⟨a, b, c, e⟩ := bareM_full h hh s.2.1 s.2.2 i
    obtain ⟨a2, b2, c2, e2⟩ := foldB_full d (bareS s i) a b
    exact ⟨a2, b2, c.trans c2, e2.trans e⟩
/-- A value that is set once stays. -/
theorem foldB_other : ∀ (d : List Nat) (s : Hm × List ByteArray × List Nd) (i : Nat), i ∉ d → (ndAt (foldB s d).2.2 i) = ndAt s.2.2 i
  | [], s, i, h => rfl
  | j :: d, s, i, h => by
    have h1 := foldB_other d (bareS s j) i fun e => h (List.mem_cons_of_mem _ e)
    refine h1.trans ?_
    have hne : i ≠ j := fun e => h (by rw [e]; exact List.mem_cons_self ..)
    show ndAt (setVal s.2.2 j _) i = _
    unfold setVal
    by_cases hj : j < s.2.2.length
    · rw [ndAt_set hj, if_neg hne]
    · rw [List.set_eq_of_length_le (by omega)]
/-- The value of a node behind all. -/
theorem foldB_val {s : Hm × List ByteArray × List Nd} {d r : List Nat} {i : Nat} (hi : i < s.2.2.length) (hn : i ∉ r) : (ndAt (foldB s (d ++ i :: r)).2.2 i).v = (bareM (foldB s d).1 (foldB s d).2.1 (foldB s d).2.2 i).1 := by
  rw [show d ++ i :: r = (d ++ [i]) ++ r by simp, foldB_append, foldB_other r _ i hn, foldB_snoc]
  show (ndAt (setVal (foldB s d).2.2 i _) i).v = _
  unfold setVal
  rw [ndAt_set (by rw [(foldB_same s d).1]; exact hi), if_pos rfl]
/-- Only places from a on, and below b, changed. -/
structure OutL (a b : Nat) (L L' : Pls) : Prop where
  len : L'.length = L.length
  at' : ∀ j, ¬ (a ≤ j ∧ j < b) → clAt L' j = clAt L j
theorem OutL.refl (a b : Nat) (L : Pls) : OutL a b L L := ⟨rfl, fun _ _ => rfl⟩
theorem OutL.trans {a b : Nat} {L L' L2 : Pls} (h : OutL a b L L') (k : OutL a b L' L2) : OutL a b L L2 := ⟨k.len.trans h.len, fun j hj => (k.at' j hj).trans (h.at' j hj)⟩
/-- A value refers to a place from a on, and below b; or to none. -/
def InL (a b : Nat) (v : Int × Int) : Prop := v.1 = 8 → 0 ≤ v.2 → a ≤ v.2.toNat ∧ v.2.toNat < b
theorem setM_out {m : Hm} {a b : Nat} {v : Int × Int} (h : InL a b v) (i : Int) (y : Int × Int) : OutL a b m.L (setM m v i y).L := by
  unfold setM
  split
  · rename_i he
    split
    · rename_i c hc
      have hp : hasP m.L v = true := by
        unfold setE at he
        cases hx : hasP m.L v with
        | true => rfl
        | false => rw [hx] at he; simp at he
      obtain ⟨h1, h2, -⟩ := hasP_iff.1 hp
      have h3 := h h1 h2
      refine ⟨by show (m.L.set _ _).length = _; simp, fun j hj => ?_⟩
      show clAt (m.L.set v.2.toNat (some (setC c i y))) j = _
      rw [clAt_set (clAt_some hc), if_neg (fun e => hj (by omega))]
    · exact OutL.refl _ _ _
  · exact OutL.refl _ _ _
theorem layV_out {m : Hm} {a b : Nat} {B : List Nd} {i : Nat} (h : InL a b (ndAt B i).v) : ∀ k, OutL a b m.L (layV m B i k).L
  | 0 => OutL.refl _ _ _
  | k + 1 => (layV_out h k).trans (setM_out h _ _)
theorem layC_out {m : Hm} {L : Pls} {a b : Nat} {B : List Nd} {i : Nat} : ∀ k, (∀ j, j < k → InL a b (curM L (ndAt B i).v j)) → OutL a b m.L (layC m L B i k).L
  | 0, _ => OutL.refl _ _ _
  | k + 1, h => by
    have h1 := layC_out (m := m) k fun j hj => h j (by omega)
    unfold layC
    split
    · exact (h1.trans (setM_out (h k (by omega)) _ _)).trans (setM_out (h k (by omega)) _ _)
    · exact h1.trans (setM_out (h k (by omega)) _ _)
/-- A chain of n pairs stands at p. -/
def ChO (L : Pls) (p n : Nat) : Prop := ∀ j, j < n → ∃ c x, clAt L (p + j) = some c ∧ c.o = ⟨0, [x, nxt p j], []⟩
theorem nxt_in {p n : Nat} : ∀ j, j ≤ n → InL p (p + n) (nxt p j)
  | 0, _ => fun h _ => by cases h
  | j + 1, hj => fun _ _ => by
    show p ≤ ((p + j : Nat) : Int).toNat ∧ ((p + j : Nat) : Int).toNat < p + n
    rw [Int.toNat_natCast]; omega
theorem atV_nxt {L : Pls} {p n : Nat} (h : ChO L p n) : ∀ j, j ≤ n → atV L (nxt p j) 1 = nxt p (j - 1) ∧ (0 < j → isPr L (nxt p j) = true)
  | 0, _ => ⟨by
    unfold atV atE hasP nxt
    simp, fun h => by omega⟩
  | j + 1, hj => by
    obtain ⟨c, x, h1, h2⟩ := h j (by omega)
    have hp : hasP L (nxt p (j + 1)) = true := hasP_iff.2 ⟨rfl, by show (0 : Int) ≤ ((p + j : Nat) : Int); omega, c, by show clAt L ((p + j : Nat) : Int).toNat = _; rw [Int.toNat_natCast]; exact h1⟩
    have ho : obAt L (nxt p (j + 1)) = ⟨0, [x, nxt p j], []⟩ := by
      rw [obAt_some hp (show clAt L ((p + j : Nat) : Int).toNat = some c by rw [Int.toNat_natCast]; exact h1), h2]
    refine ⟨?_, fun _ => ?_⟩
    · unfold atV atE
      rw [hp, ho]
      simp
    · unfold isPr
      rw [hp, ho]; rfl
theorem curM_nxt {L : Pls} {p n : Nat} (h : ChO L p n) : ∀ k, curM L (nxt p n) k = nxt p (n - k)
  | 0 => rfl
  | k + 1 => by
    show atV L (curM L (nxt p n) k) 1 = _
    rw [curM_nxt h k, (atV_nxt h (n - k) (by omega)).1]
    congr 1
theorem nxt_inj {p a b : Nat} (h : nxt p a = nxt p b) (ha : 0 < a) : a = b := by
  cases a with
  | zero => omega
  | succ a =>
    cases b with
    | zero => cases h
    | succ b =>
      have h1 := (Prod.mk.inj h).2
      omega
theorem endP_nxt {L : Pls} {p n : Nat} (h : ChO L p n) : EndP L (nxt p n) n := by
  refine ⟨fun j hj => ⟨?_, fun k hk e => ?_⟩, fun hg => ?_⟩
  · rw [curM_nxt h]
    exact (atV_nxt h (n - j) (by omega)).2 (by omega)
  · rw [curM_nxt h, curM_nxt h] at e
    have := nxt_inj e (by omega)
    omega
  · have := hg.1
    rw [curM_nxt h, Nat.sub_self] at this
    unfold isPr hasP nxt at this
    simp at this
theorem domV_nxt {p n : Nat} (h : p + n ≤ 20000) : ∀ j, j ≤ n → domV (nxt p j)
  | 0, _ => domV_zero
  | j + 1, hj => ⟨⟨by show (-9223372036854775808 : Int) ≤ 8; decide, by show (8 : Int) ≤ 9223372036854775807; decide⟩, ⟨by show (-9223372036854775808 : Int) ≤ ((p + j : Nat) : Int); omega, by show ((p + j : Nat) : Int) ≤ 9223372036854775807; omega⟩⟩
end Go.Proofs.YthjjgpepgbfalaaGreatDoor
end
section
/-! What holds of the nodes all along the parser: a tree, whose agains stand for data. -/
set_option linter.unusedVariables false
set_option linter.unusedSimpArgs false
namespace Go.Proofs.YthjjgpepgbfalaaGreatDoor

theorem ndAt_ge {A : List Nd} {i : Nat} (h : A.length ≤ i) : ndAt A i = nd0 := by
  unfold ndAt; rw [List.getD_eq_getElem?_getD, List.getElem?_eq_none h]; rfl
theorem ndAt_snoc (A : List Nd) (x : Nd) (j : Nat) : ndAt (A ++ [x]) j = if j = A.length then x else ndAt A j := by
  unfold ndAt
  rw [List.getD_eq_getElem?_getD, List.getD_eq_getElem?_getD]
  rcases Nat.lt_trichotomy j A.length with h | h | h
  · rw [List.getElem?_append_left h, if_neg (by omega)]
  · subst h; simp
  · rw [if_neg (by omega), List.getElem?_eq_none (by simp; omega), List.getElem?_eq_none (by omega)]
/-- What holds of the nodes. -/
structure InvA (A : List Nd) : Prop where
  ord : Ord A
  tree : ∀ i k a c j : Nat, (ndAt A i).is[a]? = some j → (ndAt A k).is[c]? = some j → i = k ∧ a = c
  smk : ∀ i s, (ndAt A i).sm = some s → s < A.length ∧ (ndAt A s).t.k ≠ 15 ∧ (ndAt A s).t.k ≠ 16
  dot : ∀ i, (ndAt A i).d = true → (ndAt A i).t.k = 0 ∧ (ndAt A i).is ≠ []
  vec : ∀ i, (ndAt A i).t.k = 2 → (ndAt A i).is.length ≤ 256
  byt : ∀ i j, (ndAt A i).t.k = 3 → j ∈ (ndAt A i).is → isByteM (ndAt A j).t = true
/-- What stays from nodes to nodes. -/
structure MonA (A B : List Nd) : Prop where
  len : A.length ≤ B.length
  t : ∀ i, i < A.length → (ndAt B i).t = (ndAt A i).t
  is : ∀ i, i < A.length → ∃ l, (ndAt B i).is = (ndAt A i).is ++ l
  sm : ∀ i s, i < A.length → (ndAt A i).sm = some s → (ndAt B i).sm = some s
theorem MonA.refl (A : List Nd) : MonA A A := ⟨Nat.le_refl _, fun _ _ => rfl, fun _ _ => ⟨[], by simp⟩, fun _ _ _ h => h⟩
theorem MonA.trans {A B C : List Nd} (h : MonA A B) (k : MonA B C) : MonA A C :=
  ⟨Nat.le_trans h.len k.len, fun i hi => (k.t i (by have := h.len; omega)).trans (h.t i hi), fun i hi => by
    obtain ⟨l, e⟩ := h.is i hi
    obtain ⟨l2, e2⟩ := k.is i (by have := h.len; omega)
    exact ⟨l ++ l2, by rw [e2, e, List.append_assoc]⟩, fun i s hi hs => k.sm i s (by have := h.len; omega) (h.sm i s hi hs)⟩
theorem MonA.ne {A B : List Nd} (h : MonA A B) {i : Nat} (hi : i < A.length) (hn : (ndAt A i).is ≠ []) : (ndAt B i).is ≠ [] := by
  obtain ⟨l, e⟩ := h.is i hi
  rw [e]; simp [hn]
/-- A node is done: an again stands for something, a label has its datum. -/
def DoneN (A : List Nd) (j : Nat) : Prop := ((ndAt A j).t.k = 16 → (ndAt A j).sm ≠ none) ∧ ((ndAt A j).t.k = 15 → (ndAt A j).is ≠ [])
def Opn (O : Nat → Prop) (A : List Nd) : Prop := ∀ j, j < A.length → ¬ O j → DoneN A j
theorem DoneN.mono {A B : List Nd} (h : MonA A B) {j : Nat} (hj : j < A.length) (hd : DoneN A j) : DoneN B j := by
  refine ⟨fun hk => ?_, fun hk => ?_⟩
  · rw [h.t j hj] at hk
    have h1 := hd.1 hk
    cases hs : (ndAt A j).sm with
    | none => exact absurd hs h1
    | some s => rw [h.sm j s hj hs]; simp
  · rw [h.t j hj] at hk
    exact h.ne hj (hd.2 hk)
/-- What a node stands for stays. -/
theorem stands_mono {A B : List Nd} (hA : Ord A) (hB : Ord B) (h : MonA A B) : ∀ (n i : Nat), i < A.length → A.length ≤ i + n → ∀ s, stands A i = some s → stands B i = some s
  | 0, i, hi, hn, _, _ => by omega
  | n + 1, i, hi, hn, s, hs => by
    rw [stands_step hA hi] at hs
    rw [stands_step hB (by have := h.len; omega), h.t i hi]
    split
    · rename_i e
      rw [if_pos e] at hs
      exact h.sm i s hi hs
    · rename_i e
      rw [if_neg e] at hs
      split
      · rename_i e2
        rw [if_pos e2] at hs
        exact hs
      · rename_i e2
        rw [if_neg e2] at hs
        obtain ⟨l, hl⟩ := h.is i hi
        cases hi2 : (ndAt A i).is with
        | nil => rw [hi2] at hs; cases hs
        | cons j r =>
          rw [hi2] at hs
          rw [hl, hi2]
          have hj := (hA i hi).1 j (by rw [hi2]; exact List.mem_cons_self ..)
          exact stands_mono hA hB h n j hj.2 (by omega) s hs
/-- What a node stands for is a datum that is neither label nor again. -/
theorem stands_kind {A : List Nd} (h : InvA A) : ∀ (n i : Nat), i < A.length → A.length ≤ i + n → ∀ s, stands A i = some s → s < A.length ∧ (ndAt A s).t.k ≠ 15 ∧ (ndAt A s).t.k ≠ 16
  | 0, i, hi, hn, _, _ => by omega
  | n + 1, i, hi, hn, s, hs => by
    rw [stands_step h.ord hi] at hs
    split at hs
    · exact h.smk i s hs
    · rename_i e
      split at hs
      · rename_i e2
        cases hs
        exact ⟨hi, e2, e⟩
      · cases hi2 : (ndAt A i).is with
        | nil => rw [hi2] at hs; cases hs
        | cons j r =>
          rw [hi2] at hs
          have hj := (h.ord i hi).1 j (by rw [hi2]; exact List.mem_cons_self ..)
          exact stands_kind h n j hj.2 (by omega) s hs
/-- Where all is done each node stands for something. -/
theorem stands_done {A : List Nd} (h : Ord A) (hd : ∀ j, j < A.length → DoneN A j) : ∀ (n i : Nat), i < A.length → A.length ≤ i + n → ∃ s, stands A i = some s
  | 0, i, hi, hn => by omega
  | n + 1, i, hi, hn => by
    rw [stands_step h hi]
    split
    · rename_i e
      have := (hd i hi).1 e
      cases hs : (ndAt A i).sm with
      | none => exact absurd hs this
      | some s => exact ⟨s, rfl⟩
    · split
      · exact ⟨i, rfl⟩
      · rename_i e e2
        have h1 := (hd i hi).2 (by simpa using e2)
        cases hi2 : (ndAt A i).is with
        | nil => exact absurd hi2 h1
        | cons j r =>
          have hj := (h i hi).1 j (by rw [hi2]; exact List.mem_cons_self ..)
          exact stands_done h hd n j hj.2 (by omega)
theorem mem_lt {A : List Nd} (h : Ord A) {i j : Nat} (hj : j ∈ (ndAt A i).is) : i < j ∧ j < A.length := by
  rcases Nat.lt_or_ge i A.length with h1 | h1
  · exact (h i h1).1 j hj
  · rw [ndAt_ge h1] at hj; cases hj
theorem get_lt {A : List Nd} (h : Ord A) {i a j : Nat} (hj : (ndAt A i).is[a]? = some j) : i < j ∧ j < A.length := mem_lt h (List.mem_of_getElem? hj)
theorem addN_mono {A : List Nd} {i : Nat} (hi : i < A.length) (t : Lx.Tk) (a : Nat) : MonA A (addN A i t a) := by
  have hat := ndAt_add hi t a
  refine ⟨by rw [addN_len]; omega, fun j hj => ?_, fun j hj => ?_, fun j s hj hs => ?_⟩
  · rw [hat, if_neg (by omega)]
    split
    · rename_i e; rw [e]
    · rfl
  · rw [hat, if_neg (by omega)]
    split
    · rename_i e; subst e; exact ⟨_, rfl⟩
    · exact ⟨[], by simp⟩
  · rw [hat, if_neg (by omega)]
    split
    · rename_i e; subst e; exact hs
    · exact hs
theorem nd0_mono (A : List Nd) : MonA A (A ++ [nd0]) := by
  have hat := ndAt_snoc A nd0
  refine ⟨by simp, fun j hj => ?_, fun j hj => ⟨[], ?_⟩, fun j s hj hs => ?_⟩ <;> rw [hat, if_neg (by omega)]
  · simp
  · exact hs
theorem set_mono {A : List Nd} {i : Nat} (hi : i < A.length) (x : Nd) (h1 : x.t = (ndAt A i).t) (h2 : x.is = (ndAt A i).is) (h3 : ∀ s, (ndAt A i).sm = some s → x.sm = some s) : MonA A (A.set i x) := by
  have hat := ndAt_set hi x
  refine ⟨by simp, fun j hj => ?_, fun j hj => ⟨[], ?_⟩, fun j s hj hs => ?_⟩ <;> rw [hat] <;> split
  · rename_i e; rw [e, h1]
  · rfl
  · rename_i e; rw [e, h2]; simp
  · simp
  · rename_i e; subst e; exact h3 s hs
  · exact hs
theorem InvA.add {A : List Nd} (h : InvA A) {i : Nat} (hi : i < A.length) (t : Lx.Tk) (a : Nat) (hv : (ndAt A i).t.k = 2 → (ndAt A i).is.length < 256) (hb : (ndAt A i).t.k = 3 → isByteM t = true) : InvA (addN A i t a) := by
  have hat := ndAt_add hi t a
  have hlen := addN_len A i t a
  have hlast : ∀ {j k : Nat}, j ∈ (ndAt A k).is → j ≠ A.length := fun hj e => by have := mem_lt h.ord hj; omega
  have hget : ∀ (k c j : Nat), (ndAt (addN A i t a) k).is[c]? = some j → (ndAt A k).is[c]? = some j ∨ (k = i ∧ c = (ndAt A i).is.length ∧ j = A.length) := fun k c j hj => by
    rw [hat] at hj
    split at hj
    · simp [nd0] at hj
    · split at hj
      · rename_i e
        subst e
        rcases Nat.lt_or_ge c (ndAt A k).is.length with h1 | h1
        · rw [List.getElem?_append_left h1] at hj; exact .inl hj
        · rw [List.getElem?_append_right h1] at hj
          have h2 : c - (ndAt A k).is.length = 0 := by
            have := (List.getElem?_eq_some_iff.1 hj).1
            simp at this; omega
          rw [h2] at hj
          simp at hj
          exact .inr ⟨rfl, by omega, hj.symm⟩
      · exact .inl hj
  refine ⟨fun j hj => ?_, fun j k c e x h1 h2 => ?_, fun j s hs => ?_, fun j hj => ?_, fun j hj => ?_, fun j k hj hk => ?_⟩
  · rw [hlen] at hj ⊢
    refine ⟨fun k hk => ?_, fun k hk => ?_⟩
    · obtain ⟨c, hc⟩ := List.mem_iff_getElem?.1 hk
      rcases hget j c k hc with h1 | ⟨rfl, -, rfl⟩
      · have := get_lt h.ord h1; omega
      · omega
    · rw [hat] at hk
      split at hk
      · cases hk
      · split at hk
        · rename_i e; subst e
          have := (h.ord j hi).2 k hk; omega
        · have := (h.ord j (by omega)).2 k hk; omega
  · rcases hget j c x h1 with h1 | ⟨e1, e2, e3⟩ <;> rcases hget k e x h2 with h2 | ⟨f1, f2, f3⟩
    · exact h.tree _ _ _ _ _ h1 h2
    · exact absurd f3 (hlast (List.mem_of_getElem? h1))
    · exact absurd e3 (hlast (List.mem_of_getElem? h2))
    · exact ⟨e1.trans f1.symm, e2.trans f2.symm⟩
  · have hs2 : (ndAt A j).sm = some s := by
      rw [hat] at hs
      split at hs
      · cases hs
      · split at hs
        · rename_i e; subst e; exact hs
        · exact hs
    obtain ⟨a1, a2⟩ := h.smk j s hs2
    rw [hlen, (addN_mono hi t a).t s a1]
    exact ⟨by omega, a2⟩
  · rw [hat] at hj ⊢
    split at hj
    · cases hj
    · rename_i e
      rw [if_neg e]
      split at hj
      · rename_i e2; subst e2
        rw [if_pos rfl]
        exact ⟨(h.dot j hj).1, by simp⟩
      · rename_i e2
        rw [if_neg e2]
        exact h.dot j hj
  · rw [hat] at hj ⊢
    split at hj
    · rename_i e
      rw [if_pos e]; simp [nd0]
    · rename_i e
      rw [if_neg e]
      split at hj
      · rename_i e2; subst e2
        rw [if_pos rfl]
        have := hv hj
        simp; omega
      · rename_i e2
        rw [if_neg e2]
        exact h.vec j hj
  · obtain ⟨c, hc⟩ := List.mem_iff_getElem?.1 hk
    have hkj : (ndAt (addN A i t a) j).is[c]? = some k := hc
    rcases hget j c k hkj with h1 | ⟨rfl, -, rfl⟩
    · have hl := get_lt h.ord h1
      rw [(addN_mono hi t a).t k hl.2]
      rw [(addN_mono hi t a).t j (by omega)] at hj
      exact h.byt j k hj (List.mem_of_getElem? h1)
    · rw [(addN_mono hi t a).t j hi] at hj
      rw [hat, if_pos rfl]
      exact hb hj
theorem InvA.nd0 {A : List Nd} (h : InvA A) : InvA (A ++ [nd0]) := by
  have hat := ndAt_snoc A Go.Proofs.YthjjgpepgbfalaaGreatDoor.nd0
  have hsame : ∀ j, (ndAt (A ++ [Go.Proofs.YthjjgpepgbfalaaGreatDoor.nd0]) j) = ndAt A j := fun j => by
    rw [hat]
    split
    · rename_i e; rw [e, ndAt_ge (Nat.le_refl _)]
    · rfl
  refine ⟨fun j hj => ?_, fun i k a c j => ?_, fun i s => ?_, fun i => ?_, fun i => ?_, fun i j => ?_⟩
  · rw [hsame]
    refine ⟨fun k hk => ?_, fun k hk => ?_⟩
    · have := mem_lt h.ord hk; simp; omega
    · have := (h.smk j k hk).1; simp; omega
  · rw [hsame, hsame]; exact h.tree i k a c j
  · rw [hsame, hsame]; intro hs; obtain ⟨a, b⟩ := h.smk i s hs; exact ⟨by simp; omega, b⟩
  · rw [hsame]; exact h.dot i
  · rw [hsame]; exact h.vec i
  · rw [hsame, hsame]; exact h.byt i j
theorem InvA.set {A : List Nd} (h : InvA A) {i : Nat} (hi : i < A.length) (x : Nd) (h1 : x.t = (ndAt A i).t) (h2 : x.is = (ndAt A i).is) (h3 : ∀ s, x.sm = some s → s < A.length ∧ (ndAt A s).t.k ≠ 15 ∧ (ndAt A s).t.k ≠ 16) (h4 : x.d = true → x.t.k = 0 ∧ x.is ≠ []) : InvA (A.set i x) := by
  have hat := ndAt_set hi x
  have ht : ∀ j, (ndAt (A.set i x) j).t = (ndAt A j).t := fun j => by
    rw [hat]; split
    · rename_i e; rw [e, h1]
    · rfl
  have his : ∀ j, (ndAt (A.set i x) j).is = (ndAt A j).is := fun j => by
    rw [hat]; split
    · rename_i e; rw [e, h2]
    · rfl
  have hsm : ∀ j s, (ndAt (A.set i x) j).sm = some s → s < A.length ∧ (ndAt A s).t.k ≠ 15 ∧ (ndAt A s).t.k ≠ 16 := fun j s hs => by
    rw [hat] at hs
    split at hs
    · exact h3 s hs
    · exact h.smk j s hs
  refine ⟨fun j hj => ?_, fun i k a c j => ?_, fun j s hs => ?_, fun j hj => ?_, fun j => ?_, fun j k => ?_⟩
  · rw [List.length_set] at hj ⊢
    rw [his]
    exact ⟨fun k hk => mem_lt h.ord hk, fun k hk => (hsm j k hk).1⟩
  · rw [his, his]; exact h.tree i k a c j
  · rw [List.length_set, ht]; exact hsm j s hs
  · rw [ht, his]
    rw [hat] at hj
    split at hj
    · rename_i e; subst e
      rw [← h1, ← h2]; exact h4 hj
    · exact h.dot j hj
  · rw [ht, his]; exact h.vec j
  · rw [ht, his, ht]; exact h.byt j k
end Go.Proofs.YthjjgpepgbfalaaGreatDoor
end
section
/-! No node lies twice in a tree. -/
set_option linter.unusedVariables false
namespace Go.Proofs.YthjjgpepgbfalaaGreatDoor

theorem pre_par {A : List Nd} (h : Ord A) : ∀ (n i : Nat), i < A.length → A.length ≤ i + n → ∀ j ∈ pre A i, ∃ p, (p = i ∨ p ∈ pre A i) ∧ j ∈ (ndAt A p).is
  | 0, i, hi, hn, _, _ => by omega
  | n + 1, i, hi, hn, j, hj => by
    have hst := pre_step h hi
    rw [hst] at hj
    obtain ⟨a, ha, hj⟩ := List.mem_flatMap.1 hj
    have hla := (h i hi).1 a ha
    rcases List.mem_cons.1 hj with rfl | hj
    · exact ⟨i, .inl rfl, ha⟩
    · obtain ⟨p, hp, hjp⟩ := pre_par h n a hla.2 (by omega) j hj
      refine ⟨p, .inr ?_, hjp⟩
      rw [hst]
      refine List.mem_flatMap.2 ⟨a, ha, ?_⟩
      rcases hp with rfl | hp
      · exact List.mem_cons_self ..
      · exact List.mem_cons_of_mem _ hp
theorem InvA.one {A : List Nd} (h : InvA A) {i k j : Nat} (h1 : j ∈ (ndAt A i).is) (h2 : j ∈ (ndAt A k).is) : i = k := by
  obtain ⟨a, ha⟩ := List.mem_iff_getElem?.1 h1
  obtain ⟨c, hc⟩ := List.mem_iff_getElem?.1 h2
  exact (h.tree i k a c j ha hc).1
theorem meet {A : List Nd} (h : InvA A) : ∀ (n j : Nat), j < n → ∀ a b, a < A.length → b < A.length → (j = a ∨ j ∈ pre A a) → (j = b ∨ j ∈ pre A b) → a = b ∨ a ∈ pre A b ∨ b ∈ pre A a
  | 0, j, hj, _, _, _, _, _, _ => by omega
  | n + 1, j, hj, a, b, ha, hb, h1, h2 => by
    rcases h1 with rfl | h1
    · rcases h2 with rfl | h2
      · exact .inl rfl
      · exact .inr (.inl h2)
    · rcases h2 with rfl | h2
      · exact .inr (.inr h1)
      · obtain ⟨p, hp, hjp⟩ := pre_par h.ord A.length a ha (by omega) j h1
        obtain ⟨q, hq, hjq⟩ := pre_par h.ord A.length b hb (by omega) j h2
        obtain rfl := h.one hjp hjq
        have := mem_lt h.ord hjp
        exact meet h n p (by omega) a b ha hb hp hq
theorem is_nodup {A : List Nd} (h : InvA A) (i : Nat) : (ndAt A i).is.Nodup := by
  unfold List.Nodup
  rw [List.pairwise_iff_getElem]
  intro a c ha hc hac e
  have := (h.tree i i a c _ (List.getElem?_eq_getElem ha) (by rw [List.getElem?_eq_getElem hc, e])).2
  omega
theorem pre_nodup {A : List Nd} (h : InvA A) : ∀ (n i : Nat), i < A.length → A.length ≤ i + n → (pre A i).Nodup
  | 0, i, hi, hn => by omega
  | n + 1, i, hi, hn => by
    rw [pre_step h.ord hi]
    unfold List.Nodup
    rw [List.pairwise_flatMap]
    refine ⟨fun a ha => ?_, ?_⟩
    · have hla := (h.ord i hi).1 a ha
      refine List.pairwise_cons.2 ⟨fun x hx e => ?_, pre_nodup h n a hla.2 (by omega)⟩
      have := pre_lt h.ord A.length a hla.2 (by omega) x hx
      omega
    · refine (is_nodup h i).imp_of_mem fun {a b} ha hb hab x hx y hy e => ?_
      subst e
      have hla := (h.ord i hi).1 a ha
      have hlb := (h.ord i hi).1 b hb
      have key : ∀ {a b}, a ∈ (ndAt A i).is → b ∈ (ndAt A i).is → a ∈ pre A b → False := fun {a b} ha hb hab2 => by
        have hlb := (h.ord i hi).1 b hb
        obtain ⟨p, hp, hjp⟩ := pre_par h.ord A.length b hlb.2 (by omega) a hab2
        obtain rfl := h.one hjp ha
        rcases hp with rfl | hp
        · omega
        · have := pre_lt h.ord A.length b hlb.2 (by omega) p hp
          omega
      rcases meet h (x + 1) x (by omega) a b hla.2 hlb.2 (List.mem_cons.1 hx) (List.mem_cons.1 hy) with h1 | h1 | h1
      · exact hab h1
      · exact key ha hb h1
      · exact key hb ha h1
end Go.Proofs.YthjjgpepgbfalaaGreatDoor
end
