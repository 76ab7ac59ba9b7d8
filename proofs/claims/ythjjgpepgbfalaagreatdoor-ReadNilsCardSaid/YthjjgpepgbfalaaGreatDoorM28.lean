/- Texts RdH2 to RdC5 of this seat, laid into one. -/
import Derived.Test.YthjjgpepgbfalaaGreatDoorM08
import Derived.Test.YthjjgpepgbfalaaGreatDoorM27
set_option linter.unusedVariables false
set_option linter.unusedSimpArgs false
set_option linter.constructorNameAsVariable false
section
/-! Build's second way, purely: what is laid in changes just the datum's own places. -/
set_option maxRecDepth 20000
set_option linter.unusedSimpArgs false
set_option linter.unusedVariables false
namespace Go.Proofs.YthjjgpepgbfalaaGreatDoor
open Go.RowKit Go.Shelf

theorem bareM_chain {m : Hm} {N : List ByteArray} {A : List Nd} {i : Nat} (hk : chainK (ndAt A i).t.k = true) : bareM m N A i = ((bzS m (pairsZ (ndAt A i)).toNat).2, (bzS m (pairsZ (ndAt A i)).toNat).1, N) := by
  have h : (ndAt A i).t.k = 0 ∨ (ndAt A i).t.k = 4 ∨ (ndAt A i).t.k = 5 ∨ (ndAt A i).t.k = 6 ∨ (ndAt A i).t.k = 7 := by
    unfold chainK at hk
    simp at hk
    omega
  unfold bareM
  rw [if_neg (by omega), if_neg (by omega), if_neg (by omega), if_neg (by omega), if_neg (by omega), if_neg (by omega), if_neg (by omega)]
theorem bareM_vec {m : Hm} {N : List ByteArray} {A : List Nd} {i : Nat} (hk : (ndAt A i).t.k = 2) : bareM m N A i = (addV m (obL (List.replicate (ndAt A i).is.length (0, 0))), addM m (obL (List.replicate (ndAt A i).is.length (0, 0))), N) := by
  unfold bareM
  rw [if_neg (by omega), if_neg (by omega), if_neg (by omega), if_neg (by omega), if_neg (by omega), if_neg (by omega), if_pos hk]
theorem pairsZ_chain {x : Nd} (h : 0 < pairsZ x) : chainK x.t.k = true := by
  unfold pairsZ at h
  split at h
  · assumption
  · omega
/-- What build stands on. -/
structure BuiltH (m : Hm) (N : List ByteArray) (A : List Nd) : Prop where
  full : FullL m.L
  here : Here m.L
  lim : m.lim ≤ 16384
  inv : InvA A
  pos : 0 < A.length
  pz : ∀ i ∈ pre A 0, 0 ≤ pairsZ (ndAt A i)
  room : RoomB m N A
/-- The nodes with their values; the memory behind the first way; behind d of the second one. -/
def bldB (m : Hm) (N : List ByteArray) (A : List Nd) : List Nd := (foldB (m, N, A) (pre A 0)).2.2
def bldM (m : Hm) (N : List ByteArray) (A : List Nd) : Hm := (foldB (m, N, A) (pre A 0)).1
def laidM (m : Hm) (N : List ByteArray) (A : List Nd) (d : List Nat) : Hm := d.foldl (fun m' i => layS m' (bldB m N A) i) (bldM m N A)
section
variable {m : Hm} {N : List ByteArray} {A : List Nd}
theorem laidM_snoc (d : List Nat) (i : Nat) : laidM m N A (d ++ [i]) = layS (laidM m N A d) (bldB m N A) i := by unfold laidM; rw [List.foldl_append]; rfl
theorem bldB_same : (bldB m N A).length = A.length ∧ ∀ j, (ndAt (bldB m N A) j).is = (ndAt A j).is ∧ (ndAt (bldB m N A) j).t = (ndAt A j).t ∧ (ndAt (bldB m N A) j).d = (ndAt A j).d ∧ (ndAt (bldB m N A) j).sm = (ndAt A j).sm := foldB_same (m, N, A) (pre A 0)
theorem bldB_pz (j : Nat) : pairsZ (ndAt (bldB m N A) j) = pairsZ (ndAt A j) := by
  obtain ⟨a, b, c, -⟩ := (bldB_same (m := m) (N := N) (A := A)).2 j
  unfold pairsZ; rw [a, b, c]
/-- How many places there are behind d of the first way. -/
def lenB (m : Hm) (N : List ByteArray) (A : List Nd) (d : List Nat) : Nat := (foldB (m, N, A) d).1.L.length
theorem BuiltH.fold (h : BuiltH m N A) (d : List Nat) : FullL (foldB (m, N, A) d).1.L ∧ Here (foldB (m, N, A) d).1.L ∧ ExtL m.L (foldB (m, N, A) d).1.L ∧ (foldB (m, N, A) d).1.lim = m.lim := foldB_full d (m, N, A) h.full h.here
theorem BuiltH.ext (h : BuiltH m N A) (d e : List Nat) : ExtL (foldB (m, N, A) d).1.L (foldB (m, N, A) (d ++ e)).1.L := by
  obtain ⟨a, b, -, -⟩ := h.fold d
  rw [foldB_append]
  exact (foldB_full e _ a b).2.2.1
theorem BuiltH.split (h : BuiltH m N A) {d r : List Nat} {i : Nat} (hd : d ++ i :: r = pre A 0) : i < A.length ∧ i ∉ d ∧ i ∉ r ∧ i ∈ pre A 0 := by
  have hn := pre_nodup h.inv A.length 0 h.pos (by omega)
  have hi : i ∈ pre A 0 := by rw [← hd]; simp
  rw [← hd] at hn
  have h1 := List.nodup_append.1 hn
  exact ⟨(pre_lt h.inv.ord A.length 0 h.pos (by omega) i hi).2, fun e => (h1.2.2 i e i (List.mem_cons_self ..)) rfl, (List.nodup_cons.1 h1.2.1).1, hi⟩
theorem BuiltH.val (h : BuiltH m N A) {d r : List Nat} {i : Nat} (hd : d ++ i :: r = pre A 0) : (ndAt (bldB m N A) i).v = (bareM (foldB (m, N, A) d).1 (foldB (m, N, A) d).2.1 (foldB (m, N, A) d).2.2 i).1 := by
  obtain ⟨h1, h2, h3, -⟩ := h.split hd
  unfold bldB
  rw [← hd]
  exact foldB_val h1 h3
theorem foldB_pz (d : List Nat) (j : Nat) : pairsZ (ndAt (foldB (m, N, A) d).2.2 j) = pairsZ (ndAt A j) := by
  obtain ⟨a, b, c, -⟩ := (foldB_same (m, N, A) d).2 j
  unfold pairsZ; rw [a, b, c]
/-- A datum that is a chain of pairs: where they stand. -/
theorem BuiltH.chain (h : BuiltH m N A) {d r : List Nat} {i : Nat} (hd : d ++ i :: r = pre A 0) (hk : chainK (ndAt A i).t.k = true) :
    (ndAt (bldB m N A) i).v = nxt (lenB m N A d) (pairsZ (ndAt A i)).toNat ∧ lenB m N A (d ++ [i]) = lenB m N A d + (pairsZ (ndAt A i)).toNat ∧ (∀ j, j < (pairsZ (ndAt A i)).toNat → clAt (bldM m N A).L (lenB m N A d + j) = some (newCl (obP (0, 0) (nxt (lenB m N A d) j)))) ∧ lenB m N A d + (pairsZ (ndAt A i)).toNat ≤ m.lim := by
  obtain ⟨f1, f2, f3, f4⟩ := h.fold d
  obtain ⟨-, hsm⟩ := foldB_same (m, N, A) d
  obtain ⟨-, -, r3, r4⟩ := h.room d i r hd
  have hb : bareM (foldB (m, N, A) d).1 (foldB (m, N, A) d).2.1 (foldB (m, N, A) d).2.2 i = _ := bareM_chain (by rw [(hsm i).2.1]; exact hk)
  rw [foldB_pz] at hb
  rw [f1.live] at r4
  obtain ⟨-, -, -, -, h5⟩ := bzS_full f1 f2 (pairsZ (ndAt A i)).toNat
  obtain ⟨e1, e2, e3⟩ := h5 (by omega)
  have hs : (foldB (m, N, A) (d ++ [i])).1 = (bzS (foldB (m, N, A) d).1 (pairsZ (ndAt A i)).toNat).1 := by
    rw [foldB_snoc]; show (bareM _ _ _ _).2.1 = _; rw [hb]
  refine ⟨by rw [h.val hd, hb]; exact e2, by unfold lenB; rw [hs]; exact e1, fun j hj => ?_, by unfold lenB; omega⟩
  have hx := h.ext (d ++ [i]) r
  rw [show d ++ [i] ++ r = pre A 0 by rw [← hd]; simp] at hx
  refine (hx.at' _ ?_).trans ?_
  · rw [hs, e1]; show lenB m N A d + j < _; unfold lenB; omega
  · rw [hs]; exact e3 j hj
/-- A vector: where it stands. -/
theorem BuiltH.vec (h : BuiltH m N A) {d r : List Nat} {i : Nat} (hd : d ++ i :: r = pre A 0) (hk : (ndAt A i).t.k = 2) : InL (lenB m N A d) (lenB m N A (d ++ [i])) (ndAt (bldB m N A) i).v := by
  obtain ⟨f1, f2, f3, f4⟩ := h.fold d
  obtain ⟨-, hsm⟩ := foldB_same (m, N, A) d
  have hb : bareM (foldB (m, N, A) d).1 (foldB (m, N, A) d).2.1 (foldB (m, N, A) d).2.2 i = _ := bareM_vec (by rw [(hsm i).2.1]; exact hk)
  rw [h.val hd, hb]
  intro h1 h2
  by_cases he : addE (foldB (m, N, A) d).1 (obL (List.replicate (ndAt (foldB (m, N, A) d).2.2 i).is.length (0, 0))) = 0
  · obtain ⟨k1, k2⟩ := addM_new f1 _ he
    have hs : (foldB (m, N, A) (d ++ [i])).1 = addM (foldB (m, N, A) d).1 (obL (List.replicate (ndAt (foldB (m, N, A) d).2.2 i).is.length (0, 0))) := by
      rw [foldB_snoc]; show (bareM _ _ _ _).2.1 = _; rw [hb]
    show lenB m N A d ≤ (addV _ _).2.toNat ∧ (addV _ _).2.toNat < lenB m N A (d ++ [i])
    unfold lenB
    rw [k2, hs, k1]
    simp
  · have := (addM_no _ he).2
    rw [this] at h1
    cases h1
theorem BuiltH.chO (h : BuiltH m N A) {d r : List Nat} {i : Nat} (hd : d ++ i :: r = pre A 0) (hk : chainK (ndAt A i).t.k = true) {L : Pls} (hL : ∀ j, lenB m N A d ≤ j → clAt L j = clAt (bldM m N A).L j) : ChO L (lenB m N A d) (pairsZ (ndAt A i)).toNat := fun j hj =>
  ⟨_, (0, 0), (hL _ (by omega)).trans ((h.chain hd hk).2.2.1 j hj), rfl⟩
/-- What laying one datum in changes. -/
theorem BuiltH.layOut (h : BuiltH m N A) {d r : List Nat} {i : Nat} (hd : d ++ i :: r = pre A 0) {M : Hm} (hL : ∀ j, lenB m N A d ≤ j → clAt M.L j = clAt (bldM m N A).L j) : OutL (lenB m N A d) (lenB m N A (d ++ [i])) M.L (layS M (bldB m N A) i).L := by
  obtain ⟨-, hsm⟩ := bldB_same (m := m) (N := N) (A := A)
  unfold layS
  by_cases hk : (ndAt (bldB m N A) i).t.k = 2
  · rw [if_pos hk]
    exact layV_out (h.vec hd (by rw [← (hsm i).2.1]; exact hk)) _
  · rw [if_neg hk, bldB_pz]
    by_cases hc : chainK (ndAt A i).t.k = true
    · obtain ⟨e1, e2, -, -⟩ := h.chain hd hc
      refine layC_out _ fun j hj => ?_
      rw [e1, curM_nxt (h.chO hd hc hL), e2]
      exact nxt_in _ (by omega)
    · have : pairsZ (ndAt A i) = 0 := by unfold pairsZ; rw [if_neg hc]
      rw [this]
      exact OutL.refl _ _ _
/-- Behind d of the second way. -/
theorem BuiltH.laid (h : BuiltH m N A) : ∀ (d r : List Nat), d ++ r = pre A 0 → (laidM m N A d).L.length = (bldM m N A).L.length ∧ Here (laidM m N A d).L ∧ (laidM m N A d).lim = m.lim ∧ (∀ j, lenB m N A d ≤ j → clAt (laidM m N A d).L j = clAt (bldM m N A).L j) ∧ ∀ j, j < m.L.length → clAt (laidM m N A d).L j = clAt m.L j := by
  intro d
  obtain ⟨e, he⟩ : ∃ e, d.reverse = e := ⟨_, rfl⟩
  obtain rfl : d = e.reverse := by rw [← he, List.reverse_reverse]
  clear he
  induction e with
  | nil =>
    intro r hr
    obtain ⟨a, b, c, f⟩ := h.fold (pre A 0)
    exact ⟨rfl, b, f, fun _ _ => rfl, fun j hj => c.at' j hj⟩
  | cons i e ih =>
    intro r hr
    rw [List.reverse_cons] at hr ⊢
    have hr2 : e.reverse ++ i :: r = pre A 0 := by rw [← hr]; simp
    obtain ⟨a, b, c, f, f2⟩ := ih (i :: r) hr2
    have ho := h.layOut hr2 f
    obtain ⟨b2, -, c2⟩ := layS_here b (bldB m N A) i
    have hx := (h.ext e.reverse [i]).len
    have hx0 := (h.fold e.reverse).2.2.1.len
    rw [laidM_snoc]
    exact ⟨ho.len.trans a, b2, c2.trans c, fun j hj => (ho.at' j (by omega)).trans (f j (Nat.le_trans hx hj)), fun j hj => (ho.at' j (by unfold lenB; omega)).trans (f2 j hj)⟩
/-- What lay asks for, at each datum. -/
theorem BuiltH.asks (h : BuiltH m N A) {d r : List Nat} {i : Nat} (hd : d ++ i :: r = pre A 0) (hp : 0 < pairsZ (ndAt A i)) : (∀ j, domV (curM (laidM m N A d).L (ndAt (bldB m N A) i).v j)) ∧ EndP (laidM m N A d).L (ndAt (bldB m N A) i).v (pairsZ (ndAt A i)).toNat := by
  have hc := pairsZ_chain hp
  obtain ⟨-, -, -, f, -⟩ := h.laid d (i :: r) hd
  obtain ⟨e1, e2, -, e4⟩ := h.chain hd hc
  have hch := h.chO hd hc f
  have hl := h.lim
  rw [e1]
  refine ⟨fun j => ?_, endP_nxt hch⟩
  rw [curM_nxt hch]
  exact domV_nxt (n := (pairsZ (ndAt A i)).toNat) (by omega) _ (by omega)
end
end Go.Proofs.YthjjgpepgbfalaaGreatDoor
end
section
/-! What the parser keeps: the nodes stay a tree; where there was no fault each is done. -/
set_option linter.unusedVariables false
set_option linter.unusedSimpArgs false
namespace Go.Proofs.YthjjgpepgbfalaaGreatDoor

/-- What holds of the parser. -/
structure InvP (σ : Ps) : Prop where
  a : InvA σ.A
  lab : ∀ x j, σ.lab x = some j → j < σ.A.length
  e : σ.e = 0
/-- What a part of the parser does. -/
structure DoesP (b : Bool) (σ σ' : Ps) : Prop where
  bad : b = false → σ'.e ≠ 0
  inv : b = true → InvP σ'
  mon : b = true → MonA σ.A σ'.A
  opn : b = true → ∀ O, Opn O σ.A → Opn O σ'.A
theorem DoesP.fail (σ σ' : Ps) (h : σ'.e ≠ 0) : DoesP false σ σ' := ⟨fun _ => h, fun e => (by cases e), fun e => (by cases e), fun e => (by cases e)⟩
theorem DoesP.trans {b : Bool} {σ σ1 σ2 : Ps} (h : DoesP true σ σ1) (k : DoesP b σ1 σ2) : DoesP b σ σ2 :=
  ⟨k.bad, k.inv, fun e => (h.mon rfl).trans (k.mon e), fun e O ho => k.opn e O (h.opn rfl O ho)⟩
theorem DoesP.refl {σ : Ps} (h : InvP σ) : DoesP true σ σ := ⟨fun e => (by cases e), fun _ => h, fun _ => MonA.refl _, fun _ _ h => h⟩
theorem Opn.same {O : Nat → Prop} {A B : List Nd} (h : Opn O A) (hm : MonA A B) (hl : B.length = A.length) : Opn O B := fun j hj ho => (h j (by omega) ho).mono hm (by omega)
theorem Opn.more {O : Nat → Prop} {A B : List Nd} (h : Opn O A) (hm : MonA A B) (hl : B.length = A.length + 1) (hn : DoneN B A.length) : Opn O B := fun j hj ho => by
  by_cases e : j = A.length
  · rw [e]; exact hn
  · exact (h j (by omega) ho).mono hm (by omega)
theorem fault_form {dp : Nat} {σ : Ps} {i : Nat} {x : Lx.Tk × Nat} {l : List (Lx.Tk × Nat)} (hts : σ.ts = x :: l) (h : faultM dp σ i = 0) :
    ((ndAt σ.A i).t.k = 3 → isByteM x.1 = true) ∧ (x.1.k = 16 → ∃ j s, σ.lab x.1.n = some j ∧ stands σ.A j = some s) ∧ ((ndAt σ.A i).t.k = 2 → (ndAt σ.A i).is.length < 256) := by
  unfold faultM at h
  rw [hts] at h
  simp only at h
  split at h
  · cases h
  rename_i h1
  split at h
  · cases h
  rename_i h2
  split at h
  · cases h
  rename_i h3
  split at h
  · cases h
  split at h
  · cases h
  rename_i h5
  refine ⟨fun hk => ?_, fun hk => ?_, fun hk => ?_⟩
  · cases hb : isByteM x.1 with
    | true => rfl
    | false => exfalso; apply h1; rw [hb, decide_eq_true hk]; simp
  · cases hl : σ.lab x.1.n with
    | none => exfalso; apply h2; rw [hl, decide_eq_true hk]; rfl
    | some j =>
      cases hs : stands σ.A j with
      | none => exfalso; apply h3; rw [hl, decide_eq_true hk]; simp [hs]
      | some s => exact ⟨j, s, rfl, hs⟩
  · rcases Nat.lt_or_ge (ndAt σ.A i).is.length 256 with h6 | h6
    · exact h6
    · exfalso; apply h5
      have : fullM (ndAt σ.A i) = true := by unfold fullM; rw [decide_eq_true hk, decide_eq_true h6]; rfl
      rw [this]; rfl
theorem setDot_mono {A : List Nd} {i : Nat} (hi : i < A.length) : MonA A (setDot A i) := set_mono hi _ rfl rfl fun s hs => hs
theorem does_all (sz : Nat) : ∀ f,
    (∀ dp σ r, InvP σ → skipsM sz f dp σ = some r → DoesP r.1 σ r.2) ∧
    (∀ dp i σ r, InvP σ → i < σ.A.length → behindM sz f dp i σ = some r → DoesP r.1 σ r.2 ∧ (r.1 = true → (ndAt r.2.A i).is ≠ [])) ∧
    (∀ dp i σ r, InvP σ → i < σ.A.length → datumM sz f dp i σ = some r → DoesP r.1 σ r.2 ∧ (r.1 = true → (ndAt r.2.A i).is ≠ [])) ∧
    (∀ dp i σ r, InvP σ → i < σ.A.length → ((ndAt σ.A i).t.k = 16 → (ndAt σ.A i).sm = none ∧ ∃ j s, σ.lab (ndAt σ.A i).t.n = some j ∧ stands σ.A j = some s) → restM sz f dp i σ = some r → (r.1 = false → r.2.e ≠ 0) ∧ (r.1 = true → InvP r.2 ∧ MonA σ.A r.2.A ∧ ∀ O, Opn (fun k => O k ∨ k = i) σ.A → Opn O r.2.A)) ∧
    (∀ dp i σ r, InvP σ → i < σ.A.length → rowM sz f dp i σ = some r → DoesP r.1 σ r.2)
  | 0 => ⟨fun _ _ _ _ h => (by rw [skipsM] at h; cases h), fun _ _ _ _ _ _ h => (by rw [behindM] at h; cases h), fun _ _ _ _ _ _ h => (by rw [datumM] at h; cases h), fun _ _ _ _ _ _ _ h => (by rw [restM] at h; cases h), fun _ _ _ _ _ _ h => (by rw [rowM] at h; cases h)⟩
  | f + 1 => by
    obtain ⟨ihS, ihB, ihD, ihR, ihW⟩ := does_all sz f
    refine ⟨fun dp σ r hI h => ?_, fun dp i σ r hI hi h => ?_, fun dp i σ r hI hi h => ?_, fun dp i σ r hI hi hk h => ?_, fun dp i σ r hI hi h => ?_⟩
    · rw [skipsM] at h
      by_cases hk : isK σ 8 = true
      · rw [if_pos hk] at h
        have hI2 : InvP { σ with ts := σ.ts.tail, A := σ.A ++ [nd0] } := ⟨hI.a.nd0, fun x j hj => by have := hI.lab x j hj; simp; omega, hI.e⟩
        cases hB : behindM sz f dp σ.A.length { σ with ts := σ.ts.tail, A := σ.A ++ [nd0] } with
        | none => rw [hB] at h; cases h
        | some q =>
          obtain ⟨b, σ'⟩ := q
          rw [hB] at h
          obtain ⟨hD, hne⟩ := ihB dp σ.A.length _ _ hI2 (by simp) hB
          cases b with
          | false =>
            obtain rfl := Option.some.inj h
            exact DoesP.fail _ _ (hD.bad rfl)
          | true =>
            have hm := hD.mon rfl
            have h0 : DoesP true σ { σ' with lab := σ.lab } := ⟨fun e => (by cases e), fun _ => ⟨(hD.inv rfl).a, fun x j hj => by
                have := hI.lab x j hj
                have h2 := hm.len
                simp at h2
                show j < σ'.A.length
                omega, (hD.inv rfl).e⟩, fun _ => (nd0_mono σ.A).trans hm, fun _ O ho => hD.opn rfl O (ho.more (nd0_mono _) (by simp) (by
                  unfold DoneN
                  rw [ndAt_snoc, if_pos rfl]
                  refine ⟨fun e => ?_, fun e => ?_⟩
                  · exact absurd e (by decide)
                  · exact absurd e (by decide)))⟩
            exact h0.trans (ihS dp _ r (h0.inv rfl) h)
      · rw [if_neg hk] at h
        obtain rfl := Option.some.inj h
        exact DoesP.refl hI
    · rw [behindM] at h
      cases hS : skipsM sz f dp σ with
      | none => rw [hS] at h; cases h
      | some q =>
        obtain ⟨b, σ1⟩ := q
        rw [hS] at h
        have h1 := ihS dp σ _ hI hS
        cases b with
        | false =>
          obtain rfl := Option.some.inj h
          exact ⟨DoesP.fail _ _ (h1.bad rfl), fun e => (by cases e)⟩
        | true =>
          obtain ⟨h2, h3⟩ := ihD dp i σ1 r (h1.inv rfl) (Nat.lt_of_lt_of_le hi (h1.mon rfl).len) h
          exact ⟨h1.trans h2, h3⟩
    · rw [datumM] at h
      by_cases h0 : faultM dp σ i ≠ 0
      · rw [if_pos h0] at h
        obtain rfl := Option.some.inj h
        exact ⟨DoesP.fail _ _ h0, fun e => (by cases e)⟩
      · rw [if_neg h0] at h
        have h0' : faultM dp σ i = 0 := by simpa using h0
        cases hts : σ.ts with
        | nil => rw [hts] at h; cases h
        | cons x l =>
          rw [hts] at h
          obtain ⟨f1, f2, f3⟩ := fault_form hts h0'
          have hadd := hI.a.add hi x.1 x.2 f3 f1
          have hmon := addN_mono hi x.1 x.2
          have hlast := ndAt_last σ.A i x.1 x.2
          have hI2 : InvP { σ with ts := l, A := addN σ.A i x.1 x.2 } := ⟨hadd, fun y j hj => by have := hI.lab y j hj; show j < (addN _ _ _ _).length; rw [addN_len]; omega, hI.e⟩
          obtain ⟨g1, g2⟩ := ihR (dp + 1) σ.A.length _ r hI2 (by show _ < (addN _ _ _ _).length; rw [addN_len]; omega) (fun e => by
            have e2 : (ndAt (addN σ.A i x.1 x.2) σ.A.length).t.k = 16 := e
            rw [hlast] at e2
            obtain ⟨j, s, k1, k2⟩ := f2 e2
            refine ⟨?_, j, s, ?_, ?_⟩
            · show (ndAt (addN σ.A i x.1 x.2) σ.A.length).sm = none
              rw [hlast]; rfl
            · show σ.lab (ndAt (addN σ.A i x.1 x.2) σ.A.length).t.n = some j
              rw [hlast]; exact k1
            · exact stands_mono hI.a.ord hadd.ord hmon σ.A.length j (hI.lab _ _ k1) (by omega) s k2) h
          cases hb : r.1 with
          | false =>
            refine ⟨⟨fun _ => g1 hb, fun e => ?_, fun e => ?_, fun e => ?_⟩, fun e => ?_⟩ <;> cases e
          | true =>
            obtain ⟨g3, g4, g5⟩ := g2 hb
            refine ⟨⟨fun e => (by cases e), fun _ => g3, fun _ => hmon.trans g4, fun _ O ho => g5 O fun j hj hn => ?_⟩, fun _ => g4.ne (by show i < (addN _ _ _ _).length; rw [addN_len]; omega) ?_⟩
            · have hj2 : j < σ.A.length := by
                have h1 : j < (addN σ.A i x.1 x.2).length := hj
                rw [addN_len] at h1
                have : j ≠ σ.A.length := fun e => hn (.inr e)
                omega
              exact (ho j hj2 fun e => hn (.inl e)).mono hmon hj2
            · show (ndAt (addN σ.A i x.1 x.2) i).is ≠ []
              rw [ndAt_add hi, if_neg (by omega), if_pos rfl]; simp
    · rw [restM] at h
      have hopn : (ndAt σ.A i).t.k ≠ 15 → (ndAt σ.A i).t.k ≠ 16 → ∀ O, Opn (fun k => O k ∨ k = i) σ.A → Opn O σ.A := fun n1 n2 O ho j hj hn => by
        by_cases e : j = i
        · rw [e]; exact ⟨fun e => absurd e n2, fun e => absurd e n1⟩
        · exact ho j hj fun e2 => e2.elim hn e
      split at h
      · rename_i hk1
        have hD := ihW dp i σ r hI hi h
        exact ⟨hD.bad, fun e => ⟨hD.inv e, hD.mon e, fun O ho => hD.opn e O (hopn (by omega) (by omega) O ho)⟩⟩
      · split at h
        · rename_i hk1 hk2
          have hadd := hI.a.add hi ⟨14, 0, nameOf (ndAt σ.A i).t.k⟩ 0 (fun e => by omega) (fun e => by omega)
          have hmon := addN_mono hi (⟨14, 0, nameOf (ndAt σ.A i).t.k⟩ : Lx.Tk) 0
          have hI2 : InvP { σ with A := addN σ.A i ⟨14, 0, nameOf (ndAt σ.A i).t.k⟩ 0 } := ⟨hadd, fun y j hj => by have := hI.lab y j hj; show j < (addN _ _ _ _).length; rw [addN_len]; omega, hI.e⟩
          obtain ⟨hD, -⟩ := ihB dp i _ r hI2 (by show i < (addN _ _ _ _).length; rw [addN_len]; omega) h
          refine ⟨hD.bad, fun e => ⟨hD.inv e, hmon.trans (hD.mon e), fun O ho => hD.opn e O ((hopn (by omega) (by omega) O ho).more hmon (addN_len ..) ?_)⟩⟩
          unfold DoneN
          rw [ndAt_last]
          refine ⟨fun e => ?_, fun e => ?_⟩
          · exact absurd e (by decide : ¬ (14 : Nat) = 16)
          · exact absurd e (by decide : ¬ (14 : Nat) = 15)
        · split at h
          · rename_i hk1 hk2 hk3
            have hI2 : InvP { σ with lab := putLab σ.lab (ndAt σ.A i).t.n i } := ⟨hI.a, fun y j hj => by
              have hj2 : putLab σ.lab (ndAt σ.A i).t.n i y = some j := hj
              unfold putLab at hj2
              split at hj2
              · cases hj2; exact hi
              · exact hI.lab y j hj2, hI.e⟩
            obtain ⟨hD, hne⟩ := ihB dp i _ r hI2 hi h
            refine ⟨hD.bad, fun e => ⟨hD.inv e, hD.mon e, fun O ho j hj hn => ?_⟩⟩
            by_cases e2 : j = i
            · subst e2
              have : (ndAt r.2.A j).t = (ndAt σ.A j).t := (hD.mon e).t j hi
              exact ⟨fun e3 => by rw [this] at e3; omega, fun _ => hne e⟩
            · exact hD.opn e _ ho j hj fun e3 => e3.elim hn e2
          · split at h
            · rename_i hk1 hk2 hk3 h16
              obtain ⟨hsm, j, s, hl, hs⟩ := hk h16
              rw [hl] at h
              have h9 : some (true, { σ with A := setSame σ.A i (stands σ.A j) }) = some r := h
              rw [hs] at h9
              obtain rfl := Option.some.inj h9
              have hsk := stands_kind hI.a σ.A.length j (hI.lab _ _ hl) (by omega) s hs
              have hmon : MonA σ.A (setSame σ.A i (some s)) := set_mono hi _ rfl rfl fun t ht => by rw [hsm] at ht; cases ht
              refine ⟨fun e => (by cases e), fun _ => ⟨⟨hI.a.set hi _ rfl rfl (fun t ht => ?_) (fun hd => ?_), fun y j hj => ?_, hI.e⟩, hmon, fun O ho j hj hn => ?_⟩⟩
              · have : s = t := Option.some.inj ht
                rw [← this]; exact hsk
              · have := (hI.a.dot i hd).1; omega
              · have := hI.lab y j hj
                show j < (setSame σ.A i (some s)).length
                unfold setSame; rw [List.length_set]; exact this
              · have hj2 : j < σ.A.length := by
                  have h1 : j < (setSame σ.A i (some s)).length := hj
                  unfold setSame at h1; rw [List.length_set] at h1; exact h1
                by_cases e2 : j = i
                · subst e2
                  show DoneN (setSame σ.A j (some s)) j
                  unfold DoneN setSame
                  rw [ndAt_set hi, if_pos rfl]
                  exact ⟨fun _ => by simp, fun e => absurd e hk3⟩
                · exact (ho j hj2 fun e3 => e3.elim hn e2).mono hmon hj2
            · rename_i hk1 hk2 hk3 h16
              obtain rfl := Option.some.inj h
              exact ⟨fun e => (by cases e), fun _ => ⟨hI, MonA.refl _, fun O ho => hopn hk3 h16 O ho⟩⟩
    · rw [rowM] at h
      cases hS : skipsM sz f dp σ with
      | none => rw [hS] at h; cases h
      | some q =>
        obtain ⟨b, σ1⟩ := q
        rw [hS] at h
        have h1 := ihS dp σ _ hI hS
        cases b with
        | false =>
          obtain rfl := Option.some.inj h
          exact DoesP.fail _ _ (h1.bad rfl)
        | true =>
          have hI1 : InvP σ1 := h1.inv rfl
          have hi1 : i < σ1.A.length := Nat.lt_of_lt_of_le hi (h1.mon rfl).len
          simp only at h
          by_cases hk : isK σ1 1 = true
          · rw [if_pos hk] at h
            obtain rfl := Option.some.inj h
            exact h1.trans ⟨fun e => (by cases e), fun _ => ⟨hI1.a, hI1.lab, hI1.e⟩, fun _ => MonA.refl _, fun _ _ h => h⟩
          · rw [if_neg hk] at h
            by_cases hd : isK σ1 9 = true ∧ (ndAt σ1.A i).t.k = 0 ∧ (ndAt σ1.A i).is ≠ []
            · rw [if_pos hd] at h
              have hmon := setDot_mono hi1
              have hl : (setDot σ1.A i).length = σ1.A.length := List.length_set ..
              have h2 : DoesP true σ1 { σ1 with ts := σ1.ts.tail, A := setDot σ1.A i } := ⟨fun e => (by cases e), fun _ => ⟨hI1.a.set hi1 _ rfl rfl (fun s hs => hI1.a.smk i s hs) (fun _ => ⟨hd.2.1, hd.2.2⟩), fun y j hj => by show j < (setDot σ1.A i).length; rw [hl]; exact hI1.lab y j hj, hI1.e⟩, fun _ => hmon, fun _ O ho => ho.same hmon hl⟩
              cases hB : behindM sz f dp i { σ1 with ts := σ1.ts.tail, A := setDot σ1.A i } with
              | none => rw [hB] at h; cases h
              | some q2 =>
                obtain ⟨b2, σ2⟩ := q2
                rw [hB] at h
                obtain ⟨h3, -⟩ := ihB dp i _ _ (h2.inv rfl) (by show i < (setDot σ1.A i).length; rw [hl]; exact hi1) hB
                cases b2 with
                | false =>
                  obtain rfl := Option.some.inj h
                  exact DoesP.fail _ _ (h3.bad rfl)
                | true =>
                  simp only at h
                  cases hS2 : skipsM sz f dp σ2 with
                  | none => rw [hS2] at h; cases h
                  | some q3 =>
                    obtain ⟨b3, σ3⟩ := q3
                    rw [hS2] at h
                    have h4 := ihS dp σ2 _ (h3.inv rfl) hS2
                    cases b3 with
                    | false =>
                      obtain rfl := Option.some.inj h
                      exact DoesP.fail _ _ (h4.bad rfl)
                    | true =>
                      obtain rfl := Option.some.inj h
                      refine h1.trans (h2.trans (h3.trans (h4.trans ?_)))
                      have hI3 : InvP σ3 := h4.inv rfl
                      unfold closeM
                      cases hts : σ3.ts with
                      | nil => exact DoesP.fail _ _ (by show (3 : Int) ≠ 0; decide)
                      | cons x l =>
                        simp only
                        split
                        · exact ⟨fun e => (by cases e), fun _ => ⟨hI3.a, hI3.lab, hI3.e⟩, fun _ => MonA.refl _, fun _ _ h => h⟩
                        · exact DoesP.fail _ _ (by show (4 : Int) ≠ 0; decide)
            · rw [if_neg hd] at h
              cases hD : datumM sz f dp i σ1 with
              | none => rw [hD] at h; cases h
              | some q2 =>
                obtain ⟨b2, σ2⟩ := q2
                rw [hD] at h
                obtain ⟨h3, -⟩ := ihD dp i σ1 _ hI1 hi1 hD
                cases b2 with
                | false =>
                  obtain rfl := Option.some.inj h
                  exact DoesP.fail _ _ (h3.bad rfl)
                | true => exact h1.trans (h3.trans (ihW dp i σ2 r (h3.inv rfl) (Nat.lt_of_lt_of_le hi1 (h3.mon rfl).len) h))
/-- All data of a text: a tree, all of it done, or a fault. -/
theorem top_does (sz : Nat) : ∀ f σ σr, InvP σ → 0 < σ.A.length → topM sz f σ = some σr → σr.e = 0 → InvP σr ∧ MonA σ.A σr.A ∧ ∀ O, Opn O σ.A → Opn O σr.A
  | 0, σ, σr, _, _, h, _ => by rw [topM] at h; cases h
  | f + 1, σ, σr, hI, h0, h, he => by
    rw [topM] at h
    cases hS : skipsM sz f 0 σ with
    | none => rw [hS] at h; cases h
    | some q =>
      obtain ⟨b, σ1⟩ := q
      rw [hS] at h
      have h1 := (does_all sz f).1 0 σ _ hI hS
      cases b with
      | false =>
        obtain rfl := Option.some.inj h
        exact absurd he (h1.bad rfl)
      | true =>
        simp only at h
        by_cases hn : σ1.ts = []
        · rw [if_pos hn] at h
          obtain rfl := Option.some.inj h
          exact ⟨h1.inv rfl, h1.mon rfl, h1.opn rfl⟩
        · rw [if_neg hn] at h
          cases hD : datumM sz f 0 0 σ1 with
          | none => rw [hD] at h; cases h
          | some q2 =>
            obtain ⟨b2, σ2⟩ := q2
            rw [hD] at h
            obtain ⟨h2, -⟩ := (does_all sz f).2.2.1 0 0 σ1 _ (h1.inv rfl) (Nat.lt_of_lt_of_le h0 (h1.mon rfl).len) hD
            cases b2 with
            | false =>
              obtain rfl := Option.some.inj h
              exact absurd he (h2.bad rfl)
            | true =>
              have h3 := h1.trans h2
              obtain ⟨k1, k2, k3⟩ := top_does sz f σ2 σr (h3.inv rfl) (Nat.lt_of_lt_of_le h0 (h3.mon rfl).len) h he
              exact ⟨k1, (h3.mon rfl).trans k2, fun O ho => k3 O (h3.opn rfl O ho)⟩
end Go.Proofs.YthjjgpepgbfalaaGreatDoor
end
section
/-! Build's second way. -/
set_option maxRecDepth 20000
set_option linter.unusedSimpArgs false
set_option linter.unusedVariables false
namespace Go.Proofs.YthjjgpepgbfalaaGreatDoor
open Go.RowKit Go.Shelf

theorem standsF_same {A B : List Nd} (h : ∀ j, (ndAt B j).is = (ndAt A j).is ∧ (ndAt B j).t = (ndAt A j).t ∧ (ndAt B j).sm = (ndAt A j).sm) : ∀ f i, standsF B f i = standsF A f i
  | 0, i => rfl
  | f + 1, i => by
    obtain ⟨h1, h2, h3⟩ := h i
    rw [standsF, standsF, h1, h2, h3]
    split
    · rfl
    · split
      · rfl
      · cases (ndAt A i).is with
        | nil => rfl
        | cons j l => exact standsF_same h f j
theorem stands_bld (m : Hm) (N : List ByteArray) (A : List Nd) (i : Nat) : stands (bldB m N A) i = stands A i := by
  obtain ⟨hl, hs⟩ := bldB_same (m := m) (N := N) (A := A)
  unfold stands
  rw [hl]
  exact standsF_same (fun j => ⟨(hs j).1, (hs j).2.1, (hs j).2.2.2⟩) _ _
/-- Amid build's second way. -/
structure Bd2 (w : World) (g : Nat) (F : Nat → Prop) (S : Nat → Nat) (V : Nat → Value) (m : Hm) (N : List ByteArray) (A : List Nd) (b3 : Nat) (d : List Nat) (W : World) : Prop where
  st : ∃ F', Hep W g F' (laidM m N A d) ∧ Chp F F' w W ∧ (∀ k, footN S V A.length k → ¬ F' k) ∧ ¬ F' b3
  nds : Nds W S V (bldB m N A)
  b3 : W.heap[b3]? = some (.cells #[.pointer (some ⟨g, 0, none⟩)] 24 (0, 0))
section
variable {w W : World} {g gt : Nat} {F : Nat → Prop} {Ft : List Nat} {S : Nat → Nat} {V : Nat → Value} {m : Hm} {N : List ByteArray} {A : List Nd} {b3 b4 : Nat} {d r : List Nat}
set_option maxHeartbeats 1600000 in
theorem build2_any (H : BuiltH m N A) (hdone : ∀ j, j < A.length → DoneN A j) (hA : A.length ≤ 20000) (h : Bd2 w g F S V m N A b3 d W) {i : Nat} (hd : d ++ i :: r = pre A 0) :
    Calls Tryz.prog 32 #[.pointer (some ⟨S i, 0, none⟩), .pointer (some ⟨b3, 0, none⟩)] W fun e W' => e = .returned (.tuple #[]) ∧ Bd2 w g F S V m N A b3 (d ++ [i]) W' := by
  obtain ⟨F', h1, h2, h3, h4⟩ := h.st
  obtain ⟨hl, hs⟩ := bldB_same (m := m) (N := N) (A := A)
  obtain ⟨hi, -, -, hip⟩ := H.split hd
  obtain ⟨-, lh, -, -, -⟩ := H.laid d (i :: r) hd
  have hp0 := H.pz i hip
  have HL := Lib.hid (lay_any h1 lh h.nds (fun k hk => h3 k (by rw [hl] at hk; exact hk)) (by rw [hl]; exact hA) (i := i) (by rw [hl]; exact hi) (by rw [bldB_pz]; exact hp0) (fun j hj => by
      rw [(hs i).1] at hj
      obtain ⟨s, e⟩ := stands_done H.inv.ord hdone A.length j (mem_lt H.inv.ord hj).2 (by omega)
      exact ⟨s, by rw [stands_bld]; exact e⟩) (fun hp => by
      rw [bldB_pz] at hp ⊢
      exact H.asks hd hp))
  have HF : Hid (∀ W', WentH F' g (layS (laidM m N A d) (bldB m N A) i) W W' → Bd2 w g F S V m N A b3 (d ++ [i]) W') := Lib.hid fun W' ⟨F2, k1, k2⟩ => by
    refine ⟨⟨F2, by rw [laidM_snoc]; exact k1, h2.trans k2, fun k hk => k2.out (h.nds.lt k (by rw [hl]; exact hk)) (h3 k hk), k2.out (lt_of_block h.b3) h4⟩, h.nds.keep fun k hk => k2.block k (h.nds.lt k hk) (h3 k (by rw [hl] at hk; exact hk)), (k2.block _ (lt_of_block h.b3) h4).trans h.b3⟩
  have y3 := cell_of_row _ _ 0 _ _ _ h.b3
  simp at y3
  clear h h1 h2 h3 h4
  go_enter Tryz.func32, Tryz.ntmps32
  go_wp2_with (go_at_call 33; with_reducible refine HL.out.mono ?_; rintro e W5 ⟨rfl, hw⟩; have HW5 := Lib.hid (HF.out W5 hw); clear hw)
  go_end0
  exact ⟨rfl, HW5.out⟩
theorem second_way (H : BuiltH m N A) (hdone : ∀ j, j < A.length → DoneN A j) (hA : A.length ≤ 20000) (h : Bd2 w g F S V m N A b3 [] W) :
    Calls Tryz.prog 29 #[.pointer (some ⟨S 0, 0, none⟩), .func (.func 32) #[] #[.pointer (some ⟨b3, 0, none⟩)]] W fun e W' => e = .returned (.tuple #[]) ∧ Bd2 w g F S V m N A b3 (pre A 0) W' := by
  obtain ⟨hl, hs⟩ := bldB_same (m := m) (N := N) (A := A)
  have h1 := each_any (fid := 32) (caps := #[.pointer (some ⟨b3, 0, none⟩)]) (A := A) (S := S) (V := V) (J := Bd2 w g F S V m N A b3) (L := pre A 0) (enters_of Tryz.func32 (by kernel_rfl) rfl) H.inv.ord
    (fun d W hj => hj.nds.shp hl (fun i hi => (hs i).1) (by omega))
    (fun d i r W hL hj => build2_any H hdone hA hj hL)
    A.length 0 H.pos (by omega) [] [] (by simp) W h
  simpa using h1
end
end Go.Proofs.YthjjgpepgbfalaaGreatDoor
end
section
/-! build. -/
set_option maxRecDepth 20000
set_option linter.unusedSimpArgs false
set_option linter.unusedVariables false
namespace Go.Proofs.YthjjgpepgbfalaaGreatDoor
open Go.RowKit Go.Shelf

def bldN (m : Hm) (N : List ByteArray) (A : List Nd) : List ByteArray := (foldB (m, N, A) (pre A 0)).2.1
/-- The values of a text's data. -/
def bldV (m : Hm) (N : List ByteArray) (A : List Nd) : List (Int × Int) := (ndAt A 0).is.map (stV (bldB m N A))
/-- What build tells. -/
def BuildR (w w' : World) (g gt : Nat) (F : Nat → Prop) (Ft : List Nat) (S : Nat → Nat) (V : Nat → Value) (m : Hm) (N : List ByteArray) (A : List Nd) (e : Ending) : Prop :=
  ∃ v, e = .returned v ∧ w'.ownsRow w.heap.size 36 2 v (ndAt A 0).is.length (flatV (bldV m N A)) ∧
    ∃ F' Ft', Bth w' g gt F' Ft' (laidM m N A (pre A 0)) (bldN m N A) ∧ Chp (fun k => bthF F Ft k ∨ footN S V A.length k) (fun k => bthF F' Ft' k ∨ footN S V A.length k) w w' ∧ ∀ k, v.ownBlock = some k → ¬ bthF F' Ft' k
section
variable {w W : World} {g gt : Nat} {F : Nat → Prop} {Ft : List Nat} {S : Nat → Nat} {V : Nat → Value} {m : Hm} {N : List ByteArray} {A : List Nd}
set_option maxRecDepth 100000 in
set_option maxHeartbeats 3200000 in
theorem rbuild_any (H : BuiltH m N A) (hdone : ∀ j, j < A.length → DoneN A j) (hA : A.length ≤ 20000) (h : Bth w g gt F Ft m N) (hn : Nds w S V A) (hap : ∀ k, footN S V A.length k → ¬ bthF F Ft k) :
    Calls Tryz.prog 18 #[.pointer (some ⟨g, 0, none⟩), .pointer (some ⟨gt, 0, none⟩), .pointer (some ⟨S 0, 0, none⟩)] w fun e w' => BuildR w w' g gt F Ft S V m N A e := by
  obtain ⟨W2, hW2⟩ : ∃ W2, (w.alloc (.cells #[.pointer (some ⟨g, 0, none⟩)] 24)).alloc (.cells #[.pointer (some ⟨gt, 0, none⟩)] 28) = W2 := ⟨_, rfl⟩
  have hb : Below w.heap.size w W2 := by rw [← hW2]; exact ((Below.refl _ _).alloc (Nat.le_refl _) _).alloc (by simp) _
  have hz : W2.heap.size = w.heap.size + 2 := by rw [← hW2]; simp
  have b3 : W2.heap[w.heap.size]? = some (.cells #[.pointer (some ⟨g, 0, none⟩)] 24 (0, 0)) := by
    rw [← hW2]; exact (Below.heap_alloc _ _ _ (by simp)).trans (heap_alloc_new w _)
  have b4 : W2.heap[w.heap.size + 1]? = some (.cells #[.pointer (some ⟨gt, 0, none⟩)] 28 (0, 0)) := by
    rw [← hW2]
    have := heap_alloc_new (w.alloc (.cells #[.pointer (some ⟨g, 0, none⟩)] 24)) (.cells #[.pointer (some ⟨gt, 0, none⟩)] 28)
    rw [World.size_alloc] at this; exact this
  have hnl := hn.lt
  have hbl := h.lt
  have hJ0 : BdJ W2 g gt F Ft S V m N A w.heap.size (w.heap.size + 1) [] W2 := ⟨⟨F, Ft, h.below hb, Chp.refl _ _, hap, fun e => by have := hbl _ e; omega, fun e => by have := hbl _ e; omega⟩, hn.below hb, b3, b4⟩
  have HE1 := Lib.hid (first_way hJ0 H.pos hA H.inv.ord (fun j hj => by
    have := hnl _ ⟨j, hj, .inl rfl⟩
    constructor <;> omega) H.room)
  have HE2 : Hid (∀ W3, BdJ W2 g gt F Ft S V m N A w.heap.size (w.heap.size + 1) (pre A 0) W3 → Calls Tryz.prog 29 #[.pointer (some ⟨S 0, 0, none⟩), .func (.func 32) #[] #[.pointer (some ⟨w.heap.size, 0, none⟩)]] W3 fun e W4 => e = .returned (.tuple #[]) ∧ Nds W4 S V (bldB m N A) ∧ w.heap.size ≤ W4.heap.size ∧ ∃ F' Ft', Bth W4 g gt F' Ft' (laidM m N A (pre A 0)) (bldN m N A) ∧ Chp (fun k => bthF F Ft k ∨ footN S V A.length k) (fun k => bthF F' Ft' k ∨ footN S V A.length k) w W4) := Lib.hid fun W3 hj => by
    obtain ⟨F1, Ft1, k1, k2, k3, k4, k5⟩ := hj.st
    refine (second_way H hdone hA (w := W3) (F := F1) ⟨⟨F1, k1.hp, Chp.refl _ _, fun k hk e => k3 k hk (.inl e), fun e => k4 (.inl e)⟩, hj.nds, hj.b3⟩).mono ?_
    rintro e W4 ⟨rfl, h4⟩
    obtain ⟨F2, l1, l2, l3, l4⟩ := h4.st
    have hw2 : WentH F1 g (laidM m N A (pre A 0)) W3 W4 := ⟨F2, l1, l2⟩
    obtain ⟨F3, Ft3, q1, q2⟩ := k1.heap hw2
    have hc : Chp (fun k => bthF F Ft k ∨ footN S V A.length k) (fun k => bthF F1 Ft1 k ∨ footN S V A.length k) w W3 := (Chp.of_below hb).trans k2
    have hc2 : Chp (fun k => bthF F1 Ft1 k ∨ footN S V A.length k) (fun k => bthF F3 Ft3 k ∨ footN S V A.length k) W3 W4 := ⟨q2.os, q2.tape, q2.output, q2.size, fun k hk hf => q2.block k hk fun e => hf (.inl e), fun k hk => hk.elim (fun e => (q2.fresh k e).imp .inl id) fun e => .inl (.inr e)⟩
    have hz1 := k2.size
    have hz2 := q2.size
    exact ⟨rfl, h4.nds, by omega, F3, Ft3, q1, hc.trans hc2⟩
  obtain ⟨hl, hs⟩ := bldB_same (m := m) (N := N) (A := A)
  have hmf : ∀ (fn : Fn) (first cap : Array Value) (w : World), (Instr.makeFunc fn first cap).run Tryz.prog w = .ok (.func fn first cap) w := fun _ _ _ _ => rfl
  obtain ⟨q, cp, eV⟩ := hn.form H.pos
  have hlen := hn.len 0 H.pos
  have HORD := Lib.hid H.inv.ord
  have HPOS := Lib.hid H.pos
  have HS := Lib.hid hs
  have HL := Lib.hid hl
  have HST : Hid (∀ j, j < A.length → ∃ s, stands (bldB m N A) j = some s) := Lib.hid fun j hj => by
    rw [stands_bld]
    exact stands_done H.inv.ord hdone A.length j hj (by omega)
  have HEV := Lib.hid eV
  obtain ⟨i0, hi0, hz0, hz1, hz2⟩ := info_parts Tryz.infoV
  have HI0 := Lib.hid hi0
  have HZ0 := Lib.hid hz0
  have HZ1 := Lib.hid hz1
  have HZ2 := Lib.hid hz2
  have HAA := Lib.hid hA
  unfold BuildR
  rw [show flatV (bldV m N A) = flatV (((ndAt A 0).is.take (ndAt A 0).is.length).map (stV (bldB m N A))) by rw [List.take_length]; rfl]
  obtain ⟨l, hll⟩ : ∃ l, (ndAt A 0).is = l := ⟨_, rfl⟩
  have HLL := Lib.hid hll
  rw [hll] at hlen HEV ⊢
  have hlI : (l.length : Int) ≤ 20000 := by omega
  clear h hn hap hb b3 b4 hJ0 hnl hbl hi0 hz0 hz1 hz2 H hdone hl hs eV hll
  go_enter Tryz.func18, Tryz.ntmps18
  go_upto_region 4 with (first
    | (go_at_call 29; with_reducible refine (HE2.out W3 hj3).mono ?_; rintro e W4 ⟨rfl, hn4, hz4, hx4⟩; have HN4 := Lib.hid hn4; have HX4 := Lib.hid hx4; have HZ4 := Lib.hid hz4; clear hn4 hx4 hz4)
    | (go_at_call 29; with_reducible refine HE1.out.mono ?_; rintro e W3 ⟨rfl, hj3⟩))
  clear HE1 HE2 hj3 hW2 hz hmf
  obtain ⟨-, ⟨c4, -⟩, -⟩ := HN4.out.cells (by rw [HL.out]; exact HPOS.out)
  rw [HEV.out] at c4
  go_wp2_with fail
  clear c4
  go_loopw [7, 21] (fun v iv wr => ∃ k : Nat, k ≤ l.length ∧ iv = .int .i64 (k : Int) ∧ Hid (wr.ownsRow W4.heap.size 36 2 v k (flatV ((l.take k).map (stV (bldB m N A))))) ∧ Hid (Below W4.heap.size W4 wr)) (fun _ iv _ => l.length - (RowKit.intOf iv).toNat)
  case atStart => exact ⟨0, by omega, by go_num, Lib.hid (World.ownsRow_nil _ _ _ _), Lib.hid (Below.refl _ _)⟩
  case round =>
    obtain ⟨k, hk, rfl, HO, HB⟩ := hrel
    by_cases hlt : k < l.length
    · have d1 : decide ((k : Int) < (l.length : Int)) = true := decide_eq_true (by omega)
      have d2 : decide (k < l.length) = true := decide_eq_true hlt
      have hkI : (k : Int) < (l.length : Int) := by omega
      obtain ⟨j, hj⟩ : ∃ j, l[k]? = some j := ⟨l[k], List.getElem?_eq_getElem hlt⟩
      have hjA : j < A.length := (mem_lt HORD.out (i := 0) (by rw [HLL.out]; exact List.mem_of_getElem? hj)).2
      have hN := HN4.out.below HB.out
      obtain ⟨s, hs⟩ := HST.out j hjA
      have hjB : j < (bldB m N A).length := by rw [HL.out]; exact hjA
      have hsB := stands_lt hN.ord (bldB m N A).length j hjB (by omega) s hs
      have HSS := Lib.hid (hN.stands (by rw [HL.out]; have := HAA.out; omega) (bldB m N A).length j hjB (by omega))
      rw [hs] at HSS
      obtain ⟨b, c2, e2, x0⟩ := hN.at' (i := 0) (by rw [HL.out]; exact HPOS.out) (j := k) (n := j) (by rw [(HS.out 0).1, HLL.out]; exact hj)
      rw [(HS.out 0).1, HLL.out, HEV.out] at e2
      cases e2
      obtain ⟨-, -, y7, y8, -⟩ := hN.cells hsB
      have hstv : stV (bldB m N A) j = (ndAt (bldB m N A) s).v := by unfold stV; rw [hs]
      have HTK : Hid ((l.take (k + 1)).map (stV (bldB m N A)) = (l.take k).map (stV (bldB m N A)) ++ [(ndAt (bldB m N A) s).v]) := Lib.hid (by rw [List.take_add_one, hj, ← hstv]; simp)
      unfold ptrN at x0
      have HSS2 : Hid (Calls Tryz.prog 34 #[.pointer (some ⟨S j, 0, none⟩)] wr fun e w' => e = .returned (.pointer (some ⟨S s, 0, none⟩)) ∧ wr = w') := HSS
      generalize (ndAt (bldB m N A) s).v = vv at *
      obtain ⟨v1, v2⟩ := vv
      simp only at y7 y8
      have hb2 := alloc_below wr (.cells #[.int .i64 v1, .int .i64 v2] 36)
      have HO2 := Lib.hid (own_below HO.out hb2)
      have HB2 := Lib.hid (HB.out.trans (hb2.mono HB.out.size))
      have HC2 : Hid (∀ j u, [Value.int .i64 v1, Value.int .i64 v2][j]? = some u → (wr.alloc (.cells #[.int .i64 v1, .int .i64 v2] 36)).cell? ((⟨wr.heap.size, 0, none⟩ : Addr).add j) = some u) := Lib.hid (World.news_of_block (heap_alloc_new _ _))
      have H1S : Hid (∀ u ∈ [Value.int .i64 v1, Value.int .i64 v2], u.oneCell' = true) := Lib.hid (by simp [Value.oneCell'])
      have HKL : Hid (k + 1 ≤ 30000) := Lib.hid (by omega)
      have HU : Hid (flatV ((l.take (k + 1)).map (stV (bldB m N A))) = flatV ((l.take k).map (stV (bldB m N A))) ++ [Value.int .i64 v1, Value.int .i64 v2]) := Lib.hid (by rw [HTK.out, flatV_append]; rfl)
      clear hb2 HO hN hj hjA hjB hs hsB HSS hstv HTK
      go_wp2_with (first
        | (go_at_call 34; with_reducible refine HSS2.out.mono ?_; rintro e w9 ⟨rfl, rfl⟩)
        | (at_builtin; refine wpList_append_own _ rfl (.tmp 25) (.tmp 31) 30 rfl W4.heap.size 36 i0 (.agg #[.int .i64 0, .int .i64 0]) 2 16 Tryz.underlying30 HI0.out HZ0.out HZ1.out HZ2.out rfl (by decide) _ k (flatV ((l.take k).map (stV (bldB m N A)))) (by rfl) HO2.out ⟨wr.heap.size, 0, none⟩ 1 1 [.int .i64 v1, .int .i64 v2] (by rfl) rfl HC2.out H1S.out (by have := HKL.out; unfold maxLen; omega) (by have := HKL.out; omega) HB2.out.size ?_; intro v' w2 hown hgrow _))
      have HR2 : Hid (w2.ownsRow W4.heap.size 36 2 v' (k + 1) (flatV ((l.take (k + 1)).map (stV (bldB m N A))))) := Lib.hid (by rw [HU.out]; exact hown)
      have HB3 := Lib.hid (HB2.out.grown hgrow HB2.out.size (fun j e => (HO2.out.lt j e).1))
      clear hown hgrow
      go_roundw
      case rel => exact ⟨k + 1, by omega, by go_num, HR2, HB3⟩
      case measure => simp [RowKit.intOf]; omega
    · obtain rfl : k = l.length := by omega
      have d1 : decide ((l.length : Int) < (l.length : Int)) = false := decide_eq_false (by omega)
      have d2 : decide (l.length < l.length) = false := decide_eq_false (by omega)
      go_wp2_with fail
      go_ret
      obtain ⟨F', Ft', k1, k2⟩ := HX4.out
      refine ⟨_, rfl, own_low HO.out HZ4.out, F', Ft', k1.below HB.out, k2.trans (Chp.of_below HB.out), fun k hk e => ?_⟩
      have h1 := (HO.out.lt k hk).1
      have h2 := k1.lt k e
      omega
end
end Go.Proofs.YthjjgpepgbfalaaGreatDoor
end
