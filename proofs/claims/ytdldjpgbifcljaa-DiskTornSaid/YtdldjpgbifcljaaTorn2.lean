/- DiskTorn's three disks. -/
import Derived.Test.YtdldjpgbifcljaaTorn1
namespace Go.Proofs.Ytdldjpgbifcljaa
open Go.RowKit

/-- Three disks that lie apart. -/
def T3 (W wr : World) (g1 : Nat) (m1 : Dsk) (g2 : Nat) (m2 : Dsk) (g3 : Nat) (m3 : Dsk) : Prop :=
  ∃ F1 F2 F3, Dk wr g1 F1 m1 ∧ Dk wr g2 F2 m2 ∧ Dk wr g3 F3 m3 ∧ (∀ k ∈ F1, k ∉ F2) ∧ (∀ k ∈ F2, k ∉ F3) ∧ (∀ k ∈ F3, k ∉ F1) ∧ (∀ k ∈ F1, W.heap.size ≤ k) ∧ (∀ k ∈ F2, W.heap.size ≤ k) ∧ (∀ k ∈ F3, W.heap.size ≤ k) ∧ Below W.heap.size W wr
section
variable {W wr w' : World} {g1 g2 g3 : Nat} {m1 m2 m3 : Dsk}
theorem T3.rot (h : T3 W wr g1 m1 g2 m2 g3 m3) : T3 W wr g2 m2 g3 m3 g1 m1 := by
  obtain ⟨F1, F2, F3, d1, d2, d3, a, b, c, h1, h2, h3, hb⟩ := h
  exact ⟨F2, F3, F1, d2, d3, d1, b, c, a, h2, h3, h1, hb⟩
theorem T3.le (h : T3 W wr g1 m1 g2 m2 g3 m3) (hb : Below wr.heap.size wr w') : T3 W w' g1 m1 g2 m2 g3 m3 := by
  obtain ⟨F1, F2, F3, d1, d2, d3, a, b, c, h1, h2, h3, hbl⟩ := h
  exact ⟨F1, F2, F3, d1.below hb, d2.below hb, d3.below hb, a, b, c, h1, h2, h3, hbl.trans (hb.mono hbl.size)⟩
theorem T3.below (h : T3 W wr g1 m1 g2 m2 g3 m3) : Below W.heap.size W wr := by
  obtain ⟨F1, F2, F3, d1, d2, d3, a, b, c, h1, h2, h3, hbl⟩ := h
  exact hbl
/-- The first of them fails. -/
theorem T3.fail (h : T3 W wr g1 m1 g2 m2 g3 m3) (hl : m1.row.length ≤ 4611686018427387904) (p : Option Addr) (nk ck : Nat) (f : Nat → Bool) (hK : Kp wr p nk f) (hO : ∀ F, Typed wr F → (∀ k ∈ F, W.heap.size ≤ k) → 0 < nk → Off F p) (hnk : nk ≤ 9223372036854775807) (torn at_ : Int) :
    Calls Try.prog 21 #[.pointer (some ⟨g1, 0, none⟩), .slice p nk ck, .int .i64 torn, .int .i64 at_] wr fun e w' => e = .returned (.tuple #[]) ∧ T3 W w' g1 (failM m1 (keepB nk f) torn at_) g2 m2 g3 m3 ∧ ∀ rb kb n c row o kf, TB W wr rb kb n c row o kf → TB W w' rb kb n c row o kf := by
  obtain ⟨F1, F2, F3, d1, d2, d3, a, b, c, h1, h2, h3, hbl⟩ := h
  refine (d1.fail hl p nk ck f hK (hO F1 d1.typed h1) hnk torn at_).mono ?_
  rintro e w' ⟨rfl, F1', hD, hC⟩
  have fr : ∀ (G : List Nat), (∀ k ∈ G, k < wr.heap.size) → (∀ k ∈ G, k ∉ F1) → ∀ k ∈ F1', k ∉ G := fun G hG hn k hk hkG => by
    rcases hC.fresh k hk with h | h
    · exact hn k hkG h
    · have := hG k hkG; omega
  refine ⟨rfl, ⟨F1', F2, F3, hD, d2.stay hC d1.typed (fun k hk hk1 => a k hk1 hk), d3.stay hC d1.typed c, fr F2 d2.lt (fun k hk hk1 => a k hk1 hk), b, fun k hk hk1 => fr F3 d3.lt c k hk1 hk, hC.high hbl.size h1, h2, h3, hC.below hbl hbl.size h1⟩, fun rb kb n c row o kf hT => hT.chg hC d1.typed⟩
theorem T3.out_ (h : T3 W wr g1 m1 g2 m2 g3 m3) (i : Int) : Calls Try.prog 25 #[.pointer (some ⟨g1, 0, none⟩), .int .i64 i] wr fun e w' => e = .returned (.string (strB (outS m1 i))) ∧ wr = w' := by
  obtain ⟨F1, F2, F3, d1, d2, d3, a, b, c, h1, h2, h3, hbl⟩ := h
  exact d1.out_ i
theorem T3.dk (h : T3 W wr g1 m1 g2 m2 g3 m3) : ∃ F, Dk wr g1 F m1 := by
  obtain ⟨F1, F2, F3, d1, d2, d3, a, b, c, h1, h2, h3, hbl⟩ := h
  exact ⟨F1, d1⟩
/-- A list that is stored into. -/
theorem T3.setT (h : T3 W wr g1 m1 g2 m2 g3 m3) {kb : Nat} {cur : Array Value} (hc : wr.heap[kb]? = some (.cells cur 4 (0, 0))) (hk : W.heap.size ≤ kb) (k : Nat) (u : Value) : T3 W (wr.setCell ⟨kb, k, none⟩ u) g1 m1 g2 m2 g3 m3 := by
  obtain ⟨F1, F2, F3, d1, d2, d3, a, b, c, h1, h2, h3, hbl⟩ := h
  have hall : ∀ j, j ≠ kb → (wr.setCell ⟨kb, k, none⟩ u).heap[j]? = wr.heap[j]? := fun j hj => heap_setCell_other _ _ _ _ hj
  exact ⟨F1, F2, F3, d1.apartB ⟨hc⟩ (by decide) hall, d2.apartB ⟨hc⟩ (by decide) hall, d3.apartB ⟨hc⟩ (by decide) hall, a, b, c, h1, h2, h3, hbl.setCell hk u⟩
end
/-- The clones. -/
theorem T3.start {W w w' w2 : World} {g g2 g3 : Nat} {F F2 F3 : List Nat} {m : Dsk} (hB : Below W.heap.size W w) (hF : ∀ k ∈ F, W.heap.size ≤ k) (hD : Dk w g F m) (hD2 : Dk w' g2 F2 m) (hF2 : ∀ k ∈ F2, w.heap.size ≤ k) (hb : Below w.heap.size w w') (hD3 : Dk w2 g3 F3 m) (hF3 : ∀ k ∈ F3, w'.heap.size ≤ k) (hb2 : Below w'.heap.size w' w2) : T3 W w2 g m g2 m g3 m := by
  have l1 := hD.lt
  have l2 := hD2.lt
  have s1 := hB.size
  have s2 := hb.size
  exact ⟨F, F2, F3, (hD.below hb).below hb2, hD2.below hb2, hD3, fun k h1 h2 => by have := l1 k h1; have := hF2 k h2; omega, fun k h1 h2 => by have := l2 k h1; have := hF3 k h2; omega, fun k h1 h2 => by have := hF3 k h1; have := l1 k h2; omega, hF, fun k h => by have := hF2 k h; omega, fun k h => by have := hF3 k h; omega, (hB.trans (hb.mono hB.size)).trans (hb2.mono (Nat.le_trans hB.size hb.size))⟩
theorem off_typed {wr : World} {kb t : Nat} {cur : Array Value} (hc : wr.heap[kb]? = some (.cells cur t (0, 0))) (ht : t ≠ 63 ∧ t ≠ 59 ∧ t ≠ 77) (F : List Nat) (hT : Typed wr F) : Off F (some ⟨kb, 0, none⟩) := fun b o e hm => by
  cases e
  obtain ⟨cs2, t2, fr2, h2, h3⟩ := hT kb hm
  rw [hc] at h2
  cases h2
  rcases h3 with h | h | h
  · exact ht.1 h
  · exact ht.2.1 h
  · exact ht.2.2 h
theorem out128 {m : Dsk} (h : Ok m) (j : Nat) (hj : j < m.out.length) : (outS m (j : Int)).length = 128 := by
  unfold outS
  rw [has_true (by omega) (by omega), if_pos rfl]
  exact (h.out _ (sec_mem hj)).1
theorem fail_out_len (m : Dsk) (K : Nat → Bool) (u v : Int) : (failM m K u v).out.length = m.out.length := failN_len _ _ _ _
theorem cut_form (num : Int) : (if (0 : Int) < if (128 : Int) < num then 128 else num then if (128 : Int) < num then 128 else num else 0) = ((cut128 num : Nat) : Int) := by
  unfold cut128
  split <;> split <;> omega
/-- What comes out of the three, in the law's words. -/
theorem torn_end {m : Dsk} (hm : Ok m) (n t : Nat) (hn : m.row.length = n) (ht : t < n) (h4 : m.out.length = 4) (nk : Nat) (keep : Nat → Bool) (num : Int) (kw ka : Nat → Bool) (hw : ∀ k, k < n → kw k = keepW (keepB nk keep) t k) (ha : ∀ k, k < n → ka k = if k = t then true else keepW (keepB nk keep) t k) (j : Nat) (hj : j < 4) :
    outS (failM m (keepB nk keep) (t : Int) num) (j : Int) = if j = (wr m.row t).1 ∧ latB m.row (keepB nk keep) t n = false then (outS (failM m (keepB n ka) (-1) 0) (j : Int)).take (cut128 num) ++ (outS (failM m (keepB n kw) (-1) 0) (j : Int)).drop (cut128 num) else outS (failM m (keepB n kw) (-1) 0) (j : Int) := by
  have ho : ∀ K u v, outS (failM m K u v) (j : Int) = sec (failN m.row m.out (bits K u (cut128 v)) m.row.length) j := fun K u v => by
    unfold outS
    rw [has_true (by omega) (by show (j : Int) < ((failN _ _ _ _).length : Int); rw [failN_len, h4]; omega), if_pos rfl]
    show sec (failN _ _ _ _) (Int.toNat j) = _
    rw [Int.toNat_natCast]
  subst hn
  rw [ho, ho, ho]
  refine torn_model hm (keepB nk keep) t (cut128 num) (cut128_le _) _ _ _ ht ?_ ?_ ?_ _ ht (Nat.le_refl _) j (by omega)
  · intro k hk
    unfold bits opt
    by_cases e : k = t
    · rw [if_pos (by omega), if_pos e]
    · rw [if_neg (by omega), if_neg e]
  · intro k hk
    unfold bits opt
    rw [if_neg (by omega), ← hw k hk]
    unfold keepB; simp [hk]
  · intro k hk
    unfold bits opt
    rw [if_neg (by omega)]
    have e1 := ha k hk
    unfold keepB
    rw [decide_eq_true hk, Bool.true_and, e1]
    by_cases e : k = t
    · simp [e]
    · rw [if_neg e, if_neg e]; unfold keepW keepB; simp [e]
end Go.Proofs.Ytdldjpgbifcljaa
