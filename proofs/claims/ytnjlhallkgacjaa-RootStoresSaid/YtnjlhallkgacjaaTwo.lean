/- What slices.Concat of two pieces of bytes returns. -/
import Derived.Test.YtnjlhallkgacjaaCat
namespace Go.Proofs.Ytnjlhallkgacjaa
open Go.RowKit

/-- A slice of the call's own that holds these bytes. -/
def Made (base : Nat) (w' : World) (v : Value) (bs : List Nat) : Prop := ∃ p c, v = .slice p bs.length c ∧ w'.ownsRow base 5 1 (.slice p bs.length c) bs.length (u8s bs)
theorem own_base {w : World} {base base2 n : Nat} {v : Value} {xs : List Value} (hb : base2 ≤ base) (h : w.ownsRow base 5 1 v n xs) : w.ownsRow base2 5 1 v n xs := by
  obtain ⟨h1, h2⟩ := h
  refine ⟨h1, ?_⟩
  rcases h2 with h2 | ⟨g, cap, cur, e, hbg, hr⟩
  · exact .inl h2
  · exact .inr ⟨g, cap, cur, e, Nat.le_trans hb hbg, hr⟩
def pick2 {α : Type} (x y : α) : Nat → α
  | 0 => x
  | _ => y
structure Fit (p : Option Addr) (n c : Nat) : Prop where
  cap : n ≤ c
  nil_ : p = none → c = 0
theorem two_pcs (w : World) (p q : Option Addr) (n c m d : Nat) (xs ys : List Nat) (h1 : Bys w p n xs) (h2 : Bys w q m ys) (f1 : Fit p n c) (f2 : Fit q m d) :
    Pcs (w.alloc (.cells #[.slice p n c, .slice q m d] 45)) w.heap.size 0 2 (pick2 p q) (pick2 n m) (pick2 c d) (pick2 xs ys) := by
  have hb : Below w.heap.size w (w.alloc (.cells #[.slice p n c, .slice q m d] 45)) := (Below.refl _ _).alloc (Nat.le_refl _) _
  intro r hr
  rcases (show r = 0 ∨ r = 1 by omega) with rfl | rfl
  · exact ⟨World.cell?_alloc_new w _ _ 0, h1.below hb, f1.nil_, f1.cap⟩
  · exact ⟨World.cell?_alloc_new w _ _ 1, h2.below hb, f2.nil_, f2.cap⟩
theorem cat_two (xs ys : List Nat) : cat (pick2 xs ys) 2 = xs ++ ys := by show ([] ++ xs) ++ ys = _; rw [List.nil_append]
/-- Two pieces that lie in a world in which what lay lies as it lay. -/
theorem two_made (w w1 : World) (p q : Option Addr) (n c m d : Nat) (xs ys : List Nat) (hb : Below w.heap.size w w1) (h1 : Bys w p n xs) (h2 : Bys w q m ys) (f1 : Fit p n c) (f2 : Fit q m d) (hs : n + m ≤ 1099511627776) :
    Calls Try.prog 46 #[.slice (some ⟨w1.heap.size, 0, none⟩) 2 2] (w1.alloc (.cells #[.slice p n c, .slice q m d] 45)) fun e w' => (∃ v, e = .returned v ∧ Made w.heap.size w' v (xs ++ ys)) ∧ Below w.heap.size w w' := by
  have hP := two_pcs w1 p q n c m d xs ys (h1.below hb) (h2.below hb) f1 f2
  refine (concat_any w1.heap.size 0 2 2 _ _ _ _ _ (by omega) hP (by simp) (by rw [cat_two, List.length_append, h1.len, h2.len]; exact hs)).mono ?_
  rw [cat_two]
  rintro e w' ⟨p', c', rfl, ho, hb2⟩
  refine ⟨⟨_, rfl, p', c', rfl, ?_⟩, ?_⟩
  · exact own_base (by have := hb.size; simp; omega) ho
  · exact (hb.alloc hb.size _).trans (hb2.mono (by have := hb.size; simp; omega))
end Go.Proofs.Ytnjlhallkgacjaa
