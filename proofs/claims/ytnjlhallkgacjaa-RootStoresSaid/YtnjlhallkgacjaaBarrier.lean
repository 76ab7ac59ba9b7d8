/- A barrier; a failure; a start. -/
import Derived.Test.YtnjlhallkgacjaaForget
namespace Go.Proofs.Ytnjlhallkgacjaa
open Go.RowKit

/-- A disk of which the first k writes were brought out, as far as f says. -/
def mkf (m : Dsk) (f : Nat → Option Nat) (k : Nat) : Dsk := { m with out := failN m.row m.out f k }
section
variable {w : World} {g bO cO bL cL : Nat} {vW : Value} {os ls : List Value} {ws : List Vw} {m : Dsk}
theorem bring_step {f : Nat → Option Nat} {k a : Nat} (h : Dk0 w g bO cO bL cL vW os ls ws (mkf m f k)) (hk : k < m.row.length) (hf : f k = some a) (ha : a ≤ 128) (hl : m.row.length ≤ 4611686018427387904) (A : Int) (HA : Hid ((a : Int) = A)) :
    Calls Try.prog 38 #[.pointer (some ⟨g, 0, none⟩), .int .i64 (k : Int), .int .i64 A] w fun e w' => e = .returned (.tuple #[]) ∧ ∃ os', Stays g bO cO bL cL vW os' ls ws (mkf m f (k + 1)) w w' := by
  rw [← HA.out]
  refine (bringOut_any h k a hk ha hl).mono ?_
  rintro e w' ⟨rfl, v, hs⟩
  have e : mkf m f (k + 1) = brung (mkf m f k) k (some a) := by
    show ({ m with out := bring (failN m.row m.out f k) (wr m.row k) (f k) } : Dsk) = _
    rw [hf]; rfl
  rw [← e] at hs
  exact ⟨rfl, _, hs⟩
theorem bring_skip {f : Nat → Option Nat} {k : Nat} (hf : f k = none) : mkf m f (k + 1) = mkf m f k := by
  show ({ m with out := bring (failN m.row m.out f k) (wr m.row k) (f k) } : Dsk) = _
  rw [hf]; rfl
theorem Stays.trans {w w1 w2 : World} {os1 os2 : List Value} {m1 m2 : Dsk} (h : Stays g bO cO bL cL vW os1 ls ws m1 w w1) (k : Stays g bO cO bL cL vW os2 ls ws m2 w1 w2) : Stays g bO cO bL cL vW os2 ls ws m2 w w2 := ⟨k.1, h.2.trans k.2⟩
theorem Dk0.wslice (h : Dk0 w g bO cO bL cL vW os ls ws m) (n : Nat) (hn : Hid (m.row.length = n)) : ∃ (q : Option Addr) (c : Nat), vW = .slice q n c := by
  rw [← hn.out]
  rcases h.rw_.2 with ⟨e, h0⟩ | ⟨g', cap, cur, e, _⟩
  · exact ⟨none, 0, by rw [e, h0]⟩
  · exact ⟨_, _, e⟩
def all128 (_ : Nat) : Option Nat := some 128

end
end Go.Proofs.Ytnjlhallkgacjaa
