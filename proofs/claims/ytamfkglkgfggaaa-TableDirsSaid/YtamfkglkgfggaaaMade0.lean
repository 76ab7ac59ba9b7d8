/- A table behind some steps, and the row. -/
import Derived.Test.YtamfkglkgfggaaaStepG
set_option linter.unusedSimpArgs false
namespace Go.Proofs.Ytamfkglkgfggaaa
open Go.RowKit

/-- One step's numbers. -/
structure Op3 where
  k : Int
  l : Int
  q : Int
/-- So many ops lie there. -/
def OpsAt (w : World) (b o n : Nat) (f : Nat → Op3) : Prop := ∀ r, r < n → w.rangeAt b (o + r * 3) [.int .i64 (f r).k, .int .i64 (f r).l, .int .i64 (f r).q] ∧ (f r).l ≤ 9223372036854775807
def OpsIn (w : World) (p : Option Addr) (n : Nat) (f : Nat → Op3) : Prop := 0 < n → ∃ b o, p = some ⟨b, o, none⟩ ∧ b < w.heap.size ∧ OpsAt w b o n f
theorem range_block {w w' : World} {b o : Nat} {cs : List Value} (h : w.rangeAt b o cs) (hb : w'.heap[b]? = w.heap[b]?) : w'.rangeAt b o cs := fun j v hv => (World.cell?_of_block hb).trans (h j v hv)
theorem OpsIn.below {w w' : World} {p : Option Addr} {n : Nat} {f : Nat → Op3} (h : OpsIn w p n f) (hb : Below w.heap.size w w') : OpsIn w' p n f := fun hn => by
  obtain ⟨b, o, e, hlt, hat⟩ := h hn
  exact ⟨b, o, e, Nat.lt_of_lt_of_le hlt hb.size, fun r hr => ⟨range_block (hat r hr).1 (hb.block b hlt), (hat r hr).2⟩⟩
/-- What so many steps make of a table that told nothing. -/
def fsF (f : Nat → Op3) : Nat → Nat → Nat
  | 0 => fun _ => 0
  | i + 1 => stepF (fsF f i) (f i).k (f i).l (f i).q
theorem step_any {w : World} {g : Nat} {f : Nat → Nat} (h : Tab w g f) (K L P : Int) (hL : L ≤ 9223372036854775807) :
    Calls Try.prog 29 #[.pointer (some ⟨g, 0, none⟩), .agg (rowA f 512), .agg #[.int .i64 K, .int .i64 L, .int .i64 P]] w fun e w' =>
      e = .returned (.tuple #[.agg (rowA (stepF f K L P) 512), .bool true]) ∧ Tab w' g (stepF f K L P) ∧ Only g w w' := by
  unfold stepF
  by_cases h0 : K = 0
  · subst h0
    rw [if_pos rfl]
    by_cases hx : (0 ≤ L ∧ L < 512) ∧ pgI P = true
    · rw [if_pos hx]
      obtain ⟨l, rfl⟩ := Int.eq_ofNat_of_zero_le hx.1.1
      have hp : 0 ≤ P := by
        have := hx.2
        simp only [pgI, Bool.and_eq_true, decide_eq_true_eq] at this
        omega
      obtain ⟨v, rfl⟩ := Int.eq_ofNat_of_zero_le hp
      rw [Int.toNat_natCast, Int.toNat_natCast]
      exact step_set h l v (by omega) hx.2
    · rw [if_neg hx]
      exact step_not h L P hx
  · rw [if_neg h0]
    by_cases h1 : K = 1
    · subst h1
      rw [if_pos rfl]
      unfold dropT
      by_cases hx : 0 ≤ L ∧ L < 512
      · rw [if_pos hx]
        obtain ⟨l, rfl⟩ := Int.eq_ofNat_of_zero_le hx.1
        rw [Int.toNat_natCast]
        exact step_drop_in h l P (by omega)
      · rw [if_neg hx]
        exact step_drop_out h L P hx
    · rw [if_neg h1]
      by_cases hx : 0 ≤ L ∧ L < 512
      · exact step_ask_in h K L P h0 h1 hL hx
      · exact step_ask_out h K L P h0 h1 hL hx
theorem step_fs {w : World} {g : Nat} (f : Nat → Op3) (i : Nat) (h : Tab w g (fsF f i)) (hL : (f i).l ≤ 9223372036854775807) :
    Calls Try.prog 29 #[.pointer (some ⟨g, 0, none⟩), .agg (rowA (fsF f i) 512), .agg #[.int .i64 (f i).k, .int .i64 (f i).l, .int .i64 (f i).q]] w fun e w' =>
      e = .returned (.tuple #[.agg (rowA (fsF f (i + 1)) 512), .bool true]) ∧ Tab w' g (fsF f (i + 1)) ∧ Only g w w' := step_any h _ _ _ hL
theorem results_made {P : Program} {fn : Func} {p u v : Tmp} {ty : TypeId} (h : fn.results = #[.tmp v, .cell p ty, .tmp u]) (tmps : Array Value) (w : World) (g : Nat) (t : TypeId) (cs : Array Value) (fr : Nat × Nat) (d : TypeDesc)
    (hp : tmps.getD p undef = .pointer (some ⟨g, 0, none⟩)) (hg : w.heap[g]? = some (.cells cs t fr))
    (hu : P.underlying ty = some d) (hd : (match d with | .struct _ | .array _ _ => true | _ => false) = true) (hi : (P.info? ty).map (·.size) = some cs.size) :
    (results fn tmps).run P w = .ok (.tuple #[tmps.getD v undef, .agg cs, tmps.getD u undef]) w := by
  have hp' : tmps[p]?.getD undef = .pointer (some ⟨g, 0, none⟩) := by simpa using hp
  simp [results, h, hp', Sem.run_bind, asAddr, run_loadVar_row w g t ty cs fr d hg hu hd hi]
/-- Amid the steps. -/
structure Md (w wr : World) (f : Nat → Op3) (i : Nat) : Prop where
  tab : Tab wr (w.heap.size + 1) (fsF f i)
  row : IsT wr (w.heap.size + 2) 25 (fsF f i) 512
  out : IsT wr w.heap.size 25 (fun _ => 0) 512
  bel : Below w.heap.size w wr
theorem setRow_same_row {w : World} {g t : Nat} {f : Nat → Nat} {n : Nat} (h : IsT w g t f n) : w.setRow g (rowA f n) = w := setRow_self w g _ t (0, 0) h
end Go.Proofs.Ytamfkglkgfggaaa
