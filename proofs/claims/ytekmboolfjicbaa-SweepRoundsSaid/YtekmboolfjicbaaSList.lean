/- What some values reach, as a list. -/
import Derived.Test.YtekmboolfjicbaaGGra
set_option maxRecDepth 20000
set_option linter.unusedSimpArgs false
namespace Go.Proofs.Ytekmboolfjicbaa
open Go.RowKit

/-- The list of what is reached, in memory of its own. -/
def ListR (w w' : World) (gh : Nat) (F : Nat → Prop) (m : Hm) (roots : List (Int × Int)) (e : Ending) : Prop := ∃ q T c, e = .returned (.slice q T.length c) ∧ w'.ownsRow w.heap.size 36 2 (.slice q T.length c) T.length (flatV T) ∧ T.Nodup ∧ (∀ v, v ∈ T ↔ Rch m.L roots v) ∧ FitV T ∧ Hep w' gh F m ∧ Below w.heap.size w w'
theorem flatV_map (T : List (Int × Int)) : flatV T = T.flatMap (fun x : Int × Int => [Value.int .i64 x.1, Value.int .i64 x.2]) := by
  induction T with
  | nil => rfl
  | cons x T ih => simp only [flatV, List.flatMap_cons, ih]; rfl
theorem base_up {w : World} {base B E m n : Nat} {v : Value} {xs : List Value} (h : w.ownsRow base E m v n xs) (hB : ∀ b, v.ownBlock = some b → B ≤ b) : w.ownsRow B E m v n xs := by
  refine ⟨h.1, ?_⟩
  rcases h.2 with h2 | ⟨g, cap, cur, e, hb, hg, hr⟩
  · exact .inl h2
  · exact .inr ⟨g, cap, cur, e, hB g (by rw [e]; rfl), hg, hr⟩
theorem list_any {w : World} {gh : Nat} {F : Nat → Prop} {m : Hm} (h : Hep w gh F m) (hh : Here m.L) (hsm : Sm m.L) (hft : Ft m.L) (q : Option Addr) (n c : Nat) (roots : List (Int × Int)) (hr : Vls w q n roots) (hrf : FitV roots) (hn : n ≤ 60000) :
    Calls Try.prog 8 #[.pointer (some ⟨gh, 0, none⟩), .slice q n c] w (fun e w' => ListR w w' gh F m roots e) := by
  have HG := Lib.hid (graphOf_any h hh hsm hft q n c roots hr hrf hn)
  clear h hr
  go_enter Try.func8, Try.ntmps8
  go_wp2_with (go_at_call 26; with_reducible refine HG.out.mono ?_; rintro e w1 hG; unfold GraphOf at hG; obtain ⟨g, vt, mv, vf, T, fs, rfl, hg, hlo, hT, hh1, hb1⟩ := hG; have c0 := hg.r.c0; obtain ⟨q1, d1, e1⟩ := hg.r.form; subst e1)
  go_ret
  exact ⟨q1, T, d1, rfl, by rw [flatV_map]; exact base_up hg.r.row fun b e => hlo b (.inl (.inr (.inl e))), hg.r.nd, hT, fun x hx => hg.r.dm x hx, hh1, hb1⟩
end Go.Proofs.Ytekmboolfjicbaa
