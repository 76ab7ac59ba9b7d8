/- What the rows of both laws share: a heap in which the listed tables lie. -/
import Derived.Test.YtjpbbooeihdnfaaDoorLaw
import Derived.Lay
import Derived.LaidOnce
import Derived.LaidHandle
import Derived.LaidMore
set_option maxRecDepth 20000
namespace Go.Proofs.YtjpbbooeihdnfaaDoor
open Go.ChangeShapes Go.WideShapes Go.ChangeAt Go.RowKit

def laidP : List (String × DataW Unit) := [("unicode/utf8.acceptRanges", Rows.laid_unicode_utf8_acceptRanges), ("hibernacle/lex.marks", Rows.laid_hibernacle_lex_marks), ("hibernacle/lex.names", Rows.laid_hibernacle_lex_names), ("unicode/utf8.first", Rows.laid_unicode_utf8_first)]
def laidB : List (String × DataW Unit) := [("math/bits.deBruijn32tab", Rows.laid_math_bits_deBruijn32tab), ("math/bits.deBruijn64tab", Rows.laid_math_bits_deBruijn64tab), ("internal/strconv.uint64pow10", Rows.laid_internal_strconv_uint64pow10), ("unicode/utf8.acceptRanges", Rows.laid_unicode_utf8_acceptRanges), ("hibernacle/lex.marks", Rows.laid_hibernacle_lex_marks), ("hibernacle/lex.names", Rows.laid_hibernacle_lex_names), ("unicode/utf8.first", Rows.laid_unicode_utf8_first)]
theorem laid_mem {P : Program} {w : World} {n : String} {d : DataW Unit} : ∀ {l : List (String × DataW Unit)} {ps : List MemPlace}, DataW.LaidVars P w l ps → (n, d) ∈ l →
    ∃ g t cs fuel p, P.globalNamed n = some g ∧ (P.globals[g]?).map (·.type) = some t ∧ w.var? P n = some cs ∧ DataW.trod (fun _ => ()) P w 0 (fun _ => true) false fuel t cs.toList = some (d, p)
  | [], _, _, h => by simp at h
  | (n', d') :: l, ps, ⟨g, t, cs, fuel, p, q, h1, h2, h3, h4, h5, _⟩, h => by
    rcases List.mem_cons.1 h with h | h
    · injection h with ha hb
      subst ha; subst hb
      exact ⟨g, t, cs, fuel, p, h1, h2, h3, h4⟩
    · exact laid_mem h5 h
theorem of_var {P : Program} {w : World} {n : String} {g : Nat} {cs : Array Value} (hg : P.globalNamed n = some g) (h : w.var? P n = some cs) : ∃ t fr, w.heap[g]? = some (.cells cs t fr) := by
  unfold World.var? at h
  rw [hg] at h
  simp only [Option.bind_some] at h
  split at h
  · rename_i cs' t fr hh
    injection h with h
    subst h
    exact ⟨t, fr, hh⟩
  · cases h
theorem nine {p : Nat → Prop} (h0 : p 0) (h1 : p 1) (h2 : p 2) (h3 : p 3) (h4 : p 4) (h5 : p 5) (h6 : p 6) (h7 : p 7) (h8 : p 8) : ∀ k, k < 9 → p k
  | 0, _ => h0 | 1, _ => h1 | 2, _ => h2 | 3, _ => h3 | 4, _ => h4 | 5, _ => h5 | 6, _ => h6 | 7, _ => h7 | 8, _ => h8
  | k + 9, h => absurd h (by omega)
def mksD : List (DataW Unit) := mks.map fun z => .lit (.string z)
def nmsD : List (DataW Unit) := nms.map fun z => .agg [.lit (.string z.1), .lit (.int .i64 (z.2 : Int))]
theorem mksD_eq : (Rows.laid_hibernacle_lex_marks : DataW Unit) = .agg mksD := rfl
theorem nmsD_eq : (Rows.laid_hibernacle_lex_names : DataW Unit) = .agg nmsD := rfl
theorem gMks : Tryd.prog.globalNamed "hibernacle/lex.marks" = some 0 := by kernel_rfl
theorem gNms : Tryd.prog.globalNamed "hibernacle/lex.names" = some 1 := by kernel_rfl
theorem tMks : (Tryd.prog.globals[0]?).map (·.type) = some 56 := by kernel_rfl
theorem tNms : (Tryd.prog.globals[1]?).map (·.type) = some 74 := by kernel_rfl
theorem max_some {w : World} (h : w.ShapedOpen Tryd.prog) : ∃ m, w.cell? ⟨2, 0, none⟩ = some (.int .i64 m) :=
  cell_of_shapedOpen_int (P := Tryd.prog) (g := 2) (t := 3) (zero := #[.int .i64 0]) h (of_decide_eq_true (by kernel_rfl)) (by kernel_rfl) rfl (by kernel_rfl) (by kernel_rfl) Tryd.underlying3
/-- The listed tables give what a scan looks into. -/
theorem env_of {w : World} {l : List (String × DataW Unit)} {ps : List MemPlace} (hs : w.ShapedOpen Tryd.prog) (h : DataW.LaidVars Tryd.prog w l ps)
    (hm : ("hibernacle/lex.marks", Rows.laid_hibernacle_lex_marks) ∈ l) (hn : ("hibernacle/lex.names", Rows.laid_hibernacle_lex_names) ∈ l) : Env w := by
  refine ⟨max_some hs, fun k hk => ?_, ?_⟩
  · obtain ⟨g, t, cs, fuel, p, h1, h2, h3, h4⟩ := laid_mem h hm
    obtain rfl := Option.some.inj (gMks.symm.trans h1)
    obtain rfl := Option.some.inj (tMks.symm.trans h2)
    obtain ⟨ty, fr, hh⟩ := of_var gMks h3
    have key : ∀ k, k < 9 → cs.toList[k]? = some (.string ⟨(mks.getD k []).toArray⟩) := fun k hk =>
      cell_str Tryd.underlying56 Tryd.underlying9 (by kernel_rfl) (mksD_eq ▸ h4) (nine (p := fun k => mksD[k]? = some (DataW.lit (.string (mks.getD k [])))) rfl rfl rfl rfl rfl rfl rfl rfl rfl k hk) hk
    have hc := key k hk
    rw [Array.getElem?_toList] at hc
    simp only [World.cell?, hh]
    exact hc
  · obtain ⟨g, t, cs, fuel, p, h1, h2, h3, h4⟩ := laid_mem h hn
    obtain rfl := Option.some.inj (gNms.symm.trans h1)
    obtain rfl := Option.some.inj (tNms.symm.trans h2)
    obtain ⟨ty, fr, hh⟩ := of_var gNms h3
    obtain ⟨cs⟩ := cs
    have hl : cs.length = 18 := by
      obtain ⟨_, _, _, _, hl, _, _⟩ := DataW.trod_array Tryd.underlying74 h4
      rw [hl]; kernel_rfl
    have key : ∀ i, i < 9 → cs[i * 2]? = some (.string ⟨(nms.getD i ([], 0)).1.toArray⟩) ∧ cs[i * 2 + 1]? = some (.int .i64 ((nms.getD i ([], 0)).2 : Int)) := fun i hi =>
      cell_nms Tryd.underlying74 Tryd.underlying73 (by kernel_rfl) rfl rfl rfl rfl Tryd.underlying9 Tryd.underlying3 (by kernel_rfl) (by kernel_rfl) (nmsD_eq ▸ h4)
        (nine (p := fun i => nmsD[i]? = some (DataW.agg [.lit (.string (nms.getD i ([], 0)).1), .lit (.int .i64 ((nms.getD i ([], 0)).2 : Int))])) rfl rfl rfl rfl rfl rfl rfl rfl rfl i hi) hi
    have two : ∀ i, i < 9 → cs[i * 2]? = nmC.toList[i * 2]? ∧ cs[i * 2 + 1]? = nmC.toList[i * 2 + 1]? :=
      nine (key 0 (by decide)) (key 1 (by decide)) (key 2 (by decide)) (key 3 (by decide)) (key 4 (by decide)) (key 5 (by decide)) (key 6 (by decide)) (key 7 (by decide)) (key 8 (by decide))
    have e : (⟨cs⟩ : Array Value) = nmC := by
      apply Array.ext'
      apply List.ext_getElem?
      intro j
      by_cases hj : j < 18
      · rcases Nat.mod_two_eq_zero_or_one j with e2 | e2
        · obtain ⟨i, rfl⟩ : ∃ i, j = i * 2 := ⟨j / 2, by omega⟩
          exact (two i (by omega)).1
        · obtain ⟨i, rfl⟩ : ∃ i, j = i * 2 + 1 := ⟨j / 2, by omega⟩
          exact (two i (by omega)).2
      · rw [List.getElem?_eq_none (by show cs.length ≤ j; omega), List.getElem?_eq_none (by show 18 ≤ j; omega)]
    rw [← e]
    exact ⟨_, _, hh⟩
theorem gPow : Tryd.prog.globalNamed "internal/strconv.uint64pow10" = some 3 := by kernel_rfl
theorem tPow : (Tryd.prog.globals[3]?).map (·.type) = some 107 := by kernel_rfl
/-- The listed tables give the table of powers. -/
theorem pow_of {w : World} {l : List (String × DataW Unit)} {ps : List MemPlace} (h : DataW.LaidVars Tryd.prog w l ps) (hm : ("internal/strconv.uint64pow10", Rows.laid_internal_strconv_uint64pow10) ∈ l) : Pow w := by
  obtain ⟨g, t, cs, fuel, p, h1, h2, h3, h4⟩ := laid_mem h hm
  obtain rfl := Option.some.inj (gPow.symm.trans h1)
  obtain rfl := Option.some.inj (tPow.symm.trans h2)
  have e2 : cs.toList = Lib.pow10Tab.map fun z => Value.int .u64 z := Lib.cells_of_tab (n := 20) (e := 99) Tryd.underlying107 Tryd.underlying99 (by kernel_rfl) (by kernel_rfl) (zs := Lib.pow10Tab) h4
  unfold Pow Lib.TabIs
  rw [h3, ← e2]
end Go.Proofs.YtjpbbooeihdnfaaDoor
