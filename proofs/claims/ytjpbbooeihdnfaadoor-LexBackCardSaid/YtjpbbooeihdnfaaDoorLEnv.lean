/- What the package's and the library's variables hold. -/
import Derived.Test.YtjpbbooeihdnfaaDoorLC1
import Derived.Lib.LaidTab
set_option maxRecDepth 20000
namespace Go.Proofs.YtjpbbooeihdnfaaDoor
open Go.RowKit

/-- The characters' names as cells. -/
def nmC : Array Value := #[.string ⟨#[110, 117, 108]⟩, .int .i64 0, .string ⟨#[115, 112, 97, 99, 101]⟩, .int .i64 32, .string ⟨#[110, 101, 119, 108, 105, 110, 101]⟩, .int .i64 10, .string ⟨#[116, 97, 98]⟩, .int .i64 9, .string ⟨#[114, 101, 116, 117, 114, 110]⟩, .int .i64 13, .string ⟨#[101, 115, 99, 97, 112, 101]⟩, .int .i64 27, .string ⟨#[100, 101, 108, 101, 116, 101]⟩, .int .i64 127, .string ⟨#[97, 108, 97, 114, 109]⟩, .int .i64 7, .string ⟨#[98, 97, 99, 107, 115, 112, 97, 99, 101]⟩, .int .i64 8]
/-- The variables that a scan looks into. -/
structure Env (w : World) : Prop where
  mx : ∃ m, w.cell? ⟨2, 0, none⟩ = some (.int .i64 m)
  mks : ∀ k, k < 9 → w.cell? ⟨0, k, none⟩ = some (.string ⟨(mks.getD k []).toArray⟩)
  nms : ∃ t fr, w.heap[1]? = some (.cells nmC t fr)
theorem Env.below {w w' : World} (h : Env w) (hb : Below w.heap.size w w') : Env w' := by
  have hc : ∀ (a : Addr) (v : Value), w.cell? a = some v → w'.cell? a = some v := fun a v hv => (hb.cell (World.block_lt_of_cell? w a hv)).trans hv
  obtain ⟨t, fr, hn⟩ := h.nms
  exact ⟨h.mx.imp fun m hm => hc _ _ hm, fun k hk => hc _ _ (h.mks k hk), t, fr, (hb.block _ (Array.getElem?_eq_some_iff.1 hn).1).trans hn⟩
/-- The library's table of powers of ten. -/
def Pow (w : World) : Prop := Lib.TabIs Tryd.prog w "internal/strconv.uint64pow10" .u64 Lib.pow10Tab
theorem tw_all {p : UInt8 → Bool} : ∀ {l : List UInt8}, (∀ a ∈ l, p a = true) → l.takeWhile p = l
  | [], _ => rfl
  | b :: t, h => by rw [List.takeWhile_cons, h b (List.mem_cons_self ..), if_pos rfl, tw_all fun a ha => h a (List.mem_cons_of_mem _ ha)]
/-- The text ahead of a byte. -/
theorem cut_one (L : List UInt8) (c : UInt8) : (Lib.cut L [c]).1 = L.takeWhile (· != c) ∧ (Lib.cut L [c]).2.2 = L.contains c := by
  have key : ∀ L : List UInt8, Lib.index L [c] = if L.contains c then ((L.takeWhile (· != c)).length : Int) else -1 := by
    intro L
    induction L with
    | nil => rfl
    | cons b t ih =>
      have hu : Lib.index (b :: t) [c] = if [c].isPrefixOf (b :: t) then 0 else if Lib.index t [c] == -1 then -1 else Lib.index t [c] + 1 := rfl
      rw [hu, ih]
      by_cases hb : b = c
      · simp [hb]
      · have h1 : (c == b) = false := beq_false_of_ne (fun e => hb e.symm)
        have h2 : (b != c) = true := bne_iff_ne.2 hb
        have h3 : [c].isPrefixOf (b :: t) = false := by simp [List.isPrefixOf, h1]
        rw [h3, List.contains_cons, h1, Bool.false_or, List.takeWhile_cons, h2]
        by_cases e : t.contains c = true
        · rw [e]
          have : (((t.takeWhile (· != c)).length : Int) == -1) = false := by rw [beq_eq_false_iff_ne]; omega
          simp [this]
        · rw [Bool.not_eq_true] at e
          rw [e]; simp
  unfold Lib.cut
  rw [key]
  by_cases e : L.contains c = true
  · rw [e]
    simp only [if_true]
    rw [if_pos (by omega)]
    refine ⟨?_, rfl⟩
    rw [Int.toNat_natCast]
    exact (List.prefix_iff_eq_take.1 (List.takeWhile_prefix (l := L) (· != c))).symm
  · rw [Bool.not_eq_true] at e
    rw [e]
    simp only [Bool.false_eq_true, if_false]
    rw [if_neg (by omega)]
    refine ⟨?_, rfl⟩
    symm
    refine tw_all fun a ha => ?_
    rw [bne_iff_ne]
    intro e2
    rw [e2] at ha
    have := List.contains_iff_mem.2 ha
    rw [e] at this; cases this
end Go.Proofs.YtjpbbooeihdnfaaDoor
