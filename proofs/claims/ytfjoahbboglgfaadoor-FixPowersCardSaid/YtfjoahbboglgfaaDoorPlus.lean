/- The sum of two rows of decimal digits, digit by digit, is the row of the sum. -/
import Derived.Test.YtfjoahbboglgfaaDoorRow
namespace Go.Proofs.YtfjoahbboglgfaaDoor
open Go.RowKit

theorem infoInt : (Tryd.prog.info? 3).map (fun i => (i.zero, i.size, i.bytes)) = some (some (.int .i64 0), 1, 8) := by kernel_rfl
def toV (d : Nat) : Value := .int .i64 (d : Int)
/-- A row of digits in memory that the call itself made, from block base on. -/
def Own (w : World) (base : Nat) (v : Value) (ds : List Nat) : Prop := w.ownsRow base 3 1 v ds.length (ds.map toV)

theorem Own.nil (w : World) (base : Nat) : Own w base (.slice none 0 0) [] := World.ownsRow_nil w base 3 1
theorem Own.snoc {w : World} {base : Nat} {v : Value} {ds : List Nat} {z : Int} {d : Nat} (h : w.ownsRow base 3 1 v (ds.length + 1) (ds.map toV ++ [.int .i64 z])) (hz : z = (d : Int)) : Own w base v (ds ++ [d]) := by
  subst hz
  unfold Own
  simpa [toV] using h
theorem Own.row {w : World} {base : Nat} {v : Value} {ds : List Nat} (h : Own w base v ds) : ∃ A c, v = .slice A ds.length c ∧ Row w A c ds := by
  have hcells := fun g hg => World.ownsRow.cells h (g := g) hg
  rcases h.2 with ⟨rfl, hn⟩ | ⟨g, cap, cur, rfl, _, _, hn, _, _, _⟩
  · have : ds = [] := List.eq_nil_of_length_eq_zero hn
    subst this
    exact ⟨none, 0, rfl, Row.nil⟩
  · refine ⟨some ⟨g, 0, none⟩, cap, rfl, ⟨hn, fun h => by cases h⟩, .inr ⟨g, rfl, fun j hj => ?_⟩⟩
    have h1 := hcells g rfl j (toV (ds.getD j 0)) (by rw [List.getElem?_map, List.getD_eq_getElem?_getD, List.getElem?_eq_getElem hj]; rfl)
    rw [show ((⟨g, 0, none⟩ : Addr).add j) = ⟨g, j, none⟩ by unfold Addr.add; split <;> simp_all] at h1
    exact h1
theorem Own.block {w : World} {base : Nat} {v : Value} {ds : List Nat} (h : Own w base v ds) : ∀ k, v.ownBlock = some k → base ≤ k := fun k hk => (World.ownsRow.lt h k hk).1
theorem one_cells (w : World) (x : Value) (t : TypeId) : ∀ (j : Nat) (u : Value), [x][j]? = some u → (w.alloc (.cells #[x] t)).cell? ((⟨w.heap.size, 0, none⟩ : Addr).add j) = some u := cell_one_new w x t

/-- What a loop's head knows of a sum that is under way. -/
structure PlusRel (w wr : World) (a b : List Nat) (v : Value) (i c : Nat) (out : List Nat) : Prop where
  own : Own wr w.heap.size v out
  len : out.length = i
  dig : Dig out
  c1 : c ≤ 1
  hi : i ≤ a.length ∨ i ≤ b.length ∨ (c = 0 ∧ (i ≤ a.length + 1 ∨ i ≤ b.length + 1))
  sum : val out + 10 ^ i * c = val (a.take i) + val (b.take i)
  below : Below w.heap.size w wr

theorem PlusRel.next {w wr w1 : World} {a b : List Nat} {v v' : Value} {i c : Nat} {out : List Nat} (ha : Dig a) (hb : Dig b) (h : PlusRel w wr a b v i c out) (hgo : i < a.length ∨ i < b.length ∨ 0 < c)
    {z : Int} (hown : w1.ownsRow w.heap.size 3 1 v' (out.length + 1) (out.map toV ++ [.int .i64 z])) (hz : z = (((a.getD i 0 + b.getD i 0 + c) % 10 : Nat) : Int)) (hbel : Below w.heap.size w w1) :
    PlusRel w w1 a b v' (i + 1) ((a.getD i 0 + b.getD i 0 + c) / 10) (out ++ [(a.getD i 0 + b.getD i 0 + c) % 10]) := by
  have h1 := ha.getD i
  have h2 := hb.getD i
  have h3 := h.c1
  refine ⟨Own.snoc hown hz, by simp [h.len], h.dig.append (Dig.one (by omega)), by omega, ?_, plus_round ha hb h.len h.sum, hbel⟩
  by_cases hA : i < a.length
  · left; omega
  · by_cases hB : i < b.length
    · right; left; omega
    · right; right
      have e1 : a.getD i 0 = 0 := by rw [List.getD_eq_getElem?_getD, List.getElem?_eq_none (by omega)]; rfl
      have e2 : b.getD i 0 = 0 := by rw [List.getD_eq_getElem?_getD, List.getElem?_eq_none (by omega)]; rfl
      refine ⟨by rw [e1, e2]; omega, ?_⟩
      rcases h.hi with h | h | h <;> omega

set_option maxHeartbeats 400000 in
set_option maxRecDepth 100000 in
theorem plus_any (A B : Option Addr) (ca cb : Nat) (a b : List Nat) (w : World) (ha : Row w A ca a) (hb : Row w B cb b) (hla : a.length ≤ 500) (hlb : b.length ≤ 500) (hda : Dig a) (hdb : Dig b) :
    Calls Tryd.prog 33 #[.slice A a.length ca, .slice B b.length cb] w fun e w' => (∃ C c ds, e = .returned (.slice C ds.length c) ∧ Row w' C c ds ∧ Canon ds ∧ val ds = val a + val b) ∧ Below w.heap.size w w' := by
  obtain ⟨i0, hi, hz0, hz1, hz2⟩ := info_parts infoInt
  go_enter Tryd.func33, Tryd.ntmps33
  go_wp2
  go_loopw [5, 6, 7] (fun v cv iv wr => ∃ i c out, cv = .int .i64 ((c : Nat) : Int) ∧ iv = .int .i64 ((i : Nat) : Int) ∧ PlusRel w wr a b v i c out)
    (fun _ _ iv _ => a.length + b.length + 2 - (intOf iv).toNat)
  case atStart => exact ⟨0, 0, [], rfl, rfl, ⟨Own.nil _ _, rfl, Dig.nil, by omega, .inl (by omega), by simp [val], Below.refl _ _⟩⟩
  case round =>
    obtain ⟨i, c, out, rfl, rfl, hrel⟩ := hrel
    have hi1 : i ≤ 501 := by rcases hrel.hi with h | h | h <;> omega
    have hc1 := hrel.c1
    have hx := hda.getD i
    have hy := hdb.getD i
    by_cases hgo : i < a.length ∨ i < b.length ∨ 0 < c
    · have hra := ha.below hrel.below
      have hrb := hb.below hrel.below
      obtain ⟨x, HX⟩ : ∃ x, Hid (a.getD i 0 = x) := ⟨_, rfl⟩
      obtain ⟨y, HY⟩ : ∃ y, Hid (b.getD i 0 = y) := ⟨_, rfl⟩
      rw [HX.out] at hx
      rw [HY.out] at hy
      obtain ⟨n, HN⟩ : ∃ n, Hid (out.length = n) := ⟨_, rfl⟩
      have hn : n ≤ 501 := by have := hrel.len; have := HN.out; omega
      have hown := hrel.own
      unfold Own at hown
      rw [HN.out] at hown
      have HB := Lib.hid hrel.own.block
      have hsz := hrel.below.size
      have HR := Lib.hid hrel
      have HG := Lib.hid hgo
      have hub : i ≤ a.length + b.length := by have := hrel.hi; omega
      have hgo3 : i < a.length ∨ (¬ i < a.length ∧ i < b.length) ∨ (¬ i < a.length ∧ ¬ i < b.length ∧ 0 < c) := by omega
      clear hrel hgo
      rcases hgo3 with hA | ⟨hA, hB⟩ | ⟨hA, hB, hC⟩
      all_goals
        go_wp2_with fail
        refine (at_val A ca i a x _ hra HX (by omega) (by omega)).mono ?_
        rintro e w' ⟨rfl, rfl⟩
        go_wp2_with fail
        refine (at_val B cb i b y _ hrb HY (by omega) (by omega)).mono ?_
        rintro e w' ⟨rfl, rfl⟩
        go_wp2_with (at_builtin; refine wpList_append_own _ rfl _ _ 22 rfl w.heap.size 3 i0 (.int .i64 0) 1 8 Tryd.underlying22 hi hz0 hz1 hz2 rfl (by decide) _ _ _ rfl (hown.alloc _) ⟨wr.heap.size, 0, none⟩ 1 1 [.int .i64 (((x : Int) + (y : Int) + (c : Int)) % 10)] rfl rfl (one_cells _ _ _) ?c2 ?c3 ?c4 ?c5 ?_)
        case c2 => intro u hu; simp at hu; subst hu; rfl
        case c3 => unfold maxLen; omega
        case c4 => omega
        case c5 => simp; omega
        intro v' w1 hown' hgrow _
        have R := Lib.hid (HR.out.next hda hdb HG.out (by rw [HN.out]; exact hown') (z := ((x : Int) + (y : Int) + (c : Int)) % 10) (by rw [HX.out, HY.out]; omega) ((HR.out.below.alloc hsz _).grown hgrow (by simp; omega) HB.out))
        rw [HX.out, HY.out] at R
        clear hown' hgrow hown hra hrb HB HR HG HX HY HN
        go_wp2
        go_roundw
        case rel => exact ⟨i + 1, (x + y + c) / 10, _, by go_num, by go_num, R.out⟩
        case measure => simp [intOf]; omega
    · have hA : ¬ i < a.length := by omega
      have hB : ¬ i < b.length := by omega
      have hC : c = 0 := by omega
      subst hC
      obtain ⟨C, cc, rfl, hrow⟩ := hrel.own.row
      have HL := Lib.hid hrel.len
      have hol : out.length ≤ 501 := by have := hrel.len; omega
      have HR := Lib.hid hrel
      clear hrel
      go_wp2_with fail
      refine (trim_any C cc out _ hrow (by omega) HR.out.dig).mono ?_
      rintro e w' ⟨⟨k, hk, rfl, hcan, hv⟩, rfl⟩
      have HV := Lib.hid hv
      clear hv
      go_wp2_with fail
      go_ret
      exact ⟨⟨C, cc, out.take k, by rw [List.length_take, Nat.min_eq_left hk]; rfl, hrow.take k, hcan, HV.out.trans (plus_end (by omega) (by omega) HR.out.sum)⟩, HR.out.below⟩

end Go.Proofs.YtfjoahbboglgfaaDoor
