/- A slice of ints that reads as a row of decimal digits, kept over whatever makes new memory; the digit of a row, and a row without its zeros at the high end. -/
import Derived.Test.YtfjoahbboglgfaaDoorInts
import Derived.Test.YtfjoahbboglgfaaDoorNum
namespace Go.Proofs.YtfjoahbboglgfaaDoor
open Go.RowKit

/-- The slice at address A of capacity c reads as the row ds. -/
def Row (w : World) (A : Option Addr) (c : Nat) (ds : List Nat) : Prop :=
  (ds.length ≤ c ∧ (A = none → c = 0)) ∧ (ds = [] ∨ ∃ g, A = some ⟨g, 0, none⟩ ∧ ∀ j, j < ds.length → w.cell? ⟨g, j, none⟩ = some (.int .i64 ((ds.getD j 0 : Nat) : Int)))

theorem Row.keep {w w' : World} {A : Option Addr} {c : Nat} {ds : List Nat} (h : Row w A c ds) (hb : ∀ a : Addr, a.block < w.heap.size → w'.cell? a = w.cell? a) : Row w' A c ds := by
  refine ⟨h.1, ?_⟩
  rcases h.2 with h0 | ⟨g, e, hc⟩
  · exact .inl h0
  · refine .inr ⟨g, e, fun j hj => ?_⟩
    have hcell := hc j hj
    exact (hb ⟨g, j, none⟩ (World.block_lt_of_cell? w _ hcell)).trans hcell
theorem Row.below {w w' : World} {A : Option Addr} {c : Nat} {ds : List Nat} (h : Row w A c ds) (hb : Below w.heap.size w w') : Row w' A c ds := h.keep fun _ ha => hb.cell ha
theorem Row.cell {w : World} {A : Option Addr} {c : Nat} {ds : List Nat} (h : Row w A c ds) {k : Nat} (hk : k < ds.length) :
    ∃ g, A = some ⟨g, 0, none⟩ ∧ w.cell? ⟨g, k, none⟩ = some (.int .i64 ((ds.getD k 0 : Nat) : Int)) := by
  rcases h.2 with h0 | ⟨g, e, hc⟩
  · subst h0; simp at hk
  · exact ⟨g, e, hc k hk⟩
theorem Row.nil {w : World} : Row w none 0 [] := ⟨⟨Nat.zero_le _, fun _ => rfl⟩, .inl rfl⟩
theorem Row.none_ {w : World} {c : Nat} {ds : List Nat} (h : Row w none c ds) : c = 0 ∧ ds = [] := by
  refine ⟨h.1.2 rfl, ?_⟩
  rcases h.2 with h0 | ⟨g, e, _⟩
  · exact h0
  · cases e
theorem Row.take {w : World} {A : Option Addr} {c : Nat} {ds : List Nat} (h : Row w A c ds) (k : Nat) : Row w A c (ds.take k) := by
  refine ⟨⟨Nat.le_trans (List.length_take_le' _ _) h.1.1, h.1.2⟩, ?_⟩
  rcases h.2 with h0 | ⟨g, e, hc⟩
  · exact .inl (by subst h0; simp)
  · refine .inr ⟨g, e, fun j hj => ?_⟩
    have hj2 : j < ds.length := Nat.lt_of_lt_of_le hj (List.length_take_le' _ _)
    have hj3 : j < k := Nat.lt_of_lt_of_le hj (List.length_take_le _ _)
    rw [hc j hj2, List.getD_eq_getElem?_getD, List.getD_eq_getElem?_getD, List.getElem?_take_of_lt hj3]

theorem ret_int {k : IntKind} {a b : Int} (h : a = b) : Ending.returned (.int k a) = .returned (.int k b) := by rw [h]

set_option maxHeartbeats 400000 in
theorem at_any (A : Option Addr) (c i : Nat) (ds : List Nat) (w : World) (h : Row w A c ds) (_hl : ds.length ≤ 1000) (_hi : i ≤ 1000) :
    Calls Tryd.prog 44 #[.slice A ds.length c, .int .i64 (i : Int)] w fun e w' => e = .returned (.int .i64 ((ds.getD i 0 : Nat) : Int)) ∧ w = w' := by
  by_cases hlt : i < ds.length
  · obtain ⟨g, rfl, hc⟩ := h.cell hlt
    clear h
    generalize ds.getD i 0 = x at *
    go_enter Tryd.func44, Tryd.ntmps44
    go_wp2
    go_ret
    exact ⟨rfl, rfl⟩
  · have e0 : ds.getD i 0 = 0 := by rw [List.getD_eq_getElem?_getD, List.getElem?_eq_none (by omega)]; rfl
    rw [e0]
    clear e0 h
    go_enter Tryd.func44, Tryd.ntmps44
    go_wp2
    go_ret
    exact ⟨rfl, rfl⟩

theorem at_val (A : Option Addr) (c i : Nat) (ds : List Nat) (x : Nat) (w : World) (h : Row w A c ds) (hx : Hid (ds.getD i 0 = x)) (hl : ds.length ≤ 1000) (hi : i ≤ 1000) :
    Calls Tryd.prog 44 #[.slice A ds.length c, .int .i64 (i : Int)] w fun e w' => e = .returned (.int .i64 (x : Int)) ∧ w = w' := by
  have h1 := at_any A c i ds w h hl hi
  rw [hx.out] at h1
  exact h1

def sliceLen : Value → Nat | .slice _ n _ => n | _ => 0

set_option maxHeartbeats 800000 in
theorem trim_any (A : Option Addr) (c : Nat) (ds : List Nat) (w : World) (h : Row w A c ds) (hl : ds.length ≤ 1000) (hd : Dig ds) :
    Calls Tryd.prog 36 #[.slice A ds.length c] w fun e w' => (∃ k, k ≤ ds.length ∧ e = .returned (.slice A k c) ∧ Canon (ds.take k) ∧ val (ds.take k) = val ds) ∧ w = w' := by
  have hcap := h.1.1
  go_enter Tryd.func36, Tryd.ntmps36
  go_wp2
  go_loop [0] (fun d => ∃ k, k ≤ ds.length ∧ d = .slice A k c ∧ Hid (val (ds.take k) = val ds)) (fun d => sliceLen d)
  case atStart => exact ⟨ds.length, Nat.le_refl _, rfl, by unfold Hid; rw [List.take_length]⟩
  case round =>
    obtain ⟨k, hk, rfl, hv⟩ := hrel
    rcases k with _ | j
    · go_wp2
      go_ret
      exact ⟨⟨0, hk, rfl, trim_end hd (Nat.zero_le _) (fun j hj => by omega), hv.out⟩, rfl⟩
    · obtain ⟨g, rfl, hc⟩ := h.cell (k := j) (by omega)
      by_cases hz : ds.getD j 0 = 0
      · have HZ := Lib.hid hz
        rw [hz] at hc
        clear hz h
        go_wp2
        go_round
        case rel => exact ⟨j, by omega, rfl, (trim_round HZ.out).trans hv.out⟩
        case measure => simp [sliceLen]
      · have HZ := Lib.hid hz
        have hzb : (((ds.getD j 0 : Nat) : Int) == 0) = false := beq_eq_false_iff_ne.2 (by omega)
        clear hz h
        generalize hx : ds.getD j 0 = x at hc hzb
        clear hx
        go_wp2
        go_ret
        exact ⟨⟨j + 1, hk, rfl, trim_end hd hk (fun i hi => by obtain rfl : j = i := (by omega); exact HZ.out), hv.out⟩, rfl⟩

end Go.Proofs.YtfjoahbboglgfaaDoor
