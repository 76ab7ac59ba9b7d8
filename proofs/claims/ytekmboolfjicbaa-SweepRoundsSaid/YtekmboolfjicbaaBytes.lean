/- A slice of bytes that reads as these numbers; one of the call's own. -/
import Derived.Test.YtekmboolfjicbaaProg
import Derived.WalkKit
import Derived.WalkSpells
import Derived.WalkLawsBesides
import Derived.Laws.BitsAllLaws
import Derived.Laws.OwnMore
import Derived.Lib.Hide
import Derived.Lib.SlBytesConst
import Derived.Outline
import Derived.OneCell
import Derived.OwnWalk
import Derived.Laws.CopyOwn
import Derived.Laws.BytesArg
import Derived.WideShapes
import Derived.Maps.AppendAt
namespace Go.Proofs.Ytekmboolfjicbaa
open Go.RowKit

/-- A slice of bytes that reads as these numbers. -/
structure Bys (w : World) (p : Option Addr) (n : Nat) (bs : List Nat) : Prop where
  len : bs.length = n
  dig : ∀ x ∈ bs, x < 256
  inn : 0 < n → ∃ b o, p = some ⟨b, o, none⟩ ∧ ∀ i, i < n → w.cell? ⟨b, o + i, none⟩ = some (.int .u8 ((bs.getD i 0 : Nat) : Int))
theorem Bys.keep {w w' : World} {p : Option Addr} {n : Nat} {bs : List Nat} (h : Bys w p n bs) (hb : ∀ a : Addr, a.block < w.heap.size → w'.cell? a = w.cell? a) : Bys w' p n bs :=
  ⟨h.len, h.dig, fun hn => by
    obtain ⟨b, o, e, hc⟩ := h.inn hn
    exact ⟨b, o, e, fun i hi => (hb ⟨b, o + i, none⟩ (World.block_lt_of_cell? w _ (hc i hi))).trans (hc i hi)⟩⟩
theorem Bys.below {w w' : World} {p : Option Addr} {n : Nat} {bs : List Nat} (h : Bys w p n bs) (hb : Below w.heap.size w w') : Bys w' p n bs := h.keep fun _ ha => hb.cell ha
theorem map_getD (bs : List Nat) (i : Nat) : (bs.map Int.ofNat).getD i 0 = ((bs.getD i 0 : Nat) : Int) := by
  rw [List.getD_eq_getElem?_getD, List.getD_eq_getElem?_getD, List.getElem?_map]
  cases bs[i]? <;> rfl
theorem Bys.at {w : World} {p : Option Addr} {n : Nat} {bs : List Nat} (h : Bys w p n bs) (hn : 0 < n) :
    ∃ b o, p = some ⟨b, o, none⟩ ∧ ∀ i, i < n → w.cell? ⟨b, o + i, none⟩ = some (.int .u8 ((bs.getD i 0 : Nat) : Int)) := h.inn hn
theorem Bys.zero (w : World) (p : Option Addr) : Bys w p 0 [] := ⟨rfl, by simp, fun h => absurd h (Nat.lt_irrefl 0)⟩
theorem Bys.nil_ {w : World} {p : Option Addr} {bs : List Nat} (h : Bys w p 0 bs) : bs = [] := List.length_eq_zero_iff.1 h.len
theorem Bys.getD {w : World} {p : Option Addr} {n : Nat} {bs : List Nat} (h : Bys w p n bs) (i : Nat) : bs.getD i 0 < 256 := by
  rw [List.getD_eq_getElem?_getD]
  cases e : bs[i]? with
  | none => decide
  | some x => exact h.dig x (List.mem_of_getElem? e)
theorem take_succ_getD (a : List Nat) (k : Nat) (h : k < a.length) : a.take (k + 1) = a.take k ++ [a.getD k 0] := by
  rw [List.take_succ_eq_append_getElem h, List.getD_eq_getElem?_getD, List.getElem?_eq_getElem h]; rfl
def u8s (bs : List Nat) : List Value := bs.map fun (x : Nat) => Value.int .u8 (x : Int)
theorem u8s_get (bs : List Nat) (i : Nat) (h : i < bs.length) : (u8s bs)[i]? = some (.int .u8 ((bs.getD i 0 : Nat) : Int)) := by
  unfold u8s
  rw [List.getElem?_map, List.getD_eq_getElem?_getD, List.getElem?_eq_getElem h]; rfl
theorem u8s_len (bs : List Nat) : (u8s bs).length = bs.length := by unfold u8s; simp
theorem u8s_append (a b : List Nat) : u8s (a ++ b) = u8s a ++ u8s b := List.map_append
theorem u8s_one (bs : List Nat) : ∀ v ∈ u8s bs, v.oneCell' = true := by
  intro v hv
  obtain ⟨x, _, rfl⟩ := List.mem_map.1 hv
  rfl
/-- A slice of the call's own that reads as these numbers. -/
theorem Bys.of_row {w : World} {base g n c : Nat} {bs : List Nat} (h : w.ownsRow base 5 1 (.slice (some ⟨g, 0, none⟩) n c) n (u8s bs)) (hb : ∀ x ∈ bs, x < 256) : Bys w (some ⟨g, 0, none⟩) n bs := by
  have hl : bs.length = n := by have := h.1; rw [u8s_len] at this; omega
  refine ⟨hl, hb, fun _ => ⟨g, 0, rfl, fun i hi => ?_⟩⟩
  have h2 := World.ownsRow.cells (h : w.ownsRow base 5 1 _ n (u8s bs)) (g := g) rfl i _ (u8s_get bs i (by omega))
  rw [← Go.WideShapes.add_plain]
  exact h2
theorem Bys.own {w : World} {base n c : Nat} {p : Option Addr} {bs : List Nat} (h : w.ownsRow base 5 1 (.slice p n c) n (u8s bs)) (hb : ∀ x ∈ bs, x < 256) : Bys w p n bs := by
  have hl : bs.length = n := by have := h.1; rw [u8s_len] at this; omega
  rcases h.2 with ⟨h0, h1⟩ | ⟨g, cap, cur, e, _⟩
  · subst h1
    exact ⟨hl, hb, fun h => absurd h (Nat.lt_irrefl 0)⟩
  · cases e
    exact Bys.of_row h hb
theorem Try.info5 : (Try.prog.info? 5).map (fun i => (i.zero, i.size, i.bytes)) = some (some (.int .u8 0), 1, 1) := by kernel_rfl
theorem Bys.cells {w : World} {p : Option Addr} {n : Nat} {bs : List Nat} (h : Bys w p n bs) (hn : 0 < n) : ∃ ad, p = some ad ∧ ∀ j v, (u8s bs)[j]? = some v → w.cell? (ad.add j) = some v := by
  obtain ⟨b, o, e, hc⟩ := h.at hn
  refine ⟨_, e, fun j v hv => ?_⟩
  have hj : j < bs.length := by
    rcases Nat.lt_or_ge j bs.length with h1 | h1
    · exact h1
    · rw [List.getElem?_eq_none (by rw [u8s_len]; exact h1)] at hv; cases hv
  rw [u8s_get bs j hj] at hv
  cases hv
  rw [Go.WideShapes.add_plain]
  exact hc j (by rw [← h.len]; exact hj)
theorem own_below {w w' : World} {base E m : Nat} {v : Value} {n : Nat} {xs : List Value} (h : w.ownsRow base E m v n xs) (hb : Below w.heap.size w w') : w'.ownsRow base E m v n xs := by
  obtain ⟨h1, h2⟩ := h
  refine ⟨h1, ?_⟩
  rcases h2 with h2 | ⟨g, cap, cur, e, hbg, hg, hr⟩
  · exact .inl h2
  · exact .inr ⟨g, cap, cur, e, hbg, (hb.block g (by
      rcases Nat.lt_or_ge g w.heap.size with h3 | h3
      · exact h3
      · rw [Array.getElem?_eq_none h3] at hg; cases hg)).trans hg, hr⟩
theorem own_slice {w : World} {base n : Nat} {v : Value} {xs : List Value} (h : w.ownsRow base 5 1 v n xs) : ∃ p c, v = .slice p n c := by
  rcases h.2 with ⟨h0, h1⟩ | ⟨g, cap, cur, e, _⟩
  · subst h1; exact ⟨none, 0, h0⟩
  · exact ⟨_, _, e⟩
theorem getD_take (a : List Nat) (k i : Nat) (h : i < k) : (a.take k).getD i 0 = a.getD i 0 := by
  rw [List.getD_eq_getElem?_getD, List.getD_eq_getElem?_getD, List.getElem?_take_of_lt h]
theorem getD_drop (a : List Nat) (k i : Nat) : (a.drop k).getD i 0 = a.getD (k + i) 0 := by
  rw [List.getD_eq_getElem?_getD, List.getD_eq_getElem?_getD, List.getElem?_drop]
theorem Bys.take {w : World} {p : Option Addr} {n : Nat} {bs : List Nat} (h : Bys w p n bs) {k : Nat} (hk : k ≤ n) : Bys w p k (bs.take k) :=
  ⟨by rw [List.length_take, h.len]; omega, fun x hx => h.dig x (List.mem_of_mem_take hx), fun hn => by
    obtain ⟨b, o, e, hc⟩ := h.at (by omega)
    exact ⟨b, o, e, fun i hi => by rw [hc i (by omega), getD_take _ _ _ hi]⟩⟩
theorem Bys.drop {w : World} {b o n : Nat} {bs : List Nat} (h : Bys w (some ⟨b, o, none⟩) n bs) {k j : Nat} (hk : k + j = n) : Bys w (some ⟨b, o + k, none⟩) j (bs.drop k) :=
  ⟨by rw [List.length_drop, h.len]; omega, fun x hx => h.dig x (List.mem_of_mem_drop hx), fun hn => by
    obtain ⟨b2, o2, e, hc⟩ := h.at (by omega)
    cases e
    exact ⟨b, o + k, rfl, fun i hi => by rw [Nat.add_assoc, hc (k + i) (by omega), getD_drop]⟩⟩
theorem dig_append {a b : List Nat} (ha : ∀ x ∈ a, x < 256) (hb : ∀ x ∈ b, x < 256) : ∀ x ∈ a ++ b, x < 256 := fun x hx => (List.mem_append.1 hx).elim (ha x) (hb x)
/-- The string of these bytes. -/
def strB (bs : List Nat) : ByteArray := strOfNums (bs.map Int.ofNat)
theorem strB_inj {xs ys : List Nat} (hx : ∀ x ∈ xs, x < 256) (hy : ∀ x ∈ ys, x < 256) (h : (strB xs).data.toList = (strB ys).data.toList) : xs = ys := by
  unfold strB at h
  rw [strOfNums_data, strOfNums_data] at h
  induction xs generalizing ys with
  | nil => cases ys with
    | nil => rfl
    | cons y ys => simp at h
  | cons x xs ih => cases ys with
    | nil => simp at h
    | cons y ys =>
      simp only [List.map_cons, List.cons.injEq] at h
      have h1 := congrArg UInt8.toNat h.1
      have hx1 := hx x (by simp)
      have hy1 := hy y (by simp)
      have e : x = y := by simpa [Nat.mod_eq_of_lt hx1, Nat.mod_eq_of_lt hy1] using h1
      rw [e, ih (fun z hz => hx z (by simp [hz])) (fun z hz => hy z (by simp [hz])) h.2]
/-- 'string(b)' of bytes. -/
theorem Bys.conv {w : World} {p : Option Addr} {n : Nat} {bs : List Nat} (h : Bys w p n bs) (c : Nat) :
    (convert 59 9 (.slice p n c)).run Try.prog w = .ok (.string (strB bs)) w := by
  have hl : (bs.map Int.ofNat).length = n := by rw [List.length_map, h.len]
  unfold strB
  rcases Nat.eq_zero_or_pos n with hn | hn
  · subst hn
    rw [List.eq_nil_of_length_eq_zero hl, run_convert_bytes_string w 59 9 5 p 0 c Try.underlying59 Try.underlying5 Try.underlying9]
    cases p with
    | none => simp [Conv.bytesToString]; rfl
    | some a => simp [Conv.bytesToString, loadCells]; rfl
  · obtain ⟨b, o, rfl, hc⟩ := h.at hn
    exact run_convert_bytes_arg (P := Try.prog) w 59 5 Try.underlying59 Try.underlying5 b o n c _ hl (fun i hi => by rw [hc i hi, map_getD]) 9 Try.underlying9
theorem Bys.other {w w' : World} {g : Nat} {p : Option Addr} {n : Nat} {bs : List Nat} (h : Bys w p n bs) (hp : 0 < n → ∀ b o, p = some ⟨b, o, none⟩ → b ≠ g) (hb : ∀ a : Addr, a.block ≠ g → w'.cell? a = w.cell? a) : Bys w' p n bs :=
  ⟨h.len, h.dig, fun hn => by
    obtain ⟨b, o, e, hc⟩ := h.inn hn
    exact ⟨b, o, e, fun i hi => (hb ⟨b, o + i, none⟩ (hp hn _ _ e)).trans (hc i hi)⟩⟩
theorem Bys.lt {w : World} {p : Option Addr} {n : Nat} {bs : List Nat} (h : Bys w p n bs) (hn : 0 < n) : ∀ b o, p = some ⟨b, o, none⟩ → b < w.heap.size := by
  intro b0 o0 e
  obtain ⟨b, o, e2, hc⟩ := h.inn hn
  rw [e] at e2
  cases e2
  exact World.block_lt_of_cell? w _ (hc 0 hn)
theorem one_cells (w : World) (x : Value) (t : TypeId) : ∀ (j : Nat) (u : Value), [x][j]? = some u → (w.alloc (.cells #[x] t)).cell? ((⟨w.heap.size, 0, none⟩ : Addr).add j) = some u := cell_one_new w x t
theorem one_u8 (x : Int) : ∀ u ∈ [Value.int .u8 x], u.oneCell' = true := by intro u hu; simp at hu; subst hu; rfl
/-- A slice of bytes, its value told. -/
def IsBys (w : World) (v : Value) (bs : List Nat) : Prop := ∃ p c, v = .slice p bs.length c ∧ Bys w p bs.length bs
end Go.Proofs.Ytekmboolfjicbaa
