/- The law RootStores: its memory amid the walk. -/
import Derived.Test.YtnjlhallkgacjaaGd
import Derived.Test.YtnjlhallkgacjaaLTorn0
import Derived.Deep.RegionHeld3
namespace Go.Proofs.Ytnjlhallkgacjaa
open Go.ChangeShapes Go.WideShapes Go.ChangeAt Go.RowKit

/-- The law's disk, and the two roots that came in. -/
structure ST (w wr : World) (g : Nat) (m : Dsk) (a b : Rt) : Prop where
  tb : TB w wr a b
  dk : ∃ F, Dk wr g F m ∧ ∀ k ∈ F, w.heap.size ≤ k
theorem ST.more {w wr w' : World} {g : Nat} {m : Dsk} {a b : Rt} (h : ST w wr g m a b) (k : Below wr.heap.size wr w') : ST w w' g m a b := by
  obtain ⟨F, hD, hF⟩ := h.dk
  exact ⟨h.tb.more k, F, hD.below k, hF⟩
theorem RtAt.chg {w w' : World} {F F' : List Nat} {b : Nat} {r : Rt} {t : Nat} (h : RtAt w b t r) (hc : Chg F F' w w') (hT : Typed w F) (ht : t = 23 ∨ t = 29) : RtAt w' b t r :=
  hc.keep hT h (by rcases ht with rfl | rfl <;> decide)
theorem ST.went {w wr w' : World} {g : Nat} {m m' : Dsk} {a b : Rt} {F : List Nat} (h : TB w wr a b) (hD : Dk wr g F m) (hF : ∀ k ∈ F, w.heap.size ≤ k) (hw : Went F g m' wr w') : ST w w' g m' a b := by
  obtain ⟨F', hD', hC⟩ := hw
  exact ⟨⟨h.b3.chg hC hD.typed (.inl rfl), h.b4.chg hC hD.typed (.inl rfl), hC.below h.below h.below.size hF⟩, F', hD', hC.high h.below.size hF⟩
theorem ST.drew {w wr : World} {g : Nat} {m : Dsk} {a b : Rt} (h : ST w wr g m a b) : ST w wr.drew g m a b := h.more (Below.refl _ _).drew
/-- A root is stored by the law. -/
theorem ST.store {w wr : World} {g : Nat} {m : Dsk} {a b : Rt} {n k : Nat} {L : List (List Nat)} (h : ST w wr g m a b) (hg : Gd m n k L) (r : Rt) (pages : Nat) (hn : n = 4 * pages) (hk : k ≤ 1000) :
    Calls Try.prog 22 #[.pointer (some ⟨g, 0, none⟩), r.val] wr fun e w' => e = .returned (.int .i64 (putC (fits r pages))) ∧ ∃ m', ST w w' g m' a b ∧ Gd m' n (k + 1) (putL (fits r pages) r L) := by
  obtain ⟨F, hD, hF⟩ := h.dk
  refine (store_step hD hg r pages hn hk).mono ?_
  rintro e w' ⟨rfl, m', hw, hG⟩
  exact ⟨rfl, m', ST.went h.tb hD hF hw, hG⟩
theorem ST.load {w wr : World} {g : Nat} {m : Dsk} {a b : Rt} (h : ST w wr g m a b) :
    Calls Try.prog 21 #[.pointer (some ⟨g, 0, none⟩)] wr fun e w' => e = .returned (.tuple #[(ldA m).val, (ldB m).val, .int .i64 (ldE m)]) ∧ ST w w' g m a b ∧ Below wr.heap.size wr w' := by
  obtain ⟨F, hD, hF⟩ := h.dk
  refine (load_any hD).mono ?_
  rintro e w' ⟨rfl, hb⟩
  exact ⟨rfl, h.more hb, hb⟩
theorem ST.fail {w wr : World} {g : Nat} {m : Dsk} {a b : Rt} (h : ST w wr g m a b) (hl : m.row.length ≤ 1000) :
    Calls Try.prog 24 #[.pointer (some ⟨g, 0, none⟩), .slice none 0 0, .int .i64 (-1), .int .i64 0] wr fun e w' => e = .returned (.tuple #[]) ∧ ∃ m', ST w w' g m' a b ∧ m'.down = true ∧ m'.out.length = m.out.length ∧ m'.done = m.done ∧ m'.row.length ≤ 1000 := by
  obtain ⟨F, hD, hF⟩ := h.dk
  have hD0 := hD
  obtain ⟨bO, cO, bL, cL, vW, os, ls, ws, hd, rfl⟩ := hD
  refine (fail_any hd (by omega) none 0 0 (fun _ => false) (fun h => absurd h (Nat.lt_irrefl 0)) (fun h => absurd h (Nat.lt_irrefl 0)) (by omega) (-1) 0).mono ?_
  rintro e w' ⟨rfl, hw⟩
  exact ⟨rfl, _, ST.went h.tb hD0 hF hw, (fail_down _ _ _).1, (fail_down _ _ _).2, rfl, Nat.zero_le _⟩
theorem ST.storeDown {w wr : World} {g : Nat} {m : Dsk} {a b : Rt} (h : ST w wr g m a b) (r : Rt) (hm : Mays r) (hl : r.pg * 4 ≤ (m.out.length : Int)) (hd : m.down = true) (hn : m.done ≤ 1000) (hr : m.row.length ≤ 1000) :
    Calls Try.prog 22 #[.pointer (some ⟨g, 0, none⟩), r.val] wr fun e w' => e = .returned (.int .i64 9) ∧ Below w.heap.size w w' := by
  obtain ⟨F, hD, hF⟩ := h.dk
  refine (store_put r wr hD hm hl (by omega) (by omega)).mono ?_
  rintro e w' ⟨rfl, hw⟩
  rw [put_down hd]
  exact ⟨rfl, (ST.went h.tb hD hF hw).tb.below⟩
theorem nil_store (r : Rt) (w : World) : Calls Try.prog 22 #[.pointer none, r.val] w fun e w' => e = .returned (.int .i64 1) ∧ Below w.heap.size w w' := by
  by_cases hm : may r = true
  · exact store_nil r w (may_yes hm)
  · exact store_bad r w none (by simpa using hm)
end Go.Proofs.Ytnjlhallkgacjaa
