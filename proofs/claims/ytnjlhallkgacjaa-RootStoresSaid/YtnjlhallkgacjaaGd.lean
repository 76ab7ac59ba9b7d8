/- A disk that is up, and what is read of it behind what is stored. -/
import Derived.Test.YtnjlhallkgacjaaStore0
namespace Go.Proofs.Ytnjlhallkgacjaa
open Go.RowKit

/-- A disk that is up and has no fuse; what is read of it. -/
structure Gd (m : Dsk) (n k : Nat) (L : List (List Nat)) : Prop where
  len : m.out.length = n
  last : m.last = L
  up : m.down = false
  fuse : m.fuse = -1
  done : m.done ≤ k
  row : m.row.length ≤ k
def zrows (n : Nat) : List (List Nat) := List.replicate n zs128
theorem Gd.new (n : Nat) : Gd (newM n) n 0 (zrows n) := ⟨by unfold newM; rw [List.length_replicate], rfl, rfl, rfl, Nat.le_refl 0, Nat.le_refl 0⟩
theorem Gd.put {m : Dsk} {n k : Nat} {L : List (List Nat)} (h : Gd m n k L) {i : Nat} (hi : i < n) (s : List Nat) (hs : s.length = 128) :
    putE m (i : Int) s = 0 ∧ Gd (putM m (i : Int) s) n (k + 1) (L.set i s) := by
  have hh : m.has (i : Int) = true := has_true (by omega) (by rw [h.len]; omega)
  have hf : m.fuse ≠ 0 := by rw [h.fuse]; decide
  have hE : putE m (i : Int) s = 0 := by unfold putE; rw [if_neg (by simp [h.up]), if_neg (by simp [hh]), if_neg (by simp [hs]), if_neg hf]
  have hM : putM m (i : Int) s = { burns m with row := m.row ++ [(i, s)] } := by unfold putM; rw [if_neg (by simp [h.up]), if_neg (by simp [hh]), if_neg (by simp [hs]), if_neg hf]; rfl
  refine ⟨hE, ?_⟩
  rw [hM]
  refine ⟨h.len, ?_, h.up, ?_, ?_, ?_⟩
  · show appAll (m.row ++ [(i, s)]) m.out = _
    rw [appAll_snoc, ← h.last]; rfl
  · show (if m.fuse = -1 then -1 else m.fuse - 1) = -1
    rw [if_pos h.fuse]
  · show m.done + 1 ≤ k + 1
    have := h.done; omega
  · show (m.row ++ [(i, s)]).length ≤ k + 1
    rw [List.length_append]
    have := h.row
    show m.row.length + 1 ≤ k + 1
    omega
theorem Gd.mono {m : Dsk} {n k : Nat} {L : List (List Nat)} (h : Gd m n k L) : Gd m n (k + 1) L := ⟨h.len, h.last, h.up, h.fuse, Nat.le_succ_of_le h.done, Nat.le_succ_of_le h.row⟩
/-- May a root be stored on a disk of so many pages? -/
def fits (r : Rt) (pages : Int) : Bool := may r && decide (r.pg ≤ pages)
def putL (c : Bool) (r : Rt) (L : List (List Nat)) : List (List Nat) := if c = true then L.set (place r.ep).toNat (block r) else L
def putC (c : Bool) : Int := if c = true then 0 else 1
theorem place_or {r : Rt} (h : Mays r) : place r.ep = 0 ∨ place r.ep = 4 := by
  rw [place_mays h]
  split <;> simp
theorem store_step {w : World} {g : Nat} {F : List Nat} {m : Dsk} {n k : Nat} {L : List (List Nat)} (h : Dk w g F m) (hg : Gd m n k L) (r : Rt) (pages : Nat) (hn : n = 4 * pages) (hk : k ≤ 1000) :
    Calls Try.prog 22 #[.pointer (some ⟨g, 0, none⟩), r.val] w fun e w' => e = .returned (.int .i64 (putC (fits r pages))) ∧ ∃ m', Went F g m' w w' ∧ Gd m' n (k + 1) (putL (fits r pages) r L) := by
  by_cases hm : may r = true
  · have hM := may_yes hm
    by_cases hp : r.pg ≤ (pages : Int)
    · have hf : fits r pages = true := by unfold fits; rw [hm, decide_eq_true hp]; rfl
      rw [hf]
      have hp0 := hM.p0
      obtain ⟨i, hi, hin⟩ : ∃ i : Nat, place r.ep = (i : Int) ∧ i < n := by
        rcases place_or hM with e | e
        · exact ⟨0, e, by omega⟩
        · exact ⟨4, e, by omega⟩
      obtain ⟨h1, h2⟩ := hg.put hin (block r) (block_len r)
      refine (store_put r w h hM (by rw [hg.len]; omega) (by have := hg.done; omega) (by have := hg.row; omega)).mono ?_
      rintro e w' ⟨rfl, hw⟩
      rw [hi] at hw ⊢
      rw [h1]
      refine ⟨rfl, _, hw, ?_⟩
      unfold putL
      rw [if_pos rfl, hi]
      exact h2
    · have hf : fits r pages = false := by unfold fits; rw [hm, decide_eq_false hp]; rfl
      rw [hf]
      refine (store_small r w h hM (by rw [hg.len]; omega)).mono ?_
      rintro e w' ⟨rfl, hb⟩
      exact ⟨rfl, m, Went.below h hb, hg.mono⟩
  · have hm0 : may r = false := by simpa using hm
    have hf : fits r pages = false := by unfold fits; rw [hm0]; rfl
    rw [hf]
    refine (store_bad r w _ hm0).mono ?_
    rintro e w' ⟨rfl, hb⟩
    exact ⟨rfl, m, Went.below h hb, hg.mono⟩
def sOf (c : Bool) (r : Rt) (s : List Nat) : List Nat := if (c && decide (place r.ep = 0)) = true then block r else s
def tOf (c : Bool) (r : Rt) (s : List Nat) : List Nat := if (c && decide (place r.ep = 0)) = true then s else if c = true then block r else s
theorem fits_mays {r : Rt} {pages : Int} (h : fits r pages = true) : Mays r ∧ r.pg ≤ pages := by
  unfold fits at h
  simp only [Bool.and_eq_true, decide_eq_true_eq] at h
  exact ⟨may_yes h.1, h.2⟩
theorem putL_len (c : Bool) (r : Rt) (L : List (List Nat)) : (putL c r L).length = L.length := by unfold putL; split <;> simp
theorem putL_sec {r : Rt} {pages : Int} {L : List (List Nat)} (hl : 16 ≤ L.length) :
    sec (putL (fits r pages) r L) 0 = sOf (fits r pages) r (sec L 0) ∧ sec (putL (fits r pages) r L) 4 = tOf (fits r pages) r (sec L 4) := by
  cases hc : fits r pages with
  | false => exact ⟨by unfold putL sOf; simp, by unfold putL tOf; simp⟩
  | true =>
    obtain ⟨hM, _⟩ := fits_mays hc
    unfold putL sOf tOf
    rw [if_pos rfl]
    rcases place_or hM with e | e
    · rw [e, sec_set _ (show (0 : Int).toNat < L.length by show 0 < _; omega), sec_set _ (show (0 : Int).toNat < L.length by show 0 < _; omega)]
      simp
    · rw [e, sec_set _ (show (4 : Int).toNat < L.length by show 4 < _; omega), sec_set _ (show (4 : Int).toNat < L.length by show 4 < _; omega)]
      simp
theorem sOf_dig (c : Bool) (r : Rt) {s : List Nat} (h : s.length = 128 ∧ ∀ x ∈ s, x < 256) : (sOf c r s).length = 128 ∧ ∀ x ∈ sOf c r s, x < 256 := by
  unfold sOf
  split
  · exact ⟨block_len r, block_dig r⟩
  · exact h
theorem tOf_dig (c : Bool) (r : Rt) {s : List Nat} (h : s.length = 128 ∧ ∀ x ∈ s, x < 256) : (tOf c r s).length = 128 ∧ ∀ x ∈ tOf c r s, x < 256 := by
  unfold tOf
  split
  · exact h
  · split
    · exact ⟨block_len r, block_dig r⟩
    · exact h
theorem zs_good : zs128.length = 128 ∧ ∀ x ∈ zs128, x < 256 := ⟨by unfold zs128; rw [List.length_replicate], zs_dig⟩
/-- What Load tells behind two roots were stored. -/
theorem load_two {m : Dsk} {n k : Nat} {a b : Rt} {pages : Nat} (h : Gd m n k (putL (fits b pages) b (putL (fits a pages) a (zrows n)))) (hn : n = 4 * pages) (h4 : 4 ≤ pages) :
    ldE m = nwE (sOf (fits b pages) b (sOf (fits a pages) a zs128)) (tOf (fits b pages) b (tOf (fits a pages) a zs128)) ∧
    ldA m = nwA (sOf (fits b pages) b (sOf (fits a pages) a zs128)) (tOf (fits b pages) b (tOf (fits a pages) a zs128)) ∧
    ldB m = nwB (sOf (fits b pages) b (sOf (fits a pages) a zs128)) (tOf (fits b pages) b (tOf (fits a pages) a zs128)) := by
  have hl0 : (zrows n).length = n := by unfold zrows; rw [List.length_replicate]
  have z : ∀ i, i < n → sec (zrows n) i = zs128 := fun i hi => by
    unfold sec zrows
    rw [List.getD_eq_getElem?_getD, List.getElem?_replicate, if_pos hi]; rfl
  have s1 := putL_sec (r := a) (pages := pages) (L := zrows n) (by rw [hl0]; omega)
  have s2 := putL_sec (r := b) (pages := pages) (L := putL (fits a pages) a (zrows n)) (by rw [putL_len, hl0]; omega)
  rw [s1.1, s1.2, z 0 (by omega), z 4 (by omega)] at s2
  have hr : ∀ i : Nat, i < n → readS m (i : Int) = sec m.last i := fun i hi => by
    unfold readS
    rw [if_neg (by simp [h.up]), if_neg (by rw [has_true (by omega) (by rw [h.len]; omega)]; simp)]; rfl
  have r0 : readS m 0 = sOf (fits b pages) b (sOf (fits a pages) a zs128) := (hr 0 (by omega)).trans ((congrArg (fun l => sec l 0) h.last).trans s2.1)
  have r4 : readS m 4 = tOf (fits b pages) b (tOf (fits a pages) a zs128) := (hr 4 (by omega)).trans ((congrArg (fun l => sec l 4) h.last).trans s2.2)
  have hs : ¬ m.out.length < 16 := by rw [h.len]; omega
  have hd : ¬ m.down = true := by simp [h.up]
  unfold ldE ldA ldB
  rw [if_neg hs, if_neg hd, if_neg hs, if_neg hd, if_neg hs, if_neg hd, r0, r4]
  exact ⟨rfl, rfl, rfl⟩
theorem load_small {m : Dsk} {n k : Nat} {L : List (List Nat)} (h : Gd m n k L) (hn : n < 16) : ldE m = 1 := by
  unfold ldE; rw [if_pos (by rw [h.len]; exact hn)]
/-- Behind a failure. -/
theorem fail_down {m : Dsk} (kp : Nat → Bool) (t a : Int) : (failM m kp t a).down = true ∧ (failM m kp t a).out.length = m.out.length := ⟨rfl, failN_len _ _ _ _⟩
theorem load_down {m : Dsk} (hd : m.down = true) (hl : 16 ≤ m.out.length) : ldE m = 9 := by
  unfold ldE; rw [if_neg (by omega), if_pos hd]
theorem put_down {m : Dsk} (hd : m.down = true) (i : Int) (s : List Nat) : putE m i s = 9 := by unfold putE; rw [if_pos hd]
end Go.Proofs.Ytnjlhallkgacjaa
