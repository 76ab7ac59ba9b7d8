/- A write that is brought out. -/
import Derived.Test.YtnjlhallkgacjaaBurn
import Derived.Deep.RegionHeld3
import Derived.Deep.DrawnRows
import Derived.Deep.AppendLies
namespace Go.Proofs.Ytnjlhallkgacjaa
open Go.RowKit

/-- What is written again shows nothing of what was there. -/
theorem appN_over (l : List Wr) (L : List (List Nat)) (i : Nat) (s : List Nat) : ∀ j, appN l (L.set i s) j = appN l L j ∨ (appN l (L.set i s) j = (appN l L j).set i s ∧ ∀ r, r < j → (wr l r).1 ≠ i)
  | 0 => .inr ⟨rfl, fun r hr => absurd hr (Nat.not_lt_zero r)⟩
  | j + 1 => by
    rcases appN_over l L i s j with h | ⟨h, hr⟩
    · left; show (appN l (L.set i s) j).set _ _ = (appN l L j).set _ _; rw [h]
    · by_cases e : (wr l j).1 = i
      · left; show (appN l (L.set i s) j).set _ _ = (appN l L j).set _ _; rw [h, e, List.set_set]
      · right
        refine ⟨?_, fun r hr2 => ?_⟩
        · show (appN l (L.set i s) j).set _ _ = ((appN l L j).set _ _).set _ _
          rw [h, List.set_comm _ _ (Ne.symm e)]
        · rcases Nat.lt_or_ge r j with h3 | h3
          · exact hr r h3
          · obtain rfl : r = j := by omega
            exact e
theorem last_bring (m : Dsk) (k : Nat) (hk : k < m.row.length) (o : Option Nat) : Dsk.last { m with out := bring m.out (wr m.row k) o } = m.last := by
  cases o with
  | none => rfl
  | some a =>
    rcases appN_over m.row m.out (wr m.row k).1 (tear a (wr m.row k).2 (sec m.out (wr m.row k).1)) m.row.length with h | ⟨_, h⟩
    · exact h
    · exact absurd rfl (h k hk)
def brung (m : Dsk) (k : Nat) (o : Option Nat) : Dsk := { m with out := bring m.out (wr m.row k) o }
theorem Ok.brung {m : Dsk} (h : Ok m) {k : Nat} (hk : k < m.row.length) {o : Option Nat} (ho : ∀ a, o = some a → a ≤ 128) : Ok (brung m k o) :=
  ⟨Secs128.bring h.out (h.row _ (wr_mem hk)) ho, fun x hx => by
    have := h.row x hx
    show x.1 < (bring _ _ _).length ∧ _
    rw [bring_len]; exact this, h.fuse0, h.fuse1⟩
section
variable {w : World} {g bO cO bL cL : Nat} {vW : Value} {os ls : List Value} {ws : List Vw} {m : Dsk}
/-- Another block's worth of bytes is laid at a sector. -/
theorem Dk0.brung (h : Dk0 w g bO cO bL cL vW os ls ws m) {k a : Nat} (hk : k < m.row.length) (ha : a ≤ 128) {w1 : World} (hb : Below w.heap.size w w1) {v : Value} (hv : Sec w1 v (tear a (wr m.row k).2 (sec m.out (wr m.row k).1))) :
    Dk0 (w1.setCell ⟨bO, (wr m.row k).1, none⟩ v) g bO cO bL cL vW (os.set (wr m.row k).1 v) ls ws (brung m k (some a)) ∧ Chg (foot g bO bL vW) (foot g bO bL vW) w (w1.setCell ⟨bO, (wr m.row k).1, none⟩ v) := by
  have hok := h.ok.brung hk (o := some a) (fun b e => by cases e; exact ha)
  have hi := (h.ok.row _ (wr_mem hk)).1
  have h1 := h.stay (Chg.of_below (F := []) hb) (fun k hk => by cases hk) (fun k _ hk => by cases hk)
  have hlen : (Go.Proofs.Ytnjlhallkgacjaa.brung m k (some a)).out.length = m.out.length := bring_len m.out (wr m.row k) (some a)
  have hlast : (Go.Proofs.Ytnjlhallkgacjaa.brung m k (some a)).last = m.last := last_bring m k hk _
  have hc : Chg [bO] [bO] w1 (w1.setCell ⟨bO, (wr m.row k).1, none⟩ v) := Chg.setCell (by simp) v w1
  have hT : Typed w1 [bO] := fun k hk => by
    obtain rfl := List.mem_singleton.1 hk
    obtain ⟨cur, hc⟩ := own_head h1.ro rfl; exact ⟨_, _, _, hc, .inr (.inl rfl)⟩
  have hs : ∀ k, k ≠ bO → k < w1.heap.size → (w1.setCell ⟨bO, (wr m.row k).1, none⟩ v).heap[k]? = w1.heap[k]? := fun k hk hl => heap_setCell_other _ _ _ _ hk
  refine ⟨⟨?_, ?_, ?_, ?_, ?_, ?_, ?_, h.nil_, h.ne, hok⟩, ?_⟩
  · rw [hlen]; exact (heap_setCell_other _ _ _ _ h.ne_gO).trans h1.hd
  · rw [hlen]; exact (h1.ro.stored _ v).1
  · rw [hlen]; exact own_other h1.rl (fun k hk => heap_setCell_other _ _ _ _ (by cases hk; exact Ne.symm h.ne))
  · exact own_other h1.rw_ (fun k hk => heap_setCell_other _ _ _ _ (Ne.symm (h.ne_OW _ hk)))
  · show Secs _ _ (m.out.set _ _)
    exact (h1.so.set hi hv).chg hc hT
  · rw [hlast]; exact h1.sl.chg hc hT
  · exact h1.sw.chg hc hT
  · exact (Chg.of_below hb).trans (Chg.setCell (by simp [foot]) v w1)

set_option maxHeartbeats 1600000 in
theorem bringOut_any (h : Dk0 w g bO cO bL cL vW os ls ws m) (k a : Nat) (hk : k < m.row.length) (ha : a ≤ 128) (hl : m.row.length ≤ 4611686018427387904) :
    Calls Try.prog 38 #[.pointer (some ⟨g, 0, none⟩), .int .i64 (k : Int), .int .i64 (a : Int)] w fun e w' => e = .returned (.tuple #[]) ∧ ∃ v, Stays g bO cO bL cL vW (os.set (wr m.row k).1 v) ls ws (brung m k (some a)) w w' := by
  have HH := Lib.hid h
  obtain ⟨hi, hs, hd⟩ := h.ok.row _ (wr_mem hk)
  obtain ⟨hvi, hvs⟩ := h.sw.at_ k hk
  obtain ⟨bD, cD, hvD, hBD, hltD, hD1, hD2⟩ := hvs.bys
  obtain ⟨bS, cS, hvS, hBS, hltS, hS1, hS2⟩ := (h.so.at_ _ hi).bys
  have hc0 := h.c0
  have hc2 := h.c2
  have hfl := flat_get ws k (by rw [h.sw.len]; exact hk)
  rw [hvi, hvD] at hfl
  have hrw := h.rw_
  obtain ⟨bW, cW, rfl, _⟩ := hrw.form (by omega)
  have hw0 := hrw.cellAt (k * 2) (by omega)
  have hw1 := hrw.cellAt (k * 2 + 1) (by omega)
  rw [hfl.1] at hw0
  rw [hfl.2] at hw1
  have hoi := h.ro.cellAt (wr m.row k).1 (by omega)
  rw [vAt_get (by rw [h.so.len]; exact hi), hvS] at hoi
  have hfz := h.ro.frozenAt (wr m.row k).1
  have hcW := hrw.2
  have HBD := Lib.hid hBD
  have HBS := Lib.hid hBS
  have HNE := Lib.hid h.ne_gO
  have hkl : (k : Int) < (m.row.length : Int) := by omega
  have hil : ((wr m.row k).1 : Int) < (m.out.length : Int) := by omega
  have HX : Hid (∀ w1 v, Below w.heap.size w w1 → Sec w1 v (tear a (wr m.row k).2 (sec m.out (wr m.row k).1)) → ∃ u, Stays g bO cO bL cL (.slice (some ⟨bW, 0, none⟩) m.row.length cW) (os.set (wr m.row k).1 u) ls ws (brung m k (some a)) w (w1.setCell ⟨bO, (wr m.row k).1, none⟩ v)) :=
    Lib.hid (fun w1 v hb hv => ⟨v, h.brung hk ha hb hv⟩)
  have hgW := h.lt
  have hOl : bO < w.heap.size := by obtain ⟨cur, hc⟩ := own_head h.ro rfl; exact lt_of_block hc
  clear hfl hrw hcW hBD hBS h hvi hvs hvD hvS
  have HT : Hid (tear a (wr m.row k).2 (sec m.out (wr m.row k).1) = (wr m.row k).2.take a ++ (sec m.out (wr m.row k).1).drop a) := Lib.hid rfl
  have HTL : Hid ((tear a (wr m.row k).2 (sec m.out (wr m.row k).1)).length = 128) := Lib.hid (tear_len _ _ _ hs HBS.out.len ha)
  have HTD : Hid (∀ d ∈ tear a (wr m.row k).2 (sec m.out (wr m.row k).1), d < 256) := Lib.hid (tear_dig _ _ _ hd HBS.out.dig)
  clear hs hd
  generalize (wr m.row k).1 = i at *
  generalize (wr m.row k).2 = t at *
  generalize sec m.out i = s at *
  generalize tear a t s = r at *
  have HW2 : Hid (Below w.heap.size w (w.alloc (.cells #[.int .i64 (i : Int), .slice (some ⟨bD, 0, none⟩) 128 cD] 81))) := Lib.hid ((Below.refl _ _).alloc (Nat.le_refl _) _)
  have HN1 : Hid ((w.alloc (.cells #[.int .i64 (i : Int), .slice (some ⟨bD, 0, none⟩) 128 cD] 81)).cell? ⟨w.heap.size, 0, none⟩ = some (.int .i64 (i : Int))) := Lib.hid (World.cell?_alloc_new w _ _ 0)
  have HN2 : Hid ((w.alloc (.cells #[.int .i64 (i : Int), .slice (some ⟨bD, 0, none⟩) 128 cD] 81)).cell? ⟨w.heap.size, 1, none⟩ = some (.slice (some ⟨bD, 0, none⟩) 128 cD)) := Lib.hid (World.cell?_alloc_new w _ _ 1)
  go_enter Try.func38, Try.ntmps38
  go_wp2_with fail
  generalize w.alloc (.cells #[.int .i64 (i : Int), .slice (some ⟨bD, 0, none⟩) 128 cD] 81) = w2 at *
  have n0 : w2.cell? ⟨g, 0, none⟩ = some (.slice (some ⟨bO, 0, none⟩) m.out.length cO) := (HW2.out.cell (p := ⟨g, 0, none⟩) hgW).trans hc0
  have n3 : w2.cell? ⟨bO, i, none⟩ = some (.slice (some ⟨bS, 0, none⟩) 128 cS) := (HW2.out.cell (p := ⟨bO, i, none⟩) hOl).trans hoi
  have nf : w2.frozen? ⟨bO, i, none⟩ = false := (HW2.out.frozen (p := ⟨bO, i, none⟩) hOl).trans hfz
  have n1 := HN1.out
  have n2 := HN2.out
  clear HN1 HN2 hc0 hc2 hw0 hw1 hoi hfz
  have hsz : w.heap.size < w2.heap.size := block_lt_of_cell n1
  obtain ⟨H, hH⟩ : ∃ H, Hid (w.heap.size = H) := ⟨_, Lib.hid rfl⟩
  have HC : ∀ (p : Option Addr), Bys w p (128 - a) (s.drop a) → Fit p (128 - a) (cS - a) → Hid (∀ w1, Below w2.heap.size w2 w1 → Calls Try.prog 46 #[.slice (some ⟨w1.heap.size, 0, none⟩) 2 2] (w1.alloc (.cells #[.slice (some ⟨bD, 0, none⟩) a cD, .slice p (128 - a) (cS - a)] 45)) fun e w' =>
      ∃ b c, e = .returned (.slice (some ⟨b, 0, none⟩) 128 c) ∧ Hid (Sec w' (.slice (some ⟨b, 0, none⟩) 128 c) r ∧ Below w2.heap.size w2 w')) := fun p hp hf => Lib.hid (fun w1 hb =>
    (two_made w2 w1 (some ⟨bD, 0, none⟩) p a cD (128 - a) (cS - a) _ _ hb ((HBD.out.take ha).below HW2.out) (hp.below HW2.out) ⟨by omega, fun h => by cases h⟩ hf (by omega)).mono (by
      rintro e w' ⟨⟨v, rfl, q, c, rfl, ho⟩, hb2⟩
      rw [← HT.out, HTL.out] at ho
      rw [← HT.out, HTL.out]
      have hS := Sec.of_own ho HTD.out
      obtain ⟨b, c, e, _⟩ := hS.bys
      rw [e] at hS ⊢
      exact ⟨b, c, rfl, hS, hb2⟩))
  have HW2' := Lib.hid (show ∀ w3, Below w2.heap.size w2 w3 → Below w.heap.size w w3 from fun w3 h3 => HW2.out.trans (h3.mono HW2.out.size))
  by_cases hac : cS = a
  · have HCc := HC (some ⟨bS, 0, none⟩) (by
      obtain rfl : a = 128 := by omega
      rw [List.drop_of_length_le (by rw [HBS.out.len]; omega)]
      exact Bys.zero _ _) ⟨by omega, fun h => by cases h⟩
    clear HC
    rw [show 128 - a = 0 by omega, show cS - a = 0 by omega] at HCc
    subst hac
    have b1 : (0 : Int) ≤ (cS : Int) := by omega
    have b2 : (cS : Int) ≤ 128 := by omega
    have b3 : (cS : Int) ≤ (cD : Int) := by omega
    have b7 : (0 : Int) ≤ (i : Int) := by omega
    have hgs : g < w2.heap.size := Nat.lt_trans hgW hsz
    have hos : bO < w2.heap.size := Nat.lt_trans hOl hsz
    refine wp_region_held_drew (S := (fun w' => w'.cell? ⟨g, 0, none⟩ = some (.slice (some ⟨bO, 0, none⟩) m.out.length cO) ∧ w'.cell? ⟨w.heap.size, 0, none⟩ = some (.int .i64 (i : Int)) ∧ w'.cell? ⟨w.heap.size, 1, none⟩ = some (.slice (some ⟨bD, 0, none⟩) 128 cD))) (by kernel_rfl) ⟨n0, n1, n2⟩ (fun hHeld => ?_)
    refine wpAnyH_take (i := 0) (v := ?_) rfl (by kernel_rfl) (by kernel_rfl) (by kernel_rfl) (fun _ _ _ h => h) (Or.inl ⟨by rfl, ?_⟩) (by assumption) ?_
    rotate_left
    · intro w hSw
      try dsimp only at hSw
      go_simp
      all_goals (with_reducible rfl)
    try simp only [Act.put]
    try simp only [List.setIfInBounds_toArray]
    try simp only [List.set]
    refine wpAnyH_take (i := 1) (v := ?_) rfl (by kernel_rfl) (by kernel_rfl) (by kernel_rfl) (fun _ _ _ h => h) (Or.inl ⟨by rfl, ?_⟩) (by assumption) ?_
    rotate_left
    · intro w hSw
      try dsimp only at hSw
      go_simp
      all_goals (with_reducible rfl)
    try simp only [Act.put]
    try simp only [List.setIfInBounds_toArray]
    try simp only [List.set]
    refine wpAnyH_take (i := 2) (v := ?_) rfl (by kernel_rfl) (by kernel_rfl) (by kernel_rfl) (fun _ _ _ h => h) (Or.inl ⟨by rfl, ?_⟩) (by assumption) ?_
    rotate_left
    · intro w hSw
      try dsimp only at hSw
      go_simp
      all_goals (with_reducible rfl)
    try simp only [Act.put]
    try simp only [List.setIfInBounds_toArray]
    try simp only [List.set]
    refine wpAnyH_take (i := 3) (v := ?_) rfl (by kernel_rfl) (by kernel_rfl) (by kernel_rfl) (fun _ _ _ h => h) (Or.inl ⟨by rfl, ?_⟩) (by assumption) ?_
    rotate_left
    · intro w hSw
      try dsimp only at hSw
      go_simp
      all_goals (with_reducible rfl)
    try simp only [Act.put]
    try simp only [List.setIfInBounds_toArray]
    try simp only [List.set]
    refine wpAnyH_take (i := 4) (v := ?_) rfl (by kernel_rfl) (by kernel_rfl) (by kernel_rfl) (fun _ _ _ h => h) (Or.inl ⟨by rfl, ?_⟩) (by assumption) ?_
    rotate_left
    · intro w hSw
      try dsimp only at hSw
      go_simp
      all_goals (with_reducible rfl)
    try simp only [Act.put]
    try simp only [List.setIfInBounds_toArray]
    try simp only [List.set]
    refine wpAnyH_take (i := 5) (v := ?_) rfl (by kernel_rfl) (by kernel_rfl) (by kernel_rfl) (fun _ _ _ h => h) (Or.inl ⟨by rfl, ?_⟩) (by assumption) ?_
    rotate_left
    · intro w hSw
      try dsimp only at hSw
      go_simp
      all_goals (with_reducible rfl)
    try simp only [Act.put]
    try simp only [List.setIfInBounds_toArray]
    try simp only [List.set]
    refine wpAnyH_take (i := 6) (v := ?_) rfl (by kernel_rfl) (by kernel_rfl) (by kernel_rfl) (fun _ _ _ h => h) (Or.inl ⟨by rfl, ?_⟩) (by assumption) ?_
    rotate_left
    · intro w hSw
      try dsimp only at hSw
      go_simp
      all_goals (with_reducible rfl)
    try simp only [Act.put]
    try simp only [List.setIfInBounds_toArray]
    try simp only [List.set]
    refine wpAnyH_take (i := 7) (v := ?_) rfl (by kernel_rfl) (by kernel_rfl) (by kernel_rfl) (fun _ _ _ h => h) (Or.inl ⟨by rfl, ?_⟩) (by assumption) ?_
    rotate_left
    · intro w hSw
      try dsimp only at hSw
      go_simp
      all_goals (with_reducible rfl)
    try simp only [Act.put]
    try simp only [List.setIfInBounds_toArray]
    try simp only [List.set]
    refine wpAnyH_take (i := 8) (v := ?_) rfl (by kernel_rfl) (by kernel_rfl) (by kernel_rfl) (fun _ _ _ h => h) (Or.inl ⟨by rfl, ?_⟩) (by assumption) ?_
    rotate_left
    · intro w hSw
      try dsimp only at hSw
      go_simp
      all_goals (with_reducible rfl)
    try simp only [Act.put]
    try simp only [List.setIfInBounds_toArray]
    try simp only [List.set]
    refine wpAnyH_take (i := 9) (v := ?_) rfl (by kernel_rfl) (by kernel_rfl) (by kernel_rfl) (fun _ _ _ h => h) (Or.inl ⟨by rfl, ?_⟩) (by assumption) ?_
    rotate_left
    · intro w hSw
      try dsimp only at hSw
      go_simp
      all_goals (with_reducible rfl)
    try simp only [Act.put]
    try simp only [List.setIfInBounds_toArray]
    try simp only [List.set]
    refine wpAnyH_take (i := 10) (v := ?_) rfl (by kernel_rfl) (by kernel_rfl) (by kernel_rfl) (fun _ _ _ h => h) (Or.inl ⟨by rfl, ?_⟩) (by assumption) ?_
    rotate_left
    · intro w hSw
      try dsimp only at hSw
      go_simp
      all_goals (with_reducible rfl)
    try simp only [Act.put]
    try simp only [List.setIfInBounds_toArray]
    try simp only [List.set]
    refine wpAnyH_take (i := 11) (v := ?_) rfl (by kernel_rfl) (by kernel_rfl) (by kernel_rfl) (fun _ _ _ h => h) (Or.inl ⟨by rfl, ?_⟩) (by assumption) ?_
    rotate_left
    · intro w hSw
      try dsimp only at hSw
      go_simp
      all_goals (with_reducible rfl)
    try simp only [Act.put]
    try simp only [List.setIfInBounds_toArray]
    try simp only [List.set]
    refine wpAnyH_take (i := 12) (v := ?_) rfl (by kernel_rfl) (by kernel_rfl) (by kernel_rfl) (fun _ _ _ h => h) (Or.inl ⟨by rfl, ?_⟩) (by assumption) ?_
    rotate_left
    · intro w hSw
      try dsimp only at hSw
      go_simp
      all_goals (with_reducible rfl)
    try simp only [Act.put]
    try simp only [List.setIfInBounds_toArray]
    try simp only [List.set]
    refine wpAnyH_take (i := 13) (v := ?_) rfl (by kernel_rfl) (by kernel_rfl) (by kernel_rfl) (fun _ _ _ h => h) (Or.inl ⟨by rfl, ?_⟩) (by assumption) ?_
    rotate_left
    · intro w hSw
      try dsimp only at hSw
      go_simp
      all_goals (with_reducible rfl)
    try simp only [Act.put]
    try simp only [List.setIfInBounds_toArray]
    try simp only [List.set]
    refine wpAnyH_take (i := 14) (v := ?_) rfl (by kernel_rfl) (by kernel_rfl) (by kernel_rfl) (fun _ _ _ h => h) (Or.inl ⟨by rfl, ?_⟩) (by assumption) ?_
    rotate_left
    · intro w hSw
      try dsimp only at hSw
      go_simp
      all_goals (with_reducible rfl)
    try simp only [Act.put]
    try simp only [List.setIfInBounds_toArray]
    try simp only [List.set]
    refine wpAnyH_take (i := 15) (v := ?_) rfl (by kernel_rfl) (by kernel_rfl) (by kernel_rfl) (fun _ _ _ h => h) (Or.inl ⟨by rfl, ?_⟩) (by assumption) ?_
    rotate_left
    · intro w hSw
      try dsimp only at hSw
      go_simp
      all_goals (with_reducible rfl)
    try simp only [Act.put]
    try simp only [List.setIfInBounds_toArray]
    try simp only [List.set]
    refine wpAnyH_take (i := 16) (v := ?_) rfl (by kernel_rfl) (by kernel_rfl) (by kernel_rfl) (fun _ _ _ h => h) (Or.inl ⟨by rfl, ?_⟩) (by assumption) ?_
    rotate_left
    · intro w hSw
      try dsimp only at hSw
      go_simp
      all_goals (with_reducible rfl)
    try simp only [Act.put]
    try simp only [List.setIfInBounds_toArray]
    try simp only [List.set]
    refine wpAnyH_take (i := 18) (v := ?_) rfl (by kernel_rfl) (by kernel_rfl) (by kernel_rfl) (fun _ _ _ h => h) (Or.inl ⟨by rfl, ?_⟩) (by assumption) ?_
    rotate_left
    · intro w hSw
      try dsimp only at hSw
      go_simp
      all_goals (with_reducible rfl)
    try simp only [Act.put]
    try simp only [List.setIfInBounds_toArray]
    try simp only [List.set]
    refine wpAnyH_ready (rs := [17]) (by kernel_rfl) (by simp) ?_
    refine AllReadyH.cons rfl (fun K hK => ?_) AllReadyH.nil
    go_simp
    refine hK.out _ _ ?_ (fun hHeld => ?_)
    · exact ⟨n0, n1, n2⟩
    clear hK K
    try simp only [Act.put]
    try simp only [List.setIfInBounds_toArray]
    try simp only [List.set]
    refine wpAnyH_take (i := 19) (v := ?_) rfl (by kernel_rfl) (by kernel_rfl) (by kernel_rfl) (fun _ _ _ h => h) (Or.inl ⟨by rfl, ?_⟩) (by assumption) ?_
    rotate_left
    · intro w hSw
      try dsimp only at hSw
      go_simp
      all_goals (with_reducible rfl)
    try simp only [Act.put]
    try simp only [List.setIfInBounds_toArray]
    try simp only [List.set]
    refine wpAnyH_ready (rs := [20]) (by kernel_rfl) (by simp) ?_
    refine AllReadyH.cons rfl (fun K hK => ?_) AllReadyH.nil
    go_simp
    refine hK.out _ _ ?_ (fun hHeld => ?_)
    · exact ⟨(World.cell?_alloc_lt _ _ _ hgs).trans n0, (World.cell?_alloc_lt _ _ _ hsz).trans n1, (World.cell?_alloc_lt _ _ _ hsz).trans n2⟩
    clear hK K
    try simp only [Act.put]
    try simp only [List.setIfInBounds_toArray]
    try simp only [List.set]
    refine wpAnyH_ready (rs := [21]) (by kernel_rfl) (by simp) ?_
    refine AllReadyH.cons rfl (fun K hK => ?_) AllReadyH.nil
    go_simp
    refine (HCc.out _ (by exact (Below.refl _ _).drew)).mono ?_
    rintro e w3 ⟨bN, cN, rfl, H3⟩
    have k0 := (H3.out.2.cell (p := ⟨g, 0, none⟩) hgs).trans n0
    have k1 := (H3.out.2.cell (p := ⟨bO, i, none⟩) hos).trans n3
    have k2 := (H3.out.2.cell (p := ⟨w.heap.size, 0, none⟩) hsz).trans n1
    have k3 := (H3.out.2.cell (p := ⟨w.heap.size, 1, none⟩) hsz).trans n2
    have k4 := (H3.out.2.frozen (p := ⟨bO, i, none⟩) hos).trans nf
    clear hHeld
    go_simp
    refine hK.out _ _ ?_ (fun hHeld => ?_)
    · exact ⟨k0, k2, k3⟩
    clear hK K
    try simp only [Act.put]
    try simp only [List.setIfInBounds_toArray]
    try simp only [List.set]
    refine wpAnyH_take (i := 22) (v := ?_) rfl (by kernel_rfl) (by kernel_rfl) (by kernel_rfl) (fun _ _ _ h => h) (Or.inl ⟨by rfl, ?_⟩) (by assumption) ?_
    rotate_left
    · intro w hSw
      try dsimp only at hSw
      go_simp
      all_goals (with_reducible rfl)
    try simp only [Act.put]
    try simp only [List.setIfInBounds_toArray]
    try simp only [List.set]
    refine wpAnyH_ready (rs := [23]) (by kernel_rfl) (by simp) ?_
    refine AllReadyH.cons rfl (fun K hK => ?_) AllReadyH.nil
    go_simp
    refine hK.out _ _ ?_ (fun hHeld => ?_)
    · exact ⟨(World.cell?_setCell_far _ _ _ _ (Ne.symm HNE.out)).trans k0, (World.cell?_setCell_far _ _ _ _ (Nat.ne_of_lt hOl)).trans k2, (World.cell?_setCell_far _ _ _ _ (Nat.ne_of_lt hOl)).trans k3⟩
    clear hK K
    try simp only [Act.put]
    try simp only [List.setIfInBounds_toArray]
    try simp only [List.set]
    refine wpAnyH_done (by kernel_rfl) ?_ _
    go_end0
    exact ⟨rfl, HX.out _ _ (HW2'.out _ H3.out.2) H3.out.1⟩
  · have HCc := HC (some ⟨bS, a, none⟩) (by
      have := HBS.out.drop (k := a) (j := 128 - a) (by omega)
      rw [Nat.zero_add] at this; exact this) ⟨by omega, fun h => by cases h⟩
    clear HC
    have hac2 : (a : Int) < (cS : Int) := by omega
    have b1 : (0 : Int) ≤ (a : Int) := by omega
    have b2 : (a : Int) ≤ 128 := by omega
    have b3 : (a : Int) ≤ (cD : Int) := by omega
    have b4 : (a : Int) ≤ (cS : Int) := by omega
    have b7 : (0 : Int) ≤ (i : Int) := by omega
    have q1 : (⟨bO, i, none⟩ : Addr).block ≠ (⟨g, 0, none⟩ : Addr).block := Ne.symm HNE.out
    have q2 : bO ≠ w.heap.size := Nat.ne_of_lt hOl
    have hgs : g < w2.heap.size := Nat.lt_trans hgW hsz
    have hos : bO < w2.heap.size := Nat.lt_trans hOl hsz
    refine wp_region_held_drew (S := (fun w' => w'.cell? ⟨g, 0, none⟩ = some (.slice (some ⟨bO, 0, none⟩) m.out.length cO) ∧ w'.cell? ⟨w.heap.size, 0, none⟩ = some (.int .i64 (i : Int)) ∧ w'.cell? ⟨w.heap.size, 1, none⟩ = some (.slice (some ⟨bD, 0, none⟩) 128 cD))) (by kernel_rfl) ⟨n0, n1, n2⟩ (fun hHeld => ?_)
    refine wpAnyH_take (i := 0) (v := ?_) rfl (by kernel_rfl) (by kernel_rfl) (by kernel_rfl) (fun _ _ _ h => h) (Or.inl ⟨by rfl, ?_⟩) (by assumption) ?_
    rotate_left
    · intro w hSw
      try dsimp only at hSw
      go_simp
      all_goals (with_reducible rfl)
    try simp only [Act.put]
    try simp only [List.setIfInBounds_toArray]
    try simp only [List.set]
    refine wpAnyH_take (i := 1) (v := ?_) rfl (by kernel_rfl) (by kernel_rfl) (by kernel_rfl) (fun _ _ _ h => h) (Or.inl ⟨by rfl, ?_⟩) (by assumption) ?_
    rotate_left
    · intro w hSw
      try dsimp only at hSw
      go_simp
      all_goals (with_reducible rfl)
    try simp only [Act.put]
    try simp only [List.setIfInBounds_toArray]
    try simp only [List.set]
    refine wpAnyH_take (i := 2) (v := ?_) rfl (by kernel_rfl) (by kernel_rfl) (by kernel_rfl) (fun _ _ _ h => h) (Or.inl ⟨by rfl, ?_⟩) (by assumption) ?_
    rotate_left
    · intro w hSw
      try dsimp only at hSw
      go_simp
      all_goals (with_reducible rfl)
    try simp only [Act.put]
    try simp only [List.setIfInBounds_toArray]
    try simp only [List.set]
    refine wpAnyH_take (i := 3) (v := ?_) rfl (by kernel_rfl) (by kernel_rfl) (by kernel_rfl) (fun _ _ _ h => h) (Or.inl ⟨by rfl, ?_⟩) (by assumption) ?_
    rotate_left
    · intro w hSw
      try dsimp only at hSw
      go_simp
      all_goals (with_reducible rfl)
    try simp only [Act.put]
    try simp only [List.setIfInBounds_toArray]
    try simp only [List.set]
    refine wpAnyH_take (i := 4) (v := ?_) rfl (by kernel_rfl) (by kernel_rfl) (by kernel_rfl) (fun _ _ _ h => h) (Or.inl ⟨by rfl, ?_⟩) (by assumption) ?_
    rotate_left
    · intro w hSw
      try dsimp only at hSw
      go_simp
      all_goals (with_reducible rfl)
    try simp only [Act.put]
    try simp only [List.setIfInBounds_toArray]
    try simp only [List.set]
    refine wpAnyH_take (i := 5) (v := ?_) rfl (by kernel_rfl) (by kernel_rfl) (by kernel_rfl) (fun _ _ _ h => h) (Or.inl ⟨by rfl, ?_⟩) (by assumption) ?_
    rotate_left
    · intro w hSw
      try dsimp only at hSw
      go_simp
      all_goals (with_reducible rfl)
    try simp only [Act.put]
    try simp only [List.setIfInBounds_toArray]
    try simp only [List.set]
    refine wpAnyH_take (i := 6) (v := ?_) rfl (by kernel_rfl) (by kernel_rfl) (by kernel_rfl) (fun _ _ _ h => h) (Or.inl ⟨by rfl, ?_⟩) (by assumption) ?_
    rotate_left
    · intro w hSw
      try dsimp only at hSw
      go_simp
      all_goals (with_reducible rfl)
    try simp only [Act.put]
    try simp only [List.setIfInBounds_toArray]
    try simp only [List.set]
    refine wpAnyH_take (i := 7) (v := ?_) rfl (by kernel_rfl) (by kernel_rfl) (by kernel_rfl) (fun _ _ _ h => h) (Or.inl ⟨by rfl, ?_⟩) (by assumption) ?_
    rotate_left
    · intro w hSw
      try dsimp only at hSw
      go_simp
      all_goals (with_reducible rfl)
    try simp only [Act.put]
    try simp only [List.setIfInBounds_toArray]
    try simp only [List.set]
    refine wpAnyH_take (i := 8) (v := ?_) rfl (by kernel_rfl) (by kernel_rfl) (by kernel_rfl) (fun _ _ _ h => h) (Or.inl ⟨by rfl, ?_⟩) (by assumption) ?_
    rotate_left
    · intro w hSw
      try dsimp only at hSw
      go_simp
      all_goals (with_reducible rfl)
    try simp only [Act.put]
    try simp only [List.setIfInBounds_toArray]
    try simp only [List.set]
    refine wpAnyH_take (i := 9) (v := ?_) rfl (by kernel_rfl) (by kernel_rfl) (by kernel_rfl) (fun _ _ _ h => h) (Or.inl ⟨by rfl, ?_⟩) (by assumption) ?_
    rotate_left
    · intro w hSw
      try dsimp only at hSw
      go_simp
      all_goals (with_reducible rfl)
    try simp only [Act.put]
    try simp only [List.setIfInBounds_toArray]
    try simp only [List.set]
    refine wpAnyH_take (i := 10) (v := ?_) rfl (by kernel_rfl) (by kernel_rfl) (by kernel_rfl) (fun _ _ _ h => h) (Or.inl ⟨by rfl, ?_⟩) (by assumption) ?_
    rotate_left
    · intro w hSw
      try dsimp only at hSw
      go_simp
      all_goals (with_reducible rfl)
    try simp only [Act.put]
    try simp only [List.setIfInBounds_toArray]
    try simp only [List.set]
    refine wpAnyH_take (i := 11) (v := ?_) rfl (by kernel_rfl) (by kernel_rfl) (by kernel_rfl) (fun _ _ _ h => h) (Or.inl ⟨by rfl, ?_⟩) (by assumption) ?_
    rotate_left
    · intro w hSw
      try dsimp only at hSw
      go_simp
      all_goals (with_reducible rfl)
    try simp only [Act.put]
    try simp only [List.setIfInBounds_toArray]
    try simp only [List.set]
    refine wpAnyH_take (i := 12) (v := ?_) rfl (by kernel_rfl) (by kernel_rfl) (by kernel_rfl) (fun _ _ _ h => h) (Or.inl ⟨by rfl, ?_⟩) (by assumption) ?_
    rotate_left
    · intro w hSw
      try dsimp only at hSw
      go_simp
      all_goals (with_reducible rfl)
    try simp only [Act.put]
    try simp only [List.setIfInBounds_toArray]
    try simp only [List.set]
    refine wpAnyH_take (i := 13) (v := ?_) rfl (by kernel_rfl) (by kernel_rfl) (by kernel_rfl) (fun _ _ _ h => h) (Or.inl ⟨by rfl, ?_⟩) (by assumption) ?_
    rotate_left
    · intro w hSw
      try dsimp only at hSw
      go_simp
      all_goals (with_reducible rfl)
    try simp only [Act.put]
    try simp only [List.setIfInBounds_toArray]
    try simp only [List.set]
    refine wpAnyH_take (i := 14) (v := ?_) rfl (by kernel_rfl) (by kernel_rfl) (by kernel_rfl) (fun _ _ _ h => h) (Or.inl ⟨by rfl, ?_⟩) (by assumption) ?_
    rotate_left
    · intro w hSw
      try dsimp only at hSw
      go_simp
      all_goals (with_reducible rfl)
    try simp only [Act.put]
    try simp only [List.setIfInBounds_toArray]
    try simp only [List.set]
    refine wpAnyH_take (i := 15) (v := ?_) rfl (by kernel_rfl) (by kernel_rfl) (by kernel_rfl) (fun _ _ _ h => h) (Or.inl ⟨by rfl, ?_⟩) (by assumption) ?_
    rotate_left
    · intro w hSw
      try dsimp only at hSw
      go_simp
      all_goals (with_reducible rfl)
    try simp only [Act.put]
    try simp only [List.setIfInBounds_toArray]
    try simp only [List.set]
    refine wpAnyH_take (i := 16) (v := ?_) rfl (by kernel_rfl) (by kernel_rfl) (by kernel_rfl) (fun _ _ _ h => h) (Or.inl ⟨by rfl, ?_⟩) (by assumption) ?_
    rotate_left
    · intro w hSw
      try dsimp only at hSw
      go_simp
      all_goals (with_reducible rfl)
    try simp only [Act.put]
    try simp only [List.setIfInBounds_toArray]
    try simp only [List.set]
    refine wpAnyH_take (i := 18) (v := ?_) rfl (by kernel_rfl) (by kernel_rfl) (by kernel_rfl) (fun _ _ _ h => h) (Or.inl ⟨by rfl, ?_⟩) (by assumption) ?_
    rotate_left
    · intro w hSw
      try dsimp only at hSw
      go_simp
      all_goals (with_reducible rfl)
    try simp only [Act.put]
    try simp only [List.setIfInBounds_toArray]
    try simp only [List.set]
    refine wpAnyH_ready (rs := [17]) (by kernel_rfl) (by simp) ?_
    refine AllReadyH.cons rfl (fun K hK => ?_) AllReadyH.nil
    go_simp
    refine hK.out _ _ ?_ (fun hHeld => ?_)
    · exact ⟨n0, n1, n2⟩
    clear hK K
    try simp only [Act.put]
    try simp only [List.setIfInBounds_toArray]
    try simp only [List.set]
    refine wpAnyH_take (i := 19) (v := ?_) rfl (by kernel_rfl) (by kernel_rfl) (by kernel_rfl) (fun _ _ _ h => h) (Or.inl ⟨by rfl, ?_⟩) (by assumption) ?_
    rotate_left
    · intro w hSw
      try dsimp only at hSw
      go_simp
      all_goals (with_reducible rfl)
    try simp only [Act.put]
    try simp only [List.setIfInBounds_toArray]
    try simp only [List.set]
    refine wpAnyH_ready (rs := [20]) (by kernel_rfl) (by simp) ?_
    refine AllReadyH.cons rfl (fun K hK => ?_) AllReadyH.nil
    go_simp
    refine hK.out _ _ ?_ (fun hHeld => ?_)
    · exact ⟨(World.cell?_alloc_lt _ _ _ hgs).trans n0, (World.cell?_alloc_lt _ _ _ hsz).trans n1, (World.cell?_alloc_lt _ _ _ hsz).trans n2⟩
    clear hK K
    try simp only [Act.put]
    try simp only [List.setIfInBounds_toArray]
    try simp only [List.set]
    refine wpAnyH_ready (rs := [21]) (by kernel_rfl) (by simp) ?_
    refine AllReadyH.cons rfl (fun K hK => ?_) AllReadyH.nil
    go_simp
    refine (HCc.out _ (by exact (Below.refl _ _).drew)).mono ?_
    rintro e w3 ⟨bN, cN, rfl, H3⟩
    have k0 := (H3.out.2.cell (p := ⟨g, 0, none⟩) hgs).trans n0
    have k1 := (H3.out.2.cell (p := ⟨bO, i, none⟩) hos).trans n3
    have k2 := (H3.out.2.cell (p := ⟨w.heap.size, 0, none⟩) hsz).trans n1
    have k3 := (H3.out.2.cell (p := ⟨w.heap.size, 1, none⟩) hsz).trans n2
    have k4 := (H3.out.2.frozen (p := ⟨bO, i, none⟩) hos).trans nf
    clear hHeld
    go_simp
    refine hK.out _ _ ?_ (fun hHeld => ?_)
    · exact ⟨k0, k2, k3⟩
    clear hK K
    try simp only [Act.put]
    try simp only [List.setIfInBounds_toArray]
    try simp only [List.set]
    refine wpAnyH_take (i := 22) (v := ?_) rfl (by kernel_rfl) (by kernel_rfl) (by kernel_rfl) (fun _ _ _ h => h) (Or.inl ⟨by rfl, ?_⟩) (by assumption) ?_
    rotate_left
    · intro w hSw
      try dsimp only at hSw
      go_simp
      all_goals (with_reducible rfl)
    try simp only [Act.put]
    try simp only [List.setIfInBounds_toArray]
    try simp only [List.set]
    refine wpAnyH_ready (rs := [23]) (by kernel_rfl) (by simp) ?_
    refine AllReadyH.cons rfl (fun K hK => ?_) AllReadyH.nil
    go_simp
    refine hK.out _ _ ?_ (fun hHeld => ?_)
    · exact ⟨(World.cell?_setCell_far _ _ _ _ (Ne.symm HNE.out)).trans k0, (World.cell?_setCell_far _ _ _ _ (Nat.ne_of_lt hOl)).trans k2, (World.cell?_setCell_far _ _ _ _ (Nat.ne_of_lt hOl)).trans k3⟩
    clear hK K
    try simp only [Act.put]
    try simp only [List.setIfInBounds_toArray]
    try simp only [List.set]
    refine wpAnyH_done (by kernel_rfl) ?_ _
    go_end0
    exact ⟨rfl, HX.out _ _ (HW2'.out _ H3.out.2) H3.out.1⟩
end
end Go.Proofs.Ytnjlhallkgacjaa
