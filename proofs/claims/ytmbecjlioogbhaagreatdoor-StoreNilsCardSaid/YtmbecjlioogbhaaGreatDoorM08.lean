/- Texts Upd to Read of this seat, laid into one. -/
import Derived.Deep.QuietTactic
import Derived.BigQuiet
import Derived.Deep.RegionHeld3
import Derived.Deep.DrawnRows
import Derived.Deep.AppendLies
import Derived.Laws.CopyOwn
import Derived.Deep.RegionLaw
import Derived.Test.YtmbecjlioogbhaaGreatDoorM02
set_option linter.unusedVariables false
set_option linter.unusedSimpArgs false
set_option linter.constructorNameAsVariable false
section
/-! A disk in memory, and a store into one of its fields. -/
namespace Go.Proofs.YtmbecjlioogbhaaGreatDoor
open Go.RowKit

section
variable {w : World} {g bO cO bL cL : Nat} {vW : Value} {os ls : List Value} {ws : List Vw} {m : Dsk}
theorem Dk0.c0 (h : Dk0 w g bO cO bL cL vW os ls ws m) : w.cell? ⟨g, 0, none⟩ = some (.slice (some ⟨bO, 0, none⟩) m.out.length cO) := by rw [cell_of_row w g 0 _ _ _ h.hd]; rfl
theorem Dk0.c1 (h : Dk0 w g bO cO bL cL vW os ls ws m) : w.cell? ⟨g, 1, none⟩ = some (.slice (some ⟨bL, 0, none⟩) m.out.length cL) := by rw [cell_of_row w g 1 _ _ _ h.hd]; rfl
theorem Dk0.c2 (h : Dk0 w g bO cO bL cL vW os ls ws m) : w.cell? ⟨g, 2, none⟩ = some vW := by rw [cell_of_row w g 2 _ _ _ h.hd]; rfl
theorem Dk0.c3 (h : Dk0 w g bO cO bL cL vW os ls ws m) : w.cell? ⟨g, 3, none⟩ = some (.int .i64 m.fuse) := by rw [cell_of_row w g 3 _ _ _ h.hd]; rfl
theorem Dk0.c4 (h : Dk0 w g bO cO bL cL vW os ls ws m) : w.cell? ⟨g, 4, none⟩ = some (.bool m.down) := by rw [cell_of_row w g 4 _ _ _ h.hd]; rfl
theorem Dk0.c5 (h : Dk0 w g bO cO bL cL vW os ls ws m) : w.cell? ⟨g, 5, none⟩ = some (.int .i64 (m.done : Int)) := by rw [cell_of_row w g 5 _ _ _ h.hd]; rfl
theorem Dk0.fz (h : Dk0 w g bO cO bL cL vW os ls ws m) (i : Nat) : w.frozen? ⟨g, i, none⟩ = false := frozen_of_row w g i _ _ h.hd
theorem Dk0.lt (h : Dk0 w g bO cO bL cL vW os ls ws m) : g < w.heap.size := lt_of_block h.hd
theorem ne_of_ty {a b : Nat} {cs ds : Array Value} {t u : Nat} {fr fs : Nat × Nat} (h : w.heap[a]? = some (.cells cs t fr)) (k : w.heap[b]? = some (.cells ds u fs)) (ht : t ≠ u) : a ≠ b := by
  rintro rfl
  rw [h] at k
  cases k
  exact ht rfl
theorem Dk0.ne_gO (h : Dk0 w g bO cO bL cL vW os ls ws m) : g ≠ bO := by obtain ⟨cur, hc⟩ := own_head h.ro rfl; exact ne_of_ty h.hd hc (by decide)
theorem Dk0.ne_gL (h : Dk0 w g bO cO bL cL vW os ls ws m) : g ≠ bL := by obtain ⟨cur, hc⟩ := own_head h.rl rfl; exact ne_of_ty h.hd hc (by decide)
theorem Dk0.ne_gW (h : Dk0 w g bO cO bL cL vW os ls ws m) : ∀ k, vW.ownBlock = some k → g ≠ k := fun k hk => by obtain ⟨cur, hc⟩ := own_head h.rw_ hk; exact ne_of_ty h.hd hc (by decide)
theorem Dk0.ne_OW (h : Dk0 w g bO cO bL cL vW os ls ws m) : ∀ k, vW.ownBlock = some k → bO ≠ k := fun k hk => by obtain ⟨cur, hc⟩ := own_head h.rw_ hk; obtain ⟨cur2, hc2⟩ := own_head h.ro rfl; exact ne_of_ty hc2 hc (by decide)
theorem Dk0.ne_LW (h : Dk0 w g bO cO bL cL vW os ls ws m) : ∀ k, vW.ownBlock = some k → bL ≠ k := fun k hk => by obtain ⟨cur, hc⟩ := own_head h.rw_ hk; obtain ⟨cur2, hc2⟩ := own_head h.rl rfl; exact ne_of_ty hc2 hc (by decide)
theorem Dk0.typedG (h : Dk0 w g bO cO bL cL vW os ls ws m) : Typed w [g] := fun k hk => by obtain rfl := List.mem_singleton.1 hk; exact ⟨_, _, _, h.hd, .inl rfl⟩
/-- The rows of a disk stay while only its own block changes. -/
theorem Dk0.rest (h : Dk0 w g bO cO bL cL vW os ls ws m) {w' : World} {F' : List Nat} (hc : Chg [g] F' w w') :
    w'.ownsRow 0 71 1 (.slice (some ⟨bO, 0, none⟩) m.out.length cO) m.out.length os ∧ w'.ownsRow 0 71 1 (.slice (some ⟨bL, 0, none⟩) m.out.length cL) m.out.length ls ∧ w'.ownsRow 0 151 2 vW m.row.length (flat ws) ∧
    Secs w' os m.out ∧ Secs w' ls m.last ∧ Vws w' ws m.row := by
  have hs : ∀ k, k ≠ g → k < w.heap.size → w'.heap[k]? = w.heap[k]? := fun k hk hl => hc.block k hl (by simp [hk])
  refine ⟨own_other h.ro (fun k hk => ?_), own_other h.rl (fun k hk => ?_), own_other h.rw_ (fun k hk => ?_), h.so.chg hc h.typedG, h.sl.chg hc h.typedG, h.sw.chg hc h.typedG⟩
  · obtain ⟨cur, hc2⟩ := own_head h.ro hk; cases hk; exact hs _ (Ne.symm h.ne_gO) (lt_of_block hc2)
  · obtain ⟨cur, hc2⟩ := own_head h.rl hk; cases hk; exact hs _ (Ne.symm h.ne_gL) (lt_of_block hc2)
  · obtain ⟨cur, hc2⟩ := own_head h.rw_ hk; exact hs _ (Ne.symm (h.ne_gW _ hk)) (lt_of_block hc2)
theorem Dk0.setFuse (h : Dk0 w g bO cO bL cL vW os ls ws m) (f : Int) (h0 : -1 ≤ f) (h1 : f ≤ 9223372036854775807) : Dk0 (w.setCell ⟨g, 3, none⟩ (.int .i64 f)) g bO cO bL cL vW os ls ws { m with fuse := f } := by
  obtain ⟨r1, r2, r3, r4, r5, r6⟩ := h.rest (Chg.setCell (F := [g]) (g := g) (i := 3) (by simp) (.int .i64 f) w)
  exact ⟨heap_setCell_same w g 3 _ _ _ h.hd, r1, r2, r3, r4, r5, r6, h.nil_, h.ne, ⟨h.ok.out, h.ok.row, h0, h1⟩⟩
theorem Dk0.setDown (h : Dk0 w g bO cO bL cL vW os ls ws m) (b : Bool) : Dk0 (w.setCell ⟨g, 4, none⟩ (.bool b)) g bO cO bL cL vW os ls ws { m with down := b } := by
  obtain ⟨r1, r2, r3, r4, r5, r6⟩ := h.rest (Chg.setCell (F := [g]) (g := g) (i := 4) (by simp) (.bool b) w)
  exact ⟨heap_setCell_same w g 4 _ _ _ h.hd, r1, r2, r3, r4, r5, r6, h.nil_, h.ne, ⟨h.ok.out, h.ok.row, h.ok.fuse0, h.ok.fuse1⟩⟩
theorem Dk0.setDone (h : Dk0 w g bO cO bL cL vW os ls ws m) (n : Nat) : Dk0 (w.setCell ⟨g, 5, none⟩ (.int .i64 (n : Int))) g bO cO bL cL vW os ls ws { m with done := n } := by
  obtain ⟨r1, r2, r3, r4, r5, r6⟩ := h.rest (Chg.setCell (F := [g]) (g := g) (i := 5) (by simp) (.int .i64 (n : Int)) w)
  exact ⟨heap_setCell_same w g 5 _ _ _ h.hd, r1, r2, r3, r4, r5, r6, h.nil_, h.ne, ⟨h.ok.out, h.ok.row, h.ok.fuse0, h.ok.fuse1⟩⟩
theorem Dk0.chgG (i : Nat) (v : Value) (w : World) : Chg (foot g bO bL vW) (foot g bO bL vW) w (w.setCell ⟨g, i, none⟩ v) := Chg.setCell (by simp [foot]) v w
theorem Dk0.went (h : Dk0 w g bO cO bL cL vW os ls ws m) : Dk w g (foot g bO bL vW) m := ⟨_, _, _, _, _, _, _, _, h, rfl⟩
end
end Go.Proofs.YtmbecjlioogbhaaGreatDoor
end
section
/-! What the disk's small calls return. -/
set_option maxRecDepth 20000
namespace Go.Proofs.YtmbecjlioogbhaaGreatDoor
open Go.RowKit

section
variable {w : World} {g bO cO bL cL : Nat} {vW : Value} {os ls : List Value} {ws : List Vw} {m : Dsk}
set_option maxHeartbeats 400000 in
theorem ready_up (h : Dk0 w g bO cO bL cL vW os ls ws m) (hd : m.down = false) :
    Calls Tryz.prog 184 #[.pointer (some ⟨g, 0, none⟩)] w fun e w' => e = .returned (.int .i64 0) ∧ w = w' := by
  have hc := h.c4
  rw [hd] at hc
  clear h hd
  go_enter Tryz.func184, Tryz.ntmps184
  go_wp2_with fail
  go_ret
  exact ⟨rfl, rfl⟩
set_option maxHeartbeats 400000 in
theorem ready_down (h : Dk0 w g bO cO bL cL vW os ls ws m) (hd : m.down = true) :
    Calls Tryz.prog 184 #[.pointer (some ⟨g, 0, none⟩)] w fun e w' => e = .returned (.int .i64 9) ∧ w = w' := by
  have hc := h.c4
  rw [hd] at hc
  clear h hd
  go_enter Tryz.func184, Tryz.ntmps184
  go_wp2_with fail
  go_ret
  exact ⟨rfl, rfl⟩
set_option maxHeartbeats 400000 in
theorem sectors_any (h : Dk0 w g bO cO bL cL vW os ls ws m) (n : Nat) (hn : Hid (m.out.length = n)) :
    Calls Tryz.prog 126 #[.pointer (some ⟨g, 0, none⟩)] w fun e w' => e = .returned (.int .i64 (n : Int)) ∧ w = w' := by
  have hc := h.c0
  rw [hn.out] at hc
  clear h hn
  go_enter Tryz.func126, Tryz.ntmps126
  go_wp2_with fail
  go_ret
  exact ⟨rfl, rfl⟩
set_option maxHeartbeats 400000 in
theorem has_low_ (v : Value) (i : Int) (w : World) (hi : i < 0) :
    Calls Tryz.prog 201 #[v, .int .i64 i] w fun e w' => e = .returned (.bool false) ∧ w = w' := by
  have hd : decide ((0 : Int) ≤ i) = false := decide_eq_false (by omega)
  go_enter Tryz.func201, Tryz.ntmps201
  go_wp2_with fail
  go_ret
  exact ⟨rfl, rfl⟩
set_option maxHeartbeats 400000 in
theorem has_any (h : Dk0 w g bO cO bL cL vW os ls ws m) (i : Int) :
    Calls Tryz.prog 201 #[.pointer (some ⟨g, 0, none⟩), .int .i64 i] w fun e w' => e = .returned (.bool (m.has i)) ∧ w = w' := by
  by_cases hi : i < 0
  · rw [has_low hi]; exact has_low_ _ i w hi
  · obtain ⟨n, hn⟩ : ∃ n, Hid (m.out.length = n) := ⟨_, Lib.hid rfl⟩
    have hs := sectors_any h n hn
    have HH : Hid (m.has i = decide (i < (n : Int))) := Lib.hid (by unfold Dsk.has; rw [hn.out]; simp; omega)
    rw [HH.out]
    clear HH h hn
    have HS := Lib.hid hs
    clear hs
    have h0 : 0 ≤ i := by omega
    go_enter Tryz.func201, Tryz.ntmps201
    go_wp2_with (go_at_call 126; refine HS.out.mono ?_; rintro e w' ⟨rfl, rfl⟩)
    go_ret
    exact ⟨rfl, rfl⟩
set_option maxHeartbeats 400000 in
theorem reach_any (h : Dk0 w g bO cO bL cL vW os ls ws m) (i : Int) :
    Calls Tryz.prog 163 #[.pointer (some ⟨g, 0, none⟩), .int .i64 i] w fun e w' => e = .returned (.int .i64 (readE m i)) ∧ w = w' := by
  by_cases hd : m.down = true
  · have HR := Lib.hid (ready_down h hd)
    have HE : Hid (readE m i = 9) := Lib.hid (by unfold readE; rw [if_pos hd])
    rw [HE.out]
    clear h hd HE
    go_enter Tryz.func163, Tryz.ntmps163
    go_wp2_with (go_at_call 184; refine HR.out.mono ?_; rintro e w' ⟨rfl, rfl⟩)
    go_ret
    exact ⟨rfl, rfl⟩
  · have hd0 : m.down = false := by simpa using hd
    have HR := Lib.hid (ready_up h hd0)
    have HH := Lib.hid (has_any h i)
    by_cases hh : m.has i = true
    · have HE : Hid (readE m i = 0) := Lib.hid (by unfold readE; rw [if_neg hd, if_neg (by simp [hh])])
      rw [HE.out]
      rw [hh] at HH
      clear h hd hd0 HE hh
      go_enter Tryz.func163, Tryz.ntmps163
      go_wp2_with (first | (go_at_call 184; refine HR.out.mono ?_; rintro e w' ⟨rfl, rfl⟩) | (go_at_call 201; refine HH.out.mono ?_; rintro e w' ⟨rfl, rfl⟩))
      go_ret
      exact ⟨rfl, rfl⟩
    · have hh0 : m.has i = false := by simpa using hh
      have HE : Hid (readE m i = 7) := Lib.hid (by unfold readE; rw [if_neg hd, if_pos hh0])
      rw [HE.out]
      rw [hh0] at HH
      clear h hd hd0 HE hh hh0
      go_enter Tryz.func163, Tryz.ntmps163
      go_wp2_with (first | (go_at_call 184; refine HR.out.mono ?_; rintro e w' ⟨rfl, rfl⟩) | (go_at_call 201; refine HH.out.mono ?_; rintro e w' ⟨rfl, rfl⟩))
      go_ret
      exact ⟨rfl, rfl⟩
end
end Go.Proofs.YtmbecjlioogbhaaGreatDoor
end
section
/-! A fuse that burns; a fuse that is laid. -/
set_option maxRecDepth 20000
namespace Go.Proofs.YtmbecjlioogbhaaGreatDoor
open Go.RowKit

/-- A call on a disk that leaves its rows where they are. -/
def Stays (g bO cO bL cL : Nat) (vW : Value) (os ls : List Value) (ws : List Vw) (m : Dsk) (w w' : World) : Prop :=
  Dk0 w' g bO cO bL cL vW os ls ws m ∧ Chg (foot g bO bL vW) (foot g bO bL vW) w w'
section
variable {w : World} {g bO cO bL cL : Nat} {vW : Value} {os ls : List Value} {ws : List Vw} {m : Dsk}
theorem Stays.refl (h : Dk0 w g bO cO bL cL vW os ls ws m) : Stays g bO cO bL cL vW os ls ws m w w := ⟨h, Chg.refl _ _⟩
def burnE (m : Dsk) : Int := if m.fuse = 0 then 9 else 0
def burnM (m : Dsk) : Dsk := if m.fuse = 0 then burnt m else burns m
set_option maxHeartbeats 400000 in
theorem burn_any (h : Dk0 w g bO cO bL cL vW os ls ws m) (hn : m.done ≤ 4611686018427387904) :
    Calls Tryz.prog 185 #[.pointer (some ⟨g, 0, none⟩)] w fun e w' => e = .returned (.int .i64 (burnE m)) ∧ Stays g bO cO bL cL vW os ls ws (burnM m) w w' := by
  have hf := h.fz
  have hc3 := h.c3
  have hc5 := h.c5
  have h0 := h.ok.fuse0
  have h1 := h.ok.fuse1
  by_cases hz : m.fuse = 0
  · have HE : Hid (burnE m = 9) := Lib.hid (by unfold burnE; rw [if_pos hz])
    have HM : Hid (Stays g bO cO bL cL vW os ls ws (burnM m) w (w.setCell ⟨g, 4, none⟩ (.bool true))) := Lib.hid (by
      unfold burnM; rw [if_pos hz]; exact ⟨h.setDown true, Dk0.chgG _ _ _⟩)
    have hc4 := h.c4
    have f4 := hf 4
    rw [HE.out]
    rw [hz] at hc3
    clear hz h hf hc5 HE
    go_enter Tryz.func185, Tryz.ntmps185
    go_wp2_with fail
    go_ret
    exact ⟨rfl, HM.out⟩
  · have HE : Hid (burnE m = 0) := Lib.hid (by unfold burnE; rw [if_neg hz])
    have f3 := hf 3
    have f5 := hf 5
    rw [HE.out]
    by_cases h2 : m.fuse = -1
    · have HM : Hid (Stays g bO cO bL cL vW os ls ws (burnM m) w (w.setCell ⟨g, 5, none⟩ (.int .i64 ((m.done : Int) + 1)))) := Lib.hid (by
        unfold burnM burns; rw [if_neg hz, if_pos h2]
        have h3 := h.setDone (m.done + 1)
        rw [← h2]
        exact ⟨h3, Dk0.chgG _ _ _⟩)
      rw [h2] at hc3
      clear hz h hf h2 HE
      generalize m.done = dn at *
      go_enter Tryz.func185, Tryz.ntmps185
      go_wp2_with fail
      go_ret
      exact ⟨rfl, HM.out⟩
    · have HM : Hid (Stays g bO cO bL cL vW os ls ws (burnM m) w ((w.setCell ⟨g, 3, none⟩ (.int .i64 (m.fuse - 1))).setCell ⟨g, 5, none⟩ (.int .i64 ((m.done : Int) + 1)))) := Lib.hid (by
        unfold burnM burns; rw [if_neg hz, if_neg h2]
        exact ⟨(h.setFuse (m.fuse - 1) (by omega) (by omega)).setDone (m.done + 1), (Dk0.chgG _ _ _).trans (Dk0.chgG _ _ _)⟩)
      have hd1 : (m.fuse == 0) = false := by simpa using hz
      have hd2 : (m.fuse != -1) = true := by simpa using h2
      have h3 : 1 ≤ m.fuse := by omega
      clear hz h hf h2 HE h0
      generalize m.done = dn at *
      generalize m.fuse = fu at *
      go_enter Tryz.func185, Tryz.ntmps185
      go_wp2_with fail
      go_ret
      exact ⟨rfl, HM.out⟩
end
end Go.Proofs.YtmbecjlioogbhaaGreatDoor
end
section
/-! A write that is brought out. -/
set_option maxRecDepth 20000
namespace Go.Proofs.YtmbecjlioogbhaaGreatDoor
open Go.RowKit

/-- What is written again shows nothing of what was there. -/
theorem appN_over (l : List Wr) (L : List (List Nat)) (i : Nat) (s : List Nat) : ∀ j, appN l (L.set i s) j = appN l L j ∨ (appN l (L.set i s) j = (appN l L j).set i s ∧ ∀ r, r < j → (wr l r).1 ≠ i)
  | 0 => .inr ⟨rfl, fun r hr => absurd hr (Nat.not_lt_zero r)⟩
  | j + 1 => by
    rcases appN_over l L i s j with h | ⟨h, hr⟩
    · left; show (appN l (L.set i s) j).set _ _ = (appN l L j).set _ _; rw [h]
    · by_cases e : (wr l j).1 = i
      · left; show (appN l (L.set i s) j).set _ _ = (appN l L j).set _ _; rw [h, e, List.set_set]
      · right
        refine ⟨?_, fun r hr2 => ?_⟩
        · show (appN l (L.set i s) j).set _ _ = ((appN l L j).set _ _).set _ _
          rw [h, List.set_comm _ _ (Ne.symm e)]
        · rcases Nat.lt_or_ge r j with h3 | h3
          · exact hr r h3
          · obtain rfl : r = j := by omega
            exact e
theorem last_bring (m : Dsk) (k : Nat) (hk : k < m.row.length) (o : Option Nat) : Dsk.last { m with out := bring m.out (wr m.row k) o } = m.last := by
  cases o with
  | none => rfl
  | some a =>
    rcases appN_over m.row m.out (wr m.row k).1 (tear a (wr m.row k).2 (sec m.out (wr m.row k).1)) m.row.length with h | ⟨_, h⟩
    · exact h
    · exact absurd rfl (h k hk)
def brung (m : Dsk) (k : Nat) (o : Option Nat) : Dsk := { m with out := bring m.out (wr m.row k) o }
theorem Ok.brung {m : Dsk} (h : Ok m) {k : Nat} (hk : k < m.row.length) {o : Option Nat} (ho : ∀ a, o = some a → a ≤ 128) : Ok (brung m k o) :=
  ⟨Secs128.bring h.out (h.row _ (wr_mem hk)) ho, fun x hx => by
    have := h.row x hx
    show x.1 < (bring _ _ _).length ∧ _
    rw [bring_len]; exact this, h.fuse0, h.fuse1⟩
section
variable {w : World} {g bO cO bL cL : Nat} {vW : Value} {os ls : List Value} {ws : List Vw} {m : Dsk}
/-- Another block's worth of bytes is laid at a sector. -/
theorem Dk0.brung (h : Dk0 w g bO cO bL cL vW os ls ws m) {k a : Nat} (hk : k < m.row.length) (ha : a ≤ 128) {w1 : World} (hb : Below w.heap.size w w1) {v : Value} (hv : Sec w1 v (tear a (wr m.row k).2 (sec m.out (wr m.row k).1))) :
    Dk0 (w1.setCell ⟨bO, (wr m.row k).1, none⟩ v) g bO cO bL cL vW (os.set (wr m.row k).1 v) ls ws (brung m k (some a)) ∧ Chg (foot g bO bL vW) (foot g bO bL vW) w (w1.setCell ⟨bO, (wr m.row k).1, none⟩ v) := by
  have hok := h.ok.brung hk (o := some a) (fun b e => by cases e; exact ha)
  have hi := (h.ok.row _ (wr_mem hk)).1
  have h1 := h.stay (Chg.of_below (F := []) hb) (fun k hk => by cases hk) (fun k _ hk => by cases hk)
  have hlen : (Go.Proofs.YtmbecjlioogbhaaGreatDoor.brung m k (some a)).out.length = m.out.length := bring_len m.out (wr m.row k) (some a)
  have hlast : (Go.Proofs.YtmbecjlioogbhaaGreatDoor.brung m k (some a)).last = m.last := last_bring m k hk _
  have hc : Chg [bO] [bO] w1 (w1.setCell ⟨bO, (wr m.row k).1, none⟩ v) := Chg.setCell (by simp) v w1
  have hT : Typed w1 [bO] := fun k hk => by
    obtain rfl := List.mem_singleton.1 hk
    obtain ⟨cur, hc⟩ := own_head h1.ro rfl; exact ⟨_, _, _, hc, .inr (.inl rfl)⟩
  have hs : ∀ k, k ≠ bO → k < w1.heap.size → (w1.setCell ⟨bO, (wr m.row k).1, none⟩ v).heap[k]? = w1.heap[k]? := fun k hk hl => heap_setCell_other _ _ _ _ hk
  refine ⟨⟨?_, ?_, ?_, ?_, ?_, ?_, ?_, h.nil_, h.ne, hok⟩, ?_⟩
  · rw [hlen]; exact (heap_setCell_other _ _ _ _ h.ne_gO).trans h1.hd
  · rw [hlen]; exact (h1.ro.stored _ v).1
  · rw [hlen]; exact own_other h1.rl (fun k hk => heap_setCell_other _ _ _ _ (by cases hk; exact Ne.symm h.ne))
  · exact own_other h1.rw_ (fun k hk => heap_setCell_other _ _ _ _ (Ne.symm (h.ne_OW _ hk)))
  · show Secs _ _ (m.out.set _ _)
    exact (h1.so.set hi hv).chg hc hT
  · rw [hlast]; exact h1.sl.chg hc hT
  · exact h1.sw.chg hc hT
  · exact (Chg.of_below hb).trans (Chg.setCell (by simp [foot]) v w1)

set_option maxHeartbeats 1600000 in
theorem bringOut_any (h : Dk0 w g bO cO bL cL vW os ls ws m) (k a : Nat) (hk : k < m.row.length) (ha : a ≤ 128) (hl : m.row.length ≤ 4611686018427387904) :
    Calls Tryz.prog 44 #[.pointer (some ⟨g, 0, none⟩), .int .i64 (k : Int), .int .i64 (a : Int)] w fun e w' => e = .returned (.tuple #[]) ∧ ∃ v, Stays g bO cO bL cL vW (os.set (wr m.row k).1 v) ls ws (brung m k (some a)) w w' := by
  have HH := Lib.hid h
  obtain ⟨hi, hs, hd⟩ := h.ok.row _ (wr_mem hk)
  obtain ⟨hvi, hvs⟩ := h.sw.at_ k hk
  obtain ⟨bD, cD, hvD, hBD, hltD, hD1, hD2⟩ := hvs.bys
  obtain ⟨bS, cS, hvS, hBS, hltS, hS1, hS2⟩ := (h.so.at_ _ hi).bys
  have hc0 := h.c0
  have hc2 := h.c2
  have hfl := flat_get ws k (by rw [h.sw.len]; exact hk)
  rw [hvi, hvD] at hfl
  have hrw := h.rw_
  obtain ⟨bW, cW, rfl, _⟩ := hrw.form (by omega)
  have hw0 := hrw.cellAt (k * 2) (by omega)
  have hw1 := hrw.cellAt (k * 2 + 1) (by omega)
  rw [hfl.1] at hw0
  rw [hfl.2] at hw1
  have hoi := h.ro.cellAt (wr m.row k).1 (by omega)
  rw [vAt_get (by rw [h.so.len]; exact hi), hvS] at hoi
  have hfz := h.ro.frozenAt (wr m.row k).1
  have hcW := hrw.2
  have HBD := Lib.hid hBD
  have HBS := Lib.hid hBS
  have HNE := Lib.hid h.ne_gO
  have hkl : (k : Int) < (m.row.length : Int) := by omega
  have hil : ((wr m.row k).1 : Int) < (m.out.length : Int) := by omega
  have HX : Hid (∀ w1 v, Below w.heap.size w w1 → Sec w1 v (tear a (wr m.row k).2 (sec m.out (wr m.row k).1)) → ∃ u, Stays g bO cO bL cL (.slice (some ⟨bW, 0, none⟩) m.row.length cW) (os.set (wr m.row k).1 u) ls ws (brung m k (some a)) w (w1.setCell ⟨bO, (wr m.row k).1, none⟩ v)) :=
    Lib.hid (fun w1 v hb hv => ⟨v, h.brung hk ha hb hv⟩)
  have hgW := h.lt
  have hOl : bO < w.heap.size := by obtain ⟨cur, hc⟩ := own_head h.ro rfl; exact lt_of_block hc
  clear hfl hrw hcW hBD hBS h hvi hvs hvD hvS
  have HT : Hid (tear a (wr m.row k).2 (sec m.out (wr m.row k).1) = (wr m.row k).2.take a ++ (sec m.out (wr m.row k).1).drop a) := Lib.hid rfl
  have HTL : Hid ((tear a (wr m.row k).2 (sec m.out (wr m.row k).1)).length = 128) := Lib.hid (tear_len _ _ _ hs HBS.out.len ha)
  have HTD : Hid (∀ d ∈ tear a (wr m.row k).2 (sec m.out (wr m.row k).1), d < 256) := Lib.hid (tear_dig _ _ _ hd HBS.out.dig)
  clear hs hd
  generalize (wr m.row k).1 = i at *
  generalize (wr m.row k).2 = t at *
  generalize sec m.out i = s at *
  generalize tear a t s = r at *
  have HW2 : Hid (Below w.heap.size w (w.alloc (.cells #[.int .i64 (i : Int), .slice (some ⟨bD, 0, none⟩) 128 cD] 151))) := Lib.hid ((Below.refl _ _).alloc (Nat.le_refl _) _)
  have HN1 : Hid ((w.alloc (.cells #[.int .i64 (i : Int), .slice (some ⟨bD, 0, none⟩) 128 cD] 151)).cell? ⟨w.heap.size, 0, none⟩ = some (.int .i64 (i : Int))) := Lib.hid (World.cell?_alloc_new w _ _ 0)
  have HN2 : Hid ((w.alloc (.cells #[.int .i64 (i : Int), .slice (some ⟨bD, 0, none⟩) 128 cD] 151)).cell? ⟨w.heap.size, 1, none⟩ = some (.slice (some ⟨bD, 0, none⟩) 128 cD)) := Lib.hid (World.cell?_alloc_new w _ _ 1)
  go_enter Tryz.func44, Tryz.ntmps44
  go_wp2_with fail
  generalize w.alloc (.cells #[.int .i64 (i : Int), .slice (some ⟨bD, 0, none⟩) 128 cD] 151) = w2 at *
  have n0 : w2.cell? ⟨g, 0, none⟩ = some (.slice (some ⟨bO, 0, none⟩) m.out.length cO) := (HW2.out.cell (p := ⟨g, 0, none⟩) hgW).trans hc0
  have n3 : w2.cell? ⟨bO, i, none⟩ = some (.slice (some ⟨bS, 0, none⟩) 128 cS) := (HW2.out.cell (p := ⟨bO, i, none⟩) hOl).trans hoi
  have nf : w2.frozen? ⟨bO, i, none⟩ = false := (HW2.out.frozen (p := ⟨bO, i, none⟩) hOl).trans hfz
  have n1 := HN1.out
  have n2 := HN2.out
  clear HN1 HN2 hc0 hc2 hw0 hw1 hoi hfz
  have hsz : w.heap.size < w2.heap.size := block_lt_of_cell n1
  obtain ⟨H, hH⟩ : ∃ H, Hid (w.heap.size = H) := ⟨_, Lib.hid rfl⟩
  have HC : ∀ (p : Option Addr), Bys w p (128 - a) (s.drop a) → Fit p (128 - a) (cS - a) → Hid (∀ w1, Below w2.heap.size w2 w1 → Calls Tryz.prog 90 #[.slice (some ⟨w1.heap.size, 0, none⟩) 2 2] (w1.alloc (.cells #[.slice (some ⟨bD, 0, none⟩) a cD, .slice p (128 - a) (cS - a)] 71)) fun e w' =>
      ∃ b c, e = .returned (.slice (some ⟨b, 0, none⟩) 128 c) ∧ Hid (Sec w' (.slice (some ⟨b, 0, none⟩) 128 c) r ∧ Below w2.heap.size w2 w')) := fun p hp hf => Lib.hid (fun w1 hb =>
    (two_made w2 w1 (some ⟨bD, 0, none⟩) p a cD (128 - a) (cS - a) _ _ hb ((HBD.out.take ha).below HW2.out) (hp.below HW2.out) ⟨by omega, fun h => by cases h⟩ hf (by omega)).mono (by
      rintro e w' ⟨⟨v, rfl, q, c, rfl, ho⟩, hb2⟩
      rw [← HT.out, HTL.out] at ho
      rw [← HT.out, HTL.out]
      have hS := Sec.of_own ho HTD.out
      obtain ⟨b, c, e, _⟩ := hS.bys
      rw [e] at hS ⊢
      exact ⟨b, c, rfl, hS, hb2⟩))
  have HW2' := Lib.hid (show ∀ w3, Below w2.heap.size w2 w3 → Below w.heap.size w w3 from fun w3 h3 => HW2.out.trans (h3.mono HW2.out.size))
  by_cases hac : cS = a
  · have HCc := HC (some ⟨bS, 0, none⟩) (by
      obtain rfl : a = 128 := by omega
      rw [List.drop_of_length_le (by rw [HBS.out.len]; omega)]
      exact Bys.zero _ _) ⟨by omega, fun h => by cases h⟩
    clear HC
    rw [show 128 - a = 0 by omega, show cS - a = 0 by omega] at HCc
    subst hac
    have b1 : (0 : Int) ≤ (cS : Int) := by omega
    have b2 : (cS : Int) ≤ 128 := by omega
    have b3 : (cS : Int) ≤ (cD : Int) := by omega
    have b7 : (0 : Int) ≤ (i : Int) := by omega
    have hgs : g < w2.heap.size := Nat.lt_trans hgW hsz
    have hos : bO < w2.heap.size := Nat.lt_trans hOl hsz
    refine wp_region_held_drew (S := (fun w' => w'.cell? ⟨g, 0, none⟩ = some (.slice (some ⟨bO, 0, none⟩) m.out.length cO) ∧ w'.cell? ⟨w.heap.size, 0, none⟩ = some (.int .i64 (i : Int)) ∧ w'.cell? ⟨w.heap.size, 1, none⟩ = some (.slice (some ⟨bD, 0, none⟩) 128 cD))) (by kernel_rfl) ⟨n0, n1, n2⟩ (fun hHeld => ?_)
    refine wpAnyH_take (i := 0) (v := ?_) rfl (by kernel_rfl) (by kernel_rfl) (by kernel_rfl) (fun _ _ _ h => h) (Or.inl ⟨by rfl, ?_⟩) (by assumption) ?_
    rotate_left
    · intro w hSw
      try dsimp only at hSw
      go_simp
      all_goals (with_reducible rfl)
    try simp only [Act.put]
    try simp only [List.setIfInBounds_toArray]
    try simp only [List.set]
    refine wpAnyH_take (i := 1) (v := ?_) rfl (by kernel_rfl) (by kernel_rfl) (by kernel_rfl) (fun _ _ _ h => h) (Or.inl ⟨by rfl, ?_⟩) (by assumption) ?_
    rotate_left
    · intro w hSw
      try dsimp only at hSw
      go_simp
      all_goals (with_reducible rfl)
    try simp only [Act.put]
    try simp only [List.setIfInBounds_toArray]
    try simp only [List.set]
    refine wpAnyH_take (i := 2) (v := ?_) rfl (by kernel_rfl) (by kernel_rfl) (by kernel_rfl) (fun _ _ _ h => h) (Or.inl ⟨by rfl, ?_⟩) (by assumption) ?_
    rotate_left
    · intro w hSw
      try dsimp only at hSw
      go_simp
      all_goals (with_reducible rfl)
    try simp only [Act.put]
    try simp only [List.setIfInBounds_toArray]
    try simp only [List.set]
    refine wpAnyH_take (i := 3) (v := ?_) rfl (by kernel_rfl) (by kernel_rfl) (by kernel_rfl) (fun _ _ _ h => h) (Or.inl ⟨by rfl, ?_⟩) (by assumption) ?_
    rotate_left
    · intro w hSw
      try dsimp only at hSw
      go_simp
      all_goals (with_reducible rfl)
    try simp only [Act.put]
    try simp only [List.setIfInBounds_toArray]
    try simp only [List.set]
    refine wpAnyH_take (i := 4) (v := ?_) rfl (by kernel_rfl) (by kernel_rfl) (by kernel_rfl) (fun _ _ _ h => h) (Or.inl ⟨by rfl, ?_⟩) (by assumption) ?_
    rotate_left
    · intro w hSw
      try dsimp only at hSw
      go_simp
      all_goals (with_reducible rfl)
    try simp only [Act.put]
    try simp only [List.setIfInBounds_toArray]
    try simp only [List.set]
    refine wpAnyH_take (i := 5) (v := ?_) rfl (by kernel_rfl) (by kernel_rfl) (by kernel_rfl) (fun _ _ _ h => h) (Or.inl ⟨by rfl, ?_⟩) (by assumption) ?_
    rotate_left
    · intro w hSw
      try dsimp only at hSw
      go_simp
      all_goals (with_reducible rfl)
    try simp only [Act.put]
    try simp only [List.setIfInBounds_toArray]
    try simp only [List.set]
    refine wpAnyH_take (i := 6) (v := ?_) rfl (by kernel_rfl) (by kernel_rfl) (by kernel_rfl) (fun _ _ _ h => h) (Or.inl ⟨by rfl, ?_⟩) (by assumption) ?_
    rotate_left
    · intro w hSw
      try dsimp only at hSw
      go_simp
      all_goals (with_reducible rfl)
    try simp only [Act.put]
    try simp only [List.setIfInBounds_toArray]
    try simp only [List.set]
    refine wpAnyH_take (i := 7) (v := ?_) rfl (by kernel_rfl) (by kernel_rfl) (by kernel_rfl) (fun _ _ _ h => h) (Or.inl ⟨by rfl, ?_⟩) (by assumption) ?_
    rotate_left
    · intro w hSw
      try dsimp only at hSw
      go_simp
      all_goals (with_reducible rfl)
    try simp only [Act.put]
    try simp only [List.setIfInBounds_toArray]
    try simp only [List.set]
    refine wpAnyH_take (i := 8) (v := ?_) rfl (by kernel_rfl) (by kernel_rfl) (by kernel_rfl) (fun _ _ _ h => h) (Or.inl ⟨by rfl, ?_⟩) (by assumption) ?_
    rotate_left
    · intro w hSw
      try dsimp only at hSw
      go_simp
      all_goals (with_reducible rfl)
    try simp only [Act.put]
    try simp only [List.setIfInBounds_toArray]
    try simp only [List.set]
    refine wpAnyH_take (i := 9) (v := ?_) rfl (by kernel_rfl) (by kernel_rfl) (by kernel_rfl) (fun _ _ _ h => h) (Or.inl ⟨by rfl, ?_⟩) (by assumption) ?_
    rotate_left
    · intro w hSw
      try dsimp only at hSw
      go_simp
      all_goals (with_reducible rfl)
    try simp only [Act.put]
    try simp only [List.setIfInBounds_toArray]
    try simp only [List.set]
    refine wpAnyH_take (i := 10) (v := ?_) rfl (by kernel_rfl) (by kernel_rfl) (by kernel_rfl) (fun _ _ _ h => h) (Or.inl ⟨by rfl, ?_⟩) (by assumption) ?_
    rotate_left
    · intro w hSw
      try dsimp only at hSw
      go_simp
      all_goals (with_reducible rfl)
    try simp only [Act.put]
    try simp only [List.setIfInBounds_toArray]
    try simp only [List.set]
    refine wpAnyH_take (i := 11) (v := ?_) rfl (by kernel_rfl) (by kernel_rfl) (by kernel_rfl) (fun _ _ _ h => h) (Or.inl ⟨by rfl, ?_⟩) (by assumption) ?_
    rotate_left
    · intro w hSw
      try dsimp only at hSw
      go_simp
      all_goals (with_reducible rfl)
    try simp only [Act.put]
    try simp only [List.setIfInBounds_toArray]
    try simp only [List.set]
    refine wpAnyH_take (i := 12) (v := ?_) rfl (by kernel_rfl) (by kernel_rfl) (by kernel_rfl) (fun _ _ _ h => h) (Or.inl ⟨by rfl, ?_⟩) (by assumption) ?_
    rotate_left
    · intro w hSw
      try dsimp only at hSw
      go_simp
      all_goals (with_reducible rfl)
    try simp only [Act.put]
    try simp only [List.setIfInBounds_toArray]
    try simp only [List.set]
    refine wpAnyH_take (i := 13) (v := ?_) rfl (by kernel_rfl) (by kernel_rfl) (by kernel_rfl) (fun _ _ _ h => h) (Or.inl ⟨by rfl, ?_⟩) (by assumption) ?_
    rotate_left
    · intro w hSw
      try dsimp only at hSw
      go_simp
      all_goals (with_reducible rfl)
    try simp only [Act.put]
    try simp only [List.setIfInBounds_toArray]
    try simp only [List.set]
    refine wpAnyH_take (i := 14) (v := ?_) rfl (by kernel_rfl) (by kernel_rfl) (by kernel_rfl) (fun _ _ _ h => h) (Or.inl ⟨by rfl, ?_⟩) (by assumption) ?_
    rotate_left
    · intro w hSw
      try dsimp only at hSw
      go_simp
      all_goals (with_reducible rfl)
    try simp only [Act.put]
    try simp only [List.setIfInBounds_toArray]
    try simp only [List.set]
    refine wpAnyH_take (i := 15) (v := ?_) rfl (by kernel_rfl) (by kernel_rfl) (by kernel_rfl) (fun _ _ _ h => h) (Or.inl ⟨by rfl, ?_⟩) (by assumption) ?_
    rotate_left
    · intro w hSw
      try dsimp only at hSw
      go_simp
      all_goals (with_reducible rfl)
    try simp only [Act.put]
    try simp only [List.setIfInBounds_toArray]
    try simp only [List.set]
    refine wpAnyH_take (i := 16) (v := ?_) rfl (by kernel_rfl) (by kernel_rfl) (by kernel_rfl) (fun _ _ _ h => h) (Or.inl ⟨by rfl, ?_⟩) (by assumption) ?_
    rotate_left
    · intro w hSw
      try dsimp only at hSw
      go_simp
      all_goals (with_reducible rfl)
    try simp only [Act.put]
    try simp only [List.setIfInBounds_toArray]
    try simp only [List.set]
    refine wpAnyH_take (i := 18) (v := ?_) rfl (by kernel_rfl) (by kernel_rfl) (by kernel_rfl) (fun _ _ _ h => h) (Or.inl ⟨by rfl, ?_⟩) (by assumption) ?_
    rotate_left
    · intro w hSw
      try dsimp only at hSw
      go_simp
      all_goals (with_reducible rfl)
    try simp only [Act.put]
    try simp only [List.setIfInBounds_toArray]
    try simp only [List.set]
    refine wpAnyH_ready (rs := [17]) (by kernel_rfl) (by simp) ?_
    refine AllReadyH.cons rfl (fun K hK => ?_) AllReadyH.nil
    go_simp
    refine hK.out _ _ ?_ (fun hHeld => ?_)
    · exact ⟨n0, n1, n2⟩
    clear hK K
    try simp only [Act.put]
    try simp only [List.setIfInBounds_toArray]
    try simp only [List.set]
    refine wpAnyH_take (i := 19) (v := ?_) rfl (by kernel_rfl) (by kernel_rfl) (by kernel_rfl) (fun _ _ _ h => h) (Or.inl ⟨by rfl, ?_⟩) (by assumption) ?_
    rotate_left
    · intro w hSw
      try dsimp only at hSw
      go_simp
      all_goals (with_reducible rfl)
    try simp only [Act.put]
    try simp only [List.setIfInBounds_toArray]
    try simp only [List.set]
    refine wpAnyH_ready (rs := [20]) (by kernel_rfl) (by simp) ?_
    refine AllReadyH.cons rfl (fun K hK => ?_) AllReadyH.nil
    go_simp
    refine hK.out _ _ ?_ (fun hHeld => ?_)
    · exact ⟨(World.cell?_alloc_lt _ _ _ hgs).trans n0, (World.cell?_alloc_lt _ _ _ hsz).trans n1, (World.cell?_alloc_lt _ _ _ hsz).trans n2⟩
    clear hK K
    try simp only [Act.put]
    try simp only [List.setIfInBounds_toArray]
    try simp only [List.set]
    refine wpAnyH_ready (rs := [21]) (by kernel_rfl) (by simp) ?_
    refine AllReadyH.cons rfl (fun K hK => ?_) AllReadyH.nil
    go_simp
    refine (HCc.out _ (by exact (Below.refl _ _).drew)).mono ?_
    rintro e w3 ⟨bN, cN, rfl, H3⟩
    have k0 := (H3.out.2.cell (p := ⟨g, 0, none⟩) hgs).trans n0
    have k1 := (H3.out.2.cell (p := ⟨bO, i, none⟩) hos).trans n3
    have k2 := (H3.out.2.cell (p := ⟨w.heap.size, 0, none⟩) hsz).trans n1
    have k3 := (H3.out.2.cell (p := ⟨w.heap.size, 1, none⟩) hsz).trans n2
    have k4 := (H3.out.2.frozen (p := ⟨bO, i, none⟩) hos).trans nf
    clear hHeld
    go_simp
    refine hK.out _ _ ?_ (fun hHeld => ?_)
    · exact ⟨k0, k2, k3⟩
    clear hK K
    try simp only [Act.put]
    try simp only [List.setIfInBounds_toArray]
    try simp only [List.set]
    refine wpAnyH_take (i := 22) (v := ?_) rfl (by kernel_rfl) (by kernel_rfl) (by kernel_rfl) (fun _ _ _ h => h) (Or.inl ⟨by rfl, ?_⟩) (by assumption) ?_
    rotate_left
    · intro w hSw
      try dsimp only at hSw
      go_simp
      all_goals (with_reducible rfl)
    try simp only [Act.put]
    try simp only [List.setIfInBounds_toArray]
    try simp only [List.set]
    refine wpAnyH_ready (rs := [23]) (by kernel_rfl) (by simp) ?_
    refine AllReadyH.cons rfl (fun K hK => ?_) AllReadyH.nil
    go_simp
    refine hK.out _ _ ?_ (fun hHeld => ?_)
    · exact ⟨(World.cell?_setCell_far _ _ _ _ (Ne.symm HNE.out)).trans k0, (World.cell?_setCell_far _ _ _ _ (Nat.ne_of_lt hOl)).trans k2, (World.cell?_setCell_far _ _ _ _ (Nat.ne_of_lt hOl)).trans k3⟩
    clear hK K
    try simp only [Act.put]
    try simp only [List.setIfInBounds_toArray]
    try simp only [List.set]
    refine wpAnyH_done (by kernel_rfl) ?_ _
    go_end0
    exact ⟨rfl, HX.out _ _ (HW2'.out _ H3.out.2) H3.out.1⟩
  · have HCc := HC (some ⟨bS, a, none⟩) (by
      have := HBS.out.drop (k := a) (j := 128 - a) (by omega)
      rw [Nat.zero_add] at this; exact this) ⟨by omega, fun h => by cases h⟩
    clear HC
    have hac2 : (a : Int) < (cS : Int) := by omega
    have b1 : (0 : Int) ≤ (a : Int) := by omega
    have b2 : (a : Int) ≤ 128 := by omega
    have b3 : (a : Int) ≤ (cD : Int) := by omega
    have b4 : (a : Int) ≤ (cS : Int) := by omega
    have b7 : (0 : Int) ≤ (i : Int) := by omega
    have q1 : (⟨bO, i, none⟩ : Addr).block ≠ (⟨g, 0, none⟩ : Addr).block := Ne.symm HNE.out
    have q2 : bO ≠ w.heap.size := Nat.ne_of_lt hOl
    have hgs : g < w2.heap.size := Nat.lt_trans hgW hsz
    have hos : bO < w2.heap.size := Nat.lt_trans hOl hsz
    refine wp_region_held_drew (S := (fun w' => w'.cell? ⟨g, 0, none⟩ = some (.slice (some ⟨bO, 0, none⟩) m.out.length cO) ∧ w'.cell? ⟨w.heap.size, 0, none⟩ = some (.int .i64 (i : Int)) ∧ w'.cell? ⟨w.heap.size, 1, none⟩ = some (.slice (some ⟨bD, 0, none⟩) 128 cD))) (by kernel_rfl) ⟨n0, n1, n2⟩ (fun hHeld => ?_)
    refine wpAnyH_take (i := 0) (v := ?_) rfl (by kernel_rfl) (by kernel_rfl) (by kernel_rfl) (fun _ _ _ h => h) (Or.inl ⟨by rfl, ?_⟩) (by assumption) ?_
    rotate_left
    · intro w hSw
      try dsimp only at hSw
      go_simp
      all_goals (with_reducible rfl)
    try simp only [Act.put]
    try simp only [List.setIfInBounds_toArray]
    try simp only [List.set]
    refine wpAnyH_take (i := 1) (v := ?_) rfl (by kernel_rfl) (by kernel_rfl) (by kernel_rfl) (fun _ _ _ h => h) (Or.inl ⟨by rfl, ?_⟩) (by assumption) ?_
    rotate_left
    · intro w hSw
      try dsimp only at hSw
      go_simp
      all_goals (with_reducible rfl)
    try simp only [Act.put]
    try simp only [List.setIfInBounds_toArray]
    try simp only [List.set]
    refine wpAnyH_take (i := 2) (v := ?_) rfl (by kernel_rfl) (by kernel_rfl) (by kernel_rfl) (fun _ _ _ h => h) (Or.inl ⟨by rfl, ?_⟩) (by assumption) ?_
    rotate_left
    · intro w hSw
      try dsimp only at hSw
      go_simp
      all_goals (with_reducible rfl)
    try simp only [Act.put]
    try simp only [List.setIfInBounds_toArray]
    try simp only [List.set]
    refine wpAnyH_take (i := 3) (v := ?_) rfl (by kernel_rfl) (by kernel_rfl) (by kernel_rfl) (fun _ _ _ h => h) (Or.inl ⟨by rfl, ?_⟩) (by assumption) ?_
    rotate_left
    · intro w hSw
      try dsimp only at hSw
      go_simp
      all_goals (with_reducible rfl)
    try simp only [Act.put]
    try simp only [List.setIfInBounds_toArray]
    try simp only [List.set]
    refine wpAnyH_take (i := 4) (v := ?_) rfl (by kernel_rfl) (by kernel_rfl) (by kernel_rfl) (fun _ _ _ h => h) (Or.inl ⟨by rfl, ?_⟩) (by assumption) ?_
    rotate_left
    · intro w hSw
      try dsimp only at hSw
      go_simp
      all_goals (with_reducible rfl)
    try simp only [Act.put]
    try simp only [List.setIfInBounds_toArray]
    try simp only [List.set]
    refine wpAnyH_take (i := 5) (v := ?_) rfl (by kernel_rfl) (by kernel_rfl) (by kernel_rfl) (fun _ _ _ h => h) (Or.inl ⟨by rfl, ?_⟩) (by assumption) ?_
    rotate_left
    · intro w hSw
      try dsimp only at hSw
      go_simp
      all_goals (with_reducible rfl)
    try simp only [Act.put]
    try simp only [List.setIfInBounds_toArray]
    try simp only [List.set]
    refine wpAnyH_take (i := 6) (v := ?_) rfl (by kernel_rfl) (by kernel_rfl) (by kernel_rfl) (fun _ _ _ h => h) (Or.inl ⟨by rfl, ?_⟩) (by assumption) ?_
    rotate_left
    · intro w hSw
      try dsimp only at hSw
      go_simp
      all_goals (with_reducible rfl)
    try simp only [Act.put]
    try simp only [List.setIfInBounds_toArray]
    try simp only [List.set]
    refine wpAnyH_take (i := 7) (v := ?_) rfl (by kernel_rfl) (by kernel_rfl) (by kernel_rfl) (fun _ _ _ h => h) (Or.inl ⟨by rfl, ?_⟩) (by assumption) ?_
    rotate_left
    · intro w hSw
      try dsimp only at hSw
      go_simp
      all_goals (with_reducible rfl)
    try simp only [Act.put]
    try simp only [List.setIfInBounds_toArray]
    try simp only [List.set]
    refine wpAnyH_take (i := 8) (v := ?_) rfl (by kernel_rfl) (by kernel_rfl) (by kernel_rfl) (fun _ _ _ h => h) (Or.inl ⟨by rfl, ?_⟩) (by assumption) ?_
    rotate_left
    · intro w hSw
      try dsimp only at hSw
      go_simp
      all_goals (with_reducible rfl)
    try simp only [Act.put]
    try simp only [List.setIfInBounds_toArray]
    try simp only [List.set]
    refine wpAnyH_take (i := 9) (v := ?_) rfl (by kernel_rfl) (by kernel_rfl) (by kernel_rfl) (fun _ _ _ h => h) (Or.inl ⟨by rfl, ?_⟩) (by assumption) ?_
    rotate_left
    · intro w hSw
      try dsimp only at hSw
      go_simp
      all_goals (with_reducible rfl)
    try simp only [Act.put]
    try simp only [List.setIfInBounds_toArray]
    try simp only [List.set]
    refine wpAnyH_take (i := 10) (v := ?_) rfl (by kernel_rfl) (by kernel_rfl) (by kernel_rfl) (fun _ _ _ h => h) (Or.inl ⟨by rfl, ?_⟩) (by assumption) ?_
    rotate_left
    · intro w hSw
      try dsimp only at hSw
      go_simp
      all_goals (with_reducible rfl)
    try simp only [Act.put]
    try simp only [List.setIfInBounds_toArray]
    try simp only [List.set]
    refine wpAnyH_take (i := 11) (v := ?_) rfl (by kernel_rfl) (by kernel_rfl) (by kernel_rfl) (fun _ _ _ h => h) (Or.inl ⟨by rfl, ?_⟩) (by assumption) ?_
    rotate_left
    · intro w hSw
      try dsimp only at hSw
      go_simp
      all_goals (with_reducible rfl)
    try simp only [Act.put]
    try simp only [List.setIfInBounds_toArray]
    try simp only [List.set]
    refine wpAnyH_take (i := 12) (v := ?_) rfl (by kernel_rfl) (by kernel_rfl) (by kernel_rfl) (fun _ _ _ h => h) (Or.inl ⟨by rfl, ?_⟩) (by assumption) ?_
    rotate_left
    · intro w hSw
      try dsimp only at hSw
      go_simp
      all_goals (with_reducible rfl)
    try simp only [Act.put]
    try simp only [List.setIfInBounds_toArray]
    try simp only [List.set]
    refine wpAnyH_take (i := 13) (v := ?_) rfl (by kernel_rfl) (by kernel_rfl) (by kernel_rfl) (fun _ _ _ h => h) (Or.inl ⟨by rfl, ?_⟩) (by assumption) ?_
    rotate_left
    · intro w hSw
      try dsimp only at hSw
      go_simp
      all_goals (with_reducible rfl)
    try simp only [Act.put]
    try simp only [List.setIfInBounds_toArray]
    try simp only [List.set]
    refine wpAnyH_take (i := 14) (v := ?_) rfl (by kernel_rfl) (by kernel_rfl) (by kernel_rfl) (fun _ _ _ h => h) (Or.inl ⟨by rfl, ?_⟩) (by assumption) ?_
    rotate_left
    · intro w hSw
      try dsimp only at hSw
      go_simp
      all_goals (with_reducible rfl)
    try simp only [Act.put]
    try simp only [List.setIfInBounds_toArray]
    try simp only [List.set]
    refine wpAnyH_take (i := 15) (v := ?_) rfl (by kernel_rfl) (by kernel_rfl) (by kernel_rfl) (fun _ _ _ h => h) (Or.inl ⟨by rfl, ?_⟩) (by assumption) ?_
    rotate_left
    · intro w hSw
      try dsimp only at hSw
      go_simp
      all_goals (with_reducible rfl)
    try simp only [Act.put]
    try simp only [List.setIfInBounds_toArray]
    try simp only [List.set]
    refine wpAnyH_take (i := 16) (v := ?_) rfl (by kernel_rfl) (by kernel_rfl) (by kernel_rfl) (fun _ _ _ h => h) (Or.inl ⟨by rfl, ?_⟩) (by assumption) ?_
    rotate_left
    · intro w hSw
      try dsimp only at hSw
      go_simp
      all_goals (with_reducible rfl)
    try simp only [Act.put]
    try simp only [List.setIfInBounds_toArray]
    try simp only [List.set]
    refine wpAnyH_take (i := 18) (v := ?_) rfl (by kernel_rfl) (by kernel_rfl) (by kernel_rfl) (fun _ _ _ h => h) (Or.inl ⟨by rfl, ?_⟩) (by assumption) ?_
    rotate_left
    · intro w hSw
      try dsimp only at hSw
      go_simp
      all_goals (with_reducible rfl)
    try simp only [Act.put]
    try simp only [List.setIfInBounds_toArray]
    try simp only [List.set]
    refine wpAnyH_ready (rs := [17]) (by kernel_rfl) (by simp) ?_
    refine AllReadyH.cons rfl (fun K hK => ?_) AllReadyH.nil
    go_simp
    refine hK.out _ _ ?_ (fun hHeld => ?_)
    · exact ⟨n0, n1, n2⟩
    clear hK K
    try simp only [Act.put]
    try simp only [List.setIfInBounds_toArray]
    try simp only [List.set]
    refine wpAnyH_take (i := 19) (v := ?_) rfl (by kernel_rfl) (by kernel_rfl) (by kernel_rfl) (fun _ _ _ h => h) (Or.inl ⟨by rfl, ?_⟩) (by assumption) ?_
    rotate_left
    · intro w hSw
      try dsimp only at hSw
      go_simp
      all_goals (with_reducible rfl)
    try simp only [Act.put]
    try simp only [List.setIfInBounds_toArray]
    try simp only [List.set]
    refine wpAnyH_ready (rs := [20]) (by kernel_rfl) (by simp) ?_
    refine AllReadyH.cons rfl (fun K hK => ?_) AllReadyH.nil
    go_simp
    refine hK.out _ _ ?_ (fun hHeld => ?_)
    · exact ⟨(World.cell?_alloc_lt _ _ _ hgs).trans n0, (World.cell?_alloc_lt _ _ _ hsz).trans n1, (World.cell?_alloc_lt _ _ _ hsz).trans n2⟩
    clear hK K
    try simp only [Act.put]
    try simp only [List.setIfInBounds_toArray]
    try simp only [List.set]
    refine wpAnyH_ready (rs := [21]) (by kernel_rfl) (by simp) ?_
    refine AllReadyH.cons rfl (fun K hK => ?_) AllReadyH.nil
    go_simp
    refine (HCc.out _ (by exact (Below.refl _ _).drew)).mono ?_
    rintro e w3 ⟨bN, cN, rfl, H3⟩
    have k0 := (H3.out.2.cell (p := ⟨g, 0, none⟩) hgs).trans n0
    have k1 := (H3.out.2.cell (p := ⟨bO, i, none⟩) hos).trans n3
    have k2 := (H3.out.2.cell (p := ⟨w.heap.size, 0, none⟩) hsz).trans n1
    have k3 := (H3.out.2.cell (p := ⟨w.heap.size, 1, none⟩) hsz).trans n2
    have k4 := (H3.out.2.frozen (p := ⟨bO, i, none⟩) hos).trans nf
    clear hHeld
    go_simp
    refine hK.out _ _ ?_ (fun hHeld => ?_)
    · exact ⟨k0, k2, k3⟩
    clear hK K
    try simp only [Act.put]
    try simp only [List.setIfInBounds_toArray]
    try simp only [List.set]
    refine wpAnyH_take (i := 22) (v := ?_) rfl (by kernel_rfl) (by kernel_rfl) (by kernel_rfl) (fun _ _ _ h => h) (Or.inl ⟨by rfl, ?_⟩) (by assumption) ?_
    rotate_left
    · intro w hSw
      try dsimp only at hSw
      go_simp
      all_goals (with_reducible rfl)
    try simp only [Act.put]
    try simp only [List.setIfInBounds_toArray]
    try simp only [List.set]
    refine wpAnyH_ready (rs := [23]) (by kernel_rfl) (by simp) ?_
    refine AllReadyH.cons rfl (fun K hK => ?_) AllReadyH.nil
    go_simp
    refine hK.out _ _ ?_ (fun hHeld => ?_)
    · exact ⟨(World.cell?_setCell_far _ _ _ _ (Ne.symm HNE.out)).trans k0, (World.cell?_setCell_far _ _ _ _ (Nat.ne_of_lt hOl)).trans k2, (World.cell?_setCell_far _ _ _ _ (Nat.ne_of_lt hOl)).trans k3⟩
    clear hK K
    try simp only [Act.put]
    try simp only [List.setIfInBounds_toArray]
    try simp only [List.set]
    refine wpAnyH_done (by kernel_rfl) ?_ _
    go_end0
    exact ⟨rfl, HX.out _ _ (HW2'.out _ H3.out.2) H3.out.1⟩
end
end Go.Proofs.YtmbecjlioogbhaaGreatDoor
end
section
/-! What waits is forgotten: the sectors are told as they are out. -/
set_option maxRecDepth 20000
namespace Go.Proofs.YtmbecjlioogbhaaGreatDoor
open Go.RowKit

/-- 'copy' into a row, as one step of a region that draws: the world behind it is told. -/
theorem step_copy_at {P : Program} {ops : Array Oper} {o : Oper} {a : Act} {w : World} {K : Act → World → Prop} {Q : Exit → Act → World → Prop} {E : Prop} (hgd : o.guard = none) (d s : Operand) (dT sT : TypeId)
    (ho : o.op = .call { callee := .builtin .copy, args := #[d, s], argTypes := #[dT, sT] }) (elem : TypeId) (hu : P.underlying dT = some (.slice elem)) (hsz : (P.info? elem).map (·.size) = some 1)
    (g dLen dCap : Nat) (ad : Addr) (sLen sCap : Nat) (hd : a.eval d = .slice (some ⟨g, 0, none⟩) dLen dCap) (hs : a.eval s = .slice (some ad) sLen sCap)
    (cur : Array Value) (t : TypeId) (hg : w.heap[g]? = some (.cells cur t (0, 0))) (cs : List Value) (hn : cs.length = Nat.min sLen dLen)
    (hsrc : ∀ j v, cs[j]? = some v → w.cell? (ad.add j) = some v) (hfit : 0 + cs.length ≤ cur.size) (h1 : ∀ v ∈ cs, v.oneCell' = true)
    (h : K (a.put o.dst (goInt cs.length)) (w.setRow g (cur.toList.take 0 ++ cs ++ cur.toList.drop (0 + cs.length)).toArray)) :
    if Region.wanted o (yielded ops a.tmps) = true then Oper.wp P o a w K Q else E := by
  rw [if_pos (by simp [Region.wanted, hgd])]
  have hrun := run_copy_row (P := P) w dT sT o.type elem g 0 dLen dCap ad sLen sCap cur t cs hu hsz hg hn hsrc hfit h1
  unfold Oper.wp
  simp only [execOp, ho, resolve, invoke, builtin, Sem.run_bind, Sem.run_pure, Result.andThen_ok, List.map_toArray, List.map_cons, List.map_nil, hd, hs, hrun]
  exact h

section
variable {w : World} {g bO cO bL cL : Nat} {vW : Value} {os ls : List Value} {ws : List Vw} {m : Dsk}
def forgot (m : Dsk) : Dsk := { m with row := [] }
theorem Dk0.forgot (h : Dk0 w g bO cO bL cL vW os ls ws m) (cur : Array Value) (hc : w.heap[bL]? = some (.cells cur 71 (0, 0))) (hcs : cur.size = cL) (hcl : m.out.length ≤ cL) (hcm : cL ≤ maxLen) :
    Dk0 ((w.setCell ⟨g, 2, none⟩ (.slice none 0 0)).drew.setRow bL (cur.toList.take 0 ++ os ++ cur.toList.drop (0 + os.length)).toArray) g bO cO bL cL (.slice none 0 0) os os [] (forgot m) ∧
    Chg (foot g bO bL vW) (foot g bO bL (.slice none 0 0)) w ((w.setCell ⟨g, 2, none⟩ (.slice none 0 0)).drew.setRow bL (cur.toList.take 0 ++ os ++ cur.toList.drop (0 + os.length)).toArray) := by
  have hbL : (w.setCell ⟨g, 2, none⟩ (.slice none 0 0)).drew.heap[bL]? = some (.cells cur 71 (0, 0)) := (heap_setCell_other _ _ _ _ (Ne.symm h.ne_gL)).trans hc
  have hrow := setRow_heap _ bL cur (cur.toList.take 0 ++ os ++ cur.toList.drop (0 + os.length)).toArray _ _ hbL
  have hoth : ∀ k, k ≠ g → k ≠ bL → ((w.setCell ⟨g, 2, none⟩ (.slice none 0 0)).drew.setRow bL (cur.toList.take 0 ++ os ++ cur.toList.drop (0 + os.length)).toArray).heap[k]? = w.heap[k]? := fun k h1 h2 =>
    (setRow_other _ _ _ _ h2).trans (heap_setCell_other _ _ _ _ h1)
  have hsz : w.heap.size ≤ ((w.setCell ⟨g, 2, none⟩ (.slice none 0 0)).drew.setRow bL (cur.toList.take 0 ++ os ++ cur.toList.drop (0 + os.length)).toArray).heap.size := by
    rw [setRow_size]; show _ ≤ (w.setCell _ _).heap.size; simp
  have hgg : ((w.setCell ⟨g, 2, none⟩ (.slice none 0 0)).drew.setRow bL (cur.toList.take 0 ++ os ++ cur.toList.drop (0 + os.length)).toArray).heap[g]? = some (.cells #[.slice (some ⟨bO, 0, none⟩) m.out.length cO, .slice (some ⟨bL, 0, none⟩) m.out.length cL, .slice none 0 0, .int .i64 m.fuse, .bool m.down, .int .i64 (m.done : Int)] 89 (0, 0)) :=
    (setRow_other _ _ _ _ h.ne_gL).trans (heap_setCell_same w g 2 _ _ (.slice none 0 0) h.hd)
  have ho1 : ((w.setCell ⟨g, 2, none⟩ (.slice none 0 0)).drew.setRow bL (cur.toList.take 0 ++ os ++ cur.toList.drop (0 + os.length)).toArray).os = w.os := rfl
  have ho2 : ((w.setCell ⟨g, 2, none⟩ (.slice none 0 0)).drew.setRow bL (cur.toList.take 0 ++ os ++ cur.toList.drop (0 + os.length)).toArray).tape = w.tape := rfl
  have ho3 : ((w.setCell ⟨g, 2, none⟩ (.slice none 0 0)).drew.setRow bL (cur.toList.take 0 ++ os ++ cur.toList.drop (0 + os.length)).toArray).output = w.output := rfl
  generalize (w.setCell ⟨g, 2, none⟩ (.slice none 0 0)).drew.setRow bL (cur.toList.take 0 ++ os ++ cur.toList.drop (0 + os.length)).toArray = W at *
  have hol : os.length = m.out.length := h.so.len
  have hC : Chg [g, bL] [g, bL] w W := ⟨ho1, ho2, ho3, hsz, fun k _ hk => hoth k (fun e => hk (by simp [e])) (fun e => hk (by simp [e])), fun _ h => .inl h⟩
  have hT : Typed w [g, bL] := fun k hk => by
    simp at hk
    rcases hk with rfl | rfl
    · exact ⟨_, _, _, h.hd, .inl rfl⟩
    · exact ⟨_, _, _, hc, .inr (.inl rfl)⟩
  refine ⟨⟨hgg, own_other h.ro (fun k hk => ?_), ⟨by rw [hol]; exact (Nat.mul_one _).symm, .inr ⟨bL, cL, _, rfl, Nat.zero_le _, hrow, hcl, hcm, ?_, ?_⟩⟩, World.ownsRow_nil _ _ _ _, h.so.chg hC hT, h.so.chg hC hT, Vws.nil_ _, fun _ => rfl, h.ne, ⟨h.ok.out, fun x hx => (by cases hx), h.ok.fuse0, h.ok.fuse1⟩⟩, ?_⟩
  · cases hk; exact hoth _ (Ne.symm h.ne_gO) h.ne
  · simp only [List.take_zero, List.nil_append, List.size_toArray, List.length_append, List.length_drop, Array.length_toList, hol]; omega
  · simp only [List.take_zero, List.nil_append]
    rw [show (Go.Proofs.YtmbecjlioogbhaaGreatDoor.forgot m).out.length * 1 = os.length by rw [hol]; exact Nat.mul_one _]
    rw [List.take_append_of_le_length (Nat.le_refl _), List.take_of_length_le (Nat.le_refl _)]
  · exact ⟨ho1, ho2, ho3, hsz, fun k _ hk => hoth k (fun e => hk (by simp [foot, e])) (fun e => hk (by simp [foot, e])), fun k hk => .inl (by simp [foot, Value.ownBlock] at hk ⊢; rcases hk with h | h | h <;> simp [h])⟩

theorem info71 : (Tryz.prog.info? 71).map (fun i => (i.zero, i.size, i.bytes)) = some (some (.slice none 0 0), 1, 24) := by kernel_rfl
set_option maxHeartbeats 800000 in
theorem forget_any (h : Dk0 w g bO cO bL cL vW os ls ws m)  :
    Calls Tryz.prog 45 #[.pointer (some ⟨g, 0, none⟩)] w fun e w' => e = .returned (.tuple #[]) ∧ Dk0 w' g bO cO bL cL (.slice none 0 0) os os [] (forgot m) ∧ Chg (foot g bO bL vW) (foot g bO bL (.slice none 0 0)) w w' := by
  obtain ⟨cur, hcur, hcs, hcl, hcm⟩ : ∃ cur, w.heap[bL]? = some (.cells cur 71 (0, 0)) ∧ cur.size = cL ∧ m.out.length ≤ cL ∧ cL ≤ maxLen := by
    rcases h.rl.2 with ⟨e, _⟩ | ⟨g', cap, cur, e, _, hh, h1, h2, h3, _⟩
    · cases e
    · cases e; exact ⟨cur, hh, by omega, h1, h2⟩
  have HX := Lib.hid (h.forgot cur hcur hcs hcl hcm)
  have hc0 := h.c0
  have hc1 := h.c1
  have hc2 := h.c2
  have hf2 := h.fz 2
  have hol : os.length = m.out.length := h.so.len
  have HB : Hid ((w.setCell ⟨g, 2, none⟩ (.slice none 0 0)).drew.heap[bL]? = some (.cells cur 71 (0, 0))) := Lib.hid ((heap_setCell_other _ _ _ _ (Ne.symm h.ne_gL)).trans hcur)
  have HS : Hid (∀ j v, os[j]? = some v → (w.setCell ⟨g, 2, none⟩ (.slice none 0 0)).drew.cell? ((⟨bO, 0, none⟩ : Addr).add j) = some v) := Lib.hid (fun j v hv => by
    rw [Go.WideShapes.add_plain, Nat.zero_add]
    have hj : j < os.length := by
      rcases Nat.lt_or_ge j os.length with h1 | h1
      · exact h1
      · rw [List.getElem?_eq_none h1] at hv; cases hv
    exact (World.cell?_setCell_far _ _ _ _ h.ne_gO).trans ((h.ro.cellAt j (by omega)).trans hv))
  have HO := Lib.hid h.so.one
  have HN : Hid (os.length = Nat.min m.out.length m.out.length) := Lib.hid (by rw [hol]; exact (Nat.min_self _).symm)
  have HF : Hid (0 + os.length ≤ cur.size) := Lib.hid (by omega)
  have hinf : Hid ((Tryz.prog.info? 71).map (·.size) = some 1) := Lib.hid (by kernel_rfl)
  clear h hcur hcs hcl hcm hol
  generalize m.out.length = n at *
  go_enter Tryz.func45, Tryz.ntmps45
  go_wp2_with fail
  go_region_law (refine step_copy_at rfl (.tmp 8) (.tmp 12) 86 86 rfl 71 Tryz.underlying86 hinf.out bL _ _ ⟨bO, 0, none⟩ _ _ (by rfl) (by rfl) cur 71 HB.out os HN.out HS.out HF.out HO.out ?_)
  all_goals go_end0
  all_goals exact ⟨rfl, (by have := HX.out; simp only [List.take_zero, List.nil_append, Nat.zero_add] at this; exact this)⟩
end
end Go.Proofs.YtmbecjlioogbhaaGreatDoor
end
section
/-! A barrier; a failure; a start. -/
namespace Go.Proofs.YtmbecjlioogbhaaGreatDoor
open Go.RowKit

/-- A disk of which the first k writes were brought out, as far as f says. -/
def mkf (m : Dsk) (f : Nat → Option Nat) (k : Nat) : Dsk := { m with out := failN m.row m.out f k }
section
variable {w : World} {g bO cO bL cL : Nat} {vW : Value} {os ls : List Value} {ws : List Vw} {m : Dsk}
theorem bring_step {f : Nat → Option Nat} {k a : Nat} (h : Dk0 w g bO cO bL cL vW os ls ws (mkf m f k)) (hk : k < m.row.length) (hf : f k = some a) (ha : a ≤ 128) (hl : m.row.length ≤ 4611686018427387904) (A : Int) (HA : Hid ((a : Int) = A)) :
    Calls Tryz.prog 44 #[.pointer (some ⟨g, 0, none⟩), .int .i64 (k : Int), .int .i64 A] w fun e w' => e = .returned (.tuple #[]) ∧ ∃ os', Stays g bO cO bL cL vW os' ls ws (mkf m f (k + 1)) w w' := by
  rw [← HA.out]
  refine (bringOut_any h k a hk ha hl).mono ?_
  rintro e w' ⟨rfl, v, hs⟩
  have e : mkf m f (k + 1) = brung (mkf m f k) k (some a) := by
    show ({ m with out := bring (failN m.row m.out f k) (wr m.row k) (f k) } : Dsk) = _
    rw [hf]; rfl
  rw [← e] at hs
  exact ⟨rfl, _, hs⟩
theorem Stays.trans {w w1 w2 : World} {os1 os2 : List Value} {m1 m2 : Dsk} (h : Stays g bO cO bL cL vW os1 ls ws m1 w w1) (k : Stays g bO cO bL cL vW os2 ls ws m2 w1 w2) : Stays g bO cO bL cL vW os2 ls ws m2 w w2 := ⟨k.1, h.2.trans k.2⟩
theorem Dk0.wslice (h : Dk0 w g bO cO bL cL vW os ls ws m) (n : Nat) (hn : Hid (m.row.length = n)) : ∃ (q : Option Addr) (c : Nat), vW = .slice q n c := by
  rw [← hn.out]
  rcases h.rw_.2 with ⟨e, h0⟩ | ⟨g', cap, cur, e, _⟩
  · exact ⟨none, 0, by rw [e, h0]⟩
  · exact ⟨_, _, e⟩
def all128 (_ : Nat) : Option Nat := some 128

end
end Go.Proofs.YtmbecjlioogbhaaGreatDoor
end
section
/-! A failure of power; a start. -/
set_option maxRecDepth 20000
namespace Go.Proofs.YtmbecjlioogbhaaGreatDoor
open Go.RowKit

/-- A slice of bools that reads as f says. -/
def Kp (w : World) (p : Option Addr) (n : Nat) (f : Nat → Bool) : Prop := 0 < n → ∃ b o, p = some ⟨b, o, none⟩ ∧ ∀ r, r < n → w.cell? ⟨b, o + r, none⟩ = some (.bool (f r))
def Off (F : List Nat) (p : Option Addr) : Prop := ∀ b o, p = some ⟨b, o, none⟩ → b ∉ F
theorem Kp.chg {w w' : World} {F F' : List Nat} {p : Option Addr} {n : Nat} {f : Nat → Bool} (h : Kp w p n f) (ho : 0 < n → Off F p) (hc : Chg F F' w w') : Kp w' p n f := fun hn => by
  obtain ⟨b, o, e, hb⟩ := h hn
  refine ⟨b, o, e, fun r hr => ?_⟩
  rw [← hb r hr]
  exact World.cell?_of_block (hc.block b (World.block_lt_of_cell? w _ (hb r hr)) (ho hn b o e))
section
variable {w : World} {g bO cO bL cL : Nat} {vW : Value} {os ls : List Value} {ws : List Vw} {m : Dsk}
end
end Go.Proofs.YtmbecjlioogbhaaGreatDoor
end
section
/-! A start; what is read, and what is out. -/
set_option maxRecDepth 20000
namespace Go.Proofs.YtmbecjlioogbhaaGreatDoor
open Go.RowKit

section
variable {w : World} {g bO cO bL cL : Nat} {vW : Value} {os ls : List Value} {ws : List Vw} {m : Dsk}
set_option maxHeartbeats 400000 in
theorem read_bad (h : Dk0 w g bO cO bL cL vW os ls ws m) (i : Int) (hE : readE m i ≠ 0) :
    Calls Tryz.prog 127 #[.pointer (some ⟨g, 0, none⟩), .int .i64 i] w fun e w' => e = .returned (.tuple #[.string (strB (readS m i)), .int .i64 (readE m i)]) ∧ w = w' := by
  have HS : Hid (strB (readS m i) = ⟨#[]⟩) := Lib.hid (by
    unfold readE at hE
    unfold readS
    split
    · rfl
    · split
      · rfl
      · rename_i h1 h2
        rw [if_neg h1, if_neg h2] at hE
        exact absurd rfl hE)
  have HR := Lib.hid (reach_any h i)
  rw [HS.out]
  generalize readE m i = E at *
  have hd : (E != 0) = true := by simpa using hE
  clear h hE
  go_enter Tryz.func127, Tryz.ntmps127
  go_wp2_with (go_at_call 163; refine HR.out.mono ?_; rintro e w' ⟨rfl, rfl⟩)
  go_ret2
  exact ⟨rfl, rfl⟩
set_option maxHeartbeats 400000 in
theorem read_good (h : Dk0 w g bO cO bL cL vW os ls ws m) (k : Nat) (hd : m.down = false) (hk : k < m.out.length) :
    Calls Tryz.prog 127 #[.pointer (some ⟨g, 0, none⟩), .int .i64 (k : Int)] w fun e w' => e = .returned (.tuple #[.string (strB (sec m.last k)), .int .i64 0]) ∧ w = w' := by
  have hE : readE m (k : Int) = 0 := by unfold readE; rw [if_neg (by simp [hd]), if_neg (by rw [has_true (by omega) (by omega)]; simp)]
  have hr := reach_any h (k : Int)
  rw [hE] at hr
  have HR := Lib.hid hr
  have hc1 := h.c1
  have hs := h.sl.at_ k (by rw [last_len]; exact hk)
  obtain ⟨b, c, e, hB, _⟩ := hs.bys
  have hc := h.rl.cellAt k (by omega)
  rw [vAt_get (by rw [h.sl.len, last_len]; exact hk), e] at hc
  have hconv := hB.conv c
  have hkl : (k : Int) < (m.out.length : Int) := by omega
  clear h hE hr hs hB e
  generalize sec m.last k = s at *
  generalize m.out.length = n at *
  go_enter Tryz.func127, Tryz.ntmps127
  go_wp2_with (go_at_call 163; refine HR.out.mono ?_; rintro e w' ⟨rfl, rfl⟩)
  go_ret2
  exact ⟨rfl, rfl⟩
theorem read_any (h : Dk0 w g bO cO bL cL vW os ls ws m) (i : Int) :
    Calls Tryz.prog 127 #[.pointer (some ⟨g, 0, none⟩), .int .i64 i] w fun e w' => e = .returned (.tuple #[.string (strB (readS m i)), .int .i64 (readE m i)]) ∧ w = w' := by
  by_cases hE : readE m i = 0
  · have hd : m.down = false := by
      cases hd : m.down with
      | false => rfl
      | true => unfold readE at hE; rw [if_pos hd] at hE; omega
    have hh : m.has i = true := by
      cases hh : m.has i with
      | true => rfl
      | false => unfold readE at hE; rw [if_neg (by simp [hd]), if_pos hh] at hE; omega
    have h0 := hh
    unfold Dsk.has at h0
    simp only [Bool.and_eq_true, decide_eq_true_eq] at h0
    obtain ⟨k, rfl⟩ := Int.eq_ofNat_of_zero_le h0.1
    rw [hE, show readS m (k : Int) = sec m.last k by unfold readS; rw [if_neg (by simp [hd]), if_neg (by simp [hh])]; rfl]
    exact read_good h k hd (by omega)
  · exact read_bad h i hE
end
end Go.Proofs.YtmbecjlioogbhaaGreatDoor
end
