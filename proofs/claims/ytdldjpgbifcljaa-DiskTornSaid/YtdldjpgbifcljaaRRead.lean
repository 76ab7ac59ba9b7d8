/- What the document reads. -/
import Derived.Test.YtdldjpgbifcljaaRWith
namespace Go.Proofs.Ytdldjpgbifcljaa
open Go.RowKit

section
variable {w : World} {m : Dsk}
set_option maxHeartbeats 400000 in
theorem rread_down (q1 q2 : Option Addr) (n1 c1 n2 c2 : Nat) (fu dn i : Int) (w : World) :
    Calls Try.prog 34 #[.agg #[.slice q1 n1 c1, .slice q2 n2 c2, .int .i64 fu, .bool true, .int .i64 dn], .int .i64 i] w fun e w' => e = .returned (.tuple #[.string ⟨#[]⟩, .int .i64 9]) ∧ Below w.heap.size w w' := by
  go_enter Try.func34, Try.ntmps34
  go_wp2_with fail
  go_ret2
  exact ⟨rfl, (Below.refl _ _).alloc (Nat.le_refl _) _⟩
set_option maxHeartbeats 400000 in
theorem rread_far (q1 q2 : Option Addr) (n1 c1 n2 c2 : Nat) (fu dn i : Int) (w : World) (hi : i < 0 ∨ (n1 : Int) ≤ i) :
    Calls Try.prog 34 #[.agg #[.slice q1 n1 c1, .slice q2 n2 c2, .int .i64 fu, .bool false, .int .i64 dn], .int .i64 i] w fun e w' => e = .returned (.tuple #[.string ⟨#[]⟩, .int .i64 7]) ∧ Below w.heap.size w w' := by
  rcases hi with hi | hi
  · go_enter Try.func34, Try.ntmps34
    go_wp2_with fail
    go_ret2
    exact ⟨rfl, (Below.refl _ _).alloc (Nat.le_refl _) _⟩
  · have h0 : ¬ i < 0 := by omega
    go_enter Try.func34, Try.ntmps34
    go_wp2_with fail
    go_ret2
    exact ⟨rfl, (Below.refl _ _).alloc (Nat.le_refl _) _⟩
theorem sec_appN_succ (l : List Wr) (L : List (List Nat)) (k i : Nat) (hk : (wr l k).1 < L.length) : sec (appN l L (k + 1)) i = if (wr l k).1 = i then (wr l k).2 else sec (appN l L k) i := by
  show sec ((appN l L k).set _ _) i = _
  rw [sec_set _ (by rw [appN_len]; exact hk)]
set_option maxHeartbeats 1600000 in
theorem rread_good {vL vR : Value} (h : RefV w vL vR m) (i : Nat) (hi : i < m.out.length) (hl : m.row.length ≤ 4611686018427387904) :
    Calls Try.prog 34 #[.agg #[vL, vR, .int .i64 m.fuse, .bool false, .int .i64 (m.done : Int)], .int .i64 (i : Int)] w fun e w' => e = .returned (.tuple #[.string (strB (sec m.last i)), .int .i64 0]) ∧ Below w.heap.size w w' := by
  obtain ⟨gL, cL, rfl, _, hgL⟩ := h.l.form (by omega)
  obtain ⟨q, c, hvR⟩ := own_form h.r
  rw [hvR] at h ⊢
  clear hvR
  have HH := Lib.hid h
  have hc := h.l.cellAt i (by omega)
  rw [strs_get _ _ hi] at hc
  have HLast : Hid (sec m.last i = sec (appN m.row m.out m.row.length) i) := Lib.hid rfl
  have HZ : Hid (sec (appN m.row m.out 0) i = sec m.out i) := Lib.hid rfl
  have HS : Hid (∀ k, k < m.row.length → sec (appN m.row m.out (k + 1)) i = if (wr m.row k).1 = i then (wr m.row k).2 else sec (appN m.row m.out k) i) := Lib.hid (fun k hk => sec_appN_succ _ _ _ _ (h.ok.row _ (wr_mem hk)).1)
  have HR : Hid (∀ k, k < m.row.length → ∃ g, q = some ⟨g, 0, none⟩ ∧ g < w.heap.size ∧ w.cell? ⟨g, k * 2, none⟩ = some (.int .i64 ((wr m.row k).1 : Int)) ∧ w.cell? ⟨g, k * 2 + 1, none⟩ = some (.string (strB (wr m.row k).2))) := Lib.hid (fun k hk => by
    have hr := h.r
    obtain ⟨g, c2, e, _, hg⟩ := hr.form (by omega)
    simp only [Value.slice.injEq] at e
    obtain ⟨rfl, _, rfl⟩ := e
    have h1 := hr.cellAt (k * 2) (by omega)
    have h2 := hr.cellAt (k * 2 + 1) (by omega)
    rw [(wrs_get _ k hk).1] at h1
    rw [(wrs_get _ k hk).2] at h2
    exact ⟨g, rfl, hg, h1, h2⟩)
  have hil : (i : Int) < (m.out.length : Int) := by omega
  have hW : Hid (Below w.heap.size w (w.alloc (.cells #[.slice (some ⟨gL, 0, none⟩) m.out.length cL, .slice q m.row.length c, .int .i64 m.fuse, .bool false, .int .i64 (m.done : Int)] 33))) := Lib.hid ((Below.refl _ _).alloc (Nat.le_refl _) _)
  have hcw := (hW.out.cell (p := ⟨gL, i, none⟩) hgL).trans hc
  rw [HLast.out]
  clear h HLast hc
  generalize hrl : m.row.length = n at *
  have HRL := Lib.hid hrl
  clear hrl
  generalize m.out.length = no at *
  generalize m.fuse = fu at *
  generalize m.done = dn at *
  go_enter Try.func34, Try.ntmps34
  go_wp2_with fail
  go_loop [6, 7] (fun sv kv => ∃ k : Nat, k ≤ n ∧ kv = .int .i64 (k : Int) ∧ sv = .string (strB (sec (appN m.row m.out k) i))) (fun _ kv => n - (intOf kv).toNat)
  case atStart => exact ⟨0, by omega, by go_num, by rw [HZ.out]⟩
  case round =>
    obtain ⟨k, hk, rfl, rfl⟩ := hrel
    by_cases hlt : k < n
    · obtain ⟨g, rfl, hg, h1, h2⟩ := HR.out k hlt
      have k1 := (hW.out.cell (p := ⟨g, k * 2, none⟩) hg).trans h1
      have k2 := (hW.out.cell (p := ⟨g, k * 2 + 1, none⟩) hg).trans h2
      have hs := HS.out k hlt
      clear h1 h2
      by_cases hki : (wr m.row k).1 = i
      · have hd : (((wr m.row k).1 : Int) == (i : Int)) = true := by rw [hki]; simp
        rw [if_pos hki] at hs
        have HS2 := Lib.hid hs
        clear hs hki
        generalize (wr m.row k).1 = at_ at *
        generalize (wr m.row k).2 = t at *
        generalize sec (appN m.row m.out k) i = s0 at *
        go_wp2_with fail
        go_round
        case rel => exact ⟨k + 1, by omega, by go_num, by rw [HS2.out]⟩
        case measure => simp [intOf]; omega
      · have hd : (((wr m.row k).1 : Int) == (i : Int)) = false := by
          simp; omega
        rw [if_neg hki] at hs
        have HS2 := Lib.hid hs
        clear hs hki
        generalize (wr m.row k).1 = at_ at *
        generalize (wr m.row k).2 = t at *
        generalize sec (appN m.row m.out k) i = s0 at *
        go_wp2_with fail
        go_round
        case rel => exact ⟨k + 1, by omega, by go_num, by rw [HS2.out]⟩
        case measure => simp [intOf]; omega
    · obtain rfl : k = n := by omega
      go_wp2_with fail
      go_ret2
      exact ⟨rfl, hW.out⟩
theorem Ref.read {x : Value} (h : Ref w x m) (i : Int) (hl : m.row.length ≤ 4611686018427387904) :
    Calls Try.prog 34 #[x, .int .i64 i] w fun e w' => e = .returned (.tuple #[.string (strB (readS m i)), .int .i64 (readE m i)]) ∧ Below w.heap.size w w' := by
  obtain ⟨vL, vR, rfl, h⟩ := h
  unfold refV
  by_cases hd : m.down = true
  · rw [show readS m i = [] by unfold readS; rw [if_pos hd], show readE m i = 9 by unfold readE; rw [if_pos hd], hd]
    obtain ⟨⟨q1, c1, rfl⟩, q2, c2, rfl⟩ := h.forms
    exact rread_down _ _ _ _ _ _ _ _ _ _
  · have hf : m.down = false := by simpa using hd
    by_cases hh : m.has i = true
    · rw [show readS m i = sec m.last i.toNat by unfold readS; rw [if_neg hd, if_neg (by simp [hh])], show readE m i = 0 by unfold readE; rw [if_neg hd, if_neg (by simp [hh])], hf]
      unfold Dsk.has at hh
      simp only [Bool.and_eq_true, decide_eq_true_eq] at hh
      obtain ⟨k, rfl⟩ := Int.eq_ofNat_of_zero_le hh.1
      exact rread_good h k (by omega) hl
    · have hh0 : m.has i = false := by simpa using hh
      rw [show readS m i = [] by unfold readS; rw [if_neg hd, if_pos hh0], show readE m i = 7 by unfold readE; rw [if_neg hd, if_pos hh0], hf]
      obtain ⟨⟨q1, c1, rfl⟩, q2, c2, rfl⟩ := h.forms
      refine rread_far _ _ _ _ _ _ _ _ _ _ ?_
      unfold Dsk.has at hh0
      simp only [Bool.and_eq_false_iff, decide_eq_false_iff_not] at hh0
      omega
end
end Go.Proofs.Ytdldjpgbifcljaa
