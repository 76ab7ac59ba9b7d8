/- What slices.Grow of nil and slices.Concat of pieces of bytes return. -/
import Derived.Test.YtpdihgmgcamgkaaNb
import Derived.Lib.AppendZerosOnto
import Derived.Laws.AppendOwnNone
set_option maxRecDepth 20000
namespace Go.Proofs.Ytpdihgmgcamgkaa
open Go.RowKit

/-- A slice of the call's own, of no byte. -/
def Empty (base : Nat) (w' : World) (v : Value) : Prop := ∃ p c, v = .slice p 0 c ∧ w'.ownsRow base 5 1 (.slice p 0 c) 0 (u8s [])

set_option maxHeartbeats 800000 in
theorem grow_any (n : Nat) (w : World) (hn : n ≤ 1099511627776) :
    Calls Try.prog 56 #[.slice none 0 0, .int .i64 n] w fun e w' => (∃ v, e = .returned v ∧ Empty w.heap.size w' v) ∧ Below w.heap.size w w' := by
  rcases Nat.eq_zero_or_pos n with h0 | h0
  · subst h0
    have HE : Hid (Empty w.heap.size w (.slice none 0 0)) := Lib.hid ⟨none, 0, rfl, World.ownsRow_nil _ _ _ _⟩
    go_enter Try.func56, Try.ntmps56
    go_wp2_with fail
    go_ret
    exact ⟨⟨_, rfl, HE.out⟩, Below.refl _ _⟩
  · obtain ⟨i0, hi, hz0, hz1, hz2⟩ := info_parts Try.info5
    have hrz : ∀ ty, (Builtin.append_ #[42, 3] ty #[.slice none 0 0, .int .i64 (n : Int)]).run Try.prog w =
        .ok (.slice (some ⟨w.heap.size, 0, none⟩) n (grownCap w n 0 5)) (w.drew.alloc (.cells (#[] ++ Builtin.zeroCells #[.int .u8 0] n ++ Builtin.zeroCells #[.int .u8 0] (grownCap w n 0 5 - n)) 5)) := fun ty => by
      have h := Lib.run_append_grow_zeros (P := Try.prog) w 42 3 ty 5 i0 (.int .u8 0) .i64 .i64 Try.underlying42 Try.underlying3 hi hz0 none 0 0 [] (run_firstCells_none w.drew i0.size 0 0 0) n h0 (by omega) (by omega) (by omega)
        (by rw [hz2]; omega) (by rw [hz2]; exact growslice_fits (by omega) (by omega))
      rw [Nat.zero_add] at h
      exact h
    have hGn := grownCap_ge w n 0 5
    have hGm := grownCap_le_maxLen w n 0 5 (by unfold maxLen; omega)
    generalize grownCap w n 0 5 = G at hrz hGn hGm
    have hcs : (#[] ++ Builtin.zeroCells #[.int .u8 0] n ++ Builtin.zeroCells #[.int .u8 0] (G - n) : Array Value).size = G := by
      rw [Array.size_append, Array.size_append, size_zeroCells, size_zeroCells]; simp; omega
    generalize (#[] ++ Builtin.zeroCells #[.int .u8 0] n ++ Builtin.zeroCells #[.int .u8 0] (G - n) : Array Value) = cs at hrz hcs
    have HE : Hid (Empty w.heap.size (w.drew.alloc (.cells cs 5)) (.slice (some ⟨w.heap.size, 0, none⟩) 0 G)) := Lib.hid ⟨_, _, rfl, rfl, .inr ⟨w.heap.size, G, cs, rfl, Nat.le_refl _, by show (w.heap.push _)[w.heap.size]? = _; simp, Nat.zero_le _, hGm, by omega, rfl⟩⟩
    unfold maxLen at hGm
    clear hcs hi hz0 hz1 hz2
    go_enter Try.func56, Try.ntmps56
    go_wp2_with (at_builtin; refine Lib.wpList_append_run _ rfl _ _ _ _ rfl _ _ rfl rfl _ _ (hrz _) ?_)
    go_ret
    exact ⟨⟨_, rfl, HE.out⟩, (Below.refl _ _).drew.alloc (Nat.le_refl _) _⟩

/-- The first pieces, one behind the other. -/
def cat (ps : Nat → List Nat) : Nat → List Nat
  | 0 => []
  | i + 1 => cat ps i ++ ps i
def Pcs (w : World) (b o n : Nat) (A : Nat → Option Addr) (L C : Nat → Nat) (ps : Nat → List Nat) : Prop :=
  ∀ r, r < n → w.cell? ⟨b, o + r, none⟩ = some (.slice (A r) (L r) (C r)) ∧ Bys w (A r) (L r) (ps r) ∧ (A r = none → C r = 0) ∧ L r ≤ C r
theorem cat_mono (ps : Nat → List Nat) {i n : Nat} (h : i ≤ n) : (cat ps i).length ≤ (cat ps n).length := by
  induction n with
  | zero => rw [Nat.le_zero.1 h]; exact Nat.le_refl _
  | succ n ih =>
    rcases Nat.lt_or_ge i (n + 1) with h1 | h1
    · refine Nat.le_trans (ih (by omega)) ?_
      show _ ≤ (cat ps n ++ ps n).length
      rw [List.length_append]; omega
    · rw [show i = n + 1 by omega]; exact Nat.le_refl _
theorem cat_dig (ps : Nat → List Nat) {n : Nat} (h : ∀ r, r < n → ∀ x ∈ ps r, x < 256) : ∀ i, i ≤ n → ∀ x ∈ cat ps i, x < 256 := by
  intro i
  induction i with
  | zero => intro _ x hx; cases hx
  | succ i ih => intro hi; exact dig_append (ih (by omega)) (h i (by omega))

structure CatRel (w wr : World) (v : Value) (i : Nat) (ps : Nat → List Nat) : Prop where
  below : Below w.heap.size w wr
  row : ∃ p c, v = .slice p (cat ps i).length c ∧ wr.ownsRow w.heap.size 5 1 (.slice p (cat ps i).length c) (cat ps i).length (u8s (cat ps i))

set_option maxHeartbeats 1600000 in
theorem concat_any (b o n c : Nat) (A : Nat → Option Addr) (L C : Nat → Nat) (ps : Nat → List Nat) (w : World) (hn : n ≤ 9223372036854775807) (hP : Pcs w b o n A L C ps) (hbl : b < w.heap.size) (hT : (cat ps n).length ≤ 1099511627776) :
    Calls Try.prog 43 #[.slice (some ⟨b, o, none⟩) n c] w fun e w' => ∃ p c, e = .returned (.slice p (cat ps n).length c) ∧ w'.ownsRow w.heap.size 5 1 (.slice p (cat ps n).length c) (cat ps n).length (u8s (cat ps n)) ∧ Below w.heap.size w w' := by
  obtain ⟨i0, hi, hz0, hz1, hz2⟩ := info_parts Try.info5
  have HI := Lib.hid hi
  have HZ0 := Lib.hid hz0
  have HZ1 := Lib.hid hz1
  have HZ2 := Lib.hid hz2
  have HP := Lib.hid hP
  have HT := Lib.hid hT
  clear hP hT hi hz0 hz1 hz2
  go_enter Try.func43, Try.ntmps43
  go_wp2_with fail
  go_loop [3, 11] (fun sv iv => ∃ i s : Nat, i ≤ n ∧ iv = .int .i64 (i : Int) ∧ sv = .int .i64 (s : Int) ∧ s ≤ 1099511627776 ∧ (cat ps i).length = s) (fun _ iv => n - (intOf iv).toNat)
  case atStart => exact ⟨0, 0, by omega, by go_num, by go_num, by omega, rfl⟩
  case round =>
    obtain ⟨i, s, hin, rfl, rfl, hs40, hs⟩ := hrel
    have HS := Lib.hid hs
    clear hs
    by_cases hlt : i < n
    · obtain ⟨hcell, hBy, _, _⟩ := HP.out i hlt
      have HN : Hid ((cat ps (i + 1)).length = s + L i) := Lib.hid (by show (cat ps i ++ ps i).length = _; rw [List.length_append, HS.out, hBy.len])
      have hN2 : s + L i ≤ 1099511627776 := by rw [← HN.out]; exact Nat.le_trans (cat_mono ps hlt) HT.out
      clear hBy
      generalize L i = l at *
      generalize C i = c1 at *
      generalize A i = a1 at *
      go_wp2_with fail
      go_round
      case rel => exact ⟨i + 1, s + l, by omega, by go_num, by go_num, hN2, HN.out⟩
      case measure => simp [intOf]; omega
    · obtain rfl : i = n := by omega
      go_wp2_with fail
      refine (grow_any s _ hs40).mono ?_
      rintro e w1 ⟨⟨v, rfl, hE⟩, hb⟩
      have H0 : Hid (CatRel w w1 v 0 ps) := Lib.hid ⟨hb, hE⟩
      clear hE hb HS
      go_wp2_with fail
      go_loopw [6, 27] (fun vv iv wr => ∃ k : Nat, k ≤ i ∧ iv = .int .i64 (k : Int) ∧ CatRel w wr vv k ps) (fun _ iv _ => i - (intOf iv).toNat)
      case atStart => exact ⟨0, by omega, by go_num, H0.out⟩
      case round =>
        obtain ⟨k, hk, rfl, hr⟩ := hrel
        clear H0
        by_cases hlt : k < i
        · obtain ⟨hcell0, hBy0, hA0, hLC⟩ := HP.out k hlt
          obtain ⟨hbel, p, c2, rfl, hrow⟩ := hr
          have hcell := (hbel.cell (p := ⟨b, o + k, none⟩) hbl).trans hcell0
          have HBy := Lib.hid (hBy0.below hbel)
          have HA0 := Lib.hid hA0
          have HB := Lib.hid hbel
          have HE := Lib.hid (show cat ps (k + 1) = cat ps k ++ ps k from rfl)
          have hN2 : (cat ps k).length + L k ≤ 1099511627776 := by
            have h1 : (cat ps (k + 1)).length = (cat ps k).length + L k := by rw [HE.out, List.length_append, hBy0.len]
            rw [← h1]; exact Nat.le_trans (cat_mono ps hlt) HT.out
          have HPL : Hid ((ps k).length = L k) := Lib.hid hBy0.len
          have HR := Lib.hid hrow
          clear hbel hrow hcell0 hBy0 hA0
          obtain ⟨l, HL⟩ : ∃ l, Hid ((cat ps k).length = l) := ⟨_, Lib.hid rfl⟩
          rw [HL.out] at HR hN2 ⊢
          generalize hli : L k = m at *
          generalize hci : C k = c1 at *
          clear hli hci
          cases hA : A k with
          | none =>
            rw [hA] at hcell HBy
            obtain rfl : c1 = 0 := HA0.out hA
            obtain rfl : m = 0 := by omega
            clear hA HA0
            have HN : Hid (CatRel w wr (.slice p l c2) (k + 1) ps) := Lib.hid ⟨HB.out, p, c2, by rw [HE.out, HBy.out.nil_, List.append_nil, HL.out], by rw [HE.out, HBy.out.nil_, List.append_nil, HL.out]; exact HR.out⟩
            have hown := HR.out
            go_wp2_with (at_builtin; refine wpList_append_own_none rfl _ _ 42 rfl w.heap.size 5 i0 1 Try.underlying42 HI.out _ l _ rfl hown rfl ?_)
            clear hown
            go_wp2_with fail
            go_roundw
            case rel => exact ⟨k + 1, by omega, by go_num, HN.out⟩
            case measure => simp [intOf]; omega
          | some ad =>
            rw [hA] at hcell HBy
            clear hA HA0
            have KN : Hid (∀ j u, (u8s (ps k))[j]? = some u → wr.cell? (ad.add j) = some u) := Lib.hid (by
              rcases Nat.eq_zero_or_pos m with h0 | h0
              · subst h0
                rw [HBy.out.nil_]
                intro j u hj
                cases hj
              · obtain ⟨ad', e, h⟩ := HBy.out.cells h0
                cases e
                exact h)
            have KL : Hid ((u8s (ps k)).length = m * 1) := Lib.hid (by rw [u8s_len, HPL.out, Nat.mul_one])
            have K63 : Hid (l + m ≤ maxLen) := Lib.hid (by unfold maxLen; omega)
            have KB : Hid ((l + m) * 1 ≤ 140737488355328) := Lib.hid (by omega)
            have KE : Hid (w.heap.size ≤ wr.heap.size) := Lib.hid HB.out.size
            have hown := HR.out
            go_wp2_with (at_builtin; refine wpList_append_own _ rfl _ _ 42 rfl w.heap.size 5 i0 (.int .u8 0) 1 1 Try.underlying42 HI.out HZ0.out HZ1.out HZ2.out rfl (by decide) _ l _ rfl hown ad m c1 (u8s (ps k)) rfl KL.out KN.out (u8s_one _) K63.out KB.out KE.out ?_)
            intro v2 w2 hown2 hgrow _
            obtain ⟨p2, c3, rfl⟩ := own_slice hown2
            have HN : Hid (CatRel w w2 (.slice p2 (l + m) c3) (k + 1) ps) := Lib.hid ⟨HB.out.grown hgrow HB.out.size (fun j e => (HR.out.lt j e).1), p2, c3, by rw [HE.out, List.length_append, HL.out, HPL.out], by rw [HE.out, List.length_append, HL.out, HPL.out, u8s_append]; exact hown2⟩
            clear hown hown2 hgrow KN KL K63 KB KE HR
            go_wp2_with fail
            go_roundw
            case rel => exact ⟨k + 1, by omega, by go_num, HN.out⟩
            case measure => simp [intOf]; omega
        · obtain rfl : k = i := by omega
          obtain ⟨hbel, p, c2, rfl, hrow⟩ := hr
          have HB := Lib.hid hbel
          have HR := Lib.hid hrow
          clear hbel hrow
          obtain ⟨l, HL⟩ : ∃ l, Hid ((cat ps k).length = l) := ⟨_, Lib.hid rfl⟩
          rw [HL.out] at HR ⊢
          go_wp2_with fail
          go_ret
          rw [HL.out]
          exact ⟨p, c2, rfl, HR.out, HB.out⟩
end Go.Proofs.Ytpdihgmgcamgkaa
