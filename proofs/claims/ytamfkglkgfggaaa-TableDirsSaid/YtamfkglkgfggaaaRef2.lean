/- The document's row with another truth at a place. -/
import Derived.Test.YtamfkglkgfggaaaRef1
import Derived.Test.YtamfkglkgfggaaaPut
namespace Go.Proofs.Ytamfkglkgfggaaa
open Go.RowKit

theorem Try.info4 : (Try.prog.info? 4).map (fun i => (i.zero, i.size, i.bytes)) = some (some (.bool false), 1, 1) := by kernel_rfl
/-- Truths as cells. -/
def bvs (f : Nat → Bool) (n : Nat) : List Value := (List.range n).map fun i => .bool (f i)
theorem bvs_len (f : Nat → Bool) (n : Nat) : (bvs f n).length = n := by unfold bvs; simp
theorem bvs_get (f : Nat → Bool) (n i : Nat) (h : i < n) : (bvs f n)[i]? = some (.bool (f i)) := by unfold bvs; rw [List.getElem?_map, List.getElem?_range h]; rfl
theorem bvs_one (f : Nat → Bool) (n : Nat) : ∀ v ∈ bvs f n, v.oneCell' = true := by
  intro v hv
  obtain ⟨x, _, rfl⟩ := List.mem_map.1 hv
  rfl
theorem bvs_succ (f : Nat → Bool) (n : Nat) : bvs f (n + 1) = bvs f n ++ [.bool (f n)] := by unfold bvs; rw [List.range_succ, List.map_append]; rfl
theorem bvs_congr {f g : Nat → Bool} {n : Nat} (h : ∀ i, i < n → f i = g i) : bvs f n = bvs g n := by
  unfold bvs
  exact List.map_congr_left fun i hi => by rw [h i (List.mem_range.1 hi)]
theorem bvs_upd (f : Nat → Bool) (n i : Nat) (v : Bool) : (bvs f n).set i (.bool v) = bvs (upd f i v) n := by
  apply List.ext_getElem?
  intro j
  rw [List.getElem?_set, bvs_len]
  by_cases hj : j < n
  · rw [bvs_get _ _ _ hj, bvs_get _ _ _ hj]
    by_cases h : i = j
    · subst h; rw [if_pos rfl, if_pos hj, upd_same]
    · rw [if_neg h, upd_other _ _ _ _ (Ne.symm h)]
  · rw [List.getElem?_eq_none (by rw [bvs_len]; omega), List.getElem?_eq_none (by rw [bvs_len]; omega)]
    split
    · rw [if_neg (by omega)]
    · rfl
theorem Bls.news {w : World} {p : Option Addr} {n : Nat} {f : Nat → Bool} (h : Bls w p n f) (hn : 0 < n) : ∃ ad, p = some ad ∧ ∀ j v, (bvs f n)[j]? = some v → w.cell? (ad.add j) = some v := by
  obtain ⟨b, o, e, hc⟩ := h.at hn
  refine ⟨_, e, fun j v hv => ?_⟩
  have hj : j < n := by
    rcases Nat.lt_or_ge j n with h1 | h1
    · exact h1
    · rw [List.getElem?_eq_none (by rw [bvs_len]; exact h1)] at hv; cases hv
  rw [bvs_get _ _ _ hj] at hv
  cases hv
  rw [Go.WideShapes.add_plain]
  exact hc j hj
theorem own_some {w : World} {base E n : Nat} {v : Value} {xs : List Value} (h : w.ownsRow base E 1 v n xs) (hn : 0 < n) : ∃ g cap, v = .slice (some ⟨g, 0, none⟩) n cap ∧ base ≤ g ∧ g < w.heap.size := by
  rcases h.2 with ⟨h0, h1⟩ | ⟨g, cap, cur, e, hb, hh, _⟩
  · omega
  · exact ⟨g, cap, e, hb, lt_of_block hh⟩
theorem Bls.of_own {w : World} {base g n c : Nat} {f : Nat → Bool} (h : w.ownsRow base 4 1 (.slice (some ⟨g, 0, none⟩) n c) n (bvs f n)) : Bls w (some ⟨g, 0, none⟩) n f :=
  ⟨fun _ => ⟨g, 0, rfl, fun i hi => by rw [Nat.zero_add]; exact (World.ownsRow.cellAt h i (by omega)).trans (bvs_get _ _ _ hi)⟩⟩
theorem Bls.of_any {w : World} {base n c : Nat} {p : Option Addr} {f : Nat → Bool} (h : w.ownsRow base 4 1 (.slice p n c) n (bvs f n)) : Bls w p n f ∧ ∀ b o, p = some ⟨b, o, none⟩ → base ≤ b := by
  rcases h.2 with ⟨h0, h1⟩ | ⟨g, cap, cur, e, hb, hh, _⟩
  · cases h0
    exact ⟨Bls.zero _ _ _, fun b o e => by cases e⟩
  · cases e
    exact ⟨Bls.of_own h, fun b o e => by cases e; exact hb⟩
/-- Is a row another one? -/
def wthB (n : Nat) (f : Nat → Bool) (x : Int) (v : Bool) : Bool := decide (0 ≤ x ∧ x < (n : Int)) && (hasI f x != v)
def wth (n : Nat) (f : Nat → Bool) (x : Int) (v : Bool) : Nat → Bool := if wthB n f x v = true then upd f x.toNat v else f
theorem upd_id (f : Nat → Bool) (i : Nat) (v : Bool) (h : f i = v) : upd f i v = f := by
  funext j
  by_cases hj : j = i
  · subst hj; rw [upd_same, h]
  · rw [upd_other _ _ _ _ hj]
theorem wthB_true (n : Nat) (f : Nat → Bool) (x : Int) : wthB n f x true = newI n f x := by unfold wthB newI; cases hasI f x <;> rfl
theorem wth_true (n : Nat) (f : Nat → Bool) (x : Int) : wth n f x true = putI n f x := by
  unfold wth putI
  by_cases hin : 0 ≤ x ∧ x < (n : Int)
  · rw [if_pos hin]
    cases hb : wthB n f x true with
    | true => rw [if_pos rfl]
    | false =>
      rw [if_neg (by decide)]
      unfold wthB at hb
      rw [decide_eq_true hin, Bool.true_and] at hb
      have hh : hasI f x = true := by cases h : hasI f x with
        | true => rfl
        | false => rw [h] at hb; cases hb
      exact (upd_id _ _ _ (by unfold hasI at hh; rw [decide_eq_true hin.1, Bool.true_and] at hh; exact hh)).symm
  · rw [if_neg hin, if_neg]
    unfold wthB; rw [decide_eq_false hin, Bool.false_and]; decide
theorem wthB_false {n : Nat} {f : Nat → Bool} (hs : Sub n f) (x : Int) : wthB n f x false = hasI f x := by
  unfold wthB
  by_cases hin : 0 ≤ x ∧ x < (n : Int)
  · rw [decide_eq_true hin, Bool.true_and]; cases hasI f x <;> rfl
  · rw [decide_eq_false hin, Bool.false_and, hasI_out hs hin]
theorem wth_false {n : Nat} {f : Nat → Bool} (hs : Sub n f) (x : Int) : wth n f x false = dropI f x := by
  unfold wth dropI; rw [wthB_false hs]
set_option maxHeartbeats 1600000 in
theorem with_not (p : Option Addr) (n c : Nat) (f : Nat → Bool) (x : Int) (v : Bool) (w : World) (hB : Bls w p n f) (hb : wthB n f x v = false) :
    Calls Try.prog 21 #[.slice p n c, .int .i64 x, .bool v] w fun e w' => e = .returned (.tuple #[.slice p n c, .bool false]) ∧ w = w' := by
  by_cases h0 : x < 0
  · have hd : decide (x < 0) = true := decide_eq_true h0
    clear hB hb
    go_enter Try.func21, Try.ntmps21
    go_wp2_with fail
    go_ret2
    exact ⟨rfl, rfl⟩
  · have hd : decide (x < 0) = false := decide_eq_false h0
    by_cases h1 : (n : Int) ≤ x
    · have hd2 : decide ((n : Int) ≤ x) = true := decide_eq_true h1
      clear hB hb
      go_enter Try.func21, Try.ntmps21
      go_wp2_with fail
      go_ret2
      exact ⟨rfl, rfl⟩
    · obtain ⟨i, rfl⟩ := Int.eq_ofNat_of_zero_le (show 0 ≤ x by omega)
      have hi : i < n := by omega
      have hd2 : decide ((n : Int) ≤ (i : Int)) = false := decide_eq_false h1
      have hd2n : decide (n ≤ i) = false := decide_eq_false (by omega)
      obtain ⟨b, o, rfl, hc⟩ := hB.at (by omega)
      have hcell := hc i hi
      have he : (f i == v) = true := by
        unfold wthB at hb
        rw [hasI_nat, decide_eq_true (⟨by omega, by omega⟩ : (0 : Int) ≤ (i : Int) ∧ (i : Int) < (n : Int)), Bool.true_and] at hb
        revert hb; cases f i <;> cases v <;> simp
      clear hB hb hc
      generalize f i = y at *
      go_enter Try.func21, Try.ntmps21
      go_wp2_with fail
      go_ret2
      exact ⟨rfl, rfl⟩
set_option maxHeartbeats 1600000 in
theorem with_new (p : Option Addr) (n c : Nat) (f : Nat → Bool) (i : Nat) (v : Bool) (w : World) (hB : Bls w p n f) (hn : n ≤ 4096) (hi : i < n) (hf : (f i == v) = false) :
    Calls Try.prog 21 #[.slice p n c, .int .i64 (i : Int), .bool v] w fun e w' => (∃ g cap, e = .returned (.tuple #[.slice (some ⟨g, 0, none⟩) n cap, .bool true]) ∧ w.heap.size ≤ g ∧ Bls w' (some ⟨g, 0, none⟩) n (upd f i v)) ∧ Below w.heap.size w w' := by
  obtain ⟨i0, hi0, hz0, hz1, hz2⟩ := info_parts Try.info4
  have hd : decide ((i : Int) < 0) = false := decide_eq_false (by omega)
  have hd2 : decide ((n : Int) ≤ (i : Int)) = false := decide_eq_false (by omega)
  have hd2n : decide (n ≤ i) = false := decide_eq_false (by omega)
  obtain ⟨b, o, rfl, hc⟩ := hB.at (by omega)
  have hcell := hc i hi
  obtain ⟨ad, e, hnews⟩ := hB.news (by omega)
  cases e
  have HNEW := Lib.hid hnews
  have HN := Lib.hid hn
  have HNIL : Hid (w.ownsRow w.heap.size 4 1 (.slice none 0 0) 0 []) := Lib.hid (World.ownsRow_nil _ _ _ _)
  have HU : Hid ((bvs f n).set i (.bool v) = bvs (upd f i v) n) := Lib.hid (bvs_upd f n i v)
  have HL : Hid ((bvs f n).length = n) := Lib.hid (bvs_len f n)
  have HGI : Hid ((bvs f n)[i]? = some (.bool (f i))) := Lib.hid (bvs_get f n i hi)
  clear hB hc hn hnews
  go_enter Try.func21, Try.ntmps21
  go_wp2_with (at_builtin; refine wpList_append_own _ rfl _ _ 53 rfl w.heap.size 4 i0 (.bool false) 1 1 Try.underlying53 hi0 hz0 hz1 hz2 rfl (by decide) _ 0 [] rfl HNIL.out ⟨b, o, none⟩ n c (bvs f n) rfl ?qc1 HNEW.out (bvs_one f n) ?qc4 ?qc5 ?qc6 ?_)
  case qc1 => rw [HL.out]; omega
  case qc4 => have := HN.out; unfold maxLen; omega
  case qc5 => have := HN.out; omega
  case qc6 => simp
  intro v' w1 hown hgrow hnil
  have HB := Lib.hid ((Below.refl w.heap.size w).grown hgrow (by simp) (by intro k hk; simp [Value.ownBlock] at hk))
  have hown2 : w1.ownsRow w.heap.size 4 1 v' n (bvs f n) := by simpa using hown
  clear hown hgrow hnil
  obtain ⟨g, cap, rfl, hg1, hg2⟩ := own_some hown2 (by omega)
  have hc1 := World.ownsRow.cellAt hown2 i (by omega)
  rw [HGI.out] at hc1
  have hf1 := World.ownsRow.frozenAt hown2 i
  have hS := (World.ownsRow.stored hown2 i (.bool v)).1
  rw [HU.out] at hS
  have HS := Lib.hid (Bls.of_own hS)
  have HZ := Lib.hid (HB.out.setCell (p := ⟨g, i, none⟩) hg1 (.bool v))
  clear hS hown2
  go_wp2_with fail
  go_ret2
  exact ⟨⟨g, cap, rfl, hg1, HS.out⟩, HZ.out⟩
/-- With. -/
theorem with_any (p : Option Addr) (n c : Nat) (f : Nat → Bool) (x : Int) (v : Bool) (w : World) (hB : Bls w p n f) (hn : n ≤ 4096) :
    Calls Try.prog 21 #[.slice p n c, .int .i64 x, .bool v] w fun e w' => (∃ p' c', e = .returned (.tuple #[.slice p' n c', .bool (wthB n f x v)]) ∧ Bls w' p' n (wth n f x v) ∧ ∀ b o, p' = some ⟨b, o, none⟩ → p = p' ∨ w.heap.size ≤ b) ∧ Below w.heap.size w w' := by
  cases hb : wthB n f x v with
  | false =>
    refine (with_not p n c f x v w hB hb).mono ?_
    rintro e w' ⟨rfl, rfl⟩
    refine ⟨⟨p, c, rfl, ?_, fun _ _ _ => .inl rfl⟩, Below.refl _ _⟩
    unfold wth; rw [hb, if_neg (by decide)]; exact hB
  | true =>
    unfold wth
    rw [hb, if_pos rfl]
    unfold wthB at hb
    rw [Bool.and_eq_true, decide_eq_true_eq] at hb
    obtain ⟨hin, hh⟩ := hb
    obtain ⟨i, rfl⟩ := Int.eq_ofNat_of_zero_le hin.1
    rw [hasI_nat] at hh
    refine (with_new p n c f i v w hB hn (by omega) (by revert hh; cases f i <;> cases v <;> simp)).mono ?_
    rintro e w' ⟨⟨g, cap, rfl, hg, hS⟩, hb⟩
    rw [Int.toNat_natCast]
    exact ⟨⟨_, _, rfl, hS, fun b o e => by cases e; exact .inr hg⟩, hb⟩
end Go.Proofs.Ytamfkglkgfggaaa
