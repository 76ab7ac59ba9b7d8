/- A slot made bare. -/
import Derived.Test.YtldkmkgkllgckaaDoorPut
import Derived.Deep.Cut
set_option linter.unusedSimpArgs false
namespace Go.Proofs.YtldkmkgkllgckaaDoor
open Go.RowKit

section
variable {w : World} {g : Nat} {v : Value} {l : List Sl}
theorem drop_nil (i : Int) (w : World) : Calls Tryd.prog 14 #[.pointer none, .int .i64 i] w fun e w' => e = .returned (.bool false) ∧ Below w.heap.size w w' := by
  have HG := Lib.hid (get_nil i w)
  go_enter Tryd.func14, Tryd.ntmps14
  go_wp2_with (go_at_call 15; refine HG.out.mono ?_; rintro e w1 ⟨rfl, hb⟩)
  go_ret
  exact ⟨rfl, hb⟩
/-- Amid the loop. -/
structure Dl (w wr : World) (g b c n : Nat) (F : List Nat) (l : List Sl) : Prop where
  raw : Pgr wr g (.slice (some ⟨b, 0, none⟩) n c) (l.take n)
  chg : Chg F F w wr
  bare : ∀ j, n ≤ j → slot l j = none
  foot : F = foot g (.slice (some ⟨b, 0, none⟩) n c)
  le : n ≤ l.length
  cap : l.length ≤ c
theorem take_at {l : List Sl} {k n : Nat} (h : k < n) : slot (l.take n) k = slot l k := by
  unfold slot; rw [List.getD_eq_getElem?_getD, List.getD_eq_getElem?_getD, List.getElem?_take_of_lt h]
theorem Dl.ends {w wr : World} {g b c n : Nat} {F : List Nat} {l : List Sl} (h : Dl w wr g b c n F l) (hs : 0 < n → (slot l (n - 1)).isSome = true) (ho : Okp (trim l)) : Went F g (trim l) w wr := by
  have e : trim l = l.take n := by rw [trim_take h.le (fun j h1 _ => h.bare j h1), trim_stop h.le hs]
  rw [e] at ho ⊢
  refine ⟨F, ⟨_, h.raw.pg0 ho, h.foot⟩, h.chg⟩
theorem Dl.pop {w wr : World} {g b c m : Nat} {F : List Nat} {l : List Sl} (h : Dl w wr g b c (m + 1) F l) (hs : slot l m = none) : Dl w (wr.setCell ⟨g, 0, none⟩ (.slice (some ⟨b, 0, none⟩) m c)) g b c m F l := by
  have hr := h.raw
  have hm : m < l.length := by have := h.le; omega
  rw [take_slot hm] at hr
  have h2 := hr.pop
  have hl : (l.take m).length = m := by rw [List.length_take]; omega
  rw [hl] at h2
  refine ⟨h2.1, h.chg.trans ?_, fun j hj => ?_, ?_, by omega, h.cap⟩
  · rw [h.foot]; exact h2.2
  · rcases Nat.lt_or_ge m j with h3 | h3
    · exact h.bare j h3
    · obtain rfl : j = m := by omega
      exact hs
  · rw [h.foot]; rfl
set_option maxHeartbeats 1600000 in
theorem drop_any (h : Pg0 w g v l) (i : Int) : Calls Tryd.prog 14 #[.pointer (some ⟨g, 0, none⟩), .int .i64 i] w fun e w' => e = .returned (.bool (fullI l i)) ∧ Went (foot g v) g (dropL l i) w w' := by
  have HP := Lib.hid h
  have HG := Lib.hid (get_any h i)
  by_cases hf : fullI l i = false
  · rw [show dropL l i = l by unfold dropL; rw [if_pos hf], hf]
    rw [hf] at HG
    clear h hf
    go_enter Tryd.func14, Tryd.ntmps14
    go_wp2_with (go_at_call 15; refine HG.out.mono ?_; rintro e w1 ⟨rfl, hb⟩)
    go_ret
    exact ⟨rfl, Went.below HP.out.pg hb⟩
  · have hf2 : fullI l i = true := by simpa using hf
    obtain ⟨k, rfl, hk, hs⟩ := fullI_lt hf2
    rw [hf2, getS_nat] at HG
    have HOK := Lib.hid (h.ok.drop (k : Int))
    have HD : Hid (dropL l (k : Int) = trim (l.set k none)) := Lib.hid (by unfold dropL; rw [if_neg hf, Int.toNat_natCast])
    rw [hf2]
    rw [HD.out] at HOK ⊢
    have HK := Lib.hid hk
    have hN := h.ok.len
    obtain ⟨b, c, e, hc, _⟩ := h.raw.at hk
    subst e
    obtain ⟨N, HN⟩ : ∃ N, Hid (l.length = N) := ⟨_, Lib.hid rfl⟩
    have hkN : (k : Int) < (N : Int) := by have := HN.out; omega
    rw [HN.out] at HP hN hc hk ⊢
    have HC := Lib.hid hc
    obtain ⟨l2, HL2⟩ : ∃ l2, Hid (l.set k none = l2) := ⟨_, Lib.hid rfl⟩
    rw [HL2.out] at HOK ⊢
    clear h hf hf2 hs HD
    generalize recOf (slot l k) = r0 at *
    go_enter Tryd.func14, Tryd.ntmps14
    go_wp2_with fail
    refine HG.out.mono ?_
    rintro e w1 ⟨rfl, hb⟩
    have HB := Lib.hid hb
    clear hb
    have HP1 := Lib.hid (HP.out.below HB.out)
    have c0 := HP1.out.c0
    obtain ⟨b', c', e', _, x1, x2, f1, f2⟩ := HP1.out.raw.at HK.out
    rw [HN.out] at e'
    cases e'
    have hs2 : Pgr ((w1.setCell ⟨b, k * 2, none⟩ (.bool false)).setCell ⟨b, k * 2 + 1, none⟩ (.string ⟨#[]⟩)) g (.slice (some ⟨b, 0, none⟩) N c) (l.set k none) ∧ Chg (foot g (.slice (some ⟨b, 0, none⟩) N c)) (foot g (.slice (some ⟨b, 0, none⟩) N c)) w1 ((w1.setCell ⟨b, k * 2, none⟩ (.bool false)).setCell ⟨b, k * 2 + 1, none⟩ (.string ⟨#[]⟩)) := HP1.out.raw.set2 HK.out none
    have HS2 := Lib.hid hs2
    clear hs2
    go_upto_region 5 with fail
    generalize (w1.setCell ⟨b, k * 2, none⟩ (.bool false)).setCell ⟨b, k * 2 + 1, none⟩ (.string ⟨#[]⟩) = w2 at *
    have HN2 : Hid (l2.length = N) := Lib.hid (by rw [← HL2.out, List.length_set]; exact HN.out)
    rw [HL2.out] at HS2
    have H0 : Hid (Dl w w2 g b c N (foot g (.slice (some ⟨b, 0, none⟩) N c)) l2) := Lib.hid ⟨by rw [← HN2.out, List.take_length, HN2.out]; exact HS2.out.1, (Chg.of_below HB.out).trans HS2.out.2, fun j hj => slot_ge (by have := HN2.out; omega), rfl, by have := HN2.out; omega, by have := HN2.out; have := HC.out; omega⟩
    have c2 := HS2.out.1.c0
    clear x1 x2 f1 f2 c0 HB HP1 HS2 HL2 HK HP hk hkN
    go_wp2_with fail
    go_loopw [7] (fun nv wr => ∃ n : Nat, n ≤ N ∧ nv = .int .i64 (n : Int) ∧ Hid (Dl w wr g b c n (foot g (.slice (some ⟨b, 0, none⟩) N c)) l2)) (fun nv _ => (intOf nv).toNat)
    case atStart => exact ⟨N, Nat.le_refl _, by go_num, H0⟩
    case round =>
      obtain ⟨n, hn, rfl, hd⟩ := hrel
      rcases Nat.eq_zero_or_pos n with h0 | h0
      · subst h0
        go_wp2_with fail
        go_ret
        exact ⟨rfl, hd.out.ends (fun h => absurd h (Nat.lt_irrefl 0)) HOK.out⟩
      · obtain ⟨m, rfl⟩ : ∃ m, n = m + 1 := ⟨n - 1, by omega⟩
        have c1 := hd.out.raw.c0
        have cf := hd.out.raw.fz
        obtain ⟨b', c', e', _, x1, _⟩ := hd.out.raw.at (k := m) (by rw [List.length_take]; have := hd.out.le; omega)
        rw [List.length_take, Nat.min_eq_left hd.out.le] at e'
        cases e'
        rw [take_at (Nat.lt_succ_self m)] at x1
        have hcm : m + 1 ≤ c := by omega
        have hpos : (0 : Int) < (m : Int) + 1 := by omega
        cases hs : (slot l2 m).isSome with
        | true =>
          rw [hs] at x1
          have HS := Lib.hid hs
          clear hs
          go_wp2_with fail
          go_ret
          exact ⟨rfl, hd.out.ends (fun _ => by rw [Nat.add_sub_cancel]; exact HS.out) HOK.out⟩
        | false =>
          rw [hs] at x1
          have HS := Lib.hid (hd.out.pop (by simpa using hs))
          clear hs
          go_wp2_with fail
          go_roundw
          case rel => exact ⟨m, by omega, by go_num, HS⟩
          case measure => simp [intOf]
end
end Go.Proofs.YtldkmkgkllgckaaDoor
