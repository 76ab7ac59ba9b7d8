/- The document's Drop and Room. -/
import Derived.Test.YtldkmkgkllgckaaDoorRef2
import Derived.Test.YtldkmkgkllgckaaDoorRec
set_option linter.unusedSimpArgs false
namespace Go.Proofs.YtldkmkgkllgckaaDoor
open Go.RowKit

def lenOf : Value → Nat
  | .slice _ n _ => n
  | _ => 0
section
variable {w : World} {v : Value} {l : List Sl}
/-- The last slot cut off. -/
theorem Rf.pop {w : World} {b c m : Nat} {l : List Sl} (h : Rf w (.slice (some ⟨b, 0, none⟩) (m + 1) c) (l.take (m + 1))) (hm : m < l.length) : Rf w (.slice (some ⟨b, 0, none⟩) m c) (l.take m) := by
  unfold Rf at h ⊢
  have hl : (l.take (m + 1)).length = m + 1 := by rw [List.length_take]; omega
  have hl2 : (l.take m).length = m := by rw [List.length_take]; omega
  rw [hl, take_slot hm, flat_append] at h
  rw [hl2]
  exact ownsRow_pop (by rw [flat_len, hl2]) h
set_option maxHeartbeats 800000 in
theorem rdrop_any (h : Rf w v l) (ho : Okp l) (i : Int) : Calls Tryd.prog 36 #[v, .int .i64 i] w fun e w' => (∃ v', e = .returned (.tuple #[v', .bool (fullI l i)]) ∧ Rf w' v' (dropL l i)) ∧ Below w.heap.size w w' := by
  have HP := Lib.hid h
  by_cases hi0 : i < 0
  · have hf : fullI l i = false := by unfold fullI; simp; omega
    rw [hf, show dropL l i = l by unfold dropL; rw [if_pos hf]]
    have hd : decide (i < 0) = true := decide_eq_true hi0
    clear h hf
    go_enter Tryd.func36, Tryd.ntmps36
    go_wp2_with fail
    go_ret2
    exact ⟨⟨_, rfl, HP.out⟩, Below.refl _ _⟩
  · obtain ⟨k, rfl⟩ : ∃ k : Nat, i = (k : Int) := ⟨i.toNat, by omega⟩
    have hd : decide ((k : Int) < 0) = false := by simp
    by_cases hk : l.length ≤ k
    · have hf : fullI l (k : Int) = false := by rw [fullI_nat, slot_ge hk]; rfl
      rw [hf, show dropL l (k : Int) = l by unfold dropL; rw [if_pos hf]]
      obtain ⟨q, c, rfl⟩ := h.form
      have hd1 : decide ((l.length : Int) ≤ (k : Int)) = true := by simp; omega
      clear h hf
      go_enter Tryd.func36, Tryd.ntmps36
      go_wp2_with fail
      go_ret2
      exact ⟨⟨_, rfl, HP.out⟩, Below.refl _ _⟩
    · have hkl : k < l.length := by omega
      obtain ⟨b, c, rfl, hc, x1, x2⟩ := h.at hkl
      obtain ⟨N, HN⟩ : ∃ N, Hid (l.length = N) := ⟨_, Lib.hid rfl⟩
      have hlen := ho.len
      have HWi := Lib.hid (with_any h k (by omega) none (by omega))
      have hW : withL l k none = l.set k none := by unfold withL; rw [if_neg (by omega)]
      rw [hW] at HWi
      have hd1 : decide ((l.length : Int) ≤ (k : Int)) = false := by simp; omega
      have hkN : (k : Int) < (l.length : Int) := by omega
      by_cases hs : (slot l k).isSome = true
      · have hf : fullI l (k : Int) = true := by rw [fullI_nat, hs]
        rw [hs] at x1
        rw [hf, show dropL l (k : Int) = trim (l.set k none) by unfold dropL; rw [if_neg (by rw [hf]; simp), Int.toNat_natCast]]
        obtain ⟨m, HM⟩ : ∃ m, Hid (l.set k none = m) := ⟨_, Lib.hid rfl⟩
        have HML : Hid (m.length = N) := Lib.hid (by rw [← HM.out, List.length_set]; exact HN.out)
        rw [HM.out] at HWi ⊢
        rw [HN.out] at hd1 hc hkN hlen HP HWi hkl ⊢
        clear h hf hs hk hW ho
        generalize recOf (slot l k) = r0 at *
        simp only [Option.isSome_none, recOf, Option.getD_none] at HWi
        go_enter Tryd.func36, Tryd.ntmps36
        go_wp2_with fail
        refine HWi.out.mono ?_
        rintro e w2 ⟨⟨v', rfl, hm⟩, hb⟩
        have HB := Lib.hid hb
        obtain ⟨b2, c2, e, hc2⟩ := hm.some_.resolve_left (fun h => by have := HML.out; rw [h.2] at this; simp at this; omega)
        subst e
        rw [HML.out] at hc2
        have H0 : Hid (Rf w2 (.slice (some ⟨b2, 0, none⟩) N c2) (m.take N)) := Lib.hid (by rw [← HML.out, List.take_length]; exact hm)
        rw [HML.out]
        have HBR : Hid (∀ j, N ≤ j → slot m j = none) := Lib.hid (fun j hj => slot_ge (by rw [HML.out]; exact hj))
        clear hb hm
        go_wp2_with fail
        go_loop [6] (fun mv => ∃ n : Nat, n ≤ N ∧ mv = .slice (some ⟨b2, 0, none⟩) n c2 ∧ Hid (Rf w2 (.slice (some ⟨b2, 0, none⟩) n c2) (m.take n)) ∧ Hid (∀ j, n ≤ j → slot m j = none)) (fun mv => lenOf mv)
        case atStart => exact ⟨N, Nat.le_refl _, rfl, H0, HBR⟩
        case round =>
          obtain ⟨n, hn, rfl, hR, hbr⟩ := hrel
          rcases Nat.eq_zero_or_pos n with h0 | h0
          · subst h0
            have HT : Hid (trim m = m.take 0) := Lib.hid (by rw [trim_take (k := 0) (Nat.zero_le _) (fun j h1 _ => hbr.out j h1)]; rfl)
            go_wp2_with fail
            go_ret2
            rw [HT.out]
            exact ⟨⟨_, rfl, hR.out⟩, HB.out⟩
          · obtain ⟨t, rfl⟩ : ∃ t, n = t + 1 := ⟨n - 1, by omega⟩
            have htl : t < m.length := by rw [HML.out]; omega
            obtain ⟨b', c', e', _, x1, _⟩ := hR.out.at (k := t) (by rw [List.length_take]; omega)
            rw [List.length_take, Nat.min_eq_left (by omega)] at e'
            cases e'
            rw [take_at (Nat.lt_succ_self t)] at x1
            have hcm : t + 1 ≤ c2 := by omega
            have hpos : (0 : Int) < (t : Int) + 1 := by omega
            have HTL := Lib.hid htl
            clear htl
            cases hs : (slot m t).isSome with
            | true =>
              rw [hs] at x1
              have HT : Hid (trim m = m.take (t + 1)) := Lib.hid (by rw [trim_take (k := t + 1) (by have := HTL.out; omega) (fun j h1 _ => hbr.out j h1), trim_stop (by have := HTL.out; omega) (fun _ => by rw [Nat.add_sub_cancel]; exact hs)])
              clear hs
              go_wp2_with fail
              go_ret2
              rw [HT.out]
              exact ⟨⟨_, rfl, hR.out⟩, HB.out⟩
            | false =>
              rw [hs] at x1
              have HS : Hid (∀ j, t ≤ j → slot m j = none) := Lib.hid (fun j hj => by
                rcases Nat.lt_or_ge t j with h3 | h3
                · exact hbr.out j h3
                · obtain rfl : j = t := by omega
                  simpa using hs)
              clear hs
              have HR2 := Lib.hid (hR.out.pop HTL.out)
              go_wp2_with fail
              go_round
              case rel => exact ⟨t, by omega, rfl, HR2, HS⟩
              case measure => simp [lenOf]
      · have hs2 : (slot l k).isSome = false := by simpa using hs
        have hf : fullI l (k : Int) = false := by rw [fullI_nat, hs2]
        rw [hs2] at x1
        rw [hf, show dropL l (k : Int) = l by unfold dropL; rw [if_pos hf]]
        rw [HN.out] at hd1 hc hkN HP
        rw [HN.out]
        clear h hf hs hs2 hk hkl hW ho
        go_enter Tryd.func36, Tryd.ntmps36
        go_wp2_with fail
        go_ret2
        exact ⟨⟨_, rfl, HP.out⟩, Below.refl _ _⟩
end
end Go.Proofs.YtldkmkgkllgckaaDoor
