/- The document's text of a number is the one that package fix returns. -/
import Derived.Test.YtfjoahbboglgfaaDoorBack
namespace Go.Proofs.YtfjoahbboglgfaaDoor
open Go.RowKit

/-- What the loop's head of the document's text knows. -/
structure TextRel (w wr : World) (b : Nat) (a q : Int) (ds : List Nat) : Prop where
  go : q ≠ 0 → ∃ f, Digs b a.natAbs q.natAbs f ds
  done : q = 0 → (ds = [] ∧ a = 0) ∨ bd b 64 a.natAbs = ds
  neg : a < 0 → q ≤ 0
  pos : 0 ≤ a → 0 ≤ q
  below : Below w.heap.size w wr
  lo : -9223372036854775808 ≤ q
  hi : q ≤ 9223372036854775807

theorem TextRel.next {w wr w1 : World} {b : Nat} {a q q' : Int} {ds : List Nat} {d : Nat} (h : TextRel w wr b a q ds) (hb : 2 ≤ b) (hq : q ≠ 0) (hd : d = q.natAbs % b) (hq' : q'.natAbs = q.natAbs / b) (hn : q ≤ 0 → q' ≤ 0) (hp : 0 ≤ q → 0 ≤ q') (hbl : Below w.heap.size w w1) : TextRel w w1 b a q' (ds ++ [d]) := by
  obtain ⟨f, hf⟩ := h.go hq
  have hlo := h.lo
  have hhi := h.hi
  have hle : q.natAbs / b ≤ q.natAbs := Nat.div_le_self _ _
  refine ⟨?_, ?_, fun ha => hn (h.neg ha), fun ha => hp (h.pos ha), hbl, by omega, ?_⟩
  · intro h0
    have hbq : b ≤ q.natAbs := by
      rcases Nat.lt_or_ge q.natAbs b with hl | hl
      · rw [Nat.div_eq_of_lt hl] at hq'; omega
      · exact hl
    obtain ⟨g, _, _, hg⟩ := hf.next hb hbq
    rw [hq', hd]
    exact ⟨g, hg⟩
  · intro h0
    have hl : q.natAbs < b := by
      rcases Nat.lt_or_ge q.natAbs b with hl | hl
      · exact hl
      · have := Nat.div_pos hl (show 0 < b by omega); omega
    right
    rw [hf.done hl, hd, Nat.mod_eq_of_lt hl]
  · by_cases h1 : 0 ≤ q
    · omega
    · have := hn (by omega); omega

theorem one_conv (w : World) (c : UInt8) : (convert 56 9 (.slice (some ⟨w.heap.size, 0, none⟩) 1 1)).run Tryd.prog (w.alloc (.cells #[.int .u8 (c.toNat : Int)] 5)) = .ok (.string ⟨#[c]⟩) (w.alloc (.cells #[.int .u8 (c.toNat : Int)] 5)) := by
  have h1 := run_convert_bytes_back (P := Tryd.prog) (w.alloc (.cells #[.int .u8 (c.toNat : Int)] 5)) 56 9 5 ⟨w.heap.size, 0, none⟩ 1 [c] Tryd.underlying56 Tryd.underlying5 Tryd.underlying9 (fun j hj => by
    have h0 : j = 0 := by simpa using hj
    subst h0
    exact one_cells w (.int .u8 (c.toNat : Int)) 5 0 _ rfl)
  exact h1
theorem ch_lo : ∀ d, d < 10 → (ch d).toNat = 48 + d := by decide
theorem ch_hi : ∀ d, d < 16 → 9 < d → (ch d).toNat = 87 + d := by decide

theorem ret_bytes {s s' : ByteArray} (h : s = s') : Ending.returned (.string s) = .returned (.string s') := by rw [h]

theorem cat_one (c : UInt8) (l : List UInt8) : (ByteArray.mk #[c]) ++ (ByteArray.mk l.toArray) = ⟨(c :: l).toArray⟩ := by
  apply ByteArray.ext
  rw [ByteArray.data_append]
  apply Array.ext'
  simp

theorem rtext_end (b : Nat) (a : Int) (ds : List Nat) (l : List UInt8) (hl : l = ds.reverse.map ch) (h : (ds = [] ∧ a = 0) ∨ bd b 64 a.natAbs = ds) (hb : 2 ≤ b) :
    (l = [] ∧ numText b a = [48]) ∨ (l ≠ [] ∧ numText b a = (if a < 0 then [45] else []) ++ l) := by
  rcases h with ⟨rfl, rfl⟩ | h
  · left
    refine ⟨by rw [hl]; rfl, ?_⟩
    unfold numText
    rw [if_neg (by decide), Int.natAbs_zero, bd_small (by omega) (by decide)]
    rfl
  · right
    refine ⟨?_, by rw [hl, ← h]; rfl⟩
    rw [hl, ← h]
    intro hn
    exact bd_ne b 64 a.natAbs (by simpa using hn)

set_option maxHeartbeats 3200000 in
set_option maxRecDepth 100000 in
theorem rtext_any (b : Nat) (a : Int) (w : World) (hb : 2 ≤ b) (hb2 : b ≤ 16) (h1 : -9223372036854775808 ≤ a) (h2 : a ≤ 9223372036854775807) :
    Calls Tryd.prog 31 #[.int .i64 a, .int .i64 (b : Int)] w fun e w' => e = .returned (.string ⟨(numText b a).toArray⟩) ∧ Below w.heap.size w w' := by
  go_enter Tryd.func31, Tryd.ntmps31
  go_wp2_with fail
  go_loopw [0, 5] (fun qv sv wr => ∃ (q : Int) (ds : List Nat) (l : List UInt8), qv = .int .i64 q ∧ sv = .string ⟨l.toArray⟩ ∧ Hid (l = ds.reverse.map ch) ∧ TextRel w wr b a q ds) (fun qv _ _ => (intOf qv).natAbs)
  case atStart =>
    exact ⟨a, [], [], rfl, rfl, rfl, ⟨fun _ => ⟨64, Digs.start (by omega)⟩, fun h => .inl ⟨rfl, h⟩, by omega, by omega, Below.refl _ _, h1, h2⟩⟩
  case round =>
    obtain ⟨q, ds, l, rfl, rfl, HL, hr⟩ := hrel
    by_cases hq : q = 0
    · subst hq
      have hend := rtext_end b a ds l HL.out (hr.done rfl) hb
      have HB := Lib.hid hr.below
      have hlen : l.length ≤ 1000 := by
        have h7 := text_len b a
        rcases hend with ⟨h, _⟩ | ⟨_, h⟩
        · rw [h]; simp
        · rw [h] at h7; simp at h7; omega
      clear hr
      rcases hend with ⟨rfl, he⟩ | ⟨hne, he⟩
      · have HE := Lib.hid he
        clear he
        go_wp2_with fail
        go_ret
        exact ⟨ret_str HE.out.symm, HB.out⟩
      · rcases l with _ | ⟨c0, t0⟩
        · exact absurd rfl hne
        · clear hne
          by_cases ha : a < 0
          · rw [if_pos ha] at he
            have HE := Lib.hid he
            have haB : decide (a < 0) = true := decide_eq_true ha
            have hlt : ¬ 9223372036854775807 < 1 + (t0.length + 1) := by simp at hlen; omega
            clear he
            go_wp2_with fail
            go_ret
            exact ⟨ret_bytes ((cat_one 45 (c0 :: t0)).trans (by rw [HE.out]; rfl)), HB.out⟩
          · rw [if_neg ha] at he
            have HE := Lib.hid he
            have haB : decide (a < 0) = false := decide_eq_false ha
            clear he
            go_wp2_with fail
            go_ret
            exact ⟨ret_str HE.out.symm, HB.out⟩
    · have hqb : (q != 0) = true := bne_iff_ne.2 hq
      obtain ⟨q2, HQ2⟩ : ∃ q2 : Int, Hid (q.tdiv (b : Int) = q2) := ⟨_, rfl⟩
      have hqd := HQ2.out
      have HQA : Hid (q2.natAbs = q.natAbs / b) := by unfold Hid; rw [← HQ2.out]; exact Int.natAbs_tdiv q b
      have HQN : Hid (q ≤ 0 → q2 ≤ 0) := by
        unfold Hid
        intro h
        rw [← HQ2.out]
        have h5 : (-q).tdiv (b : Int) = -(q.tdiv b) := Int.neg_tdiv ..
        have h6 := Int.tdiv_nonneg (show (0 : Int) ≤ -q by omega) (show (0 : Int) ≤ (b : Int) by omega)
        omega
      have HQP : Hid (0 ≤ q → 0 ≤ q2) := by
        unfold Hid
        intro h
        rw [← HQ2.out]
        exact Int.tdiv_nonneg h (by omega)
      have hlo := hr.lo
      have hhi := hr.hi
      have hdle : q.natAbs / b ≤ q.natAbs / 2 := Nat.div_le_div_left hb (by omega)
      have hq2lo : -9223372036854775808 ≤ q2 := by have := HQA.out; omega
      have hq2hi : q2 ≤ 9223372036854775807 := by have := HQA.out; omega
      have HM : Hid (q2.natAbs < q.natAbs) := by unfold Hid; rw [HQA.out]; omega
      have hll : l.length ≤ 63 := by
        rw [HL.out]
        obtain ⟨f, hf⟩ := hr.go hq
        have := hf.room0
        simpa using this
      have HR := Lib.hid hr
      obtain ⟨d, HD⟩ : ∃ d : Nat, Hid (d = q.natAbs % b) := ⟨_, rfl⟩
      have hd : d < b := by rw [HD.out]; exact Nat.mod_lt _ (by omega)
      have hb0 : (b : Int) ≠ 0 := by omega
      have hdn : decide ((d : Int) < 0) = false := decide_eq_false (by omega)
      clear hdle
      rcases Int.lt_or_le q 0 with hn | hn
      · obtain ⟨t, HT⟩ : ∃ t : Int, Hid (q.tmod (b : Int) = t) := ⟨_, rfl⟩
        have htn : t = -(d : Int) := by
          rw [← HT.out, HD.out]
          have h5 : (-q).tmod (b : Int) = -(q.tmod b) := Int.neg_tmod ..
          have h6 : (-q).tmod (b : Int) = ((q.natAbs % b : Nat) : Int) := by
            rw [show -q = (q.natAbs : Int) by omega]
            rfl
          omega
        have ht1 := HT.out
        by_cases hd0 : d = 0
        · subst hd0
          obtain rfl : t = 0 := by omega
          clear htn hdn
          have hcv : (convert 56 9 (.slice (some ⟨wr.heap.size, 0, none⟩) 1 1)).run Tryd.prog (wr.alloc (.cells #[.int .u8 48] 5)) = .ok (.string ⟨#[48]⟩) (wr.alloc (.cells #[.int .u8 48] 5)) := one_conv wr 48
          have hlt : ¬ 9223372036854775807 < 1 + l.length := by omega
          clear hr
          go_wp2_with fail
          go_roundw
          case rel => exact ⟨q2, ds ++ [0], 48 :: l, rfl, congrArg Value.string (cat_one _ _), Lib.hid (by rw [HL.out, List.reverse_append]; rfl), HR.out.next hb hq HD.out HQA.out HQN.out HQP.out (HR.out.below.alloc HR.out.below.size _)⟩
          case measure => exact HM.out
        · have htl : t < 0 := by omega
          have hth : -16 ≤ t := by omega
          have hte : -t = (d : Int) := by omega
          clear htn
          by_cases hd9 : 9 < d
          · have hd9B : decide (9 < (d : Int)) = true := decide_eq_true (by omega)
            have hc8 : (87 : Int) + (d : Int) = ((ch d).toNat : Int) := by rw [ch_hi d (by omega) (by omega)]; omega
            have hc7 : (48 : Int) + (d : Int) ≤ 255 := by omega
            have hcv := one_conv wr (ch d)
            have hlt : ¬ 9223372036854775807 < 1 + l.length := by omega
            clear hr
            go_wp2_with fail
            go_roundw
            case rel => exact ⟨q2, ds ++ [d], ch d :: l, rfl, congrArg Value.string (cat_one _ _), Lib.hid (by rw [HL.out, List.reverse_append]; rfl), HR.out.next hb hq HD.out HQA.out HQN.out HQP.out (HR.out.below.alloc HR.out.below.size _)⟩
            case measure => exact HM.out
          · have hd9B : decide (9 < (d : Int)) = false := decide_eq_false (by omega)
            have hc8 : (48 : Int) + (d : Int) = ((ch d).toNat : Int) := by rw [ch_lo d (by omega)]; omega
            have hcv := one_conv wr (ch d)
            have hlt : ¬ 9223372036854775807 < 1 + l.length := by omega
            clear hr
            go_wp2_with fail
            go_roundw
            case rel => exact ⟨q2, ds ++ [d], ch d :: l, rfl, congrArg Value.string (cat_one _ _), Lib.hid (by rw [HL.out, List.reverse_append]; rfl), HR.out.next hb hq HD.out HQA.out HQN.out HQP.out (HR.out.below.alloc HR.out.below.size _)⟩
            case measure => exact HM.out
      · have hn1 : 0 < q := by omega
        have hde : q % (b : Int) = (d : Int) := by
          rw [HD.out, Int.natCast_emod]
          congr 1
          omega
        have hdv : q / (b : Int) = q2 := by rw [← HQ2.out, Int.tdiv_eq_ediv_of_nonneg (by omega)]
        have hde2 : q.tmod (b : Int) = (d : Int) := by rw [Int.tmod_eq_emod_of_nonneg (by omega)]; exact hde
        by_cases hd9 : 9 < d
        · have hd9B : decide (9 < (d : Int)) = true := decide_eq_true (by omega)
          have hc8 : (87 : Int) + (d : Int) = ((ch d).toNat : Int) := by rw [ch_hi d (by omega) (by omega)]; omega
          have hc7 : (48 : Int) + (d : Int) ≤ 255 := by omega
          have hcv := one_conv wr (ch d)
          have hlt : ¬ 9223372036854775807 < 1 + l.length := by omega
          clear hr
          go_wp2_with fail
          go_roundw
          case rel => exact ⟨q2, ds ++ [d], ch d :: l, rfl, congrArg Value.string (cat_one _ _), Lib.hid (by rw [HL.out, List.reverse_append]; rfl), HR.out.next hb hq HD.out HQA.out HQN.out HQP.out (HR.out.below.alloc HR.out.below.size _)⟩
          case measure => exact HM.out
        · have hd9B : decide (9 < (d : Int)) = false := decide_eq_false (by omega)
          have hc8 : (48 : Int) + (d : Int) = ((ch d).toNat : Int) := by rw [ch_lo d (by omega)]; omega
          have hcv := one_conv wr (ch d)
          have hlt : ¬ 9223372036854775807 < 1 + l.length := by omega
          clear hr
          go_wp2_with fail
          go_roundw
          case rel => exact ⟨q2, ds ++ [d], ch d :: l, rfl, congrArg Value.string (cat_one _ _), Lib.hid (by rw [HL.out, List.reverse_append]; rfl), HR.out.next hb hq HD.out HQA.out HQN.out HQP.out (HR.out.below.alloc HR.out.below.size _)⟩
          case measure => exact HM.out

end Go.Proofs.YtfjoahbboglgfaaDoor
