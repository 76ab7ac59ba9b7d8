/- The law CrcBursts returns true for any bytes, any place and any mask. -/
import Derived.Test.YtlmgipollfhpmaaBack
namespace Go.Proofs.Ytlmgipollfhpmaa
open Go.ChangeShapes Go.WideShapes Go.ChangeAt Go.RowKit

def AllU8 (us : List Nat) : Prop := ∀ x ∈ us, x < 256
structure BurstRel (w wr : World) (n t mk k : Nat) (S0 : List Nat) : Prop where
  below : Below w.heap.size w wr
  row : ∃ us : List Nat, AllU8 us ∧ wr.ownsRow w.heap.size 5 1 (.slice (some ⟨w.heap.size, 0, none⟩) (n + 4) (n + 4)) (n + 4) (u8s us) ∧
    eats full us = eats full S0 ^^^ stps (8 * (n + 4) - t) (mk % 2 ^ k) ∧ (mk = 0 → us = S0)

theorem mod_two (mk k : Nat) : mk % 2 ^ (k + 1) = mk % 2 ^ k + 2 ^ k * (mk / 2 ^ k % 2) := by
  rw [Nat.pow_succ, Nat.mod_mul]
theorem mod_yes {mk k : Nat} (h : mk / 2 ^ k % 2 = 1) : mk % 2 ^ (k + 1) = mk % 2 ^ k ^^^ 2 ^ k := by
  rw [mod_two, h, Nat.mul_one]
  have hl : mk % 2 ^ k < 2 ^ k := Nat.mod_lt _ (Nat.two_pow_pos k)
  apply Nat.eq_of_testBit_eq
  intro i
  rw [show mk % 2 ^ k + 2 ^ k = 2 ^ k * 1 + mk % 2 ^ k by omega, Nat.testBit_two_pow_mul_add _ hl, Nat.testBit_xor, Nat.testBit_two_pow]
  by_cases hi : i < k
  · simp [hi, show ¬ k = i by omega]
  · have e : (mk % 2 ^ k).testBit i = false := Nat.testBit_lt_two_pow (Nat.lt_of_lt_of_le hl (Nat.pow_le_pow_right (by omega) (by omega)))
    rw [if_neg hi, e, Bool.false_xor]
    by_cases hk : k = i
    · subst hk; simp
    · have : (1 : Nat).testBit (i - k) = false := by rw [show (1 : Nat) = 2 ^ 0 from rfl, Nat.testBit_two_pow]; exact decide_eq_false (by omega)
      rw [this]; exact (decide_eq_false hk).symm
theorem mod_no {mk k : Nat} (h : mk / 2 ^ k % 2 ≠ 1) : mk % 2 ^ (k + 1) = mk % 2 ^ k := by
  rw [mod_two, show mk / 2 ^ k % 2 = 0 by omega]; rfl

theorem BurstRel.no {w wr : World} {n t mk k : Nat} {S0 : List Nat} (h : BurstRel w wr n t mk k S0) (hb : mk / 2 ^ k % 2 ≠ 1) : BurstRel w wr n t mk (k + 1) S0 := by
  obtain ⟨hB, us, h1, h2, h3, h4⟩ := h
  exact ⟨hB, us, h1, h2, by rw [mod_no hb]; exact h3, h4⟩
theorem BurstRel.yes {w wr : World} {n t mk k : Nat} {S0 : List Nat} (h : BurstRel w wr n t mk k S0) (hb : mk / 2 ^ k % 2 = 1) (ht : t ≤ 8 * n) (hk : k < 32) :
    ∃ z : Nat, z < 256 ∧ wr.cell? ⟨w.heap.size, (t + k) / 8, none⟩ = some (.int .u8 (z : Int)) ∧ wr.frozen? ⟨w.heap.size, (t + k) / 8, none⟩ = false ∧
      BurstRel w (wr.setCell ⟨w.heap.size, (t + k) / 8, none⟩ (.int .u8 ((z ^^^ 2 ^ ((t + k) % 8) : Nat) : Int))) n t mk (k + 1) S0 := by
  obtain ⟨hB, us, h1, h2, h3, h4⟩ := h
  have hl : us.length = n + 4 := by have := h2.1; rw [u8s_len] at this; omega
  have hi : (t + k) / 8 < us.length := by omega
  have hj : (t + k) % 8 < 8 := Nat.mod_lt _ (by omega)
  have hp : 2 ^ ((t + k) % 8) < 2 ^ 8 := Nat.pow_lt_pow_right (by omega) hj
  have hz : us[(t + k) / 8] < 2 ^ 8 := h1 _ (List.getElem_mem _)
  have hg : us.getD ((t + k) / 8) 0 = us[(t + k) / 8] := by rw [List.getD_eq_getElem?_getD, List.getElem?_eq_getElem hi]; rfl
  refine ⟨us[(t + k) / 8], hz, ?_, h2.frozenAt _, hB.setCell (Nat.le_refl _) _, us.set ((t + k) / 8) (us[(t + k) / 8] ^^^ 2 ^ ((t + k) % 8)), set_dig h1 _ _ (Nat.xor_lt_two_pow hz hp), ?_, ?_, ?_⟩
  · rw [h2.cellAt _ (by omega), u8s_get us _ hi, hg]
  · have h5 := (h2.stored ((t + k) / 8) (.int .u8 ((us[(t + k) / 8] ^^^ 2 ^ ((t + k) % 8) : Nat) : Int))).1
    have e : u8s (us.set ((t + k) / 8) (us[(t + k) / 8] ^^^ 2 ^ ((t + k) % 8))) = (u8s us).set ((t + k) / 8) (.int .u8 ((us[(t + k) / 8] ^^^ 2 ^ ((t + k) % 8) : Nat) : Int)) := by unfold u8s; rw [List.map_set]
    rw [e]; exact h5
  · rw [eats_flip us full _ _ hi hj, h3, mod_yes hb, stps_xor, stps_pow _ _ (by omega), Nat.xor_assoc, hl]
    congr 3
    omega
  · intro h0
    rw [h0, Nat.zero_div] at hb
    omega
theorem fine_seal {bs : List Nat} (h : ∀ x ∈ bs, x < 256) : fine (bs ++ tailOf (more 0 bs)) := (fine_iff bs _ h (more_lt (by decide) h)).2 rfl
theorem burst_no {n : Nat} {us : List Nat} (h : AllU8 us) (hf : ¬ fine us) : isSealed n us = false := by
  unfold isSealed
  refine decide_eq_false fun he => hf ?_
  have hd : ∀ x ∈ us.take n, x < 256 := fun x hx => h x (List.mem_of_mem_take hx)
  rw [← List.take_append_drop n us, he]
  exact fine_seal hd
theorem BurstRel.ends {w wr : World} {n t mk : Nat} {bs : List Nat} (hd : ∀ x ∈ bs, x < 256) (h : BurstRel w wr n t mk 32 (bs ++ tailOf (more 0 bs))) (hm : mk < 4294967296) :
    ∃ us, Bys wr (some ⟨w.heap.size, 0, none⟩) (n + 4) us ∧ (mk = 0 → us = bs ++ tailOf (more 0 bs)) ∧ (mk ≠ 0 → isSealed n us = false) := by
  obtain ⟨hB, us, h1, h2, h3, h4⟩ := h
  refine ⟨us, Bys.of_row h2 h1, h4, fun h0 => burst_no h1 ?_⟩
  rw [show mk % 2 ^ 32 = mk from Nat.mod_eq_of_lt hm] at h3
  intro hf
  have h5 : eats full us = eats full (bs ++ tailOf (more 0 bs)) := hf.trans (fine_seal hd).symm
  rw [h3] at h5
  exact burst_ne hm h0 _ h5

set_option maxHeartbeats 800000 in
theorem burst_near (p : Option Addr) (n c t mk : Nat) (bs : List Nat) (w : World) (hn : n ≤ 2000) (hB : Bys w p n bs) (ht : t ≤ 8 * n) (hm : mk < 4294967296) :
    Calls Try.prog 7 #[.slice p n c, .int .i64 (t : Int), .int .u32 (mk : Int)] w fun e w' => e = .returned (.bool true) ∧ Below w.heap.size w w' := by
  have hd1 : decide ((2000 : Int) < (n : Int)) = false := decide_eq_false (by omega)
  have hd2 : decide ((t : Int) < 0) = false := decide_eq_false (by omega)
  have hd3 : decide (8 * ((n : Int) + 4) - 32 < (t : Int)) = false := decide_eq_false (by omega)
  have HB := Lib.hid hB
  clear hB
  obtain ⟨T, HT⟩ : ∃ T, Hid (strOfNums (bs.map Int.ofNat) = T) := ⟨_, rfl⟩
  go_enter Try.func7, Try.ntmps7
  go_wp2_with fail
  refine (seal_any p n c bs _ (by omega) HB.out).mono ?_
  rintro e w1 ⟨rfl, hrow, hb⟩
  have H0 : Hid (BurstRel w w1 n t mk 0 (bs ++ tailOf (more 0 bs))) := Lib.hid ⟨hb, _, dig_append HB.out.dig (tail_dig _), hrow, by rw [Nat.pow_zero, Nat.mod_one, stps_zero, Nat.xor_zero], fun _ => rfl⟩
  clear hrow hb
  go_wp2_with fail
  go_loopw [8] (fun iv wr => ∃ k : Nat, k ≤ 32 ∧ iv = .int .i64 (k : Int) ∧ BurstRel w wr n t mk k (bs ++ tailOf (more 0 bs))) (fun i _ => 32 - (intOf i).toNat)
  case atStart => exact ⟨0, by omega, by go_num, H0.out⟩
  case round =>
    obtain ⟨k, hk, rfl, hr⟩ := hrel
    have HR := Lib.hid hr
    clear hr H0
    by_cases hlt : k < 32
    · have hd : decide ((k : Int) < 32) = true := decide_eq_true (by omega)
      have hq : mk / 2 ^ k < 4294967296 := Nat.lt_of_le_of_lt (Nat.div_le_self _ _) hm
      have hand : bits .and .u32 ((mk : Int) / 2 ^ k) 1 = ((mk / 2 ^ k % 2 : Nat) : Int) := by
        have h := u32_and_nat (mk / 2 ^ k) 1 hq (by omega)
        rw [Nat.and_one_is_mod] at h
        rw [← h]; congr 1
      by_cases ho : mk / 2 ^ k % 2 = 1
      · have hb : (bits .and .u32 ((mk : Int) / 2 ^ k) 1 == 1) = true := by rw [hand, ho]; rfl
        obtain ⟨z, hz, hc, hf, hnext⟩ := HR.out.yes ho ht hlt
        have HN := Lib.hid hnext
        have hp : 2 ^ ((t + k) % 8) < 2 ^ 8 := Nat.pow_lt_pow_right (by omega) (Nat.mod_lt _ (by omega))
        have hx : bits .xor .u8 (z : Int) (2 ^ ((t + k) % 8) % 256) = ((z ^^^ 2 ^ ((t + k) % 8) : Nat) : Int) := by
          have h := u8_xor_nat z (2 ^ ((t + k) % 8)) hz hp
          rw [← h]; congr 1
          have e : ((2 ^ ((t + k) % 8) : Nat) : Int) = (2 : Int) ^ ((t + k) % 8) := by rw [Int.natCast_pow]; rfl
          rw [← e]
          generalize 2 ^ ((t + k) % 8) = q at hp ⊢
          omega
        have HX := Lib.hid hx
        clear hand hq hnext hx ho hp
        go_wp2_with fail
        go_roundw
        case rel => exact ⟨k + 1, by omega, by go_num, by rw [HX.out]; exact HN.out⟩
        case measure => simp [intOf]; omega
      · have hb : (bits .and .u32 ((mk : Int) / 2 ^ k) 1 == 1) = false := by rw [hand, show mk / 2 ^ k % 2 = 0 by omega]; rfl
        have HN := Lib.hid (HR.out.no ho)
        clear hand hq ho
        go_wp2_with fail
        go_roundw
        case rel => exact ⟨k + 1, by omega, by go_num, HN.out⟩
        case measure => simp [intOf]; omega
    · have hd : decide ((k : Int) < 32) = false := decide_eq_false (by omega)
      obtain rfl : k = 32 := by omega
      obtain ⟨us, hU, hy, hno⟩ := HR.out.ends HB.out.dig hm
      have HU := Lib.hid hU
      have HW := Lib.hid HR.out.below
      have hl : bs.length = n := HB.out.len
      clear hU HR
      by_cases h0 : mk = 0
      · have hz : ((mk : Int) == 0) = true := by rw [h0]; rfl
        have he := hy h0
        have HS : Hid (isSealed n us = true) := Lib.hid (by rw [he, ← hl]; exact sealed_seal bs)
        have HT2 : Hid (us.take n = bs) := Lib.hid (by rw [he, ← hl, List.take_left])
        clear hy hno he h0 hl
        go_wp2_with fail
        refine (open_yes w.heap.size 0 n (n + 4) us _ (by omega) (by omega) (by omega) HU.out HS.out).mono ?_
        rintro e w2 ⟨⟨g, rfl, hg, hX⟩, hb⟩
        rw [HT2.out] at hX
        have HW2 := Lib.hid (HW.out.trans (hb.mono HW.out.size))
        have hB2 := HB.out.below HW2.out
        have hc1 := hX.conv n
        have hc2 := hB2.conv c
        rw [HT.out] at hc1 hc2
        clear hX hB2 hg hb
        go_wp2_with fail
        refine (lives_any _).mono ?_
        rintro e w5 ⟨rfl, hb⟩
        have HZ := Lib.hid (HW2.out.trans (hb.mono HW2.out.size))
        clear hb hc1 hc2
        go_wp2_with fail
        go_ret
        exact ⟨rfl, HZ.out⟩
      · have hz : ((mk : Int) == 0) = false := by simpa using h0
        have HS := Lib.hid (hno h0)
        clear hy hno h0 hl
        go_wp2_with fail
        refine (open_no w.heap.size 0 n (n + 4) us _ (by omega) (by omega) (by omega) HU.out HS.out).mono ?_
        rintro e w2 ⟨rfl, hb⟩
        have HW2 := Lib.hid (HW.out.trans (hb.mono HW.out.size))
        clear hb
        go_wp2_with fail
        refine (lives_any _).mono ?_
        rintro e w5 ⟨rfl, hb⟩
        have HZ := Lib.hid (HW2.out.trans (hb.mono HW2.out.size))
        clear hb
        go_wp2_with fail
        go_ret
        exact ⟨rfl, HZ.out⟩

set_option maxHeartbeats 800000 in
theorem burst_far (p : Option Addr) (n c : Nat) (t mk : Int) (bs : List Nat) (w : World) (hB : Bys w p n bs) (hm : n ≤ 140737488351232) (h1 : -9223372036854775808 ≤ t) (h2 : t ≤ 9223372036854775807) (hf : 2000 < n ∨ (n ≤ 2000 ∧ t < 0) ∨ (n ≤ 2000 ∧ 0 ≤ t ∧ 8 * (n : Int) < t)) :
    Calls Try.prog 7 #[.slice p n c, .int .i64 t, .int .u32 mk] w fun e w' => e = .returned (.bool true) ∧ Below w.heap.size w w' := by
  have HB := Lib.hid hB
  clear hB
  rcases hf with hf | ⟨hn, hf⟩ | ⟨hn, hf0, hf⟩
  · have hd1 : decide ((2000 : Int) < (n : Int)) = true := decide_eq_true (by omega)
    go_enter Try.func7, Try.ntmps7
    go_wp2_with fail
    refine (seal_any p n c bs _ (by omega) HB.out).mono ?_
    rintro e w1 ⟨rfl, hrow, hb⟩
    have HW := Lib.hid hb
    clear hrow hb
    go_wp2_with fail
    refine (lives_any _).mono ?_
    rintro e w5 ⟨rfl, hb⟩
    have HZ := Lib.hid (HW.out.trans (hb.mono HW.out.size))
    clear hb
    go_wp2_with fail
    go_ret
    exact ⟨rfl, HZ.out⟩
  · have hd1 : decide ((2000 : Int) < (n : Int)) = false := decide_eq_false (by omega)
    have hd2 : decide (t < 0) = true := decide_eq_true hf
    go_enter Try.func7, Try.ntmps7
    go_wp2_with fail
    refine (seal_any p n c bs _ (by omega) HB.out).mono ?_
    rintro e w1 ⟨rfl, hrow, hb⟩
    have HW := Lib.hid hb
    clear hrow hb
    go_wp2_with fail
    refine (lives_any _).mono ?_
    rintro e w5 ⟨rfl, hb⟩
    have HZ := Lib.hid (HW.out.trans (hb.mono HW.out.size))
    clear hb
    go_wp2_with fail
    go_ret
    exact ⟨rfl, HZ.out⟩
  · have hd1 : decide ((2000 : Int) < (n : Int)) = false := decide_eq_false (by omega)
    have hd2 : decide (t < 0) = false := decide_eq_false (by omega)
    have hd3 : decide (8 * ((n : Int) + 4) - 32 < t) = true := decide_eq_true (by omega)
    go_enter Try.func7, Try.ntmps7
    go_wp2_with fail
    refine (seal_any p n c bs _ (by omega) HB.out).mono ?_
    rintro e w1 ⟨rfl, hrow, hb⟩
    have HW := Lib.hid hb
    clear hrow hb
    go_wp2_with fail
    refine (lives_any _).mono ?_
    rintro e w5 ⟨rfl, hb⟩
    have HZ := Lib.hid (HW.out.trans (hb.mono HW.out.size))
    clear hb
    go_wp2_with fail
    go_ret
    exact ⟨rfl, HZ.out⟩

theorem burst_walk (p : Option Addr) (n c : Nat) (bs : List Nat) (t mk : Int) (w : World) (hB : Bys w p n bs) (hn : n ≤ c) (hc : c ≤ 140737488351232) (h1 : -9223372036854775808 ≤ t) (h2 : t ≤ 9223372036854775807) (h3 : 0 ≤ mk) (h4 : mk < 4294967296) :
    Calls Try.prog 7 #[.slice p n c, .int .i64 t, .int .u32 mk] w fun e w' => e = .returned (.bool true) ∧ Below w.heap.size w w' := by
  by_cases hf : 2000 < n ∨ (n ≤ 2000 ∧ t < 0) ∨ (n ≤ 2000 ∧ 0 ≤ t ∧ 8 * (n : Int) < t)
  · exact burst_far p n c t mk bs w hB (by omega) h1 h2 hf
  · obtain ⟨t, rfl⟩ : ∃ k : Nat, t = k := ⟨t.toNat, by omega⟩
    obtain ⟨mk, rfl⟩ : ∃ k : Nat, mk = k := ⟨mk.toNat, by omega⟩
    exact burst_near p n c t mk bs w (by omega) hB (by omega) (by omega)

set_option maxRecDepth 100000 in
theorem burst_lifted (os : Os) (started : os.Started) (H : Type) (enc : TypeId × Value → H) :
    ReturnsInHanded {} Try.checked os 7 .any (fun w args => Rows.crcBurstsSpec.pre enc Try.prog Try.f7 [] false w args ∧ sizedMet enc Try.prog Try.f7 (OpenSpec.ofChange Rows.crcBurstsSpec) false w args)
      (Rows.crcBurstsSpec.post enc Try.prog Try.f7 false true false false) := by
  refine returnsInHanded_of_change_sized (C := Try.checked) own started (by kernel_rfl) Try.func7
    (ChangeSpec.witness6 (enc := enc) (C := Try.checked) false ⟨#[], #[.slice none 0 0, .int .i64 0, .int .u32 0], []⟩ 8 (by kernel_rfl) (by kernel_rfl) (by kernel_rfl) (by kernel_rfl)) ?_
  intro W base args ds gs before hval0 hW _ hsz0 _
  have hval : ∀ (j : Nat) t v, Try.f7.params[j]? = some t → args[j]? = some v → Value.okWide Try.prog W .any base t v := hval0
  have hlt := fun x hx => hW.lt (p := x) hx
  have hW' := hW
  obtain ⟨p, q, hA0, hV, rfl, hfz, hnd⟩ := hW
  have hA : DataW.TrodAll enc Try.prog W 0 (fun _ => true) true Try.f7.params.toList args.toList ds p := hA0
  have hsz : (DataW.weightsEach Try.prog (Try.f7.params.toList ++ Rows.crcBurstsSpec.plain.varTypes Try.prog) (ds ++ gs)).all (· ≤ reachBytes) = true := hsz0
  rw [Try.params7] at hA hval hsz
  obtain ⟨v0, vs0, d0, ds0, p0, q0, hargs, rfl, rfl, h0, r0⟩ := trodAll_cons hA
  obtain ⟨v1, vs1, d1, ds1, p1, q1, rfl, rfl, rfl, h1, r1⟩ := trodAll_cons r0
  obtain ⟨v2, vs2, d2, ds2, p2, q2, rfl, rfl, rfl, h2, r2⟩ := trodAll_cons r1
  obtain ⟨rfl, rfl, rfl⟩ := trodAll_nil r2
  obtain rfl : args = #[v0, v1, v2] := by cases args; simp_all
  obtain ⟨rfl, rfl⟩ := trodVars_none hV
  obtain ⟨a0, n0, c0, b0, rfl, hb0, hn0, hc0⟩ := open_bys (hval 0 22 v0 rfl rfl) h0 (fun el sp e => sized_slice hsz (j := 0) rfl (by rw [← e]; rfl) Try.underlying22)
  obtain ⟨a1, rfl, rfl, rfl, w1⟩ := open_int Try.underlying3 (hval 1 3 v1 rfl rfl) h1
  obtain ⟨a2, rfl, rfl, rfl, w2⟩ := open_int Try.underlying23 (hval 2 23 v2 rfl rfl) h2
  clear hA0 hval0
  simp only [List.append_nil] at hW'
  refine (burst_walk a0 n0 c0 b0 a1 a2 W hb0 hn0 hc0 (i64_of w1).1 (i64_of w1).2 (u32_of w2).1 (u32_of w2).2).mono fun e W' ⟨he, hg⟩ => ?_
  subst he
  exact ⟨_, rfl, law_post hW' (fun _ _ _ => (trodAll_cons_mk (shut_bool Try.underlying4 _) trodAll_mk0)) (trodAll_cons_mk (Below.trod laidOut (by kernel_rfl) (by decide +kernel) h0 hg (fun x hx => hlt x (by simp [hx]))) (trodAll_cons_mk (shut_int Try.underlying3 w1) (trodAll_cons_mk (shut_int Try.underlying23 w2) trodAll_mk0))) rfl (by simp) hg⟩

theorem burst_holds : Rows.CrcBurstsSaid :=
  OpenClaim.holds_of_wide 7 Try.f7 rfl rfl rfl rfl rfl rfl rfl ⟨rfl, rfl, rfl, rfl, rfl⟩ rfl rfl rfl rfl rfl (by kernel_rfl) Try.func7 (by kernel_rfl)
    (of_decide_eq_true (by kernel_rfl)) (by unfold Func.isWrapper; first | (rw [if_pos (by decide +kernel)]; kernel_rfl) | (rw [if_neg (by decide +kernel)]; exact ⟨rfl, rfl⟩))
    (fun os started H enc _ => burst_lifted os started H enc)
#print axioms burst_holds

end Go.Proofs.Ytlmgipollfhpmaa
