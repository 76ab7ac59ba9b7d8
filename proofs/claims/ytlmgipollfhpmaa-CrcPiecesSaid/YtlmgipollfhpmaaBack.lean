/- The law CrcBack returns true for any bytes. -/
import Derived.Test.YtlmgipollfhpmaaLaw
import Derived.Test.YtlmgipollfhpmaaOpenY
namespace Go.Proofs.Ytlmgipollfhpmaa
open Go.ChangeShapes Go.WideShapes Go.ChangeAt Go.RowKit

set_option maxHeartbeats 400000 in
theorem back_long (p : Option Addr) (n c : Nat) (w : World) (hn : 5000 < n) (hm : n ≤ 140737488351232) :
    Calls Try.prog 5 #[.slice p n c] w fun e w' => e = .returned (.bool true) ∧ Below w.heap.size w w' := by
  have hd : decide ((5000 : Int) < (n : Int)) = true := decide_eq_true (by omega)
  go_enter Try.func5, Try.ntmps5
  go_wp2_with fail
  refine (lives_any _).mono ?_
  rintro e w1 ⟨rfl, hb⟩
  have HB := Lib.hid hb
  clear hb
  go_wp2_with fail
  go_ret
  exact ⟨rfl, HB.out⟩

theorem sealed_seal (bs : List Nat) : isSealed bs.length (bs ++ tailOf (more 0 bs)) = true := by
  unfold isSealed
  rw [List.drop_left, List.take_left]
  exact decide_eq_true rfl
theorem dig_append {a b : List Nat} (ha : ∀ x ∈ a, x < 256) (hb : ∀ x ∈ b, x < 256) : ∀ x ∈ a ++ b, x < 256 := fun x hx => (List.mem_append.1 hx).elim (ha x) (hb x)
theorem tail_dig (s : Nat) : ∀ x ∈ tailOf s, x < 256 := by intro x hx; simp [tailOf] at hx; omega

structure BackRel (w w2 wr : World) (n : Nat) : Prop where
  below : Below w.heap.size w wr
  other : ∀ a : Addr, a.block ≠ w.heap.size → wr.cell? a = w2.cell? a
  row : ∃ us : List Nat, (∀ x ∈ us, x < 256) ∧ wr.ownsRow w.heap.size 5 1 (.slice (some ⟨w.heap.size, 0, none⟩) (n + 4) (n + 4)) (n + 4) (u8s us)
theorem set_dig {us : List Nat} (h : ∀ x ∈ us, x < 256) (k y : Nat) (hy : y < 256) : ∀ x ∈ us.set k y, x < 256 := fun x hx => by
  rcases List.mem_or_eq_of_mem_set hx with h1 | h1
  · exact h x h1
  · omega
theorem BackRel.put {w w2 wr : World} {n : Nat} (h : BackRel w w2 wr n) (k y : Nat) (hy : y < 256) : BackRel w w2 (wr.setCell ⟨w.heap.size, k, none⟩ (.int .u8 (y : Int))) n := by
  obtain ⟨us, hu, ho⟩ := h.row
  refine ⟨h.below.setCell (Nat.le_refl _) _, fun a ha => ?_, us.set k y, set_dig hu k y hy, ?_⟩
  · rw [World.cell?_setCell_other _ _ _ _ (fun e => ha (by rw [← e]))]
    exact h.other a ha
  · have h2 := (ho.stored k (.int .u8 (y : Int))).1
    have e : u8s (us.set k y) = (u8s us).set k (.int .u8 (y : Int)) := by unfold u8s; rw [List.map_set]
    rw [e]; exact h2
theorem BackRel.cell {w w2 wr : World} {n : Nat} (h : BackRel w w2 wr n) (k : Nat) (hk : k < n + 4) : ∃ z : Nat, z < 256 ∧ wr.cell? ⟨w.heap.size, k, none⟩ = some (.int .u8 (z : Int)) ∧ wr.frozen? ⟨w.heap.size, k, none⟩ = false := by
  obtain ⟨us, hu, ho⟩ := h.row
  have hl : us.length = n + 4 := by have := ho.1; rw [u8s_len] at this; omega
  refine ⟨us.getD k 0, ?_, (ho.cellAt k (by omega)).trans (u8s_get us k (by omega)), ho.frozenAt k⟩
  rw [List.getD_eq_getElem?_getD, List.getElem?_eq_getElem (by omega)]
  exact hu _ (List.getElem_mem _)

set_option maxHeartbeats 800000 in
theorem back_short (p : Option Addr) (n c : Nat) (bs : List Nat) (w : World) (hn : n ≤ 5000) (hB : Bys w p n bs) :
    Calls Try.prog 5 #[.slice p n c] w fun e w' => e = .returned (.bool true) ∧ Below w.heap.size w w' := by
  have hd : decide ((5000 : Int) < (n : Int)) = false := decide_eq_false (by omega)
  have HB := Lib.hid hB
  clear hB
  obtain ⟨T, HT⟩ : ∃ T, Hid (strOfNums (bs.map Int.ofNat) = T) := ⟨_, rfl⟩
  go_enter Try.func5, Try.ntmps5
  go_wp2_with fail
  refine (seal_any p n c bs _ (by omega) HB.out).mono ?_
  rintro e w1 ⟨rfl, hrow, hb⟩
  have HR := Lib.hid hrow
  have HW := Lib.hid hb
  have HS := Lib.hid (Bys.of_row hrow (dig_append HB.out.dig (tail_dig _)))
  clear hrow hb
  go_wp2_with fail
  refine (open_yes w.heap.size 0 n (n + 4) _ _ (by omega) (by omega) (by omega) HS.out (by rw [← HB.out.len]; exact sealed_seal bs)).mono ?_
  rintro e w2 ⟨⟨g, rfl, hg, hX⟩, hb⟩
  have hX2 : Bys w2 (some ⟨g, 0, none⟩) n bs := by
    have h := hX
    rw [show List.take n (bs ++ tailOf (more 0 bs)) = bs by rw [← HB.out.len, List.take_left]] at h
    exact h
  have HX := Lib.hid hX2
  have HG : Hid (w.heap.size < g) := Lib.hid (Nat.lt_of_lt_of_le (HS.out.lt (by omega) _ _ rfl) hg)
  have HR2 := Lib.hid (own_below HR.out hb)
  have HW2 := Lib.hid (HW.out.trans (hb.mono HW.out.size))
  have HB2 := Lib.hid (HB.out.below HW2.out)
  clear hX hX2 hg hb
  have hc1 := HX.out.conv n
  have hc2 := HB2.out.conv c
  rw [HT.out] at hc1 hc2
  go_wp2_with fail
  clear hc1 hc2
  have H0 : Hid (BackRel w w2 w2 n) := Lib.hid ⟨HW2.out, fun _ _ => rfl, _, dig_append HB.out.dig (tail_dig _), HR2.out⟩
  go_loopw [6] (fun iv wr => ∃ k : Nat, k ≤ n + 4 ∧ iv = .int .i64 (k : Int) ∧ BackRel w w2 wr n) (fun i _ => n + 4 - (intOf i).toNat)
  case atStart => exact ⟨0, by omega, by go_num, H0.out⟩
  case round =>
    obtain ⟨k, hk, rfl, hr⟩ := hrel
    have HR := Lib.hid hr
    clear hr H0
    by_cases hlt : k < n + 4
    · obtain ⟨z, hz, hc, hf⟩ := HR.out.cell k hlt
      have hx : bits .xor .u8 (z : Int) 255 = ((z ^^^ 255 : Nat) : Int) := u8_xor_nat z 255 hz (by omega)
      have hy : z ^^^ 255 < 256 := Nat.xor_lt_two_pow (n := 8) hz (by omega)
      have hd : decide ((k : Int) < (n : Int) + 4) = true := decide_eq_true (by omega)
      go_wp2_with fail
      go_roundw
      case rel => exact ⟨k + 1, by omega, by go_num, HR.out.put k _ hy⟩
      case measure => simp [intOf]; omega
    · have hd : decide ((k : Int) < (n : Int) + 4) = false := decide_eq_false (by omega)
      have hX3 := HX.out.other (w' := wr) (g := w.heap.size) (fun _ b o e => by cases e; exact Nat.ne_of_gt HG.out) HR.out.other
      have hB3 := HB.out.below HR.out.below
      have hc1 := hX3.conv n
      have hc2 := hB3.conv c
      rw [HT.out] at hc1 hc2
      clear hX3 hB3
      go_wp2_with fail
      refine (lives_any _).mono ?_
      rintro e w5 ⟨rfl, hb⟩
      have HZ := Lib.hid (HR.out.below.trans (hb.mono HR.out.below.size))
      clear hb hc1 hc2
      go_wp2_with fail
      go_ret
      exact ⟨rfl, HZ.out⟩

theorem back_walk (p : Option Addr) (n c : Nat) (bs : List Nat) (w : World) (hB : Bys w p n bs) (hn : n ≤ c) (hc : c ≤ 140737488351232) :
    Calls Try.prog 5 #[.slice p n c] w fun e w' => e = .returned (.bool true) ∧ Below w.heap.size w w' := by
  by_cases h : 5000 < n
  · exact back_long p n c w h (by omega)
  · exact back_short p n c bs w (by omega) hB

set_option maxRecDepth 100000 in
theorem back_lifted (os : Os) (started : os.Started) (H : Type) (enc : TypeId × Value → H) :
    ReturnsInHanded {} Try.checked os 5 .any (fun w args => Rows.crcBackSpec.pre enc Try.prog Try.f5 [] false w args ∧ sizedMet enc Try.prog Try.f5 (OpenSpec.ofChange Rows.crcBackSpec) false w args)
      (Rows.crcBackSpec.post enc Try.prog Try.f5 false true false false) := by
  refine returnsInHanded_of_change_sized (C := Try.checked) own started (by kernel_rfl) Try.func5
    (ChangeSpec.witness6 (enc := enc) (C := Try.checked) false ⟨#[], #[.slice none 0 0], []⟩ 8 (by kernel_rfl) (by kernel_rfl) (by kernel_rfl) (by kernel_rfl)) ?_
  intro W base args ds gs before hval0 hW _ hsz0 _
  have hval : ∀ (j : Nat) t v, Try.f5.params[j]? = some t → args[j]? = some v → Value.okWide Try.prog W .any base t v := hval0
  have hlt := fun x hx => hW.lt (p := x) hx
  have hW' := hW
  obtain ⟨p, q, hA0, hV, rfl, hfz, hnd⟩ := hW
  have hA : DataW.TrodAll enc Try.prog W 0 (fun _ => true) true Try.f5.params.toList args.toList ds p := hA0
  have hsz : (DataW.weightsEach Try.prog (Try.f5.params.toList ++ Rows.crcBackSpec.plain.varTypes Try.prog) (ds ++ gs)).all (· ≤ reachBytes) = true := hsz0
  rw [Try.params5] at hA hval hsz
  obtain ⟨v0, vs0, d0, ds0, p0, q0, hargs, rfl, rfl, h0, r0⟩ := trodAll_cons hA
  obtain ⟨rfl, rfl, rfl⟩ := trodAll_nil r0
  obtain rfl : args = #[v0] := by cases args; simp_all
  obtain ⟨rfl, rfl⟩ := trodVars_none hV
  obtain ⟨a0, n0, c0, b0, rfl, hb0, hn0, hc0⟩ := open_bys (hval 0 22 v0 rfl rfl) h0 (fun el sp e => sized_slice hsz (j := 0) rfl (by rw [← e]; rfl) Try.underlying22)
  clear hA0 hval0
  simp only [List.append_nil] at hW'
  refine (back_walk a0 n0 c0 b0 W hb0 hn0 hc0).mono fun e W' ⟨he, hg⟩ => ?_
  subst he
  exact ⟨_, rfl, law_post hW' (fun _ _ _ => (trodAll_cons_mk (shut_bool Try.underlying4 _) trodAll_mk0)) (trodAll_cons_mk (Below.trod laidOut (by kernel_rfl) (by decide +kernel) h0 hg (fun x hx => hlt x (by simp [hx]))) trodAll_mk0) rfl (by simp) hg⟩

theorem back_holds : Rows.CrcBackSaid :=
  OpenClaim.holds_of_wide 5 Try.f5 rfl rfl rfl rfl rfl rfl rfl ⟨rfl, rfl, rfl, rfl, rfl⟩ rfl rfl rfl rfl rfl (by kernel_rfl) Try.func5 (by kernel_rfl)
    (of_decide_eq_true (by kernel_rfl)) (by unfold Func.isWrapper; first | (rw [if_pos (by decide +kernel)]; kernel_rfl) | (rw [if_neg (by decide +kernel)]; exact ⟨rfl, rfl⟩))
    (fun os started H enc _ => back_lifted os started H enc)
#print axioms back_holds

end Go.Proofs.Ytlmgipollfhpmaa
