/- The number of any text to any base from 2 to 16, or why it is none. -/
import Derived.Test.YtjpbbooeihdnfaaDoorNDig
import Derived.Test.YtjpbbooeihdnfaaDoorNAdd
import Derived.BigQuiet
import Derived.Deep.QuietTactic
namespace Go.Proofs.YtjpbbooeihdnfaaDoor
open Go.RowKit

theorem ret_int {k : IntKind} {a b : Int} (h : a = b) : Ending.returned (.int k a) = .returned (.int k b) := by rw [h]
/-- May it be a base? -/
def baseB (b : Int) : Bool := decide (2 ≤ b ∧ b ≤ 16)
set_option maxHeartbeats 400000 in
theorem base_any (b : Int) (w : World) : Calls Tryd.prog 41 #[.int .i64 b] w fun e w' => e = .returned (.bool (baseB b)) ∧ w = w' := by
  by_cases h : 2 ≤ b
  · by_cases h2 : b ≤ 16
    · have e1 : baseB b = true := decide_eq_true ⟨h, h2⟩
      rw [e1]
      clear e1
      go_enter Tryd.func41, Tryd.ntmps41
      go_wp2
      go_ret
      exact ⟨rfl, rfl⟩
    · have e1 : baseB b = false := decide_eq_false (fun hh => h2 hh.2)
      have e2 : decide (b ≤ 16) = false := decide_eq_false h2
      rw [e1]
      clear e1
      go_enter Tryd.func41, Tryd.ntmps41
      go_wp2
      go_ret
      exact ⟨rfl, rfl⟩
  · have e1 : baseB b = false := decide_eq_false (fun hh => h hh.1)
    have e2 : decide (2 ≤ b) = false := decide_eq_false h
    rw [e1]
    clear e1
    go_enter Tryd.func41, Tryd.ntmps41
    go_wp2
    go_ret
    exact ⟨rfl, rfl⟩

theorem small_at (k : Nat) (h : k < 16) (W : World) : (Instr.index 9 (.string { data := #[48, 49, 50, 51, 52, 53, 54, 55, 56, 57, 97, 98, 99, 100, 101, 102] }) (.int .i64 (k : Int))).run Tryd.prog W = .ok (.int .u8 ((ch k).toNat : Int)) W :=
  match k, h with
  | 0, _ => by kernel_rfl
  | 1, _ => by kernel_rfl
  | 2, _ => by kernel_rfl
  | 3, _ => by kernel_rfl
  | 4, _ => by kernel_rfl
  | 5, _ => by kernel_rfl
  | 6, _ => by kernel_rfl
  | 7, _ => by kernel_rfl
  | 8, _ => by kernel_rfl
  | 9, _ => by kernel_rfl
  | 10, _ => by kernel_rfl
  | 11, _ => by kernel_rfl
  | 12, _ => by kernel_rfl
  | 13, _ => by kernel_rfl
  | 14, _ => by kernel_rfl
  | 15, _ => by kernel_rfl
  | k + 16, h => absurd h (by omega)
theorem great_at (k : Nat) (h : k < 16) (W : World) : (Instr.index 9 (.string { data := #[48, 49, 50, 51, 52, 53, 54, 55, 56, 57, 65, 66, 67, 68, 69, 70] }) (.int .i64 (k : Int))).run Tryd.prog W = .ok (.int .u8 ((chG k).toNat : Int)) W :=
  match k, h with
  | 0, _ => by kernel_rfl
  | 1, _ => by kernel_rfl
  | 2, _ => by kernel_rfl
  | 3, _ => by kernel_rfl
  | 4, _ => by kernel_rfl
  | 5, _ => by kernel_rfl
  | 6, _ => by kernel_rfl
  | 7, _ => by kernel_rfl
  | 8, _ => by kernel_rfl
  | 9, _ => by kernel_rfl
  | 10, _ => by kernel_rfl
  | 11, _ => by kernel_rfl
  | 12, _ => by kernel_rfl
  | 13, _ => by kernel_rfl
  | 14, _ => by kernel_rfl
  | 15, _ => by kernel_rfl
  | k + 16, h => absurd h (by omega)

/-- What digitOf returns. -/
def digI (b c : Nat) : Int := if dgN c < b then (dgN c : Int) else -1

set_option maxHeartbeats 800000 in
set_option maxRecDepth 100000 in
theorem digitOf_any (b c : Nat) (w : World) (hb : b ≤ 16) (hc : c < 256) :
    Calls Tryd.prog 54 #[.int .u8 (c : Int), .int .i64 (b : Int)] w fun e w' => e = .returned (.int .i64 (digI b c)) ∧ w = w' := by
  go_enter Tryd.func54, Tryd.ntmps54
  go_wp2_with fail
  go_loop [7] (fun kv => ∃ k : Nat, kv = .int .i64 (k : Int) ∧ k ≤ b ∧ Hid (k ≤ dgN c)) (fun kv => b - (intOf kv).toNat)
  case atStart => exact ⟨0, rfl, Nat.zero_le _, Lib.hid (Nat.zero_le _)⟩
  case round =>
    obtain ⟨k, rfl, hk, HK⟩ := hrel
    by_cases hkb : k < b
    · have hi1 := small_at k (by omega)
      have hi2 := great_at k (by omega)
      have HA := Lib.hid (dg_all c hc k (by omega))
      by_cases h1 : c = (ch k).toNat
      · have h1B : ((c : Int) == ((ch k).toNat : Int)) = true := by rw [beq_iff_eq, h1]
        have hd : dgN c = k := HA.out.2 (.inl h1)
        have HR : Hid (digI b c = (k : Int)) := by unfold Hid digI; rw [hd, if_pos hkb]
        clear h1 hd
        go_wp2_with fail
        go_ret
        exact ⟨ret_int HR.out.symm, rfl⟩
      · have h1B : ((c : Int) == ((ch k).toNat : Int)) = false := beq_eq_false_iff_ne.2 (by omega)
        by_cases h2 : c = (chG k).toNat
        · have h2B : ((c : Int) == ((chG k).toNat : Int)) = true := by rw [beq_iff_eq, h2]
          have hd : dgN c = k := HA.out.2 (.inr h2)
          have HR : Hid (digI b c = (k : Int)) := by unfold Hid digI; rw [hd, if_pos hkb]
          clear h1 h2 hd
          go_wp2_with fail
          go_ret
          exact ⟨ret_int HR.out.symm, rfl⟩
        · have h2B : ((c : Int) == ((chG k).toNat : Int)) = false := beq_eq_false_iff_ne.2 (by omega)
          have hd : dgN c ≠ k := fun h => by rcases HA.out.1 h with h | h <;> omega
          have HK2 : Hid (k + 1 ≤ dgN c) := Lib.hid (by have := HK.out; omega)
          clear h1 h2 hd
          go_wp2_with fail
          go_round
          case rel => exact ⟨k + 1, by go_num, by omega, HK2⟩
          case measure => simp [intOf]; omega
    · have HR : Hid (digI b c = -1) := by
        unfold Hid digI
        rw [if_neg (by have := HK.out; omega)]
      go_wp2_with fail
      go_ret
      exact ⟨ret_int HR.out.symm, rfl⟩

set_option maxHeartbeats 400000 in
theorem set_core (n b e p z : Int) (w : World) (h1 : -9223372036854775808 ≤ n) (h2 : n ≤ 9223372036854775807) (h3 : -9223372036854775808 ≤ b) (h4 : b ≤ 9223372036854775807) (h5 : -9223372036854775808 ≤ e) (h6 : e ≤ 9223372036854775807)
    (hp : Hid (n * b = p)) (hz : Hid (p + e = z)) (hm : Hid (¬ Is64 p → ¬ Is64 z)) :
    Calls Tryd.prog 55 #[.int .i64 n, .int .i64 b, .int .i64 e] w fun e w' => e = .returned (.tuple #[.int .i64 (fitV z), .bool (fitB z)]) ∧ w = w' := by
  have hc := mul_any n b w h1 h2 h3 h4
  rw [hp.out] at hc
  by_cases hf : Is64 p
  · rw [fitV_yes hf, fitB_yes hf] at hc
    have ha := add_any p e w hf.1 hf.2 h5 h6
    rw [hz.out] at ha
    have HC := Lib.hid hc
    have HA := Lib.hid ha
    clear hc ha hf
    go_enter Tryd.func55, Tryd.ntmps55
    go_wp2_with fail
    refine HC.out.mono ?_
    rintro e w' ⟨rfl, rfl⟩
    go_wp2_with fail
    refine HA.out.mono ?_
    rintro e w' ⟨rfl, rfl⟩
    go_wp2_with fail
    go_ret2
    exact ⟨rfl, rfl⟩
  · rw [fitV_no hf, fitB_no hf] at hc
    have HC := Lib.hid hc
    have HN := Lib.hid (hm.out hf)
    clear hc hf
    go_enter Tryd.func55, Tryd.ntmps55
    go_wp2_with fail
    refine HC.out.mono ?_
    rintro e w' ⟨rfl, rfl⟩
    go_wp2_with fail
    go_ret2
    exact ⟨ret_no HN.out, rfl⟩

/-- A number of one sign that doesn't fit doesn't fit with more behind it. -/
theorem far_mono {g : Int} {V V' : Nat} (hg : g = 1 ∨ g = -1) (hV : V ≤ V') (h : ¬ Is64 (g * (V : Int))) : ¬ Is64 (g * (V' : Int)) := by
  unfold Is64 at *
  rcases hg with rfl | rfl
  · rw [Int.one_mul] at *; omega
  · rw [Int.neg_one_mul] at *; omega

/-- Setting one more digit behind a number of the digit's sign. -/
theorem set_any (g : Int) (V b d : Nat) (n e z : Int) (w : World) (hg : g = 1 ∨ g = -1) (hb2 : b ≤ 16) (hd : d < 16) (hn : Hid (g * (V : Int) = n)) (he : Hid (g * (d : Int) = e)) (hf : Is64 n) (hz : Hid (g * ((V * b + d : Nat) : Int) = z)) :
    Calls Tryd.prog 55 #[.int .i64 n, .int .i64 (b : Int), .int .i64 e] w fun e w' => e = .returned (.tuple #[.int .i64 (fitV z), .bool (fitB z)]) ∧ w = w' := by
  have hp : n * (b : Int) = g * ((V * b : Nat) : Int) := by rw [← hn.out, Int.mul_assoc, Int.natCast_mul]
  refine set_core n b e _ z w hf.1 hf.2 (by omega) (by omega) ?_ ?_ rfl ?_ ?_
  · rw [← he.out]; rcases hg with rfl | rfl <;> omega
  · rw [← he.out]; rcases hg with rfl | rfl <;> omega
  · unfold Hid
    rw [hp, ← hz.out, ← he.out, Int.natCast_add, Int.mul_add]
  · unfold Hid
    rw [hp, ← hz.out]
    exact far_mono hg (Nat.le_add_right _ _)

/-- What Parse makes of the first k digits' bytes. -/
structure ParseRel (g : Int) (b : Nat) (D : List UInt8) (k : Nat) (n : Int) (f : Bool) : Prop where
  ok : okT b (D.take k) = true
  num : n = fitV (g * (valT b (D.take k) : Int))
  fit : f = fitB (g * (valT b (D.take k) : Int))
theorem take_at (D : List UInt8) (k : Nat) (h : k < D.length) : D.take (k + 1) = D.take k ++ [D[k]] := by
  rw [List.take_succ_eq_append_getElem h]

theorem extract_tail (c : UInt8) (t : List UInt8) : (ByteArray.mk (c :: t).toArray).extract 1 (ByteArray.mk (c :: t).toArray).size = ⟨t.toArray⟩ := by
  apply ByteArray.ext
  rw [ByteArray.data_extract]
  apply Array.ext'
  simp [ByteArray.size]

theorem u8_ne {c k : UInt8} {n : Int} (hk : (k.toNat : Int) = n) (h : c ≠ k) : ((c.toNat : Int) == n) = false := by
  rw [beq_eq_false_iff_ne]
  intro he
  exact h (UInt8.toNat_inj.1 (by omega))
theorem ret_cut {g g' : Int} {s s' : ByteArray} (hg : g = g') (hs : s = s') : Ending.returned (.tuple #[.int .i64 g, .string s]) = .returned (.tuple #[.int .i64 g', .string s']) := by rw [hg, hs]

set_option maxHeartbeats 800000 in
theorem cut_any (L : List UInt8) (w : World) (hl : L.length ≤ 5000) :
    Calls Tryd.prog 53 #[.string ⟨L.toArray⟩] w fun e w' => e = .returned (.tuple #[.int .i64 (cutG L), .string ⟨(cutR L).toArray⟩]) ∧ ∃ n, w' = w.drewN n := by
  rcases L with _ | ⟨c, t⟩
  · go_enter Tryd.func53, Tryd.ntmps53
    go_wp2_with fail
    go_ret2
    exact ⟨rfl, 0, rfl⟩
  · by_cases h1 : c = 45
    · subst h1
      have hex := extract_tail 45 t
      go_enter Tryd.func53, Tryd.ntmps53
      go_wp2_with fail
      go_quiet (fail)
      go_wp2_with fail
      go_ret2
      exact ⟨ret_cut rfl hex, _, rfl⟩
    · have h1B : ((c.toNat : Int) == 45) = false := u8_ne (k := 45) rfl h1
      by_cases h2 : c = 43
      · subst h2
        have hget : ∀ h, ((⟨((43 : UInt8) :: t).toArray⟩ : ByteArray)[0]'h) = 43 := fun _ => rfl
        have hex := extract_tail 43 t
        go_enter Tryd.func53, Tryd.ntmps53
        go_wp2_with fail
        go_quiet (fail)
        go_wp2_with fail
        go_ret2
        exact ⟨ret_cut rfl hex, _, rfl⟩
      · have h2B : ((c.toNat : Int) == 43) = false := u8_ne (k := 43) rfl h2
        have e1 : cutG (c :: t) = 1 := by unfold cutG; split <;> simp_all
        have e2 : cutR (c :: t) = c :: t := by unfold cutR; split <;> simp_all
        rw [e1, e2]
        have H1 := Lib.hid h1
        have H2 := Lib.hid h2
        have hget : ∀ h, ((⟨(c :: t).toArray⟩ : ByteArray)[0]'h) = c := fun _ => rfl
        clear e1 e2 h1 h2
        go_enter Tryd.func53, Tryd.ntmps53
        go_wp2_with fail
        go_ret2
        exact ⟨rfl, 0, rfl⟩

/-- The number of a text, and the error's number. -/
def parseV (b : Nat) (L : List UInt8) : Int := if cutR L = [] ∨ okT b (cutR L) = false then 0 else fitV (cutG L * (valT b (cutR L) : Int))
def parseE (b : Nat) (L : List UInt8) : Int := if cutR L = [] ∨ okT b (cutR L) = false then 4 else if fitB (cutG L * (valT b (cutR L) : Int)) = true then 0 else 7
theorem cutG_pm (L : List UInt8) : cutG L = 1 ∨ cutG L = -1 := by
  unfold cutG
  split
  · exact .inr rfl
  · exact .inl rfl
theorem cutR_len (L : List UInt8) : (cutR L).length ≤ L.length := by
  unfold cutR
  split <;> simp
theorem ret_parse {a a' e e' : Int} (h1 : a = a') (h2 : e = e') : Ending.returned (.tuple #[.int .i64 a, .int .i64 e]) = .returned (.tuple #[.int .i64 a', .int .i64 e']) := by rw [h1, h2]
theorem ok_false {b : Nat} {D : List UInt8} {k : Nat} (hk : k < D.length) (h : ¬ dgC D[k] < b) : okT b D = false := by
  rw [Bool.eq_false_iff]
  intro ha
  have h1 := List.all_eq_true.1 ha D[k] (List.getElem_mem hk)
  exact h (by simpa using h1)

set_option maxHeartbeats 1600000 in
set_option maxRecDepth 100000 in
theorem parse_any (b : Nat) (L : List UInt8) (w : World) (hb : 2 ≤ b) (hb2 : b ≤ 16) (hl : L.length ≤ 5000) :
    Calls Tryd.prog 37 #[.string ⟨L.toArray⟩, .int .i64 (b : Int)] w fun e w' => e = .returned (.tuple #[.int .i64 (parseV b L), .int .i64 (parseE b L)]) ∧ Below w.heap.size w w' := by
  have hcb := base_any (b : Int)
  rw [show baseB (b : Int) = true from decide_eq_true ⟨by omega, by omega⟩] at hcb
  have HCB := Lib.hid hcb
  have hcc := fun w => cut_any L w hl
  obtain ⟨g, HG⟩ : ∃ g, Hid (cutG L = g) := ⟨_, rfl⟩
  obtain ⟨D, HD⟩ : ∃ D, Hid (cutR L = D) := ⟨_, rfl⟩
  rw [HG.out, HD.out] at hcc
  have HCC := Lib.hid hcc
  have hDl : D.length ≤ 5000 := by rw [← HD.out]; exact Nat.le_trans (cutR_len L) hl
  have HPM : Hid (g = 1 ∨ g = -1) := by unfold Hid; rw [← HG.out]; exact cutG_pm L
  clear hcb hcc
  rcases D with _ | ⟨c0, t0⟩
  · have HV : Hid (parseV b L = 0) := by unfold Hid parseV; rw [if_pos (.inl HD.out)]
    have HE : Hid (parseE b L = 4) := by unfold Hid parseE; rw [if_pos (.inl HD.out)]
    go_enter Tryd.func37, Tryd.ntmps37
    go_wp2_with fail
    refine (HCB.out _).mono ?_
    rintro e w' ⟨rfl, rfl⟩
    go_wp2_with fail
    refine (HCC.out _).mono ?_
    rintro e w' ⟨rfl, n, rfl⟩
    go_wp2_with fail
    go_ret2
    exact ⟨ret_parse HV.out.symm HE.out.symm, below_drewN (Below.refl _ _) _⟩
  · go_enter Tryd.func37, Tryd.ntmps37
    go_wp2_with fail
    refine (HCB.out _).mono ?_
    rintro e w' ⟨rfl, rfl⟩
    go_wp2_with fail
    refine (HCC.out _).mono ?_
    rintro e w' ⟨rfl, n, rfl⟩
    go_wp2_with fail
    go_loop [8, 9, 24] (fun nv fv kv => ∃ (nn : Int) (f : Bool) (k : Nat), nv = .int .i64 nn ∧ fv = .bool f ∧ kv = .int .i64 (k : Int) ∧ k ≤ t0.length + 1 ∧ ParseRel g b (c0 :: t0) k nn f) (fun _ _ kv => t0.length + 1 - (intOf kv).toNat)
    case atStart => exact ⟨0, true, 0, rfl, rfl, rfl, by omega, ⟨rfl, by simp [valT]; rfl, by simp [valT]; rfl⟩⟩
    case round =>
      obtain ⟨nn, f, k, rfl, rfl, rfl, hk, hr⟩ := hrel
      simp at hDl
      by_cases hkl : k < t0.length + 1
      · have hkD : k < (c0 :: t0).length := by simpa using hkl
        obtain ⟨c, HC⟩ : ∃ c, Hid ((c0 :: t0)[k]'hkD = c) := ⟨_, rfl⟩
        have hget : ∀ h, ((⟨(c0 :: t0).toArray⟩ : ByteArray)[k]'h) = c := fun _ => HC.out
        have hc256 : c.toNat < 256 := c.toNat_lt
        by_cases hdg : dgC c < b
        · obtain ⟨d, HDD⟩ : ∃ d, Hid (dgC c = d) := ⟨_, rfl⟩
          have hdd := digitOf_any b c.toNat
          rw [show digI b c.toNat = (d : Int) by unfold digI; rw [show dgN c.toNat = d from HDD.out, if_pos (by rw [← HDD.out]; exact hdg)]] at hdd
          have HDI := Lib.hid hdd
          have hd16 : d < b := by rw [← HDD.out]; exact hdg
          have hgd1 : -16 ≤ g * (d : Int) := by rcases HPM.out with h | h <;> rw [h] <;> omega
          have hgd2 : g * (d : Int) ≤ 16 := by rcases HPM.out with h | h <;> rw [h] <;> omega
          have HT := Lib.hid (take_at (c0 :: t0) k hkD)
          have HOK : Hid (okT b ((c0 :: t0).take (k + 1)) = true) := by
            unfold Hid
            rw [HT.out, okT_snoc, hr.ok, HC.out]
            simpa using hdg
          have HVN : Hid (valT b ((c0 :: t0).take (k + 1)) = valT b ((c0 :: t0).take k) * b + d) := by
            unfold Hid
            rw [HT.out, valT_snoc, HC.out, HDD.out]
          have HR := Lib.hid hr
          clear hr hdd hdg
          rcases hf : f with _ | _
          · subst hf
            have hno : ¬ Is64 (g * (valT b ((c0 :: t0).take k) : Int)) := by
              intro h
              have h2 := HR.out.fit
              rw [fitB_yes h] at h2
              cases h2
            have HNO := Lib.hid (far_mono HPM.out (V' := valT b ((c0 :: t0).take (k + 1))) (by rw [HVN.out]; have : valT b ((c0 :: t0).take k) * 1 ≤ valT b ((c0 :: t0).take k) * b := Nat.mul_le_mul_left _ (by omega); omega) hno)
            have hn0 : nn = 0 := by rw [HR.out.num, fitV_no hno]
            subst hn0
            clear hno
            go_wp2_with fail
            refine (HDI.out _ hb2 hc256).mono ?_
            rintro e w' ⟨rfl, rfl⟩
            go_wp2_with fail
            go_round
            case rel => exact ⟨0, false, k + 1, rfl, rfl, by go_num, by omega, ⟨HOK.out, (fitV_no HNO.out).symm, (fitB_no HNO.out).symm⟩⟩
            case measure => simp [intOf]; omega
          · subst hf
            have hyes : Is64 (g * (valT b ((c0 :: t0).take k) : Int)) := by
              by_cases h : Is64 (g * (valT b ((c0 :: t0).take k) : Int))
              · exact h
              · have h2 := HR.out.fit
                rw [fitB_no h] at h2
                cases h2
            have HN : Hid (g * (valT b ((c0 :: t0).take k) : Int) = nn) := by unfold Hid; rw [HR.out.num, fitV_yes hyes]
            have HY : Hid (Is64 nn) := by unfold Hid; rw [← HN.out]; exact hyes
            obtain ⟨z, HZ⟩ : ∃ z, Hid (g * ((valT b ((c0 :: t0).take k) * b + d : Nat) : Int) = z) := ⟨_, rfl⟩
            have hset := fun w => set_any g (valT b ((c0 :: t0).take k)) b d nn (g * (d : Int)) z w HPM.out hb2 (by omega) HN rfl HY.out HZ
            have HSET := Lib.hid hset
            clear hyes hset
            go_wp2_with fail
            refine (HDI.out _ hb2 hc256).mono ?_
            rintro e w' ⟨rfl, rfl⟩
            go_wp2_with fail
            refine (HSET.out _).mono ?_
            rintro e w' ⟨rfl, rfl⟩
            go_wp2_with fail
            go_round
            case rel => exact ⟨fitV z, fitB z, k + 1, rfl, rfl, by go_num, by omega, ⟨HOK.out, by rw [HVN.out, HZ.out], by rw [HVN.out, HZ.out]⟩⟩
            case measure => simp [intOf]; omega
        · have hdd := digitOf_any b c.toNat
          rw [show digI b c.toNat = -1 by unfold digI; exact if_neg hdg] at hdd
          have HDI := Lib.hid hdd
          have HF := Lib.hid (ok_false hkD (by rw [HC.out]; exact hdg))
          have HV : Hid (parseV b L = 0) := by unfold Hid parseV; rw [if_pos (.inr (by rw [HD.out]; exact HF.out))]
          have HE : Hid (parseE b L = 4) := by unfold Hid parseE; rw [if_pos (.inr (by rw [HD.out]; exact HF.out))]
          clear hdd hdg hr
          go_wp2_with fail
          refine (HDI.out _ hb2 hc256).mono ?_
          rintro e w' ⟨rfl, rfl⟩
          go_wp2_with fail
          go_ret2
          exact ⟨ret_parse HV.out.symm HE.out.symm, below_drewN (Below.refl _ _) _⟩
      · have hke : (c0 :: t0).take k = c0 :: t0 := List.take_of_length_le (by simp; omega)
        have h1 := hr.ok
        have h2 := hr.num
        have h3 := hr.fit
        rw [hke] at h1 h2 h3
        have HNE : Hid (¬ (cutR L = [] ∨ okT b (cutR L) = false)) := by
          unfold Hid
          rw [HD.out]
          rintro (h | h)
          · cases h
          · rw [h1] at h; cases h
        have HV : Hid (parseV b L = nn) := by unfold Hid parseV; rw [if_neg HNE.out, HD.out, HG.out, h2]
        rcases hf : f with _ | _
        · subst hf
          have HE : Hid (parseE b L = 7) := by unfold Hid parseE; rw [if_neg HNE.out, HD.out, HG.out, ← h3]; rfl
          have hn0 : nn = 0 := by rw [h2]; unfold fitV; rw [← h3]; rfl
          subst hn0
          clear h1 h2 h3 hke hr
          go_wp2_with fail
          go_ret2
          exact ⟨ret_parse HV.out.symm HE.out.symm, below_drewN (Below.refl _ _) _⟩
        · subst hf
          have HE : Hid (parseE b L = 0) := by unfold Hid parseE; rw [if_neg HNE.out, HD.out, HG.out, ← h3]; rfl
          clear h1 h2 h3 hke hr
          go_wp2_with fail
          go_ret2
          exact ⟨ret_parse HV.out.symm HE.out.symm, below_drewN (Below.refl _ _) _⟩


theorem cut_text (b : Nat) (a : Int) (hb : 2 ≤ b) (hb2 : b ≤ 16) : cutG (numText b a) = (if a < 0 then -1 else 1) ∧ cutR (numText b a) = (bd b 64 a.natAbs).reverse.map ch := by
  unfold numText
  by_cases ha : a < 0
  · rw [if_pos ha, if_pos ha]; exact ⟨rfl, rfl⟩
  · rw [if_neg ha, if_neg ha, List.nil_append]
    have hall : ∀ c ∈ (bd b 64 a.natAbs).reverse.map ch, c ≠ 45 ∧ c ≠ 43 := by
      intro c hc
      obtain ⟨d, hd, rfl⟩ := List.mem_map.1 hc
      have h1 := ch_not d (by have := bd_dig b hb 64 a.natAbs d (List.mem_reverse.1 hd); omega)
      exact ⟨fun h => h1.1 (by rw [h]; rfl), fun h => h1.2 (by rw [h]; rfl)⟩
    generalize (bd b 64 a.natAbs).reverse.map ch = l at hall
    rcases l with _ | ⟨c, t⟩
    · exact ⟨rfl, rfl⟩
    · obtain ⟨h1, h2⟩ := hall c (by simp)
      constructor
      · unfold cutG; split <;> simp_all
      · unfold cutR; split <;> simp_all
theorem back_num (b : Nat) (a : Int) (hb : 2 ≤ b) (hb2 : b ≤ 16) (h1 : -9223372036854775808 ≤ a) (h2 : a ≤ 9223372036854775807) : parseV b (numText b a) = a ∧ parseE b (numText b a) = 0 := by
  obtain ⟨hg, hr⟩ := cut_text b a hb hb2
  obtain ⟨hok, hv⟩ := valT_digits b hb2 64 a.natAbs (by omega) hb
  have hne : (bd b 64 a.natAbs).reverse.map ch ≠ [] := by
    intro h
    exact bd_ne b 64 a.natAbs (by simpa using h)
  have hz : (if a < 0 then (-1 : Int) else 1) * (a.natAbs : Int) = a := by split <;> omega
  unfold parseV parseE
  rw [hr, hg, hok, hv, hz, if_neg (by simpa using hne), if_neg (by simpa using hne), fitV_yes ⟨h1, h2⟩, fitB_yes ⟨h1, h2⟩]
  exact ⟨rfl, rfl⟩
theorem text_len (b : Nat) (a : Int) : (numText b a).length ≤ 1000 := by
  unfold numText
  have := bd_len b 64 a.natAbs
  split <;> simp <;> omega
end Go.Proofs.YtjpbbooeihdnfaaDoor
