/- What a reader's Sized returns, and what it leaves. -/
import Derived.Test.YtpdihgmgcamgkaaReader
set_option maxRecDepth 20000
namespace Go.Proofs.Ytpdihgmgcamgkaa
open Go.RowKit

set_option maxHeartbeats 400000 in
theorem sized_none (M : Nat) (hM : M ≤ 1000000) (g d : Nat) (bs : List Nat) (w : World) (HR : Hid (Rd w g d bs 0)) (hl : bs.length ≤ 1099511627776) (HG : Hid (Goes bs bs.length)) :
    Calls Try.prog 35 #[.pointer (some ⟨g, 0, none⟩), .int .i64 (M : Int)] w fun e w' => e = .returned (.slice none 0 0) ∧ Went w w' g d bs 3 := by
  go_enter Try.func35, Try.ntmps35
  go_wp2_with fail
  refine (fault_any g d bs 0 _ HR.out).mono ?_
  rintro e w1 ⟨rfl, rfl⟩
  go_wp2_with fail
  refine (fcount_none g d 0 (M : Int) bs _ HR.out hl HG.out (by omega) (by omega)).mono ?_
  rintro e w1 ⟨rfl, hb⟩
  have HZ := Lib.hid hb
  have HR1 := Lib.hid (HR.out.below hb)
  clear hb
  obtain ⟨p, c, h0, hh, hB, h1, h2, h3, h4⟩ := HR1.out
  have hc := cell_of_row w1 g 0 _ _ _ hh
  simp at hc
  clear hh hB h0 h3 h4
  generalize hn : bs.length = n at *
  clear hn
  have hd : decide (((n : Int)) < 0) = false := decide_eq_false (by omega)
  go_wp2_with fail
  refine (pass_fault g d bs 0 3 0 _ HR1.out rfl).mono ?_
  rintro e w2 ⟨rfl, hr, ho⟩
  have HR2 := Lib.hid hr
  have HO := Lib.hid ((Only.of_below HZ.out).trans ho)
  clear hr ho
  go_wp2_with fail
  go_ret
  exact ⟨rfl, HR2.out, HO.out⟩

set_option maxHeartbeats 400000 in
theorem sized_cut (M : Nat) (hM : M ≤ 1000000) (g d m k : Nat) (bs part : List Nat) (w : World) (HR : Hid (Rd w g d bs 0)) (hl : bs.length ≤ 1099511627776) (HB : Hid (bs = numB m ++ part)) (hm : m ≤ M) (hp : part.length < m) (HK : Hid ((numB m).length = k)) :
    Calls Try.prog 35 #[.pointer (some ⟨g, 0, none⟩), .int .i64 (M : Int)] w fun e w' => e = .returned (.slice none 0 0) ∧ Went w w' g d bs 3 := by
  go_enter Try.func35, Try.ntmps35
  go_wp2_with fail
  refine (fault_any g d bs 0 _ HR.out).mono ?_
  rintro e w1 ⟨rfl, rfl⟩
  go_wp2_with fail
  refine (fcount_hit g d m k 0 (M : Int) bs part _ HR hl HB (by omega) (by omega) (by omega) HK).mono ?_
  rintro e w1 ⟨rfl, hb⟩
  have HZ := Lib.hid hb
  have HR1 := Lib.hid (HR.out.below hb)
  clear hb
  obtain ⟨p, c, h0, hh, hB, h1, h2, h3, h4⟩ := HR1.out
  have hc := cell_of_row w1 g 0 _ _ _ hh
  simp at hc
  clear hh hB h0 h3 h4
  have hlen : bs.length = k + part.length := by rw [HB.out, List.length_append, HK.out]
  have hlt : bs.length < k + m := by omega
  have hge : k ≤ bs.length := by omega
  clear hlen
  generalize hn : bs.length = n at *
  clear hn
  have hd : decide ((n : Int) - (k : Int) < (m : Int)) = true := decide_eq_true (by omega)
  go_wp2_with fail
  refine (pass_fault g d bs 0 3 0 _ HR1.out rfl).mono ?_
  rintro e w2 ⟨rfl, hr, ho⟩
  have HR2 := Lib.hid hr
  have HO := Lib.hid ((Only.of_below HZ.out).trans ho)
  clear hr ho
  go_wp2_with fail
  go_ret
  exact ⟨rfl, HR2.out, HO.out⟩

/-- What was cloned stays while a reader goes on. -/
theorem Made.only {base g : Nat} {w w' : World} {v : Value} {bs : List Nat} (h : Made base w v bs) (hg : g < base) (hd : ∀ x ∈ bs, x < 256) (ho : Only g w w') : ∃ p c, v = .slice p bs.length c ∧ Bys w' p bs.length bs := by
  obtain ⟨p, c, e, hw⟩ := h
  refine ⟨p, c, e, ho.bys (Bys.own hw hd) (fun _ b o hp => ?_)⟩
  obtain ⟨d, hbd, ha, _⟩ := own_addr hw
  obtain ⟨o', e'⟩ := ha _ hp
  cases e'
  omega

set_option maxHeartbeats 800000 in
theorem sized_hit (M : Nat) (hM : M ≤ 1000000) (g d k : Nat) (bs ds rest : List Nat) (w : World) (HR : Hid (Rd w g d bs 0)) (hl : bs.length ≤ 1099511627776) (HB : Hid (bs = numB ds.length ++ (ds ++ rest))) (hm : ds.length ≤ M) (HK : Hid ((numB ds.length).length = k)) :
    Calls Try.prog 35 #[.pointer (some ⟨g, 0, none⟩), .int .i64 (M : Int)] w fun e w' => (∃ v, e = .returned v ∧ ∃ p c, v = .slice p ds.length c ∧ Bys w' p ds.length ds) ∧ Went w w' g d rest 0 := by
  have HE : Hid ((bs.drop k).take ds.length = ds) := Lib.hid (by rw [HB.out, ← HK.out, List.drop_left, List.take_left])
  have HD : Hid (bs.drop (k + ds.length) = rest) := Lib.hid (by rw [← List.drop_drop, HB.out, ← HK.out, List.drop_left, List.drop_left])
  have hlen : bs.length = k + ds.length + rest.length := by rw [HB.out, List.length_append, List.length_append, HK.out]; omega
  have hk0 := numB_pos ds.length
  rw [HK.out] at hk0
  generalize hm' : ds.length = m at *
  have HM := Lib.hid hm'
  clear hm'
  go_enter Try.func35, Try.ntmps35
  go_wp2_with fail
  refine (fault_any g d bs 0 _ HR.out).mono ?_
  rintro e w1 ⟨rfl, rfl⟩
  go_wp2_with fail
  refine (fcount_hit g d m k 0 (M : Int) bs (ds ++ rest) _ HR hl HB (by omega) (by omega) (by omega) HK).mono ?_
  rintro e w1 ⟨rfl, hb⟩
  have HZ := Lib.hid hb
  have HR1 := Lib.hid (HR.out.below hb)
  clear hb
  obtain ⟨p, c, h0, hh, hB, h1, h2, h3, h4⟩ := HR1.out
  have hc := cell_of_row w1 g 0 _ _ _ hh
  simp at hc
  have hg := lt_of_block hh
  clear hh h0 h4
  obtain ⟨b, o, rfl, _⟩ := hB.at (by omega)
  have hd : decide ((bs.length : Int) - (k : Int) < (m : Int)) = false := decide_eq_false (by omega)
  have hkn : k + m ≤ bs.length := by omega
  by_cases hkc : c = k
  · have hm0 : m = 0 := by omega
    have HBy : Hid (Bys w1 (some ⟨b, o, none⟩) m ds) := Lib.hid (by
      have := HM.out
      rw [hm0] at this ⊢
      rw [List.eq_nil_of_length_eq_zero this]
      exact Bys.zero _ _)
    clear hB h3 hlen
    have hkc2 : k = c := hkc.symm
    obtain rfl := hkc2
    obtain rfl := hm0
    have hln : bs.length = k := by omega
    have hP := Lib.hid (fun W (h : Rd W g d bs 0) => pass_ok g d bs 0 (k + 0) W h (by omega))
    have HLN := Lib.hid hln
    rw [hln] at hc hd hl h1
    clear hln hkn
    go_wp2_with fail
    refine (clone_any _ 0 _ ds _ (by omega) HBy.out).mono ?_
    rintro e w2 ⟨⟨v, rfl, hv⟩, hb⟩
    have HV := Lib.hid hv
    have HB2 := Lib.hid hb
    have HR2 := Lib.hid (HR1.out.below hb)
    have HD2 := Lib.hid HBy.out.dig
    clear hv hb
    go_wp2_with fail
    refine (hP.out _ HR2.out).mono ?_
    rintro e w3 ⟨rfl, hr, ho⟩
    have HR3 : Hid (Rd w3 g d rest 0) := Lib.hid (by have := hr; rw [HD.out] at this; exact this)
    have HO := Lib.hid (((Only.of_below HZ.out).trans (Only.of_below HB2.out)).trans ho)
    have HX := Lib.hid (HV.out.only hg HD2.out ho)
    clear hr ho
    go_wp2_with fail
    go_ret
    exact ⟨⟨_, rfl, by have := HX.out; rw [HM.out] at this; exact this⟩, HR3.out, HO.out⟩
  · have HBy : Hid (Bys w1 (some ⟨b, o + k, none⟩) m ds) := Lib.hid (by
      have := (hB.drop (k := k) (j := bs.length - k) (by omega)).take (k := m) (by omega)
      rw [HE.out] at this; exact this)
    have hcl : k < c := by omega
    have hP := Lib.hid (fun W (h : Rd W g d bs 0) => pass_ok g d bs 0 (k + m) W h hkn)
    clear hB h3 hlen
    generalize bs.length = n at *
    go_wp2_with fail
    refine (clone_any _ m _ ds _ (by omega) HBy.out).mono ?_
    rintro e w2 ⟨⟨v, rfl, hv⟩, hb⟩
    have HV := Lib.hid hv
    have HB2 := Lib.hid hb
    have HR2 := Lib.hid (HR1.out.below hb)
    have HD2 := Lib.hid HBy.out.dig
    clear hv hb
    go_wp2_with fail
    refine (hP.out _ HR2.out).mono ?_
    rintro e w3 ⟨rfl, hr, ho⟩
    have HR3 : Hid (Rd w3 g d rest 0) := Lib.hid (by have := hr; rw [HD.out] at this; exact this)
    have HO := Lib.hid (((Only.of_below HZ.out).trans (Only.of_below HB2.out)).trans ho)
    have HX := Lib.hid (HV.out.only hg HD2.out ho)
    clear hr ho
    go_wp2_with fail
    go_ret
    exact ⟨⟨_, rfl, by have := HX.out; rw [HM.out] at this; exact this⟩, HR3.out, HO.out⟩
end Go.Proofs.Ytpdihgmgcamgkaa
