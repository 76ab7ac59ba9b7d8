/- The law's asks: it ends, and tells true or false. -/
import Derived.Test.YthmajccajmnfcaaRSetB
import Derived.Test.YthmajccajmnfcaaIn
set_option maxRecDepth 20000
set_option linter.unusedSimpArgs false
namespace Go.Proofs.Ythmajccajmnfcaa
open Go.RowKit

/-- It tells true or false. -/
def IsB (e : Ending) : Prop := ∃ b, e = .returned (.bool b)
theorem IsB.of (b : Bool) : IsB (.returned (.bool b)) := ⟨b, rfl⟩
section
variable {w w' : World} {g mb : Nat} {vr : Value} {S : Nat → Option Pos} {m : Hm} {F : Nat → Prop} {vl : Value} {W : Nat → Value × Value} {L : Pls}
set_option maxHeartbeats 12800000 in
theorem asks_any (h : Hp w g vr mb S m) (hh : Here m.L) (hsm : Sm m.L) (hR : RHp w F vl W L) (hl : L.length ≤ 16000) (hsx : Sm L) (lim K N i : Int) (hN : I64 N) :
    Calls Try.prog 45 #[.pointer (some ⟨g, 0, none⟩), .agg #[vl, .int .i64 lim], .agg #[.int .i64 K, .int .i64 N], .int .i64 i] w fun e w' => IsB e ∧ Below w.heap.size w w' := by
  have HOB : Hid (∀ w1, Below w.heap.size w w1 → Calls Try.prog 13 #[.pointer (some ⟨g, 0, none⟩), .agg #[.int .i64 K, .int .i64 N]] w1 fun e w' => ∃ vv vb, e = .returned (.tuple #[.agg #[.int .i64 (obAt m.L (K, N)).k, vv, vb], .int .i64 (hasE m.L (K, N))]) ∧ Cpy w1 w' (obAt m.L (K, N)) vv vb) := Lib.hid fun _ hb => (h.below hb).obj hh hsm K N hN.1 hN.2
  have HKI : Hid (∀ w1, Below w.heap.size w w1 → Calls Try.prog 27 #[.pointer (some ⟨g, 0, none⟩), .agg #[.int .i64 K, .int .i64 N]] w1 fun e w' => e = .returned (.tuple #[.int .i64 (obAt m.L (K, N)).k, .int .i64 (hasE m.L (K, N))]) ∧ Below w1.heap.size w1 w') := Lib.hid fun _ hb => (h.below hb).kind hh K N hN.1 hN.2
  have HSI : Hid (∀ w1, Below w.heap.size w w1 → Calls Try.prog 56 #[.pointer (some ⟨g, 0, none⟩), .agg #[.int .i64 K, .int .i64 N]] w1 fun e w' => e = .returned (.tuple #[.int .i64 ((obAt m.L (K, N)).vs.length : Int), .int .i64 (hasE m.L (K, N))]) ∧ Below w1.heap.size w1 w') := Lib.hid fun _ hb => (h.below hb).size hh K N hN.1 hN.2
  have HAT : Hid (∀ w1, Below w.heap.size w w1 → Calls Try.prog 29 #[.pointer (some ⟨g, 0, none⟩), .agg #[.int .i64 K, .int .i64 N], .int .i64 i] w1 fun e w' => e = .returned (.tuple #[valV (atV m.L (K, N) i), .int .i64 (atE m.L (K, N) i)]) ∧ Below w1.heap.size w1 w') := Lib.hid fun _ hb => (h.below hb).atI hh K N hN.1 hN.2 i
  have HTX : Hid (∀ w1, Below w.heap.size w w1 → Calls Try.prog 57 #[.pointer (some ⟨g, 0, none⟩), .agg #[.int .i64 K, .int .i64 N]] w1 fun e w' => e = .returned (.tuple #[.string (strB (obAt m.L (K, N)).bs), .int .i64 (hasE m.L (K, N))]) ∧ Below w1.heap.size w1 w') := Lib.hid fun _ hb => (h.below hb).text hh K N hN.1 hN.2
  have HHS : Hid (∀ w1, Below w.heap.size w w1 → Calls Try.prog 15 #[.pointer (some ⟨g, 0, none⟩), .agg #[.int .i64 K, .int .i64 N]] w1 fun e w' => e = .returned (.bool (hasP m.L (K, N))) ∧ Below w1.heap.size w1 w') := Lib.hid fun _ hb => (h.below hb).has K N hN.1 hN.2
  have HCH : Hid (∀ w1, Below w.heap.size w w1 → Calls Try.prog 9 #[.pointer (some ⟨g, 0, none⟩), .agg #[.int .i64 K, .int .i64 N]] w1 fun e w' => e = .returned (.bool (hasP m.L (K, N) && ((clAt m.L N.toNat).map Cl.ch).getD false)) ∧ Below w1.heap.size w1 w') := Lib.hid fun _ hb => (h.below hb).changed K N hN.1 hN.2
  have HNU : Hid (∀ w1, Below w.heap.size w w1 → Calls Try.prog 19 #[.pointer (some ⟨g, 0, none⟩), .agg #[.int .i64 K, .int .i64 N]] w1 fun e w' => e = .returned (.int .i64 ((if hasP m.L (K, N) = true then ((clAt m.L N.toNat).map Cl.num).getD 0 else 0 : Nat) : Int)) ∧ Below w1.heap.size w1 w') := Lib.hid fun _ hb => (h.below hb).number K N hN.1 hN.2
  have HAW : Hid (∀ w1, Below w.heap.size w w1 → Calls Try.prog 22 #[.pointer (some ⟨g, 0, none⟩), .agg #[.int .i64 K, .int .i64 N]] w1 fun e w' => e = .returned (.bool false) ∧ Below w1.heap.size w1 w') := Lib.hid fun _ hb => (h.below hb).isAway hh K N hN.1 hN.2
  have HRH : Hid (∀ w1, Below w.heap.size w w1 → Calls Try.prog 17 #[.agg #[vl, .int .i64 lim], .agg #[.int .i64 K, .int .i64 N]] w1 fun e w' => e = .returned (.bool (hasP L (K, N))) ∧ Below w1.heap.size w1 w') := Lib.hid fun _ hb => (hR.below hb).has (by omega) lim K N
  have HSO : Hid ((obAt m.L (K, N)).vs.length ≤ 256 ∧ (obAt m.L (K, N)).bs.length ≤ 4096 ∧ ∀ x ∈ (obAt m.L (K, N)).bs, x < 256) := Lib.hid (by
    cases hv : hasP m.L (K, N) with
    | false => rw [obAt_none hv]; exact ⟨by decide, by decide, fun x hx => by cases hx⟩
    | true =>
      obtain ⟨_, _, c, hc⟩ := hasP_iff.1 hv
      obtain ⟨x, hx, hca⟩ := h.at_ _ c hc
      rw [obAt_some hv hc]
      exact ⟨(hsm _ c hc).1, (hsm _ c hc).2, hca.dig⟩)
  have HR := Lib.hid hR
  have HN := Lib.hid hN
  obtain ⟨q0, c0, hvl, -⟩ := own_formq hR.row
  subst hvl
  obtain ⟨NL, HNL⟩ : ∃ NL, Hid (L.length = NL) := ⟨_, Lib.hid rfl⟩
  have HB0 : Hid (Below w.heap.size w ((w.alloc (.cells #[.slice q0 NL c0, .int .i64 lim] 33)).alloc (.cells #[.int .i64 K, .int .i64 N] 38))) := Lib.hid (b2 _ _ _)
  have hx0 := heap_alloc2_old w (.cells #[.slice q0 NL c0, .int .i64 lim] 33) (.cells #[.int .i64 K, .int .i64 N] 38)
  have hx1 := heap_alloc2_new w (.cells #[.slice q0 NL c0, .int .i64 lim] 33) (.cells #[.int .i64 K, .int .i64 N] 38)
  have hsz0 : ((w.alloc (.cells #[.slice q0 NL c0, .int .i64 lim] 33)).alloc (.cells #[.int .i64 K, .int .i64 N] 38)).heap.size = w.heap.size + 2 := by simp
  have HX0 := Lib.hid hx0
  have HX1 := Lib.hid hx1
  have HSZ0 := Lib.hid hsz0
  have hvb : hasE m.L (K, N) = if hasP m.L (K, N) = true then 0 else 5 := rfl
  have HEB := Lib.hid hvb
  rw [HNL.out] at HRH hl HR ⊢
  clear h hh hR hN hx0 hx1 hsz0 hsm hvb
  obtain ⟨o, HO⟩ : ∃ o, Hid (obAt m.L (K, N) = o) := ⟨_, Lib.hid rfl⟩
  rw [HO.out] at HOB HKI HSI HTX HSO
  obtain ⟨E, HE⟩ : ∃ E, Hid (hasE m.L (K, N) = E) := ⟨_, Lib.hid rfl⟩
  rw [HE.out] at HOB HKI HSI HTX HEB
  obtain ⟨aE, HAE⟩ : ∃ aE, Hid (atE m.L (K, N) i = aE) := ⟨_, Lib.hid rfl⟩
  obtain ⟨aV, HAV⟩ : ∃ aV, Hid (atV m.L (K, N) i = aV) := ⟨_, Lib.hid rfl⟩
  rw [HAE.out, HAV.out] at HAT
  obtain ⟨k, HK⟩ : ∃ k, Hid (o.k = k) := ⟨_, Lib.hid rfl⟩
  rw [HK.out] at HOB HKI
  obtain ⟨st, HST⟩ : ∃ st, Hid (strB o.bs = st) := ⟨_, Lib.hid rfl⟩
  rw [HST.out] at HTX
  obtain ⟨vn, HVN⟩ : ∃ vn, Hid (o.vs.length = vn) := ⟨_, Lib.hid rfl⟩
  rw [HVN.out] at HSI
  go_enter Try.func45, Try.ntmps45
  go_upto_region 1 with fail
  generalize (w.alloc (.cells #[.slice q0 NL c0, .int .i64 lim] 33)).alloc (.cells #[.int .i64 K, .int .i64 N] 38) = W1 at *
  have hsz := HSZ0.out
  have HV0 : Hid (∀ u, Below W1.heap.size W1 u → (u.cell? ⟨w.heap.size + 1, 0, none⟩ = some (.int .i64 K) ∧ u.cell? ⟨w.heap.size + 1, 1, none⟩ = some (.int .i64 N)) ∧ (u.cell? ⟨w.heap.size, 0, none⟩ = some (.slice q0 NL c0) ∧ u.cell? ⟨w.heap.size, 1, none⟩ = some (.int .i64 lim)) ∧ Below w.heap.size w u) := Lib.hid fun u hu => by
    have h1 := (hu.block _ (by omega)).trans HX1.out
    have h0 := (hu.block _ (by omega)).trans HX0.out
    have p0 := cell_of_row _ _ 0 _ _ _ h1
    have p1 := cell_of_row _ _ 1 _ _ _ h1
    have p2 := cell_of_row _ _ 0 _ _ _ h0
    have p3 := cell_of_row _ _ 1 _ _ _ h0
    simp at p0 p1 p2 p3
    exact ⟨⟨p0, p1⟩, ⟨p2, p3⟩, HB0.out.trans (hu.mono (by omega))⟩
  obtain ⟨⟨p0, p1⟩, -, hu0⟩ := HV0.out _ (Below.refl _ _)
  go_upto_region 2 with (go_at_call 13; with_reducible refine (HOB.out _ hu0).mono ?_; rintro ex w2 ⟨vv, vb, rfl, hcp⟩; obtain ⟨qa, ca, rfl⟩ := own_form hcp.vs; obtain ⟨qb, cb, rfl⟩ := own_form hcp.bs)
  rw [HVN.out]
  obtain ⟨bn, HBN⟩ : ∃ bn, Hid (o.bs.length = bn) := ⟨_, Lib.hid rfl⟩
  have HBO : Hid (ObW w2 qa vn qb bn o) := Lib.hid ⟨by have := hcp.vs; rw [HVN.out] at this; exact Vls.own this, by have := hcp.bs; rw [HBN.out] at this; exact Bys.own this HSO.out.2.2⟩
  have HL2 := Lib.hid hcp.below
  rw [HBN.out]
  clear hcp p0 p1 hu0
  have hx9 := heap_alloc_new w2 (.cells #[.int .i64 k, .slice qa vn ca, .slice qb bn cb] 27)
  have HX9 := Lib.hid hx9
  have hs2 := HL2.out.size
  have HS2 := Lib.hid hs2
  have HL3 : Hid (Below W1.heap.size W1 (w2.alloc (.cells #[.int .i64 k, .slice qa vn ca, .slice qb bn cb] 27))) := Lib.hid (HL2.out.alloc HL2.out.size _)
  have HB3 : Hid (ObW (w2.alloc (.cells #[.int .i64 k, .slice qa vn ca, .slice qb bn cb] 27)) qa vn qb bn o) := Lib.hid (HBO.out.below ((Below.refl _ _).alloc (Nat.le_refl _) _))
  have HS3 : Hid ((w2.alloc (.cells #[.int .i64 k, .slice qa vn ca, .slice qb bn cb] 27)).heap.size = w2.heap.size + 1) := Lib.hid (by simp)
  clear hx9 hs2 HBO HOB
  generalize w2.alloc (.cells #[.int .i64 k, .slice qa vn ca, .slice qb bn cb] 27) = w3 at *
  obtain ⟨⟨p0, p1⟩, -, hu0⟩ := HV0.out _ HL3.out
  go_upto_region 3 with (go_at_call 27; with_reducible refine (HKI.out _ hu0).mono ?_; rintro ex w4 ⟨rfl, hb4⟩)
  have HL4 := Lib.hid (HL3.out.trans (hb4.mono HL3.out.size))
  have HM4 := Lib.hid hb4
  clear p0 p1 hu0 hb4 HKI
  obtain ⟨⟨p0, p1⟩, -, hu0⟩ := HV0.out _ HL4.out
  go_upto_region 4 with (go_at_call 56; with_reducible refine (HSI.out _ hu0).mono ?_; rintro ex w5 ⟨rfl, hb5⟩)
  have HL5 := Lib.hid (HL4.out.trans (hb5.mono HL4.out.size))
  have HM5 := Lib.hid (HM4.out.trans (hb5.mono HM4.out.size))
  clear p0 p1 hu0 hb5 HSI
  obtain ⟨⟨p0, p1⟩, -, hu0⟩ := HV0.out _ HL5.out
  obtain ⟨ax, ay⟩ := aV
  have HAT : Hid (∀ w1, Below w.heap.size w w1 → Calls Try.prog 29 #[.pointer (some ⟨g, 0, none⟩), .agg #[.int .i64 K, .int .i64 N], .int .i64 i] w1 fun e w' => e = .returned (.tuple #[.agg #[.int .i64 ax, .int .i64 ay], .int .i64 aE]) ∧ Below w1.heap.size w1 w') := HAT
  go_upto_region 5 with (go_at_call 29; with_reducible refine (HAT.out _ hu0).mono ?_; rintro ex w6 ⟨rfl, hb6⟩)
  have HM6 := Lib.hid ((HM5.out.trans (hb6.mono HM5.out.size)).alloc (Nat.le_trans HM5.out.size hb6.size) (.cells #[.int .i64 ax, .int .i64 ay] 38))
  have HL6 := Lib.hid ((HL5.out.trans (hb6.mono HL5.out.size)).alloc (Nat.le_trans HL5.out.size hb6.size) (.cells #[.int .i64 ax, .int .i64 ay] 38))
  have HX15 := Lib.hid (heap_alloc_new w6 (.cells #[.int .i64 ax, .int .i64 ay] 38))
  have HS6 : Hid ((w6.alloc (.cells #[.int .i64 ax, .int .i64 ay] 38)).heap.size = w6.heap.size + 1) := Lib.hid (by simp)
  have HG6 : Hid (w3.heap.size ≤ w6.heap.size) := Lib.hid (Nat.le_trans HM5.out.size hb6.size)
  clear p0 p1 hu0 hb6 HAT HM4 HM5 HL4 HL5
  generalize w6.alloc (.cells #[.int .i64 ax, .int .i64 ay] 38) = w7 at *
  obtain ⟨⟨p0, p1⟩, -, hu0⟩ := HV0.out _ HL6.out
  go_upto_region 6 with (go_at_call 57; with_reducible refine (HTX.out _ hu0).mono ?_; rintro ex w8 ⟨rfl, hb8⟩)
  have HL8 := Lib.hid (HL6.out.trans (hb8.mono HL6.out.size))
  have HM8 := Lib.hid (HM6.out.trans (hb8.mono HM6.out.size))
  have HN8 := Lib.hid hb8
  clear p0 p1 hu0 hb8 HTX
  have HALL : Hid (∀ u, Below w8.heap.size w8 u → (u.cell? ⟨w.heap.size + 1, 0, none⟩ = some (.int .i64 K) ∧ u.cell? ⟨w.heap.size + 1, 1, none⟩ = some (.int .i64 N)) ∧ (u.cell? ⟨w.heap.size, 0, none⟩ = some (.slice q0 NL c0) ∧ u.cell? ⟨w.heap.size, 1, none⟩ = some (.int .i64 lim)) ∧
      (u.cell? ⟨w2.heap.size, 0, none⟩ = some (.int .i64 k) ∧ u.cell? ⟨w2.heap.size, 1, none⟩ = some (.slice qa vn ca) ∧ u.cell? ⟨w2.heap.size, 2, none⟩ = some (.slice qb bn cb)) ∧ (u.cell? ⟨w6.heap.size, 0, none⟩ = some (.int .i64 ax) ∧ u.cell? ⟨w6.heap.size, 1, none⟩ = some (.int .i64 ay)) ∧ ObW u qa vn qb bn o ∧ Below w.heap.size w u) := Lib.hid fun u hu => by
    obtain ⟨h1, h2, h3⟩ := HV0.out u (HL8.out.trans (hu.mono HL8.out.size))
    have hm := HM8.out.trans (hu.mono HM8.out.size)
    have hn := HN8.out.trans (hu.mono HN8.out.size)
    have h9 := (hm.block w2.heap.size (by have := HS3.out; omega)).trans HX9.out
    have h15 := (hn.block w6.heap.size (by have := HS6.out; omega)).trans HX15.out
    have a0 := cell_of_row _ _ 0 _ _ _ h9
    have a1 := cell_of_row _ _ 1 _ _ _ h9
    have a2 := cell_of_row _ _ 2 _ _ _ h9
    have a3 := cell_of_row _ _ 0 _ _ _ h15
    have a4 := cell_of_row _ _ 1 _ _ _ h15
    simp at a0 a1 a2 a3 a4
    exact ⟨h1, h2, ⟨a0, a1, a2⟩, ⟨a3, a4⟩, HB3.out.below hm, h3⟩
  clear HV0 HL8 HM8 HN8 HX9 HX15 HS3 HS6 HB3 HL3 HL6 HM6 HG6 HS2 HL2 HB0 HX0 HX1 HSZ0 hsz
  have HZ : Hid (hasP m.L (K, N) = false → E = 5 ∧ o = ⟨0, [], []⟩ ∧ aE = 5 ∧ (ax, ay) = ((0 : Int), (0 : Int))) := Lib.hid fun hv => by
    have h5 : atE m.L (K, N) i = 5 := if_pos hv
    refine ⟨by rw [HEB.out, if_neg (by rw [hv]; decide)], by rw [← HO.out]; exact obAt_none hv, by rw [← HAE.out]; exact h5, by rw [← HAV.out]; exact if_neg (by rw [h5]; decide)⟩
  have HO1 : Hid (hasP m.L (K, N) = true → E = 0) := Lib.hid fun hv => by rw [HEB.out, if_pos hv]
  have HAT1 : Hid (hasP m.L (K, N) = true → (aE = 7 ∧ (ax, ay) = ((0 : Int), (0 : Int)) ∧ (i < 0 ∨ (vn : Int) ≤ i)) ∨ (aE = 0 ∧ 0 ≤ i ∧ i < (vn : Int) ∧ (ax, ay) = o.vs.getD i.toNat (0, 0))) := Lib.hid fun hv => by
    by_cases hr : i < 0 ∨ (vn : Int) ≤ i
    · have h7 : atE m.L (K, N) i = 7 := by unfold atE; rw [if_neg (by rw [hv]; decide), HO.out, HVN.out, if_pos hr]
      exact .inl ⟨by rw [← HAE.out]; exact h7, by rw [← HAV.out]; exact if_neg (by rw [h7]; decide), hr⟩
    · have h7 : atE m.L (K, N) i = 0 := by unfold atE; rw [if_neg (by rw [hv]; decide), HO.out, HVN.out, if_neg hr]
      exact .inr ⟨by rw [← HAE.out]; exact h7, by omega, by omega, by rw [← HAV.out]; unfold atV; rw [if_pos h7, HO.out]⟩
  obtain ⟨⟨p0, p1⟩, ⟨p2, p3⟩, ⟨a0, a1, a2⟩, ⟨a3, a4⟩, ho8, hu0⟩ := HALL.out _ (Below.refl _ _)
  cases hx : hasP L (K, N) with
  | false =>
    rw [hx] at HRH
    go_upto_region 7 with (go_at_call 17; with_reducible refine (HRH.out _ hu0).mono ?_; rintro ex w9 ⟨rfl, hb9⟩)
    have HL9 := Lib.hid hb9
    clear p0 p1 p2 p3 a0 a1 a2 a3 a4 ho8 hb9 hu0
    cases hv : hasP m.L (K, N) with
    | true =>
      have hE := HO1.out hv
      subst hE
      clear HZ HO1 HAT1 hv
      go_wp2_with fail
      go_ret
      exact ⟨IsB.of _, (HALL.out _ HL9.out).2.2.2.2.2⟩
    | false =>
      obtain ⟨hE, ho, haE, haV⟩ := HZ.out hv
      obtain ⟨rfl, rfl⟩ := Prod.mk.inj haV
      subst hE haE ho
      obtain rfl : (0 : Int) = k := HK.out
      obtain rfl : 0 = vn := HVN.out
      obtain rfl : 0 = bn := HBN.out
      obtain rfl : (⟨#[]⟩ : ByteArray) = st := HST.out
      have HHS0 : Hid (∀ w1, Below w.heap.size w w1 → Calls Try.prog 15 #[.pointer (some ⟨g, 0, none⟩), .agg #[.int .i64 K, .int .i64 N]] w1 fun e w' => e = .returned (.bool false) ∧ Below w1.heap.size w1 w') := Lib.hid fun w1 hb => by
        have h := HHS.out w1 hb; rw [hv] at h; exact h
      have HCH0 : Hid (∀ w1, Below w.heap.size w w1 → Calls Try.prog 9 #[.pointer (some ⟨g, 0, none⟩), .agg #[.int .i64 K, .int .i64 N]] w1 fun e w' => e = .returned (.bool false) ∧ Below w1.heap.size w1 w') := Lib.hid fun w1 hb => by
        have h := HCH.out w1 hb; rw [hv, Bool.false_and] at h; exact h
      have HNU0 : Hid (∀ w1, Below w.heap.size w w1 → Calls Try.prog 19 #[.pointer (some ⟨g, 0, none⟩), .agg #[.int .i64 K, .int .i64 N]] w1 fun e w' => e = .returned (.int .i64 0) ∧ Below w1.heap.size w1 w') := Lib.hid fun w1 hb => by
        have h := HNU.out w1 hb; rw [hv] at h; exact h
      have HSM0 : Hid (∀ w1, ObW w1 qa 0 qb 0 ⟨0, [], []⟩ → Calls Try.prog 14 #[.agg #[.int .i64 0, .slice qa 0 ca, .slice qb 0 cb], .agg #[.int .i64 0, .slice none 0 0, .slice none 0 0]] w1 fun e w' => e = .returned (.bool true) ∧ Below w1.heap.size w1 w') := Lib.hid fun w1 hw => by
        have h := same_any ⟨0, [], []⟩ ⟨0, [], []⟩ qa qb none none 0 ca 0 cb 0 0 0 0 w1 hw ⟨⟨rfl, fun hn => absurd hn (Nat.lt_irrefl 0)⟩, Bys.zero _ _⟩ (by decide) (by decide)
        rw [show sameO ⟨0, [], []⟩ ⟨0, [], []⟩ = true from rfl] at h
        exact h
      have hEQ := fun u => eqlV (0, 0) (0, 0) u
      have hGU := guardV
      clear HZ HO1 HAT1 hv HAT HSO HHS HCH HNU HO HE HAE HAV HEB hsx HR haV
      obtain ⟨⟨p0, p1⟩, -, -, -, ho9, hu9⟩ := HALL.out _ HL9.out
      go_wp2_with (first
        | (go_at_call 15; with_reducible refine (HHS0.out _ hu9).mono ?_; rintro ex w10 ⟨rfl, hb⟩; have HL10 := Lib.hid (HL9.out.trans (hb.mono HL9.out.size)); obtain ⟨-, -, ⟨a0, a1, a2⟩, -, ho10, hu10⟩ := HALL.out _ HL10.out; clear hb p0 p1)
        | (go_at_call 14; with_reducible refine (HSM0.out _ ho10).mono ?_; rintro ex w11 ⟨rfl, hb⟩; have HL11 := Lib.hid (HL10.out.trans (hb.mono HL10.out.size)); obtain ⟨⟨p0, p1⟩, -, -, ⟨a3, a4⟩, -, hu11⟩ := HALL.out _ HL11.out; clear hb a0 a1 a2)
        | (go_at_call 9; with_reducible refine (HCH0.out _ hu11).mono ?_; rintro ex w12 ⟨rfl, hb⟩; have HL12 := Lib.hid (HL11.out.trans (hb.mono HL11.out.size)); clear p0 p1; obtain ⟨⟨p0, p1⟩, -, -, -, -, hu12⟩ := HALL.out _ HL12.out; clear hb a3 a4)
        | (go_at_call 19; with_reducible refine (HNU0.out _ hu12).mono ?_; rintro ex w13 ⟨rfl, hb⟩; have HL13 := Lib.hid (HL12.out.trans (hb.mono HL12.out.size)); clear p0 p1; obtain ⟨⟨p0, p1⟩, -, -, -, -, hu13⟩ := HALL.out _ HL13.out; clear hb)
        | (go_at_call 22; with_reducible refine (HAW.out _ hu13).mono ?_; rintro ex w14 ⟨rfl, hb⟩; have HL14 := Lib.hid (HL13.out.trans (hb.mono HL13.out.size)); clear hb))
      go_ret
      exact ⟨IsB.of _, (HALL.out _ HL14.out).2.2.2.2.2⟩
  | true =>
    rw [hx] at HRH
    obtain ⟨hK, hN0, cx, hcx⟩ := hasP_iff.1 hx
    obtain ⟨n, rfl⟩ : ∃ n : Nat, N = (n : Int) := ⟨N.toNat, by have : (0 : Int) ≤ N := hN0; omega⟩
    rw [show ((K, (n : Int)).2).toNat = n from Int.toNat_natCast n] at hcx
    have hnl := clAt_some hcx
    obtain ⟨bR, cR, eR, hcap, r0, r1, r2, r3, r4, r5⟩ := HR.out.cells hnl
    rw [HNL.out] at eR hcap
    cases eR
    obtain ⟨⟨q1, c1, ev, hvs, -, -⟩, ⟨px, e1, ee, hbs, -, -⟩⟩ := HR.out.at_ n cx hcx
    rw [hcx] at r1 r2
    rw [ev] at r3
    rw [ee] at r4
    obtain ⟨s1, s2⟩ := hsx n cx hcx
    have HNI : Hid ((n : Int) < (NL : Int)) := Lib.hid (by have := HNL.out; omega)
    obtain ⟨vx, HVXN⟩ : ∃ vx, Hid (cx.o.vs.length = vx) := ⟨_, Lib.hid rfl⟩
    obtain ⟨bx, HBXN⟩ : ∃ bx, Hid (cx.o.bs.length = bx) := ⟨_, Lib.hid rfl⟩
    obtain ⟨kx, HKX⟩ : ∃ kx, Hid (cx.o.k = kx) := ⟨_, Lib.hid rfl⟩
    obtain ⟨chx, HCHX⟩ : ∃ chx, Hid (cx.ch = chx) := ⟨_, Lib.hid rfl⟩
    have r1' : w.cell? ⟨bR, n * 6 + 1, none⟩ = some (.bool chx) := by rw [r1, ← HCHX.out]; rfl
    have r2' : w.cell? ⟨bR, n * 6 + 2, none⟩ = some (.int .i64 kx) := by rw [r2, ← HKX.out]; rfl
    rw [HVXN.out] at r3 hvs s1
    rw [HBXN.out] at r4 hbs s2
    have HVX : Hid (vn ≤ 256 ∧ vx ≤ 256 ∧ cx.o.vs.length = vx ∧ vx ≤ 256) := Lib.hid ⟨by have := HSO.out.1; rw [HVN.out] at this; exact this, s1, HVXN.out, s1⟩
    have HRW : Hid (∀ u, Below w.heap.size w u → u.cell? ⟨bR, n * 6, none⟩ = some (.bool (clAt L n).isSome) ∧ u.cell? ⟨bR, n * 6 + 1, none⟩ = some (.bool chx) ∧ u.cell? ⟨bR, n * 6 + 2, none⟩ = some (.int .i64 kx) ∧ u.cell? ⟨bR, n * 6 + 3, none⟩ = some (.slice q1 vx c1) ∧ u.cell? ⟨bR, n * 6 + 4, none⟩ = some (.slice px bx e1) ∧ u.cell? ⟨bR, n * 6 + 5, none⟩ = some (.int .i64 0) ∧ ObW u q1 vx px bx cx.o) := Lib.hid fun u hu =>
      ⟨(hu.cell (World.block_lt_of_cell? w _ r0)).trans r0, (hu.cell (World.block_lt_of_cell? w _ r1')).trans r1', (hu.cell (World.block_lt_of_cell? w _ r2')).trans r2', (hu.cell (World.block_lt_of_cell? w _ r3)).trans r3, (hu.cell (World.block_lt_of_cell? w _ r4)).trans r4, (hu.cell (World.block_lt_of_cell? w _ r5)).trans r5, ⟨hvs.below hu, hbs.below hu⟩⟩
    clear r0 r1 r2 r1' r2' r3 r4 r5 ev ee hvs hbs hK hN0 hx hsx hnl hcx
    go_upto_region 9 with (go_at_call 17; with_reducible refine (HRH.out _ hu0).mono ?_; rintro ex w9 ⟨rfl, hb9⟩)
    have HL9 := Lib.hid hb9
    clear p0 p1 p2 p3 a0 a1 a2 a3 a4 ho8 hb9 hu0
    obtain ⟨⟨-, g1⟩, ⟨g2, -⟩, -, -, -, hu9⟩ := HALL.out _ HL9.out
    obtain ⟨-, -, f2, f3, f4, -, -⟩ := HRW.out _ hu9
    have hni := HNI.out
    go_upto_region 10 with fail
    have HA10 : Hid (∀ u, Below (w9.alloc (.cells #[.int .i64 kx, .slice q1 vx c1, .slice px bx e1] 27)).heap.size (w9.alloc (.cells #[.int .i64 kx, .slice q1 vx c1, .slice px bx e1] 27)) u → _) := Lib.hid fun u hu => HALL.out u ((HL9.out.alloc HL9.out.size (.cells #[.int .i64 kx, .slice q1 vx c1, .slice px bx e1] 27)).trans (hu.mono (by have := HL9.out.size; simp; omega)))
    have hx20 := heap_alloc_new w9 (.cells #[.int .i64 kx, .slice q1 vx c1, .slice px bx e1] 27)
    have HA20 : Hid (∀ u, Below (w9.alloc (.cells #[.int .i64 kx, .slice q1 vx c1, .slice px bx e1] 27)).heap.size (w9.alloc (.cells #[.int .i64 kx, .slice q1 vx c1, .slice px bx e1] 27)) u → u.cell? ⟨w9.heap.size, 0, none⟩ = some (.int .i64 kx) ∧ u.cell? ⟨w9.heap.size, 1, none⟩ = some (.slice q1 vx c1) ∧ u.cell? ⟨w9.heap.size, 2, none⟩ = some (.slice px bx e1)) := Lib.hid fun u hu => by
      have h1 := (hu.block _ (by simp)).trans hx20
      have a0 := cell_of_row _ _ 0 _ _ _ h1
      have a1 := cell_of_row _ _ 1 _ _ _ h1
      have a2 := cell_of_row _ _ 2 _ _ _ h1
      simp at a0 a1 a2
      exact ⟨a0, a1, a2⟩
    clear g1 g2 hu9 f2 f3 f4 hx20
    generalize w9.alloc (.cells #[.int .i64 kx, .slice q1 vx c1, .slice px bx e1] 27) = w10 at *
    obtain ⟨⟨g0, g1⟩, ⟨g2, g3⟩, ⟨g4, g5, g6⟩, ⟨g7, g8⟩, ho10, hu10⟩ := HA10.out _ (Below.refl _ _)
    obtain ⟨f0, f1, f2⟩ := HA20.out _ (Below.refl _ _)
    have HU10 := Lib.hid hu10
    have HW5 : Hid (hasP m.L (K, (n : Int)) = false → aE = 5) := Lib.hid fun hv => (HZ.out hv).2.2.1
    by_cases hr : i < 0 ∨ (vx : Int) ≤ i
    · have hNQ := fun u => neqV (ax, ay) (0, 0) u
      have hGU := guardV
      have FIRST : (decide (i < 0) = true) ∨ (decide (i < 0) = false ∧ decide ((vx : Int) ≤ i) = true) := by
        by_cases h2 : i < 0
        · exact .inl (decide_eq_true h2)
        · exact .inr ⟨decide_eq_false h2, decide_eq_true (hr.resolve_left h2)⟩
      rcases FIRST with d1 | ⟨d1, d2⟩
      all_goals
        clear hr
        go_upto_region 11 with fail
        by_cases hz : ((ax, ay) : Int × Int) = (0, 0)
        · rw [decide_eq_true hz] at hNQ
          by_cases h7 : aE = 7
          · have d7 : (aE != 7) = false := by simp [h7]
            have HVT : Hid (hasP m.L (K, (n : Int)) = true) := Lib.hid (by
              cases hv : hasP m.L (K, (n : Int)) with
              | true => rfl
              | false => have := HW5.out hv; omega)
            have hE := HO1.out HVT.out
            subst hE
            go_upto_region 15 with fail
            clear g0 g1 g2 g3 g4 g5 g6 g7 g8 f0 f1 f2 ho10 hNQ
            have HUP : Hid (∀ s : In w10, Below w10.heap.size w10 s.1) := Lib.hid fun s => (fun {u} (hu : Below w10.heap.size w10 u) => hu) s.2
            have l0 : ∀ s : In w10, s.1.cell? ⟨w.heap.size + 1, 0, none⟩ = some (.int .i64 K) := fun s => (HA10.out _ (HUP.out s)).1.1
            have l1 : ∀ s : In w10, s.1.cell? ⟨w.heap.size + 1, 1, none⟩ = some (.int .i64 (n : Int)) := fun s => (HA10.out _ (HUP.out s)).1.2
            have l2 : ∀ s : In w10, s.1.cell? ⟨w.heap.size, 0, none⟩ = some (.slice (some ⟨bR, 0, none⟩) NL c0) := fun s => (HA10.out _ (HUP.out s)).2.1.1
            have l4 : ∀ s : In w10, s.1.cell? ⟨w2.heap.size, 0, none⟩ = some (.int .i64 k) := fun s => (HA10.out _ (HUP.out s)).2.2.1.1
            have l5 : ∀ s : In w10, s.1.cell? ⟨w2.heap.size, 1, none⟩ = some (.slice qa vn ca) := fun s => (HA10.out _ (HUP.out s)).2.2.1.2.1
            have l6 : ∀ s : In w10, s.1.cell? ⟨w2.heap.size, 2, none⟩ = some (.slice qb bn cb) := fun s => (HA10.out _ (HUP.out s)).2.2.1.2.2
            have l7 : ∀ s : In w10, s.1.cell? ⟨w9.heap.size, 0, none⟩ = some (.int .i64 kx) := fun s => (HA20.out _ (HUP.out s)).1
            have l8 : ∀ s : In w10, s.1.cell? ⟨w9.heap.size, 1, none⟩ = some (.slice q1 vx c1) := fun s => (HA20.out _ (HUP.out s)).2.1
            have l9 : ∀ s : In w10, s.1.cell? ⟨w9.heap.size, 2, none⟩ = some (.slice px bx e1) := fun s => (HA20.out _ (HUP.out s)).2.2
            have lr : ∀ s : In w10, s.1.cell? ⟨bR, n * 6 + 1, none⟩ = some (.bool chx) := fun s => (HRW.out _ (HA10.out _ (HUP.out s)).2.2.2.2.2).2.1
            have lc : ∀ s : In w10, (convert 25 9 (.slice px bx e1)).run Try.prog s.1 = .ok (.string (strB cx.o.bs)) s.1 := fun s => (HRW.out _ (HA10.out _ (HUP.out s)).2.2.2.2.2).2.2.2.2.2.2.bs.conv e1
            have HHS1 : Hid (∀ w1, Below w.heap.size w w1 → Calls Try.prog 15 #[.pointer (some ⟨g, 0, none⟩), .agg #[.int .i64 K, .int .i64 (n : Int)]] w1 fun e w' => e = .returned (.bool true) ∧ Below w1.heap.size w1 w') := Lib.hid fun w1 hb => by
              have h := HHS.out w1 hb; rw [HVT.out] at h; exact h
            have HSM1 : Hid (∀ s : In w10, Calls Try.prog 14 #[.agg #[.int .i64 k, .slice qa vn ca, .slice qb bn cb], .agg #[.int .i64 kx, .slice q1 vx c1, .slice px bx e1]] s.1 fun e w' => e = .returned (.bool (sameO o cx.o)) ∧ Below s.1.heap.size s.1 w') := Lib.hid fun s => by
              have h := same_any o cx.o qa qb q1 px vn ca bn cb vx c1 bx e1 s.1 (HA10.out _ (HUP.out s)).2.2.2.2.1 (HRW.out _ (HA10.out _ (HUP.out s)).2.2.2.2.2).2.2.2.2.2.2 (by have := HVX.out; omega) (by have := HVX.out; omega)
              rw [HK.out, HKX.out] at h
              exact h
            have hne := In.some w10
            have hs2 : (n : Int) < (NL : Int) := HNI.out
            cases hb1 : sameO o cx.o with
            | false =>
              rw [hb1] at HSM1
              simp only [List.append_eq, List.cons_append, List.nil_append]
              refine region_in w10 (by kernel_rfl) (by kernel_rfl) (Below.refl _ _) ?_
              repeat (go_big_quiet_step ((first
                | (go_at_call 15; exact Calls.quiet_in (HHS1.out _ (HA10.out _ (HUP.out _)).2.2.2.2.2))
                | (go_at_call 14; exact Calls.quiet_in (HSM1.out _)))))
              refine wpQuiet_nil ?_
              intro w12 hw'
              have hb12 : Below w10.heap.size w10 w12 := by
                obtain ⟨⟨wz, hbz⟩, hw''⟩ := hw'
                subst hw''
                exact hbz
              clear hw'
              go_wp2_with fail
              go_ret
              exact ⟨IsB.of _, (HA10.out _ ((fun {u} (hu : Below w10.heap.size w10 u) => hu) hb12)).2.2.2.2.2⟩
            | true =>
              rw [hb1] at HSM1
              have ho := sameO_iff.1 hb1
              have hkk : k = kx := by rw [← HK.out, ← HKX.out, ho]
              have hvv : vn = vx := by rw [← HVN.out, ← HVX.out.2.2.1, ho]
              have hss : st = strB cx.o.bs := by rw [← HST.out, ho]
              have hd0 : (k == kx) = true := by simp [hkk]
              have hd1 : ((vn : Int) == (vx : Int)) = true := by simp [hvv]
              have hd1n : (vn == vx) = true := by simp [hvv]
              have hd2 : (st.toList == (strB cx.o.bs).toList) = true := by simp [hss]
              clear hkk hvv hss ho hb1
              have HCH1 : Hid (∃ hc, ∀ w1, Below w.heap.size w w1 → Calls Try.prog 9 #[.pointer (some ⟨g, 0, none⟩), .agg #[.int .i64 K, .int .i64 (n : Int)]] w1 fun e w' => e = .returned (.bool hc) ∧ Below w1.heap.size w1 w') := Lib.hid ⟨_, HCH.out⟩
              obtain ⟨hc, HCH2⟩ := HCH1.out
              have HCH2 := Lib.hid HCH2
              generalize strB cx.o.bs = sx at *
              cases hc2 : (hc == chx) with
              | false =>
                simp only [List.append_eq, List.cons_append, List.nil_append]
                refine region_in w10 (by kernel_rfl) (by kernel_rfl) (Below.refl _ _) ?_
                repeat (go_big_quiet_step ((first
                  | (go_at_call 15; exact Calls.quiet_in (HHS1.out _ (HA10.out _ (HUP.out _)).2.2.2.2.2))
                  | (go_at_call 14; exact Calls.quiet_in (HSM1.out _))
                  | (go_at_call 9; exact Calls.quiet_in (HCH2.out _ (HA10.out _ (HUP.out _)).2.2.2.2.2)))))
                refine wpQuiet_nil ?_
                intro w12 hw'
                have hb12 : Below w10.heap.size w10 w12 := by
                  obtain ⟨⟨wz, hbz⟩, hw''⟩ := hw'
                  subst hw''
                  exact hbz
                clear hw'
                go_wp2_with fail
                go_ret
                exact ⟨IsB.of _, (HA10.out _ ((fun {u} (hu : Below w10.heap.size w10 u) => hu) hb12)).2.2.2.2.2⟩
              | true =>
                simp only [List.append_eq, List.cons_append, List.nil_append]
                refine region_in w10 (by kernel_rfl) (by kernel_rfl) (Below.refl _ _) ?_
                repeat (go_big_quiet_step ((first
                  | (go_at_call 15; exact Calls.quiet_in (HHS1.out _ (HA10.out _ (HUP.out _)).2.2.2.2.2))
                  | (go_at_call 14; exact Calls.quiet_in (HSM1.out _))
                  | (go_at_call 9; exact Calls.quiet_in (HCH2.out _ (HA10.out _ (HUP.out _)).2.2.2.2.2))
                  | (go_at_call 22; exact Calls.quiet_in (HAW.out _ (HA10.out _ (HUP.out _)).2.2.2.2.2)))))
                refine wpQuiet_nil ?_
                intro w12 hw'
                have hb12 : Below w10.heap.size w10 w12 := by
                  obtain ⟨⟨wz, hbz⟩, hw''⟩ := hw'
                  subst hw''
                  exact hbz
                clear hw'
                go_wp2_with fail
                go_ret
                exact ⟨IsB.of _, (HA10.out _ ((fun {u} (hu : Below w10.heap.size w10 u) => hu) hb12)).2.2.2.2.2⟩
          · have d7 : (aE != 7) = true := by simp [h7]
            clear HZ HO1 HAT1 HW5
            go_wp2_with fail
            go_ret
            exact ⟨IsB.of _, HU10.out⟩
        · rw [decide_eq_false hz] at hNQ
          clear HZ HO1 HAT1 HW5
          go_wp2_with fail
          go_ret
          exact ⟨IsB.of _, HU10.out⟩
    · obtain ⟨j, rfl⟩ : ∃ j : Nat, i = (j : Int) := ⟨i.toNat, by omega⟩
      have hj : j < vx := by omega
      have d1 : decide ((j : Int) < 0) = false := by simp
      have d2 : decide ((vx : Int) ≤ (j : Int)) = false := by simp; omega
      have d3 : decide (vx ≤ j) = false := by simp; omega
      have hjx : (j : Int) < (vx : Int) := by omega
      obtain ⟨bv, ov, eq1, hcell⟩ := (HRW.out _ hu10).2.2.2.2.2.2.vs.2 (by omega)
      subst eq1
      obtain ⟨y0, y1⟩ := hcell j hj
      obtain ⟨z, HZZ⟩ : ∃ z, Hid (cx.o.vs.getD j (0, 0) = z) := ⟨_, Lib.hid rfl⟩
      rw [HZZ.out] at y0 y1
      have hNQ := fun u => neqV (ax, ay) z u
      have hGU := guardV
      clear hcell hr
      go_upto_region 13 with fail
      by_cases hz : ((ax, ay) : Int × Int) = z
      · rw [decide_eq_true hz] at hNQ
        by_cases h0 : aE = 0
        · have d0 : (aE != 0) = false := by simp [h0]
          have HVT : Hid (hasP m.L (K, (n : Int)) = true) := Lib.hid (by
            cases hv : hasP m.L (K, (n : Int)) with
            | true => rfl
            | false => have := HW5.out hv; omega)
          have hE := HO1.out HVT.out
          subst hE
          go_quiet (fail)
          have HWD : Hid (Below w10.heap.size w10 (w10.drewN nq)) := Lib.hid (below_drewN (Below.refl _ _) _)
          generalize w10.drewN nq = WD at *
          go_upto_region 15 with fail
          clear g0 g1 g2 g3 g4 g5 g6 g7 g8 f0 f1 f2 ho10 hNQ y0 y1
          have HUP : Hid (∀ s : In WD, Below w10.heap.size w10 s.1) := Lib.hid fun s => (fun {u} (hu : Below WD.heap.size WD u) => (HWD.out.trans (hu.mono HWD.out.size))) s.2
          have l0 : ∀ s : In WD, s.1.cell? ⟨w.heap.size + 1, 0, none⟩ = some (.int .i64 K) := fun s => (HA10.out _ (HUP.out s)).1.1
          have l1 : ∀ s : In WD, s.1.cell? ⟨w.heap.size + 1, 1, none⟩ = some (.int .i64 (n : Int)) := fun s => (HA10.out _ (HUP.out s)).1.2
          have l2 : ∀ s : In WD, s.1.cell? ⟨w.heap.size, 0, none⟩ = some (.slice (some ⟨bR, 0, none⟩) NL c0) := fun s => (HA10.out _ (HUP.out s)).2.1.1
          have l4 : ∀ s : In WD, s.1.cell? ⟨w2.heap.size, 0, none⟩ = some (.int .i64 k) := fun s => (HA10.out _ (HUP.out s)).2.2.1.1
          have l5 : ∀ s : In WD, s.1.cell? ⟨w2.heap.size, 1, none⟩ = some (.slice qa vn ca) := fun s => (HA10.out _ (HUP.out s)).2.2.1.2.1
          have l6 : ∀ s : In WD, s.1.cell? ⟨w2.heap.size, 2, none⟩ = some (.slice qb bn cb) := fun s => (HA10.out _ (HUP.out s)).2.2.1.2.2
          have l7 : ∀ s : In WD, s.1.cell? ⟨w9.heap.size, 0, none⟩ = some (.int .i64 kx) := fun s => (HA20.out _ (HUP.out s)).1
          have l8 : ∀ s : In WD, s.1.cell? ⟨w9.heap.size, 1, none⟩ = some (.slice (some ⟨bv, ov, none⟩) vx c1) := fun s => (HA20.out _ (HUP.out s)).2.1
          have l9 : ∀ s : In WD, s.1.cell? ⟨w9.heap.size, 2, none⟩ = some (.slice px bx e1) := fun s => (HA20.out _ (HUP.out s)).2.2
          have lr : ∀ s : In WD, s.1.cell? ⟨bR, n * 6 + 1, none⟩ = some (.bool chx) := fun s => (HRW.out _ (HA10.out _ (HUP.out s)).2.2.2.2.2).2.1
          have lc : ∀ s : In WD, (convert 25 9 (.slice px bx e1)).run Try.prog s.1 = .ok (.string (strB cx.o.bs)) s.1 := fun s => (HRW.out _ (HA10.out _ (HUP.out s)).2.2.2.2.2).2.2.2.2.2.2.bs.conv e1
          have HHS1 : Hid (∀ w1, Below w.heap.size w w1 → Calls Try.prog 15 #[.pointer (some ⟨g, 0, none⟩), .agg #[.int .i64 K, .int .i64 (n : Int)]] w1 fun e w' => e = .returned (.bool true) ∧ Below w1.heap.size w1 w') := Lib.hid fun w1 hb => by
            have h := HHS.out w1 hb; rw [HVT.out] at h; exact h
          have HSM1 : Hid (∀ s : In WD, Calls Try.prog 14 #[.agg #[.int .i64 k, .slice qa vn ca, .slice qb bn cb], .agg #[.int .i64 kx, .slice (some ⟨bv, ov, none⟩) vx c1, .slice px bx e1]] s.1 fun e w' => e = .returned (.bool (sameO o cx.o)) ∧ Below s.1.heap.size s.1 w') := Lib.hid fun s => by
            have h := same_any o cx.o qa qb (some ⟨bv, ov, none⟩) px vn ca bn cb vx c1 bx e1 s.1 (HA10.out _ (HUP.out s)).2.2.2.2.1 (HRW.out _ (HA10.out _ (HUP.out s)).2.2.2.2.2).2.2.2.2.2.2 (by have := HVX.out; omega) (by have := HVX.out; omega)
            rw [HK.out, HKX.out] at h
            exact h
          have hne := In.some WD
          have hs2 : (n : Int) < (NL : Int) := HNI.out
          cases hb1 : sameO o cx.o with
          | false =>
            rw [hb1] at HSM1
            simp only [List.append_eq, List.cons_append, List.nil_append]
            refine region_in WD (by kernel_rfl) (by kernel_rfl) (Below.refl _ _) ?_
            repeat (go_big_quiet_step ((first
              | (go_at_call 15; exact Calls.quiet_in (HHS1.out _ (HA10.out _ (HUP.out _)).2.2.2.2.2))
              | (go_at_call 14; exact Calls.quiet_in (HSM1.out _)))))
            refine wpQuiet_nil ?_
            intro w12 hw'
            have hb12 : Below WD.heap.size WD w12 := by
              obtain ⟨⟨wz, hbz⟩, hw''⟩ := hw'
              subst hw''
              exact hbz
            clear hw'
            go_wp2_with fail
            go_ret
            exact ⟨IsB.of _, (HA10.out _ ((fun {u} (hu : Below WD.heap.size WD u) => (HWD.out.trans (hu.mono HWD.out.size))) hb12)).2.2.2.2.2⟩
          | true =>
            rw [hb1] at HSM1
            have ho := sameO_iff.1 hb1
            have hkk : k = kx := by rw [← HK.out, ← HKX.out, ho]
            have hvv : vn = vx := by rw [← HVN.out, ← HVX.out.2.2.1, ho]
            have hss : st = strB cx.o.bs := by rw [← HST.out, ho]
            have hd0 : (k == kx) = true := by simp [hkk]
            have hd1 : ((vn : Int) == (vx : Int)) = true := by simp [hvv]
            have hd1n : (vn == vx) = true := by simp [hvv]
            have hd2 : (st.toList == (strB cx.o.bs).toList) = true := by simp [hss]
            clear hkk hvv hss ho hb1
            have HCH1 : Hid (∃ hc, ∀ w1, Below w.heap.size w w1 → Calls Try.prog 9 #[.pointer (some ⟨g, 0, none⟩), .agg #[.int .i64 K, .int .i64 (n : Int)]] w1 fun e w' => e = .returned (.bool hc) ∧ Below w1.heap.size w1 w') := Lib.hid ⟨_, HCH.out⟩
            obtain ⟨hc, HCH2⟩ := HCH1.out
            have HCH2 := Lib.hid HCH2
            generalize strB cx.o.bs = sx at *
            cases hc2 : (hc == chx) with
            | false =>
              simp only [List.append_eq, List.cons_append, List.nil_append]
              refine region_in WD (by kernel_rfl) (by kernel_rfl) (Below.refl _ _) ?_
              repeat (go_big_quiet_step ((first
                | (go_at_call 15; exact Calls.quiet_in (HHS1.out _ (HA10.out _ (HUP.out _)).2.2.2.2.2))
                | (go_at_call 14; exact Calls.quiet_in (HSM1.out _))
                | (go_at_call 9; exact Calls.quiet_in (HCH2.out _ (HA10.out _ (HUP.out _)).2.2.2.2.2)))))
              refine wpQuiet_nil ?_
              intro w12 hw'
              have hb12 : Below WD.heap.size WD w12 := by
                obtain ⟨⟨wz, hbz⟩, hw''⟩ := hw'
                subst hw''
                exact hbz
              clear hw'
              go_wp2_with fail
              go_ret
              exact ⟨IsB.of _, (HA10.out _ ((fun {u} (hu : Below WD.heap.size WD u) => (HWD.out.trans (hu.mono HWD.out.size))) hb12)).2.2.2.2.2⟩
            | true =>
              simp only [List.append_eq, List.cons_append, List.nil_append]
              refine region_in WD (by kernel_rfl) (by kernel_rfl) (Below.refl _ _) ?_
              repeat (go_big_quiet_step ((first
                | (go_at_call 15; exact Calls.quiet_in (HHS1.out _ (HA10.out _ (HUP.out _)).2.2.2.2.2))
                | (go_at_call 14; exact Calls.quiet_in (HSM1.out _))
                | (go_at_call 9; exact Calls.quiet_in (HCH2.out _ (HA10.out _ (HUP.out _)).2.2.2.2.2))
                | (go_at_call 22; exact Calls.quiet_in (HAW.out _ (HA10.out _ (HUP.out _)).2.2.2.2.2)))))
              refine wpQuiet_nil ?_
              intro w12 hw'
              have hb12 : Below WD.heap.size WD w12 := by
                obtain ⟨⟨wz, hbz⟩, hw''⟩ := hw'
                subst hw''
                exact hbz
              clear hw'
              go_wp2_with fail
              go_ret
              exact ⟨IsB.of _, (HA10.out _ ((fun {u} (hu : Below WD.heap.size WD u) => (HWD.out.trans (hu.mono HWD.out.size))) hb12)).2.2.2.2.2⟩
        · have d0 : (aE != 0) = true := by simp [h0]
          clear HZ HO1 HAT1 HW5
          go_quiet (fail)
          go_wp2_with fail
          go_ret
          exact ⟨IsB.of _, below_drewN HU10.out _⟩
      · rw [decide_eq_false hz] at hNQ
        clear HZ HO1 HAT1 HW5
        go_quiet (fail)
        go_wp2_with fail
        go_ret
        exact ⟨IsB.of _, below_drewN HU10.out _⟩
end
end Go.Proofs.Ythmajccajmnfcaa
