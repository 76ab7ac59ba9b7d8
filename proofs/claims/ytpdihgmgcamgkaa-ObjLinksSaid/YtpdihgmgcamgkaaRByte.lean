/- Reader.Byte; what is read of bytes that are whole, or cut. -/
import Derived.Test.YtpdihgmgcamgkaaSized
set_option linter.unusedSimpArgs false
set_option maxRecDepth 20000
namespace Go.Proofs.Ytpdihgmgcamgkaa
open Go.RowKit

set_option maxHeartbeats 800000 in
theorem byte_none (g d : Nat) (w : World) (HR : Hid (Rd w g d [] 0)) :
    Calls Try.prog 30 #[.pointer (some ⟨g, 0, none⟩)] w fun e w' => e = .returned (.int .u8 0) ∧ Went w w' g d [] 3 := by
  obtain ⟨p, c, h0, hh, hB, h1, h2, h3, h4⟩ := HR.out
  have hc := cell_of_row w g 0 _ _ _ hh
  simp at hc
  clear hh hB h0 h1 h2 h3 h4
  go_enter Try.func30, Try.ntmps30
  go_wp2_with fail
  refine (fault_any g d [] 0 _ HR.out).mono ?_
  rintro e w1 ⟨rfl, rfl⟩
  go_wp2_with fail
  refine (pass_fault g d [] 0 3 0 _ HR.out rfl).mono ?_
  rintro e w2 ⟨rfl, hr, ho⟩
  have HR2 := Lib.hid hr
  have HO := Lib.hid ho
  clear hr ho
  go_wp2_with fail
  go_ret
  exact ⟨rfl, HR2.out, HO.out⟩
set_option maxHeartbeats 800000 in
theorem byte_hit (g d x : Nat) (rest : List Nat) (w : World) (HR : Hid (Rd w g d (x :: rest) 0)) :
    Calls Try.prog 30 #[.pointer (some ⟨g, 0, none⟩)] w fun e w' => e = .returned (.int .u8 (x : Int)) ∧ Went w w' g d rest 0 := by
  obtain ⟨p, c, h0, hh, hB, h1, h2, h3, h4⟩ := HR.out
  have hc := cell_of_row w g 0 _ _ _ hh
  have HG := Lib.hid (lt_of_block hh)
  simp at hc
  obtain ⟨b, o, rfl, hcs⟩ := hB.at (by simp)
  have hx := hcs 0 (by simp)
  rw [Nat.add_zero] at hx
  simp at hx
  have hne : (((rest.length + 1 : Nat) : Int) == 0) = false := by rw [beq_eq_false_iff_ne]; omega
  obtain ⟨n, hn⟩ : ∃ n, Hid (rest.length + 1 = n) := ⟨_, Lib.hid rfl⟩
  have hnp : 0 < n := by have := hn.out; omega
  rw [hn.out] at hc hne
  have hne2 : ((n : Int) == 0) = false := hne
  clear hh hB h0 h1 h2 h3 h4 hcs
  go_enter Try.func30, Try.ntmps30
  go_wp2_with fail
  refine (fault_any g d _ 0 _ HR.out).mono ?_
  rintro e w1 ⟨rfl, rfl⟩
  go_wp2_with fail
  refine (pass_ok g d (x :: rest) 0 1 _ HR.out (by simp)).mono ?_
  rintro e w2 ⟨rfl, hr, ho⟩
  have HR2 : Hid (Rd w2 g d rest 0) := Lib.hid hr
  have HO := Lib.hid ho
  clear hr ho
  go_wp2_with fail
  go_ret
  exact ⟨rfl, HR2.out, HO.out⟩

/-- What is left of bytes to be read: as they are, with others behind, or cut. -/
def Fd (T E rest : List Nat) (cut : Bool) : Prop := if cut = true then ∃ X, X ≠ [] ∧ E = T ++ X else T = E ++ rest
theorem Fd.whole {T E rest : List Nat} (h : T = E ++ rest) : Fd T E rest false := h
theorem Fd.cut_ {T E rest X : List Nat} (hX : X ≠ []) (h : E = T ++ X) : Fd T E rest true := ⟨X, hX, h⟩
/-- A piece is there as a whole, or it isn't. -/
theorem Fd.step {T C E rest : List Nat} {cut : Bool} (h : Fd T (C ++ E) rest cut) : (∃ T', T = C ++ T' ∧ Fd T' E rest cut) ∨ (cut = true ∧ ∃ Y, Y ≠ [] ∧ C = T ++ Y) := by
  cases cut with
  | false =>
    have h' : T = (C ++ E) ++ rest := h
    exact .inl ⟨E ++ rest, by rw [h', List.append_assoc], rfl⟩
  | true =>
    obtain ⟨X, hX, e⟩ := (h : ∃ X, X ≠ [] ∧ C ++ E = T ++ X)
    rcases List.append_eq_append_iff.1 e with ⟨a, h1, h2⟩ | ⟨a, h1, h2⟩
    · exact .inl ⟨a, h1, X, hX, h2⟩
    · by_cases ha : a = []
      · subst ha
        rw [List.append_nil] at h1
        rw [List.nil_append] at h2
        exact .inl ⟨[], by rw [h1, List.append_nil], X, hX, by rw [h2]; rfl⟩
      · exact .inr ⟨rfl, a, ha, h1⟩
/-- The bytes ahead of a number's last one go on. -/
theorem numB_goes {n : Nat} {T Y : List Nat} (h : numB n = T ++ Y) (hY : Y ≠ []) : Goes T T.length := by
  obtain ⟨k, k1, k2, _⟩ := numB_at n
  intro j hj
  have hl := congrArg List.length h
  rw [k1, List.length_append] at hl
  have hy : 0 < Y.length := List.length_pos_iff.2 hY
  have h2 := k2 j (by omega)
  rw [h, getD_left _ _ _ hj] at h2
  omega
/-- What a read left: the value and the rest, or a fault. -/
structure Fed (w w' : World) (g d : Nat) (f : Int) (T T' E rest : List Nat) (cut : Bool) (right : Prop) : Prop where
  went : Went w w' g d T' f
  tell : (f = 0 ∧ right ∧ Fd T' E rest cut) ∨ (f = 3 ∧ cut = true)
theorem fbyte (g d x : Nat) (T E rest : List Nat) (cut : Bool) (w : World) (HR : Hid (Rd w g d T 0)) (h : Fd T ([x] ++ E) rest cut) :
    Calls Try.prog 30 #[.pointer (some ⟨g, 0, none⟩)] w fun e w' => ∃ (y : Nat) (f : Int) (T' : List Nat), e = .returned (.int .u8 (y : Int)) ∧ y < 256 ∧ Fed w w' g d f T T' E rest cut (y = x) := by
  rcases h.step with ⟨T', rfl, h'⟩ | ⟨hc, Y, hY, e⟩
  · have hx : x < 256 := by
      obtain ⟨p, c, _, _, hB, _⟩ := HR.out
      exact hB.dig x (by simp)
    refine (byte_hit g d x T' w HR).mono ?_
    rintro e w' ⟨rfl, hw⟩
    exact ⟨x, 0, T', rfl, hx, hw, .inl ⟨rfl, rfl, h'⟩⟩
  · have hT : T = [] := by
      cases T with
      | nil => rfl
      | cons a t =>
        simp only [List.cons_append, List.cons.injEq] at e
        have := e.2
        rw [eq_comm, List.append_eq_nil_iff] at this
        exact absurd this.2 hY
    subst hT
    refine (byte_none g d w HR).mono ?_
    rintro e w' ⟨rfl, hw⟩
    exact ⟨0, 3, [], rfl, by omega, hw, .inr ⟨rfl, hc⟩⟩
theorem fcount (g d N : Nat) (most : Int) (T E rest : List Nat) (cut : Bool) (w : World) (HR : Hid (Rd w g d T 0)) (hl : T.length ≤ 1099511627776) (hN : (N : Int) ≤ most) (hm : most ≤ 9223372036854775807) (h : Fd T (numB N ++ E) rest cut) :
    Calls Try.prog 32 #[.pointer (some ⟨g, 0, none⟩), .int .i64 most] w fun e w' => ∃ (z f : Int) (T' : List Nat), e = .returned (.int .i64 z) ∧ Fed w w' g d f T T' E rest cut (z = N) := by
  rcases h.step with ⟨T', rfl, h'⟩ | ⟨hc, Y, hY, e⟩
  · refine (count_hit g d N _ most _ T' w HR hl (Lib.hid rfl) (by omega) hN hm (Lib.hid rfl)).mono ?_
    rintro e w' ⟨rfl, hw⟩
    exact ⟨N, 0, T', rfl, hw, .inl ⟨rfl, rfl, h'⟩⟩
  · refine (count_none g d most T w HR hl (Lib.hid (numB_goes e hY)) (by omega) hm).mono ?_
    rintro e w' ⟨rfl, hw⟩
    exact ⟨0, 3, T, rfl, hw, .inr ⟨rfl, hc⟩⟩
theorem fwhole (g d : Nat) (n : Int) (T E rest : List Nat) (cut : Bool) (w : World) (HR : Hid (Rd w g d T 0)) (hl : T.length ≤ 1099511627776) (h0 : -9223372036854775808 ≤ n) (h1 : n ≤ 9223372036854775807) (h : Fd T (numB (zig n) ++ E) rest cut) :
    Calls Try.prog 52 #[.pointer (some ⟨g, 0, none⟩)] w fun e w' => ∃ (z f : Int) (T' : List Nat), e = .returned (.int .i64 z) ∧ Fed w w' g d f T T' E rest cut (z = n) := by
  rcases h.step with ⟨T', rfl, h'⟩ | ⟨hc, Y, hY, e⟩
  · refine (whole_hit g d (zig n) _ _ T' w HR hl (Lib.hid rfl) (zig_lt h0 h1) (Lib.hid rfl)).mono ?_
    rintro e w' ⟨rfl, hw⟩
    rw [zag_zig]
    exact ⟨n, 0, T', rfl, hw, .inl ⟨rfl, rfl, h'⟩⟩
  · refine (whole_none g d T w HR hl (Lib.hid (numB_goes e hY))).mono ?_
    rintro e w' ⟨⟨z, rfl⟩, hw⟩
    exact ⟨z, 3, T, rfl, hw, .inr ⟨rfl, hc⟩⟩
theorem fsized (M : Nat) (hM : M ≤ 1000000) (g d : Nat) (ds T E rest : List Nat) (cut : Bool) (w : World) (HR : Hid (Rd w g d T 0)) (hl : T.length ≤ 1099511627776) (hm : ds.length ≤ M) (h : Fd T (numB ds.length ++ ds ++ E) rest cut) :
    Calls Try.prog 35 #[.pointer (some ⟨g, 0, none⟩), .int .i64 (M : Int)] w fun e w' => ∃ (p : Option Addr) (n c : Nat) (ys : List Nat) (f : Int) (T' : List Nat), e = .returned (.slice p n c) ∧ Bys w' p n ys ∧ n ≤ M ∧ Fed w w' g d f T T' E rest cut (ys = ds) := by
  rw [List.append_assoc] at h
  rcases h.step with ⟨T', rfl, h'⟩ | ⟨hc, Y, hY, e⟩
  · rcases h'.step with ⟨T2, rfl, h2⟩ | ⟨hc, Y, hY, e⟩
    · refine (sized_hit M hM g d _ _ ds T2 w HR hl (Lib.hid rfl) hm (Lib.hid rfl)).mono ?_
      rintro e w' ⟨⟨v, rfl, p, c, rfl, hB⟩, hw⟩
      exact ⟨p, ds.length, c, ds, 0, T2, rfl, hB, hm, hw, .inl ⟨rfl, rfl, h2⟩⟩
    · refine (sized_cut M hM g d ds.length _ _ T' w HR hl (Lib.hid rfl) hm (by have := congrArg List.length e; rw [List.length_append] at this; have := List.length_pos_iff.2 hY; omega) (Lib.hid rfl)).mono ?_
      rintro e w' ⟨rfl, hw⟩
      exact ⟨none, 0, 0, [], 3, _, rfl, Bys.zero _ _, by omega, hw, .inr ⟨rfl, hc⟩⟩
  · refine (sized_none M hM g d T w HR hl (Lib.hid (numB_goes e hY))).mono ?_
    rintro e w' ⟨rfl, hw⟩
    exact ⟨none, 0, 0, [], 3, _, rfl, Bys.zero _ _, by omega, hw, .inr ⟨rfl, hc⟩⟩
end Go.Proofs.Ytpdihgmgcamgkaa
