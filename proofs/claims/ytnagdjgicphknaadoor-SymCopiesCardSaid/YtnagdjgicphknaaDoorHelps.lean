/- The chapter's example; whether steps are light; whether a table has just these names. -/
import Derived.Test.YtnagdjgicphknaaDoorStep
import Derived.Deep.QuietTactic
import Derived.BigQuiet
set_option linter.unusedSimpArgs false
set_option maxRecDepth 20000
namespace Go.Proofs.YtnagdjgicphknaaDoor
open Go.RowKit

def car : ByteArray := ⟨#[99, 97, 114]⟩
def cdr : ByteArray := ⟨#[99, 100, 114]⟩
theorem car_facts : okB car = true ∧ okB cdr = true ∧ numM [] car = [car] ∧ numM [car] cdr = [car, cdr] ∧ numA [] car = 0 ∧ numA [car] cdr = 1 ∧ frA [car, cdr] car = 2 ∧ errA car = 0 ∧ errA cdr = 0 ∧ frM [car, cdr] car = [car, cdr, ⟨#[99, 97, 114, 37, 49]⟩] := by decide +kernel
theorem lives_any (w : World) : Calls Tryd.prog 8 #[] w fun e w' => e = .returned (.bool true) ∧ Below w.heap.size w w' := by
  obtain ⟨k1, k2, k3, k4, k5, k6, k7, k8, k9, k10⟩ := car_facts
  have HNew := Lib.hid (new_any w)
  have HA : Hid (∀ (w1 : World) g F, Tb w1 g F [] → Calls Tryd.prog 14 #[.pointer (some ⟨g, 0, none⟩), .string car] w1 fun e w' => e = .returned (.tuple #[.int .i64 0, .int .i64 0]) ∧ Went F g [car] w1 w') := Lib.hid (fun w1 g F h => by have := number_any h car (by decide); rwa [k3, k5, k8] at this)
  have HB : Hid (∀ (w1 : World) g F, Tb w1 g F [car] → Calls Tryd.prog 14 #[.pointer (some ⟨g, 0, none⟩), .string cdr] w1 fun e w' => e = .returned (.tuple #[.int .i64 1, .int .i64 0]) ∧ Went F g [car, cdr] w1 w') := Lib.hid (fun w1 g F h => by have := number_any h cdr (by decide); rwa [k4, k6, k9] at this)
  have HC : Hid (∀ (w1 : World) g F, Tb w1 g F [car, cdr] → Calls Tryd.prog 17 #[.pointer (some ⟨g, 0, none⟩), .string car] w1 fun e w' => e = .returned (.tuple #[.int .i64 2, .int .i64 0]) ∧ Went F g [car, cdr, ⟨#[99, 97, 114, 37, 49]⟩] w1 w') := Lib.hid (fun w1 g F h => by have := fresh_any h car (Room.few (by decide)); rwa [k7, k8, k10] at this)
  have HD : Hid (∀ (w1 : World) g F, Tb w1 g F [car, cdr, ⟨#[99, 97, 114, 37, 49]⟩] → Calls Tryd.prog 16 #[.pointer (some ⟨g, 0, none⟩), .int .i64 2] w1 fun e w' => e = .returned (.string ⟨#[99, 97, 114, 37, 49]⟩) ∧ w1 = w') := Lib.hid (fun w1 g F h => name_any h 2)
  clear k1 k2 k3 k4 k5 k6 k7 k8 k9 k10
  unfold car cdr at *
  go_enter Tryd.func8, Tryd.ntmps8
  go_wp2_with (refine HNew.out.mono ?_; rintro e w1 ⟨g, F, rfl, hT, hF, hb⟩)
  have HF := Lib.hid hF
  have HB0 := Lib.hid hb
  clear hF hb
  refine (HA.out _ _ _ hT).mono ?_
  rintro e w2 ⟨rfl, F2, hT2, hc2⟩
  go_wp2_with fail
  refine (HB.out _ _ _ hT2).mono ?_
  rintro e w3 ⟨rfl, F3, hT3, hc3⟩
  go_wp2_with fail
  refine (HC.out _ _ _ hT3).mono ?_
  rintro e w4 ⟨rfl, F4, hT4, hc4⟩
  have HBB : Hid (Below w.heap.size w w4) := Lib.hid (((hc2.trans hc3).trans hc4).below HB0.out HB0.out.size HF.out)
  clear hc2 hc3 hc4 hT hT2 hT3
  go_wp2_with (refine (HD.out _ _ _ hT4).mono ?_; rintro e w5 ⟨rfl, rfl⟩)
  go_ret
  exact ⟨rfl, HBB.out⟩
/-- A step as it lies in a row of steps. -/
structure OpAt (w : World) (b o : Nat) (x : Opv) : Prop where
  c0 : w.cell? ⟨b, o, none⟩ = some (.int .i64 x.kind)
  c1 : w.cell? ⟨b, o + 1, none⟩ = some (.string x.name)
theorem OpAt.below {w w' : World} {b o : Nat} {x : Opv} (h : OpAt w b o x) (hb : Below w.heap.size w w') : OpAt w' b o x :=
  ⟨(hb.cell (World.block_lt_of_cell? w _ h.c0)).trans h.c0, (hb.cell (World.block_lt_of_cell? w _ h.c1)).trans h.c1⟩
/-- A slice of steps. -/
def Ops (w : World) (p : Option Addr) (n : Nat) (f : Nat → Opv) : Prop := 0 < n → ∃ b o, p = some ⟨b, o, none⟩ ∧ ∀ i, i < n → OpAt w b (o + i * 2) (f i)
theorem Ops.below {w w' : World} {p : Option Addr} {n : Nat} {f : Nat → Opv} (h : Ops w p n f) (hb : Below w.heap.size w w') : Ops w' p n f := fun hn => by
  obtain ⟨b, o, e, hc⟩ := h hn
  exact ⟨b, o, e, fun i hi => (hc i hi).below hb⟩
/-- The names behind so many steps. -/
def runM (L : List ByteArray) (f : Nat → Opv) : Nat → List ByteArray
  | 0 => L
  | k + 1 => opM (runM L f k) (f k)
theorem runM_len (L : List ByteArray) (f : Nat → Opv) (k : Nat) : (runM L f k).length ≤ L.length + k := by
  induction k with
  | zero => exact Nat.le_refl _
  | succ k ih =>
    show (opM (runM L f k) (f k)).length ≤ _
    have := opM_len (runM L f k) (f k)
    omega
/-- Are the steps so few and short that they are gone through? -/
structure Lite (f : Nat → Opv) (n : Nat) : Prop where
  le : n ≤ 60
  sz : ∀ i, i < n → (f i).name.size ≤ 200
def LightR (f : Nat → Opv) (n : Nat) (w : World) (e : Ending) (w' : World) : Prop := (∃ b : Bool, e = .returned (.bool b) ∧ (b = true ↔ Lite f n)) ∧ w = w'
theorem light_any (p : Option Addr) (n c : Nat) (f : Nat → Opv) (w : World) (hO : Ops w p n f) : Calls Tryd.prog 7 #[.slice p n c] w (LightR f n w) := by
  have HO := Lib.hid hO
  clear hO
  by_cases h60 : 60 < n
  · have hd : decide ((60 : Int) < (n : Int)) = true := by simp; omega
    go_enter Tryd.func7, Tryd.ntmps7
    go_wp2_with fail
    go_ret
    exact ⟨⟨false, rfl, ⟨fun h => (by cases h), fun h => by have := h.le; omega⟩⟩, rfl⟩
  · have hd : decide ((60 : Int) < (n : Int)) = false := by simp; omega
    go_enter Tryd.func7, Tryd.ntmps7
    go_wp2_with fail
    go_loop [3] (fun iv => ∃ i : Nat, i ≤ n ∧ iv = .int .i64 (i : Int) ∧ Hid (∀ j, j < i → (f j).name.size ≤ 200)) (fun iv => n - (intOf iv).toNat)
    case atStart => exact ⟨0, by omega, by go_num, Lib.hid (fun j hj => absurd hj (Nat.not_lt_zero j))⟩
    case round =>
      obtain ⟨i, hi, rfl, HJ⟩ := hrel
      by_cases hlt : i < n
      · obtain ⟨b, o, rfl, hc⟩ := HO.out (by omega)
        obtain ⟨x0, x1⟩ := hc i hlt
        have hin : (i : Int) < (n : Int) := by omega
        obtain ⟨S, HS⟩ : ∃ S, Hid ((f i).name = S) := ⟨_, Lib.hid rfl⟩
        rw [HS.out] at x1
        obtain ⟨m, HM⟩ : ∃ m, Hid (S.size = m) := ⟨_, Lib.hid rfl⟩
        have hm := HM.out
        by_cases hs : 200 < m
        · have hd2 : decide ((200 : Int) < (m : Int)) = true := by simp; omega
          go_wp2_with fail
          go_ret
          exact ⟨⟨false, rfl, ⟨fun h => (by cases h), fun h => by have h1 := h.sz i hlt; rw [HS.out, HM.out] at h1; omega⟩⟩, rfl⟩
        · have hd2 : decide ((200 : Int) < (m : Int)) = false := by simp; omega
          go_wp2_with fail
          go_round
          case rel => exact ⟨i + 1, by omega, by go_num, Lib.hid (fun j hj => (Nat.lt_succ_iff_lt_or_eq.1 hj).elim (HJ.out j) (fun e => by rw [e, HS.out, HM.out]; omega))⟩
          case measure => simp [intOf]; omega
      · obtain rfl : i = n := by omega
        go_wp2_with fail
        go_ret
        exact ⟨⟨true, rfl, ⟨fun _ => ⟨by omega, HJ.out⟩, fun _ => rfl⟩⟩, rfl⟩
theorem light_yes {p : Option Addr} {n : Nat} (c : Nat) {f : Nat → Opv} {w : World} (hO : Ops w p n f) (hL : Lite f n) : Calls Tryd.prog 7 #[.slice p n c] w fun e w' => e = .returned (.bool true) ∧ w = w' :=
  (light_any p n c f w hO).mono fun e w' ⟨⟨b, he, hb⟩, hw⟩ => ⟨by rw [he, hb.2 hL], hw⟩
theorem light_no {p : Option Addr} {n : Nat} (c : Nat) {f : Nat → Opv} {w : World} (hO : Ops w p n f) (hL : ¬ Lite f n) : Calls Tryd.prog 7 #[.slice p n c] w fun e w' => e = .returned (.bool false) ∧ w = w' :=
  (light_any p n c f w hO).mono fun e w' ⟨⟨b, he, hb⟩, hw⟩ => ⟨by cases b with | false => exact he | true => exact absurd (hb.1 rfl) hL, hw⟩
end Go.Proofs.YtnagdjgicphknaaDoor
