/- A page behind some steps, and the document's slots. -/
import Derived.Test.YtldkmkgkllgckaaDoorStep2
set_option linter.unusedSimpArgs false
namespace Go.Proofs.YtldkmkgkllgckaaDoor
open Go.RowKit

section
variable {w : World} {g : Nat} {F : List Nat} {x : Value} {l : List Sl}
set_option maxHeartbeats 800000 in
theorem step_none (hP : Pg w g F l) (hx : Rf w x l) (o : Opv) (h0 : o.kind ≠ 0) (h1 : o.kind ≠ 1) (h2 : o.kind ≠ 2) : Calls Tryd.prog 25 #[.pointer (some ⟨g, 0, none⟩), x, o.val] w (Ends w g F l) := by
  have HB0 : Hid (Below w.heap.size w (w.alloc (.cells #[.int .i64 o.kind, .int .i64 o.i, .int .i64 o.long, .int .u8 (o.fill : Int)] 35))) := Lib.hid ((Below.refl _ _).alloc (Nat.le_refl _) _)
  have a0 := World.cell?_alloc_new w #[.int .i64 o.kind, .int .i64 o.i, .int .i64 o.long, .int .u8 (o.fill : Int)] 35 0
  have HP := Lib.hid hP
  have HX := Lib.hid hx
  show Calls Tryd.prog 25 #[.pointer (some ⟨g, 0, none⟩), x, .agg #[.int .i64 o.kind, .int .i64 o.i, .int .i64 o.long, .int .u8 (o.fill : Int)]] w _
  have e0 : (o.kind == 0) = false := by simpa using h0
  have e1 : (o.kind == 1) = false := by simpa using h1
  have e2 : (o.kind == 2) = false := by simpa using h2
  clear hP hx h0 h1 h2
  generalize o.kind = kind at *
  generalize o.i = i at *
  generalize o.long = long at *
  generalize o.fill = y at *
  go_enter Tryd.func25, Tryd.ntmps25
  go_wp2_with fail
  go_ret2
  exact ⟨_, F, rfl, HP.out.below HB0.out, HX.out.below HB0.out, Chg.of_below HB0.out⟩
theorem step_any (hP : Pg w g F l) (hx : Rf w x l) (o : Opv) (hO : OpB o) : Calls Tryd.prog 25 #[.pointer (some ⟨g, 0, none⟩), x, o.val] w (Ends w g F (opM l o)) := by
  unfold opM
  by_cases h0 : o.kind = 0
  · rw [if_pos h0]; exact step_add hP hx o hO h0
  · rw [if_neg h0]
    by_cases h1 : o.kind = 1
    · rw [if_pos h1]; exact step_put hP hx o hO h1
    · rw [if_neg h1]
      by_cases h2 : o.kind = 2
      · rw [if_pos h2]; exact step_drop hP hx o hO h2
      · rw [if_neg h2]; exact step_none hP hx o h0 h1 h2
end
/-- A step as it lies in a row of steps. -/
structure OpAt (w : World) (b o : Nat) (x : Opv) : Prop where
  c0 : w.cell? ⟨b, o, none⟩ = some (.int .i64 x.kind)
  c1 : w.cell? ⟨b, o + 1, none⟩ = some (.int .i64 x.i)
  c2 : w.cell? ⟨b, o + 2, none⟩ = some (.int .i64 x.long)
  c3 : w.cell? ⟨b, o + 3, none⟩ = some (.int .u8 (x.fill : Int))
  ok : OpB x
theorem OpAt.below {w w' : World} {b o : Nat} {x : Opv} (h : OpAt w b o x) (hb : Below w.heap.size w w') : OpAt w' b o x :=
  ⟨(hb.cell (World.block_lt_of_cell? w _ h.c0)).trans h.c0, (hb.cell (World.block_lt_of_cell? w _ h.c1)).trans h.c1, (hb.cell (World.block_lt_of_cell? w _ h.c2)).trans h.c2, (hb.cell (World.block_lt_of_cell? w _ h.c3)).trans h.c3, h.ok⟩
/-- A slice of steps. -/
def Ops (w : World) (p : Option Addr) (n : Nat) (f : Nat → Opv) : Prop := 0 < n → ∃ b o, p = some ⟨b, o, none⟩ ∧ ∀ i, i < n → OpAt w b (o + i * 4) (f i)
theorem Ops.below {w w' : World} {p : Option Addr} {n : Nat} {f : Nat → Opv} (h : Ops w p n f) (hb : Below w.heap.size w w') : Ops w' p n f := fun hn => by
  obtain ⟨b, o, e, hc⟩ := h hn
  exact ⟨b, o, e, fun i hi => (hc i hi).below hb⟩
/-- The slots behind so many steps. -/
def runM (f : Nat → Opv) : Nat → List Sl
  | 0 => []
  | k + 1 => opM (runM f k) (f k)
theorem runM_ok (f : Nat → Opv) (k : Nat) : Okp (runM f k) := by
  induction k with
  | zero => exact Okp.nil_
  | succ k ih => exact ih.op _
/-- Amid the loop. -/
structure Md (w wr : World) (g : Nat) (x : Value) (l : List Sl) : Prop where
  pg : ∃ F, Pg wr g F l ∧ ∀ k ∈ F, w.heap.size ≤ k
  ref : Rf wr x l
  below : Below w.heap.size w wr
theorem Md.next {w wr w' : World} {g : Nat} {F F' : List Nat} {y : Value} {l l' : List Sl} (hb : Below w.heap.size w wr) (_hP : Pg wr g F l) (hF : ∀ k ∈ F, w.heap.size ≤ k) (hP2 : Pg w' g F' l') (hR : Rf w' y l') (hc : Chg F F' wr w') : Md w w' g y l' :=
  ⟨⟨F', hP2, hc.high hb.size hF⟩, hR, hc.below hb hb.size hF⟩
set_option maxHeartbeats 1600000 in
theorem made_any (p : Option Addr) (n c : Nat) (f : Nat → Opv) (w : World) (hn : n ≤ 9223372036854775807) (hO : Ops w p n f) :
    Calls Tryd.prog 10 #[.slice p n c] w fun e w' => (∃ g x, e = .returned (.tuple #[.pointer (some ⟨g, 0, none⟩), x, .bool true]) ∧ Md w w' g x (runM f (min n 80))) := by
  have HO := Lib.hid hO
  clear hO
  go_enter Tryd.func10, Tryd.ntmps10
  go_wp2_with fail
  refine (new_any w).mono ?_
  rintro e w1 ⟨g, F, rfl, hP, hF, hg, hb⟩
  have H0 : Hid (Md w w1 g (.slice none 0 0) (runM f 0)) := Lib.hid ⟨⟨F, hP, hF⟩, Rf.nil_ w1, hb⟩
  clear hP hF hb
  go_wp2_with fail
  go_loopw [6, 7, 8] (fun rv xv iv wr => ∃ i : Nat, i ≤ min n 80 ∧ rv = .bool true ∧ iv = .int .i64 (i : Int) ∧ Hid (Md w wr g xv (runM f i))) (fun _ _ iv _ => n - (intOf iv).toNat)
  case atStart => exact ⟨0, Nat.zero_le _, rfl, by go_num, H0⟩
  case round =>
    obtain ⟨i, hi, rfl, rfl, hr⟩ := hrel
    clear H0
    by_cases hlt : i < n
    · have hd : decide ((i : Int) < (n : Int)) = true := by simp; omega
      have hin : (i : Int) < (n : Int) := by omega
      by_cases h80 : i < 80
      · have hd2 : decide ((i : Int) < 80) = true := by simp; omega
        obtain ⟨b, o, rfl, hc⟩ := HO.out (by omega)
        obtain ⟨⟨F1, hP1, hF1⟩, hR1, hB1⟩ := hr.out
        have hop := (hc i hlt).below hB1
        have a0 := hop.c0
        have a1 := hop.c1
        have a2 := hop.c2
        have a3 := hop.c3
        have HST := Lib.hid (step_any hP1 hR1 (f i) hop.ok)
        have HP1 := Lib.hid hP1
        have HF1 := Lib.hid hF1
        have HB1 := Lib.hid hB1
        clear hP1 hF1 hR1 hB1 hop hc
        have HV : Hid ((f i).val = .agg #[.int .i64 (f i).kind, .int .i64 (f i).i, .int .i64 (f i).long, .int .u8 ((f i).fill : Int)]) := Lib.hid rfl
        rw [HV.out] at HST
        go_wp2_with (go_at_call 25; refine HST.out.mono ?_; rintro e w3 ⟨y, F', rfl, hP3, hR3, hc3⟩; have HM : Hid (Md w w3 g y (runM f (i + 1))) := Lib.hid (Md.next HB1.out HP1.out HF1.out hP3 hR3 hc3); clear hP3 hR3 hc3)
        go_roundw
        case rel => exact ⟨i + 1, by omega, rfl, by go_num, HM⟩
        case measure => simp [intOf]; omega
      · have hd2 : decide ((i : Int) < 80) = false := by simp; omega
        have he : i = min n 80 := by omega
        have HE := Lib.hid he
        clear he
        go_wp2_with fail
        go_ret3
        exact ⟨g, u7, rfl, by rw [← HE.out]; exact hr.out⟩
    · have hd : decide ((i : Int) < (n : Int)) = false := by simp; omega
      have he : i = min n 80 := by omega
      have HE := Lib.hid he
      clear he
      go_wp2_with fail
      go_ret3
      exact ⟨g, u7, rfl, by rw [← HE.out]; exact hr.out⟩
end Go.Proofs.YtldkmkgkllgckaaDoor
