/- A step of the law, on both. -/
import Derived.Test.YtldkmkgkllgckaaDoorAlike
import Derived.Test.YtldkmkgkllgckaaDoorRef3
import Derived.Deep.RegionHeld3
set_option linter.unusedSimpArgs false
namespace Go.Proofs.YtldkmkgkllgckaaDoor
open Go.RowKit

/-- What a step makes of the slots. -/
def opM (l : List Sl) (o : Opv) : List Sl :=
  if o.kind = 0 then addL l (recS o) else if o.kind = 1 then putL l o.i (recS o) else if o.kind = 2 then dropL l o.i else l
theorem Okp.op {l : List Sl} (h : Okp l) (o : Opv) : Okp (opM l o) := by
  unfold opM
  split
  · exact h.add _
  · split
    · exact h.put _ _
    · split
      · exact h.drop _
      · exact h
/-- The step's own box. -/
structure Sb (w : World) (b : Nat) (o : Opv) : Prop where
  hd : w.heap[b]? = some (.cells #[.int .i64 o.kind, .int .i64 o.i, .int .i64 o.long, .int .u8 (o.fill : Int)] 35 (0, 0))
section
variable {w : World} {b : Nat} {o : Opv}
theorem Sb.c0 (h : Sb w b o) : w.cell? ⟨b, 0, none⟩ = some (.int .i64 o.kind) := by rw [cell_of_row w b 0 _ _ _ h.hd]; rfl
theorem Sb.c1 (h : Sb w b o) : w.cell? ⟨b, 1, none⟩ = some (.int .i64 o.i) := by rw [cell_of_row w b 1 _ _ _ h.hd]; rfl
theorem Sb.c2 (h : Sb w b o) : w.cell? ⟨b, 2, none⟩ = some (.int .i64 o.long) := by rw [cell_of_row w b 2 _ _ _ h.hd]; rfl
theorem Sb.c3 (h : Sb w b o) : w.cell? ⟨b, 3, none⟩ = some (.int .u8 (o.fill : Int)) := by rw [cell_of_row w b 3 _ _ _ h.hd]; rfl
theorem Sb.below {w' : World} (h : Sb w b o) (hb : Below w.heap.size w w') : Sb w' b o := ⟨(hb.block b (lt_of_block h.hd)).trans h.hd⟩
theorem Sb.chg {w' : World} {F F' : List Nat} (h : Sb w b o) (hc : Chg F F' w w') (hT : Typed w F) : Sb w' b o := ⟨hc.keep hT h.hd (by decide)⟩
end
/-- What a step leaves. -/
def Ends (w : World) (g : Nat) (F : List Nat) (l : List Sl) (e : Ending) (w' : World) : Prop := ∃ y F', e = .returned (.tuple #[y, .bool true]) ∧ Pg w' g F' l ∧ Rf w' y l ∧ Chg F F' w w'
section
variable {w : World} {g : Nat} {F : List Nat} {x : Value} {l : List Sl}
set_option maxRecDepth 20000 in
set_option maxHeartbeats 1600000 in
theorem step_add (hP : Pg w g F l) (hx : Rf w x l) (o : Opv) (hO : OpB o) (hk : o.kind = 0) : Calls Tryd.prog 25 #[.pointer (some ⟨g, 0, none⟩), x, o.val] w (Ends w g F (addL l (recS o))) := by
  have HB0 : Hid (Below w.heap.size w (w.alloc (.cells #[.int .i64 o.kind, .int .i64 o.i, .int .i64 o.long, .int .u8 (o.fill : Int)] 35))) := Lib.hid ((Below.refl _ _).alloc (Nat.le_refl _) _)
  have HS0 : Hid (Sb (w.alloc (.cells #[.int .i64 o.kind, .int .i64 o.i, .int .i64 o.long, .int .u8 (o.fill : Int)] 35)) w.heap.size o) := Lib.hid ⟨heap_alloc_new w _⟩
  have HP := Lib.hid hP
  have HX := Lib.hid hx
  have HRC : Hid (∀ w1, Calls Tryd.prog 12 #[.agg #[.int .i64 o.kind, .int .i64 o.i, .int .i64 o.long, .int .u8 (o.fill : Int)]] w1 fun e w' => e = .returned (.string (recS o)) ∧ Below w1.heap.size w1 w') := Lib.hid (fun w1 => rec_any o w1 hO)
  have hsz := recS_le o
  show Calls Tryd.prog 25 #[.pointer (some ⟨g, 0, none⟩), x, .agg #[.int .i64 o.kind, .int .i64 o.i, .int .i64 o.long, .int .u8 (o.fill : Int)]] w _
  obtain ⟨kind, i, long, y⟩ := o
  obtain rfl : kind = 0 := hk
  simp only at HB0 HS0 HRC hsz ⊢
  obtain ⟨hk1, hk2, hk3, hk4⟩ := hO
  clear hP hx hk1 hk2 hk3 hk4
  have HOKP := Lib.hid HP.out.ok
  generalize hrr : recS { kind := 0, i := i, long := long, fill := y } = r at *
  clear hrr
  obtain ⟨q, c, rfl⟩ := HX.out.form
  go_enter Tryd.func25, Tryd.ntmps25
  go_upto_region 1 with fail
  generalize w.alloc (.cells #[.int .i64 0, .int .i64 i, .int .i64 long, .int .u8 (y : Int)] 35) = w0 at *
  have a0 := HS0.out.c0
  have a1 := HS0.out.c1
  have a2 := HS0.out.c2
  have a3 := HS0.out.c3
  go_wp2_with fail
  refine (HRC.out _).mono ?_
  rintro e w1 ⟨rfl, hb⟩
  have HB1 := Lib.hid (HB0.out.trans (hb.mono HB0.out.size))
  have HS1 := Lib.hid (HS0.out.below hb)
  clear hb a0 a1 a2 a3
  go_wp2_with fail
  refine (radd_any (HX.out.below HB1.out) HOKP.out r (by omega)).mono ?_
  rintro e w2 ⟨⟨v', rfl, hm⟩, hb⟩
  have HB2 := Lib.hid (HB1.out.trans (hb.mono HB1.out.size))
  have HS2 := Lib.hid (HS1.out.below hb)
  have HM := Lib.hid hm
  clear hb hm HB1 HS1
  have a0 := HS2.out.c0
  have a1 := HS2.out.c1
  have a2 := HS2.out.c2
  have a3 := HS2.out.c3
  go_wp2_with fail
  refine (HRC.out _).mono ?_
  rintro e w3 ⟨rfl, hb⟩
  have HB3 := Lib.hid (HB2.out.trans (hb.mono HB2.out.size))
  have HM3 := Lib.hid (HM.out.below hb)
  clear hb a0 a1 a2 a3
  obtain ⟨v, hP0, hF⟩ := HP.out.below HB3.out
  have HF := Lib.hid hF
  have HT := Lib.hid hP0.typed
  have HA := Lib.hid (add_any hP0 r (by omega))
  clear hP0 hF
  go_wp2_with fail
  refine HA.out.mono ?_
  rintro e w4 ⟨rfl, F2, hP2, hc⟩
  have HP2 := Lib.hid hP2
  have HC := Lib.hid hc
  have hmm := HM3.out.chg hc HT.out
  have HMM := Lib.hid hmm
  clear hP2 hc hmm HM HM3
  have e1 : (((addN l r : Nat) : Int) == ((addN l r : Nat) : Int)) = true := by simp
  have e2 : (((addE l r : Nat) : Int) == ((addE l r : Nat) : Int)) = true := by simp
  go_wp2_with fail
  go_ret2
  exact ⟨_, F2, rfl, HP2.out, HMM.out, by rw [HF.out]; exact (Chg.of_below HB3.out).trans HC.out⟩
end
end Go.Proofs.YtldkmkgkllgckaaDoor
