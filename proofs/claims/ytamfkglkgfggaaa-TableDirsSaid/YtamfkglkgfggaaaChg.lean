/- Which leaves of two tables differ. -/
import Derived.Test.YtamfkglkgfggaaaLeaf
set_option linter.unusedSimpArgs false
namespace Go.Proofs.Ytamfkglkgfggaaa
open Go.RowKit

/-- Does a leaf differ? -/
def difB (f k : Nat → Nat) : Nat → Bool := fun i => !sameN (leafF f i) (leafF k i) 128
def ivs (l : List Nat) : List Value := l.map fun (x : Nat) => Value.int .i64 (x : Int)
theorem ivs_len (l : List Nat) : (ivs l).length = l.length := by simp [ivs]
theorem Try.info3 : (Try.prog.info? 3).map (fun i => (i.zero, i.size, i.bytes)) = some (some (.int .i64 0), 1, 8) := by kernel_rfl
theorem load_mid {w : World} {g o t : Nat} {X : List Value} {d : TypeDesc} (hr : w.rangeAt g o X) (hu : Try.prog.underlying t = some d) (hd : d.isRow = true) (hi : (Try.prog.info? t).map (·.size) = some X.length) :
    (Instr.loadAt t (.pointer (some ⟨g, o, none⟩))).run Try.prog w = .ok (.agg X.toArray) w := run_loadAt_mid w g o t X d hr hu hd hi
theorem vslice {w : World} {base E n : Nat} {v : Value} {xs : List Value} (h : w.ownsRow base E 1 v n xs) : ∃ p c, v = .slice p n c := by
  rcases h.2 with ⟨h0, h1⟩ | ⟨g, cap, cur, e, _⟩
  · exact ⟨none, 0, by rw [h0, h1]⟩
  · exact ⟨_, _, e⟩
theorem own_base {w : World} {B B' E m n : Nat} {v : Value} {xs : List Value} (h : w.ownsRow B E m v n xs) (hB : B' ≤ B) : w.ownsRow B' E m v n xs := by
  refine ⟨h.1, ?_⟩
  rcases h.2 with h2 | ⟨g, cap, cur, e, hb, hr⟩
  · exact .inl h2
  · exact .inr ⟨g, cap, cur, e, Nat.le_trans hB hb, hr⟩
theorem wpQuiet_load_mid {P : Program} {ops : Array Oper} {C : World → Prop} {Q : Act → Prop} {a : Act} {op : Oper} {rest : List Oper} (hw : Region.wanted op (yielded ops a.tmps) = true) (ty : TypeId) (x : Operand) (ho : op.op = .load ty x)
    (b o : Nat) (hx : a.eval x = .pointer (some ⟨b, o, none⟩)) (cs : List Value) (d : TypeDesc) (hc : ∀ w, C w → w.rangeAt b o cs) (hu : P.underlying ty = some d) (hd : d.isRow = true) (hi : (P.info? ty).map (·.size) = some cs.length)
    (h : wpQuiet P ops C Q rest (a.put op.dst (.agg cs.toArray))) : wpQuiet P ops C Q (op :: rest) a :=
  BigFrame.wpQuiet_want hw fun K hK => ⟨.agg cs.toArray, fun w hw' => by
    unfold Oper.quietAt execOp
    simp only [ho, hx, Instr.loadAt, Instr.sureAddr, Sem.run_bind, Sem.run_pure, Result.andThen_ok, run_loadVar_mid w b o ty cs d (hc w hw') hu hd hi]
    exact ⟨rfl, rfl⟩, hK _ h⟩
set_option maxRecDepth 100000 in
set_option maxHeartbeats 3200000 in
theorem chg_all {w : World} {g : Nat} {f k : Nat → Nat} (h : Tab w g f) (q : Option Addr) (ho : (∃ o, q = some ⟨o, 0, none⟩ ∧ Tab w o k) ∨ (q = none ∧ k = fun _ => 0)) :
    Calls Try.prog 18 #[.pointer (some ⟨g, 0, none⟩), .pointer q] w fun e w' => (∃ v, e = .returned v ∧ w'.ownsRow w.heap.size 3 1 v (mems (difB f k) 4).length (ivs (mems (difB f k) 4))) ∧ Below w.heap.size w w' := by
  obtain ⟨i0, hi, hz0, hz1, hz2⟩ := info_parts Try.info3
  have H := Lib.hid h
  have HO := Lib.hid ho
  have HNIL : ∀ (B : Nat) (W : World), Hid (W.ownsRow B 3 1 (.slice none 0 0) 0 (ivs [])) := fun B W => Lib.hid (World.ownsRow_nil _ _ _ _)
  clear h ho
  have hq : ∀ w, (binOp .eql 23 (.pointer q) (.pointer none)).run Try.prog w = .ok (.bool q.isNone) w := fun w => by
    have hu := Try.underlying23
    cases q <;> simp [go_sem, Op.equal, Op.maxDepth, Op.equalIn, run_underlying hu]
  go_enter Try.func18, Try.ntmps18
  go_upto_if 10 with fail
  go_cut [1] (fun v wx => ∃ o, v = .pointer (some ⟨o, 0, none⟩) ∧ Tab wx o k ∧ Below w.heap.size w wx)
  case first =>
    rcases HO.out with ⟨o, rfl, hO⟩ | ⟨rfl, hk⟩
    · have HOO := Lib.hid hO
      clear hO
      go_wp2_with fail
      go_meet
      exact ⟨o, rfl, HOO.out, Below.refl _ _⟩
    · go_wp2_with (go_at_call 17; refine (new_any w).mono ?_; rintro e w7 ⟨rfl, hT, hb⟩)
      go_meet
      exact ⟨_, rfl, by rw [hk]; exact hT, hb⟩
  case rest =>
    obtain ⟨o, rfl, hO, hb0⟩ := hcut
    have HOO := Lib.hid hO
    have HB0 := Lib.hid hb0
    clear hO hb0 HO
    go_wp2_with fail
    go_loopw [12, 5] (fun iv dv wr => ∃ i : Nat, i ≤ 4 ∧ iv = .int .i64 (i : Int) ∧ wr.ownsRow wc.heap.size 3 1 dv (mems (difB f k) i).length (ivs (mems (difB f k) i)) ∧ Below wc.heap.size wc wr) (fun iv _ _ => 4 - (intOf iv).toNat)
    case atStart => exact ⟨0, Nat.zero_le _, by go_num, (HNIL _ _).out, Below.refl _ _⟩
    case round =>
      obtain ⟨i, hi1, rfl, hown, hbel⟩ := hrel
      have HOW := Lib.hid hown
      have HF := Lib.hid ((H.out.below HB0.out).below hbel)
      have HK := Lib.hid (HOO.out.below hbel)
      have HB := Lib.hid hbel
      have HI := Lib.hid hi1
      clear hown hbel hi1
      by_cases hlt : i < 4
      · have HL1 : Hid (∀ w', (∃ s : In wr, w' = s.1) → w'.rangeAt g (i * 128) (ints f (i * 128) 128)) := Lib.hid fun w' ⟨s, hs⟩ => by
          subst hs; exact (HF.out.row.below s.2).range (i * 128) 128 (by omega)
        have HL2 : Hid (∀ w', (∃ s : In wr, w' = s.1) → w'.rangeAt o (i * 128) (ints k (i * 128) 128)) := Lib.hid fun w' ⟨s, hs⟩ => by
          subst hs; exact (HK.out.row.below s.2).range (i * 128) 128 (by omega)
        have HS1 : Hid ((Try.prog.info? 81).map (·.size) = some (ints f (i * 128) 128).length) := Lib.hid (by rw [size81, ints_len])
        have HS2 : Hid ((Try.prog.info? 81).map (·.size) = some (ints k (i * 128) 128).length) := Lib.hid (by rw [size81, ints_len])
        have hee : ∀ w, (binOp .neq 81 (.agg (ints f (i * 128) 128).toArray) (.agg (ints k (i * 128) 128).toArray)).run Try.prog w = .ok (.bool (difB f k i)) w := fun w => by
          rw [ne_row 81 128 Try.underlying81]
          unfold difB leafF
          rw [Nat.mul_comm 128 i]
        have hg := guard81
        have hd : decide ((i : Int) < 4) = true := decide_eq_true (by omega)
        have hiz : (i : Int) < 4 := by omega
        have HL := Lib.hid hlt
        generalize ints f (i * 128) 128 = X at *
        generalize ints k (i * 128) 128 = Y at *
        cases hdf : difB f k i with
        | true =>
          have HM : Hid (mems (difB f k) (i + 1) = mems (difB f k) i ++ [i]) := Lib.hid (mems_hit hdf)
          have HLN : Hid ((mems (difB f k) i).length ≤ i) := Lib.hid (mems_len _ _)
          rw [hdf] at hee
          clear hdf
          have hne := In.some wr
          go_upto_region 9 with fail
          refine region_in wr (by kernel_rfl) (by kernel_rfl) (Below.refl _ _) ?_
          repeat (go_big_quiet_step (fail))
          refine wpQuiet_load_mid rfl 81 (.tmp 19) rfl g (i * 128) rfl X _ HL1.out Try.underlying81 rfl HS1.out ?_
          simp only [Act.put, List.setIfInBounds_toArray, List.set_cons_succ, List.set_cons_zero]
          repeat (go_big_quiet_step (fail))
          refine wpQuiet_load_mid rfl 81 (.tmp 25) rfl o (i * 128) rfl Y _ HL2.out Try.underlying81 rfl HS2.out ?_
          simp only [Act.put, List.setIfInBounds_toArray, List.set_cons_succ, List.set_cons_zero]
          repeat (go_big_quiet_step (fail))
          refine wpQuiet_nil ?_
          intro w12 hw'
          have hb12 : Below wr.heap.size wr w12 := by
            obtain ⟨⟨wz, hbz⟩, hw''⟩ := hw'
            subst hw''
            exact hbz
          clear hw' HL1 HL2 HS1 HS2
          have HOW2 := Lib.hid (own_below HOW.out hb12)
          have HB12 := Lib.hid hb12
          have HBW := Lib.hid (HB.out.trans (hb12.mono HB.out.size))
          clear hb12
          have HIV : Hid (ivs (mems (difB f k) (i + 1)) = ivs (mems (difB f k) i) ++ [.int .i64 (i : Int)] ∧ (mems (difB f k) (i + 1)).length = (mems (difB f k) i).length + 1) := Lib.hid ⟨by rw [HM.out]; unfold ivs; rw [List.map_append]; rfl, by rw [HM.out, List.length_append]; rfl⟩
          generalize (mems (difB f k) i).length = m at *
          generalize ivs (mems (difB f k) i) = ws at *
          go_wp2_with (at_builtin; refine wpList_append_own _ rfl _ _ 45 rfl wc.heap.size 3 i0 (.int .i64 0) 1 8 Try.underlying45 hi hz0 hz1 hz2 rfl (by decide) _ m _ rfl (World.ownsRow.alloc HOW2.out _) ⟨w12.heap.size, 0, none⟩ 1 1 [.int .i64 (i : Int)] rfl rfl (one_cells w12 _ _) ?c2 ?c3 ?c4 ?c5 ?_)
          case c2 => intro v hv; simp at hv; subst hv; rfl
          case c3 => unfold maxLen; have := HLN.out; have := HL.out; omega
          case c4 => have := HLN.out; have := HL.out; omega
          case c5 => have := HBW.out.size; simp; omega
          intro v' w1 hown hgrow hnil
          have HB1 := Lib.hid ((HBW.out.alloc HBW.out.size (.cells #[.int .i64 (i : Int)] 3)).grown hgrow (by have := HBW.out.size; simp; omega) (by intro k2 hk2; exact (World.ownsRow.lt HOW2.out k2 hk2).1))
          have hown2 : w1.ownsRow wc.heap.size 3 1 v' (mems (difB f k) (i + 1)).length (ivs (mems (difB f k) (i + 1))) := by rw [HIV.out.1, HIV.out.2]; exact hown
          clear hown hgrow hnil
          go_wp2_with fail
          go_roundw
          case rel => exact ⟨i + 1, by have := HL.out; omega, by go_num, hown2, HB1.out⟩
          case measure => have := HL.out; simp [intOf]; omega
        | false =>
          have HM : Hid (mems (difB f k) (i + 1) = mems (difB f k) i) := Lib.hid (mems_miss hdf)
          rw [hdf] at hee
          clear hdf
          have hne := In.some wr
          go_upto_region 9 with fail
          refine region_in wr (by kernel_rfl) (by kernel_rfl) (Below.refl _ _) ?_
          repeat (go_big_quiet_step (fail))
          refine wpQuiet_load_mid rfl 81 (.tmp 19) rfl g (i * 128) rfl X _ HL1.out Try.underlying81 rfl HS1.out ?_
          simp only [Act.put, List.setIfInBounds_toArray, List.set_cons_succ, List.set_cons_zero]
          repeat (go_big_quiet_step (fail))
          refine wpQuiet_load_mid rfl 81 (.tmp 25) rfl o (i * 128) rfl Y _ HL2.out Try.underlying81 rfl HS2.out ?_
          simp only [Act.put, List.setIfInBounds_toArray, List.set_cons_succ, List.set_cons_zero]
          repeat (go_big_quiet_step (fail))
          refine wpQuiet_nil ?_
          intro w12 hw'
          have hb12 : Below wr.heap.size wr w12 := by
            obtain ⟨⟨wz, hbz⟩, hw''⟩ := hw'
            subst hw''
            exact hbz
          clear hw' HL1 HL2 HS1 HS2
          have HOW2 := Lib.hid (own_below HOW.out hb12)
          have HB12 := Lib.hid hb12
          have HBW := Lib.hid (HB.out.trans (hb12.mono HB.out.size))
          clear hb12
          go_wp2_with fail
          go_roundw
          case rel => exact ⟨i + 1, by have := HL.out; omega, by go_num, by rw [HM.out]; exact HOW2.out, HBW.out⟩
          case measure => have := HL.out; simp [intOf]; omega
      · have hd : decide ((i : Int) < 4) = false := decide_eq_false (by omega)
        have HE : Hid (i = 4) := Lib.hid (by have := HI.out; omega)
        clear hlt
        go_wp2_with fail
        go_ret
        have h1 := HOW.out
        rw [HE.out] at h1
        exact ⟨⟨_, rfl, own_base h1 HB0.out.size⟩, HB0.out.trans (HB.out.mono HB0.out.size)⟩
end Go.Proofs.Ytamfkglkgfggaaa
