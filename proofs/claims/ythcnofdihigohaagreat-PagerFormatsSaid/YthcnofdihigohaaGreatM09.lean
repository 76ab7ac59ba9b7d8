/- Texts TChg to TEnc of this seat, laid into one. -/
import Derived.Laws.CopyOwn
import Derived.Test.YthcnofdihigohaaGreatM02
import Derived.Test.YthcnofdihigohaaGreatM08
section
/- Which leaves of two tables differ. -/
set_option linter.unusedSimpArgs false
set_option maxRecDepth 20000
namespace Go.Proofs.YthcnofdihigohaaGreat.Tb
open Go.Proofs.YthcnofdihigohaaGreat.Bi
open Go.RowKit

/-- Does a leaf differ? -/
def difB (f k : Nat → Nat) : Nat → Bool := fun i => !sameN (leafF f i) (leafF k i) 128
def ivs (l : List Nat) : List Value := l.map fun (x : Nat) => Value.int .i64 (x : Int)
theorem ivs_len (l : List Nat) : (ivs l).length = l.length := by simp [ivs]
theorem Tryz.info3 : (Tryz.prog.info? 3).map (fun i => (i.zero, i.size, i.bytes)) = some (some (.int .i64 0), 1, 8) := by kernel_rfl
theorem load_mid {w : World} {g o t : Nat} {X : List Value} {d : TypeDesc} (hr : w.rangeAt g o X) (hu : Tryz.prog.underlying t = some d) (hd : d.isRow = true) (hi : (Tryz.prog.info? t).map (·.size) = some X.length) :
    (Instr.loadAt t (.pointer (some ⟨g, o, none⟩))).run Tryz.prog w = .ok (.agg X.toArray) w := run_loadAt_mid w g o t X d hr hu hd hi
theorem vslice {w : World} {base E n : Nat} {v : Value} {xs : List Value} (h : w.ownsRow base E 1 v n xs) : ∃ p c, v = .slice p n c := by
  rcases h.2 with ⟨h0, h1⟩ | ⟨g, cap, cur, e, _⟩
  · exact ⟨none, 0, by rw [h0, h1]⟩
  · exact ⟨_, _, e⟩
theorem own_base {w : World} {B B' E m n : Nat} {v : Value} {xs : List Value} (h : w.ownsRow B E m v n xs) (hB : B' ≤ B) : w.ownsRow B' E m v n xs := by
  refine ⟨h.1, ?_⟩
  rcases h.2 with h2 | ⟨g, cap, cur, e, hb, hr⟩
  · exact .inl h2
  · exact .inr ⟨g, cap, cur, e, Nat.le_trans hB hb, hr⟩
theorem wpQuiet_load_mid {P : Program} {ops : Array Oper} {C : World → Prop} {Q : Act → Prop} {a : Act} {op : Oper} {rest : List Oper} (hw : Region.wanted op (yielded ops a.tmps) = true) (ty : TypeId) (x : Operand) (ho : op.op = .load ty x)
    (b o : Nat) (hx : a.eval x = .pointer (some ⟨b, o, none⟩)) (cs : List Value) (d : TypeDesc) (hc : ∀ w, C w → w.rangeAt b o cs) (hu : P.underlying ty = some d) (hd : d.isRow = true) (hi : (P.info? ty).map (·.size) = some cs.length)
    (h : wpQuiet P ops C Q rest (a.put op.dst (.agg cs.toArray))) : wpQuiet P ops C Q (op :: rest) a :=
  BigFrame.wpQuiet_want hw fun K hK => ⟨.agg cs.toArray, fun w hw' => by
    unfold Oper.quietAt execOp
    simp only [ho, hx, Instr.loadAt, Instr.sureAddr, Sem.run_bind, Sem.run_pure, Result.andThen_ok, run_loadVar_mid w b o ty cs d (hc w hw') hu hd hi]
    exact ⟨rfl, rfl⟩, hK _ h⟩
set_option maxRecDepth 100000 in
set_option maxHeartbeats 3200000 in
theorem chg_all {w : World} {g : Nat} {f k : Nat → Nat} (h : Tab w g f) (q : Option Addr) (ho : (∃ o, q = some ⟨o, 0, none⟩ ∧ Tab w o k) ∨ (q = none ∧ k = fun _ => 0)) :
    Calls Tryz.prog 81 #[.pointer (some ⟨g, 0, none⟩), .pointer q] w fun e w' => (∃ v, e = .returned v ∧ w'.ownsRow w.heap.size 3 1 v (mems (difB f k) 4).length (ivs (mems (difB f k) 4))) ∧ Below w.heap.size w w' := by
  obtain ⟨i0, hi, hz0, hz1, hz2⟩ := info_parts Tryz.info3
  have H := Lib.hid h
  have HO := Lib.hid ho
  have HNIL : ∀ (B : Nat) (W : World), Hid (W.ownsRow B 3 1 (.slice none 0 0) 0 (ivs [])) := fun B W => Lib.hid (World.ownsRow_nil _ _ _ _)
  clear h ho
  have hq : ∀ w, (binOp .eql 79 (.pointer q) (.pointer none)).run Tryz.prog w = .ok (.bool q.isNone) w := fun w => by
    have hu := Tryz.underlying79
    cases q <;> simp [go_sem, Op.equal, Op.maxDepth, Op.equalIn, run_underlying hu]
  go_enter Tryz.func81, Tryz.ntmps81
  go_upto_if 10 with fail
  go_cut [1] (fun v wx => ∃ o, v = .pointer (some ⟨o, 0, none⟩) ∧ Tab wx o k ∧ Below w.heap.size w wx)
  case first =>
    rcases HO.out with ⟨o, rfl, hO⟩ | ⟨rfl, hk⟩
    · have HOO := Lib.hid hO
      clear hO
      go_wp2_with fail
      go_meet
      exact ⟨o, rfl, HOO.out, Below.refl _ _⟩
    · go_wp2_with (go_at_call 45; refine (new_any w).mono ?_; rintro e w7 ⟨rfl, hT, hb⟩)
      go_meet
      exact ⟨_, rfl, by rw [hk]; exact hT, hb⟩
  case rest =>
    obtain ⟨o, rfl, hO, hb0⟩ := hcut
    have HOO := Lib.hid hO
    have HB0 := Lib.hid hb0
    clear hO hb0 HO
    go_wp2_with fail
    go_loopw [12, 5] (fun iv dv wr => ∃ i : Nat, i ≤ 4 ∧ iv = .int .i64 (i : Int) ∧ wr.ownsRow wc.heap.size 3 1 dv (mems (difB f k) i).length (ivs (mems (difB f k) i)) ∧ Below wc.heap.size wc wr) (fun iv _ _ => 4 - (intOf iv).toNat)
    case atStart => exact ⟨0, Nat.zero_le _, by go_num, (HNIL _ _).out, Below.refl _ _⟩
    case round =>
      obtain ⟨i, hi1, rfl, hown, hbel⟩ := hrel
      have HOW := Lib.hid hown
      have HF := Lib.hid ((H.out.below HB0.out).below hbel)
      have HK := Lib.hid (HOO.out.below hbel)
      have HB := Lib.hid hbel
      have HI := Lib.hid hi1
      clear hown hbel hi1
      by_cases hlt : i < 4
      · have HL1 : Hid (∀ w', (∃ s : In wr, w' = s.1) → w'.rangeAt g (i * 128) (ints f (i * 128) 128)) := Lib.hid fun w' ⟨s, hs⟩ => by
          subst hs; exact (HF.out.row.below s.2).range (i * 128) 128 (by omega)
        have HL2 : Hid (∀ w', (∃ s : In wr, w' = s.1) → w'.rangeAt o (i * 128) (ints k (i * 128) 128)) := Lib.hid fun w' ⟨s, hs⟩ => by
          subst hs; exact (HK.out.row.below s.2).range (i * 128) 128 (by omega)
        have HS1 : Hid ((Tryz.prog.info? 127).map (·.size) = some (ints f (i * 128) 128).length) := Lib.hid (by rw [size127, ints_len])
        have HS2 : Hid ((Tryz.prog.info? 127).map (·.size) = some (ints k (i * 128) 128).length) := Lib.hid (by rw [size127, ints_len])
        have hee : ∀ w, (binOp .neq 127 (.agg (ints f (i * 128) 128).toArray) (.agg (ints k (i * 128) 128).toArray)).run Tryz.prog w = .ok (.bool (difB f k i)) w := fun w => by
          rw [ne_row 127 128 Tryz.underlying127]
          unfold difB leafF
          rw [Nat.mul_comm 128 i]
        have hg := guard81
        have hd : decide ((i : Int) < 4) = true := decide_eq_true (by omega)
        have hiz : (i : Int) < 4 := by omega
        have HL := Lib.hid hlt
        generalize ints f (i * 128) 128 = X at *
        generalize ints k (i * 128) 128 = Y at *
        cases hdf : difB f k i with
        | true =>
          have HM : Hid (mems (difB f k) (i + 1) = mems (difB f k) i ++ [i]) := Lib.hid (mems_hit hdf)
          have HLN : Hid ((mems (difB f k) i).length ≤ i) := Lib.hid (mems_len _ _)
          rw [hdf] at hee
          clear hdf
          have hne := In.some wr
          go_upto_region 9 with fail
          refine region_in wr (by kernel_rfl) (by kernel_rfl) (Below.refl _ _) ?_
          repeat (go_big_quiet_step (fail))
          refine wpQuiet_load_mid rfl 127 (.tmp 19) rfl g (i * 128) rfl X _ HL1.out Tryz.underlying127 rfl HS1.out ?_
          simp only [Act.put, List.setIfInBounds_toArray, List.set_cons_succ, List.set_cons_zero]
          repeat (go_big_quiet_step (fail))
          refine wpQuiet_load_mid rfl 127 (.tmp 25) rfl o (i * 128) rfl Y _ HL2.out Tryz.underlying127 rfl HS2.out ?_
          simp only [Act.put, List.setIfInBounds_toArray, List.set_cons_succ, List.set_cons_zero]
          repeat (go_big_quiet_step (fail))
          refine wpQuiet_nil ?_
          intro w12 hw'
          have hb12 : Below wr.heap.size wr w12 := by
            obtain ⟨⟨wz, hbz⟩, hw''⟩ := hw'
            subst hw''
            exact hbz
          clear hw' HL1 HL2 HS1 HS2
          have HOW2 := Lib.hid (own_below HOW.out hb12)
          have HB12 := Lib.hid hb12
          have HBW := Lib.hid (HB.out.trans (hb12.mono HB.out.size))
          clear hb12
          have HIV : Hid (ivs (mems (difB f k) (i + 1)) = ivs (mems (difB f k) i) ++ [.int .i64 (i : Int)] ∧ (mems (difB f k) (i + 1)).length = (mems (difB f k) i).length + 1) := Lib.hid ⟨by rw [HM.out]; unfold ivs; rw [List.map_append]; rfl, by rw [HM.out, List.length_append]; rfl⟩
          generalize (mems (difB f k) i).length = m at *
          generalize ivs (mems (difB f k) i) = ws at *
          go_wp2_with (at_builtin; refine wpList_append_own _ rfl _ _ 62 rfl wc.heap.size 3 i0 (.int .i64 0) 1 8 Tryz.underlying62 hi hz0 hz1 hz2 rfl (by decide) _ m _ rfl (World.ownsRow.alloc HOW2.out _) ⟨w12.heap.size, 0, none⟩ 1 1 [.int .i64 (i : Int)] rfl rfl (one_cells w12 _ _) ?c2 ?c3 ?c4 ?c5 ?_)
          case c2 => intro v hv; simp at hv; subst hv; rfl
          case c3 => unfold maxLen; have := HLN.out; have := HL.out; omega
          case c4 => have := HLN.out; have := HL.out; omega
          case c5 => have := HBW.out.size; simp; omega
          intro v' w1 hown hgrow hnil
          have HB1 := Lib.hid ((HBW.out.alloc HBW.out.size (.cells #[.int .i64 (i : Int)] 3)).grown hgrow (by have := HBW.out.size; simp; omega) (by intro k2 hk2; exact (World.ownsRow.lt HOW2.out k2 hk2).1))
          have hown2 : w1.ownsRow wc.heap.size 3 1 v' (mems (difB f k) (i + 1)).length (ivs (mems (difB f k) (i + 1))) := by rw [HIV.out.1, HIV.out.2]; exact hown
          clear hown hgrow hnil
          go_wp2_with fail
          go_roundw
          case rel => exact ⟨i + 1, by have := HL.out; omega, by go_num, hown2, HB1.out⟩
          case measure => have := HL.out; simp [intOf]; omega
        | false =>
          have HM : Hid (mems (difB f k) (i + 1) = mems (difB f k) i) := Lib.hid (mems_miss hdf)
          rw [hdf] at hee
          clear hdf
          have hne := In.some wr
          go_upto_region 9 with fail
          refine region_in wr (by kernel_rfl) (by kernel_rfl) (Below.refl _ _) ?_
          repeat (go_big_quiet_step (fail))
          refine wpQuiet_load_mid rfl 127 (.tmp 19) rfl g (i * 128) rfl X _ HL1.out Tryz.underlying127 rfl HS1.out ?_
          simp only [Act.put, List.setIfInBounds_toArray, List.set_cons_succ, List.set_cons_zero]
          repeat (go_big_quiet_step (fail))
          refine wpQuiet_load_mid rfl 127 (.tmp 25) rfl o (i * 128) rfl Y _ HL2.out Tryz.underlying127 rfl HS2.out ?_
          simp only [Act.put, List.setIfInBounds_toArray, List.set_cons_succ, List.set_cons_zero]
          repeat (go_big_quiet_step (fail))
          refine wpQuiet_nil ?_
          intro w12 hw'
          have hb12 : Below wr.heap.size wr w12 := by
            obtain ⟨⟨wz, hbz⟩, hw''⟩ := hw'
            subst hw''
            exact hbz
          clear hw' HL1 HL2 HS1 HS2
          have HOW2 := Lib.hid (own_below HOW.out hb12)
          have HB12 := Lib.hid hb12
          have HBW := Lib.hid (HB.out.trans (hb12.mono HB.out.size))
          clear hb12
          go_wp2_with fail
          go_roundw
          case rel => exact ⟨i + 1, by have := HL.out; omega, by go_num, by rw [HM.out]; exact HOW2.out, HBW.out⟩
          case measure => have := HL.out; simp [intOf]; omega
      · have hd : decide ((i : Int) < 4) = false := decide_eq_false (by omega)
        have HE : Hid (i = 4) := Lib.hid (by have := HI.out; omega)
        clear hlt
        go_wp2_with fail
        go_ret
        have h1 := HOW.out
        rw [HE.out] at h1
        exact ⟨⟨_, rfl, own_base h1 HB0.out.size⟩, HB0.out.trans (HB.out.mono HB0.out.size)⟩
end Go.Proofs.YthcnofdihigohaaGreat.Tb
end
section
/- Pages taken off bytes. -/
set_option linter.unusedSimpArgs false
set_option maxRecDepth 20000
namespace Go.Proofs.YthcnofdihigohaaGreat.Tb
open Go.Proofs.YthcnofdihigohaaGreat.Bi
open Go.RowKit

/-- The number of the first bytes of four. -/
def preB (bs : List Nat) (k : Nat) : Nat → Nat
  | 0 => 0
  | j + 1 => preB bs k j * 256 + bs.getD (4 * k + j) 0
theorem preB_four (bs : List Nat) (k : Nat) : preB bs k 4 = valB bs k := by
  show (((0 * 256 + bs.getD (4 * k + 0) 0) * 256 + bs.getD (4 * k + 1) 0) * 256 + bs.getD (4 * k + 2) 0) * 256 + bs.getD (4 * k + 3) 0 = _
  unfold valB; rw [Nat.add_zero]; omega
theorem preB_lt {bs : List Nat} (hd : ∀ i, bs.getD i 0 < 256) (k j : Nat) : preB bs k j < 256 ^ j := by
  induction j with
  | zero => exact Nat.one_pos
  | succ j ih =>
    show preB bs k j * 256 + bs.getD (4 * k + j) 0 < 256 ^ (j + 1)
    have := hd (4 * k + j)
    rw [Nat.pow_succ]; omega
theorem getD_lt {bs : List Nat} (hd : ∀ x ∈ bs, x < 256) (i : Nat) : bs.getD i 0 < 256 := by
  rw [List.getD_eq_getElem?_getD]
  cases h : bs[i]? with
  | none => decide
  | some x => exact hd x (List.mem_of_getElem? h)
theorem or_i64 (x y : Nat) (hx : x < 16777216) (hy : y < 256) : bits .or .i64 ((x : Int) * 256) (y : Int) = ((x * 256 + y : Nat) : Int) := by
  have h3 : (x * 256) ||| y = x * 256 + y := by
    have h4 := Nat.two_pow_add_eq_or_of_lt (i := 8) (b := y) (by omega) x
    rw [show 2 ^ 8 * x = x * 256 by omega] at h4
    exact h4.symm
  have hs : (BitVec.ofInt 64 ((x : Int) * 256)).toNat = x * 256 := by
    rw [show (x : Int) * 256 = ((x * 256 : Nat) : Int) by omega, BitVec.ofInt_natCast, BitVec.toNat_ofNat]; exact Nat.mod_eq_of_lt (by omega)
  have hp : (BitVec.ofInt 64 (y : Int)).toNat = y := by
    rw [BitVec.ofInt_natCast, BitVec.toNat_ofNat]; exact Nat.mod_eq_of_lt (by omega)
  show IntKind.i64.wrap ((BitVec.ofInt 64 ((x : Int) * 256) ||| BitVec.ofInt 64 (y : Int)).toNat : Int) = _
  rw [BitVec.toNat_or, hs, hp, h3, IntKind.wrap_i64]
  omega
theorem set_snoc (g : Nat) : ∀ (l : List Value) (o : Nat) (v : Value) (w : World), w.setCells g o (l ++ [v]) = (w.setCells g o l).setCell ⟨g, o + l.length, none⟩ v
  | [], o, v, w => rfl
  | u :: l, o, v, w => by
    rw [List.cons_append, World.setCells, set_snoc g l (o + 1) v, World.setCells, List.length_cons, show o + 1 + l.length = o + (l.length + 1) by omega]
theorem ints_snoc (f : Nat → Nat) (a n : Nat) : ints f a (n + 1) = ints f a n ++ [.int .i64 ((f (a + n) : Nat) : Int)] := by
  unfold ints; rw [List.range_succ, List.map_append]; rfl
theorem mayI_nat (v : Nat) : mayI (v : Int) = pgN v := by
  unfold mayI pgI pgN
  rw [Bool.eq_iff_iff]; simp; omega
/-- May each of so many numbers be? -/
def okV (V : Nat → Nat) (n : Nat) : Bool := decide (∀ j, j < n → pgN (V j) = true)
set_option maxRecDepth 100000 in
set_option maxHeartbeats 3200000 in
theorem take_any (g n c m cc : Nat) (p : Option Addr) (bs : List Nat) (w : World) (hn0 : 0 < n) (hn : n ≤ 128) (hT : w.there g 0 n) (hB : Bys w p m bs) (hm : 4 * n ≤ m) (hcc : m ≤ cc) (hc2 : cc ≤ 9223372036854775807) (hp : ∀ b o, p = some ⟨b, o, none⟩ → b ≠ g) :
    Calls Tryz.prog 133 #[.slice (some ⟨g, 0, none⟩) n c, .slice p m cc] w fun e w' => e = .returned (.bool (okV (valB bs) n)) ∧ ∃ k, k ≤ n ∧ w' = w.setCells g 0 (ints (valB bs) 0 k) ∧ (okV (valB bs) n = true → k = n) := by
  obtain ⟨bb, o, rfl, hc⟩ := hB.at (by omega)
  have hne := hp bb o rfl
  have HT := Lib.hid hT
  have HC : Hid (∀ i, i < m → ∀ (l : List Value), (w.setCells g 0 l).cell? ⟨bb, o + i, none⟩ = some (.int .u8 ((bs.getD i 0 : Nat) : Int))) := Lib.hid fun i hi l => by
    rw [World.cell?_setCells_out g l 0 w _ (fun e _ => absurd e hne)]; exact hc i hi
  have HD := Lib.hid (getD_lt hB.dig)
  have HN := Lib.hid (And.intro hn0 hn)
  have HM := Lib.hid (And.intro hm (And.intro hcc hc2))
  have hnz : (n : Int) ≤ 128 := by omega
  have hmz : (m : Int) ≤ 9223372036854775807 := by omega
  have hcz : (cc : Int) ≤ 9223372036854775807 := by omega
  clear hT hB hc hp hn hn0 hm hcc hc2 hne
  generalize hV : valB bs = V
  have HV := Lib.hid hV
  clear hV
  go_enter Tryz.func133, Tryz.ntmps133
  go_wp2_with fail
  go_loopw [11] (fun iv wr => ∃ i : Nat, i ≤ n ∧ iv = .int .i64 (i : Int) ∧ wr = w.setCells g 0 (ints V 0 i) ∧ ∀ j, j < i → pgN (V j) = true) (fun iv _ => n - (intOf iv).toNat)
  case atStart => exact ⟨0, Nat.zero_le _, by go_num, rfl, fun j hj => absurd hj (Nat.not_lt_zero j)⟩
  case round =>
    obtain ⟨i, hi1, rfl, rfl, hok⟩ := hrel
    have HOK := Lib.hid hok
    have HI := Lib.hid hi1
    clear hok hi1
    by_cases hlt : i < n
    · have hd : decide ((i : Int) < (n : Int)) = true := decide_eq_true (by omega)
      have HL := Lib.hid hlt
      have h4i : 4 * i + 4 ≤ m := by have := HM.out; omega
      have h4c : 4 * i + 4 ≤ cc := by have := HM.out; omega
      have hiz : (i : Int) < 128 := by have := HN.out; omega
      have HTI := Lib.hid (World.there_setCells HT.out g 0 (ints V 0 i))
      have HCW := Lib.hid (fun (j : Nat) (hj : j < 4) => HC.out (4 * i + j) (by omega) (ints V 0 i))
      have HSN : Hid (w.setCells g 0 (ints V 0 (i + 1)) = (w.setCells g 0 (ints V 0 i)).setCell ⟨g, i, none⟩ (.int .i64 ((V i : Nat) : Int))) := Lib.hid (by rw [ints_snoc, set_snoc, ints_len, Nat.zero_add])
      clear hlt
      generalize hwr : w.setCells g 0 (ints V 0 i) = wr at *
      have HWR := Lib.hid hwr.symm
      clear hwr
      go_wp2_with fail
      go_loop [20, 6] (fun jv pv => ∃ j : Nat, j ≤ 4 ∧ jv = .int .i64 (j : Int) ∧ pv = .int .i64 ((preB bs i j : Nat) : Int)) (fun jv _ => 4 - (intOf jv).toNat)
      case atStart => exact ⟨0, by omega, by go_num, rfl⟩
      case round =>
        obtain ⟨j, hj, rfl, rfl⟩ := hrel
        by_cases hlj : j < 4
        · have hcell := HCW.out j hlj
          have hoff : o + i * 4 + j = o + (4 * i + j) := by omega
          rw [← hoff] at hcell
          have hor := or_i64 (preB bs i j) (bs.getD (4 * i + j) 0) (by
            have := preB_lt HD.out i j
            have h2 : 256 ^ j ≤ 256 ^ 3 := Nat.pow_le_pow_right (by omega) (by omega)
            omega) (HD.out _)
          have hpz : ((preB bs i j : Nat) : Int) < 16777216 := by
            have := preB_lt HD.out i j
            have h2 : 256 ^ j ≤ 256 ^ 3 := Nat.pow_le_pow_right (by omega) (by omega)
            omega
          have hpz0 : (0 : Int) ≤ ((preB bs i j : Nat) : Int) := Int.natCast_nonneg _
          have hyz : ((bs.getD (4 * i + j) 0 : Nat) : Int) < 256 := by have := HD.out (4 * i + j); omega
          have hyz0 : (0 : Int) ≤ ((bs.getD (4 * i + j) 0 : Nat) : Int) := Int.natCast_nonneg _
          have hjz : (j : Int) < 4 := by omega
          have HPN : Hid (preB bs i (j + 1) = preB bs i j * 256 + bs.getD (4 * i + j) 0) := Lib.hid rfl
          rw [← HPN.out] at hor
          have HJ := Lib.hid hlj
          clear hlj hj hoff
          generalize hrr : preB bs i (j + 1) = r at *
          have HRR := Lib.hid hrr
          clear hrr
          generalize preB bs i j = q at *
          generalize bs.getD (4 * i + j) 0 = y at *
          go_wp2_with fail
          go_round
          case rel => exact ⟨j + 1, by have := HJ.out; omega, by go_num, by rw [HRR.out]⟩
          case measure => have := HJ.out; simp [intOf]; omega
        · obtain rfl : j = 4 := by omega
          have HP4 : Hid (preB bs i 4 = V i) := Lib.hid (by rw [preB_four, HV.out])
          rw [HP4.out]
          have HMA := Lib.hid (fun w => may_any7 ((V i : Nat) : Int) w)
          rw [mayI_nat] at HMA
          have hvz : ((V i : Nat) : Int) < 4294967296 := by
            have := preB_lt HD.out i 4
            rw [HP4.out] at this
            omega
          have hth := HTI.out i (HL.out)
          rw [Nat.zero_add] at hth
          obtain ⟨ht1, ht2⟩ := hth
          cases hpg : pgN (V i) with
          | true =>
            rw [hpg] at HMA
            have HO2 : Hid (∀ j, j < i + 1 → pgN (V j) = true) := Lib.hid fun j hj => by
              by_cases e : j = i
              · rw [e]; exact hpg
              · exact HOK.out j (by omega)
            obtain ⟨cv, hcv⟩ := Option.isSome_iff_exists.1 ht1
            clear hpg hlj hj ht1
            generalize V i = v at *
            go_wp2_with (go_at_call 126; refine (HMA.out _).mono ?_; rintro e w7 ⟨rfl, rfl⟩)
            go_roundw
            case rel => exact ⟨i + 1, by have := HL.out; omega, by go_num, by rw [HSN.out], HO2.out⟩
            case measure => have := HL.out; simp [intOf]; omega
          | false =>
            rw [hpg] at HMA
            have HOV : Hid (okV V n = false) := Lib.hid (decide_eq_false fun h => by
              have := h i HL.out
              rw [hpg] at this; cases this)
            clear hpg hlj hj ht1 ht2
            generalize V i = v at *
            go_wp2_with (go_at_call 126; refine (HMA.out _).mono ?_; rintro e w7 ⟨rfl, rfl⟩)
            go_ret
            exact ⟨by rw [HOV.out]; rfl, i, HI.out, HWR.out, fun h => by rw [HOV.out] at h; cases h⟩
    · have hd : decide ((i : Int) < (n : Int)) = false := decide_eq_false (by omega)
      have HE : Hid (i = n) := Lib.hid (by have := HI.out; omega)
      have HOV : Hid (okV V n = true) := Lib.hid (decide_eq_true fun j hj => HOK.out j (by have := HE.out; omega))
      have hd2 : decide (i < n) = false := decide_eq_false hlt
      go_wp2_with fail
      go_ret
      exact ⟨by rw [HOV.out]; rfl, i, HI.out, rfl, fun _ => HE.out⟩
end Go.Proofs.YthcnofdihigohaaGreat.Tb
end
section
/- Are bytes a page, are they zeros; bytes loaded into a leaf. -/
set_option linter.unusedSimpArgs false
set_option maxRecDepth 20000
namespace Go.Proofs.YthcnofdihigohaaGreat.Tb
open Go.Proofs.YthcnofdihigohaaGreat.Bi
open Go.RowKit

/-- Why bytes are no page. -/
def wholeE (n : Nat) : Int := if n < 512 then 3 else if 512 < n then 2 else 0
theorem whole_any (p : Option Addr) (n c : Nat) (w : World) (hn : n ≤ 9223372036854775807) : Calls Tryz.prog 132 #[.slice p n c] w fun e w' => e = .returned (.int .i64 (wholeE n)) ∧ w = w' := by
  unfold wholeE
  have hz : (n : Int) ≤ 9223372036854775807 := by omega
  by_cases h : n < 512
  · have hd : decide ((n : Int) < 512) = true := decide_eq_true (by omega)
    have hd' : decide (n < 512) = true := decide_eq_true h
    rw [if_pos h]
    have H := Lib.hid h
    clear h hn
    go_enter Tryz.func132, Tryz.ntmps132
    go_wp2_with fail
    go_ret
    exact ⟨rfl, rfl⟩
  · have hd : decide ((n : Int) < 512) = false := decide_eq_false (by omega)
    have hd' : decide (n < 512) = false := decide_eq_false h
    rw [if_neg h]
    by_cases h2 : 512 < n
    · have hd2 : decide ((512 : Int) < (n : Int)) = true := decide_eq_true (by omega)
      have hd2' : decide (512 < n) = true := decide_eq_true h2
      rw [if_pos h2]
      clear h h2 hn
      go_enter Tryz.func132, Tryz.ntmps132
      go_wp2_with fail
      go_ret
      exact ⟨rfl, rfl⟩
    · have hd2 : decide ((512 : Int) < (n : Int)) = false := decide_eq_false (by omega)
      have hd2' : decide (512 < n) = false := decide_eq_false h2
      rw [if_neg h2]
      clear h h2 hn
      go_enter Tryz.func132, Tryz.ntmps132
      go_wp2_with fail
      go_ret
      exact ⟨rfl, rfl⟩
/-- What loading bytes into a leaf returns. -/
def loadE (i : Int) (bs : List Nat) : Int := if ¬ (0 ≤ i ∧ i < 4) then 7 else if wholeE bs.length ≠ 0 then wholeE bs.length else if okV (valB bs) 128 then 0 else 4
/-- What a row tells behind it. -/
def loadF (f : Nat → Nat) (i : Int) (bs : List Nat) : Nat → Nat := if loadE i bs = 0 then over f (128 * i.toNat) (valB bs) 0 128 else f
theorem wholeE_zero {n : Nat} (h : wholeE n = 0) : n = 512 := by
  unfold wholeE at h
  split at h
  · cases h
  · split at h
    · cases h
    · omega
set_option maxRecDepth 100000 in
theorem load_not {w : World} {g : Nat} {f : Nat → Nat} (_ : Tab w g f) (x : Int) (p : Option Addr) (n c : Nat) (bs : List Nat) (hB : Bys w p n bs) (hc : n ≤ c) (hc2 : c ≤ 9223372036854775807) (hx : ¬ (0 ≤ x ∧ x < 4) ∨ wholeE n ≠ 0) :
    Calls Tryz.prog 136 #[.pointer (some ⟨g, 0, none⟩), .int .i64 x, .slice p n c] w fun e w' => e = .returned (.int .i64 (loadE x bs)) ∧ w = w' := by
  have hl := hB.len
  unfold loadE
  rw [hl]
  by_cases hx0 : 0 ≤ x ∧ x < 4
  · have hw : wholeE n ≠ 0 := hx.resolve_left (not_not_intro hx0)
    rw [if_neg (not_not_intro hx0), if_pos hw]
    obtain ⟨i, rfl⟩ := Int.eq_ofNat_of_zero_le hx0.1
    have HY := Lib.hid (fun w' => leaf_yes i g (by have := hx0.2; omega) w')
    have HW := Lib.hid (fun w => whole_any p n c w (by omega))
    have hne : (wholeE n == 0) = false := by simpa using hw
    clear hw hx hx0 hl hB hc hc2
    generalize wholeE n = z at *
    go_enter Tryz.func136, Tryz.ntmps136
    go_wp2_with (first
      | (go_at_call 116; refine (HY.out _).mono ?_; rintro e w7 ⟨rfl, rfl⟩)
      | (go_at_call 132; refine (HW.out _).mono ?_; rintro e w7 ⟨rfl, rfl⟩))
    go_ret
    exact ⟨rfl, rfl⟩
  · rw [if_pos hx0]
    have HY := Lib.hid (leaf_no x g hx0)
    clear hx hx0 hl hB hc hc2
    go_enter Tryz.func136, Tryz.ntmps136
    go_wp2_with (go_at_call 116; refine (HY.out _).mono ?_; rintro e w7 ⟨rfl, rfl⟩)
    go_ret
    exact ⟨rfl, rfl⟩
set_option maxRecDepth 100000 in
set_option maxHeartbeats 300000 in
theorem load_in {w : World} {g : Nat} {f : Nat → Nat} (h : Tab w g f) (i : Nat) (hi : i < 4) (p : Option Addr) (c : Nat) (bs : List Nat) (hB : Bys w p 512 bs) (hc : 512 ≤ c) (hc2 : c ≤ 9223372036854775807) :
    Calls Tryz.prog 136 #[.pointer (some ⟨g, 0, none⟩), .int .i64 (i : Int), .slice p 512 c] w fun e w' => e = .returned (.int .i64 (loadE (i : Int) bs)) ∧ Tab w' g (loadF f (i : Int) bs) ∧ Only g w w' := by
  have hl := hB.len
  have HE : Hid (loadE (i : Int) bs = if okV (valB bs) 128 then 0 else 4) := Lib.hid (by
    unfold loadE
    rw [if_neg (not_not_intro ⟨by omega, by omega⟩), hl, if_neg (by decide)])
  have HF : Hid (loadF f (i : Int) bs = if okV (valB bs) 128 = true then over f (128 * i) (valB bs) 0 128 else f) := Lib.hid (by
    unfold loadF
    rw [HE.out, Int.toNat_natCast]
    cases okV (valB bs) 128 <;> rfl)
  have HY := Lib.hid (fun w' => leaf_yes i g hi w')
  have HW := Lib.hid (fun w => whole_any p 512 c w (by omega))
  obtain ⟨hz, -⟩ := zero_of_info (P := Tryz.prog) info127
  have HT := Lib.hid h
  have HN : Hid (IsT (w.alloc (.cells (rowA (fun _ => 0) 128) 127)) w.heap.size 127 (fun _ => 0) 128) := Lib.hid (heap_alloc_new w _)
  have HB1 : Hid (Below w.heap.size w (w.alloc (.cells (rowA (fun _ => 0) 128) 127))) := Lib.hid ((Below.refl _ _).alloc (Nat.le_refl _) _)
  have HBy := Lib.hid (hB.below HB1.out)
  have HLT := Lib.hid (hB.lt (by omega))
  have HTK := Lib.hid (take_any w.heap.size 128 128 512 c p bs _ (by omega) (by omega) (HN.out.there 0 128 (by omega)) HBy.out (by omega) hc hc2 (fun b o e => by have := HLT.out b o e; omega))
  have HOK : Hid (∀ j, okV (valB bs) 128 = true → j < 128 → pgN (valB bs j) = true) := Lib.hid fun j h hj => of_decide_eq_true h j hj
  have hg1 := HT.out.lt
  have hiz : (i : Int) < 4 := by omega
  have HI := Lib.hid hi
  clear h hl hB hc hc2 hi HBy
  generalize rowA (fun _ => 0) 128 = Z at *
  generalize hW1 : w.alloc (.cells Z 127) = W1 at *
  have HW1 := Lib.hid hW1
  clear hW1
  go_enter Tryz.func136, Tryz.ntmps136
  go_wp2_with (first
    | (go_at_call 116; refine (HY.out _).mono ?_; rintro e w7 ⟨rfl, rfl⟩)
    | (go_at_call 132; refine (HW.out _).mono ?_; rintro e w7 ⟨rfl, rfl⟩))
  rw [HW1.out]
  refine HTK.out.mono ?_
  rintro e w8 ⟨rfl, k, hk, hw8, hfull⟩
  have HW8 := Lib.hid hw8
  have HK := Lib.hid hfull
  clear hk hw8 hfull HTK
  have HO8 : Hid (Only w.heap.size W1 w8) := Lib.hid (by rw [HW8.out]; exact only_segs _ _ _ _)
  have HB8 : Hid (Below w.heap.size w w8) := Lib.hid (HO8.out.below HB1.out HB1.out.size (Nat.le_refl _))
  have HT8 : Hid (Tab w8 g f) := Lib.hid (HT.out.below HB8.out)
  cases hok : okV (valB bs) 128 with
  | false =>
    rw [hok] at HE HF
    clear hok
    go_wp2_with fail
    go_ret
    refine ⟨by rw [HE.out]; rfl, ?_, Only.of_below HB8.out⟩
    rw [HF.out, if_neg (by decide)]; exact HT8.out
  | true =>
    have HX : Hid (w8.rangeAt w.heap.size 0 (ints (valB bs) 0 128)) := Lib.hid (by
      have h1 := IsT.segs (v := valB bs) 128 0 0 _ _ HN.out
      rw [HK.out hok] at HW8
      rw [HW8.out]
      have h2 := h1.range 0 128 (by omega)
      rwa [ints_congr (f := over (fun _ => 0) 0 (valB bs) 0 128) (g := valB bs) (a := 0) (b := 0) (fun j hj => over_in _ _ _ _ _ _ hj)] at h2)
    have HTH : Hid (w8.there g (i * 128) 128) := Lib.hid (HT8.out.row.there _ _ (by have := HI.out; omega))
    have HFin : Hid (Tab (w8.drew.setCells g (i * 128) (ints (valB bs) 0 128)) g (loadF f (i : Int) bs)) := Lib.hid (by
      rw [HF.out, hok, if_pos rfl, Nat.mul_comm 128 i]
      exact ⟨IsT.segs 128 (i * 128) 0 f w8.drew HT8.out.drew.row, HT8.out.ok.over _ _ _ fun j hj => by rw [Nat.zero_add]; exact HOK.out j hok hj⟩)
    have HOF : Hid (Only g w (w8.drew.setCells g (i * 128) (ints (valB bs) 0 128))) := Lib.hid ((Only.of_below HB8.out.drew).trans (only_segs _ _ _ _))
    have HS : Hid ((Tryz.prog.info? 127).map (·.size) = some (ints (valB bs) 0 128).length) := Lib.hid (by rw [size127, ints_len])
    have HS2 : Hid ((Tryz.prog.info? 127).map (·.size) = some (ints (valB bs) 0 128).toArray.size) := Lib.hid (by rw [size127]; simp [ints_len])
    have HLN : Hid ((ints (valB bs) 0 128).toArray.size = 128) := Lib.hid (by simp [ints_len])
    have H1 := Lib.hid (all_oneCell_toArray (ints_one (valB bs) 0 128))
    rw [hok] at HE HF
    clear hok
    generalize ints (valB bs) 0 128 = X at *
    go_wp2_with fail
    refine wp_region_held_drew (S := fun w' => w'.rangeAt w.heap.size 0 X ∧ w'.there g (i * 128) 128) (by kernel_rfl) ⟨(World.rangeAt_drew _ _ _ _).2 HX.out, (World.there_drew _ _ _ _).2 HTH.out⟩ (fun hS => ?_)
    refine wpAnyH_take (i := 0) (v := .pointer (some ⟨g, 0, none⟩)) rfl (by kernel_rfl) (by kernel_rfl) (by kernel_rfl) (fun _ _ _ h => h) (Or.inl ⟨by rfl, fun w _ => by go_simp⟩) hS ?_
    refine wpAnyH_take (i := 1) (v := .int .i64 (i : Int)) rfl (by kernel_rfl) (by kernel_rfl) (by kernel_rfl) (fun _ _ _ h => h) (Or.inl ⟨by rfl, fun w _ => by go_simp⟩) hS ?_
    refine wpAnyH_take (i := 2) (v := .agg X.toArray) rfl (by kernel_rfl) (by kernel_rfl) (by kernel_rfl) (fun _ _ _ h => h) (yieldsIf_load_mid rfl 127 (.tmp 8) rfl w.heap.size 0 rfl X _ (fun w h => h.1) Tryz.underlying127 rfl HS.out) hS ?_
    refine wpAnyH_take (i := 3) (v := .pointer (some ⟨g, 0, none⟩)) rfl (by kernel_rfl) (by kernel_rfl) (by kernel_rfl) (fun _ _ _ h => h) (Or.inl ⟨by rfl, fun w _ => by go_simp⟩) hS ?_
    refine wpAnyH_take (i := 4) (v := .pointer (some ⟨g, 0, none⟩)) rfl (by kernel_rfl) (by kernel_rfl) (by kernel_rfl) (fun _ _ _ h => h) (Or.inl ⟨by rfl, fun w _ => by go_simp⟩) hS ?_
    refine wpAnyH_take (i := 5) (v := .pointer (some ⟨g, i * 128, none⟩)) rfl (by kernel_rfl) (by kernel_rfl) (by kernel_rfl) (fun _ _ _ h => h) (Or.inl ⟨by rfl, fun w _ => by go_simp⟩) hS ?_
    simp only [List.getElem_toArray, List.getElem_cons_succ, List.getElem_cons_zero, Act.put, List.setIfInBounds_toArray, List.set_cons_succ, List.set_cons_zero]
    refine wpAnyH_ready (rs := [6]) (by kernel_rfl) (by simp) ?_
    refine AllReadyH.cons rfl (fun K hK => ?_) AllReadyH.nil
    rw [if_pos (by rfl)]
    simp only [List.getElem_toArray, List.getElem_cons_succ, List.getElem_cons_zero, Act.put, List.setIfInBounds_toArray, List.set_cons_succ, List.set_cons_zero]
    refine wp_store_mid 127 (.tmp 31) (.tmp 28) ?sa g (i * 128) X.toArray ?sb ?sc ?sd HS2.out H1.out ?se
    case sa => exact rfl
    case sb => exact rfl
    case sc => exact rfl
    case sd => rw [HLN.out]; exact hS.2
    refine hK.out _ _ ⟨World.rangeAt_setCells_apart hS.1 _ _ _ (.inl (by omega)), World.there_setCells hS.2 _ _ _⟩ fun _ => ?_
    refine wpAnyH_done (by kernel_rfl) ?_ _
    clear hK K
    go_wp2_with fail
    go_ret
    exact ⟨by rw [HE.out, if_pos trivial]; rfl, HFin.out, HOF.out⟩
theorem load_any {w : World} {g : Nat} {f : Nat → Nat} (h : Tab w g f) (x : Int) (p : Option Addr) (n c : Nat) (bs : List Nat) (hB : Bys w p n bs) (hc : n ≤ c) (hc2 : c ≤ 9223372036854775807) :
    Calls Tryz.prog 136 #[.pointer (some ⟨g, 0, none⟩), .int .i64 x, .slice p n c] w fun e w' => e = .returned (.int .i64 (loadE x bs)) ∧ Tab w' g (loadF f x bs) ∧ Only g w w' := by
  by_cases hx : ¬ (0 ≤ x ∧ x < 4) ∨ wholeE n ≠ 0
  · refine (load_not h x p n c bs hB hc hc2 hx).mono ?_
    rintro e w' ⟨rfl, rfl⟩
    refine ⟨rfl, ?_, Only.refl _ _⟩
    have : loadE x bs ≠ 0 := by
      unfold loadE
      rw [hB.len]
      rcases hx with hx | hx
      · rw [if_pos hx]; decide
      · by_cases hx0 : 0 ≤ x ∧ x < 4
        · rw [if_neg (not_not_intro hx0), if_pos hx]; exact hx
        · rw [if_pos hx0]; decide
    unfold loadF
    rw [if_neg this]; exact h
  · have h1 : 0 ≤ x ∧ x < 4 := Classical.not_not.1 fun h => hx (.inl h)
    have h2 : n = 512 := wholeE_zero (Classical.not_not.1 fun h => hx (.inr h))
    subst h2
    obtain ⟨i, rfl⟩ := Int.eq_ofNat_of_zero_le h1.1
    exact load_in h i (by omega) p c bs hB hc hc2
end Go.Proofs.YthcnofdihigohaaGreat.Tb
end
section
/- Directories as bytes: zeros told; what Encode writes. -/
set_option linter.unusedSimpArgs false
set_option maxRecDepth 20000
namespace Go.Proofs.YthcnofdihigohaaGreat.Tb
open Go.Proofs.YthcnofdihigohaaGreat.Bi
open Go.RowKit

/-- Are so many bytes all 0? -/
def allZ (bs : List Nat) (n : Nat) : Bool := decide (∀ j, j < n → bs.getD j 0 = 0)
set_option maxRecDepth 100000 in
set_option maxHeartbeats 800000 in
theorem zeros_any (p : Option Addr) (n c : Nat) (bs : List Nat) (w : World) (hB : Bys w p n bs) (hn : n ≤ 1099511627776) :
    Calls Tryz.prog 134 #[.slice p n c] w fun e w' => e = .returned (.bool (allZ bs n)) ∧ w = w' := by
  have HB := Lib.hid hB
  have hnz : (n : Int) ≤ 1099511627776 := by omega
  clear hB hn
  go_enter Tryz.func134, Tryz.ntmps134
  go_wp2_with fail
  go_loop [7] (fun iv => ∃ i : Nat, i ≤ n ∧ iv = .int .i64 (i : Int) ∧ ∀ j, j < i → bs.getD j 0 = 0) (fun iv => n - (intOf iv).toNat)
  case atStart => exact ⟨0, by omega, by go_num, fun j hj => absurd hj (Nat.not_lt_zero j)⟩
  case round =>
    obtain ⟨i, hi, rfl, hz⟩ := hrel
    have HZ := Lib.hid hz
    clear hz
    by_cases hlt : i < n
    · obtain ⟨b, o, rfl, hc⟩ := HB.out.at (by omega)
      have hcell := hc i hlt
      have hd : decide ((i : Int) < (n : Int)) = true := decide_eq_true (by omega)
      have HL := Lib.hid hlt
      have hin : i < n := hlt
      clear hc hlt hi
      by_cases h0 : bs.getD i 0 = 0
      · rw [h0] at hcell
        have HN : Hid (∀ j, j < i + 1 → bs.getD j 0 = 0) := Lib.hid fun j hj => by
          by_cases e : j = i
          · rw [e]; exact h0
          · exact HZ.out j (by omega)
        clear h0
        go_wp2_with fail
        go_round
        case rel => exact ⟨i + 1, by have := HL.out; omega, by go_num, HN.out⟩
        case measure => have := HL.out; simp [intOf]; omega
      · have HA : Hid (allZ bs n = false) := Lib.hid (decide_eq_false fun h => h0 (h i HL.out))
        have hne : (((bs.getD i 0 : Nat) : Int) != 0) = true := by simpa using h0
        clear h0
        generalize bs.getD i 0 = y at *
        go_wp2_with fail
        go_ret
        exact ⟨by rw [HA.out]; rfl, rfl⟩
    · have hd : decide ((i : Int) < (n : Int)) = false := decide_eq_false (by omega)
      have hd2 : decide (i < n) = false := decide_eq_false hlt
      have HA : Hid (allZ bs n = true) := Lib.hid (decide_eq_true fun j hj => HZ.out j (by omega))
      clear hi
      go_wp2_with fail
      go_ret
      exact ⟨by rw [HA.out]; rfl, rfl⟩
/-- A leaves' pages, as a row. -/
def lvF (x y z u : Int) : Nat → Nat
  | 0 => x.toNat
  | 1 => y.toNat
  | 2 => z.toNat
  | 3 => u.toNat
  | _ => 0
/-- May all four be? -/
def okL (x y z u : Int) : Bool := mayI x && mayI y && mayI z && mayI u
theorem mayI_nn {x : Int} (h : mayI x = true) : 0 ≤ x ∧ x < 512 := by
  unfold mayI pgI at h
  simp only [Bool.or_eq_true, beq_iff_eq, Bool.and_eq_true, decide_eq_true_eq] at h
  omega
theorem okL_nat {x y z u : Int} (h : okL x y z u = true) : (0 ≤ x ∧ x < 512) ∧ (0 ≤ y ∧ y < 512) ∧ (0 ≤ z ∧ z < 512) ∧ (0 ≤ u ∧ u < 512) := by
  unfold okL at h
  simp only [Bool.and_eq_true] at h
  exact ⟨mayI_nn h.1.1.1, mayI_nn h.1.1.2, mayI_nn h.1.2, mayI_nn h.2⟩
theorem lvF_lt {x y z u : Int} (h : okL x y z u = true) (j : Nat) : lvF x y z u j < 512 := by
  obtain ⟨h1, h2, h3, h4⟩ := okL_nat h
  unfold lvF
  split <;> omega
/-- A directory's bytes. -/
def dirB (x y z u : Int) (f : Nat → Bool) : List Nat := fours (lvF x y z u) 4 ++ rowF f 64 ++ List.replicate 432 0
theorem dirB_len (x y z u : Int) (f : Nat → Bool) : (dirB x y z u f).length = 512 := by
  unfold dirB; rw [List.length_append, List.length_append, fours_len, rowF_len, List.length_replicate]
theorem dirB_dig {x y z u : Int} (h : okL x y z u = true) (f : Nat → Bool) : ∀ b ∈ dirB x y z u f, b < 256 :=
  dig_append (dig_append (fours_dig (lvF_lt h) 4) (rowF_dig _ _)) (by intro b hb; rw [List.mem_replicate] at hb; omega)
end Go.Proofs.YthcnofdihigohaaGreat.Tb
end
section
/- What one of two sets has, and what one has and the other one hasn't; are two sets the same? -/
set_option maxRecDepth 20000
namespace Go.Proofs.YthcnofdihigohaaGreat.Bi
open Go.RowKit

theorem or_any (x y : Nat) (w : World) (hx : x < 256) (hy : y < 256) : Calls Tryz.prog 80 #[.int .u8 (x : Int), .int .u8 (y : Int)] w fun e w' => e = .returned (.int .u8 ((x ||| y : Nat) : Int)) ∧ w = w' := by
  have h := u8_or_nat x y hx hy
  go_enter Tryz.func80, Tryz.ntmps80
  go_wp2_with fail
  go_ret
  exact ⟨rfl, rfl⟩
def both (t : Bool) (f k : Nat → Bool) : Nat → Bool := fun i => if t then f i || k i else f i && !k i
/-- Bytes, likewise. -/
def join (t : Bool) (x y : Nat) : Nat := if t then x ||| y else x &&& (255 - y)
theorem join_lt (t : Bool) (x y : Nat) (hx : x < 256) (hy : y < 256) : join t x y < 256 := by
  unfold join
  cases t
  · exact Nat.lt_of_le_of_lt Nat.and_le_left hx
  · exact Nat.or_lt_two_pow (n := 8) hx hy
theorem not_bit (y k : Nat) (hy : y < 256) (hk : k < 8) : (255 - y).testBit k = !y.testBit k := by
  have : ∀ (y : Fin 256) (k : Fin 8), (255 - y.val).testBit k.val = !y.val.testBit k.val := by decide +kernel
  exact this ⟨y, hy⟩ ⟨k, hk⟩
theorem byt_join (t : Bool) (f k : Nat → Bool) (j : Nat) : join t (byt f j) (byt k j) = byt (both t f k) j := by
  apply Nat.eq_of_testBit_eq
  intro i
  unfold join
  rw [byt_bit]
  unfold both
  by_cases hi : i < 8
  · rw [decide_eq_true hi, Bool.true_and]
    cases t
    · simp only [Bool.false_eq_true, if_false]
      rw [Nat.testBit_and, not_bit _ _ (byt_lt _ _) hi, byt_bit, byt_bit, decide_eq_true hi, Bool.true_and, Bool.true_and]
    · simp only [if_true]
      rw [Nat.testBit_or, byt_bit, byt_bit, decide_eq_true hi, Bool.true_and, Bool.true_and]
  · rw [decide_eq_false hi, Bool.false_and]
    cases t
    · simp only [Bool.false_eq_true, if_false]
      rw [Nat.testBit_and, byt_bit, decide_eq_false hi, Bool.false_and, Bool.false_and]
    · simp only [if_true]
      rw [Nat.testBit_or, byt_bit, byt_bit, decide_eq_false hi]; rfl
set_option maxHeartbeats 1600000 in
theorem same_any {w : World} {g b n g2 b2 m : Nat} {f k : Nat → Bool} (h : Sat w g b n f) (h2 : Sat w g2 b2 m k) :
    Calls Tryz.prog 106 #[.pointer (some ⟨g, 0, none⟩), .pointer (some ⟨g2, 0, none⟩)] w fun e w' => e = .returned (.bool (decide (n = m ∧ rowF f (need n) = rowF k (need m)))) ∧ Below w.heap.size w w' := by
  have l0 : ∀ s : In w, s.1.cell? ⟨g, 0, none⟩ = some (.int .i64 (n : Int)) := fun s => (h.below s.2).c0
  have l1 : ∀ s : In w, s.1.cell? ⟨g, 1, none⟩ = some (.slice (some ⟨b, 0, none⟩) (need n) (need n)) := fun s => (h.below s.2).c1
  have l2 : ∀ s : In w, s.1.cell? ⟨g2, 0, none⟩ = some (.int .i64 (m : Int)) := fun s => (h2.below s.2).c0
  have l3 : ∀ s : In w, s.1.cell? ⟨g2, 1, none⟩ = some (.slice (some ⟨b2, 0, none⟩) (need m) (need m)) := fun s => (h2.below s.2).c1
  have HE : Hid (∀ s : In w, Calls Tryz.prog 137 #[.slice (some ⟨b, 0, none⟩) (need n) (need n), .slice (some ⟨b2, 0, none⟩) (need m) (need m)] s.1 fun e w' => e = .returned (.bool (decide (rowF f (need n) = rowF k (need m)))) ∧ s.1 = w') := Lib.hid fun s => equal_any _ _ _ _ _ _ _ _ _ (h.below s.2).bys (h2.below s.2).bys
  clear h h2
  have hne := In.some w
  by_cases hnm : n = m
  · have he : ((n : Int) == (m : Int)) = true := by rw [hnm]; simp
    have hd : decide (n = m ∧ rowF f (need n) = rowF k (need m)) = decide (rowF f (need n) = rowF k (need m)) := by
      by_cases hr : rowF f (need n) = rowF k (need m)
      · rw [decide_eq_true hr, decide_eq_true ⟨hnm, hr⟩]
      · rw [decide_eq_false hr, decide_eq_false (fun h => hr h.2)]
    rw [hd]
    generalize decide (rowF f (need n) = rowF k (need m)) = v at *
    clear hnm hd
    go_enter Tryz.func106, Tryz.ntmps106
    go_upto_region 3 with fail
    refine region_in w (by kernel_rfl) (by kernel_rfl) (Below.refl _ _) ?_
    repeat (go_big_quiet_step ((go_at_call 137; exact Calls.quiet_in_same (HE.out _))))
    refine wpQuiet_nil ?_
    intro w12 hw'
    have hb12 : Below w.heap.size w w12 := by
      obtain ⟨⟨wz, hbz⟩, hw''⟩ := hw'
      subst hw''
      exact hbz
    clear hw'
    go_wp2_with fail
    go_ret
    exact ⟨rfl, hb12⟩
  · have he : ((n : Int) == (m : Int)) = false := by simp; omega
    rw [decide_eq_false (fun h => hnm h.1)]
    clear hnm HE
    go_enter Tryz.func106, Tryz.ntmps106
    go_upto_region 3 with fail
    refine region_in w (by kernel_rfl) (by kernel_rfl) (Below.refl _ _) ?_
    repeat (go_big_quiet_step (fail))
    refine wpQuiet_nil ?_
    intro w12 hw'
    have hb12 : Below w.heap.size w w12 := by
      obtain ⟨⟨wz, hbz⟩, hw''⟩ := hw'
      subst hw''
      exact hbz
    clear hw'
    go_wp2_with fail
    go_ret
    exact ⟨rfl, hb12⟩
end Go.Proofs.YthcnofdihigohaaGreat.Bi
end
section
/- What Encode returns. -/
set_option linter.unusedSimpArgs false
set_option maxRecDepth 20000
namespace Go.Proofs.YthcnofdihigohaaGreat.Tb
open Go.Proofs.YthcnofdihigohaaGreat.Bi
open Go.RowKit

theorem spl1 (A : List Nat) (h : A.length = 16) : splice (u8s (List.replicate 512 0)) 0 (u8s A) = u8s (A ++ List.replicate 496 0) := by
  unfold splice
  rw [List.take_zero, List.nil_append, u8s_len, h, Nat.zero_add, u8s_drop, ← u8s_append, List.drop_replicate]
theorem spl2 (A R : List Nat) (h : A.length = 16) (hr : R.length = 64) : splice (u8s (A ++ List.replicate 496 0)) 16 (u8s R) = u8s (A ++ R ++ List.replicate 432 0) := by
  unfold splice
  rw [u8s_take, List.take_append_of_le_length (by omega), List.take_of_length_le (by omega), u8s_len, hr, u8s_drop, List.drop_append, List.drop_of_length_le (by omega), List.nil_append, h, List.drop_replicate, ← u8s_append, ← u8s_append, List.append_assoc]
theorem run_index48 (cs : Array Value) (k : Nat) (v : Value) (w : World) (hk : k < 4) (hv : cs[k]? = some v) : (Instr.index 78 (.agg cs) (.int .i64 (k : Int))).run Tryz.prog w = .ok v w := by
  have hu := Tryz.underlying78
  have hp := run_part3 cs k v w hv
  obtain ⟨i0, hi, hz0, hz1, hz2⟩ := info_parts Tryz.info3
  have hs : (sizeOf 3).run Tryz.prog w = .ok 1 w := by simp [sizeOf, typeInfo, hi, hz1]
  have ha : (asIntOf (.int .i64 (k : Int))).run Tryz.prog w = .ok (.i64, (k : Int)) w := by simp [asIntOf]
  have hc : (0 : Int) ≤ (k : Int) ∧ (k : Int) < ((4 : Nat) : Int) := ⟨by omega, by omega⟩
  unfold Instr.index
  simp only [Sem.run_bind, ha, Result.andThen_ok, run_underlying hu w, if_pos hc, hs, Int.toNat_natCast, hp]
theorem wpList_index48 {ops : Array Oper} {rest : List Oper} {o : Oper} {a : Act} {w : World} {Q : Exit → Act → World → Prop} (hgd : o.guard = none) (x y : Operand) (ho : o.op = .index 78 x y)
    (cs : Array Value) (k : Nat) (v : Value) (hx : a.eval x = .agg cs) (hy : a.eval y = .int .i64 (k : Int)) (hk : k < 4) (hv : cs[k]? = some v) (h : wpList Tryz.prog ops Q rest (a.put o.dst v) w) : wpList Tryz.prog ops Q (o :: rest) a w :=
  wpList_plain hgd fun _ hK => by
    unfold Oper.wp execOp
    simp only [ho, hx, hy, Sem.run_bind, run_index48 cs k v w hk hv, Result.andThen_ok, Sem.run_pure]
    exact hK _ _ h
theorem size_nil (w : World) : Calls Tryz.prog 19 #[.pointer none] w fun e w' => e = .returned (.int .i64 0) ∧ w = w' := by
  go_enter Tryz.func19, Tryz.ntmps19
  go_wp2_with fail
  go_ret
  exact ⟨rfl, rfl⟩
def okN (x y z u : Int) : Nat → Bool
  | 0 => mayI x
  | 1 => mayI y
  | 2 => mayI z
  | 3 => mayI u
  | _ => true
theorem okN_all {x y z u : Int} (h : ∀ j, j < 4 → okN x y z u j = true) : okL x y z u = true := by
  have h0 := h 0 (by omega); have h1 := h 1 (by omega); have h2 := h 2 (by omega); have h3 := h 3 (by omega)
  have g0 : mayI x = true := h0
  have g1 : mayI y = true := h1
  have g2 : mayI z = true := h2
  have g3 : mayI u = true := h3
  unfold okL
  rw [g0, g1, g2, g3]; rfl
theorem enc_nil (x y z u : Int) (w : World) : Calls Tryz.prog 98 #[.agg #[.int .i64 x, .int .i64 y, .int .i64 z, .int .i64 u, .pointer none]] w fun e w' => e = .returned (.tuple #[.slice none 0 0, .int .i64 1]) ∧ Below w.heap.size w w' := by
  have HB : Hid (Below w.heap.size w (w.alloc (.cells #[.int .i64 x, .int .i64 y, .int .i64 z, .int .i64 u, .pointer none] 152))) := Lib.hid ((Below.refl _ _).alloc (Nat.le_refl _) _)
  go_enter Tryz.func98, Tryz.ntmps98
  go_wp2_with (go_at_call 19; refine (size_nil _).mono ?_; rintro e w7 ⟨rfl, rfl⟩)
  go_ret2
  exact ⟨rfl, HB.out⟩
set_option maxRecDepth 100000 in
set_option maxHeartbeats 1600000 in
theorem enc_any (x y z u : Int) (gs bs : Nat) (f : Nat → Bool) (w : World) (hS : Sat w gs bs 512 f) :
    Calls Tryz.prog 98 #[.agg #[.int .i64 x, .int .i64 y, .int .i64 z, .int .i64 u, .pointer (some ⟨gs, 0, none⟩)]] w fun e w' =>
      ((okL x y z u = true ∧ ∃ p c, e = .returned (.tuple #[.slice p 512 c, .int .i64 0]) ∧ Bys w' p 512 (dirB x y z u f) ∧ 512 ≤ c ∧ c ≤ 9223372036854775807) ∨ (okL x y z u = false ∧ e = .returned (.tuple #[.slice none 0 0, .int .i64 1]))) ∧ Below w.heap.size w w' := by
  have HB0 : Hid (Below w.heap.size w (w.alloc (.cells #[.int .i64 x, .int .i64 y, .int .i64 z, .int .i64 u, .pointer (some ⟨gs, 0, none⟩)] 152))) := Lib.hid ((Below.refl _ _).alloc (Nat.le_refl _) _)
  have HDB := heap_alloc_new w (.cells #[.int .i64 x, .int .i64 y, .int .i64 z, .int .i64 u, .pointer (some ⟨gs, 0, none⟩)] 152)
  have HD := Lib.hid HDB
  have HSZ : Hid ((w.alloc (.cells #[.int .i64 x, .int .i64 y, .int .i64 z, .int .i64 u, .pointer (some ⟨gs, 0, none⟩)] 152)).heap.size = w.heap.size + 1) := Lib.hid (by simp)
  have k0 : (w.alloc (.cells #[.int .i64 x, .int .i64 y, .int .i64 z, .int .i64 u, .pointer (some ⟨gs, 0, none⟩)] 152)).cell? ⟨w.heap.size, 0, none⟩ = some (.int .i64 x) := by rw [cell_of_row _ _ _ _ _ _ HDB]; rfl
  have k1 : (w.alloc (.cells #[.int .i64 x, .int .i64 y, .int .i64 z, .int .i64 u, .pointer (some ⟨gs, 0, none⟩)] 152)).cell? ⟨w.heap.size, 1, none⟩ = some (.int .i64 y) := by rw [cell_of_row _ _ _ _ _ _ HDB]; rfl
  have k2 : (w.alloc (.cells #[.int .i64 x, .int .i64 y, .int .i64 z, .int .i64 u, .pointer (some ⟨gs, 0, none⟩)] 152)).cell? ⟨w.heap.size, 2, none⟩ = some (.int .i64 z) := by rw [cell_of_row _ _ _ _ _ _ HDB]; rfl
  have k3 : (w.alloc (.cells #[.int .i64 x, .int .i64 y, .int .i64 z, .int .i64 u, .pointer (some ⟨gs, 0, none⟩)] 152)).cell? ⟨w.heap.size, 3, none⟩ = some (.int .i64 u) := by rw [cell_of_row _ _ _ _ _ _ HDB]; rfl
  have k4 : (w.alloc (.cells #[.int .i64 x, .int .i64 y, .int .i64 z, .int .i64 u, .pointer (some ⟨gs, 0, none⟩)] 152)).cell? ⟨w.heap.size, 4, none⟩ = some (.pointer (some ⟨gs, 0, none⟩)) := by rw [cell_of_row _ _ _ _ _ _ HDB]; rfl
  have HS := Lib.hid (hS.below HB0.out)
  have HSize := Lib.hid (size_any HS.out)
  clear hS HDB
  go_enter Tryz.func98, Tryz.ntmps98
  go_upto_region 1 with fail
  generalize w.alloc _ = W at *
  go_wp2_with (go_at_call 19; refine HSize.out.mono ?_; rintro e w7 ⟨rfl, rfl⟩)
  go_loop [13] (fun iv => ∃ i : Nat, i ≤ 4 ∧ iv = .int .i64 (i : Int) ∧ ∀ j, j < i → okN x y z u j = true) (fun iv => 4 - (intOf iv).toNat)
  case atStart => exact ⟨0, by omega, by go_num, fun j hj => absurd hj (Nat.not_lt_zero j)⟩
  case round =>
    obtain ⟨i, hi, rfl, hok⟩ := hrel
    rcases (show i = 0 ∨ i = 1 ∨ i = 2 ∨ i = 3 ∨ i = 4 by omega) with rfl | rfl | rfl | rfl | rfl
    · have hd : decide ((0 : Int) < 4) = true := rfl
      cases hm : mayI x with
      | false =>
        have HO : Hid (okL x y z u = false) := Lib.hid (by unfold okL; rw [hm]; simp)
        have HMA := Lib.hid (fun w => may_any7 x w)
        rw [hm] at HMA
        clear hm hok
        go_wp2_with (first
          | (go_at_call 126; refine (HMA.out _).mono ?_; rintro e w7 ⟨rfl, rfl⟩)
          | (refine wpList_index48 rfl (.tmp 12) (.tmp 13) rfl _ 0 _ rfl rfl (by decide) rfl ?_))
        go_ret2
        exact ⟨.inr ⟨HO.out, rfl⟩, HB0.out⟩
      | true =>
        have HMA := Lib.hid (fun w => may_any7 x w)
        have HO : Hid (∀ j, j < 1 → okN x y z u j = true) := Lib.hid fun j hj => by
          by_cases e : j = 0
          · subst e; exact hm
          · exact hok j (by omega)
        rw [hm] at HMA
        clear hm hok
        go_wp2_with (first
          | (go_at_call 126; refine (HMA.out _).mono ?_; rintro e w7 ⟨rfl, rfl⟩)
          | (refine wpList_index48 rfl (.tmp 12) (.tmp 13) rfl _ 0 _ rfl rfl (by decide) rfl ?_))
        go_round
        case rel => exact ⟨1, by omega, by go_num, HO.out⟩
        case measure => simp [intOf]
    · have hd : decide ((1 : Int) < 4) = true := rfl
      cases hm : mayI y with
      | false =>
        have HO : Hid (okL x y z u = false) := Lib.hid (by unfold okL; rw [hm]; simp)
        have HMA := Lib.hid (fun w => may_any7 y w)
        rw [hm] at HMA
        clear hm hok
        go_wp2_with (first
          | (go_at_call 126; refine (HMA.out _).mono ?_; rintro e w7 ⟨rfl, rfl⟩)
          | (refine wpList_index48 rfl (.tmp 12) (.tmp 13) rfl _ 1 _ rfl rfl (by decide) rfl ?_))
        go_ret2
        exact ⟨.inr ⟨HO.out, rfl⟩, HB0.out⟩
      | true =>
        have HMA := Lib.hid (fun w => may_any7 y w)
        have HO : Hid (∀ j, j < 2 → okN x y z u j = true) := Lib.hid fun j hj => by
          by_cases e : j = 1
          · subst e; exact hm
          · exact hok j (by omega)
        rw [hm] at HMA
        clear hm hok
        go_wp2_with (first
          | (go_at_call 126; refine (HMA.out _).mono ?_; rintro e w7 ⟨rfl, rfl⟩)
          | (refine wpList_index48 rfl (.tmp 12) (.tmp 13) rfl _ 1 _ rfl rfl (by decide) rfl ?_))
        go_round
        case rel => exact ⟨2, by omega, by go_num, HO.out⟩
        case measure => simp [intOf]
    · have hd : decide ((2 : Int) < 4) = true := rfl
      cases hm : mayI z with
      | false =>
        have HO : Hid (okL x y z u = false) := Lib.hid (by unfold okL; rw [hm]; simp)
        have HMA := Lib.hid (fun w => may_any7 z w)
        rw [hm] at HMA
        clear hm hok
        go_wp2_with (first
          | (go_at_call 126; refine (HMA.out _).mono ?_; rintro e w7 ⟨rfl, rfl⟩)
          | (refine wpList_index48 rfl (.tmp 12) (.tmp 13) rfl _ 2 _ rfl rfl (by decide) rfl ?_))
        go_ret2
        exact ⟨.inr ⟨HO.out, rfl⟩, HB0.out⟩
      | true =>
        have HMA := Lib.hid (fun w => may_any7 z w)
        have HO : Hid (∀ j, j < 3 → okN x y z u j = true) := Lib.hid fun j hj => by
          by_cases e : j = 2
          · subst e; exact hm
          · exact hok j (by omega)
        rw [hm] at HMA
        clear hm hok
        go_wp2_with (first
          | (go_at_call 126; refine (HMA.out _).mono ?_; rintro e w7 ⟨rfl, rfl⟩)
          | (refine wpList_index48 rfl (.tmp 12) (.tmp 13) rfl _ 2 _ rfl rfl (by decide) rfl ?_))
        go_round
        case rel => exact ⟨3, by omega, by go_num, HO.out⟩
        case measure => simp [intOf]
    · have hd : decide ((3 : Int) < 4) = true := rfl
      cases hm : mayI u with
      | false =>
        have HO : Hid (okL x y z u = false) := Lib.hid (by unfold okL; rw [hm]; simp)
        have HMA := Lib.hid (fun w => may_any7 u w)
        rw [hm] at HMA
        clear hm hok
        go_wp2_with (first
          | (go_at_call 126; refine (HMA.out _).mono ?_; rintro e w7 ⟨rfl, rfl⟩)
          | (refine wpList_index48 rfl (.tmp 12) (.tmp 13) rfl _ 3 _ rfl rfl (by decide) rfl ?_))
        go_ret2
        exact ⟨.inr ⟨HO.out, rfl⟩, HB0.out⟩
      | true =>
        have HMA := Lib.hid (fun w => may_any7 u w)
        have HO : Hid (∀ j, j < 4 → okN x y z u j = true) := Lib.hid fun j hj => by
          by_cases e : j = 3
          · subst e; exact hm
          · exact hok j (by omega)
        rw [hm] at HMA
        clear hm hok
        go_wp2_with (first
          | (go_at_call 126; refine (HMA.out _).mono ?_; rintro e w7 ⟨rfl, rfl⟩)
          | (refine wpList_index48 rfl (.tmp 12) (.tmp 13) rfl _ 3 _ rfl rfl (by decide) rfl ?_))
        go_round
        case rel => exact ⟨4, by omega, by go_num, HO.out⟩
        case measure => simp [intOf]
    · have HO := Lib.hid (okN_all hok)
      clear hok hi
      have hd : decide ((4 : Int) < 4) = false := rfl
      have HLV := Lib.hid (lvF_lt HO.out)
      obtain ⟨Z0, HZ0⟩ : ∃ Z0, Hid (Z0 = List.replicate 512 0) := ⟨_, Lib.hid rfl⟩
      obtain ⟨hx, hy, hzz, hu⟩ := okL_nat HO.out
      obtain ⟨i0, hi, hz0, hz1, hz2⟩ := info_parts Tryz.info5
      have hmk : ∀ w : World, (Instr.makeSlice 94 (.int .i64 512) (.int .i64 512)).run Tryz.prog w = .ok (.slice (some ⟨w.heap.size, 0, none⟩) 512 512) (w.alloc (.cells (u8s Z0).toArray 5)) := fun w => by
        have h := run_make (P := Tryz.prog) w 94 5 i0 _ Tryz.underlying94 hi hz0 .i64 .i64 ((512 : Nat) : Int) ((512 : Nat) : Int) (by omega) (by omega) (by rw [hz2]; omega) (by omega)
        rw [hz1, Int.toNat_natCast, Nat.mul_one] at h
        rw [HZ0.out, ← zeros_of 512, Array.toArray_toList]
        exact h
      have hl0 : (Tryz.prog.info? 5).map (·.size) = some 1 := by kernel_rfl
      have HP := Lib.hid hl0
      have HW1 : Hid (Below W.heap.size W (W.alloc (.cells (u8s Z0).toArray 5))) := Lib.hid ((Below.refl _ _).alloc (Nat.le_refl _) _)
      have HH1 : Hid ((W.alloc (.cells (u8s Z0).toArray 5)).heap[W.heap.size]? = some (.cells (u8s Z0).toArray 5 (0, 0))) := Lib.hid (heap_alloc_new W _)
      have HDW : Hid (w.heap.size < W.heap.size) := Lib.hid (by rw [HSZ.out]; omega)
      have HLay := Lib.hid (lay_any w.heap.size 0 4 4 (lvF x y z u) (W.alloc (.cells (u8s Z0).toArray 5)) (by omega) HLV.out (fun j hj => by
        have e : ∀ t : Int, 0 ≤ t → ((t.toNat : Nat) : Int) = t := fun t ht => Int.toNat_of_nonneg ht
        rw [Nat.zero_add]
        refine (HW1.out.cell (p := ⟨w.heap.size, j, none⟩) HDW.out).trans ?_
        rcases (show j = 0 ∨ j = 1 ∨ j = 2 ∨ j = 3 by omega) with rfl | rfl | rfl | rfl
        · rw [k0]; show some (Value.int .i64 x) = some (.int .i64 ((x.toNat : Nat) : Int)); rw [e x hx.1]
        · rw [k1]; show some (Value.int .i64 y) = some (.int .i64 ((y.toNat : Nat) : Int)); rw [e y hy.1]
        · rw [k2]; show some (Value.int .i64 z) = some (.int .i64 ((z.toNat : Nat) : Int)); rw [e z hzz.1]
        · rw [k3]; show some (Value.int .i64 u) = some (.int .i64 ((u.toNat : Nat) : Int)); rw [e u hu.1]))
      have HK4 := Lib.hid k4
      clear hi hz0 hz1 hz2 hl0 hx hy hzz hu k0 k1 k2 k3 k4 HD HSize HSZ
      go_upto_region 10 with fail
      generalize W.alloc _ = W1 at *
      have HB2 : Hid (Below w.heap.size w W1) := Lib.hid (HB0.out.trans (HW1.out.mono HB0.out.size))
      have HL16 : Hid ((u8s (fours (lvF x y z u) 4)).length = 16) := Lib.hid (by rw [u8s_len, fours_len])
      have HL512 : Hid ((u8s Z0).length = 512) := Lib.hid (by rw [HZ0.out, u8s_len, List.length_replicate])
      go_upto_region 11 with (first
        | (go_at_call 123; refine HLay.out.mono ?_; rintro e w2 ⟨⟨p1, c1, rfl, hB1, hc1, hd1⟩, hb2⟩)
        | (refine wpList_copy_splice (w := w2) rfl (.tmp 21) (.tmp 24) 94 94 rfl 5 Tryz.underlying94 HP.out (some ⟨W.heap.size, 0, none⟩) p1 512 512 (4 * 4) c1 rfl rfl W.heap.size 0 (u8s Z0) 5 ((hb2.block W.heap.size (lt_of_block HH1.out)).trans HH1.out) (u8s (fours (lvF x y z u) 4)) (by rw [HL16.out]; rfl)
            (fun h => ⟨rfl, hB1.cells (by omega)⟩) (by rw [HL16.out, HL512.out]; omega) (u8s_one _) W.heap.size w2 (Below.refl _ _) (Nat.le_refl _) ?_; intro w3 hh3 hb3))
      have HW3 : Hid (Below W.heap.size W w3) := Lib.hid ((HW1.out.trans (hb2.mono HW1.out.size)).trans hb3)
      have HH3 : Hid (w3.heap[W.heap.size]? = some (.cells (u8s (fours (lvF x y z u) 4 ++ List.replicate 496 0)).toArray 5 (0, 0))) := Lib.hid (by
        have h := hh3.out
        rwa [HZ0.out, spl1 _ (fours_len _ _)] at h)
      have HC3 : Hid (w3.cell? ⟨w.heap.size, 4, none⟩ = some (.pointer (some ⟨gs, 0, none⟩))) := Lib.hid ((HW3.out.cell (p := ⟨w.heap.size, 4, none⟩) HDW.out).trans HK4.out)
      have HS3 := Lib.hid (HS.out.below HW3.out)
      have HBt : Hid (∀ w', Sat w' gs bs 512 f → Calls Tryz.prog 114 #[.pointer (some ⟨gs, 0, none⟩)] w' fun e w'' => (∃ p c, e = .returned (.slice p 64 c) ∧ Bys w'' p 64 (rowF f 64)) ∧ Below w'.heap.size w' w'') := Lib.hid fun w' h => bytes_any h
      have HL3 : Hid ((u8s (fours (lvF x y z u) 4 ++ List.replicate 496 0)).length = 512) := Lib.hid (by rw [u8s_len, List.length_append, fours_len, List.length_replicate])
      have HL64 : Hid ((u8s (rowF f 64)).length = 64) := Lib.hid (by rw [u8s_len, rowF_len])
      clear hh3 hb3 hb2 hB1 hc1 hd1 HLay hmk
      have HCU : Hid (splice (u8s (fours (lvF x y z u) 4 ++ List.replicate 496 0)) 16 (u8s (rowF f 64)) = u8s (dirB x y z u f)) := Lib.hid (spl2 _ _ (fours_len _ _) (rowF_len _ _))
      generalize u8s (fours (lvF x y z u) 4 ++ List.replicate 496 0) = CU at *
      refine wp_region_held_drew (S := fun w' => w'.cell? ⟨w.heap.size, 4, none⟩ = some (.pointer (some ⟨gs, 0, none⟩))) (by kernel_rfl) HC3.out (fun hS => ?_)
      try simp only [List.getElem_toArray, List.getElem_cons_succ, List.getElem_cons_zero, Act.put, List.setIfInBounds_toArray, List.set_cons_succ, List.set_cons_zero]
      refine wpAnyH_take (i := 0) (v := .slice (some ⟨W.heap.size, 0, none⟩) 512 512) rfl (by kernel_rfl) (by kernel_rfl) (by kernel_rfl) (fun _ _ _ h => h) (Or.inl ⟨by rfl, fun w' hw => by go_simp⟩) hS ?_
      try simp only [List.getElem_toArray, List.getElem_cons_succ, List.getElem_cons_zero, Act.put, List.setIfInBounds_toArray, List.set_cons_succ, List.set_cons_zero]
      refine wpAnyH_take (i := 1) (v := .slice (some ⟨W.heap.size, 16, none⟩) 496 496) rfl (by kernel_rfl) (by kernel_rfl) (by kernel_rfl) (fun _ _ _ h => h) (Or.inl ⟨by rfl, fun w' hw => by go_simp⟩) hS ?_
      try simp only [List.getElem_toArray, List.getElem_cons_succ, List.getElem_cons_zero, Act.put, List.setIfInBounds_toArray, List.set_cons_succ, List.set_cons_zero]
      refine wpAnyH_take (i := 2) (v := .pointer (some ⟨w.heap.size, 4, none⟩)) rfl (by kernel_rfl) (by kernel_rfl) (by kernel_rfl) (fun _ _ _ h => h) (Or.inl ⟨by rfl, fun w' hw => by go_simp⟩) hS ?_
      try simp only [List.getElem_toArray, List.getElem_cons_succ, List.getElem_cons_zero, Act.put, List.setIfInBounds_toArray, List.set_cons_succ, List.set_cons_zero]
      refine wpAnyH_take (i := 3) (v := .pointer (some ⟨gs, 0, none⟩)) rfl (by kernel_rfl) (by kernel_rfl) (by kernel_rfl) (fun _ _ _ h => h) (Or.inl ⟨by rfl, fun w' hw => by go_simp⟩) hS ?_
      try simp only [List.getElem_toArray, List.getElem_cons_succ, List.getElem_cons_zero, Act.put, List.setIfInBounds_toArray, List.set_cons_succ, List.set_cons_zero]
      refine wpAnyH_ready (rs := [4]) (by kernel_rfl) (by simp) ?_
      refine AllReadyH.cons rfl (fun K hK => ?_) AllReadyH.nil
      rw [if_pos (by rfl)]
      try simp only [List.getElem_toArray, List.getElem_cons_succ, List.getElem_cons_zero, Act.put, List.setIfInBounds_toArray, List.set_cons_succ, List.set_cons_zero]
      go_simp
      go_at_call 114
      refine (HBt.out _ HS3.out.drew).mono ?_
      rintro e w5 ⟨⟨p2, c2, rfl, hB2⟩, hb5⟩
      refine hK.out _ _ ((hb5.cell (p := ⟨w.heap.size, 4, none⟩) (World.block_lt_of_cell? w3 _ HC3.out)).trans hS) (fun hS5 => ?_)
      clear hK K
      refine wpAnyH_ready (rs := [5]) (by kernel_rfl) (by simp) ?_
      refine AllReadyH.cons rfl (fun K hK => ?_) AllReadyH.nil
      refine step_copy_splice rfl (.tmp 27) (.tmp 30) 94 94 rfl 5 Tryz.underlying94 HP.out (some ⟨W.heap.size, 16, none⟩) p2 496 496 64 c2 rfl rfl W.heap.size 16 CU 5 ((hb5.block W.heap.size (lt_of_block HH3.out)).trans HH3.out) (u8s (rowF f 64)) (by rw [HL64.out]; rfl)
        (fun h => ⟨rfl, hB2.cells (by omega)⟩) (by rw [HL64.out, HL3.out]; omega) (u8s_one _) W.heap.size w5 (Below.refl _ _) (Nat.le_refl _) ?_
      intro w6 hh6 hb6
      have HH6 := Lib.hid hh6.out
      rw [HCU.out] at HH6
      refine hK.out _ _ ((hb6.cell (p := ⟨w.heap.size, 4, none⟩) HDW.out).trans hS5) (fun _ => ?_)
      clear hK K hh6
      refine wpAnyH_done (by kernel_rfl) ?_ _
      have HBF : Hid (Below w.heap.size w w6) := Lib.hid ((((HB0.out.trans (HW3.out.mono HB0.out.size)).drew).trans (hb5.mono (by have := HB0.out.size; have := HW3.out.size; show w.heap.size ≤ w3.heap.size; omega))).trans (hb6.mono (by have := HDW.out; omega)))
      clear hb5 hb6 hB2
      go_wp2_with fail
      go_ret2
      refine ⟨.inl ⟨HO.out, _, _, rfl, ⟨dirB_len _ _ _ _ _, dirB_dig HO.out f, fun _ => ⟨W.heap.size, 0, rfl, fun j hj => ?_⟩⟩, by omega, by omega⟩, HBF.out⟩
      rw [cell_of_row _ _ _ _ _ _ HH6.out, Nat.zero_add, ← Array.getElem?_toList]
      exact u8s_get _ _ (by rw [dirB_len]; exact hj)
end Go.Proofs.YthcnofdihigohaaGreat.Tb
end
