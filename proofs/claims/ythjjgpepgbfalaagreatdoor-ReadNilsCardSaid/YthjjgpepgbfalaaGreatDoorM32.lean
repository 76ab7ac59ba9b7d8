/- Texts RdZ3 to LwDoor of this seat, laid into one. -/
import Derived.Test.YthjjgpepgbfalaaGreatDoorRows
import Derived.ProofKit
import Derived.OpenShut
import Derived.ChangeSame
import Derived.SizedLaws
import Derived.Carry
import Derived.Shelf.Vars
import Derived.Lay
import Derived.LaidOnce
import Derived.LaidHandle
import Derived.LaidMore
import Derived.Test.YthjjgpepgbfalaaGreatDoorM04
import Derived.Test.YthjjgpepgbfalaaGreatDoorM31
set_option linter.unusedVariables false
set_option linter.unusedSimpArgs false
set_option linter.constructorNameAsVariable false
section
/-! lives. -/
set_option maxRecDepth 20000
set_option linter.unusedSimpArgs false
set_option linter.unusedVariables false
namespace Go.Proofs.YthjjgpepgbfalaaGreatDoor
open Go.RowKit Go.Shelf

section
variable {w0 : World}
set_option maxHeartbeats 3200000 in
theorem lives_any (hE : Lx.Env w0) : Calls Tryz.prog 7 #[] w0 fun e w' => e = .returned (.bool true) ∧ Below w0.heap.size w0 w' := by
  have HN : Hid (Calls Tryz.prog 8 #[.int .i64 20] w0 fun e w' => ∃ g F, e = .returned (.tuple #[.pointer (some ⟨g, 0, none⟩), .int .i64 0]) ∧ Hep w' g F (newM 20) ∧ (∀ k, F k → w0.heap.size ≤ k) ∧ w0.heap.size ≤ g ∧ Below w0.heap.size w0 w') := Lib.hid (new_any 20 (by decide) (by decide) w0)
  have HE := Lib.hid hE
  have he1 := eqlV (2, 1) (2, 1)
  have he2 := eqlV (8, 0) (8, 0)
  rw [decide_eq_true rfl] at he1 he2
  simp only at he1 he2
  have hnm : Sy.nameM [⟨#[113, 117, 111, 116, 101]⟩, ⟨#[120]⟩] 0 = ⟨#[113, 117, 111, 116, 101]⟩ := by kernel_rfl
  have HNM := Lib.hid hnm
  clear hE hnm
  go_enter Tryz.func7, Tryz.ntmps7
  go_upto_region 4 with (first
    | (go_at_call 12; with_reducible refine (HR.out.ex1 HE.out).mono ?_; rintro e w3 ⟨rfl, hr3, -, -⟩; have HR3 := Lib.hid hr3; clear hr3)
    | (go_at_call 9; with_reducible refine (Sy.new_any _).mono ?_; rintro e w2 ⟨gt, Ft, rfl, ht, hFt, hb2⟩; have HR := Lib.hid (RS.start h1.1 h1.2.1 h1.2.2.2 ht hFt hb2); clear ht hFt hb2)
    | (go_at_call 8; with_reducible refine HN.out.mono ?_; rintro e w1 ⟨g, F, rfl, h1⟩))
  have hR4 := HR3.out.own (.cells #[.int .i64 8, .int .i64 0] 36)
  have hx4 := heap_alloc_new w3 (.cells #[.int .i64 8, .int .i64 0] 36)
  have hz4 : (w3.alloc (.cells #[.int .i64 8, .int .i64 0] 36)).heap.size = w3.heap.size + 1 := World.size_alloc ..
  have c40 := cell_of_row _ _ 0 _ _ _ hx4
  have c41 := cell_of_row _ _ 1 _ _ _ hx4
  simp only [List.getElem?_toArray, List.getElem?_cons_zero, List.getElem?_cons_succ] at c40 c41
  have HR4 := Lib.hid hR4
  have HX4 := Lib.hid hx4
  have HZ4 := Lib.hid hz4
  clear hR4 hx4 hz4 HR3 HR
  generalize w3.alloc (.cells #[.int .i64 8, .int .i64 0] 36) = w4 at *
  have HPR : Hid (Calls Tryz.prog 14 #[.pointer (some ⟨g, 0, none⟩), .agg #[.int .i64 8, .int .i64 0]] w4 fun e w' => e = .returned (.tuple #[.agg #[.int .i64 2, .int .i64 1], .agg #[.int .i64 8, .int .i64 0], .bool true]) ∧ Below w4.heap.size w4 w') := Lib.hid (by
    have := HR4.out.pair 8 0 ⟨by decide, by decide⟩
    rw [mA_pair] at this
    exact this)
  go_upto_region 5 with (go_at_call 14; with_reducible refine HPR.out.mono ?_; rintro e w5 ⟨rfl, hb5⟩; have HB5 := Lib.hid hb5; clear hb5)
  have hb6 : Below w5.heap.size w5 ((w5.alloc (.cells #[.int .i64 2, .int .i64 1] 36)).alloc (.cells #[.int .i64 8, .int .i64 0] 36)) := ((Below.refl _ _).alloc (Nat.le_refl _) _).alloc (by simp) _
  have hz6 : ((w5.alloc (.cells #[.int .i64 2, .int .i64 1] 36)).alloc (.cells #[.int .i64 8, .int .i64 0] 36)).heap.size = w5.heap.size + 2 := by simp
  have hR6 := ((((HR4.out.below HB5.out).own (.cells #[.int .i64 2, .int .i64 1] 36)).own (.cells #[.int .i64 8, .int .i64 0] 36))).less (Q := fun k => k = w3.heap.size ∨ k = w5.heap.size ∨ k = w5.heap.size + 1) (by
    rintro k (e | e | e)
    · exact .inl (.inl (.inr e))
    · exact .inl (.inr e)
    · refine .inr ?_
      rw [World.size_alloc]; exact e)
  have hx3 : ((w5.alloc (.cells #[.int .i64 2, .int .i64 1] 36)).alloc (.cells #[.int .i64 8, .int .i64 0] 36)).heap[w3.heap.size]? = some (.cells #[.int .i64 8, .int .i64 0] 36 (0, 0)) := by
    have h5 := HB5.out.size
    have h4 := HZ4.out
    exact (hb6.block _ (by omega)).trans ((HB5.out.block _ (by omega)).trans HX4.out)
  have hx5 : ((w5.alloc (.cells #[.int .i64 2, .int .i64 1] 36)).alloc (.cells #[.int .i64 8, .int .i64 0] 36)).heap[w5.heap.size]? = some (.cells #[.int .i64 2, .int .i64 1] 36 (0, 0)) := (Below.heap_alloc _ _ _ (by simp)).trans (heap_alloc_new w5 _)
  have hx6 : ((w5.alloc (.cells #[.int .i64 2, .int .i64 1] 36)).alloc (.cells #[.int .i64 8, .int .i64 0] 36)).heap[w5.heap.size + 1]? = some (.cells #[.int .i64 8, .int .i64 0] 36 (0, 0)) := by
    have := heap_alloc_new (w5.alloc (.cells #[.int .i64 2, .int .i64 1] 36)) (.cells #[.int .i64 8, .int .i64 0] 36)
    rw [World.size_alloc] at this; exact this
  generalize (w5.alloc (.cells #[.int .i64 2, .int .i64 1] 36)).alloc (.cells #[.int .i64 8, .int .i64 0] 36) = w6 at *
  have HR6 := Lib.hid hR6
  have HX := Lib.hid (And.intro hx3 (And.intro hx5 hx6))
  clear hR6 hx3 hx5 hx6 hb6 hz6 HR4 HX4 HZ4 HPR HB5 c40 c41
  go_upto_region 6 with (go_at_call 12; with_reducible refine (HR6.out.ex2 HE.out).mono ?_; rintro e w7 ⟨rfl, hr7, hp7, hz7⟩; have HR7 := Lib.hid hr7; have HP7 := Lib.hid hp7; have HZ7 := Lib.hid hz7; clear hr7 hp7 hz7)
  have hX7 : (w7.heap[w3.heap.size]? = some (.cells #[.int .i64 8, .int .i64 0] 36 (0, 0)) ∧ w7.heap[w5.heap.size]? = some (.cells #[.int .i64 2, .int .i64 1] 36 (0, 0)) ∧ w7.heap[w5.heap.size + 1]? = some (.cells #[.int .i64 8, .int .i64 0] 36 (0, 0))) :=
    ⟨(HP7.out _ (.inl rfl)).trans HX.out.1, (HP7.out _ (.inr (.inl rfl))).trans HX.out.2.1, (HP7.out _ (.inr (.inr rfl))).trans HX.out.2.2⟩
  have hR8 := HR7.out.own (.cells #[.int .i64 8, .int .i64 2] 36)
  have hx8 := heap_alloc_new w7 (.cells #[.int .i64 8, .int .i64 2] 36)
  have hb8 := alloc_below w7 (.cells #[.int .i64 8, .int .i64 2] 36)
  have c80 := cell_of_row _ _ 0 _ _ _ hx8
  have c81 := cell_of_row _ _ 1 _ _ _ hx8
  simp only [List.getElem?_toArray, List.getElem?_cons_zero, List.getElem?_cons_succ] at c80 c81
  have HX7 := Lib.hid hX7
  have HB8 := Lib.hid hb8
  have HR8 := Lib.hid hR8
  clear hX7 hR8 hx8 hb8 HX HP7 HR7 HR6 HZ7
  generalize w7.alloc (.cells #[.int .i64 8, .int .i64 2] 36) = w8 at *
  have HLS := Lib.hid (mB_list HR8.out)
  go_upto_region 7 with (go_at_call 13; with_reducible refine HLS.out.mono ?_; rintro e w9 ⟨q, c, rfl, ⟨x0, x1⟩, hb9⟩; have HB9 := Lib.hid hb9; clear hb9)
  have hr : ∀ {k : Nat} {cs : Array Value}, w7.heap[k]? = some (.cells cs 36 (0, 0)) → w9.heap[k]? = some (.cells cs 36 (0, 0)) := fun {k cs} hk => (HB9.out.block _ (Nat.lt_of_lt_of_le (lt_of_block hk) HB8.out.size)).trans ((HB8.out.block _ (lt_of_block hk)).trans hk)
  have a3 := Bx2.of (hr HX7.out.1)
  have a5 := Bx2.of (hr HX7.out.2.1)
  have a6 := Bx2.of (hr HX7.out.2.2)
  have e30 := a3.c0; have e31 := a3.c1; have e50 := a5.c0; have e51 := a5.c1; have e60 := a6.c0; have e61 := a6.c1
  have HNA : Hid (Calls Tryz.prog 16 #[.pointer (some ⟨gt, 0, none⟩), .int .i64 0] w9 fun e w' => e = .returned (.string ⟨#[113, 117, 111, 116, 101]⟩) ∧ w9 = w') := Lib.hid (by
    have := (HR8.out.below HB9.out).name 0
    rw [HNM.out] at this
    exact this)
  have HLOW := Lib.hid (HR8.out.below HB9.out).low
  clear a3 a5 a6 hr HLS HR8 HX7 c80 c81
  go_wp2_with (go_at_call 16; with_reducible refine HNA.out.mono ?_; rintro e w10 ⟨rfl, rfl⟩)
  go_ret
  exact ⟨rfl, HLOW.out⟩
end
end Go.Proofs.YthjjgpepgbfalaaGreatDoor
end
section
/-! ReadNils, walked. -/
set_option maxRecDepth 20000
set_option linter.unusedSimpArgs false
set_option linter.unusedVariables false
namespace Go.Proofs.YthjjgpepgbfalaaGreatDoor
open Go.RowKit Go.Shelf

section
variable {w0 w w1 w2 w' : World} {g gt : Nat} {m : Hm} {N : List ByteArray} {P : Nat → Prop}
theorem RS.allN (h : RS w0 w g gt m N P) (hE : Lx.Env w0) (T : ByteArray) (hS : T.size ≤ 9223372036854775807) (hN : T.size ≤ 4096 → N.length + 2 * T.size ≤ 16383) :
    Calls Tryz.prog 10 #[.pointer (some ⟨g, 0, none⟩), .pointer (some ⟨gt, 0, none⟩), .string T] w fun e w' => (∃ v, e = .returned v) ∧ ∃ m1 N1 R, RS w0 w' g gt m1 N1 P ∧ N1 = N ++ R ∧ (4096 < T.size → R = []) ∧ R.length ≤ 2 * T.size ∧ (∀ k, P k → w'.heap[k]? = w.heap[k]?) ∧ w.heap.size ≤ w'.heap.size := by
  have hlen : (Lx.tl T).length = T.size := Lx.tl_len T
  have hP : ∀ k, P k → k < w.heap.size := fun k hk => by obtain ⟨F, Ft, -, -, h3⟩ := h.st; exact (h3 k hk).2
  have hsame : ∀ w', Below w.heap.size w w' → ∃ m1 N1 R, RS w0 w' g gt m1 N1 P ∧ N1 = N ++ R ∧ (4096 < T.size → R = []) ∧ R.length ≤ 2 * T.size ∧ (∀ k, P k → w'.heap[k]? = w.heap[k]?) ∧ w.heap.size ≤ w'.heap.size := fun w' hb =>
    ⟨m, N, [], h.below hb, by simp, fun _ => rfl, by simp, fun k hk => hb.block k (hP k hk), hb.size⟩
  refine (h.all hE T hS hN).mono fun e w' he => ?_
  unfold AllS at he
  cases hp : parseT (Lx.tl T) with
  | mk r nx =>
  obtain ⟨n, x⟩ := nx
  rw [hp] at he
  cases r with
  | none => exact ⟨⟨_, he.1⟩, hsame w' he.2.2⟩
  | some A =>
    obtain ⟨hA, -, -⟩ := parsed hp
    simp only at he
    split at he
    · exact ⟨⟨_, he.1⟩, hsame w' he.2⟩
    · rename_i hf
      obtain ⟨q, c, h1, -, h3, h4, h5⟩ := he
      obtain ⟨R, hR⟩ := foldB_pre (pre A 0) (m, N, A)
      have hR2 : bldN m N A = N ++ R := hR
      have hl := foldB_names m N A (pre A 0)
      have hl2 : (bldN m N A).length ≤ N.length + (pre A 0).length := hl
      rw [hR2, List.length_append] at hl2
      obtain ⟨-, -, h8⟩ := hA.objs
      have h9 := hA.short
      exact ⟨⟨_, h1⟩, _, _, R, h3, hR2, fun h => by omega, by omega, h4, h5⟩
/-- Newer blocks are the law's own. -/
theorem RS.plus (h : RS w0 w1 g gt m N P) (hb : Below w1.heap.size w1 w2) {Q : Nat → Prop} (hq : ∀ k, Q k → w1.heap.size ≤ k ∧ k < w2.heap.size) : RS w0 w2 g gt m N Q := by
  obtain ⟨F, Ft, h1, h2, h3⟩ := h.st
  exact ⟨⟨F, Ft, h1.below hb, h2, fun k hk => ⟨fun e => by have := h1.lt k e; have := (hq k hk).1; omega, (hq k hk).2⟩⟩, (h.below hb).low, h.rdy⟩
end
/-- The first names, as cells. -/
def strL (N : List ByteArray) (k : Nat) : List Value := (List.range k).map fun i : Nat => Value.string (Sy.nameM N (i : Int))
theorem strL_succ (N : List ByteArray) (k : Nat) : strL N (k + 1) = strL N k ++ [.string (Sy.nameM N (k : Int))] := by unfold strL; rw [List.range_succ, List.map_append]; rfl
theorem strL_get (N : List ByteArray) (n k : Nat) (h : k < n) : (strL N n)[k]? = some (.string (Sy.nameM N (k : Int))) := by
  unfold strL
  rw [List.getElem?_map, List.getElem?_range h]; rfl
theorem nameM_app (N R : List ByteArray) (k : Nat) (h : k < N.length) : Sy.nameM (N ++ R) (k : Int) = Sy.nameM N (k : Int) := by
  unfold Sy.nameM
  simp [List.getElem?_append_left h]
set_option maxHeartbeats 3200000 in
theorem nils_walk (S T : ByteArray) (w : World) (hE : Lx.Env w) (hS : S.size ≤ 9223372036854775807) (hT : T.size ≤ 9223372036854775807) :
    Calls Tryz.prog 5 #[.string S, .string T] w fun e w' => e = .returned (.bool true) ∧ Below w.heap.size w w' := by
  have HE := Lib.hid hE
  have HLV : Hid (∀ w1, Below w.heap.size w w1 → Calls Tryz.prog 7 #[] w1 fun e w' => e = .returned (.bool true) ∧ Below w.heap.size w w') := Lib.hid fun w1 hb => (lives_any (HE.out.below hb)).mono fun e w' ⟨h1, h2⟩ => ⟨h1, hb.trans (h2.mono hb.size)⟩
  have HSZ : Hid (¬ 1000 < wrap64 ((S.size : Int) + (T.size : Int)) → S.size ≤ 4096 → T.size ≤ 4096 → S.size + T.size ≤ 1000) := Lib.hid fun h1 h2 h3 => by
    rw [IntWalk.wrap64_in _ ⟨by omega, by omega⟩] at h1
    omega
  have HS := Lib.hid hS
  have HT := Lib.hid hT
  obtain ⟨Z, hZ⟩ : ∃ Z, wrap64 ((S.size : Int) + (T.size : Int)) = Z := ⟨_, rfl⟩
  rw [hZ] at HSZ
  have HN : Hid (Calls Tryz.prog 8 #[.int .i64 5000] w fun e w' => ∃ g F, e = .returned (.tuple #[.pointer (some ⟨g, 0, none⟩), .int .i64 0]) ∧ Hep w' g F (newM 5000) ∧ (∀ k, F k → w.heap.size ≤ k) ∧ w.heap.size ≤ g ∧ Below w.heap.size w w') := Lib.hid (new_any 5000 (by decide) (by decide) w)
  clear hE hS hT
  by_cases hbig : 1000 < Z
  · have hd : decide ((1000 : Int) < Z) = true := decide_eq_true hbig
    have HLV0 := Lib.hid (HLV.out w (Below.refl _ _))
    go_enter Tryz.func5, Tryz.ntmps5
    go_wp2_with (go_at_call 7; with_reducible refine HLV0.out.mono ?_; rintro e w1 ⟨rfl, hb⟩)
    go_ret
    exact ⟨rfl, hb⟩
  · have hd : decide ((1000 : Int) < Z) = false := decide_eq_false hbig
    have HSW := Lib.hid (HSZ.out hbig)
    clear hbig HSZ
    go_enter Tryz.func5, Tryz.ntmps5
    go_upto_region 7 with (first
      | (go_at_call 12; with_reducible refine (one_nil (some ⟨g, 0, none⟩) S _ (.inr ⟨g, rfl⟩)).mono ?_; rintro e w4 ⟨rfl, hb4⟩; have HB4 := Lib.hid hb4; clear hb4)
      | (go_at_call 10; with_reducible refine (all_nil (some ⟨gt, 0, none⟩) S _).mono ?_; rintro e w3 ⟨rfl, rfl⟩)
      | (go_at_call 9; with_reducible refine (Sy.new_any _).mono ?_; rintro e w2 ⟨gt, Ft, rfl, ht, hFt, hb2⟩; have HR := Lib.hid (RS.start h1.1 h1.2.1 h1.2.2.2 ht hFt hb2); clear ht hFt hb2)
      | (go_at_call 8; with_reducible refine HN.out.mono ?_; rintro e w1 ⟨g, F, rfl, h1⟩))
    have hR5 := (HR.out.below HB4.out).below (alloc_below w4 (.cells #[.int .i64 0, .int .i64 0] 36))
    have HR5 := Lib.hid hR5
    clear hR5 HR HB4 h1
    generalize w4.alloc (.cells #[.int .i64 0, .int .i64 0] 36) = w5 at *
    have HA1 : Hid (Calls Tryz.prog 10 #[.pointer (some ⟨g, 0, none⟩), .pointer (some ⟨gt, 0, none⟩), .string S] w5 fun e w' => ∃ v m1 N1 R, e = .returned v ∧ RS w w' g gt m1 N1 (fun x => False) ∧ N1 = [] ++ R ∧ (4096 < S.size → R = []) ∧ R.length ≤ 2 * S.size ∧ w5.heap.size ≤ w'.heap.size) := Lib.hid ((HR5.out.allN HE.out S HS.out (fun h => by show 0 + 2 * S.size ≤ 16383; omega)).mono fun e w' ⟨⟨v, hv⟩, m1, N1, R, h1, h2, h3, h4, h5, h6⟩ => ⟨v, m1, N1, R, hv, h1.less (fun k hk => hk), h2, h3, h4, h6⟩)
    go_upto_region 11 with (go_at_call 10; with_reducible refine HA1.out.mono ?_; rintro e w6 ⟨v6, m1, N1, R1, rfl, hr6, hN1, hR1, hR2, -⟩; have HR6 := Lib.hid hr6; have HN1 := Lib.hid (And.intro hN1 (And.intro hR1 hR2)); clear hr6 hN1 hR1 hR2)
    obtain ⟨i0, hi0, hz0, hz1, hz2⟩ := info_parts (Sy.info9)
    have HI0 := Lib.hid hi0
    have HZ0 := Lib.hid hz0
    have HZ1 := Lib.hid hz1
    have HZ2 := Lib.hid hz2
    obtain ⟨n, hn⟩ : ∃ n, N1.length = n := ⟨_, rfl⟩
    have HNL : Hid (n ≤ 8192 ∧ (4096 < S.size → n = 0) ∧ n ≤ 2 * S.size) := Lib.hid (by
      obtain ⟨h1, h2, h3⟩ := HN1.out
      rw [h1] at hn
      simp at hn
      refine ⟨?_, fun h => ?_, by omega⟩
      · rcases Nat.lt_or_ge 4096 S.size with h | h
        · have := h2 h; rw [this] at hn; simp at hn; omega
        · omega
      · have := h2 h; rw [this] at hn; simpa using hn.symm)
    have HNN := Lib.hid hn
    have HLEN : Hid (∀ u, Below w6.heap.size w6 u → Calls Tryz.prog 15 #[.pointer (some ⟨gt, 0, none⟩)] u fun e w' => e = .returned (.int .i64 (n : Int)) ∧ u = w') := Lib.hid fun u hu => by
      have := (HR6.out.below hu).len
      rw [hn] at this
      exact this
    have HNAME : Hid (∀ u, Below w6.heap.size w6 u → ∀ k : Nat, Calls Tryz.prog 16 #[.pointer (some ⟨gt, 0, none⟩), .int .i64 (k : Int)] u fun e w' => e = .returned (.string (Sy.nameM N1 (k : Int))) ∧ u = w') := Lib.hid fun u hu k => (HR6.out.below hu).name k
    have hnI : (n : Int) ≤ 8192 := by have := HNL.out; omega
    clear hi0 hz0 hz1 hz2 hn
    go_upto_region 12 with fail
    go_loopw [14, 15] (fun v iv wr => ∃ k : Nat, k ≤ n ∧ iv = .int .i64 (k : Int) ∧ Hid (wr.ownsRow w6.heap.size 9 1 v k (strL N1 k)) ∧ Hid (Below w6.heap.size w6 wr)) (fun _ iv _ => n - (RowKit.intOf iv).toNat)
    case atStart => exact ⟨0, by omega, by go_num, Lib.hid (World.ownsRow_nil _ _ _ _), Lib.hid (Below.refl _ _)⟩
    case round =>
      obtain ⟨k, hk, rfl, HO, HB⟩ := hrel
      by_cases hlt : k < n
      · have d1 : decide ((k : Int) < (n : Int)) = true := decide_eq_true (by omega)
        have d2 : decide (k < n) = true := decide_eq_true hlt
        have hkI : (k : Int) < (n : Int) := by omega
        have HL1 := Lib.hid (HLEN.out wr HB.out)
        have HNA := Lib.hid (HNAME.out wr HB.out k)
        have HSU : Hid (strL N1 (k + 1) = strL N1 k ++ [.string (Sy.nameM N1 (k : Int))]) := Lib.hid (strL_succ _ _)
        generalize Sy.nameM N1 (k : Int) = X at *
        have hb2 := alloc_below wr (.cells #[.string X] 9)
        have HO2 := Lib.hid (own_below HO.out hb2)
        have HB2 := Lib.hid (HB.out.trans (hb2.mono HB.out.size))
        have HC2 : Hid (∀ j u, [Value.string X][j]? = some u → (wr.alloc (.cells #[.string X] 9)).cell? ((⟨wr.heap.size, 0, none⟩ : Addr).add j) = some u) := Lib.hid (cell_one_new wr _ 9)
        have H1S : Hid (∀ u ∈ [Value.string X], u.oneCell' = true) := Lib.hid (by simp [Value.oneCell'])
        have HKL : Hid (k + 1 ≤ 30000) := Lib.hid (by have := HNL.out; omega)
        clear hb2 HO
        go_wp2_with (first
          | (go_at_call 16; with_reducible refine HNA.out.mono ?_; rintro e w9 ⟨rfl, rfl⟩)
          | (go_at_call 15; with_reducible refine HL1.out.mono ?_; rintro e w8 ⟨rfl, rfl⟩)
          | (at_builtin; refine wpList_append_own _ rfl (.tmp 59) (.tmp 63) 45 rfl w6.heap.size 9 i0 (.string ⟨#[]⟩) 1 16 Tryz.underlying45 HI0.out HZ0.out HZ1.out HZ2.out rfl (by decide) _ k (strL N1 k) (by rfl) HO2.out ⟨wr.heap.size, 0, none⟩ 1 1 [.string X] (by rfl) rfl HC2.out H1S.out (by have := HKL.out; unfold maxLen; omega) (by have := HKL.out; omega) HB2.out.size ?_; intro v' w2 hown hgrow _))
        have HR2 : Hid (w2.ownsRow w6.heap.size 9 1 v' (k + 1) (strL N1 (k + 1))) := Lib.hid (by rw [HSU.out]; exact hown)
        have HB3 := Lib.hid (HB2.out.grown hgrow HB2.out.size (fun j e => (HO2.out.lt j e).1))
        clear hown hgrow
        go_roundw
        case rel => exact ⟨k + 1, by omega, by go_num, HR2, HB3⟩
        case measure => simp [RowKit.intOf]; omega
      · obtain rfl : k = n := by omega
        have d1 : decide ((k : Int) < (k : Int)) = false := decide_eq_false (by omega)
        have d2 : decide (k < k) = false := decide_eq_false (by omega)
        have HL1 := Lib.hid (HLEN.out wr HB.out)
        obtain ⟨q, c, e⟩ := own_form HO.out
        subst e
        have HRP := Lib.hid (HR6.out.plus HB.out (Q := fun j => (Value.slice q k c).ownBlock = some j) (fun j e => HO.out.lt j e))
        have HA2 : Hid (Calls Tryz.prog 10 #[.pointer (some ⟨g, 0, none⟩), .pointer (some ⟨gt, 0, none⟩), .string T] wr fun e w' => ∃ v m2 N2 R, e = .returned v ∧ RS w w' g gt m2 N2 (fun j => (Value.slice q k c).ownBlock = some j) ∧ N2 = N1 ++ R ∧ (∀ j, (Value.slice q k c).ownBlock = some j → w'.heap[j]? = wr.heap[j]?)) := Lib.hid ((HRP.out.allN HE.out T HT.out (fun h => by
          have h1 := HNL.out
          have h2 := HNN.out
          rcases Nat.lt_or_ge 4096 S.size with h4 | h4
          · have := h1.2.1 h4; omega
          · have h5 := HSW.out h4 h; omega)).mono fun e w' ⟨⟨v, hv⟩, m2, N2, R, h1, h2, h3, h4, h5, h6⟩ => ⟨v, m2, N2, R, hv, h1, h2, h5⟩)
        have HRW := Lib.hid HO.out
        clear HO
        go_upto_region 16 with (first
          | (go_at_call 10; with_reducible refine HA2.out.mono ?_; rintro e w10 ⟨v10, m2, N2, R2, rfl, hr10, hN2, hsame⟩; have HR10 := Lib.hid hr10; have HN2 := Lib.hid hN2; have HO10 := Lib.hid (own_other HRW.out hsame); clear hr10 hN2 hsame)
          | (go_at_call 15; with_reducible refine HL1.out.mono ?_; rintro e w8 ⟨rfl, rfl⟩))
        have HNM : Hid (∀ u, Below w10.heap.size w10 u → ∀ j : Nat, j < k → Calls Tryz.prog 16 #[.pointer (some ⟨gt, 0, none⟩), .int .i64 (j : Int)] u fun e w' => e = .returned (.string (Sy.nameM N1 (j : Int))) ∧ u = w') := Lib.hid fun u hu j hj => by
          have := (HR10.out.below hu).name (j : Int)
          rw [HN2.out, nameM_app _ _ _ (by rw [HNN.out]; exact hj)] at this
          exact this
        have HLOW : Hid (∀ u, Below w10.heap.size w10 u → Below w.heap.size w u) := Lib.hid fun u hu => (HR10.out.below hu).low
        clear HA2 HR10 HRW HRP HL1 HLEN HNAME HR6 HA1 HR5
        clear d1 d2 hlt hk
        go_upto_region 17 with fail
        go_loopw [16] (fun iv wr => ∃ j : Nat, j ≤ k ∧ iv = .int .i64 (j : Int) ∧ Hid (Below w10.heap.size w10 wr)) (fun iv _ => k - (RowKit.intOf iv).toNat)
        case atStart => exact ⟨0, by omega, by go_num, Lib.hid (Below.refl _ _)⟩
        case round =>
          obtain ⟨j, hj, rfl, HB10⟩ := hrel
          by_cases hlt : j < k
          · have d1 : decide ((j : Int) < (k : Int)) = true := decide_eq_true (by omega)
            have d2 : decide (j < k) = true := decide_eq_true hlt
            have hkI : (j : Int) < (k : Int) := by omega
            obtain ⟨b, c2, e2⟩ := own_some HO10.out (by omega)
            cases e2
            have x0 := ((own_below HO10.out HB10.out).cellAt j (by omega)).trans (strL_get N1 k j hlt)
            have HNA : Hid (∀ n : Nat, Calls Tryz.prog 16 #[.pointer (some ⟨gt, 0, none⟩), .int .i64 (j : Int)] (wr.drewN n) fun e w' => e = .returned (.string (Sy.nameM N1 (j : Int))) ∧ wr.drewN n = w') := Lib.hid fun n => HNM.out _ (Lx.below_drewN HB10.out n) j hlt
            generalize Sy.nameM N1 (j : Int) = X at *
            go_upto_region 19 with fail
            go_quiet ((go_at_call 16; exact Calls.quiet_of_same ((HNA.out _).mono fun _ _ h => ⟨h.1, h.2.symm⟩)))
            have HBQ := Lib.hid (Lx.below_drewN HB10.out nq)
            generalize wr.drewN nq = wq at *
            go_wp2_with fail
            go_roundw
            case rel => exact ⟨j + 1, by omega, by go_num, HBQ⟩
            case measure => simp [RowKit.intOf]; omega
          · obtain rfl : j = k := by omega
            have d1 : decide ((j : Int) < (j : Int)) = false := decide_eq_false (by omega)
            have d2 : decide (j < j) = false := decide_eq_false (by omega)
            have HLF := Lib.hid (HLV.out wr (HLOW.out wr HB10.out))
            go_wp2_with (go_at_call 7; with_reducible refine HLF.out.mono ?_; rintro e w11 ⟨rfl, hb⟩)
            go_ret
            exact ⟨rfl, hb⟩
end Go.Proofs.YthjjgpepgbfalaaGreatDoor
end
section
/-! What the rows of both laws share: how a call that returns true meets its row; the tables of strings and names that a row lays; the wrap that keeps the shape and the laid tables. -/
set_option maxRecDepth 20000
set_option linter.unusedSimpArgs false
set_option linter.unusedVariables false
namespace Go.Proofs.YthjjgpepgbfalaaGreatDoor.Lw
open Go Go.ChangeShapes Go.WideShapes Go.ChangeAt Go.RowKit Go.Proofs.YthjjgpepgbfalaaGreatDoor.Lx

theorem own : ownKnob Tryz.prog.godebug = none := by kernel_rfl
theorem laidOut : laidOutB Tryz.prog = true := by kernel_rfl
section
variable {H : Type} {enc : TypeId × Value → H}

/-- A call that leaves all that was there as it was meets the row's post. -/
theorem law_post {P : Program} {f : Func} {s : ChangeSpec} {apart fresh handsOn : Bool} {W W' : World} {args : Array Value} {v : Value} {ds gs : List (DataW H)} {before pa pv : List MemPlace}
    (hW : DataW.Whole enc P f.params.toList s.vars apart W args.toList ds gs before)
    (hres : ∀ (b : Nat) (sp : Nat → Bool) (hd : Bool), DataW.TrodAll enc P W' b sp hd f.resultTypes.toList (v.resultList f.resultTypes.size) (s.fn H (ds ++ gs)).results [])
    (hargs : DataW.TrodAll enc P W' 0 (fun b => decide (b < W.heap.size)) true f.params.toList args.toList (s.fn H (ds ++ gs)).args pa)
    (hvars : DataW.TrodVars enc P W' (fun b => decide (b < W.heap.size)) s.vars (s.fn H (ds ++ gs)).vars pv)
    (hps : before = pa ++ pv) (hb : Below W.heap.size W W') : s.post enc P f apart fresh handsOn false W args v W' :=
  ⟨ds, gs, before, [], pa, pv, hW, hres _ _ _, hargs, hvars, World.keptBut_mono (fun p hp => ⟨hp, .inr (List.mem_append.1 (hps ▸ hp))⟩) (hb.frame (· ∈ before)), fun h => by cases h⟩

variable {P : Program} {w : World} {base : Nat} {sp : Nat → Bool} {held : Bool} {fuel : Nat} {t e : TypeId} {cs : List Value} {p : List MemPlace}
theorem fst_at {α β : Type} {xs : List (α × β)} {l : List α} (h : xs.map (·.1) = l) {i : Nat} {d : α} (hi : l[i]? = some d) : ∃ q, xs[i]? = some (d, q) := by
  rw [← h, List.getElem?_map] at hi
  obtain ⟨⟨a, q⟩, h1, h2⟩ := Option.map_eq_some_iff.1 hi
  simp only at h2
  subst h2
  exact ⟨q, h1⟩
/-- An array of strings that reads as the list: its cells. -/
theorem cell_str {n i : Nat} {zs : List (DataW H)} {z : List UInt8} (ht : P.underlying t = some (.array n e)) (he : P.underlying e = some .string) (hce : P.cellsOf e = 1)
    (h : DataW.trod enc P w base sp held fuel t cs = some (.agg zs, p)) (hz : zs[i]? = some (.lit (.string z))) (hi : i < n) : cs[i]? = some (.string ⟨z.toArray⟩) := by
  obtain ⟨xs, m, _, hx, _, _, hall⟩ := DataW.trod_array ht h
  have hxs : xs.map (·.1) = zs := by injection hx with h1 _; injection h1 with h1; exact h1.symm
  obtain ⟨q, hq⟩ := fst_at hxs hz
  have ha := hall i hi
  rw [hq, hce, Nat.mul_one] at ha
  obtain ⟨s, h1, h2, _⟩ := DataW.trod_string he ha
  have h3 : z = s.data.toList := by injection h2 with h2 _; injection h2 with h2; injection h2
  subst h3
  have h4 : cs[i]? = some (.string s) := by
    have := congrArg (·[0]?) h1
    simpa [List.getElem?_take, List.getElem?_drop] using this
  exact h4
/-- An array of a string and a number each that reads as the list: its cells. -/
theorem cell_nms {n i : Nat} {fs : Array Field} {f0 f1 : Field} {zs : List (DataW H)} {z : List UInt8} {k : Int} (ht : P.underlying t = some (.array n e)) (he : P.underlying e = some (.struct fs)) (hce : P.cellsOf e = 2)
    (hf0 : fs[0]? = some f0) (hf1 : fs[1]? = some f1) (ho0 : f0.offset = 0) (ho1 : f1.offset = 1) (ht0 : P.underlying f0.type = some .string) (ht1 : P.underlying f1.type = some (.int .i64)) (hc0 : P.cellsOf f0.type = 1) (hc1 : P.cellsOf f1.type = 1)
    (h : DataW.trod enc P w base sp held fuel t cs = some (.agg zs, p)) (hz : zs[i]? = some (.agg [.lit (.string z), .lit (.int .i64 k)])) (hi : i < n) : cs[i * 2]? = some (.string ⟨z.toArray⟩) ∧ cs[i * 2 + 1]? = some (.int .i64 k) := by
  obtain ⟨xs, m, _, hx, _, _, hall⟩ := DataW.trod_array ht h
  have hxs : xs.map (·.1) = zs := by injection hx with h1 _; injection h1 with h1; exact h1.symm
  obtain ⟨q, hq⟩ := fst_at hxs hz
  have ha := hall i hi
  rw [hq, hce] at ha
  obtain ⟨ys, m', _, hy, _, _, hfs⟩ := DataW.trod_struct he ha
  have hys : ys.map (·.1) = [.lit (.string z), .lit (.int .i64 k)] := by injection hy with h1 _; injection h1 with h1; exact h1.symm
  obtain ⟨q0, hq0⟩ := fst_at hys (i := 0) rfl
  obtain ⟨q1, hq1⟩ := fst_at hys (i := 1) rfl
  have g0 := hfs 0 f0 hf0
  have g1 := hfs 1 f1 hf1
  rw [hq0, ho0, hc0] at g0
  rw [hq1, ho1, hc1] at g1
  obtain ⟨s, h1, h2, _⟩ := DataW.trod_string ht0 g0
  obtain ⟨j, h5, h6, _⟩ := DataW.trod_int ht1 g1
  have h3 : z = s.data.toList := by injection h2 with h2 _; injection h2 with h2; injection h2
  have h7 : k = j := by injection h6 with h2 _; injection h2 with h2; injection h2
  subst h3
  subst h7
  have h4 := congrArg (·[0]?) h1
  have h8 := congrArg (·[0]?) h5
  exact ⟨by simpa [List.getElem?_take, List.getElem?_drop] using h4, by simpa [List.getElem?_take, List.getElem?_drop] using h8⟩
/-- The wrap that hands on both the laid tables and the world's shape. -/
theorem returns_shaped_and {a : Assume} {C : Checked} {os : Os} {f : FuncId} {fn : Func} {s : ChangeSpec} {conds : List PathCond} {apart fresh handsOn again : Bool} {X : World → Array Value → Prop}
    (hX : ∀ (w w' : World) (args : Array Value), w.heap = w'.heap → X w args → X w' args)
    (hown : ownKnob C.prog.godebug = none) (started : os.Started) (noInit : C.prog.inits.idxOf? f = none) (hfn : C.prog.funcs[f]? = some fn)
    (witness : ∃ (w : World) (tape : Tape) (i : Input), w.os = os ∧ (w.forCall tape i).Shaped C.prog ∧ i.vars = [] ∧ Input.okWide C.prog (w.forCall tape i) .any w.heap.size f i ∧
      ((s.pre enc C.prog fn conds apart (w.forCall tape i).memory i.args ∧ X (w.forCall tape i).memory i.args) ∧ sizedMet enc C.prog fn (OpenSpec.ofChange s) apart (w.forCall tape i).memory i.args) ∧ a.holds C.prog (lone (Frame.enter C.prog f i.args .normal) [] (w.forCall tape i)))
    (contract : ∀ (W : World) (base : Nat) (args : Array Value) (ds gs : List (DataW H)) (before : List MemPlace),
      (∀ (j : Nat) t v, fn.params[j]? = some t → args[j]? = some v → Value.okWide C.prog W .any base t v) →
      DataW.Whole enc C.prog fn.params.toList s.vars apart W args.toList ds gs before → X W args → W.ShapedOpen C.prog →
      Calls C.prog f args W fun e W' => ∃ v, e = .returned v ∧ s.post enc C.prog fn apart fresh handsOn again W args v W') :
    ReturnsInHanded a C os f .any (fun w args => (s.pre enc C.prog fn conds apart w args ∧ X w args) ∧ sizedMet enc C.prog fn (OpenSpec.ofChange s) apart w args) (s.post enc C.prog fn apart fresh handsOn again) := by
  refine returnsInHanded_of_calls hown started noInit witness ?_
  intro w tape i _ hsh _ hok hpre hholds
  obtain ⟨_, _, _, fn', hfn', _, _, _, _, hval⟩ := hok
  have e : fn' = fn := Option.some.inj (hfn'.symm.trans hfn)
  subst e
  obtain ⟨⟨⟨ds, gs, before, hw, hc⟩, hx⟩, hz⟩ := hpre
  have hw' := DataW.Whole.of_heap (w' := w.forCall tape i) (by rfl) hw
  refine (contract (w.forCall tape i) w.heap.size i.args ds gs before hval hw' (hX _ _ _ (by rfl) hx) hsh).mono fun e W' ⟨v, he, hp⟩ => ?_
  subst he
  exact ChangeSpec.post_blind hp
end
end Go.Proofs.YthjjgpepgbfalaaGreatDoor.Lw
end
section
/-! What the rows of both laws share: a heap in which the listed tables lie. -/
set_option maxRecDepth 20000
namespace Go.Proofs.YthjjgpepgbfalaaGreatDoor.Lw
open Go Go.ChangeShapes Go.WideShapes Go.ChangeAt Go.RowKit Go.Proofs.YthjjgpepgbfalaaGreatDoor.Lx

def laidP : List (String × DataW Unit) := [("unicode/utf8.acceptRanges", Rows.laid_unicode_utf8_acceptRanges), ("hibernacle/lex.marks", Rows.laid_hibernacle_lex_marks), ("hibernacle/lex.names", Rows.laid_hibernacle_lex_names), ("unicode/utf8.first", Rows.laid_unicode_utf8_first)]
theorem laid_mem {P : Program} {w : World} {n : String} {d : DataW Unit} : ∀ {l : List (String × DataW Unit)} {ps : List MemPlace}, DataW.LaidVars P w l ps → (n, d) ∈ l →
    ∃ g t cs fuel p, P.globalNamed n = some g ∧ (P.globals[g]?).map (·.type) = some t ∧ w.var? P n = some cs ∧ DataW.trod (fun _ => ()) P w 0 (fun _ => true) false fuel t cs.toList = some (d, p)
  | [], _, _, h => by simp at h
  | (n', d') :: l, ps, ⟨g, t, cs, fuel, p, q, h1, h2, h3, h4, h5, _⟩, h => by
    rcases List.mem_cons.1 h with h | h
    · injection h with ha hb
      subst ha; subst hb
      exact ⟨g, t, cs, fuel, p, h1, h2, h3, h4⟩
    · exact laid_mem h5 h
theorem of_var {P : Program} {w : World} {n : String} {g : Nat} {cs : Array Value} (hg : P.globalNamed n = some g) (h : w.var? P n = some cs) : ∃ t fr, w.heap[g]? = some (.cells cs t fr) := by
  unfold World.var? at h
  rw [hg] at h
  simp only [Option.bind_some] at h
  split at h
  · rename_i cs' t fr hh
    injection h with h
    subst h
    exact ⟨t, fr, hh⟩
  · cases h
theorem nine {p : Nat → Prop} (h0 : p 0) (h1 : p 1) (h2 : p 2) (h3 : p 3) (h4 : p 4) (h5 : p 5) (h6 : p 6) (h7 : p 7) (h8 : p 8) : ∀ k, k < 9 → p k
  | 0, _ => h0 | 1, _ => h1 | 2, _ => h2 | 3, _ => h3 | 4, _ => h4 | 5, _ => h5 | 6, _ => h6 | 7, _ => h7 | 8, _ => h8
  | k + 9, h => absurd h (by omega)
def mksD : List (DataW Unit) := mks.map fun z => .lit (.string z)
def nmsD : List (DataW Unit) := nms.map fun z => .agg [.lit (.string z.1), .lit (.int .i64 (z.2 : Int))]
theorem mksD_eq : (Rows.laid_hibernacle_lex_marks : DataW Unit) = .agg mksD := rfl
theorem nmsD_eq : (Rows.laid_hibernacle_lex_names : DataW Unit) = .agg nmsD := rfl
theorem gMks : Tryz.prog.globalNamed "hibernacle/lex.marks" = some 0 := by kernel_rfl
theorem gNms : Tryz.prog.globalNamed "hibernacle/lex.names" = some 2 := by kernel_rfl
theorem tMks : (Tryz.prog.globals[0]?).map (·.type) = some 177 := by kernel_rfl
theorem tNms : (Tryz.prog.globals[2]?).map (·.type) = some 214 := by kernel_rfl
theorem max_some {w : World} (h : w.ShapedOpen Tryz.prog) : ∃ m, w.cell? ⟨1, 0, none⟩ = some (.int .i64 m) :=
  cell_of_shapedOpen_int (P := Tryz.prog) (g := 1) (t := 3) (zero := #[.int .i64 0]) h (of_decide_eq_true (by kernel_rfl)) (by kernel_rfl) rfl (by kernel_rfl) (by kernel_rfl) Tryz.underlying3
/-- The listed tables give what a scan looks into. -/
theorem env_of {w : World} {l : List (String × DataW Unit)} {ps : List MemPlace} (hs : w.ShapedOpen Tryz.prog) (h : DataW.LaidVars Tryz.prog w l ps)
    (hm : ("hibernacle/lex.marks", Rows.laid_hibernacle_lex_marks) ∈ l) (hn : ("hibernacle/lex.names", Rows.laid_hibernacle_lex_names) ∈ l) : Env w := by
  refine ⟨max_some hs, fun k hk => ?_, ?_⟩
  · obtain ⟨g, t, cs, fuel, p, h1, h2, h3, h4⟩ := laid_mem h hm
    obtain rfl := Option.some.inj (gMks.symm.trans h1)
    obtain rfl := Option.some.inj (tMks.symm.trans h2)
    obtain ⟨ty, fr, hh⟩ := of_var gMks h3
    have key : ∀ k, k < 9 → cs.toList[k]? = some (.string ⟨(mks.getD k []).toArray⟩) := fun k hk =>
      cell_str Tryz.underlying177 Tryz.underlying9 (by kernel_rfl) (mksD_eq ▸ h4) (nine (p := fun k => mksD[k]? = some (DataW.lit (.string (mks.getD k [])))) rfl rfl rfl rfl rfl rfl rfl rfl rfl k hk) hk
    have hc := key k hk
    rw [Array.getElem?_toList] at hc
    simp only [World.cell?, hh]
    exact hc
  · obtain ⟨g, t, cs, fuel, p, h1, h2, h3, h4⟩ := laid_mem h hn
    obtain rfl := Option.some.inj (gNms.symm.trans h1)
    obtain rfl := Option.some.inj (tNms.symm.trans h2)
    obtain ⟨ty, fr, hh⟩ := of_var gNms h3
    obtain ⟨cs⟩ := cs
    have hl : cs.length = 18 := by
      obtain ⟨_, _, _, _, hl, _, _⟩ := DataW.trod_array Tryz.underlying214 h4
      rw [hl]; kernel_rfl
    have key : ∀ i, i < 9 → cs[i * 2]? = some (.string ⟨(nms.getD i ([], 0)).1.toArray⟩) ∧ cs[i * 2 + 1]? = some (.int .i64 ((nms.getD i ([], 0)).2 : Int)) := fun i hi =>
      cell_nms Tryz.underlying214 Tryz.underlying213 (by kernel_rfl) rfl rfl rfl rfl Tryz.underlying9 Tryz.underlying3 (by kernel_rfl) (by kernel_rfl) (nmsD_eq ▸ h4)
        (nine (p := fun i => nmsD[i]? = some (DataW.agg [.lit (.string (nms.getD i ([], 0)).1), .lit (.int .i64 ((nms.getD i ([], 0)).2 : Int))])) rfl rfl rfl rfl rfl rfl rfl rfl rfl i hi) hi
    have two : ∀ i, i < 9 → cs[i * 2]? = nmC.toList[i * 2]? ∧ cs[i * 2 + 1]? = nmC.toList[i * 2 + 1]? :=
      nine (key 0 (by decide)) (key 1 (by decide)) (key 2 (by decide)) (key 3 (by decide)) (key 4 (by decide)) (key 5 (by decide)) (key 6 (by decide)) (key 7 (by decide)) (key 8 (by decide))
    have e : (⟨cs⟩ : Array Value) = nmC := by
      apply Array.ext'
      apply List.ext_getElem?
      intro j
      by_cases hj : j < 18
      · rcases Nat.mod_two_eq_zero_or_one j with e2 | e2
        · obtain ⟨i, rfl⟩ : ∃ i, j = i * 2 := ⟨j / 2, by omega⟩
          exact (two i (by omega)).1
        · obtain ⟨i, rfl⟩ : ∃ i, j = i * 2 + 1 := ⟨j / 2, by omega⟩
          exact (two i (by omega)).2
      · rw [List.getElem?_eq_none (by show cs.length ≤ j; omega), List.getElem?_eq_none (by show 18 ≤ j; omega)]
    rw [← e]
    exact ⟨_, _, hh⟩
end Go.Proofs.YthjjgpepgbfalaaGreatDoor.Lw
end
