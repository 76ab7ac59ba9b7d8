/- Texts XStep4 to XCut of this seat, laid into one. -/
import Derived.Test.YthcnofdihigohaaGreatRows
import Derived.Deep.Grids
import Derived.Deep.Slices
import Derived.ProofKit
import Derived.OpenShut
import Derived.ChangeSame
import Derived.SizedLaws
import Derived.Carry
import Derived.Test.YthcnofdihigohaaGreatM20
section
/- One step of the law: a page is allocated. -/
set_option maxRecDepth 20000
set_option linter.unusedSimpArgs false
namespace Go.Proofs.YthcnofdihigohaaGreat
open Go.RowKit

section
variable {b : Nat} {w : World} {d g X : Nat} {m : Dsk} {s : Sp} {pg : Nat} {x y : Xv} {k : Nat} {ki l n : Int} {c : Nat}
theorem gap_duo (h : Duo b w d g X m s pg x y k) : Calls Tryz.prog 73 #[.pointer (some ⟨X, 512, none⟩)] w fun e w' => e = .returned (.int .i64 (Bi.num (gapF (nn x.now) 512 0))) ∧ w = w' := gap_any h.xb.now
theorem ful_zero : fulL 0 = zs512 := rfl
set_option maxHeartbeats 3200000 in
theorem step_one (h : Duo b w d g X m s pg x x k) (hk : k + 1 ≤ 1000) :
    Calls Tryz.prog 47 #[.pointer (some ⟨d, 0, none⟩), .pointer (some ⟨g, 0, none⟩), .pointer (some ⟨X, 0, none⟩), .agg #[.int .i64 1, .int .i64 l, .int .i64 n, .int .u8 (c : Int)]] w (StepR b w d X pg k) := by
  have HO := Lib.hid (OpB.new w 1 l n c)
  have HA := Lib.hid (alloc_below w (.cells #[.int .i64 1, .int .i64 l, .int .i64 n, .int .u8 (c : Int)] 90))
  have HD := Lib.hid (h.below HA.out)
  have HB := Lib.hid (HA.out.mono h.bl)
  have HT := Lib.hid (alloc_duo HD.out)
  have HFL : Hid (∀ u, Calls Tryz.prog 32 #[.int .u8 0] u fun e w' => e = .returned (.string (strB zs512)) ∧ Below u.heap.size u w') := Lib.hid fun u => filled_any 0 (by omega) u
  obtain ⟨ZS, hZS⟩ : ∃ ZS, strB zs512 = ZS := ⟨_, rfl⟩
  rw [hZS] at HFL
  have HZS := Lib.hid hZS
  have c0 := HO.out.c0
  clear h HA hZS
  go_enter Tryz.func47, Tryz.ntmps47
  cases hg : gapF (nn x.now) 512 0 with
  | none =>
    have HT2 := Lib.hid (HT.out.mono fun e w' hh => (show (e = .returned (.tuple #[.int .i64 0, .int .i64 8]) ∧ Duo b w' d g X m s pg x x k) ∧ Below b _ w' from ⟨hh.1.elim (fun ⟨l, hl, _⟩ => by rw [hg] at hl; cases hl) (fun hh => hh.2), hh.2.1⟩))
    clear HT
    go_upto_region 11 with (go_at_call 25; refine HT2.out.mono ?_; rintro e w1 ⟨⟨rfl, h1⟩, hb1⟩)
    have H1 := Lib.hid h1
    have HB1 := Lib.hid (HB.out.trans hb1)
    have HGP := Lib.hid (gap_duo H1.out)
    rw [hg] at HGP
    clear h1 hb1 c0
    go_wp2_with (go_at_call 73; refine HGP.out.mono ?_; rintro e w2 ⟨rfl, rfl⟩)
    go_ret2
    exact ⟨g, rfl, ⟨_, _, _, H1.out.next hk⟩, HB1.out⟩
  | some j =>
    have HJ : Hid (j < 512) := Lib.hid (gapF_lt hg).1
    have HT2 := Lib.hid (HT.out.mono fun e w' hh => (show (e = .returned (.tuple #[.int .i64 (j : Int), .int .i64 0]) ∧ ∃ s', Duo b w' d g X m s' pg x (x.put j zs512) k) ∧ Below b _ w' from ⟨hh.1.elim (fun ⟨l, hl, _, hh⟩ => by rw [hg] at hl; cases hl; exact hh) (fun hh => by rw [hg] at hh; cases hh.1), hh.2.1⟩))
    clear HT
    go_upto_region 11 with (go_at_call 25; refine HT2.out.mono ?_; rintro e w1 ⟨⟨rfl, ⟨s', h1⟩⟩, hb1⟩)
    have H1 := Lib.hid h1
    have HB1 := Lib.hid (HB.out.trans hb1)
    have HGP := Lib.hid (gap_duo H1.out)
    rw [hg, show Bi.num (some j) = (j : Int) from rfl] at HGP
    clear h1 hb1 c0
    have hj0 : ¬ (j : Int) < 0 := by omega
    have hj5 := HJ.out
    have HQ : Hid (∀ u, Below w1.heap.size w1 u → u.cell? ⟨X, 512 + j, none⟩ = some (.string (strB (x.now j))) ∧ u.frozen? ⟨X, 512 + j, none⟩ = false) := Lib.hid fun u hu => by
      have := H1.out.below hu
      exact ⟨this.xb.now j HJ.out, this.xb.fz _⟩
    obtain ⟨q1, q2⟩ := HQ.out w1 (Below.refl _ _)
    obtain ⟨r1, r2⟩ := HQ.out w1.drew (Below.refl _ _).drew
    go_upto_region 14 with (go_at_call 73; refine HGP.out.mono ?_; rintro e w2 ⟨rfl, rfl⟩)
    go_region_with (go_at_call 32; refine (HFL.out _).mono ?_; rintro e w3 ⟨rfl, hb3⟩; have hb3 := (show Below w1.heap.size w1 w3 from by first | exact hb3 | exact (Below.refl _ _).drew.trans hb3); obtain ⟨y1, y2⟩ := HQ.out w3 hb3)
    have H3 := Lib.hid (H1.out.below hb3)
    have HB3 := Lib.hid (HB1.out.trans (hb3.mono H1.out.bl))
    have N1 := H3.out.now1 HJ.out zs512
    rw [HZS.out] at N1
    clear y1 y2 q1 q2 r1 r2 hb3
    generalize w3.setCell ⟨X, 512 + j, none⟩ (.string ZS) = w4 at *
    have H4 := Lib.hid N1.out.1
    have HB4 : Hid (Below b w w4) := Lib.hid (HB3.out.trans N1.out.2.1)
    have n1 : w4.cell? ⟨X, 1024 + j, none⟩ = some (.bool (x.dirty j)) := H4.out.xb.dirty j HJ.out
    have nf := H4.out.xb.fz (1024 + j)
    have N2 := H4.out.dirty1 HJ.out true
    go_upto_region 16 with fail
    clear n1 nf N1
    generalize w4.setCell ⟨X, 1024 + j, none⟩ (.bool true) = w5 at *
    go_wp2_with fail
    go_ret2
    exact ⟨g, rfl, ⟨_, _, _, N2.out.1.next hk⟩, HB4.out.trans N2.out.2.1⟩
set_option maxHeartbeats 6400000 in
theorem step_zero (h : Duo b w d g X m s pg x x k) (hk : k + 1 ≤ 1000) (h0 : -9223372036854775808 ≤ l) (h1 : l ≤ 9223372036854775807) (hc : c < 256) :
    Calls Tryz.prog 47 #[.pointer (some ⟨d, 0, none⟩), .pointer (some ⟨g, 0, none⟩), .pointer (some ⟨X, 0, none⟩), .agg #[.int .i64 0, .int .i64 l, .int .i64 n, .int .u8 (c : Int)]] w (StepR b w d X pg k) := by
  have HO := Lib.hid (OpB.new w 0 l n c)
  have HA := Lib.hid (alloc_below w (.cells #[.int .i64 0, .int .i64 l, .int .i64 n, .int .u8 (c : Int)] 90))
  have HD := Lib.hid (h.below HA.out)
  have HB := Lib.hid (HA.out.mono h.bl)
  have HFL : Hid (∀ u, Calls Tryz.prog 32 #[.int .u8 (c : Int)] u fun e w' => e = .returned (.string (strB (fulL c))) ∧ Below u.heap.size u w') := Lib.hid fun u => filled_any c hc u
  have c0 := HO.out.c0
  clear h HA
  go_enter Tryz.func47, Tryz.ntmps47
  go_upto_region 3 with fail
  generalize w.alloc (.cells #[.int .i64 0, .int .i64 l, .int .i64 n, .int .u8 (c : Int)] 90) = W at *
  have HCE : Hid (∀ u, Below W.heap.size W u → u.cell? ⟨w.heap.size, 1, none⟩ = some (.int .i64 l) ∧ u.cell? ⟨w.heap.size, 3, none⟩ = some (.int .u8 (c : Int))) := Lib.hid fun u hu => by
    have := HO.out.keep (BoxK.below hu)
    exact ⟨this.c1, this.c3⟩
  have HWR : Hid (∀ u, Below W.heap.size W u → Calls Tryz.prog 38 #[.pointer (some ⟨g, 0, none⟩), .int .i64 l, .string (strB (fulL c))] u fun e w' => e = .returned (.int .i64 (if thX x.now l = true then 0 else 5)) ∧ (∃ s', Duo b w' d g X m s' pg x (if thX x.now l = true then x.put l.toNat (fulL c) else x) k) ∧ Below b W w' ∧ OpB w' w.heap.size 0 l n c) := Lib.hid fun u hu => (write_duo (HD.out.below hu) l h0 h1 (fulL c) (fulL_ok hc)).mono fun e w' ⟨a1, a2, a3, a4⟩ => ⟨a1, a2, (hu.mono HD.out.bl).trans a3, (HO.out.keep (BoxK.below hu)).keep a4⟩
  obtain ⟨CS, hCS⟩ : ∃ CS, strB (fulL c) = CS := ⟨_, rfl⟩
  rw [hCS] at HWR HFL
  have HCS := Lib.hid hCS
  obtain ⟨E, hE⟩ : ∃ E : Int, (if thX x.now l = true then 0 else 5) = E := ⟨_, rfl⟩
  rw [hE] at HWR
  have HE := Lib.hid hE
  clear hE
  obtain ⟨y1, y2⟩ := HCE.out W (Below.refl _ _)
  obtain ⟨z1, z2⟩ := HCE.out W.drew (Below.refl _ _).drew
  clear c0 hCS
  go_cut [10] (fun v wx => v = .int .i64 E ∧ Hid ((∃ s', Duo b wx d g X m s' pg x (if thX x.now l = true then x.put l.toNat (fulL c) else x) k) ∧ Below b W wx ∧ OpB wx w.heap.size 0 l n c))
  case first =>
    go_region_with (first
      | (go_at_call 32; refine (HFL.out _).mono ?_; rintro e w3 ⟨rfl, hb3⟩; have hb3 := (show Below W.heap.size W w3 from by first | exact hb3 | exact (Below.refl _ _).drew.trans hb3); obtain ⟨x1, x2⟩ := HCE.out w3 hb3)
      | (go_at_call 38; refine (HWR.out _ hb3).mono ?_; rintro e w4 ⟨rfl, hs4, hb4, ho4⟩))
    all_goals go_wp2_with fail
    all_goals go_meet
    all_goals exact ⟨rfl, Lib.hid ⟨hs4, hb4, ho4⟩⟩
  case rest =>
  obtain ⟨rfl, HC⟩ := hcut
  obtain ⟨s', hd'⟩ := HC.out.1
  have H1 := Lib.hid hd'
  have HB1 := Lib.hid (HB.out.trans HC.out.2.1)
  have HO1 := Lib.hid HC.out.2.2
  have d1 := HO1.out.c1
  have HTH := Lib.hid (there_duo H1.out l h0 h1)
  clear hd' HC y1 y2 z1 z2 HCE HWR HO
  cases ht : thX x.now l
  · rw [ht] at HTH H1 HE
    obtain rfl : 5 = E := HE.out
    go_wp2_with (go_at_call 37; refine HTH.out.mono ?_; rintro e w2 ⟨rfl, rfl⟩)
    go_ret2
    exact ⟨g, rfl, ⟨_, _, _, H1.out.next hk⟩, HB1.out⟩
  · rw [ht] at HTH H1 HE
    obtain rfl : 0 = E := HE.out
    obtain ⟨t1, t2, t3⟩ := th_lt ht
    obtain ⟨j, hj⟩ : ∃ j : Nat, l.toNat = j := ⟨_, rfl⟩
    rw [hj] at t1 t3 H1
    subst t3
    have H1' : Hid (Duo b wc d g X m s' pg x (x.put j (fulL c)) k) := Lib.hid H1.out
    clear H1 HE
    generalize w.heap.size = B at *
    have HCE : Hid (∀ u, Below wc.heap.size wc u → (u.cell? ⟨B, 1, none⟩ = some (.int .i64 (j : Int)) ∧ u.cell? ⟨B, 3, none⟩ = some (.int .u8 (c : Int))) ∧ u.cell? ⟨X, 512 + j, none⟩ = some (.string (strB (x.now j))) ∧ u.frozen? ⟨X, 512 + j, none⟩ = false) := Lib.hid fun u hu => by
      have := HO1.out.keep (BoxK.below hu)
      have h2 := H1'.out.below hu
      exact ⟨⟨this.c1, this.c3⟩, h2.xb.now j t1, h2.xb.fz _⟩
    obtain ⟨⟨y1, y2⟩, y3, y4⟩ := HCE.out wc (Below.refl _ _)
    obtain ⟨⟨z1, z2⟩, z3, z4⟩ := HCE.out wc.drew (Below.refl _ _).drew
    go_upto_region 6 with (go_at_call 37; refine HTH.out.mono ?_; rintro e w2 ⟨rfl, rfl⟩)
    go_region_with (go_at_call 32; refine (HFL.out _).mono ?_; rintro e w3 ⟨rfl, hb3⟩; have hb3 := (show Below wc.heap.size wc w3 from by first | exact hb3 | exact (Below.refl _ _).drew.trans hb3); obtain ⟨⟨x1, x2⟩, x3, x4⟩ := HCE.out w3 hb3)
    all_goals
      have H3 := Lib.hid (H1'.out.below hb3)
      have HB3 := Lib.hid (HB1.out.trans (hb3.mono H1'.out.bl))
      have HO3 := Lib.hid (HO1.out.keep (BoxK.below hb3))
      have N1 := H3.out.now1 t1 (fulL c)
      rw [HCS.out] at N1
      clear x1 x2 x3 x4 y1 y2 y3 y4 z1 z2 z3 z4 hb3 d1 HCE
      generalize w3.setCell ⟨X, 512 + j, none⟩ (.string CS) = w4 at *
      have H4 := Lib.hid N1.out.1
      have HB4 : Hid (Below b w w4) := Lib.hid (HB3.out.trans N1.out.2.1)
      have n1 : w4.cell? ⟨X, 1024 + j, none⟩ = some (.bool (x.dirty j)) := H4.out.xb.dirty j t1
      have nf := H4.out.xb.fz (1024 + j)
      have d1 := (HO3.out.keep N1.out.2.2).c1
      have N2 := H4.out.dirty1 t1 true
      go_upto_region 7 with fail
      go_region
      clear n1 nf N1 d1
      generalize w4.setCell ⟨X, 1024 + j, none⟩ (.bool true) = w5 at *
      go_wp2_with fail
      go_ret2
      exact ⟨g, rfl, ⟨_, _, _, (N2.out.1.drew).next hk⟩, (HB4.out.trans N2.out.2.1).drew⟩
theorem step_any (h : Duo b w d g X m s pg x x k) (hk : k + 1 ≤ 1000) (h0 : -9223372036854775808 ≤ l) (h1 : l ≤ 9223372036854775807) (hc : c < 256) :
    Calls Tryz.prog 47 #[.pointer (some ⟨d, 0, none⟩), .pointer (some ⟨g, 0, none⟩), .pointer (some ⟨X, 0, none⟩), .agg #[.int .i64 ki, .int .i64 l, .int .i64 n, .int .u8 (c : Int)]] w (StepR b w d X pg k) := by
  by_cases e0 : ki = 0
  · subst e0; exact step_zero h hk h0 h1 hc
  by_cases e1 : ki = 1
  · subst e1; exact step_one h hk
  by_cases e2 : ki = 2
  · subst e2; exact step_two h hk h0 h1
  by_cases e3 : ki = 3
  · subst e3; exact step_three h hk
  by_cases e4 : ki = 4
  · subst e4; exact step_four h hk
  by_cases e5 : ki = 5
  · subst e5; exact step_five h hk
  exact step_read h hk h0 h1 ⟨e0, e1, e2, e3, e4, e5⟩
end
end Go.Proofs.YthcnofdihigohaaGreat
end
section
/- A disk, a space, and the document's space behind some steps. -/
set_option maxRecDepth 20000
set_option linter.unusedSimpArgs false
namespace Go.Proofs.YthcnofdihigohaaGreat
open Go.RowKit

/-- The document's space, new: its cells. -/
def newL : List Value := txtL (fun _ => []) ++ (txtL (fun _ => []) ++ (falL ++ [.int .i64 0, .int .i64 1]))
theorem newL_len : newL.length = 1538 := by
  unfold newL
  rw [List.length_append, List.length_append, List.length_append, txtL_len, falL_len]; rfl
theorem built41 : Tryz.prog.built 41 [(4, .int .i64 1)] = some newL.toArray := by kernel_rfl
theorem wpList_build41 {ops : Array Oper} {rest : List Oper} {o : Oper} {a : Act} {w : World} {Q : Exit → Act → World → Prop} (hg : o.guard = none) (ho : o.op = .build 41 #[(4, .const (.int .i64 1))]) (Z : Array Value) (hZ : newL.toArray = Z)
    (h : wpList Tryz.prog ops Q rest (a.put o.dst (.agg Z)) w) : wpList Tryz.prog ops Q (o :: rest) a w := by
  have e : Tryz.prog.built 41 ((#[(4, .const (.int .i64 1))] : Array (Nat × Operand)).map fun (i, x) => (i, a.eval x)).toList = some newL.toArray := by
    simpa [Act.eval] using built41
  refine wpList_build hg 41 #[(4, .const (.int .i64 1))] ho (by rw [e]; rfl) ?_
  rw [e]
  show wpList Tryz.prog ops Q rest (a.put o.dst (.agg newL.toArray)) w
  rw [hZ]; exact h
theorem Xb.new {w : World} {g : Nat} (h : w.heap[g]? = some (.cells newL.toArray 41 (0, 0))) : Xb w g Xv.new := by
  have hc : ∀ i, w.cell? ⟨g, i, none⟩ = newL[i]? := fun i => by rw [cell_of_row _ _ _ _ _ _ h, List.getElem?_toArray]
  have t := txtL_len (fun _ => [])
  have f := falL_len
  refine ⟨fun l hl => ?_, fun l hl => ?_, fun l hl => ?_, ?_, ?_, ⟨_, h, by rw [List.size_toArray, newL_len]⟩⟩
  · rw [hc]; unfold newL
    rw [List.getElem?_append_left (by omega), Nat.zero_add]
    exact txtL_get _ hl
  · rw [hc]; unfold newL
    rw [List.getElem?_append_right (by omega), List.getElem?_append_left (by omega), show 512 + l - (txtL fun _ => []).length = l by omega]
    exact txtL_get _ hl
  · rw [hc]; unfold newL
    rw [List.getElem?_append_right (by omega), List.getElem?_append_right (by omega), List.getElem?_append_left (by omega), show 1024 + l - (txtL fun _ => []).length - (txtL fun _ => []).length = l by omega]
    exact falL_get hl
  · rw [hc]; unfold newL
    rw [List.getElem?_append_right (by omega), List.getElem?_append_right (by omega), List.getElem?_append_right (by omega), show 1536 - (txtL fun _ => []).length - (txtL fun _ => []).length - falL.length = 0 by omega]; rfl
  · rw [hc]; unfold newL
    rw [List.getElem?_append_right (by omega), List.getElem?_append_right (by omega), List.getElem?_append_right (by omega), show 1537 - (txtL fun _ => []).length - (txtL fun _ => []).length - falL.length = 1 by omega]; rfl
theorem results_tmp4 {fn : Func} {t u v x : Tmp} (h : fn.results = #[.tmp t, .tmp u, .tmp v, .tmp x]) (tmps : Array Value) (P : Program) (w : World) :
    (results fn tmps).run P w = .ok (.tuple #[tmps.getD t undef, tmps.getD u undef, tmps.getD v undef, tmps.getD x undef]) w := by
  simp [results, h]
/-- One step's numbers. -/
structure Op4 where
  k : Int
  l : Int
  n : Int
  c : Nat
instance : Inhabited Op4 := ⟨⟨0, 0, 0, 0⟩⟩
/-- So many ops lie there. -/
def OpsAt (w : World) (b o n : Nat) (f : Nat → Op4) : Prop := ∀ r, r < n → w.rangeAt b (o + r * 4) [.int .i64 (f r).k, .int .i64 (f r).l, .int .i64 (f r).n, .int .u8 ((f r).c : Int)] ∧ -9223372036854775808 ≤ (f r).l ∧ (f r).l ≤ 9223372036854775807 ∧ (f r).c < 256
def OpsIn (w : World) (p : Option Addr) (n : Nat) (f : Nat → Op4) : Prop := 0 < n → ∃ b o, p = some ⟨b, o, none⟩ ∧ b < w.heap.size ∧ OpsAt w b o n f
theorem range_block {w w' : World} {b o : Nat} {cs : List Value} (h : w.rangeAt b o cs) (hb : w'.heap[b]? = w.heap[b]?) : w'.rangeAt b o cs := fun j v hv => (World.cell?_of_block hb).trans (h j v hv)
theorem OpsIn.below {w w' : World} {p : Option Addr} {n : Nat} {f : Nat → Op4} (h : OpsIn w p n f) (hb : Below w.heap.size w w') : OpsIn w' p n f := fun hn => by
  obtain ⟨b, o, e, hlt, hat⟩ := h hn
  exact ⟨b, o, e, Nat.lt_of_lt_of_le hlt hb.size, fun r hr => ⟨range_block (hat r hr).1 (hb.block b hlt), (hat r hr).2⟩⟩
/-- Amid the steps. -/
structure Md (w wr : World) (d g X pg k : Nat) : Prop where
  duo : ∃ m s x, Duo w.heap.size wr d g X m s pg x x k
  bel : Below w.heap.size w wr
theorem Duo.upto {b : Nat} {w : World} {d g X : Nat} {m : Dsk} {s : Sp} {pg : Nat} {x y : Xv} {k k' : Nat} (h : Duo b w d g X m s pg x y k) (hk : k ≤ k') (hk' : k' ≤ 1000) : Duo b w d g X m s pg x y k' :=
  ⟨h.mem, h.xb, h.xge, h.inv, h.sim, by have := h.dn; omega, ⟨h.ep.1, by have := h.ep.2; omega⟩, fun hk2 => h.ro (by omega), hk', h.bl, h.od⟩
theorem size90 : (Tryz.prog.info? 90).map (·.size) = some 4 := by kernel_rfl
/-- The first of all. -/
theorem Md.start {w w0 w1 w2 : World} {X d g : Nat} {F F' G : List Nat} {m : Dsk} {pg : Nat} (hx : Xb w0 X Xv.new) (hX : w.heap.size ≤ X) (h0 : Below w.heap.size w w0) (hb : Below w0.heap.size w0 w1) (hD : Dk w1 d F (newM (4 * pg))) (hF : ∀ k ∈ F, w0.heap.size ≤ k)
    (hR : Rest w2 d g F' G m (newS pg) pg) (hc : Chg F (F' ++ G) w1 w2) (hs : Sim (newS pg) m.out Xv.new) (hd : m.done ≤ 100 ∧ RootO m.out (newS pg).g.r) : Md w w2 d g X pg 0 := by
  have hF1 : ∀ k ∈ F, w.heap.size ≤ k := fun k hk => Nat.le_trans h0.size (hF k hk)
  have hw1 : w.heap.size ≤ w1.heap.size := Nat.le_trans h0.size hb.size
  obtain ⟨cs, hbx, _⟩ := (hx.below hb).box
  exact ⟨⟨m, newS pg, Xv.new, ⟨⟨F', G, hR.dk, hR.sp, hc.ge hF1 hw1⟩, (hx.below hb).same ((hc.keep hD.typed hbx (by decide)).trans hbx.symm), hX, hR.inv, hs, (by have := hd.1; omega), by show (0 : Int) ≤ 0 + 1 ∧ (0 : Int) + 1 ≤ _; omega, fun _ => hd.2, by omega, Nat.le_trans hw1 hc.size, fun f e => (by cases (show none = some f from e))⟩⟩, (h0.trans (hb.mono h0.size)).trans (hc.belowB hF1 hw1)⟩
theorem Md.step {w wr : World} {d g X pg k : Nat} (h : Md w wr d g X pg k) (hk : k + 1 ≤ 1000) (o : Op4) (h0 : -9223372036854775808 ≤ o.l ∧ o.l ≤ 9223372036854775807 ∧ o.c < 256) :
    Calls Tryz.prog 47 #[.pointer (some ⟨d, 0, none⟩), .pointer (some ⟨g, 0, none⟩), .pointer (some ⟨X, 0, none⟩), .agg #[.int .i64 o.k, .int .i64 o.l, .int .i64 o.n, .int .u8 (o.c : Int)]] wr fun e w' => ∃ g', e = .returned (.tuple #[.pointer (some ⟨g', 0, none⟩), .bool true]) ∧ Md w w' d g' X pg (k + 1) := by
  obtain ⟨m, s, x, hd⟩ := h.duo
  refine (step_any hd hk h0.1 h0.2.1 h0.2.2).mono ?_
  rintro e w' ⟨g', rfl, hd', hb⟩
  exact ⟨g', rfl, hd', h.bel.trans hb⟩
set_option maxHeartbeats 6400000 in
theorem made_any {pg : Nat} (h4 : 4 ≤ pg) (h5 : pg ≤ 512) (p : Option Addr) (n c : Nat) (f : Nat → Op4) (w : World) (hn : n ≤ 9223372036854775807) (hO : OpsIn w p n f) :
    Calls Tryz.prog 11 #[.int .i64 (pg : Int), .slice p n c] w fun e w' => ∃ d g X, e = .returned (.tuple #[.pointer (some ⟨d, 0, none⟩), .pointer (some ⟨g, 0, none⟩), .pointer (some ⟨X, 0, none⟩), .bool true]) ∧ Md w w' d g X pg 40 := by
  have HO := Lib.hid hO
  have HZ : Hid (∀ Z, newL.toArray = Z → Xb (w.alloc (.cells Z 41)) w.heap.size Xv.new) := Lib.hid fun Z hZ => by subst hZ; exact Xb.new (heap_alloc_new w _)
  have HA : Hid (∀ Z, Below w.heap.size w (w.alloc (.cells Z 41))) := Lib.hid fun Z => alloc_below w _
  have HN : Hid (∀ u, Calls Tryz.prog 39 #[.int .i64 (4 * (pg : Int))] u fun e w' => ∃ g F, e = .returned (.tuple #[.pointer (some ⟨g, 0, none⟩), .int .i64 0]) ∧ Dk w' g F (newM (4 * pg)) ∧ (∀ k ∈ F, u.heap.size ≤ k) ∧ Below u.heap.size u w') := Lib.hid fun u => by
    have := new_any (4 * pg) u (by omega) (by omega)
    rw [show ((4 * pg : Nat) : Int) = 4 * (pg : Int) by omega] at this
    exact this
  clear hO
  obtain ⟨Z, hZ⟩ : ∃ Z, newL.toArray = Z := ⟨_, rfl⟩
  have HZ1 := Lib.hid (HZ.out Z hZ)
  have HA1 := Lib.hid (HA.out Z)
  clear HZ HA
  go_enter Tryz.func11, Tryz.ntmps11
  go_upto_region 3 with (first
    | (refine wpList_build41 rfl rfl Z hZ ?_)
    | (go_at_call 39; refine (HN.out _).mono ?_; rintro e w1 ⟨d, F, rfl, hD, hF, hb⟩))
  have HF := Lib.hid (format_new h4 h5 hD)
  have HS := Lib.hid (fun w2 g F' G m => Md.start (w := w) (w2 := w2) (g := g) (F' := F') (G := G) (m := m) HZ1.out (Nat.le_refl _) HA1.out hb hD hF)
  clear hD hF hb HN
  go_upto_region 4 with (go_at_call 9; refine HF.out.mono ?_; rintro e w2 ⟨g, F', G, m, rfl, hR, hc, hs, hd⟩)
  have HM : Hid (Md w w2 d g w.heap.size pg 0) := Lib.hid (HS.out w2 g F' G m hR hc hs hd)
  clear hR hc hs hd HS HF HZ1 HA1
  go_upto_region 8 with fail
  go_loopw [11, 13, 14] (fun sv rv iv wr => ∃ i g, i ≤ n ∧ i ≤ 40 ∧ sv = .pointer (some ⟨g, 0, none⟩) ∧ rv = .bool true ∧ iv = .int .i64 (i : Int) ∧ Hid (Md w wr d g w.heap.size pg i)) (fun _ _ iv _ => n - (RowKit.intOf iv).toNat)
  case atStart => exact ⟨0, g, by omega, by omega, rfl, rfl, by go_num, HM⟩
  case round =>
    obtain ⟨i, g', hi, hi4, rfl, rfl, rfl, HI⟩ := hrel
    by_cases hlt : i < n
    · have hd1 : decide ((i : Int) < (n : Int)) = true := decide_eq_true (by omega)
      have hd3 : decide (i < n) = true := decide_eq_true hlt
      by_cases h40 : i < 40
      · have hd2 : decide ((i : Int) < 40) = true := decide_eq_true (by omega)
        obtain ⟨b, o, rfl, hbl, hat⟩ := HO.out (by omega)
        have HRG := Lib.hid (range_block (hat i hlt).1 (HI.out.bel.block b hbl))
        have HST := Lib.hid (HI.out.step (by omega) (f i) (hat i hlt).2)
        clear hbl hat
        generalize (f i).k = ki at *
        go_wp2_with (first
          | (refine wpList_load_mid rfl 90 (.tmp 56) rfl b (o + i * 4) rfl _ _ HRG.out Tryz.underlying90 rfl size90 ?_)
          | (go_at_call 47; refine HST.out.mono ?_; rintro e w3 ⟨g3, rfl, hm3⟩; have HM3 := Lib.hid hm3; clear hm3))
        go_roundw
        case rel => exact ⟨i + 1, g3, by omega, by omega, rfl, rfl, by go_num, HM3⟩
        case measure => simp [RowKit.intOf]; omega
      · have hd2 : decide ((i : Int) < 40) = false := decide_eq_false (by omega)
        obtain ⟨m, s, x, hd⟩ := HI.out.duo
        have HFN : Hid (Md w wr d g' w.heap.size pg 40) := Lib.hid ⟨⟨m, s, x, hd.upto hi4 (by omega)⟩, HI.out.bel⟩
        clear hd
        go_wp2_with fail
        (try simp only [Exit.inBlock, Exit.then]); refine bodyPost_ret (results_tmp4 rfl _ _ _) rfl ?_
        exact ⟨d, g', w.heap.size, rfl, HFN.out⟩
    · have hd1 : decide ((i : Int) < (n : Int)) = false := decide_eq_false (by omega)
      have hd3 : decide (i < n) = false := decide_eq_false hlt
      obtain ⟨m, s, x, hd⟩ := HI.out.duo
      have HFN : Hid (Md w wr d g' w.heap.size pg 40) := Lib.hid ⟨⟨m, s, x, hd.upto hi4 (by omega)⟩, HI.out.bel⟩
      clear hd
      go_wp2_with fail
      (try simp only [Exit.inBlock, Exit.then]); refine bodyPost_ret (results_tmp4 rfl _ _ _) rfl ?_
      exact ⟨d, g', w.heap.size, rfl, HFN.out⟩
end Go.Proofs.YthcnofdihigohaaGreat
end
section
/- The law's same: a space has just the document's pages. -/
set_option maxRecDepth 20000
set_option linter.unusedSimpArgs false
namespace Go.Proofs.YthcnofdihigohaaGreat
open Go.RowKit

section
variable {b : Nat} {w : World} {d g X : Nat} {m : Dsk} {s : Sp} {pg : Nat} {x y : Xv} {k : Nat}
theorem len_duo (h : Duo b w d g X m s pg x y k) : Calls Tryz.prog 26 #[.pointer (some ⟨g, 0, none⟩)] w fun e w' => e = .returned (.int .i64 (Bi.cnt (nn y.now) 512 : Nat)) ∧ Below w.heap.size w w' := by
  obtain ⟨F, pt, pk, mb, pu, po, hD, hS, hF, hG⟩ := h.parts
  have := len_sp hS
  rw [len_eq h.sim h.inv.sp h.secs] at this
  exact this
theorem count_duo (h : Duo b w d g X m s pg x y k) : Calls Tryz.prog 35 #[.pointer (some ⟨X, 512, none⟩)] w fun e w' => e = .returned (.int .i64 (Bi.cnt (nn x.now) 512 : Nat)) ∧ w = w' := count_any h.xb.now
theorem th_nat {f : Nat → List Nat} {i : Nat} (hi : i < 512) : thX f (i : Int) = nn f i := by
  unfold thX
  rw [decide_eq_true (by omega : (0 : Int) ≤ (i : Int)), decide_eq_true (by omega : (i : Int) < 512), Int.toNat_natCast]; rfl
set_option maxHeartbeats 3200000 in
theorem same_any (h : Duo b w d g X m s pg x x k) :
    Calls Tryz.prog 13 #[.pointer (some ⟨g, 0, none⟩), .pointer (some ⟨X, 512, none⟩)] w fun e w' => e = .returned (.bool true) ∧ Below w.heap.size w w' := by
  have HH := Lib.hid h
  have HL := Lib.hid (len_duo h)
  have HC : Hid (∀ u, Below w.heap.size w u → Calls Tryz.prog 35 #[.pointer (some ⟨X, 512, none⟩)] u fun e w' => e = .returned (.int .i64 (Bi.cnt (nn x.now) 512 : Nat)) ∧ u = w') := Lib.hid fun u hu => count_duo (h.below hu)
  have HR : Hid (∀ u l, Below w.heap.size w u → -9223372036854775808 ≤ l → l ≤ 9223372036854775807 → Calls Tryz.prog 31 #[.pointer (some ⟨g, 0, none⟩), .int .i64 l] u fun e w' => e = .returned (if thX x.now l = true then .tuple #[.string (strB (x.now l.toNat)), .int .i64 0] else .tuple #[.string (strB []), .int .i64 5]) ∧ Below u.heap.size u w') := Lib.hid fun u l hu h0 h1 => read_duo (h.below hu) l h0 h1
  have HR0 : Hid (∀ u l, Below w.heap.size w u → -9223372036854775808 ≤ l → l ≤ 9223372036854775807 → thX x.now l = false → Calls Tryz.prog 31 #[.pointer (some ⟨g, 0, none⟩), .int .i64 l] u fun e w' => e = .returned (.tuple #[.string (strB []), .int .i64 5]) ∧ Below u.heap.size u w') := Lib.hid fun u l hu h0 h1 ht => by
    have := HR.out u l hu h0 h1
    rw [ht, if_neg (by simp)] at this
    exact this
  have HR1 : Hid (∀ u (i : Nat), Below w.heap.size w u → i < 512 → nn x.now i = true → Calls Tryz.prog 31 #[.pointer (some ⟨g, 0, none⟩), .int .i64 (i : Int)] u fun e w' => e = .returned (.tuple #[.string (strB (x.now i)), .int .i64 0]) ∧ Below u.heap.size u w') := Lib.hid fun u i hu hi ht => by
    have := HR.out u (i : Int) hu (by omega) (by omega)
    rw [th_nat hi, ht, if_pos rfl, Int.toNat_natCast] at this
    exact this
  have HX : Hid (∀ u i, Below w.heap.size w u → i < 512 → u.cell? ⟨X, 512 + i, none⟩ = some (.string (strB (x.now i)))) := Lib.hid fun u i hu hi => (h.below hu).xb.now i hi
  clear h HR
  go_enter Tryz.func13, Tryz.ntmps13
  generalize Bi.cnt (nn x.now) 512 = N at *
  go_upto_region 4 with (first
    | (go_at_call 26; refine HL.out.mono ?_; rintro e w1 ⟨rfl, hb1⟩)
    | (go_at_call 35; refine (HC.out _ hb1).mono ?_; rintro e w2 ⟨rfl, rfl⟩))
  have HB1 := Lib.hid hb1
  clear hb1 HL HC
  go_loopw [5] (fun iv wr => ∃ i : Nat, i ≤ 512 ∧ iv = .int .i64 (i : Int) ∧ Hid (Below w.heap.size w wr)) (fun iv _ => 512 - (RowKit.intOf iv).toNat)
  case atStart => exact ⟨0, by omega, by go_num, HB1⟩
  case round =>
    obtain ⟨i, hi, rfl, HB⟩ := hrel
    by_cases hlt : i < 512
    · have hiN : (i : Int) < 512 := by omega
      have hd : decide ((i : Int) < 512) = true := decide_eq_true hiN
      have hc := HX.out _ i HB.out hlt
      have he := txt_empty (x.now i)
      cases e : nn x.now i with
      | false =>
        have e2 : (x.now i).isEmpty = true := by simpa [nn] using e
        rw [e2] at he
        generalize strB (x.now i) = S at *
        clear e e2
        go_wp2_with fail
        go_roundw
        case rel => exact ⟨i + 1, by omega, by go_num, HB⟩
        case measure => simp [RowKit.intOf]; omega
      | true =>
        have e2 : (x.now i).isEmpty = false := by simpa [nn] using e
        rw [e2] at he
        have HRD := Lib.hid (HR1.out _ i HB.out hlt e)
        have HX2 : Hid (∀ u, Below w.heap.size w u → u.cell? ⟨X, 512 + i, none⟩ = some (.string (strB (x.now i)))) := Lib.hid fun u hu => HX.out u i hu hlt
        generalize strB (x.now i) = S at *
        clear e e2
        go_upto_region 8 with (go_at_call 31; refine HRD.out.mono ?_; rintro e w3 ⟨rfl, hb3⟩)
        have HB3 := Lib.hid (HB.out.trans (hb3.mono HB.out.size))
        have hc3 := HX2.out _ HB3.out
        clear hb3 hc
        go_wp2_with fail
        go_roundw
        case rel => exact ⟨i + 1, by omega, by go_num, HB3⟩
        case measure => simp [RowKit.intOf]; omega
    · obtain rfl : i = 512 := by omega
      have hd : decide (((512 : Nat) : Int) < 512) = false := by decide
      have HA := Lib.hid (HR0.out _ (-1) HB.out (by omega) (by omega) (by unfold thX; rfl))
      go_upto_region 11 with (go_at_call 31; refine HA.out.mono ?_; rintro e w3 ⟨rfl, hb3⟩)
      have HB3 := Lib.hid (HB.out.trans (hb3.mono HB.out.size))
      have HA3 := Lib.hid (HR0.out _ 512 HB3.out (by omega) (by omega) (by unfold thX; rfl))
      clear hb3 HA
      go_wp2_with (go_at_call 31; refine HA3.out.mono ?_; rintro e w4 ⟨rfl, hb4⟩)
      go_ret
      exact ⟨rfl, HB3.out.trans (hb4.mono HB3.out.size)⟩
end
end Go.Proofs.YthcnofdihigohaaGreat
end
section
/- PagerPlays: the walk. -/
set_option maxRecDepth 20000
set_option linter.unusedSimpArgs false
namespace Go.Proofs.YthcnofdihigohaaGreat
open Go.RowKit

theorem few_yes (pg : Nat) (h4 : 4 ≤ pg) (h5 : pg ≤ 40) (w : World) : Calls Tryz.prog 8 #[.int .i64 (pg : Int)] w fun e w' => e = .returned (.bool true) ∧ w = w' := by
  have d0 : decide (4 ≤ (pg : Int)) = true := decide_eq_true (by omega)
  have d1 : decide ((pg : Int) ≤ 40) = true := decide_eq_true (by omega)
  have d2 : decide (4 ≤ pg) = true := decide_eq_true h4
  have d3 : decide (pg ≤ 40) = true := decide_eq_true h5
  go_enter Tryz.func8, Tryz.ntmps8
  go_wp2_with fail
  go_ret
  exact ⟨rfl, rfl⟩
theorem few_no (a : Int) (h : ¬ (4 ≤ a ∧ a ≤ 40)) (w : World) : Calls Tryz.prog 8 #[.int .i64 a] w fun e w' => e = .returned (.bool false) ∧ w = w' := by
  by_cases h4 : 4 ≤ a
  · have d0 : decide (4 ≤ a) = true := decide_eq_true h4
    have d1 : decide (a ≤ 40) = false := decide_eq_false (by omega)
    go_enter Tryz.func8, Tryz.ntmps8
    go_wp2_with fail
    go_ret
    exact ⟨rfl, rfl⟩
  · have d0 : decide (4 ≤ a) = false := decide_eq_false h4
    go_enter Tryz.func8, Tryz.ntmps8
    go_wp2_with fail
    go_ret
    exact ⟨rfl, rfl⟩
set_option maxHeartbeats 1600000 in
theorem format_nil (w : World) : Calls Tryz.prog 9 #[.pointer none] w fun e w' => e = .returned (.tuple #[.pointer none, .int .i64 1]) ∧ Below w.heap.size w w' := by
  have HN := Lib.hid (load_nil w)
  unfold Rt.val at HN
  go_enter Tryz.func9, Tryz.ntmps9
  go_upto_region 2 with (go_at_call 42; refine HN.out.mono ?_; rintro e w7 ⟨rfl, hb7⟩)
  have hb8 : Below w7.heap.size w7 ((w7.alloc (.cells #[.int .i64 Rt.none_.ep, .int .i64 Rt.none_.pg, .int .i64 Rt.none_.dr, .int .i64 Rt.none_.wd] 74)).alloc (.cells #[.int .i64 Rt.none_.ep, .int .i64 Rt.none_.pg, .int .i64 Rt.none_.dr, .int .i64 Rt.none_.wd] 74)) := ((Below.refl _ _).alloc (Nat.le_refl _) _).alloc (by simp) _
  have HB4 := Lib.hid (Below.more hb7 hb8 hb7.size)
  clear hb7 hb8
  generalize ((w7.alloc (.cells #[.int .i64 Rt.none_.ep, .int .i64 Rt.none_.pg, .int .i64 Rt.none_.dr, .int .i64 Rt.none_.wd] 74)).alloc (.cells #[.int .i64 Rt.none_.ep, .int .i64 Rt.none_.pg, .int .i64 Rt.none_.dr, .int .i64 Rt.none_.wd] 74)) = W4 at *
  go_wp2_with fail
  go_ret2
  exact ⟨rfl, HB4.out⟩
section
variable {b : Nat} {w : World} {d g X : Nat} {m : Dsk} {s : Sp} {pg : Nat} {x y : Xv} {k : Nat}
theorem word_duo (h : Duo b w d g X m s pg x x k) : Calls Tryz.prog 14 #[.pointer (some ⟨g, 0, none⟩)] w fun e w' => e = .returned (.int .i64 x.word) ∧ Below w.heap.size w w' := by
  obtain ⟨F, pt, pk, mb, pu, po, hD, hS, hF, hG⟩ := h.parts
  rw [h.sim.word]; exact word_any hS
theorem epoch_duo (h : Duo b w d g X m s pg x x k) : Calls Tryz.prog 15 #[.pointer (some ⟨g, 0, none⟩)] w fun e w' => e = .returned (.int .i64 x.ep) ∧ Below w.heap.size w w' := by
  obtain ⟨F, pt, pk, mb, pu, po, hD, hS, hF, hG⟩ := h.parts
  rw [h.sim.ep]; exact epoch_any hS
theorem pages_duo (h : Duo b w d g X m s pg x x k) : Calls Tryz.prog 16 #[.pointer (some ⟨g, 0, none⟩)] w fun e w' => e = .returned (.int .i64 (pg : Int)) ∧ Below w.heap.size w w' := by
  obtain ⟨F, pt, pk, mb, pu, po, hD, hS, hF, hG⟩ := h.parts
  have := pages_any hS
  rw [h.inv.sp.pgE] at this; exact this
theorem held_duo (h : Duo b w d g X m s pg x y k) : Calls Tryz.prog 12 #[.pointer (some ⟨g, 0, none⟩)] w fun e w' => (∃ g' b', e = .returned (.pointer (some ⟨g', 0, none⟩)) ∧ Bi.Sat w' g' b' 512 (heldS s)) ∧ Below w.heap.size w w' := by
  obtain ⟨F, pt, pk, mb, pu, po, hD, hS, hF, hG⟩ := h.parts
  exact (held_any hS).mono fun e w' ⟨⟨g', b', he, _, _, hs⟩, hb⟩ => ⟨⟨g', b', he, hs⟩, hb⟩
end
set_option maxHeartbeats 6400000 in
theorem plays_walk (a : Int) (p : Option Addr) (n c : Nat) (f : Nat → Op4) (w : World) (ha : -9223372036854775808 ≤ a) (ha2 : a ≤ 9223372036854775807) (hn : n ≤ 9223372036854775807) (hO : OpsIn w p n f) :
    Calls Tryz.prog 3 #[.int .i64 a, .slice p n c] w fun e w' => e = .returned (.bool true) ∧ Below w.heap.size w w' := by
  by_cases hf : 4 ≤ a ∧ a ≤ 40
  · obtain ⟨pg, rfl⟩ : ∃ pg : Nat, a = (pg : Int) := ⟨a.toNat, by omega⟩
    have h4 : 4 ≤ pg := by omega
    have h5 : pg ≤ 40 := by omega
    have HF := Lib.hid (few_yes pg h4 h5 w)
    have HMD := Lib.hid (made_any h4 (by omega) p n c f w hn hO)
    clear hO
    go_enter Tryz.func3, Tryz.ntmps3
    go_upto_region 5 with (first
      | (go_at_call 8; refine HF.out.mono ?_; rintro e w1 ⟨rfl, rfl⟩)
      | (go_at_call 11; refine HMD.out.mono ?_; rintro e w1 ⟨d, g, X, rfl, hM⟩))
    obtain ⟨⟨m, s, x, hd⟩, hbel⟩ := hM
    have HD := Lib.hid hd
    have HB := Lib.hid hbel
    clear hd hbel HMD HF
    have hcn : Bi.cnt (heldS s) 512 ≤ 512 := Bi.cnt_le _ _
    have hfl := free_len HD.out.inv.sp HD.out.od
    have hh0 : heldS s 0 = false := by
      cases e : heldS s 0
      · rfl
      · have := (held_in HD.out.inv.sp HD.out.od e).1; omega
    have hh1 : heldS s 1 = false := by
      cases e : heldS s 1
      · rfl
      · have := (held_in HD.out.inv.sp HD.out.od e).1; omega
    have HH : Hid (∀ u, Below w1.heap.size w1 u → Calls Tryz.prog 12 #[.pointer (some ⟨g, 0, none⟩)] u fun e w' => (∃ g' b', e = .returned (.pointer (some ⟨g', 0, none⟩)) ∧ Bi.Sat w' g' b' 512 (heldS s)) ∧ Below u.heap.size u w') := Lib.hid fun u hu => held_duo (HD.out.below hu)
    have HFR : Hid (∀ u, Below w1.heap.size w1 u → Calls Tryz.prog 20 #[.pointer (some ⟨g, 0, none⟩)] u fun e w' => e = .returned (.int .i64 ((freeL s).length : Int)) ∧ Below u.heap.size u w') := Lib.hid fun u hu => free_duo (HD.out.below hu)
    have HND : Hid (∀ u, Below w1.heap.size w1 u → Calls Tryz.prog 17 #[.pointer (some ⟨g, 0, none⟩)] u fun e w' => e = .returned (.int .i64 (needS s : Int)) ∧ Below u.heap.size u w') := Lib.hid fun u hu => need_duo (HD.out.below hu)
    have HRN : Hid (∀ u, Below w1.heap.size w1 u → Calls Tryz.prog 18 #[.pointer (some ⟨X, 0, none⟩)] u fun e w' => e = .returned (.int .i64 (needS s : Int)) ∧ Below u.heap.size u w') := Lib.hid fun u hu => rneed_duo (HD.out.below hu)
    have HCN : Hid (∀ u g' b', Bi.Sat u g' b' 512 (heldS s) → Calls Tryz.prog 21 #[.pointer (some ⟨g', 0, none⟩)] u fun e w' => e = .returned (.int .i64 (Bi.cnt (heldS s) 512 : Nat)) ∧ Below u.heap.size u w') := Lib.hid fun u g' b' hs => Bi.count_any hs
    have HSB : Hid (∀ u g' b' (i : Int), (i = 0 ∨ i = 1) → Bi.Sat u g' b' 512 (heldS s) → Calls Tryz.prog 22 #[.pointer (some ⟨g', 0, none⟩), .int .i64 i] u fun e w' => e = .returned (.bool false) ∧ Below u.heap.size u w') := Lib.hid fun u g' b' i hi hs => by
      rcases hi with rfl | rfl
      · have := Bi.has_in hs 0 (by omega)
        rw [hh0] at this; exact this
      · have := Bi.has_in hs 1 (by omega)
        rw [hh1] at this; exact this
    have HX : Hid (∀ u, Below w1.heap.size w1 u → u.cell? ⟨X, 1536, none⟩ = some (.int .i64 x.word) ∧ u.cell? ⟨X, 1537, none⟩ = some (.int .i64 x.ep)) := Lib.hid fun u hu => ⟨(HD.out.below hu).xb.word, (HD.out.below hu).xb.ep⟩
    have HHS : Hid (∀ u u' g' b', Below w1.heap.size w1 u → Bi.Sat u g' b' 512 (heldS s) → Below u.heap.size u u' → Bi.Sat u' g' b' 512 (heldS s)) := Lib.hid fun u u' g' b' _ hs hu => hs.below hu
    generalize heldS s = hl at *
    generalize Bi.cnt hl 512 = cn at *
    generalize (freeL s).length = fr at *
    generalize needS s = nd at *
    have hq : ((fr : Int) == (pg : Int) - 2 - (cn : Int)) = true := by simp; omega
    clear hh0 hh1 hfl
    go_upto_region 7 with fail
    have HSM : Hid (∀ u, Below w1.heap.size w1 u → Calls Tryz.prog 13 #[.pointer (some ⟨g, 0, none⟩), .pointer (some ⟨X, 512, none⟩)] u fun e w' => e = .returned (.bool true) ∧ Below u.heap.size u w') := Lib.hid fun u hu => same_any (HD.out.below hu)
    have HWD : Hid (∀ u, Below w1.heap.size w1 u → Calls Tryz.prog 14 #[.pointer (some ⟨g, 0, none⟩)] u fun e w' => e = .returned (.int .i64 x.word) ∧ Below u.heap.size u w') := Lib.hid fun u hu => word_duo (HD.out.below hu)
    have HEP : Hid (∀ u, Below w1.heap.size w1 u → Calls Tryz.prog 15 #[.pointer (some ⟨g, 0, none⟩)] u fun e w' => e = .returned (.int .i64 x.ep) ∧ Below u.heap.size u w') := Lib.hid fun u hu => epoch_duo (HD.out.below hu)
    have HPG : Hid (∀ u, Below w1.heap.size w1 u → Calls Tryz.prog 16 #[.pointer (some ⟨g, 0, none⟩)] u fun e w' => e = .returned (.int .i64 (pg : Int)) ∧ Below u.heap.size u w') := Lib.hid fun u hu => pages_duo (HD.out.below hu)
    have HLV := Lib.hid lives_any
    generalize x.word = wd at *
    generalize x.ep = ep at *
    go_upto_region 8 with (go_at_call 12; refine (HH.out _ (Below.refl _ _)).mono ?_; rintro e w2 ⟨⟨g', b', rfl, hs⟩, hb2⟩)
    have HS2 := Lib.hid hs
    have HB2 := Lib.hid hb2
    clear hs hb2 HH
    have HI : Hid (∀ s : In w2, Below w1.heap.size w1 s.1) := Lib.hid fun s => Below.more HB2.out s.2 HB2.out.size
    have HSI : Hid (∀ s : In w2, Bi.Sat s.1 g' b' 512 hl) := Lib.hid fun s => HS2.out.below s.2
    have la : ∀ s : In w2, s.1.cell? ⟨X, 1536, none⟩ = some (.int .i64 wd) := fun s => (HX.out _ (HI.out s)).1
    have lb : ∀ s : In w2, s.1.cell? ⟨X, 1537, none⟩ = some (.int .i64 ep) := fun s => (HX.out _ (HI.out s)).2
    have hne := In.some w2
    simp only [List.append_eq, List.cons_append, List.nil_append]
    refine region_in w2 (by kernel_rfl) (by kernel_rfl) (Below.refl _ _) ?_
    repeat (go_big_quiet_step ((first
      | (go_at_call 13; exact Calls.quiet_in (HSM.out _ (HI.out _)))
      | (go_at_call 14; exact Calls.quiet_in (HWD.out _ (HI.out _)))
      | (go_at_call 15; exact Calls.quiet_in (HEP.out _ (HI.out _)))
      | (go_at_call 16; exact Calls.quiet_in (HPG.out _ (HI.out _)))
      | (go_at_call 17; exact Calls.quiet_in (HND.out _ (HI.out _)))
      | (go_at_call 18; exact Calls.quiet_in (HRN.out _ (HI.out _)))
      | (go_at_call 19; exact Calls.quiet_in_same (Bi.size_any (HSI.out _)))
      | (go_at_call 20; exact Calls.quiet_in (HFR.out _ (HI.out _)))
      | (go_at_call 21; exact Calls.quiet_in (HCN.out _ _ _ (HSI.out _)))
      | (go_at_call 22; exact Calls.quiet_in (HSB.out _ _ _ _ (by first | exact .inl rfl | exact .inr rfl) (HSI.out _)))
      | (go_at_call 10; exact Calls.quiet_in (HLV.out _)))))
    refine wpQuiet_nil ?_
    intro w12 hw'
    have hb12 : Below w2.heap.size w2 w12 := by
      obtain ⟨⟨wz, hbz⟩, hw''⟩ := hw'
      subst hw''
      exact hbz
    clear hw'
    go_wp2_with fail
    go_ret
    exact ⟨rfl, Below.more HB.out (Below.more HB2.out hb12 HB2.out.size) HB.out.size⟩
  · have HF := Lib.hid (few_no a hf w)
    have HN := Lib.hid (format_nil w)
    have HL := Lib.hid lives_any
    clear hO hf
    go_enter Tryz.func3, Tryz.ntmps3
    go_wp2_with (first
      | (go_at_call 8; refine HF.out.mono ?_; rintro e w1 ⟨rfl, rfl⟩)
      | (go_at_call 9; refine HN.out.mono ?_; rintro e w2 ⟨rfl, hb2⟩)
      | (go_at_call 10; refine (HL.out _).mono ?_; rintro e w3 ⟨rfl, hb3⟩))
    go_ret
    exact ⟨rfl, hb2.trans (hb3.mono hb2.size)⟩
end Go.Proofs.YthcnofdihigohaaGreat
end
section
/- What the rows of all these laws share: steps that came in, and how a call that returns true meets its row. -/
namespace Go.Proofs.YthcnofdihigohaaGreat
open Go.ChangeShapes Go.WideShapes Go.ChangeAt Go.RowKit

theorem own : ownKnob Tryz.prog.godebug = none := by kernel_rfl
theorem laidOut : laidOutB Tryz.prog = true := by kernel_rfl
theorem cells3 : Tryz.prog.cellsOf 3 = 1 := by kernel_rfl
theorem bytes3 : Tryz.prog.bytesOf 3 = 8 := by kernel_rfl

section
variable {H : Type} {enc : TypeId × Value → H}

/-- A call that leaves all that was there as it was meets the row's post. -/
theorem law_post {P : Program} {f : Func} {s : ChangeSpec} {apart fresh handsOn : Bool} {W W' : World} {args : Array Value} {v : Value} {ds gs : List (DataW H)} {before pa pv : List MemPlace}
    (hW : DataW.Whole enc P f.params.toList s.vars apart W args.toList ds gs before)
    (hres : ∀ (b : Nat) (sp : Nat → Bool) (hd : Bool), DataW.TrodAll enc P W' b sp hd f.resultTypes.toList (v.resultList f.resultTypes.size) (s.fn H (ds ++ gs)).results [])
    (hargs : DataW.TrodAll enc P W' 0 (fun b => decide (b < W.heap.size)) true f.params.toList args.toList (s.fn H (ds ++ gs)).args pa)
    (hvars : DataW.TrodVars enc P W' (fun b => decide (b < W.heap.size)) s.vars (s.fn H (ds ++ gs)).vars pv)
    (hps : before = pa ++ pv) (hb : Below W.heap.size W W') : s.post enc P f apart fresh handsOn false W args v W' :=
  ⟨ds, gs, before, [], pa, pv, hW, hres _ _ _, hargs, hvars, World.keptBut_mono (fun p hp => ⟨hp, .inr (List.mem_append.1 (hps ▸ hp))⟩) (hb.frame (· ∈ before)), fun h => by cases h⟩

end

theorem i64_of {n : Int} (h : (Lit.int .i64 n).wf = true) : -9223372036854775808 ≤ n ∧ n ≤ 9223372036854775807 := by
  simp only [Lit.wf, Bool.and_eq_true, decide_eq_true_eq] at h
  exact h
theorem u8_of {n : Int} (h : (Lit.int .u8 n).wf = true) : 0 ≤ n ∧ n < 256 := by
  simp only [Lit.wf, Bool.and_eq_true, decide_eq_true_eq] at h
  have h1 := h.1
  have h2 := h.2
  simp [IntKind.max, IntKind.min, IntKind.bits, IntKind.signed] at h1 h2
  omega
theorem cells90 : Tryz.prog.cellsOf 90 = 4 := by kernel_rfl
theorem cells5 : Tryz.prog.cellsOf 5 = 1 := by kernel_rfl
section
variable {H : Type} {enc : TypeId × Value → H}
/-- The cells of a step. -/
theorem op_cells {W : World} {n' : Nat} {ys : List (DataW H × List MemPlace)} {k0 k1 k2 k3 : Value} (hyl : ys.length = 4)
    (hg : ∀ (i : Nat) (f : Field), #[({ name := "Kind", type := 3, offset := 0, embedded := false, tag := "", pkgPath := "", byteOffset := 0 } : Field), { name := "L", type := 3, offset := 1, embedded := false, tag := "", pkgPath := "", byteOffset := 8 }, { name := "N", type := 3, offset := 2, embedded := false, tag := "", pkgPath := "", byteOffset := 16 }, { name := "Fill", type := 5, offset := 3, embedded := false, tag := "", pkgPath := "", byteOffset := 24 }][i]? = some f →
      DataW.trod enc Tryz.prog W 0 (fun _ => true) true n' f.type (([k0, k1, k2, k3].drop f.offset).take (Tryz.prog.cellsOf f.type)) = ys[i]?) :
    ∃ o : Op4, k0 = .int .i64 o.k ∧ k1 = .int .i64 o.l ∧ k2 = .int .i64 o.n ∧ k3 = .int .u8 (o.c : Int) ∧ (-9223372036854775808 ≤ o.l ∧ o.l ≤ 9223372036854775807 ∧ o.c < 256) := by
  match ys, hyl with
  | [y0, y1, y2, y3], _ =>
    have g0 : DataW.trod enc Tryz.prog W 0 (fun _ => true) true n' 3 [k0] = some y0 := by
      have h := hg 0 ⟨"Kind", 3, 0, false, "", "", 0⟩ rfl
      dsimp only at h
      rw [cells3] at h
      exact h
    have g1 : DataW.trod enc Tryz.prog W 0 (fun _ => true) true n' 3 [k1] = some y1 := by
      have h := hg 1 ⟨"L", 3, 1, false, "", "", 8⟩ rfl
      dsimp only at h
      rw [cells3] at h
      exact h
    have g2 : DataW.trod enc Tryz.prog W 0 (fun _ => true) true n' 3 [k2] = some y2 := by
      have h := hg 2 ⟨"N", 3, 2, false, "", "", 16⟩ rfl
      dsimp only at h
      rw [cells3] at h
      exact h
    have g3 : DataW.trod enc Tryz.prog W 0 (fun _ => true) true n' 5 [k3] = some y3 := by
      have h := hg 3 ⟨"Fill", 5, 3, false, "", "", 24⟩ rfl
      dsimp only at h
      rw [cells5] at h
      exact h
    obtain ⟨z0, e0, _, w0⟩ := DataW.trod_int Tryz.underlying3 g0
    obtain ⟨z1, e1, _, w1⟩ := DataW.trod_int Tryz.underlying3 g1
    obtain ⟨z2, e2, _, w2⟩ := DataW.trod_int Tryz.underlying3 g2
    obtain ⟨z3, e3, _, w3⟩ := DataW.trod_int Tryz.underlying5 g3
    have e0' : k0 = .int .i64 z0 := by simpa using e0
    have e1' : k1 = .int .i64 z1 := by simpa using e1
    have e2' : k2 = .int .i64 z2 := by simpa using e2
    have e3' : k3 = .int .u8 z3 := by simpa using e3
    have r3 := u8_of w3
    exact ⟨⟨z0, z1, z2, z3.toNat⟩, e0', e1', e2', by rw [e3']; congr 1; show z3 = ((z3.toNat : Nat) : Int); omega, ⟨(i64_of w1).1, (i64_of w1).2, by show z3.toNat < 256; omega⟩⟩

set_option maxRecDepth 100000 in
/-- A slice of steps. -/
theorem open_ops {W : World} {base : Nat} {v : Value} {d : DataW H} {p : List MemPlace} (hval : Value.okWide Tryz.prog W .any base 22 v) (h : DataW.Trod enc Tryz.prog W 0 (fun _ => true) true 22 v d p) :
    ∃ (q : Option Addr) (n c : Nat) (f : Nat → Op4), v = .slice q n c ∧ OpsIn W q n f ∧ n ≤ 9223372036854775807 := by
  obtain ⟨a1, len, cap, rfl⟩ := okWide_slice Tryz.underlying22 hval
  obtain ⟨fuel, hf⟩ := h
  rcases Go.Deep.open_slice Tryz.underlying22 hf with ⟨hcs, _⟩ | ⟨a, len', cap', m, n, D, Pl, hcs, _, hl, hm, hmm, _, hr⟩
  · simp [Value.cells] at hcs
    obtain ⟨rfl, rfl, rfl⟩ := hcs
    exact ⟨none, 0, 0, default, rfl, fun h => absurd h (Nat.lt_irrefl 0), by omega⟩
  · simp [Value.cells] at hcs
    obtain ⟨rfl, rfl, rfl⟩ := hcs
    simp only [if_true] at hmm
    rw [cells90] at hr
    have hone : ∀ i, i < len → ∃ x : Op4, (∀ (b o : Nat) sp, a = ⟨b, o, sp⟩ → (i = 0 → sp = none) ∧ W.rangeAt b (o + i * 4) [.int .i64 x.k, .int .i64 x.l, .int .i64 x.n, .int .u8 (x.c : Int)] ∧ -9223372036854775808 ≤ x.l ∧ x.l ≤ 9223372036854775807 ∧ x.c < 256) := fun i hi => by
      obtain ⟨cs', hc, ht⟩ := hr i (by omega)
      obtain ⟨_, hlen, hat⟩ := World.cells?_some hc
      obtain ⟨ys, n', _, _, _, hyl, hg⟩ := DataW.trod_struct Tryz.underlying90 ht
      match cs', hlen with
      | [k0, k1, k2, k3], _ =>
        obtain ⟨x, rfl, rfl, rfl, rfl, hB⟩ := op_cells (W := W) (n' := n') (ys := ys) hyl (by exact hg)
        refine ⟨x, fun b o sp e => ?_⟩
        subst e
        have h0 := hat 0 (by omega)
        have hsp : i = 0 → sp = none := fun e => by
          subst e
          simpa [Addr.add] using World.cell?_spot h0
        refine ⟨hsp, ?_⟩
        have ha : (⟨b, o, sp⟩ : Addr).add (i * 4) = ⟨b, o + i * 4, none⟩ := by
          rcases Nat.eq_zero_or_pos i with e | e
          · subst e; rw [hsp rfl]; rfl
          · simp [Addr.add]; omega
        rw [ha] at hat
        have hs : ∀ j (hj : j < 4), W.cell? ⟨b, o + i * 4 + j, none⟩ = [Value.int .i64 x.k, .int .i64 x.l, .int .i64 x.n, .int .u8 (x.c : Int)][j]? := fun j hj => by
          have := hat j hj
          rw [Go.WideShapes.add_plain] at this
          exact this
        refine ⟨fun j v hv => ?_, hB⟩
        have hj : j < 4 := by have := (List.getElem?_eq_some_iff.1 hv).1; exact this
        rw [hs j hj]; exact hv
    obtain ⟨f, hf'⟩ := Go.Deep.choose_lt hone
    refine ⟨_, _, _, f, rfl, fun hn => ?_, by unfold maxLen at hm; omega⟩
    obtain ⟨b, o, sp⟩ := a
    have hsp : sp = none := (hf' 0 hn b o sp rfl).1 rfl
    subst hsp
    exact ⟨b, o, rfl, World.block_lt_of_cell? W _ (((hf' 0 hn b o none rfl).2.1 0 _ rfl)), fun i hi => (hf' i hi b o none rfl).2⟩
end
end Go.Proofs.YthcnofdihigohaaGreat
end
section
/- A failure that came in by value. -/
set_option linter.unusedSimpArgs false
set_option maxRecDepth 100000
namespace Go.Proofs.YthcnofdihigohaaGreat
open Go.ChangeShapes Go.WideShapes Go.ChangeAt Go.RowKit

theorem cells47 : Tryz.prog.cellsOf 47 = 1 := by kernel_rfl
theorem cells49 : Tryz.prog.cellsOf 49 = 4 := by kernel_rfl
theorem cells4 : Tryz.prog.cellsOf 4 = 1 := by kernel_rfl
section
variable {H : Type} {enc : TypeId × Value → H}
/-- A list of bools. -/
theorem field_kp {W : World} {base : Nat} {held : Bool} {fuel : Nat} {v : Value} {y : DataW H × List MemPlace} (h : DataW.trod enc Tryz.prog W base (fun _ => true) held fuel 47 [v] = some y) :
    ∃ (p : Option Addr) (n c : Nat) (f : Nat → Bool), v = .slice p n c ∧ Kp W p n f ∧ n ≤ 9223372036854775807 := by
  rcases Go.Deep.open_bools Tryz.underlying47 Tryz.underlying4 cells4 h with ⟨hcs, _⟩ | ⟨a, len, cap, B, hcs, _, hl, hm, _, hcell⟩
  · simp at hcs
    exact ⟨none, 0, 0, fun _ => false, hcs, fun h => absurd h (Nat.lt_irrefl 0), by omega⟩
  · simp at hcs
    refine ⟨some a, len, cap, B, hcs, fun hn => ?_, by unfold maxLen at hm; omega⟩
    obtain ⟨b, o, sp⟩ := a
    obtain rfl : sp = none := by simpa [Addr.add] using World.cell?_spot (hcell 0 (by omega))
    exact ⟨b, o, rfl, fun r hr => by have := hcell r (by omega); rw [Go.WideShapes.add_plain] at this; exact this⟩
set_option maxRecDepth 100000 in
theorem open_fail {W : World} {base : Nat} {v : Value} {d : DataW H} {p : List MemPlace} (hval : Value.okWide Tryz.prog W .any base 49 v) (h : DataW.Trod enc Tryz.prog W 0 (fun _ => true) true 49 v d p) :
    ∃ (fu tn at_ : Int) (pk : Option Addr) (nk ck : Nat) (kf : Nat → Bool), v = .agg #[.int .i64 fu, .int .i64 tn, .int .i64 at_, .slice pk nk ck] ∧ (-9223372036854775808 ≤ fu ∧ fu ≤ 9223372036854775807) ∧ nk ≤ 9223372036854775807 ∧ Kp W pk nk kf ∧ (0 < nk → ∃ B o, pk = some ⟨B, o, none⟩ ∧ B < W.heap.size) := by
  obtain ⟨cs, rfl, hsz⟩ := okWide_struct Tryz.underlying49 hval
  obtain ⟨l⟩ := cs
  match l, hsz.trans cells49 with
  | [k0, k1, k2, k3], _ =>
    obtain ⟨fuel, hf⟩ := h
    obtain ⟨ys, n', _, _, _, hyl, hg⟩ := DataW.trod_struct Tryz.underlying49 hf
    match ys, hyl with
    | [y0, y1, y2, y3], _ =>
      have g0 : DataW.trod enc Tryz.prog W 0 (fun _ => true) true n' 3 [k0] = some y0 := by
        have h := hg 0 ⟨"Fuse", 3, 0, false, "", "", 0⟩ rfl
        dsimp only at h
        rw [cells3] at h
        exact h
      have g1 : DataW.trod enc Tryz.prog W 0 (fun _ => true) true n' 3 [k1] = some y1 := by
        have h := hg 1 ⟨"Torn", 3, 1, false, "", "", 8⟩ rfl
        dsimp only at h
        rw [cells3] at h
        exact h
      have g2 : DataW.trod enc Tryz.prog W 0 (fun _ => true) true n' 3 [k2] = some y2 := by
        have h := hg 2 ⟨"At", 3, 2, false, "", "", 16⟩ rfl
        dsimp only at h
        rw [cells3] at h
        exact h
      have g3 : DataW.trod enc Tryz.prog W 0 (fun _ => true) true n' 47 [k3] = some y3 := by
        have h := hg 3 ⟨"Keep", 47, 3, false, "", "", 24⟩ rfl
        dsimp only at h
        rw [cells47] at h
        exact h
      obtain ⟨z0, e0, _, w0⟩ := DataW.trod_int Tryz.underlying3 g0
      obtain ⟨z1, e1, _, w1⟩ := DataW.trod_int Tryz.underlying3 g1
      obtain ⟨z2, e2, _, w2⟩ := DataW.trod_int Tryz.underlying3 g2
      obtain ⟨q, n, c, f, rfl, hK, hn⟩ := field_kp g3
      have e0' : k0 = .int .i64 z0 := by simpa using e0
      have e1' : k1 = .int .i64 z1 := by simpa using e1
      have e2' : k2 = .int .i64 z2 := by simpa using e2
      subst e0' e1' e2'
      refine ⟨z0, z1, z2, q, n, c, f, rfl, i64_of w0, hn, hK, fun hp => ?_⟩
      obtain ⟨b, o, e, hr⟩ := hK hp
      exact ⟨b, o, e, World.block_lt_of_cell? W _ (hr 0 hp)⟩
end
end Go.Proofs.YthcnofdihigohaaGreat
end
section
/- A fuse; a commit that may be cut, and what waits behind it. -/
set_option maxRecDepth 20000
set_option linter.unusedSimpArgs false
namespace Go.Proofs.YthcnofdihigohaaGreat
open Go.RowKit

theorem layM_row (m : Dsk) (ps : List (Nat × List Nat)) (r : Rt) : (layM m ps r).1.row.length ≤ m.row.length + 4 * ps.length + 3 := by
  have h1 := (layW_bounds m ps ps.length).2.1
  have h2 := (bar_bounds (layW m ps ps.length).1).2.1
  have h3 := (put_bounds (barM (layW m ps ps.length).1) (place r.ep) (block r)).2.1
  have h4 := (bar_bounds (putM (barM (layW m ps ps.length).1) (place r.ep) (block r))).2.1
  unfold layM
  split
  · omega
  · split
    · show (barM _).row.length ≤ _; omega
    · split
      · show (putM _ _ _).row.length ≤ _; omega
      · show (barM _).row.length ≤ _; omega
/-- What waits behind a commit that may be cut. -/
structure Wts (s : Sp) (pg : Nat) (M : Dsk × Int) : Prop where
  e : M.2 = 0 ∨ M.2 = 8 ∨ M.2 = 9
  z : M.2 = 0 → M.1.row = []
  at_ : ∀ x ∈ M.1.row, (x.1 : Int) = place (s.g.r.ep + 1) ∨ (2 ≤ x.1 / 4 ∧ x.1 / 4 < pg ∧ heldS s (x.1 / 4) = false)
  len : M.1.row.length ≤ 1099511627776
/-- Sets stay. -/
def SatK (w w' : World) : Prop := ∀ g b n f, Bi.Sat w g b n f → Bi.Sat w' g b n f
/-- The disk has a fuse, else all is at rest. -/
structure Fus (b : Nat) (w : World) (d g : Nat) (m : Dsk) (s : Sp) (pg : Nat) (cut : Int) : Prop where
  mem : ∃ F G, Dk w d F (fuseM m cut) ∧ Spc w g G d s ∧ ∀ k ∈ F ++ G, b ≤ k
  inv : Inv m s pg
  dn : m.done ≤ 2305843009213693951
  ep : 0 ≤ s.g.r.ep ∧ s.g.r.ep ≤ 2305843009213693951
  bl : b ≤ w.heap.size
section
variable {b : Nat} {w : World} {d g X : Nat} {m : Dsk} {s : Sp} {pg : Nat} {x y : Xv} {k : Nat}
theorem fuse_duo (h : Duo b w d g X m s pg x y k) (cut : Int) (h0 : 0 ≤ cut) (h1 : cut ≤ 9223372036854775807) :
    Calls Tryz.prog 23 #[.pointer (some ⟨d, 0, none⟩), .int .i64 cut] w fun e w' => e = .returned (.tuple #[]) ∧ Fus b w' d g m s pg cut ∧ SatK w w' ∧ Below b w w' := by
  obtain ⟨F, G, hD, hS, hge⟩ := h.mem
  have hD0 := hD
  obtain ⟨bO, cO, bL, cL, vW, os, ls, ws, hD, rfl⟩ := hD
  have a1 := h.k
  have a2 := h.dn
  have a3 := h.ep
  refine (fuse_any hD cut (by omega) h1).mono ?_
  rintro e w' ⟨rfl, hD1, hc⟩
  have hgeF : ∀ j ∈ foot d bO bL vW, b ≤ j := fun j hj => hge j (List.mem_append_left _ hj)
  exact ⟨rfl, ⟨⟨foot d bO bL vW, G, ⟨_, _, _, _, _, _, _, _, hD1, rfl⟩, hS.stay hc hD0.typed.kin (apart_of' hD0.typed hS), hge⟩, h.inv, by omega, ⟨a3.1, by omega⟩, Nat.le_trans h.bl hc.size⟩, fun _ _ _ _ hs => Sat.chg2 hs hc hD0.typed.kin, hc.belowB hgeF h.bl⟩
theorem Fus.below {cut : Int} (h : Fus b w d g m s pg cut) {w' : World} (hb : Below w.heap.size w w') : Fus b w' d g m s pg cut := by
  obtain ⟨F, G, hD, hS, hge⟩ := h.mem
  exact ⟨⟨F, G, hD.below hb, hS.below hb, hge⟩, h.inv, h.dn, h.ep, Nat.le_trans h.bl hb.size⟩
/-- The disk alone, behind the commit. -/
structure Wai (b : Nat) (w : World) (d : Nat) (M : Dsk) : Prop where
  mem : ∃ F, Dk w d F M ∧ ∀ k ∈ F, b ≤ k
  bl : b ≤ w.heap.size
theorem Wai.below {M : Dsk} (h : Wai b w d M) {w' : World} (hb : Below w.heap.size w w') : Wai b w' d M := by
  obtain ⟨F, hD, hge⟩ := h.mem
  exact ⟨⟨F, hD.below hb, hge⟩, Nat.le_trans h.bl hb.size⟩
theorem cut_go {cut : Int} (h : Fus b w d g m s pg cut) (word : Int) (hw : 0 ≤ word ∧ word ≤ 2147483647) :
    Calls Tryz.prog 24 #[.pointer (some ⟨g, 0, none⟩), .int .i64 word] w fun e w' => ∃ M : Dsk × Int, e = .returned (.int .i64 M.2) ∧ Wts s pg M ∧ Wai b w' d M.1 ∧ SatK w w' ∧ Below b w w' := by
  obtain ⟨F, G, hD, hS, hge⟩ := h.mem
  obtain ⟨pt, pk, mb, pu, po, hS, rfl⟩ := hS
  have hI := h.inv
  have hep := h.ep
  have hdn := h.dn
  have hmw := may_word hI ⟨hep.1, by omega⟩ word
  have hpg := hI.pgle
  have hpgE := hI.sp.pgE
  have he1 : -9223372036854775808 ≤ s.g.r.ep ∧ s.g.r.ep ≤ 4611686018427387904 := ⟨by have := hep.1; omega, by have := hep.2; omega⟩
  have hm : may (nextR s word) = true := by rw [hmw, decide_eq_true hw.1, decide_eq_true hw.2]; rfl
  have hgeF : ∀ j ∈ F, b ≤ j := fun j hj => hge j (List.mem_append_left _ hj)
  by_cases hf : (freeL s).length < needS s
  · refine (commit_full hS word he1 hm pg hpgE hpg.2 hf).mono ?_
    rintro e w' ⟨rfl, hb⟩
    have hr : (fuseM m cut).row = [] := hI.row
    exact ⟨(fuseM m cut, 8), rfl, ⟨.inr (.inl rfl), fun e => absurd (show (8 : Int) = 0 from e) (by decide), fun x hx => (by rw [hr] at hx; cases hx), by rw [hr]; exact Nat.zero_le _⟩, ⟨⟨F, hD.below hb, hgeF⟩, Nat.le_trans h.bl hb.size⟩, fun _ _ _ _ hs => hs.below hb, hb.mono h.bl⟩
  · have hN : needS s ≤ (freeL s).length := Nat.le_of_not_lt hf
    have hB := hI.sp.base
    have hnl := need_le s
    have hpl := plW_len s (nextR s word)
    have hln := hI.len
    have hp4 := hB.p4
    have hM : Mays (planRt s (nextR s word)) := plan_mays hB hN hpgE hm
    have hpn : place (planRt s (nextR s word)).ep = ((if (s.g.r.ep + 1) % 2 = 1 then 4 else 0 : Nat) : Int) := place_nat hM.e0 hM.e1
    have hlt : (if (s.g.r.ep + 1) % 2 = 1 then 4 else 0 : Nat) < (fuseM m cut).out.length := by show _ < m.out.length; split <;> omega
    have hL := lay_laid (m := fuseM m cut) (r := planRt s (nextR s word)) hI.up hI.row (psOk hB hN (nextR s word) (by show 4 * pg ≤ m.out.length; omega)) hpn hlt
    have hrow := layM_row (fuseM m cut) (plW s (nextR s word)) (planRt s (nextR s word))
    have hr0 : (fuseM m cut).row.length = 0 := by show m.row.length = 0; rw [hI.row]; rfl
    refine (commit_go hS hD word he1 hm pg hpgE hpg.2 hN (fun k hk => ?_) (by omega) hM (by show _ ≤ (m.out.length : Int); omega) (by show m.done ≤ _; omega) (by omega)).mono ?_
    · have h1 := plW_ok hB hN (nextR s word) (getD_memP hk)
      exact ⟨h1.1, h1.2.1, by have := h1.2.2; omega⟩
    · rintro e w' ⟨rfl, F', G', hD', hC, hR⟩
      have hgeF' : ∀ j ∈ F', b ≤ j := fun j hj => hC.ge hge h.bl j (List.mem_append_left _ hj)
      refine ⟨_, rfl, ?_, ⟨⟨F', hD', hgeF'⟩, Nat.le_trans h.bl hC.size⟩, fun _ _ _ _ hs => Sat.chg2 hs hC (hD.typed.kin.app hS.kin), hC.belowB hge h.bl⟩
      have hplw : ∀ y ∈ plW s (nextR s word), 2 ≤ y.1 ∧ y.1 < pg ∧ heldS s y.1 = false := fun y hy => by
        have := (free_mem hB).1 (plW_page hN hy)
        exact ⟨this.2.1, this.1, this.2.2⟩
      have hpn2 : ((if (s.g.r.ep + 1) % 2 = 1 then 4 else 0 : Nat) : Int) = place (s.g.r.ep + 1) := hpn.symm
      generalize layM (fuseM m cut) (plW s (nextR s word)) (planRt s (nextR s word)) = M at *
      refine ⟨?_, ?_, ?_, by omega⟩
      · cases hL with
        | all e => exact .inl e
        | cut e => exact .inr (.inr e)
        | half e => exact .inr (.inr e)
      · cases hL with
        | all e d r => exact fun _ => r
        | cut e => exact fun h => absurd (h.symm.trans e) (by decide)
        | half e => exact fun h => absurd (h.symm.trans e) (by decide)
      · intro z hz
        cases hL with
        | all e d r => rw [r] at hz; cases hz
        | cut e d f o r =>
          obtain ⟨y, hy, hzy⟩ := r z hz
          rw [hzy]
          exact .inr (hplw y hy)
        | half e d f o r =>
          rcases r with r | r
          · rw [r] at hz; cases hz
          · rw [r] at hz
            rw [List.mem_singleton.1 hz]
            exact .inl hpn2
/-- The row that Waiting makes, cell by cell. -/
structure Wrow (w : World) (q : Option Addr) (n : Nat) (row : List (Nat × List Nat)) : Prop where
  len : row.length = n
  at_ : ∀ i, i < n → ∃ b, q = some ⟨b, 0, none⟩ ∧ w.cell? ⟨b, i, none⟩ = some (.int .i64 ((wr row i).1 : Int))
theorem Wrow.below {q : Option Addr} {n : Nat} {row : List (Nat × List Nat)} (h : Wrow w q n row) {w' : World} (hb : Below w.heap.size w w') : Wrow w' q n row := by
  refine ⟨h.len, fun i hi => ?_⟩
  obtain ⟨b', e, hc⟩ := h.at_ i hi
  exact ⟨b', e, (hb.cell (World.block_lt_of_cell? w _ hc)).trans hc⟩
theorem wait_go {M : Dsk} (h : Wai b w d M) (n : Nat) (hn : M.row.length = n) (hl : n ≤ 1099511627776) :
    Calls Tryz.prog 34 #[.pointer (some ⟨d, 0, none⟩)] w fun e w' => (∃ q c, e = .returned (.slice q n c) ∧ Wrow w' q n M.row) ∧ Below w.heap.size w w' := by
  obtain ⟨F, hD, _⟩ := h.mem
  obtain ⟨bO, cO, bL, cL, vW, os, ls, ws, hD, rfl⟩ := hD
  refine (waiting_any hD n (Lib.hid hn) hl).mono ?_
  rintro e w' ⟨⟨q, c, rfl, ho⟩, hb⟩
  refine ⟨⟨q, c, rfl, ⟨hn, fun i hi => ?_⟩⟩, hb⟩
  rcases ho.2 with ⟨_, h1⟩ | ⟨g', cap, cur, e, _⟩
  · omega
  · cases e
    have h2 := World.ownsRow.cells ho (g := g') rfl i (.int .i64 ((wr M.row i).1 : Int)) (by
      unfold ats
      rw [List.getElem?_map, List.getElem?_eq_getElem (by omega)]
      unfold wr
      rw [List.getD_eq_getElem?_getD, List.getElem?_eq_getElem (by omega)]; rfl)
    rw [Go.WideShapes.add_plain] at h2
    rw [Nat.zero_add] at h2
    exact ⟨g', rfl, h2⟩
end
end Go.Proofs.YthcnofdihigohaaGreat
end
