/- The law CrcPieces returns true for any pieces of bytes. -/
import Derived.Test.YtlmgipollfhpmaaLaw
import Derived.Test.YtlmgipollfhpmaaSeal
import Derived.Laws.AppendOwnNone
import Derived.OneCell
import Derived.Deep.Matrix
import Derived.Test.YtlmgipollfhpmaaBack
namespace Go.Proofs.Ytlmgipollfhpmaa
open Go.ChangeShapes Go.WideShapes Go.ChangeAt Go.RowKit

/-- The first pieces, one behind the other. -/
def cat (ps : Nat → List Nat) : Nat → List Nat
  | 0 => []
  | i + 1 => cat ps i ++ ps i
def Pcs (w : World) (b o n : Nat) (A : Nat → Option Addr) (L C : Nat → Nat) (ps : Nat → List Nat) : Prop :=
  ∀ r, r < n → w.cell? ⟨b, o + r, none⟩ = some (.slice (A r) (L r) (C r)) ∧ Bys w (A r) (L r) (ps r) ∧ (A r = none → C r = 0) ∧ L r ≤ C r
theorem own_slice {w : World} {base n : Nat} {v : Value} {xs : List Value} (h : w.ownsRow base 5 1 v n xs) : ∃ p c, v = .slice p n c := by
  rcases h.2 with ⟨h0, h1⟩ | ⟨g, cap, cur, e, _⟩
  · subst h1; exact ⟨none, 0, h0⟩
  · exact ⟨_, _, e⟩
theorem Bys.own {w : World} {base n c : Nat} {p : Option Addr} {bs : List Nat} (h : w.ownsRow base 5 1 (.slice p n c) n (u8s bs)) (hb : ∀ x ∈ bs, x < 256) : Bys w p n bs := by
  have hl : bs.length = n := by have := h.1; rw [u8s_len] at this; omega
  rcases h.2 with ⟨h0, h1⟩ | ⟨g, cap, cur, e, _⟩
  · subst h1
    exact ⟨hl, hb, Lib.BytesIn.nil _ _ _⟩
  · cases e
    exact Bys.of_row h hb
structure PcRel (w wr : World) (p : Option Addr) (k c i : Nat) (ps : Nat → List Nat) : Prop where
  below : Below w.heap.size w wr
  reg : wr.heap[w.heap.size]? = some (.cells #[.int .u32 (more 0 (cat ps i) : Nat)] 50 (0, 0))
  len : (cat ps i).length = k
  dig : ∀ x ∈ cat ps i, x < 256
  row : wr.ownsRow (w.heap.size + 1) 5 1 (.slice p k c) k (u8s (cat ps i))

structure PcMid (w wr : World) (p : Option Addr) (k c i : Nat) (ps : Nat → List Nat) : Prop where
  below : Below w.heap.size w wr
  reg : wr.heap[w.heap.size]? = some (.cells #[.int .u32 (more 0 (cat ps i) : Nat)] 50 (0, 0))
  len : (cat ps (i + 1)).length = k
  dig : ∀ x ∈ cat ps (i + 1), x < 256
  row : wr.ownsRow (w.heap.size + 1) 5 1 (.slice p k c) k (u8s (cat ps (i + 1)))
theorem PcRel.none_ {w wr : World} {p : Option Addr} {k c i : Nat} {ps : Nat → List Nat} (h : PcRel w wr p k c i ps) (h0 : ps i = []) : PcMid w wr p k c i ps := by
  have e : cat ps (i + 1) = cat ps i := by show cat ps i ++ ps i = _; rw [h0, List.append_nil]
  exact ⟨h.below, h.reg, by rw [e]; exact h.len, by rw [e]; exact h.dig, by rw [e]; exact h.row⟩
theorem PcRel.some_ {w wr w2 : World} {p p2 : Option Addr} {k c c2 i l : Nat} {ps : Nat → List Nat} (h : PcRel w wr p k c i ps) (hl : (ps i).length = l) (hd : ∀ x ∈ ps i, x < 256)
    (hown : w2.ownsRow (w.heap.size + 1) 5 1 (.slice p2 (k + l) c2) (k + l) (u8s (cat ps i) ++ u8s (ps i))) (hg : wr.grownBy w2 (Value.slice p k c).ownBlock) : PcMid w w2 p2 (k + l) c2 i ps := by
  have hlt := h.row.lt
  refine ⟨h.below.grown hg h.below.size (fun j e => by have := (hlt j e).1; omega), ?_, ?_, dig_append h.dig hd, ?_⟩
  · rw [hg.block w.heap.size (lt_of_block h.reg) (fun e => by have := (hlt _ e.symm).1; omega)]
    exact h.reg
  · show (cat ps i ++ ps i).length = _
    rw [List.length_append, h.len, hl]
  · show w2.ownsRow _ 5 1 _ _ (u8s (cat ps i ++ ps i))
    rw [u8s_append]; exact hown
theorem PcMid.put {w wr : World} {p : Option Addr} {k c i S : Nat} {ps : Nat → List Nat} (h : PcMid w wr p k c i ps) (hS : more 0 (cat ps (i + 1)) = S) : PcRel w (wr.setCell ⟨w.heap.size, 0, none⟩ (.int .u32 (S : Int))) p k c (i + 1) ps :=
  ⟨h.below.setCell (Nat.le_refl _) _, by rw [hS]; exact one_setCell h.reg, h.len, h.dig, ownsRow_setCell_below h.row (by show w.heap.size < _; omega) _⟩

set_option maxHeartbeats 1600000 in
theorem pieces_near (b o n c : Nat) (A : Nat → Option Addr) (L C : Nat → Nat) (ps : Nat → List Nat) (w : World) (hn : n ≤ 50) (hP : Pcs w b o n A L C ps) (hbl : 0 < n → b < w.heap.size) :
    Calls Try.prog 6 #[.slice (some ⟨b, o, none⟩) n c] w fun e w' => e = .returned (.bool true) ∧ Below w.heap.size w w' := by
  have hd1 : decide ((50 : Int) < (n : Int)) = false := decide_eq_false (by omega)
  obtain ⟨i0, hi, hz0, hz1, hz2⟩ := info_parts Try.info5
  have HI := Lib.hid hi
  have HZ0 := Lib.hid hz0
  have HZ1 := Lib.hid hz1
  have HZ2 := Lib.hid hz2
  have HP := Lib.hid hP
  have HBL := Lib.hid hbl
  clear hP hbl hi hz0 hz1 hz2
  go_enter Try.func6, Try.ntmps6
  go_wp2_with fail
  refine (new_any _).mono ?_
  rintro e w1 ⟨rfl, rfl⟩
  have H0 : Hid (PcRel w (w.alloc (.cells #[.int .u32 0] 50)) none 0 0 0 ps) := Lib.hid ⟨(Below.refl _ _).alloc (Nat.le_refl _) _, by rw [show more 0 (cat ps 0) = 0 from more_nil 0]; show (w.heap.push _)[w.heap.size]? = _; simp, rfl, (by intro x hx; cases hx), World.ownsRow_nil _ _ _ _⟩
  go_wp2_with fail
  generalize (w.alloc (.cells #[.int .u32 0] 50)) = W at *
  go_loopw [3, 4, 6] (fun av sv iv wr => ∃ (i k cc : Nat) (p : Option Addr) (s : Nat), i ≤ n ∧ k ≤ 500 * i ∧ iv = .int .i64 (i : Int) ∧ av = .slice p k cc ∧ sv = .int .u32 (s : Int) ∧ more 0 (cat ps i) = s ∧ PcRel w wr p k cc i ps) (fun _ _ i _ => n - (intOf i).toNat)
  case atStart => exact ⟨0, 0, 0, none, 0, by omega, by omega, by go_num, rfl, rfl, more_nil 0, H0.out⟩
  case round =>
    obtain ⟨i, k, cc, p, s, hin, hk5, rfl, rfl, rfl, hs, hr⟩ := hrel
    have HS := Lib.hid hs
    have HR := Lib.hid hr
    have hs4 : s < 4294967296 := by rw [← hs]; exact more_lt (by decide) hr.dig
    clear hs hr H0
    by_cases hlt : i < n
    · obtain ⟨hcell0, hBy, hA0, hLC⟩ := HP.out i hlt
      have hcell := (HR.out.below.cell (p := ⟨b, o + i, none⟩) (HBL.out (by omega))).trans hcell0
      have HB0 := Lib.hid hBy
      have HBy := Lib.hid (hBy.below HR.out.below)
      have HA0 := Lib.hid hA0
      have HC0 := Lib.hid hcell0
      clear hcell0 hBy hA0
      by_cases h5 : 500 < L i
      · have hd5 : decide ((500 : Int) < (L i : Int)) = true := decide_eq_true (by omega)
        have HW := Lib.hid HR.out.below
        clear HBy HA0
        generalize L i = l at *
        generalize C i = c1 at *
        generalize A i = a1 at *
        go_wp2_with fail
        refine (lives_any _).mono ?_
        rintro e w5 ⟨rfl, hb⟩
        have HZ := Lib.hid (HW.out.trans (hb.mono HW.out.size))
        clear hb
        go_wp2_with fail
        go_ret
        exact ⟨rfl, HZ.out⟩
      · have hd5 : decide ((500 : Int) < (L i : Int)) = false := decide_eq_false (by omega)
        obtain ⟨S2, HS2⟩ : ∃ S2, Hid (more s (ps i) = S2) := ⟨_, rfl⟩
        have HPS : Hid (more 0 (cat ps (i + 1)) = S2) := by rw [← HS2.out, ← HS.out]; exact Lib.hid (more_more 0 (cat ps i) (ps i)).symm
        have HPL : Hid ((ps i).length = L i) := Lib.hid HBy.out.len
        have HPD := Lib.hid HBy.out.dig
        generalize hli : L i = l at *
        generalize hci : C i = c1 at *
        clear hli hci
        cases hA : A i with
        | none =>
          rw [hA] at hcell HBy HB0 HC0
          obtain rfl : c1 = 0 := HA0.out hA
          obtain rfl : l = 0 := by omega
          clear hA HA0
          have HM := Lib.hid (HR.out.none_ HBy.out.nil_)
          clear HR
          go_wp2_with (with_reducible refine wpList_append_own_none rfl (.tmp 26) (.tmp 30) 22 rfl (w.heap.size + 1) 5 i0 1 Try.underlying22 HI.out (.slice p k cc) k _ rfl HM.out.row rfl ?_)
          have HBy := Lib.hid (HB0.out.below HM.out.below)
          clear hcell
          have hcell := (HM.out.below.cell (p := ⟨b, o + i, none⟩) (HBL.out (by omega))).trans HC0.out
          go_wp2_with fail
          refine (more_any s _ _ _ (ps i) _ hs4 (by omega) HBy.out).mono ?_
          rintro e w3 ⟨rfl, rfl⟩
          rw [HS2.out]
          have hS2 : S2 < 4294967296 := by rw [← HPS.out]; exact more_lt (by decide) HM.out.dig
          have hreg := HM.out.reg
          rw [HS.out] at hreg
          have hg := cell_of_one hreg
          have hf := free_of_one hreg
          clear hreg
          go_wp2_with fail
          refine (take_reg w.heap.size s _ _ _ (ps i) _ hs4 (by omega) HBy.out hg hf).mono ?_
          rintro e w3 ⟨rfl, rfl⟩
          rw [HS2.out]
          have HR2 := Lib.hid (HM.out.put HPS.out)
          clear HM hg hf hcell HBy
          generalize (World.setCell _ _ _) = W3 at *
          have hreg := HR2.out.reg
          rw [HPS.out] at hreg
          have hg := cell_of_one hreg
          clear hreg
          have HA2 := Lib.hid (Bys.own HR2.out.row HR2.out.dig)
          go_wp2_with fail
          refine (sum_reg w.heap.size S2 _ hg).mono ?_
          rintro e w3 ⟨rfl, rfl⟩
          go_wp2_with fail
          refine (sum_reg w.heap.size S2 _ hg).mono ?_
          rintro e w3 ⟨rfl, rfl⟩
          go_wp2_with fail
          refine (sum_any _ _ _ (cat ps (i + 1)) _ (by omega) HA2.out).mono ?_
          rintro e w3 ⟨rfl, rfl⟩
          rw [HPS.out]
          go_wp2_with fail
          go_roundw
          case rel => exact ⟨i + 1, _, _, _, S2, by omega, by omega, by go_num, rfl, rfl, HPS.out, HR2.out⟩
          case measure => simp [intOf]; omega
        | some ad =>
          rw [hA] at hcell HBy HB0 HC0
          clear hA HA0
          have KN : Hid (∀ j u, (u8s (ps i))[j]? = some u → wr.cell? (ad.add j) = some u) := Lib.hid (by
            rcases Nat.eq_zero_or_pos l with h0 | h0
            · subst h0
              rw [HBy.out.nil_]
              intro j u hj
              cases hj
            · obtain ⟨ad', e, h⟩ := HBy.out.cells h0
              cases e
              exact h)
          have KL : Hid ((u8s (ps i)).length = l * 1) := Lib.hid (by rw [u8s_len, HPL.out, Nat.mul_one])
          have KZ : Hid ((Value.int IntKind.u8 0).cells.size = 1) := Lib.hid rfl
          have K1 : Hid (0 < 1) := Lib.hid Nat.one_pos
          have K63 : Hid (k + l ≤ maxLen) := Lib.hid (by unfold maxLen; omega)
          have KB : Hid ((k + l) * 1 ≤ 140737488355328) := Lib.hid (by omega)
          have KE : Hid (w.heap.size + 1 ≤ wr.heap.size) := Lib.hid (lt_of_block HR.out.reg)
          go_wp2_with (with_reducible refine wpList_append_own (w := wr) rfl (.tmp 26) (.tmp 30) 22 rfl (w.heap.size + 1) 5 i0 (.int .u8 0) 1 1 Try.underlying22 HI.out HZ0.out HZ1.out HZ2.out KZ.out K1.out (.slice p k cc) k (u8s (cat ps i)) rfl HR.out.row ad l c1 (u8s (ps i)) rfl KL.out KN.out (u8s_one _) K63.out KB.out KE.out ?_)
          intro v2 w2 hown hgrow _
          obtain ⟨p2, c2, rfl⟩ := own_slice hown
          have HM := Lib.hid (HR.out.some_ HPL.out HPD.out hown hgrow)
          clear hown hgrow KN KL KZ K1 K63 KB KE HR
          have HBy := Lib.hid (HB0.out.below HM.out.below)
          clear hcell
          have hcell := (HM.out.below.cell (p := ⟨b, o + i, none⟩) (HBL.out (by omega))).trans HC0.out
          go_wp2_with fail
          refine (more_any s _ _ _ (ps i) _ hs4 (by omega) HBy.out).mono ?_
          rintro e w3 ⟨rfl, rfl⟩
          rw [HS2.out]
          have hS2 : S2 < 4294967296 := by rw [← HPS.out]; exact more_lt (by decide) HM.out.dig
          have hreg := HM.out.reg
          rw [HS.out] at hreg
          have hg := cell_of_one hreg
          have hf := free_of_one hreg
          clear hreg
          go_wp2_with fail
          refine (take_reg w.heap.size s _ _ _ (ps i) _ hs4 (by omega) HBy.out hg hf).mono ?_
          rintro e w3 ⟨rfl, rfl⟩
          rw [HS2.out]
          have HR2 := Lib.hid (HM.out.put HPS.out)
          clear HM hg hf hcell HBy
          generalize (World.setCell _ _ _) = W3 at *
          have hreg := HR2.out.reg
          rw [HPS.out] at hreg
          have hg := cell_of_one hreg
          clear hreg
          have HA2 := Lib.hid (Bys.own HR2.out.row HR2.out.dig)
          go_wp2_with fail
          refine (sum_reg w.heap.size S2 _ hg).mono ?_
          rintro e w3 ⟨rfl, rfl⟩
          go_wp2_with fail
          refine (sum_reg w.heap.size S2 _ hg).mono ?_
          rintro e w3 ⟨rfl, rfl⟩
          go_wp2_with fail
          refine (sum_any _ _ _ (cat ps (i + 1)) _ (by omega) HA2.out).mono ?_
          rintro e w3 ⟨rfl, rfl⟩
          rw [HPS.out]
          go_wp2_with fail
          go_roundw
          case rel => exact ⟨i + 1, _, _, _, S2, by omega, by omega, by go_num, rfl, rfl, HPS.out, HR2.out⟩
          case measure => simp [intOf]; omega
    · have hW := HR.out.below
      obtain rfl : i = n := by omega
      have HA2 := Lib.hid (Bys.own HR.out.row HR.out.dig)
      have HW := Lib.hid hW
      clear hW HR
      go_wp2_with fail
      refine (take_nil _ _ _ _).mono ?_
      rintro e w3 ⟨rfl, rfl⟩
      go_wp2_with fail
      refine (sum_nil _).mono ?_
      rintro e w3 ⟨rfl, rfl⟩
      go_wp2_with fail
      refine (sum_any _ _ _ (cat ps i) _ (by omega) HA2.out).mono ?_
      rintro e w3 ⟨rfl, rfl⟩
      rw [HS.out]
      go_wp2_with fail
      refine (lives_any _).mono ?_
      rintro e w5 ⟨rfl, hb⟩
      have HZ := Lib.hid (HW.out.trans (hb.mono HW.out.size))
      clear hb
      go_wp2_with fail
      go_ret
      exact ⟨rfl, HZ.out⟩

set_option maxHeartbeats 800000 in
theorem pieces_zero (q : Option Addr) (c : Nat) (w : World) :
    Calls Try.prog 6 #[.slice q 0 c] w fun e w' => e = .returned (.bool true) ∧ Below w.heap.size w w' := by
  go_enter Try.func6, Try.ntmps6
  go_wp2_with fail
  refine (new_any _).mono ?_
  rintro e w1 ⟨rfl, rfl⟩
  have HW := Lib.hid ((Below.refl w.heap.size w).alloc (Nat.le_refl _) (.cells #[.int .u32 0] 50))
  go_wp2_with fail
  generalize (w.alloc (.cells #[.int .u32 0] 50)) = W at *
  go_loopw [3, 4, 6] (fun av sv iv wr => iv = .int .i64 0 ∧ av = .slice none 0 0 ∧ sv = .int .u32 0 ∧ W = wr) (fun _ _ _ _ => 0)
  case atStart => exact ⟨by go_num, rfl, rfl, rfl⟩
  case round =>
    obtain ⟨rfl, rfl, rfl, rfl⟩ := hrel
    go_wp2_with fail
    refine (take_nil _ _ _ _).mono ?_
    rintro e w3 ⟨rfl, rfl⟩
    go_wp2_with fail
    refine (sum_nil _).mono ?_
    rintro e w3 ⟨rfl, rfl⟩
    go_wp2_with fail
    refine (sum_none _).mono ?_
    rintro e w3 ⟨rfl, rfl⟩
    go_wp2_with fail
    refine (lives_any _).mono ?_
    rintro e w5 ⟨rfl, hb⟩
    have HZ := Lib.hid (HW.out.trans (hb.mono HW.out.size))
    clear hb
    go_wp2_with fail
    go_ret
    exact ⟨rfl, HZ.out⟩

set_option maxHeartbeats 800000 in
theorem pieces_long (q : Option Addr) (n c : Nat) (w : World) (hn : 50 < n) (hm : n ≤ 9223372036854775807) :
    Calls Try.prog 6 #[.slice q n c] w fun e w' => e = .returned (.bool true) ∧ Below w.heap.size w w' := by
  have hd : decide ((50 : Int) < (n : Int)) = true := decide_eq_true (by omega)
  go_enter Try.func6, Try.ntmps6
  go_wp2_with fail
  refine (lives_any _).mono ?_
  rintro e w1 ⟨rfl, hb⟩
  have HB := Lib.hid hb
  clear hb
  go_wp2_with fail
  go_ret
  exact ⟨rfl, HB.out⟩

def RowsIn (W : World) (p : Option Addr) (n : Nat) : Prop :=
  n ≤ 9223372036854775807 ∧ (n = 0 ∨ ∃ (b o : Nat) (A : Nat → Option Addr) (L C : Nat → Nat) (ps : Nat → List Nat), p = some ⟨b, o, none⟩ ∧ Pcs W b o n A L C ps ∧ b < W.heap.size)
theorem pieces_walk (p : Option Addr) (n c : Nat) (w : World) (hP : RowsIn w p n) :
    Calls Try.prog 6 #[.slice p n c] w fun e w' => e = .returned (.bool true) ∧ Below w.heap.size w w' := by
  obtain ⟨hm, hP⟩ := hP
  by_cases hn : 50 < n
  · exact pieces_long p n c w hn hm
  · rcases hP with rfl | ⟨b, o, A, L, C, ps, rfl, hP, hb⟩
    · exact pieces_zero p c w
    · exact pieces_near b o n c A L C ps w (by omega) hP (fun _ => hb)

theorem cells22 : Try.prog.cellsOf 22 = 1 := by kernel_rfl
/-- A slice of slices of bytes that came in. -/
theorem open_rows {H : Type} {enc : TypeId × Value → H} {W : World} {base : Nat} {v : Value} {d : DataW H} {p : List MemPlace} (hval : Value.okWide Try.prog W .any base 33 v) (h : DataW.Trod enc Try.prog W 0 (fun _ => true) true 33 v d p) :
    ∃ (a : Option Addr) (n c : Nat), v = .slice a n c ∧ RowsIn W a n := by
  obtain ⟨a1, len, cap, rfl⟩ := okWide_slice Try.underlying33 hval
  obtain ⟨fuel, hf⟩ := h
  rcases Go.Deep.open_int_rows Try.underlying33 Try.underlying22 Try.underlying5 cells22 cells5 hf with ⟨hcs, _⟩ | ⟨a, len', cap', A, L, C, Z, hcs, _, hl, hm, _, hr⟩
  · simp [Value.cells] at hcs
    obtain ⟨rfl, rfl, rfl⟩ := hcs
    exact ⟨_, _, _, rfl, by omega, .inl rfl⟩
  · simp [Value.cells] at hcs
    obtain ⟨rfl, rfl, rfl⟩ := hcs
    refine ⟨_, _, _, rfl, by unfold maxLen at hm; omega, ?_⟩
    rcases Nat.eq_zero_or_pos len with h0 | h0
    · exact .inl h0
    · obtain ⟨b, o, s⟩ := a
      obtain rfl : s = none := by simpa [Addr.add] using World.cell?_spot (hr 0 (by omega)).1
      refine .inr ⟨b, o, A, L, C, fun r => ((Z r).take (L r)).map Int.toNat, rfl, fun r hlt => ?_, ?_⟩
      · obtain ⟨hcell, h1, _, h3, hw, h5, h6⟩ := hr r (by omega)
        rw [add_plain] at hcell
        refine ⟨hcell, ⟨by rw [List.length_map, List.length_take]; omega, fun x hx => ?_, fun hn => ?_⟩, h5, h1⟩
        · obtain ⟨z, hz1, rfl⟩ := List.mem_map.1 hx
          have hw := hw z (List.mem_of_mem_take hz1)
          simp only [Lit.wf, Bool.and_eq_true, decide_eq_true_eq] at hw
          have := hw.2
          simp [IntKind.max, IntKind.bits, IntKind.signed] at this
          omega
        · cases hA : A r with
          | none => have := h5 hA; omega
          | some a' =>
            have h7 := (h6 a' hA).2
            obtain ⟨b2, o2, s2⟩ := a'
            obtain rfl : s2 = none := by simpa [Addr.add] using World.cell?_spot (h7 0 (by omega))
            refine ⟨b2, o2, rfl, fun i hi => ?_⟩
            have h8 := h7 i (by omega)
            rw [add_plain] at h8
            rw [h8]
            have hb := range_u8 hw i
            congr 2
            rw [map_getD, List.getD_eq_getElem?_getD, List.getD_eq_getElem?_getD, List.getElem?_map, List.getElem?_take_of_lt hi]
            cases hzi : (Z r)[i]? with
            | none => rfl
            | some z =>
              rw [hzi] at hb
              simp only [Option.getD_some, Option.map_some] at hb ⊢
              omega
      · have hc := (hr 0 (by omega)).1
        rw [add_plain] at hc
        exact World.block_lt_of_cell? W _ hc

set_option maxRecDepth 100000 in
theorem pieces_lifted (os : Os) (started : os.Started) (H : Type) (enc : TypeId × Value → H) :
    ReturnsInHanded {} Try.checked os 6 .any (fun w args => Rows.crcPiecesSpec.pre enc Try.prog Try.f6 [] false w args ∧ sizedMet enc Try.prog Try.f6 (OpenSpec.ofChange Rows.crcPiecesSpec) false w args)
      (Rows.crcPiecesSpec.post enc Try.prog Try.f6 false true false false) := by
  refine returnsInHanded_of_change_sized (C := Try.checked) own started (by kernel_rfl) Try.func6
    (ChangeSpec.witness6 (enc := enc) (C := Try.checked) false ⟨#[], #[.slice none 0 0], []⟩ 8 (by kernel_rfl) (by kernel_rfl) (by kernel_rfl) (by kernel_rfl)) ?_
  intro W base args ds gs before hval0 hW _ hsz0 _
  have hval : ∀ (j : Nat) t v, Try.f6.params[j]? = some t → args[j]? = some v → Value.okWide Try.prog W .any base t v := hval0
  have hlt := fun x hx => hW.lt (p := x) hx
  have hW' := hW
  obtain ⟨p, q, hA0, hV, rfl, hfz, hnd⟩ := hW
  have hA : DataW.TrodAll enc Try.prog W 0 (fun _ => true) true Try.f6.params.toList args.toList ds p := hA0
  have hsz : (DataW.weightsEach Try.prog (Try.f6.params.toList ++ Rows.crcPiecesSpec.plain.varTypes Try.prog) (ds ++ gs)).all (· ≤ reachBytes) = true := hsz0
  rw [Try.params6] at hA hval hsz
  obtain ⟨v0, vs0, d0, ds0, p0, q0, hargs, rfl, rfl, h0, r0⟩ := trodAll_cons hA
  obtain ⟨rfl, rfl, rfl⟩ := trodAll_nil r0
  obtain rfl : args = #[v0] := by cases args; simp_all
  obtain ⟨rfl, rfl⟩ := trodVars_none hV
  obtain ⟨a0, n0, c0, rfl, hb0⟩ := open_rows (hval 0 33 v0 rfl rfl) h0
  clear hA0 hval0
  simp only [List.append_nil] at hW'
  refine (pieces_walk a0 n0 c0 W hb0).mono fun e W' ⟨he, hg⟩ => ?_
  subst he
  exact ⟨_, rfl, law_post hW' (fun _ _ _ => (trodAll_cons_mk (shut_bool Try.underlying4 _) trodAll_mk0)) (trodAll_cons_mk (Below.trod laidOut (by kernel_rfl) (by decide +kernel) h0 hg (fun x hx => hlt x (by simp [hx]))) trodAll_mk0) rfl (by simp) hg⟩

theorem pieces_holds : Rows.CrcPiecesSaid :=
  OpenClaim.holds_of_wide 6 Try.f6 rfl rfl rfl rfl rfl rfl rfl ⟨rfl, rfl, rfl, rfl, rfl⟩ rfl rfl rfl rfl rfl (by kernel_rfl) Try.func6 (by kernel_rfl)
    (of_decide_eq_true (by kernel_rfl)) (by unfold Func.isWrapper; first | (rw [if_pos (by decide +kernel)]; kernel_rfl) | (rw [if_neg (by decide +kernel)]; exact ⟨rfl, rfl⟩))
    (fun os started H enc _ => pieces_lifted os started H enc)
#print axioms pieces_holds

end Go.Proofs.Ytlmgipollfhpmaa
