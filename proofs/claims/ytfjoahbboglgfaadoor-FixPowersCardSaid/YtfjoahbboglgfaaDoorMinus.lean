/- The difference of two rows of decimal digits, the first one not less, is the row of the difference; how two rows stand to one another is told by what they stand for. -/
import Derived.Test.YtfjoahbboglgfaaDoorPlus
import Derived.Deep.QuietTactic
import Derived.BigQuiet
namespace Go.Proofs.YtfjoahbboglgfaaDoor
open Go.RowKit

/-- How two numbers stand to one another. -/
def cmpN (m n : Nat) : Int := if m < n then -1 else if n < m then 1 else 0
theorem cmpN_lt {m n : Nat} (h : m < n) : cmpN m n = -1 := if_pos h
theorem cmpN_gt {m n : Nat} (h : n < m) : cmpN m n = 1 := by unfold cmpN; rw [if_neg (by omega), if_pos h]
theorem cmpN_eq {m n : Nat} (h : m = n) : cmpN m n = 0 := by unfold cmpN; rw [if_neg (by omega), if_neg (by omega)]

/-- The top parts of the rows agree from digit k on. -/
structure CmpRel (a b : List Nat) (k : Nat) : Prop where
  hk : k ≤ a.length
  top : val (a.drop k) = val (b.drop k)

theorem CmpRel.one {a b : List Nat} (hl : a.length = b.length) : CmpRel a b a.length :=
  ⟨Nat.le_refl _, by rw [List.drop_eq_nil_of_le (Nat.le_refl _), List.drop_eq_nil_of_le (by omega)]⟩

set_option maxHeartbeats 1600000 in
set_option maxRecDepth 100000 in
theorem cmp_any (A B : Option Addr) (ca cb : Nat) (a b : List Nat) (w : World) (ha : Row w A ca a) (hb : Row w B cb b) (hla : a.length ≤ 500) (_hlb : b.length ≤ 500) (hda : Canon a) (hdb : Canon b) :
    Calls Tryd.prog 34 #[.slice A a.length ca, .slice B b.length cb] w fun e w' => e = .returned (.int .i64 (cmpN (val a) (val b))) ∧ ∃ n, w' = w.drewN n := by
  by_cases hl : a.length < b.length
  · rw [cmpN_lt (len_lt hda.1 hdb hl)]
    have hne : (((a.length : Nat) : Int) != ((b.length : Nat) : Int)) = true := by rw [bne_iff_ne]; omega
    go_enter Tryd.func34, Tryd.ntmps34
    go_wp2_with fail
    go_ret
    exact ⟨rfl, 0, rfl⟩
  · by_cases hl2 : b.length < a.length
    · rw [cmpN_gt (len_lt hdb.1 hda hl2)]
      have hne : (((a.length : Nat) : Int) != ((b.length : Nat) : Int)) = true := by rw [bne_iff_ne]; omega
      go_enter Tryd.func34, Tryd.ntmps34
      go_wp2_with fail
      go_ret
      exact ⟨rfl, 0, rfl⟩
    · have hne : (((a.length : Nat) : Int) != ((b.length : Nat) : Int)) = false := by simp; omega
      have hle : a.length = b.length := by omega
      have HLE := Lib.hid hle
      clear hle
      go_enter Tryd.func34, Tryd.ntmps34
      go_wp2_with fail
      go_loopw [5] (fun iv wr => ∃ k, iv = .int .i64 ((k : Nat) - 1 : Int) ∧ CmpRel a b k ∧ ∃ n, wr = w.drewN n) (fun iv _ => (intOf iv + 1).toNat)
      case atStart => exact ⟨a.length, rfl, CmpRel.one HLE.out, 0, rfl⟩
      case round =>
        obtain ⟨k, rfl, hr, n, rfl⟩ := hrel
        have hk := hr.hk
        rcases k with _ | k
        · have e1 : cmpN (val a) (val b) = 0 := cmpN_eq hr.top
          go_wp2_with fail
          go_ret
          exact ⟨ret_int e1.symm, n, rfl⟩
        · obtain ⟨g, rfl, hga⟩ := ha.cell (k := k) (by omega)
          obtain ⟨g', rfl, hgb⟩ := hb.cell (k := k) (by omega)
          obtain ⟨x, HX⟩ : ∃ x, Hid (a.getD k 0 = x) := ⟨_, rfl⟩
          obtain ⟨y, HY⟩ : ∃ y, Hid (b.getD k 0 = y) := ⟨_, rfl⟩
          rw [HX.out] at hga
          rw [HY.out] at hgb
          by_cases hxy : x < y
          · have e1 : cmpN (val a) (val b) = -1 := cmpN_lt (digit_lt hda.1 hdb.1 HLE.out (by omega) hr.top (by rw [HX.out, HY.out]; exact hxy))
            have E1 := Lib.hid e1
            clear e1
            have hd : decide ((x : Int) < (y : Int)) = true := by simp; omega
            go_wp2_with fail
            go_quiet (fail)
            go_wp2_with fail
            go_ret
            exact ⟨ret_int E1.out.symm, _, by first | rfl | (simp only [World.drewN_drewN]; rfl)⟩
          · have hd : decide ((x : Int) < (y : Int)) = false := by simp; omega
            by_cases hyx : y < x
            · have e1 : cmpN (val a) (val b) = 1 := cmpN_gt (digit_lt hdb.1 hda.1 HLE.out.symm (by have := HLE.out; omega) hr.top.symm (by rw [HX.out, HY.out]; exact hyx))
              have E1 := Lib.hid e1
              clear e1
              have hd2 : decide ((y : Int) < (x : Int)) = true := by simp; omega
              go_wp2_with fail
              go_quiet (fail)
              go_wp2_with fail
              go_quiet (fail)
              go_wp2_with fail
              go_ret
              exact ⟨ret_int E1.out.symm, _, by first | rfl | (simp only [World.drewN_drewN]; rfl)⟩
            · have R : Hid (CmpRel a b k) := ⟨by omega, val_drop_eq HLE.out (by omega) hr.top (by rw [HX.out, HY.out]; omega)⟩
              have hd2 : decide ((y : Int) < (x : Int)) = false := by simp; omega
              clear hr
              go_wp2_with fail
              go_quiet (fail)
              go_wp2_with fail
              go_quiet (fail)
              go_wp2_with fail
              go_roundw
              case rel => exact ⟨k, by go_num, R.out, _, by first | rfl | (simp only [World.drewN_drewN]; rfl)⟩
              case measure => simp [intOf]

/-- What a loop's head knows of a difference that is under way. -/
structure MinusRel (w wr : World) (a b : List Nat) (v : Value) (i c : Nat) (out : List Nat) : Prop where
  own : Own wr w.heap.size v out
  len : out.length = i
  dig : Dig out
  c1 : c ≤ 1
  hi : i ≤ a.length
  sum : val out + val (b.take i) = val (a.take i) + 10 ^ i * c
  below : Below w.heap.size w wr

theorem MinusRel.next {w wr w1 : World} {a b : List Nat} {v v' : Value} {i c : Nat} {out : List Nat} (h : MinusRel w wr a b v i c out) (hgo : i < a.length)
    {z : Int} {e c' : Nat} (he : e < 10) (hc' : c' ≤ 1) (hown : w1.ownsRow w.heap.size 3 1 v' (out.length + 1) (out.map toV ++ [.int .i64 z])) (hz : z = (e : Int))
    (heq : e + b.getD i 0 + c = a.getD i 0 + 10 * c') (hbel : Below w.heap.size w w1) : MinusRel w w1 a b v' (i + 1) c' (out ++ [e]) :=
  ⟨Own.snoc hown hz, by simp [h.len], h.dig.append (Dig.one he), hc', by omega, minus_round h.len h.sum heq, hbel⟩

theorem Row.drewN {w : World} {A : Option Addr} {c : Nat} {ds : List Nat} (h : Row w A c ds) (n : Nat) : Row (w.drewN n) A c ds := h
theorem own_drewN {w : World} {base : Nat} {e : TypeId} {size : Nat} {v : Value} {n : Nat} {xs : List Value} (h : w.ownsRow base e size v n xs) (k : Nat) : (w.drewN k).ownsRow base e size v n xs := h
theorem below_drewN {B : Nat} {a w : World} (h : Below B a w) (n : Nat) : Below B a (w.drewN n) := ⟨h.os, h.tape, h.output, h.size, h.block⟩

set_option maxHeartbeats 1600000 in
set_option maxRecDepth 100000 in
theorem minus_any (A B : Option Addr) (ca cb : Nat) (a b : List Nat) (w : World) (ha : Row w A ca a) (hb : Row w B cb b) (hla : a.length ≤ 500) (hlb : b.length ≤ a.length) (hda : Dig a) (hdb : Dig b) (hle : val b ≤ val a) :
    Calls Tryd.prog 35 #[.slice A a.length ca, .slice B b.length cb] w fun e w' => (∃ C c ds, e = .returned (.slice C ds.length c) ∧ Row w' C c ds ∧ Canon ds ∧ val ds = val a - val b) ∧ Below w.heap.size w w' := by
  obtain ⟨i0, hi, hz0, hz1, hz2⟩ := info_parts infoInt
  have HLE := Lib.hid hle
  clear hle
  go_enter Tryd.func35, Tryd.ntmps35
  go_wp2_with fail
  go_loopw [5, 6, 7] (fun v cv iv wr => ∃ i c out, cv = .int .i64 ((c : Nat) : Int) ∧ iv = .int .i64 ((i : Nat) : Int) ∧ MinusRel w wr a b v i c out)
    (fun _ _ iv _ => a.length - (intOf iv).toNat)
  case atStart => exact ⟨0, 0, [], rfl, rfl, ⟨Own.nil _ _, rfl, Dig.nil, by omega, by omega, by simp [val], Below.refl _ _⟩⟩
  case round =>
    obtain ⟨i, c, out, rfl, rfl, hrel⟩ := hrel
    have hi1 := hrel.hi
    have hc1 := hrel.c1
    have hx := hda.getD i
    have hy := hdb.getD i
    by_cases hA : i < a.length
    · have hra := ha.below hrel.below
      have hrb := hb.below hrel.below
      obtain ⟨x, HX⟩ : ∃ x, Hid (a.getD i 0 = x) := ⟨_, rfl⟩
      obtain ⟨y, HY⟩ : ∃ y, Hid (b.getD i 0 = y) := ⟨_, rfl⟩
      rw [HX.out] at hx
      rw [HY.out] at hy
      obtain ⟨g, rfl, hcell⟩ := hra.cell hA
      rw [HX.out] at hcell
      obtain ⟨n, HN⟩ : ∃ n, Hid (out.length = n) := ⟨_, rfl⟩
      have hn : n ≤ 501 := by have := hrel.len; have := HN.out; omega
      have hown := hrel.own
      unfold Own at hown
      rw [HN.out] at hown
      have HB := Lib.hid hrel.own.block
      have hsz := hrel.below.size
      have HR := Lib.hid hrel
      clear hrel hra
      by_cases hb1 : (x : Int) - (y : Int) - (c : Int) < 0
      · have hd : decide ((x : Int) - (y : Int) - (c : Int) < 0) = true := decide_eq_true hb1
        go_wp2_with fail
        go_quiet ((go_at_call 44; exact Calls.quiet_of_same ((at_val B cb i b y _ (hrb.drewN _) HY (by omega) (by omega)).mono fun _ _ h => ⟨h.1, h.2.symm⟩)))
        go_wp2_with (at_builtin; refine wpList_append_own _ rfl _ _ 22 rfl w.heap.size 3 i0 (.int .i64 0) 1 8 Tryd.underlying22 hi hz0 hz1 hz2 rfl (by decide) _ _ _ rfl (World.ownsRow.alloc (own_drewN hown _) _) ⟨wr.heap.size, 0, none⟩ 1 1 [.int .i64 (((x : Int) - (y : Int) - (c : Int)) + 10)] rfl rfl (one_cells _ _ _) ?c2 ?c3 ?c4 ?c5 ?_)
        case c2 => intro u hu; simp at hu; subst hu; rfl
        case c3 => unfold maxLen; omega
        case c4 => omega
        case c5 => simp; omega
        intro v' w1 hown' hgrow _
        have R := Lib.hid (HR.out.next hA (e := x + 10 - y - c) (c' := 1) (by omega) (by omega) (by rw [HN.out]; exact hown') (by omega) (by rw [HX.out, HY.out]; omega) (((below_drewN HR.out.below _).alloc hsz _).grown hgrow (by simp; omega) HB.out))
        clear hown' hgrow hown hrb HB HR HX HY HN hcell
        go_wp2
        go_roundw
        case rel => exact ⟨i + 1, 1, _, rfl, by go_num, R.out⟩
        case measure => simp [intOf]; omega
      · have hd : decide ((x : Int) - (y : Int) - (c : Int) < 0) = false := decide_eq_false hb1
        go_wp2_with fail
        go_quiet ((go_at_call 44; exact Calls.quiet_of_same ((at_val B cb i b y _ (hrb.drewN _) HY (by omega) (by omega)).mono fun _ _ h => ⟨h.1, h.2.symm⟩)))
        go_wp2_with (at_builtin; refine wpList_append_own _ rfl _ _ 22 rfl w.heap.size 3 i0 (.int .i64 0) 1 8 Tryd.underlying22 hi hz0 hz1 hz2 rfl (by decide) _ _ _ rfl (World.ownsRow.alloc (own_drewN hown _) _) ⟨wr.heap.size, 0, none⟩ 1 1 [.int .i64 ((x : Int) - (y : Int) - (c : Int))] rfl rfl (one_cells _ _ _) ?c2 ?c3 ?c4 ?c5 ?_)
        case c2 => intro u hu; simp at hu; subst hu; rfl
        case c3 => unfold maxLen; omega
        case c4 => omega
        case c5 => simp; omega
        intro v' w1 hown' hgrow _
        have R := Lib.hid (HR.out.next hA (e := x - y - c) (c' := 0) (by omega) (by omega) (by rw [HN.out]; exact hown') (by omega) (by rw [HX.out, HY.out]; omega) (((below_drewN HR.out.below _).alloc hsz _).grown hgrow (by simp; omega) HB.out))
        clear hown' hgrow hown hrb HB HR HX HY HN hcell
        go_wp2
        go_roundw
        case rel => exact ⟨i + 1, 0, _, rfl, by go_num, R.out⟩
        case measure => simp [intOf]; omega
    · have hil : i = a.length := by omega
      obtain ⟨C, cc, rfl, hrow⟩ := hrel.own.row
      have hol : out.length ≤ 500 := by have := hrel.len; omega
      have HE := Lib.hid (minus_end hrel.dig (by rw [hrel.len, hil]) hlb HLE.out (by have := hrel.sum; rw [hil] at this; exact this))
      have HR := Lib.hid hrel
      clear hrel hil
      go_wp2_with fail
      refine (trim_any C cc out _ hrow (by omega) HR.out.dig).mono ?_
      rintro e w' ⟨⟨k, hk, rfl, hcan, hv⟩, rfl⟩
      have HV := Lib.hid hv
      clear hv
      go_wp2_with fail
      go_ret
      exact ⟨⟨C, cc, out.take k, by rw [List.length_take, Nat.min_eq_left hk]; rfl, hrow.take k, hcan, HV.out.trans HE.out⟩, HR.out.below⟩

end Go.Proofs.YtfjoahbboglgfaaDoor
