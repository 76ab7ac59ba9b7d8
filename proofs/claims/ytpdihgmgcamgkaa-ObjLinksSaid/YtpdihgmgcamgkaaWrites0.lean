/- What Count, Whole and Sized return: new bytes of the call's own. -/
import Derived.Test.YtpdihgmgcamgkaaCat
set_option maxRecDepth 20000
namespace Go.Proofs.Ytpdihgmgcamgkaa
open Go.RowKit

/-- A slice of the call's own that holds these bytes. -/
def Made (base : Nat) (w' : World) (v : Value) (bs : List Nat) : Prop := ∃ p c, v = .slice p bs.length c ∧ w'.ownsRow base 5 1 (.slice p bs.length c) bs.length (u8s bs)
theorem Made.bys {base : Nat} {w' : World} {v : Value} {bs : List Nat} (h : Made base w' v bs) (hd : ∀ x ∈ bs, x < 256) : ∃ p c, v = .slice p bs.length c ∧ Bys w' p bs.length bs := by
  obtain ⟨p, c, e, ho⟩ := h
  exact ⟨p, c, e, Bys.own ho hd⟩
theorem Made.below {base : Nat} {w w' : World} {v : Value} {bs : List Nat} (h : Made base w v bs) (hb : Below w.heap.size w w') : Made base w' v bs := by
  obtain ⟨p, c, e, ho⟩ := h
  exact ⟨p, c, e, own_below ho hb⟩

theorem own_base {w : World} {base base2 n : Nat} {v : Value} {xs : List Value} (hb : base2 ≤ base) (h : w.ownsRow base 5 1 v n xs) : w.ownsRow base2 5 1 v n xs := by
  obtain ⟨h1, h2⟩ := h
  refine ⟨h1, ?_⟩
  rcases h2 with h2 | ⟨g, cap, cur, e, hbg, hr⟩
  · exact .inl h2
  · exact .inr ⟨g, cap, cur, e, Nat.le_trans hb hbg, hr⟩
def pick3 {α : Type} (x y z : α) : Nat → α
  | 0 => x
  | 1 => y
  | _ => z

/-- How an argument's slice of bytes stands: its cap isn't below its length; a nil one has none. -/
structure Fit (p : Option Addr) (n c : Nat) : Prop where
  cap : n ≤ c
  nil_ : p = none → c = 0

theorem own_fit {w : World} {base n c : Nat} {p : Option Addr} {xs : List Value} (h : w.ownsRow base 5 1 (.slice p n c) n xs) : Fit p n c := by
  rcases h.2 with ⟨h0, h1⟩ | ⟨g, cap, cur, e, _, _, h2, _⟩
  · cases h0; exact ⟨Nat.le_refl _, fun _ => rfl⟩
  · cases e; exact ⟨h2, fun h => by cases h⟩

theorem two_pcs (w : World) (p q : Option Addr) (n c m d : Nat) (xs ys : List Nat) (h1 : Bys w p n xs) (h2 : Bys w q m ys) (f1 : Fit p n c) (f2 : Fit q m d) :
    Pcs (w.alloc (.cells #[.slice p n c, .slice q m d] 42)) w.heap.size 0 2 (pick3 p q q) (pick3 n m m) (pick3 c d d) (pick3 xs ys ys) := by
  have hb : Below w.heap.size w (w.alloc (.cells #[.slice p n c, .slice q m d] 42)) := (Below.refl _ _).alloc (Nat.le_refl _) _
  intro r hr
  rcases (show r = 0 ∨ r = 1 by omega) with rfl | rfl
  · exact ⟨World.cell?_alloc_new w _ _ 0, h1.below hb, f1.nil_, f1.cap⟩
  · exact ⟨World.cell?_alloc_new w _ _ 1, h2.below hb, f2.nil_, f2.cap⟩
theorem three_pcs (w : World) (p q r : Option Addr) (n c m d l e : Nat) (xs ys zs : List Nat) (h1 : Bys w p n xs) (h2 : Bys w q m ys) (h3 : Bys w r l zs) (f1 : Fit p n c) (f2 : Fit q m d) (f3 : Fit r l e) :
    Pcs (w.alloc (.cells #[.slice p n c, .slice q m d, .slice r l e] 42)) w.heap.size 0 3 (pick3 p q r) (pick3 n m l) (pick3 c d e) (pick3 xs ys zs) := by
  have hb : Below w.heap.size w (w.alloc (.cells #[.slice p n c, .slice q m d, .slice r l e] 42)) := (Below.refl _ _).alloc (Nat.le_refl _) _
  intro i hi
  rcases (show i = 0 ∨ i = 1 ∨ i = 2 by omega) with rfl | rfl | rfl
  · exact ⟨World.cell?_alloc_new w _ _ 0, h1.below hb, f1.nil_, f1.cap⟩
  · exact ⟨World.cell?_alloc_new w _ _ 1, h2.below hb, f2.nil_, f2.cap⟩
  · exact ⟨World.cell?_alloc_new w _ _ 2, h3.below hb, f3.nil_, f3.cap⟩
theorem cat_two (xs ys : List Nat) : cat (pick3 xs ys ys) 2 = xs ++ ys := by show ([] ++ xs) ++ ys = _; rw [List.nil_append]
theorem cat_three (xs ys zs : List Nat) : cat (pick3 xs ys zs) 3 = xs ++ ys ++ zs := by show (([] ++ xs) ++ ys) ++ zs = _; rw [List.nil_append]

/-- The number that a count writes. -/
def cnt (n : Int) : Nat := (max n 0).toNat
theorem cnt_lt {n : Int} (h1 : n ≤ 9223372036854775807) : cnt n < 9223372036854775808 := by unfold cnt; omega

theorem two_made (w w1 : World) (p q : Option Addr) (n c m d : Nat) (xs ys : List Nat) (hb : Below w.heap.size w w1) (h1 : Bys w p n xs) (h2 : Bys w1 q m ys) (f1 : Fit p n c) (f2 : Fit q m d) (hs : n + m ≤ 1099511627776) :
    Calls Try.prog 43 #[.slice (some ⟨w1.heap.size, 0, none⟩) 2 2] (w1.alloc (.cells #[.slice p n c, .slice q m d] 42)) fun e w' => (∃ v, e = .returned v ∧ Made w.heap.size w' v (xs ++ ys)) ∧ Below w.heap.size w w' := by
  have hP := two_pcs w1 p q n c m d xs ys (h1.below hb) h2 f1 f2
  refine (concat_any w1.heap.size 0 2 2 _ _ _ _ _ (by omega) hP (by simp) (by rw [cat_two, List.length_append, h1.len, h2.len]; exact hs)).mono ?_
  rw [cat_two]
  rintro e w' ⟨p', c', rfl, ho, hb2⟩
  refine ⟨⟨_, rfl, p', c', rfl, ?_⟩, ?_⟩
  · exact own_base (by have := hb.size; simp; omega) ho
  · exact (hb.alloc hb.size _).trans (hb2.mono (by have := hb.size; simp; omega))
theorem three_made (w w1 : World) (p q r : Option Addr) (n c m d l k : Nat) (xs ys zs : List Nat) (hb : Below w.heap.size w w1) (h1 : Bys w p n xs) (h2 : Bys w1 q m ys) (h3 : Bys w r l zs) (f1 : Fit p n c) (f2 : Fit q m d) (f3 : Fit r l k) (hs : n + m + l ≤ 1099511627776) :
    Calls Try.prog 43 #[.slice (some ⟨w1.heap.size, 0, none⟩) 3 3] (w1.alloc (.cells #[.slice p n c, .slice q m d, .slice r l k] 42)) fun e w' => (∃ v, e = .returned v ∧ Made w.heap.size w' v (xs ++ ys ++ zs)) ∧ Below w.heap.size w w' := by
  have hP := three_pcs w1 p q r n c m d l k xs ys zs (h1.below hb) h2 (h3.below hb) f1 f2 f3
  refine (concat_any w1.heap.size 0 3 3 _ _ _ _ _ (by omega) hP (by simp) (by rw [cat_three, List.length_append, List.length_append, h1.len, h2.len, h3.len]; exact hs)).mono ?_
  rw [cat_three]
  rintro e w' ⟨p', c', rfl, ho, hb2⟩
  refine ⟨⟨_, rfl, p', c', rfl, ?_⟩, ?_⟩
  · exact own_base (by have := hb.size; simp; omega) ho
  · exact (hb.alloc hb.size _).trans (hb2.mono (by have := hb.size; simp; omega))

theorem numberBytes_int (x : Int) (k : Nat) (w : World) (hk : Hid ((k : Int) = x)) (hn : k < 18446744073709551616) :
    Calls Try.prog 44 #[.int .u64 x] w fun e w' => ∃ p c, e = .returned (.slice p (numB k).length c) ∧ w'.ownsRow w.heap.size 5 1 (.slice p (numB k).length c) (numB k).length (u8s (numB k)) ∧ Below w.heap.size w w' := by
  rw [← hk.out]; exact numberBytes_any k w hn

set_option maxHeartbeats 400000 in
theorem count_at (p : Option Addr) (n c : Nat) (bs : List Nat) (x : Int) (k : Nat) (w : World) (hn : n ≤ 1073741824) (HB : Hid (Bys w p n bs)) (HF : Hid (Fit p n c)) (hx0 : -9223372036854775808 ≤ x) (hx : x ≤ 9223372036854775807)
    (hc : k < 9223372036854775808) (HX : Hid ((k : Int) = max x 0)) :
    Calls Try.prog 22 #[.slice p n c, .int .i64 x] w fun e w' => (∃ v, e = .returned v ∧ Made w.heap.size w' v (bs ++ numB k)) ∧ Below w.heap.size w w' := by
  have H10 := numB_ten (n := k) (by omega)
  obtain ⟨y, hy⟩ : ∃ y : Int, Hid ((k : Int) = y) := ⟨_, Lib.hid rfl⟩
  have HM : Hid (max x 0 = y) := Lib.hid (by rw [← HX.out, hy.out])
  by_cases h0 : x < 0
  · have HY : Hid (y = 0) := Lib.hid (by have := HM.out; omega)
    rw [HY.out] at hy
    go_enter Try.func22, Try.ntmps22
    go_wp2_with fail
    refine (numberBytes_int _ k _ hy (by omega)).mono ?_
    rintro e w1 ⟨q, d, rfl, hrow, hb⟩
    have HR := Lib.hid hrow
    have HW := Lib.hid hb
    clear hrow hb
    have HZ := Lib.hid (rfl : numB k = numB k)
    generalize hl : (numB k).length = l at *
    clear hl
    go_wp2_with fail
    refine (two_made w w1 p q n c l d bs (numB k) HW.out HB.out (Bys.own HR.out (numB_dig k)) HF.out (own_fit HR.out) (by omega)).mono ?_
    rintro e w2 ⟨⟨v, rfl, hM⟩, hb⟩
    have HM := Lib.hid hM
    have HB2 := Lib.hid hb
    clear hM hb
    go_wp2_with fail
    go_ret
    exact ⟨⟨_, rfl, HM.out⟩, HB2.out⟩
  · have HY : Hid (y = x) := Lib.hid (by have := HM.out; omega)
    rw [HY.out] at hy
    go_enter Try.func22, Try.ntmps22
    go_wp2_with fail
    refine (numberBytes_int _ k _ hy (by omega)).mono ?_
    rintro e w1 ⟨q, d, rfl, hrow, hb⟩
    have HR := Lib.hid hrow
    have HW := Lib.hid hb
    clear hrow hb
    generalize hl : (numB k).length = l at *
    clear hl
    go_wp2_with fail
    refine (two_made w w1 p q n c l d bs (numB k) HW.out HB.out (Bys.own HR.out (numB_dig k)) HF.out (own_fit HR.out) (by omega)).mono ?_
    rintro e w2 ⟨⟨v, rfl, hM⟩, hb⟩
    have HM := Lib.hid hM
    have HB2 := Lib.hid hb
    clear hM hb
    go_wp2_with fail
    go_ret
    exact ⟨⟨_, rfl, HM.out⟩, HB2.out⟩
theorem count_any (p : Option Addr) (n c : Nat) (bs : List Nat) (x : Int) (w : World) (hn : n ≤ 1073741824) (hB : Bys w p n bs) (hF : Fit p n c) (hx0 : -9223372036854775808 ≤ x) (hx : x ≤ 9223372036854775807) :
    Calls Try.prog 22 #[.slice p n c, .int .i64 x] w fun e w' => (∃ v, e = .returned v ∧ Made w.heap.size w' v (bs ++ numB (cnt x))) ∧ Below w.heap.size w w' :=
  count_at p n c bs x (cnt x) w hn (Lib.hid hB) (Lib.hid hF) hx0 hx (cnt_lt hx) (Lib.hid (by unfold cnt; omega))

set_option maxHeartbeats 400000 in
theorem whole_any (p : Option Addr) (n c : Nat) (bs : List Nat) (x : Int) (w : World) (hn : n ≤ 1073741824) (hB : Bys w p n bs) (hF : Fit p n c) (hx0 : -9223372036854775808 ≤ x) (hx : x ≤ 9223372036854775807) :
    Calls Try.prog 45 #[.slice p n c, .int .i64 x] w fun e w' => (∃ v, e = .returned v ∧ Made w.heap.size w' v (bs ++ numB (zig x))) ∧ Below w.heap.size w w' := by
  have HB := Lib.hid hB
  have HF := Lib.hid hF
  have H10 := numB_ten (zig_lt hx0 hx)
  have hz := zig_lt hx0 hx
  clear hB hF
  obtain ⟨k, hk⟩ : ∃ k, Hid (zig x = k) := ⟨_, Lib.hid rfl⟩
  rw [hk.out] at H10 hz ⊢
  go_enter Try.func45, Try.ntmps45
  go_wp2_with fail
  refine (doubled_any x _ hx0 hx).mono ?_
  rintro e w1 ⟨rfl, rfl⟩
  rw [hk.out]
  go_wp2_with fail
  refine (numberBytes_any k _ (by omega)).mono ?_
  rintro e w1 ⟨q, d, rfl, hrow, hb⟩
  have HR := Lib.hid hrow
  have HW := Lib.hid hb
  clear hrow hb
  generalize hl : (numB k).length = l at *
  clear hl
  go_wp2_with fail
  refine (two_made w w1 p q n c l d bs (numB k) HW.out HB.out (Bys.own HR.out (numB_dig k)) HF.out (own_fit HR.out) (by omega)).mono ?_
  rintro e w2 ⟨⟨v, rfl, hM⟩, hb⟩
  have HM := Lib.hid hM
  have HB2 := Lib.hid hb
  clear hM hb
  go_wp2_with fail
  go_ret
  exact ⟨⟨_, rfl, HM.out⟩, HB2.out⟩

set_option maxHeartbeats 400000 in
theorem sized_any (p q : Option Addr) (n c m d : Nat) (bs ds : List Nat) (w : World) (hn : n ≤ 1073741824) (hm : m ≤ 1073741824) (hB : Bys w p n bs) (hF : Fit p n c) (hD : Bys w q m ds) (hG : Fit q m d) :
    Calls Try.prog 24 #[.slice p n c, .slice q m d] w fun e w' => (∃ v, e = .returned v ∧ Made w.heap.size w' v (bs ++ numB m ++ ds)) ∧ Below w.heap.size w w' := by
  have HB := Lib.hid hB
  have HF := Lib.hid hF
  have HD := Lib.hid hD
  have HG := Lib.hid hG
  have H10 := numB_ten (n := m) (by omega)
  clear hB hF hD hG
  go_enter Try.func24, Try.ntmps24
  go_wp2_with fail
  refine (numberBytes_any m _ (by omega)).mono ?_
  rintro e w1 ⟨r, k, rfl, hrow, hb⟩
  have HR := Lib.hid hrow
  have HW := Lib.hid hb
  clear hrow hb
  generalize hl : (numB m).length = l at *
  clear hl
  go_wp2_with fail
  refine (three_made w w1 p r q n c l k m d bs (numB m) ds HW.out HB.out (Bys.own HR.out (numB_dig m)) HD.out HF.out (own_fit HR.out) HG.out (by omega)).mono ?_
  rintro e w2 ⟨⟨v, rfl, hM⟩, hb⟩
  have HM := Lib.hid hM
  have HB2 := Lib.hid hb
  clear hM hb
  go_wp2_with fail
  go_ret
  exact ⟨⟨_, rfl, HM.out⟩, HB2.out⟩
end Go.Proofs.Ytpdihgmgcamgkaa
