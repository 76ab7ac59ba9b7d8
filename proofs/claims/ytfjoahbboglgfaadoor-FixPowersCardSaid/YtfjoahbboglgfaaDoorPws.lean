/- What the law of powers needs of powers by repeated products. -/
import Derived.Test.YtfjoahbboglgfaaDoorRoot
import Derived.Test.YtfjoahbboglgfaaDoorParts
import Derived.Deep.DeepCutAuto
import Derived.Deep.DeepFit
namespace Go.Proofs.YtfjoahbboglgfaaDoor
open Go.ChangeShapes Go.WideShapes Go.ChangeAt Go.RowKit

/-- What the head of the law's loop knows: the number in the variable at p is a to the i. -/
structure PwRel (w wr : World) (p : Nat) (a : Int) (i : Nat) (x : Bool) (A : Option Addr) (c : Nat) (ds : List Nat) : Prop where
  far : w.heap.size ≤ p
  blk : NumBlk wr p x A ds.length c
  row : Row wr A c ds
  canon : Canon ds
  sum : sgn x (val ds) = a ^ i
  below : Below w.heap.size w wr

theorem PwRel.put {w wr wv : World} {p i : Nat} {a : Int} {x z : Bool} {A Q : Option Addr} {c cq : Nat} {ds qd : List Nat} (h : PwRel w wr p a i x A c ds) (hb : Below wr.heap.size wr wv) (hr : Row wv Q cq qd) (hc : Canon qd) (hs : sgn z (val qd) = a ^ (i + 1)) :
    PwRel w ((wv.setCell ⟨p, 0, none⟩ (.bool z)).setCell ⟨p, 1, none⟩ (.slice Q qd.length cq)) p a (i + 1) z Q cq qd := by
  have h1 := h.blk.below hb
  have h2 : NumBlk (wv.setCell ⟨p, 0, none⟩ (.bool z)) p z A ds.length c := by
    have h3 := blk_set h1 0 (.bool z)
    unfold NumBlk
    simpa using h3
  have h4 : NumBlk ((wv.setCell ⟨p, 0, none⟩ (.bool z)).setCell ⟨p, 1, none⟩ (.slice Q qd.length cq)) p z Q qd.length cq := by
    have h5 := blk_set h2 1 (.slice Q qd.length cq)
    unfold NumBlk
    simpa using h5
  have hr1 := hr.set_far (p := ⟨p, 0, none⟩) (hr.ne_bool (g' := p) h1.c0) (.bool z)
  exact ⟨h.far, h4, hr1.set_far (p := ⟨p, 1, none⟩) (hr1.ne_bool (g' := p) h2.c0) _, hc, hs, ((h.below.trans (hb.mono h.below.size)).setCell h.far _).setCell h.far _⟩

theorem pw_sum {x y z : Bool} {a : Int} {i : Nat} {qd ds od : List Nat} (hz : (!(x == y)) = z) (hq : val qd = val ds * val od) (hd : sgn x (val ds) = a ^ i) (ho : val od = a.natAbs) (hy : decide (a < 0) = y) : sgn z (val qd) = a ^ (i + 1) := by
  rw [hq, ho, ← hz, sgn_mul, hd, sgn_of hy, Int.pow_succ]

theorem pw_len {a : Int} {qd ds od : List Nat} (hc : Canon qd) (hd : Dig ds) (hq : val qd = val ds * val od) (ho : val od = a.natAbs) (ha : a.natAbs ≤ 9223372036854775808) (hl : ds.length < 60) : qd.length ≤ 80 := by
  refine canon_len hc 80 ?_
  have h1 := val_lt hd
  have h2 : (10 : Nat) ^ ds.length ≤ 10 ^ 60 := Nat.pow_le_pow_right (by omega) (by omega)
  have h3 : (10 : Nat) ^ 60 * 9223372036854775808 < 10 ^ 80 := by decide
  have h4 : val ds * val od ≤ 10 ^ 60 * 9223372036854775808 := Nat.mul_le_mul (by omega) (by omega)
  rw [hq]
  omega

theorem pw_big {x : Bool} {a : Int} {i m : Nat} {ds : List Nat} (hc : Canon ds) (hl : 60 ≤ ds.length) (hs : sgn x (val ds) = a ^ i) (hi : i ≤ m) : ¬ Is64 (a ^ m) := by
  refine pow_far hi ?_
  rw [← hs]
  have h1 := canon_low hc (by intro e; rw [e] at hl; simp at hl)
  have h2 : (10 : Nat) ^ 59 ≤ 10 ^ (ds.length - 1) := Nat.pow_le_pow_right (by omega) (by omega)
  have h3 : 9223372036854775808 < (10 : Nat) ^ 59 := by decide
  exact fit_no (.inl (by omega))

theorem pw_70 {a : Int} (h : 2 ≤ a.natAbs) {m : Nat} (hm : 70 ≤ m) : ¬ Is64 (a ^ m) := by
  refine pow_far hm ?_
  have h1 := pow_abs a 70
  have h2 : 2 ^ 70 ≤ a.natAbs ^ 70 := Nat.pow_le_pow_left h 70
  have h3 : (2 : Nat) ^ 70 = 1180591620717411303424 := by decide
  unfold Is64
  omega

theorem pw_none {x : Bool} {a : Int} {i m : Nat} {ds : List Nat} {V : Int} {B : Bool} (hV : fitV (a ^ m) = V) (hB : fitB (a ^ m) = B) (hm : ¬ Is64 (a ^ m)) (hi : ¬ Is64 (a ^ i)) (hs : sgn x (val ds) = a ^ i) : fitV (sgn x (val ds)) = V ∧ fitB (sgn x (val ds)) = B := by
  rw [hs, ← hV, ← hB, fitV_no hm, fitB_no hm, fitV_no hi, fitB_no hi]
  exact ⟨rfl, rfl⟩

theorem is_fit (A : Option Addr) (c : Nat) (ds : List Nat) (x : Bool) (V : Int) (B : Bool) (w : World) (h : Row w A c ds) (hl : ds.length ≤ 400) (hd : Canon ds) (hf : fitV (sgn x (val ds)) = V ∧ fitB (sgn x (val ds)) = B) :
    Calls Tryd.prog 15 #[.int .i64 V, .bool B, .agg #[.bool x, .slice A ds.length c]] w fun e w' => e = .returned (.bool true) ∧ Below w.heap.size w w' := by
  have h1 := is_any A c ds x (sgn x (val ds)) w h hl hd rfl
  rw [hf.1, hf.2] at h1
  exact h1

theorem pow_val (a n V : Int) (B : Bool) (w : World) (h1 : -9223372036854775808 ≤ a) (h2 : a ≤ 9223372036854775807) (h3 : 0 ≤ n) (h4 : n ≤ 9223372036854775807) (hV : Hid (fitV (a ^ n.toNat) = V)) (hB : Hid (fitB (a ^ n.toNat) = B)) :
    Calls Tryd.prog 26 #[.int .i64 a, .int .i64 n] w fun e w' => e = .returned (.tuple #[.int .i64 V, .bool B]) ∧ w = w' := by
  have h := pow_any a n w h1 h2 h3 h4
  rw [hV.out, hB.out] at h
  exact h

theorem root_neg (a : Int) (w : World) (ha : a < 0) : Calls Tryd.prog 27 #[.int .i64 a] w fun e w' => e = .returned (.tuple #[.int .i64 0, .int .i64 0, .bool false]) ∧ w = w' := by
  go_enter Tryd.func27, Tryd.ntmps27
  go_wp2_with fail
  go_ret3
  exact ⟨rfl, rfl⟩

theorem pw_small {a : Int} (h1 : -1 ≤ a) (h2 : a ≤ 1) (m : Nat) : Is64 (a ^ m) := by
  have h3 := pow_abs a m
  have h4 : a.natAbs ^ m ≤ 1 ^ m := Nat.pow_le_pow_left (by omega) m
  rw [Nat.one_pow] at h4
  unfold Is64
  omega

theorem neg_one_even {m : Nat} (h : m % 2 = 0) : (-1 : Int) ^ m = 1 := by
  obtain ⟨k, rfl⟩ : ∃ k, m = 2 * k := ⟨m / 2, by omega⟩
  rw [Int.pow_mul]
  show (1 : Int) ^ k = 1
  exact Int.one_pow
theorem neg_one_odd {m : Nat} (h : m % 2 = 1) : (-1 : Int) ^ m = -1 := by
  obtain ⟨k, rfl⟩ : ∃ k, m = k + 1 := ⟨m - 1, by omega⟩
  rw [Int.pow_succ, neg_one_even (by omega)]
  rfl

theorem root_len {s k : Nat} (h : s * s ≤ k) (hk : k ≤ 9223372036854775807) : s ≤ 3037000499 := by
  rcases Nat.lt_or_ge 3037000499 s with h1 | h1
  · have h2 : 3037000500 * 3037000500 ≤ s * s := Nat.mul_le_mul (by omega) (by omega)
    omega
  · exact h1

theorem more_pos {dn dm : List Nat} {s k : Nat} {z : Int} (hs : sgn false (val dm) = sgn false (val dn) + z) (hz : z = -(k : Int)) (hn : val dn = ((s : Int) + 1).natAbs * ((s : Int) + 1).natAbs) (hk : k < (s + 1) * (s + 1)) : 0 < dm.length := by
  have h1 : ((s : Int) + 1).natAbs = s + 1 := by omega
  rw [h1] at hn
  rw [sgn_f, sgn_f, hz, hn] at hs
  rcases dm with _ | ⟨d, dm⟩
  · simp [val] at hs
    have h2 : (((s + 1) * (s + 1) : Nat) : Int) = ((s : Int) + 1) * ((s : Int) + 1) := by rw [Int.natCast_mul]; rfl
    omega
  · simp

theorem more_val (N A : Option Addr) (cn ca : Nat) (dn da : List Nat) (s k : Nat) (w : World) (hN : Row w N cn dn) (hA : Row w A ca da) (hln : dn.length ≤ 400) (hla : da.length ≤ 400) (hcn : Canon dn) (hca : Canon da)
    (hVA : val da = k) (hVN : val dn = ((s : Int) + 1).natAbs * ((s : Int) + 1).natAbs) (hk : k < (s + 1) * (s + 1)) :
    Calls Tryd.prog 16 #[.agg #[.bool false, .slice N dn.length cn], .agg #[.bool true, .slice A da.length ca]] w fun e w' =>
      (∃ (M : Option Addr) (cm : Nat) (dm : List Nat), e = .returned (.agg #[.bool false, .slice M dm.length cm]) ∧ 0 < dm.length) ∧ Below w.heap.size w w' := by
  have hsm : Hid (sumSign false true (val dn) (val da) = false) := by
    unfold Hid sumSign
    rw [if_neg (by decide), if_pos (by rw [hVA, hVN, show ((s : Int) + 1).natAbs = s + 1 by omega]; exact Nat.le_of_lt hk)]
  refine (sum_val N A cn ca dn da false true false w hN hA hln hla hcn hca hsm).mono ?_
  rintro e w' ⟨⟨M, cm, dm, rfl, hr, hc, hs, hv⟩, hb⟩
  refine ⟨⟨M, cm, dm, rfl, ?_⟩, hb⟩
  exact more_pos (s := s) (k := k) hs (by rw [hVA]; rfl) hVN hk

/-- A variable made anew before it is written to. -/
structure New3 (W2 w : World) (g : Nat) : Prop where
  far : W2.heap.size ≤ g
  blk : NumBlk w g false none 0 0
theorem New3.made {W2 X w' : World} (hb : Below W2.heap.size W2 X) (hbl : Below (X.alloc (.cells #[.bool false, .slice none 0 0] 24)).heap.size (X.alloc (.cells #[.bool false, .slice none 0 0] 24)) w') : New3 W2 w' X.heap.size :=
  ⟨hb.size, bcell hbl (heap_alloc_new X _)⟩
theorem New3.below {W2 w w' : World} {g : Nat} (h : New3 W2 w g) (hbl : Below w.heap.size w w') : New3 W2 w' g := ⟨h.far, h.blk.below hbl⟩

/-- What region 20 needs: the variable's number has digits and isn't below 0, and what was there is as it was. -/
structure Got3 (W2 w : World) (g : Nat) (M : Option Addr) (n c : Nat) : Prop where
  blk : NumBlk w g false M n c
  below : Below W2.heap.size W2 w
theorem New3.got {W2 w : World} {g : Nat} (h : New3 W2 w g) (hb : Below W2.heap.size W2 w) (M : Option Addr) (n c : Nat) : Got3 W2 ((w.setCell ⟨g, 0, none⟩ (.bool false)).setCell ⟨g, 1, none⟩ (.slice M n c)) g M n c := by
  have h2 : NumBlk (w.setCell ⟨g, 0, none⟩ (.bool false)) g false none 0 0 := by
    have h3 := blk_set h.blk 0 (.bool false)
    unfold NumBlk
    simpa using h3
  have h4 : NumBlk ((w.setCell ⟨g, 0, none⟩ (.bool false)).setCell ⟨g, 1, none⟩ (.slice M n c)) g false M n c := by
    have h5 := blk_set h2 1 (.slice M n c)
    unfold NumBlk
    simpa using h5
  exact ⟨h4, (hb.setCell h.far _).setCell h.far _⟩
theorem got_new {W2 w : World} (hb : Below W2.heap.size W2 w) (M : Option Addr) (n c : Nat) : Got3 W2 (w.alloc (.cells #[.bool false, .slice M n c] 24)) w.heap.size M n c := ⟨heap_alloc_new w _, hb.alloc hb.size _⟩

theorem sq_val (P L : Option Addr) (cp cl : Nat) (dp dl : List Nat) (s k l : Nat) (w : World) (hP : Row w P cp dp) (hL : Row w L cl dl) (hlp : dp.length ≤ 400) (hll : dl.length ≤ 400) (hcp : Canon dp) (hcl : Canon dl)
    (hVP : val dp = s * s) (hVL : val dl = l) (hk : s * s ≤ k) (hl : k - s * s = l) (hk2 : k ≤ 9223372036854775807) :
    Calls Tryd.prog 16 #[.agg #[.bool false, .slice P dp.length cp], .agg #[.bool false, .slice L dl.length cl]] w fun e w' =>
      (∃ (M : Option Addr) (cm : Nat) (dm : List Nat), e = .returned (.agg #[.bool false, .slice M dm.length cm]) ∧ Row w' M cm dm ∧ Canon dm ∧ dm.length ≤ 20 ∧ val dm = k) ∧ Below w.heap.size w w' := by
  have hsm : Hid (sumSign false false (val dp) (val dl) = false) := by
    unfold Hid sumSign
    rw [if_pos rfl]
  refine (sum_val P L cp cl dp dl false false false w hP hL hlp hll hcp hcl hsm).mono ?_
  rintro e w' ⟨⟨M, cm, dm, rfl, hr, hc, hs, hv⟩, hb⟩
  have hval : val dm = k := by
    rw [sgn_f, sgn_f, sgn_f, hVP, hVL] at hs
    generalize s * s = q at *
    omega
  have h20 : dm.length ≤ 20 := by
    refine canon_len hc 20 ?_
    have h3 : (10 : Nat) ^ 20 = 100000000000000000000 := by decide
    omega
  exact ⟨⟨M, cm, dm, rfl, hr, hc, h20, hval⟩, hb⟩
theorem eq_val (A B : Option Addr) (ca cb : Nat) (a b : List Nat) (k : Nat) (w : World) (ha : Row w A ca a) (hb : Row w B cb b) (hla : a.length ≤ 400) (hlb : b.length ≤ 400) (hda : Canon a) (hdb : Canon b) (h1 : val a = k) (h2 : val b = k) :
    Calls Tryd.prog 24 #[.agg #[.bool false, .slice A a.length ca], .agg #[.bool false, .slice B b.length cb]] w fun e w' => e = .returned (.bool true) ∧ Below w.heap.size w w' :=
  same_val A B ca cb a b false false true w ha hb hla hlb hda hdb (by unfold Hid; rw [h1, h2]; simp)

end Go.Proofs.YtfjoahbboglgfaaDoor
