/- The document's disk, as a value; its small calls. -/
import Derived.Test.YtdldjpgbifcljaaFill
namespace Go.Proofs.Ytdldjpgbifcljaa
open Go.RowKit

def strs (L : List (List Nat)) : List Value := L.map fun s => .string (strB s)
def wrs (l : List Wr) : List Value := l.flatMap fun x => [.int .i64 (x.1 : Int), .string (strB x.2)]
/-- The document's disk. -/
structure RefV (w : World) (vL vR : Value) (m : Dsk) : Prop where
  l : w.ownsRow 0 9 1 vL m.out.length (strs m.out)
  r : w.ownsRow 0 73 2 vR m.row.length (wrs m.row)
  ok : Ok m
def refV (vL vR : Value) (m : Dsk) : Value := .agg #[vL, vR, .int .i64 m.fuse, .bool m.down, .int .i64 (m.done : Int)]
def Ref (w : World) (x : Value) (m : Dsk) : Prop := ∃ vL vR, x = refV vL vR m ∧ RefV w vL vR m
theorem own_chg {F F' : List Nat} {w w' : World} {base E n k : Nat} {v : Value} {xs : List Value} (h : w.ownsRow base E n v k xs) (hc : Chg F F' w w') (hT : Typed w F) (hE : E ≠ 63 ∧ E ≠ 59 ∧ E ≠ 77) : w'.ownsRow base E n v k xs := by
  refine ⟨h.1, ?_⟩
  rcases h.2 with h2 | ⟨g, cap, cur, e, hb, hg, hr⟩
  · exact .inl h2
  · exact .inr ⟨g, cap, cur, e, hb, hc.keep hT hg hE, hr⟩
theorem RefV.chg {F F' : List Nat} {w w' : World} {vL vR : Value} {m : Dsk} (h : RefV w vL vR m) (hc : Chg F F' w w') (hT : Typed w F) : RefV w' vL vR m := ⟨own_chg h.l hc hT (by decide), own_chg h.r hc hT (by decide), h.ok⟩
theorem Ref.chg {F F' : List Nat} {w w' : World} {x : Value} {m : Dsk} (h : Ref w x m) (hc : Chg F F' w w') (hT : Typed w F) : Ref w' x m := by
  obtain ⟨vL, vR, e, h⟩ := h
  exact ⟨vL, vR, e, h.chg hc hT⟩
theorem RefV.below {w w' : World} {vL vR : Value} {m : Dsk} (h : RefV w vL vR m) (hb : Below w.heap.size w w') : RefV w' vL vR m := h.chg (Chg.of_below (F := []) hb) (fun k hk => by cases hk)
theorem Ref.below {w w' : World} {x : Value} {m : Dsk} (h : Ref w x m) (hb : Below w.heap.size w w') : Ref w' x m := h.chg (Chg.of_below (F := []) hb) (fun k hk => by cases hk)
section
variable {w : World} {vL vR : Value} {m : Dsk}
theorem RefV.forms (h : RefV w vL vR m) : (∃ q c, vL = .slice q m.out.length c) ∧ ∃ q c, vR = .slice q m.row.length c := ⟨own_form h.l, own_form h.r⟩
theorem below2 (w : World) (a b : Obj) : Below w.heap.size w ((w.alloc a).alloc b) := ((Below.refl _ _).alloc (Nat.le_refl _) _).alloc (by simp) _
set_option maxHeartbeats 800000 in
theorem rfuse_raw (q1 q2 : Option Addr) (n1 c1 n2 c2 : Nat) (fu dn n : Int) (b : Bool) (w : World) :
    Calls Try.prog 31 #[.agg #[.slice q1 n1 c1, .slice q2 n2 c2, .int .i64 fu, .bool b, .int .i64 dn], .int .i64 n] w fun e w' => e = .returned (.agg #[.slice q1 n1 c1, .slice q2 n2 c2, .int .i64 (max n (-1)), .bool b, .int .i64 dn]) ∧ Below w.heap.size w w' := by
  by_cases hn : n < 0
  · rw [show max n (-1) = -1 by omega]
    go_enter Try.func31, Try.ntmps31
    go_wp2_with fail
    exact bodyPost_ret (v := .agg #[.slice q1 n1 c1, .slice q2 n2 c2, .int .i64 (-1), .bool b, .int .i64 dn]) (by simp [results, Try.results31, go_sem]) rfl ⟨rfl, below2 _ _ _⟩
  · rw [show max n (-1) = n by omega]
    go_enter Try.func31, Try.ntmps31
    go_wp2_with fail
    exact bodyPost_ret (v := .agg #[.slice q1 n1 c1, .slice q2 n2 c2, .int .i64 n, .bool b, .int .i64 dn]) (by simp [results, Try.results31, go_sem]) rfl ⟨rfl, below2 _ _ _⟩
set_option maxHeartbeats 800000 in
theorem rstart_down (q1 q2 : Option Addr) (n1 c1 n2 c2 : Nat) (fu dn : Int) (w : World) :
    Calls Try.prog 33 #[.agg #[.slice q1 n1 c1, .slice q2 n2 c2, .int .i64 fu, .bool true, .int .i64 dn]] w fun e w' => e = .returned (.agg #[.slice q1 n1 c1, .slice none 0 0, .int .i64 (-1), .bool false, .int .i64 dn]) ∧ Below w.heap.size w w' := by
  go_enter Try.func33, Try.ntmps33
  go_wp2_with fail
  exact bodyPost_ret (v := .agg #[.slice q1 n1 c1, .slice none 0 0, .int .i64 (-1), .bool false, .int .i64 dn]) (by simp [results, Try.results33, go_sem]) rfl ⟨rfl, below2 _ _ _⟩
set_option maxHeartbeats 800000 in
theorem rstart_up (q1 q2 : Option Addr) (n1 c1 n2 c2 : Nat) (fu dn : Int) (w : World) :
    Calls Try.prog 33 #[.agg #[.slice q1 n1 c1, .slice q2 n2 c2, .int .i64 fu, .bool false, .int .i64 dn]] w fun e w' => e = .returned (.agg #[.slice q1 n1 c1, .slice q2 n2 c2, .int .i64 fu, .bool false, .int .i64 dn]) ∧ Below w.heap.size w w' := by
  go_enter Try.func33, Try.ntmps33
  go_wp2_with fail
  exact bodyPost_ret (v := .agg #[.slice q1 n1 c1, .slice q2 n2 c2, .int .i64 fu, .bool false, .int .i64 dn]) (by simp [results, Try.results33, go_sem]) rfl ⟨rfl, below2 _ _ _⟩
set_option maxHeartbeats 800000 in
theorem rburn_no (q1 q2 : Option Addr) (n1 c1 n2 c2 : Nat) (dn : Int) (b : Bool) (w : World) :
    Calls Try.prog 43 #[.agg #[.slice q1 n1 c1, .slice q2 n2 c2, .int .i64 0, .bool b, .int .i64 dn]] w fun e w' => e = .returned (.tuple #[.agg #[.slice q1 n1 c1, .slice q2 n2 c2, .int .i64 0, .bool true, .int .i64 dn], .int .i64 9]) ∧ Below w.heap.size w w' := by
  go_enter Try.func43, Try.ntmps43
  go_wp2_with fail
  exact bodyPost_ret (v := .tuple #[.agg #[.slice q1 n1 c1, .slice q2 n2 c2, .int .i64 0, .bool true, .int .i64 dn], .int .i64 9]) (by simp [results, Try.results43, go_sem]) rfl ⟨rfl, below2 _ _ _⟩
set_option maxHeartbeats 800000 in
theorem rburn_yes (q1 q2 : Option Addr) (n1 c1 n2 c2 : Nat) (fu : Int) (dn : Nat) (b : Bool) (w : World) (h0 : -1 ≤ fu) (h1 : fu ≤ 9223372036854775807) (hz : fu ≠ 0) (hd : dn ≤ 4611686018427387904) :
    Calls Try.prog 43 #[.agg #[.slice q1 n1 c1, .slice q2 n2 c2, .int .i64 fu, .bool b, .int .i64 (dn : Int)]] w fun e w' => e = .returned (.tuple #[.agg #[.slice q1 n1 c1, .slice q2 n2 c2, .int .i64 (if fu = -1 then -1 else fu - 1), .bool b, .int .i64 ((dn + 1 : Nat) : Int)], .int .i64 0]) ∧ Below w.heap.size w w' := by
  by_cases h : fu = -1
  · subst h
    rw [if_pos rfl]
    go_enter Try.func43, Try.ntmps43
    go_wp2_with fail
    exact bodyPost_ret (v := .tuple #[.agg #[.slice q1 n1 c1, .slice q2 n2 c2, .int .i64 (-1), .bool b, .int .i64 ((dn + 1 : Nat) : Int)], .int .i64 0]) (by simp [results, Try.results43, go_sem]) rfl ⟨rfl, below2 _ _ _⟩
  · rw [if_neg h]
    have h2 : 0 < fu := by omega
    have h3 : (fu == 0) = false := by simp; omega
    clear h hz h0
    go_enter Try.func43, Try.ntmps43
    go_wp2_with fail
    exact bodyPost_ret (v := .tuple #[.agg #[.slice q1 n1 c1, .slice q2 n2 c2, .int .i64 (fu - 1), .bool b, .int .i64 ((dn + 1 : Nat) : Int)], .int .i64 0]) (by simp [results, Try.results43, go_sem]) rfl ⟨rfl, below2 _ _ _⟩
theorem Ref.fuse {x : Value} (h : Ref w x m) (n : Int) (hn : n ≤ 9223372036854775807) : Calls Try.prog 31 #[x, .int .i64 n] w fun e w' => (∃ y, e = .returned y ∧ Ref w' y (fuseM m n)) ∧ Below w.heap.size w w' := by
  obtain ⟨vL, vR, rfl, h⟩ := h
  obtain ⟨⟨q1, c1, rfl⟩, q2, c2, rfl⟩ := h.forms
  refine (rfuse_raw q1 q2 _ c1 _ c2 m.fuse (m.done : Int) n m.down w).mono ?_
  rintro e w' ⟨rfl, hb⟩
  have h2 := h.below hb
  exact ⟨⟨_, rfl, _, _, rfl, h2.l, h2.r, h.ok.fuse hn⟩, hb⟩
theorem Ref.start {x : Value} (h : Ref w x m) : Calls Try.prog 33 #[x] w fun e w' => (∃ y, e = .returned y ∧ Ref w' y (startM m)) ∧ Below w.heap.size w w' := by
  obtain ⟨vL, vR, rfl, h⟩ := h
  obtain ⟨⟨q1, c1, rfl⟩, q2, c2, rfl⟩ := h.forms
  unfold refV
  have hok := h.ok.start
  by_cases hd : m.down = true
  · rw [show startM m = { m with row := [], fuse := -1, down := false } by unfold startM; rw [if_pos hd]] at hok ⊢
    rw [hd]
    refine (rstart_down q1 q2 _ c1 _ c2 m.fuse (m.done : Int) w).mono ?_
    rintro e w' ⟨rfl, hb⟩
    have h2 := h.below hb
    exact ⟨⟨_, rfl, _, _, rfl, h2.l, World.ownsRow_nil _ _ _ _, hok⟩, hb⟩
  · have hf : m.down = false := by simpa using hd
    rw [show startM m = m by unfold startM; rw [if_neg hd]]
    rw [hf]
    refine (rstart_up q1 q2 _ c1 _ c2 m.fuse (m.done : Int) w).mono ?_
    rintro e w' ⟨rfl, hb⟩
    exact ⟨⟨_, rfl, _, _, by unfold refV; rw [hf], h.below hb⟩, hb⟩
theorem Ref.burn {x : Value} (h : Ref w x m) (hd : m.done ≤ 4611686018427387904) : Calls Try.prog 43 #[x] w fun e w' => (∃ y, e = .returned (.tuple #[y, .int .i64 (burnE m)]) ∧ Ref w' y (burnM m)) ∧ Below w.heap.size w w' := by
  obtain ⟨vL, vR, rfl, h⟩ := h
  obtain ⟨⟨q1, c1, rfl⟩, q2, c2, rfl⟩ := h.forms
  unfold refV
  by_cases hz : m.fuse = 0
  · rw [show burnE m = 9 from if_pos hz, show burnM m = burnt m from if_pos hz, hz]
    refine (rburn_no q1 q2 _ c1 _ c2 (m.done : Int) m.down w).mono ?_
    rintro e w' ⟨rfl, hb⟩
    have h2 := h.below hb
    exact ⟨⟨_, rfl, _, _, by unfold refV burnt; rw [hz], h2.l, h2.r, h.ok.burnt⟩, hb⟩
  · rw [show burnE m = 0 from if_neg hz, show burnM m = burns m from if_neg hz]
    refine (rburn_yes q1 q2 _ c1 _ c2 m.fuse m.done m.down w h.ok.fuse0 h.ok.fuse1 hz hd).mono ?_
    rintro e w' ⟨rfl, hb⟩
    have h2 := h.below hb
    exact ⟨⟨_, rfl, _, _, rfl, h2.l, h2.r, h.ok.burns hz⟩, hb⟩
set_option maxHeartbeats 800000 in
theorem zeros_any (w : World) : Calls Try.prog 28 #[] w fun e w' => e = .returned (.string (strB zeros128)) ∧ Below w.heap.size w w' := by
  obtain ⟨S, HS⟩ : ∃ S, Hid (strB zeros128 = S) := ⟨_, Lib.hid rfl⟩
  rw [HS.out]
  obtain ⟨i0, hi, hz0, hz1, hz2⟩ := info_parts Try.info5
  have HI := Lib.hid hi
  have HZ0 := Lib.hid hz0
  have HZ1 := Lib.hid hz1
  have HZ2 := Lib.hid hz2
  clear hi hz0 hz1 hz2
  go_enter Try.func28, Try.ntmps28
  go_wp2_with (refine wpList_make_full _ rfl _ _ 59 rfl 0 5 i0 (.int .u8 0) 1 Try.underlying59 HI.out HZ0.out HZ1.out .i64 .i64 128 128 128 rfl rfl rfl rfl (by rw [HZ2.out]; omega) (by unfold maxLen; omega) (Nat.zero_le _) ?_)
  intro w1 hown hgrow
  have HB : Hid (Below w.heap.size w w1) := Lib.hid ((Below.refl _ _).grown hgrow (Nat.le_refl _) (fun k e => by cases e))
  rw [zeros_made] at hown
  have hconv := (Bys.of_row hown (fun d hd => by obtain rfl := (List.mem_replicate.1 hd).2; omega)).conv 128
  clear hown hgrow
  rw [HS.out] at hconv
  go_wp2_with fail
  go_ret
  exact ⟨rfl, HB.out⟩
end
end Go.Proofs.Ytdldjpgbifcljaa
