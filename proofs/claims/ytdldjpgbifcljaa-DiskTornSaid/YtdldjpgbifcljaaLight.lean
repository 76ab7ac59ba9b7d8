/- The law's 'light' and 'played'. -/
import Derived.Test.YtdldjpgbifcljaaStep
namespace Go.Proofs.Ytdldjpgbifcljaa
open Go.RowKit

/-- A step that lies in memory. -/
structure OpAt (w : World) (b k : Nat) (o : Opv) : Prop where
  c0 : w.cell? ⟨b, k, none⟩ = some (.int .i64 o.kind)
  c1 : w.cell? ⟨b, k + 1, none⟩ = some (.int .i64 o.at_)
  c2 : w.cell? ⟨b, k + 2, none⟩ = some (.int .i64 o.n)
  c3 : w.cell? ⟨b, k + 3, none⟩ = some (.int .i64 o.torn)
  c4 : w.cell? ⟨b, k + 4, none⟩ = some (.int .i64 o.long)
  c5 : w.cell? ⟨b, k + 5, none⟩ = some (.int .u8 (o.fill : Int))
  c6 : w.cell? ⟨b, k + 6, none⟩ = some (.slice o.p o.nk o.ck)
  ok : OpB o
  kp : Kp w o.p o.nk o.keep
def Ops (w : World) (p : Option Addr) (n : Nat) (f : Nat → Opv) : Prop := 0 < n → ∃ b o, p = some ⟨b, o, none⟩ ∧ ∀ r, r < n → OpAt w b (o + r * 7) (f r)
theorem Kp.below {w w' : World} {p : Option Addr} {n : Nat} {f : Nat → Bool} (h : Kp w p n f) (hb : Below w.heap.size w w') : Kp w' p n f := h.chg (F := []) (fun _ b o e hm => by cases hm) (Chg.of_below hb)
theorem OpAt.below {w w' : World} {b k : Nat} {o : Opv} (h : OpAt w b k o) (hb : Below w.heap.size w w') : OpAt w' b k o := by
  have c : ∀ j v, w.cell? ⟨b, j, none⟩ = some v → w'.cell? ⟨b, j, none⟩ = some v := fun j v e => (hb.cell (p := ⟨b, j, none⟩) (World.block_lt_of_cell? w _ e)).trans e
  exact ⟨c _ _ h.c0, c _ _ h.c1, c _ _ h.c2, c _ _ h.c3, c _ _ h.c4, c _ _ h.c5, c _ _ h.c6, h.ok, h.kp.below hb⟩
theorem Kp.off {w : World} {p : Option Addr} {n : Nat} {f : Nat → Bool} (h : Kp w p n f) {F : List Nat} (hF : ∀ k ∈ F, w.heap.size ≤ k) : 0 < n → Off F p := fun hn b o e hm => by
  obtain ⟨b2, o2, e2, hc⟩ := h hn
  rw [e] at e2
  cases e2
  have := World.block_lt_of_cell? w _ (hc 0 hn)
  exact absurd (Nat.lt_of_lt_of_le this (hF _ hm)) (Nat.lt_irrefl _)
def Light (n : Nat) (f : Nat → Opv) : Prop := n ≤ 60 ∧ ∀ r, r < n → (f r).nk ≤ 100
set_option maxHeartbeats 800000 in
theorem light_yes (p : Option Addr) (n c : Nat) (f : Nat → Opv) (w : World) (hO : Ops w p n f) (hl : Light n f) :
    Calls Try.prog 10 #[.slice p n c] w fun e w' => e = .returned (.bool true) ∧ w = w' := by
  obtain ⟨h60, hlt⟩ := hl
  have HO := Lib.hid hO
  have HL := Lib.hid hlt
  clear hO hlt
  have hd : decide ((60 : Int) < (n : Int)) = false := decide_eq_false (by omega)
  go_enter Try.func10, Try.ntmps10
  go_wp2_with fail
  go_loop [3] (fun iv => ∃ i : Nat, i ≤ n ∧ iv = .int .i64 (i : Int)) (fun iv => n - (intOf iv).toNat)
  case atStart => exact ⟨0, by omega, by go_num⟩
  case round =>
    obtain ⟨i, hi, rfl⟩ := hrel
    by_cases hlt : i < n
    · obtain ⟨b, o, rfl, hc⟩ := HO.out (by omega)
      have c6 := (hc i hlt).c6
      have hk := HL.out i hlt
      clear hc
      have hk2 : decide ((100 : Int) < ((f i).nk : Int)) = false := decide_eq_false (by omega)
      generalize (f i).nk = nk at *
      generalize (f i).p = pk at *
      generalize (f i).ck = ck at *
      go_wp2_with fail
      go_round
      case rel => exact ⟨i + 1, by omega, by go_num⟩
      case measure => simp [intOf]; omega
    · obtain rfl : i = n := by omega
      go_wp2_with fail
      go_ret
      exact ⟨rfl, rfl⟩
set_option maxHeartbeats 800000 in
theorem light_no (p : Option Addr) (n c : Nat) (f : Nat → Opv) (w : World) (hn : n ≤ 9223372036854775807) (hO : Ops w p n f) (hl : ¬ Light n f) :
    Calls Try.prog 10 #[.slice p n c] w fun e w' => e = .returned (.bool false) ∧ w = w' := by
  by_cases h60 : n ≤ 60
  · have HO := Lib.hid hO
    have HL : Hid (¬ ∀ r, r < n → (f r).nk ≤ 100) := Lib.hid (fun h => hl ⟨h60, h⟩)
    clear hO hl
    have hd : decide ((60 : Int) < (n : Int)) = false := decide_eq_false (by omega)
    go_enter Try.func10, Try.ntmps10
    go_wp2_with fail
    go_loop [3] (fun iv => ∃ i : Nat, i ≤ n ∧ iv = .int .i64 (i : Int) ∧ Hid (∀ r, r < i → (f r).nk ≤ 100)) (fun iv => n - (intOf iv).toNat)
    case atStart => exact ⟨0, by omega, by go_num, Lib.hid (fun r hr => absurd hr (Nat.not_lt_zero r))⟩
    case round =>
      obtain ⟨i, hi, rfl, hall⟩ := hrel
      by_cases hlt : i < n
      · obtain ⟨b, o, rfl, hc⟩ := HO.out (by omega)
        have c6 := (hc i hlt).c6
        have hnk := (hc i hlt).ok.nk
        clear hc
        by_cases hk : (f i).nk ≤ 100
        · have hk2 : decide ((100 : Int) < ((f i).nk : Int)) = false := decide_eq_false (by omega)
          have HN : Hid (∀ r, r < i + 1 → (f r).nk ≤ 100) := Lib.hid (fun r hr => by
            rcases Nat.lt_or_ge r i with h | h
            · exact hall.out r h
            · obtain rfl : r = i := by omega
              exact hk)
          clear hall hk
          generalize (f i).nk = nk at *
          generalize (f i).p = pk at *
          generalize (f i).ck = ck at *
          go_wp2_with fail
          go_round
          case rel => exact ⟨i + 1, by omega, by go_num, HN⟩
          case measure => simp [intOf]; omega
        · have hk2 : decide ((100 : Int) < ((f i).nk : Int)) = true := decide_eq_true (by omega)
          clear hall
          generalize (f i).nk = nk at *
          generalize (f i).p = pk at *
          generalize (f i).ck = ck at *
          go_wp2_with fail
          go_ret
          exact ⟨rfl, rfl⟩
      · obtain rfl : i = n := by omega
        exact absurd hall.out HL.out
  · have hd : decide ((60 : Int) < (n : Int)) = true := decide_eq_true (by omega)
    clear hO hl
    go_enter Try.func10, Try.ntmps10
    go_wp2_with fail
    go_ret
    exact ⟨rfl, rfl⟩
/-- The law's two disks amid their steps; the document's in a box. -/
structure PW (w wr : World) (g b : Nat) (m : Dsk) : Prop where
  dk : ∃ F, Dk wr g F m ∧ ∀ k ∈ F, w.heap.size ≤ k
  x : ∃ q1 c1 q2 c2, Box5 wr b (.slice q1 m.out.length c1) (.slice q2 m.row.length c2) (.int .i64 m.fuse) (.bool m.down) (.int .i64 (m.done : Int)) ∧ Ref wr (.agg #[.slice q1 m.out.length c1, .slice q2 m.row.length c2, .int .i64 m.fuse, .bool m.down, .int .i64 (m.done : Int)]) m
  below : Below w.heap.size w wr
  high : w.heap.size ≤ b
theorem PW.next {w wr w' : World} {g b : Nat} {m2 : Dsk} {F F' : List Nat} {y : Value} (hF : ∀ k ∈ F, w.heap.size ≤ k) (hT : Typed wr F) (hbel : Below w.heap.size w wr) (hb : w.heap.size ≤ b) {v0 v1 v2 v3 v4 : Value} (hx : Box5 wr b v0 v1 v2 v3 v4)
    (hD : Dk w' g F' m2) (hR : Ref w' y m2) (hc : Chg F F' wr w') : ∃ q1 c1 q2 c2, y = .agg #[.slice q1 m2.out.length c1, .slice q2 m2.row.length c2, .int .i64 m2.fuse, .bool m2.down, .int .i64 (m2.done : Int)] ∧ Box5 w' b v0 v1 v2 v3 v4 ∧
      PW w (((((w'.setCell ⟨b, 0, none⟩ (.slice q1 m2.out.length c1)).setCell ⟨b, 1, none⟩ (.slice q2 m2.row.length c2)).setCell ⟨b, 2, none⟩ (.int .i64 m2.fuse)).setCell ⟨b, 3, none⟩ (.bool m2.down)).setCell ⟨b, 4, none⟩ (.int .i64 (m2.done : Int))) g b m2 := by
  obtain ⟨q1, c1, q2, c2, rfl⟩ := hR.form
  have hx' := hx.chg hc hT
  have hall := five_other w' b (.slice q1 m2.out.length c1) (.slice q2 m2.row.length c2) (.int .i64 m2.fuse) (.bool m2.down) (.int .i64 (m2.done : Int))
  exact ⟨q1, c1, q2, c2, rfl, hx', ⟨F', hD.apart hx' hall, hc.high hbel.size hF⟩, ⟨q1, c1, q2, c2, ((((hx'.set0 _).set1 _).set2 _).set3 _).set4 _, hR.apart hx' hall⟩, (((((hc.below hbel hbel.size hF).setCell hb _).setCell hb _).setCell hb _).setCell hb _).setCell hb _, hb⟩
end Go.Proofs.Ytdldjpgbifcljaa
