/- What the law's 'all' returns: the bytes of all things, one behind the other; or that there is one too long. -/
import Derived.Test.YtggkemgbacddgaaSame
namespace Go.Proofs.Ytggkemgbacddgaa
open Go.RowKit

/-- A thing that was handed in. -/
structure Opv where
  kind : Int
  num : Int
  p : Option Addr
  m : Nat
  c : Nat
  ds : List Nat
/-- It lies here. -/
structure OpAt (w : World) (b o : Nat) (x : Opv) : Prop where
  c0 : w.cell? ⟨b, o, none⟩ = some (.int .i64 x.kind)
  c1 : w.cell? ⟨b, o + 1, none⟩ = some (.int .i64 x.num)
  c2 : w.cell? ⟨b, o + 2, none⟩ = some (.slice x.p x.m x.c)
  n0 : -9223372036854775808 ≤ x.num
  n1 : x.num ≤ 9223372036854775807
  bys : Bys w x.p x.m x.ds
  fit : Fit x.p x.m x.c
def OpsAt (w : World) (b o n : Nat) (f : Nat → Opv) : Prop := ∀ i, i < n → OpAt w b (o + i * 3) (f i)
theorem OpAt.below {w w' : World} {b o : Nat} {x : Opv} (h : OpAt w b o x) (hb : Below w.heap.size w w') : OpAt w' b o x :=
  have hl := block_lt_of_cell h.c0
  ⟨(hb.cell (p := ⟨b, o, none⟩) hl).trans h.c0, (hb.cell (p := ⟨b, o + 1, none⟩) hl).trans h.c1, (hb.cell (p := ⟨b, o + 2, none⟩) hl).trans h.c2, h.n0, h.n1, h.bys.below hb, h.fit⟩
theorem OpsAt.below {w w' : World} {b o n : Nat} {f : Nat → Opv} (h : OpsAt w b o n f) (hb : Below w.heap.size w w') : OpsAt w' b o n f := fun i hi => (h i hi).below hb

def Opv.enc (x : Opv) : List Nat := encO x.kind x.num x.ds
/-- The bytes of the first things. -/
def encs (f : Nat → Opv) : Nat → List Nat
  | 0 => []
  | i + 1 => encs f i ++ (f i).enc
theorem enc_0 {x : Opv} (h : x.kind = 0) : x.enc = numB (cnt x.num) := if_pos h
theorem enc_1 {x : Opv} (h : ¬ x.kind = 0) (h1 : x.kind = 1) : x.enc = numB (zig x.num) := (if_neg h).trans (if_pos h1)
theorem enc_2 {x : Opv} (h : ¬ x.kind = 0) (h1 : ¬ x.kind = 1) : x.enc = numB x.ds.length ++ x.ds := (if_neg h).trans (if_neg h1)
theorem OpAt.dig {w : World} {b o : Nat} {x : Opv} (h : OpAt w b o x) : ∀ y ∈ x.enc, y < 256 := by
  unfold Opv.enc encO
  split
  · exact numB_dig _
  · split
    · exact numB_dig _
    · exact dig_append (numB_dig _) h.bys.dig
theorem OpAt.len {w : World} {b o : Nat} {x : Opv} (h : OpAt w b o x) (hm : x.m ≤ 300) : x.enc.length ≤ 310 := by
  have h1 := numB_ten (n := cnt x.num) (by have := cnt_lt h.n1; omega)
  have h2 := numB_ten (zig_lt h.n0 h.n1)
  have hl := h.bys.len
  have h3 := numB_ten (n := x.ds.length) (by omega)
  unfold Opv.enc encO
  split
  · omega
  · split
    · omega
    · rw [List.length_append]; omega
theorem encs_dig {w : World} {b o n : Nat} {f : Nat → Opv} (h : OpsAt w b o n f) : ∀ i, i ≤ n → ∀ y ∈ encs f i, y < 256 := by
  intro i
  induction i with
  | zero => intro _ y hy; cases hy
  | succ i ih => intro hi; exact dig_append (ih (by omega)) (h i (by omega)).dig
theorem encs_len {w : World} {b o n : Nat} {f : Nat → Opv} (h : OpsAt w b o n f) : ∀ i, i ≤ n → (∀ j, j < i → (f j).m ≤ 300) → (encs f i).length ≤ 310 * i := by
  intro i
  induction i with
  | zero => intro _ _; exact Nat.le_refl _
  | succ i ih =>
    intro hi hm
    have h1 := ih (by omega) (fun j hj => hm j (by omega))
    have h2 := (h i (by omega)).len (hm i (by omega))
    show (encs f i ++ (f i).enc).length ≤ _
    rw [List.length_append]; omega

structure AllRel (w wr : World) (v : Value) (i : Nat) (f : Nat → Opv) : Prop where
  below : Below w.heap.size w wr
  made : Made w.heap.size wr v (encs f i)
  small : ∀ j, j < i → (f j).m ≤ 300

theorem AllRel.next {w wr w2 : World} {v v2 : Value} {i : Nat} {f : Nat → Opv} (h : AllRel w wr v i f) (hx : (f i).m ≤ 300) (hm : Made wr.heap.size w2 v2 (encs f i ++ (f i).enc)) (hb : Below wr.heap.size wr w2) : AllRel w w2 v2 (i + 1) f :=
  ⟨h.below.trans (hb.mono h.below.size), by obtain ⟨p, c, e, ho⟩ := hm; exact ⟨p, c, e, own_base h.below.size ho⟩, fun j hj => by
    by_cases e : j = i
    · subst e; exact hx
    · exact h.small j (by omega)⟩

/-- What 'all' returns: no bytes, one thing being too long; or the bytes of all. -/
def AllPost (w : World) (n : Nat) (f : Nat → Opv) (e : Ending) (w' : World) : Prop :=
  ((e = .returned (.tuple #[.slice none 0 0, .bool false]) ∧ ¬ ∀ j, j < n → (f j).m ≤ 300) ∨ (∃ v, e = .returned (.tuple #[v, .bool true]) ∧ Made w.heap.size w' v (encs f n) ∧ ∀ j, j < n → (f j).m ≤ 300)) ∧ Below w.heap.size w w'

set_option maxHeartbeats 1600000 in
theorem all_core (b o n c : Nat) (f : Nat → Opv) (w : World) (hn : n ≤ 40) (hP : OpsAt w b o n f) :
    Calls Try.prog 13 #[.slice (some ⟨b, o, none⟩) n c] w (AllPost w n f) := by
  have HP := Lib.hid hP
  clear hP
  have H0 : Hid (AllRel w w (.slice none 0 0) 0 f) := Lib.hid ⟨Below.refl _ _, ⟨none, 0, rfl, World.ownsRow_nil _ _ _ _⟩, fun j hj => absurd hj (Nat.not_lt_zero _)⟩
  go_enter Try.func13, Try.ntmps13
  go_wp2_with fail
  go_loopw [4, 5] (fun bv iv wr => ∃ i : Nat, i ≤ n ∧ iv = .int .i64 (i : Int) ∧ AllRel w wr bv i f) (fun _ iv _ => n - (intOf iv).toNat)
  case atStart => exact ⟨0, by omega, by go_num, H0.out⟩
  case round =>
    obtain ⟨i, hi, rfl, hr⟩ := hrel
    have HR := Lib.hid hr
    clear hr H0
    by_cases hlt : i < n
    · have hx := (HP.out i hlt).below HR.out.below
      have HX := Lib.hid hx
      have m0 := hx.c0
      have m1 := hx.c1
      have m2 := hx.c2
      have hn0 := hx.n0
      have hn1 := hx.n1
      obtain ⟨p, k, rfl, hown⟩ := HR.out.made
      have HB : Hid (Bys wr p (encs f i).length (encs f i)) := Lib.hid (Bys.own hown (encs_dig HP.out i (by omega)))
      have HF := Lib.hid (own_fit hown)
      have hel := encs_len HP.out i (by omega) HR.out.small
      have HN := Lib.hid (fun w2 v2 => HR.out.next (w2 := w2) (v2 := v2))
      clear hx hown
      by_cases hbig : 300 < (f i).m
      · have hd : decide ((300 : Int) < ((f i).m : Int)) = true := decide_eq_true (by omega)
        have HE : Hid (¬ ∀ j, j < n → (f j).m ≤ 300) := Lib.hid fun h => by have := h i hlt; omega
        have HW := Lib.hid HR.out.below
        clear HN
        generalize f i = x at *
        go_wp2_with fail
        go_ret2
        exact ⟨.inl ⟨rfl, HE.out⟩, HW.out⟩
      · have hd : decide ((300 : Int) < ((f i).m : Int)) = false := decide_eq_false (by omega)
        have hsm : (f i).m ≤ 300 := by omega
        generalize hl : (encs f i).length = l at *
        have HL := Lib.hid hl
        clear hl
        by_cases h0 : (f i).kind = 0
        · have hk : ((f i).kind == 0) = true := by rw [beq_iff_eq]; exact h0
          have HE := Lib.hid (enc_0 h0)
          clear h0
          generalize hfi : f i = x at *
          have HFI := Lib.hid hfi
          clear hfi
          go_wp2_with fail
          refine (count_any p l k _ x.num _ (by omega) HB.out HF.out hn0 hn1).mono ?_
          rintro e w1 ⟨⟨v, rfl, hM⟩, hb⟩
          have HA : Hid (AllRel w w1 v (i + 1) f) := Lib.hid (HN.out w1 v hsm (by rw [HE.out]; exact hM) hb)
          clear hM hb
          go_wp2_with fail
          go_roundw
          case rel => exact ⟨i + 1, by omega, by go_num, HA.out⟩
          case measure => simp [intOf]; omega
        · have hk : ((f i).kind == 0) = false := by rw [beq_eq_false_iff_ne]; exact h0
          by_cases h1 : (f i).kind = 1
          · have hk1 : ((f i).kind == 1) = true := by rw [beq_iff_eq]; exact h1
            have HE := Lib.hid (enc_1 h0 h1)
            clear h0 h1
            generalize hfi : f i = x at *
            have HFI := Lib.hid hfi
            clear hfi
            go_wp2_with fail
            refine (whole_any p l k _ x.num _ (by omega) HB.out HF.out hn0 hn1).mono ?_
            rintro e w1 ⟨⟨v, rfl, hM⟩, hb⟩
            have HA : Hid (AllRel w w1 v (i + 1) f) := Lib.hid (HN.out w1 v hsm (by rw [HE.out]; exact hM) hb)
            clear hM hb
            go_wp2_with fail
            go_roundw
            case rel => exact ⟨i + 1, by omega, by go_num, HA.out⟩
            case measure => simp [intOf]; omega
          · have hk1 : ((f i).kind == 1) = false := by rw [beq_eq_false_iff_ne]; exact h1
            have HE := Lib.hid (enc_2 h0 h1)
            clear h0 h1
            generalize hfi : f i = x at *
            have HFI := Lib.hid hfi
            clear hfi
            go_wp2_with fail
            refine (sized_any p x.p l k x.m x.c _ x.ds _ (by omega) (by omega) HB.out HF.out HX.out.bys HX.out.fit).mono ?_
            rintro e w1 ⟨⟨v, rfl, hM⟩, hb⟩
            have HA : Hid (AllRel w w1 v (i + 1) f) := Lib.hid (HN.out w1 v hsm (by rw [HE.out, HX.out.bys.len, ← List.append_assoc]; exact hM) hb)
            clear hM hb
            go_wp2_with fail
            go_roundw
            case rel => exact ⟨i + 1, by omega, by go_num, HA.out⟩
            case measure => simp [intOf]; omega
    · have hin : i = n := by omega
      have HA : Hid (Made w.heap.size wr u4 (encs f n) ∧ ∀ j, j < n → (f j).m ≤ 300) := Lib.hid (by rw [← hin]; exact ⟨HR.out.made, HR.out.small⟩)
      have HW := Lib.hid HR.out.below
      clear HR hin
      go_wp2_with fail
      go_ret2
      exact ⟨.inr ⟨_, rfl, HA.out.1, HA.out.2⟩, HW.out⟩

set_option maxHeartbeats 400000 in
theorem all_none (p : Option Addr) (c : Nat) (f : Nat → Opv) (w : World) :
    Calls Try.prog 13 #[.slice p 0 c] w (AllPost w 0 f) := by
  have HA : Hid (Made w.heap.size w (.slice none 0 0) (encs f 0) ∧ ∀ j, j < 0 → (f j).m ≤ 300) := Lib.hid ⟨⟨none, 0, rfl, World.ownsRow_nil _ _ _ _⟩, fun j hj => absurd hj (Nat.not_lt_zero _)⟩
  go_enter Try.func13, Try.ntmps13
  go_wp2_with fail
  go_loop [4, 5] (fun bv iv => bv = .slice none 0 0 ∧ iv = .int .i64 0) (fun _ _ => 0)
  case atStart => exact ⟨rfl, by go_num⟩
  case round =>
    obtain ⟨rfl, rfl⟩ := hrel
    go_wp2_with fail
    go_ret2
    exact ⟨.inr ⟨_, rfl, HA.out.1, HA.out.2⟩, Below.refl _ _⟩
end Go.Proofs.Ytggkemgbacddgaa
