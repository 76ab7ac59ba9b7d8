/- A reader in memory, and what its small calls return. -/
import Derived.Test.YtpdihgmgcamgkaaWrites0
import Derived.Test.YtpdihgmgcamgkaaShelf
import Derived.Laws.Rows
set_option maxRecDepth 20000
namespace Go.Proofs.Ytpdihgmgcamgkaa
open Go.RowKit

theorem map_u8s (bs : List Nat) : (bs.map Int.ofNat).map (Value.int .u8) = u8s bs := by unfold u8s; rw [List.map_map]; rfl
theorem clone_any (p : Option Addr) (n c : Nat) (bs : List Nat) (w : World) (hn : n ≤ 1099511627776) (hB : Bys w p n bs) :
    Calls Try.prog 48 #[.slice p n c] w fun e w' => (∃ v, e = .returned v ∧ Made w.heap.size w' v bs) ∧ Below w.heap.size w w' := by
  cases p with
  | none =>
    obtain rfl : n = 0 := by
      rcases Nat.eq_zero_or_pos n with h | h
      · exact h
      · obtain ⟨b, o, e, _⟩ := hB.at h; cases e
    obtain rfl := hB.nil_
    refine (Try.bytes_Clone_nil 0 c w).mono ?_
    rintro e w' ⟨rfl, rfl⟩
    exact ⟨⟨_, rfl, none, 0, rfl, World.ownsRow_nil _ _ _ _⟩, Below.refl _ _⟩
  | some a =>
    refine (Try.bytes_Clone_at a n c (bs.map Int.ofNat) w (by rw [List.length_map, hB.len]) (by omega) (fun i hi => ?_)).mono ?_
    · obtain ⟨b, o, e, hc⟩ := hB.at (by omega)
      cases e
      rw [Go.WideShapes.add_plain, map_getD]; exact hc i hi
    · rintro e w' ⟨v, rfl, ho, _, hb⟩
      rw [map_u8s] at ho
      obtain ⟨p', c', rfl⟩ := own_slice ho
      obtain rfl := hB.len
      exact ⟨⟨_, rfl, p', c', rfl, ho⟩, hb⟩

/-- Block g holds a reader of the bytes bs, which lie in block d; f is its fault. -/
def Rd (w : World) (g d : Nat) (bs : List Nat) (f : Int) : Prop :=
  ∃ p c, (p ≠ none → d ≠ g) ∧ w.heap[g]? = some (.cells #[.slice p bs.length c, .int .i64 f] 94 (0, 0)) ∧ Bys w p bs.length bs ∧ bs.length ≤ c ∧ c ≤ 9223372036854775807 ∧ (∀ a, p = some a → ∃ o, a = ⟨d, o, none⟩) ∧ (p = none → c = 0)
/-- Whatever lay in memory, but for one block, lies as it lay. -/
structure Only (g : Nat) (w w' : World) : Prop where
  os : w'.os = w.os
  tape : w'.tape = w.tape
  output : w'.output = w.output
  size : w.heap.size ≤ w'.heap.size
  block : ∀ k, k < w.heap.size → k ≠ g → w'.heap[k]? = w.heap[k]?
theorem Only.refl (g : Nat) (w : World) : Only g w w := ⟨rfl, rfl, rfl, Nat.le_refl _, fun _ _ _ => rfl⟩
theorem Only.trans {g : Nat} {a b c : World} (h : Only g a b) (k : Only g b c) : Only g a c :=
  ⟨k.os.trans h.os, k.tape.trans h.tape, k.output.trans h.output, Nat.le_trans h.size k.size, fun i hi hg => (k.block i (Nat.lt_of_lt_of_le hi h.size) hg).trans (h.block i hi hg)⟩
theorem Only.of_below {g : Nat} {w w' : World} (h : Below w.heap.size w w') : Only g w w' := ⟨h.os, h.tape, h.output, h.size, fun k hk _ => h.block k hk⟩
theorem Only.below {g B : Nat} {a w w' : World} (h : Only g w w') (hb : Below B a w) (hB : B ≤ w.heap.size) (hg : B ≤ g) : Below B a w' :=
  hb.trans ⟨h.os, h.tape, h.output, h.size, fun k hk => h.block k (by omega) (by omega)⟩
theorem Only.setCell (g i : Nat) (v : Value) (w : World) : Only g w (w.setCell ⟨g, i, none⟩ v) :=
  have h := (Below.refl 0 w).setCell (p := ⟨g, i, none⟩) (Nat.zero_le _) v
  ⟨h.os, h.tape, h.output, h.size, fun k _ hg => Below.heap_setCell w _ v k hg⟩
theorem Only.bys {g : Nat} {w w' : World} (h : Only g w w') {p : Option Addr} {n : Nat} {bs : List Nat} (hB : Bys w p n bs) (hp : 0 < n → ∀ b o, p = some ⟨b, o, none⟩ → b ≠ g) : Bys w' p n bs :=
  ⟨hB.len, hB.dig, fun hn => by
    obtain ⟨b, o, e, hc⟩ := hB.inn hn
    exact ⟨b, o, e, fun i hi => (World.cell?_of_block (w := w) (h.block b (World.block_lt_of_cell? w _ (hc i hi)) (hp hn b o e))).trans (hc i hi)⟩⟩
theorem Rd.lt {w : World} {g d : Nat} {bs : List Nat} {f : Int} (h : Rd w g d bs f) : g < w.heap.size := by
  obtain ⟨p, c, _, hh, _⟩ := h
  exact lt_of_block hh
/-- A reader stays as it is while nothing but another block changes. -/
theorem Rd.only {w w' : World} {g d k : Nat} {bs : List Nat} {f : Int} (h : Rd w g d bs f) (hk : Only k w w') (hg : g ≠ k) (hd : d ≠ k) : Rd w' g d bs f := by
  obtain ⟨p, c, h0, hh, hB, h1, h2, h3, h4⟩ := h
  exact ⟨p, c, h0, (hk.block g (lt_of_block hh) hg).trans hh, hk.bys hB (fun _ b o e => by obtain ⟨o', e'⟩ := h3 _ e; cases e'; exact hd), h1, h2, h3, h4⟩
theorem Rd.below {w w' : World} {g d : Nat} {bs : List Nat} {f : Int} (h : Rd w g d bs f) (hk : Below w.heap.size w w') : Rd w' g d bs f := by
  obtain ⟨p, c, h0, hh, hB, h1, h2, h3, h4⟩ := h
  exact ⟨p, c, h0, (hk.block g (lt_of_block hh)).trans hh, hB.below hk, h1, h2, h3, h4⟩
/-- A fault that is set. -/
theorem Rd.fault {w : World} {g d : Nat} {bs : List Nat} {f : Int} (h : Rd w g d bs f) (e : Int) : Rd (w.setCell ⟨g, 1, none⟩ (.int .i64 e)) g d bs e := by
  obtain ⟨p, c, h0, hh, hB, h1, h2, h3, h4⟩ := h
  refine ⟨p, c, h0, heap_setCell_same w g 1 _ _ (.int .i64 e) hh, (Only.setCell g 1 _ w).bys hB (fun _ b o e => by obtain ⟨o', e'⟩ := h3 _ e; cases e'; exact h0 (by rw [e]; simp)), h1, h2, h3, h4⟩

theorem own_addr {w : World} {base n c : Nat} {p : Option Addr} {xs : List Value} (h : w.ownsRow base 5 1 (.slice p n c) n xs) : ∃ d, base ≤ d ∧ (∀ a, p = some a → ∃ o, a = ⟨d, o, none⟩) ∧ (p = none ∨ d < w.heap.size) ∧ c ≤ 9223372036854775807 := by
  rcases h.2 with ⟨h0, h1⟩ | ⟨g, cap, cur, e, hb, hh, h2, h3, _⟩
  · cases h0; exact ⟨base, Nat.le_refl _, fun a e => by (cases e), .inl rfl, by omega⟩
  · cases e; exact ⟨g, hb, fun a e => by (cases e; exact ⟨0, rfl⟩), .inr (lt_of_block hh), by unfold maxLen at h3; omega⟩

set_option maxHeartbeats 400000 in
theorem read_any (p : Option Addr) (n c : Nat) (bs : List Nat) (w : World) (hn : n ≤ 1099511627776) (hB : Bys w p n bs) :
    Calls Try.prog 29 #[.slice p n c] w fun e w' => (∃ g d, e = .returned (.pointer (some ⟨g, 0, none⟩)) ∧ w.heap.size ≤ g ∧ g < w'.heap.size ∧ w.heap.size ≤ d ∧ d < w'.heap.size ∧ Rd w' g d bs 0) ∧ Below w.heap.size w w' := by
  have HB := Lib.hid hB
  clear hB
  go_enter Try.func29, Try.ntmps29
  go_wp2_with fail
  refine (clone_any p n c bs _ hn HB.out).mono ?_
  rintro e w1 ⟨⟨v, rfl, q, k, rfl, ho⟩, hb⟩
  have HO := Lib.hid ho
  have HW := Lib.hid hb
  clear ho hb
  go_wp2_with fail
  go_ret
  obtain ⟨d, hd, ha, hl, hk⟩ := own_addr HO.out
  have hf := own_fit HO.out
  have hs := HW.out.size
  have hb2 : Below w1.heap.size w1 (w1.alloc (.cells #[.slice q bs.length k, .int .i64 0] 94)) := (Below.refl _ _).alloc (Nat.le_refl _) _
  have hsz : (w1.alloc (.cells #[.slice q bs.length k, .int .i64 0] 94)).heap.size = w1.heap.size + 1 := by simp
  rcases hl with rfl | hl
  · exact ⟨⟨w1.heap.size, w.heap.size, rfl, hs, by rw [hsz]; omega, Nat.le_refl _, by rw [hsz]; omega, none, k, fun h => absurd rfl h, heap_alloc_new w1 _, (Bys.own HO.out HB.out.dig).below hb2, hf.cap, hk, fun a e => by (cases e), hf.nil_⟩, HW.out.alloc hs _⟩
  · exact ⟨⟨w1.heap.size, d, rfl, hs, by rw [hsz]; omega, hd, by rw [hsz]; omega, q, k, fun _ => Nat.ne_of_lt hl, heap_alloc_new w1 _, (Bys.own HO.out HB.out.dig).below hb2, hf.cap, hk, ha, hf.nil_⟩, HW.out.alloc hs _⟩

set_option maxHeartbeats 400000 in
theorem fault_any (g d : Nat) (bs : List Nat) (f : Int) (w : World) (h : Rd w g d bs f) :
    Calls Try.prog 49 #[.pointer (some ⟨g, 0, none⟩)] w fun e w' => e = .returned (.int .i64 f) ∧ w = w' := by
  obtain ⟨p, c, h0, hh, hB, h1, h2, h3, h4⟩ := h
  have hc := cell_of_row w g 1 _ _ _ hh
  simp at hc
  clear hh hB
  go_enter Try.func49, Try.ntmps49
  go_wp2_with fail
  go_ret
  exact ⟨rfl, rfl⟩

set_option maxHeartbeats 400000 in
theorem left_any (g d : Nat) (bs : List Nat) (f : Int) (w : World) (h : Rd w g d bs f) :
    Calls Try.prog 54 #[.pointer (some ⟨g, 0, none⟩)] w fun e w' => e = .returned (.int .i64 (bs.length : Int)) ∧ w = w' := by
  obtain ⟨p, c, h0, hh, hB, h1, h2, h3, h4⟩ := h
  have hc := cell_of_row w g 0 _ _ _ hh
  simp at hc
  clear hh hB
  generalize bs.length = n at *
  go_enter Try.func54, Try.ntmps54
  go_wp2_with fail
  go_ret
  exact ⟨rfl, rfl⟩

set_option maxHeartbeats 400000 in
theorem pass_fault (g d : Nat) (bs : List Nat) (f e : Int) (n : Nat) (w : World) (h : Rd w g d bs f) (he : (e != 0) = true) :
    Calls Try.prog 50 #[.pointer (some ⟨g, 0, none⟩), .int .i64 n, .int .i64 e] w fun r w' => r = .returned (.tuple #[]) ∧ Rd w' g d bs e ∧ Only g w w' := by
  have HR := Lib.hid (h.fault e)
  have HO := Lib.hid (Only.setCell g 1 (.int .i64 e) w)
  obtain ⟨p, c, h0, hh, hB, h1, h2, h3, h4⟩ := h
  have hc := cell_of_row w g 1 _ _ _ hh
  have hf := frozen_of_row w g 1 _ _ hh
  simp at hc
  clear hh hB
  go_enter Try.func50, Try.ntmps50
  go_wp2_with fail
  refine bodyPost_ret (results_none rfl _ _ _) rfl ?_
  exact ⟨rfl, HR.out, HO.out⟩

theorem drop_len {bs : List Nat} {k n : Nat} (h : bs.length = n) : (bs.drop k).length = n - k := by rw [List.length_drop, h]
/-- The bytes that were gone past are left out. -/
theorem Rd.drop {w : World} {g d : Nat} {bs : List Nat} {f : Int} (_h : Rd w g d bs f) (k : Nat) (p p2 : Option Addr) (c c2 : Nat) (hh : w.heap[g]? = some (.cells #[.slice p bs.length c, .int .i64 f] 94 (0, 0)))
    (hB : Bys (w.setCell ⟨g, 0, none⟩ (.slice p2 (bs.length - k) c2)) p2 (bs.length - k) (bs.drop k)) (h0 : p2 ≠ none → d ≠ g) (h1 : bs.length - k ≤ c2) (h2 : c2 ≤ 9223372036854775807) (h3 : ∀ a, p2 = some a → ∃ o, a = ⟨d, o, none⟩) (h4 : p2 = none → c2 = 0) :
    Rd (w.setCell ⟨g, 0, none⟩ (.slice p2 (bs.length - k) c2)) g d (bs.drop k) f := by
  refine ⟨p2, c2, h0, ?_, ?_, ?_, h2, h3, h4⟩
  · rw [drop_len rfl]
    exact heap_setCell_same w g 0 _ _ _ hh
  · rw [drop_len rfl]; exact hB
  · rw [drop_len rfl]; exact h1

set_option maxHeartbeats 800000 in
theorem pass_ok (g d : Nat) (bs : List Nat) (f : Int) (k : Nat) (w : World) (h : Rd w g d bs f) (hk : k ≤ bs.length) :
    Calls Try.prog 50 #[.pointer (some ⟨g, 0, none⟩), .int .i64 k, .int .i64 0] w fun r w' => r = .returned (.tuple #[]) ∧ Rd w' g d (bs.drop k) f ∧ Only g w w' := by
  have HR := Lib.hid h
  obtain ⟨p, c, h0, hh, hB, h1, h2, h3, h4⟩ := h
  have HH := Lib.hid hh
  have hc := cell_of_row w g 0 _ _ _ hh
  have hf := frozen_of_row w g 0 _ _ hh
  have hlen : bs.length ≤ 9223372036854775807 := by omega
  simp at hc
  clear hh
  cases p with
  | none =>
    obtain rfl : c = 0 := h4 rfl
    obtain rfl : k = 0 := by omega
    have hn : bs.length = 0 := by omega
    have HX : Hid (Rd (w.setCell ⟨g, 0, none⟩ (.slice none 0 0)) g d (bs.drop 0) f) := Lib.hid (by
      have := HR.out.drop 0 none none 0 0 HH.out (by rw [hn, List.eq_nil_of_length_eq_zero hn]; exact Bys.zero _ _) (fun h => absurd rfl h) (by omega) (by omega) (fun a e => by cases e) (fun _ => rfl)
      rw [hn] at this; exact this)
    have HO := Lib.hid (Only.setCell g 0 (.slice none 0 0) w)
    rw [hn] at hc
    clear hB HR HH hn h0 h1 h3 h4 hk
    go_enter Try.func50, Try.ntmps50
    go_wp2_with fail
    go_end0
    exact ⟨rfl, HX.out, HO.out⟩
  | some a =>
    obtain ⟨o, rfl⟩ := h3 a rfl
    have h0' := h0 (by simp)
    have HO := fun v => Lib.hid (Only.setCell g 0 v w)
    by_cases hkc : c = k
    · subst hkc
      have hk2 : bs.length = c := by omega
      have HX : Hid (Rd (w.setCell ⟨g, 0, none⟩ (.slice (some ⟨d, o, none⟩) 0 0)) g d (bs.drop c) f) := Lib.hid (by
        have := HR.out.drop c _ (some ⟨d, o, none⟩) _ 0 HH.out (by rw [hk2, Nat.sub_self, List.drop_of_length_le (by omega)]; exact Bys.zero _ _) (fun _ => h0') (by omega) (by omega) (fun a e => by cases e; exact ⟨o, rfl⟩) (fun h => by cases h)
        rw [hk2, Nat.sub_self] at this; exact this)
      rw [hk2] at hc
      clear hB HR HH hk2 h0 h1 h3 h4 hk
      go_enter Try.func50, Try.ntmps50
      go_wp2_with fail
      go_end0
      exact ⟨rfl, HX.out, (HO _).out⟩
    · have HX : Hid (Rd (w.setCell ⟨g, 0, none⟩ (.slice (some ⟨d, o + k, none⟩) (bs.length - k) (c - k))) g d (bs.drop k) f) := Lib.hid
        (HR.out.drop k _ (some ⟨d, o + k, none⟩) _ (c - k) HH.out ((Only.setCell g 0 _ w).bys (hB.drop (by omega)) (fun _ b o' e => by cases e; exact h0')) (fun _ => h0') (by omega) (by omega) (fun a e => by cases e; exact ⟨o + k, rfl⟩) (fun h => by cases h))
      clear hB HR HH h0 h3 h4
      generalize bs.length = n at *
      have hkc2 : k < c := by omega
      go_enter Try.func50, Try.ntmps50
      go_wp2_with fail
      go_end0
      exact ⟨rfl, HX.out, (HO _).out⟩

set_option maxHeartbeats 400000 in
theorem end_fault (g d : Nat) (bs : List Nat) (f : Int) (w : World) (h : Rd w g d bs f) (hf : (f == 0) = false) :
    Calls Try.prog 36 #[.pointer (some ⟨g, 0, none⟩)] w fun e w' => e = .returned (.int .i64 f) ∧ w = w' := by
  have HR := Lib.hid h
  clear h
  go_enter Try.func36, Try.ntmps36
  go_wp2_with (go_at_call 49; refine (fault_any g d bs f _ HR.out).mono ?_; rintro e w' ⟨rfl, rfl⟩)
  go_ret
  exact ⟨rfl, rfl⟩
set_option maxHeartbeats 400000 in
theorem end_all (g d : Nat) (w : World) (h : Rd w g d [] 0) :
    Calls Try.prog 36 #[.pointer (some ⟨g, 0, none⟩)] w fun e w' => e = .returned (.int .i64 0) ∧ w = w' := by
  have HR := Lib.hid h
  clear h
  go_enter Try.func36, Try.ntmps36
  go_wp2_with (first
    | (go_at_call 49; refine (fault_any g d [] 0 _ HR.out).mono ?_; rintro e w' ⟨rfl, rfl⟩)
    | (go_at_call 54; refine (left_any g d [] 0 _ HR.out).mono ?_; rintro e w' ⟨rfl, rfl⟩))
  go_ret
  exact ⟨rfl, rfl⟩
set_option maxHeartbeats 400000 in
theorem end_left (g d : Nat) (bs : List Nat) (w : World) (h : Rd w g d bs 0) (hn : 0 < bs.length) :
    Calls Try.prog 36 #[.pointer (some ⟨g, 0, none⟩)] w fun e w' => e = .returned (.int .i64 4) ∧ Rd w' g d bs 4 ∧ Only g w w' := by
  have HR := Lib.hid h
  have hl := left_any g d bs 0 w h
  have hp := pass_fault g d bs 0 4 0 w h rfl
  clear h
  have HL := Lib.hid hl
  have HP := Lib.hid hp
  clear hl hp
  generalize bs.length = n at *
  go_enter Try.func36, Try.ntmps36
  go_wp2_with fail
  refine (fault_any g d bs 0 _ HR.out).mono ?_
  rintro e w1 ⟨rfl, rfl⟩
  go_wp2_with fail
  refine (HL.out).mono ?_
  rintro e w1 ⟨rfl, rfl⟩
  go_wp2_with fail
  refine (HP.out).mono ?_
  rintro e w1 ⟨rfl, hr, ho⟩
  have HR1 := Lib.hid hr
  have HO := Lib.hid ho
  clear hr ho
  go_wp2_with fail
  refine (fault_any g d bs 4 _ HR1.out).mono ?_
  rintro e w2 ⟨rfl, rfl⟩
  go_wp2_with fail
  go_ret
  exact ⟨rfl, HR1.out, HO.out⟩
set_option maxHeartbeats 400000 in
theorem byte_fault (g d : Nat) (bs : List Nat) (f : Int) (w : World) (h : Rd w g d bs f) (hf : (f != 0) = true) :
    Calls Try.prog 30 #[.pointer (some ⟨g, 0, none⟩)] w fun e w' => e = .returned (.int .u8 0) ∧ w = w' := by
  have HR := Lib.hid h
  clear h
  go_enter Try.func30, Try.ntmps30
  go_wp2_with (go_at_call 49; refine (fault_any g d bs f _ HR.out).mono ?_; rintro e w' ⟨rfl, rfl⟩)
  go_ret
  exact ⟨rfl, rfl⟩
end Go.Proofs.Ytpdihgmgcamgkaa
