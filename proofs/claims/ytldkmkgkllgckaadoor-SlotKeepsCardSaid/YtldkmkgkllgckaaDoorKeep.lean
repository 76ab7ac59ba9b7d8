/- A record that is neither put nor dropped is kept. -/
import Derived.Test.YtldkmkgkllgckaaDoorParse2
import Derived.Test.YtldkmkgkllgckaaDoorMade
set_option linter.unusedSimpArgs false
namespace Go.Proofs.YtldkmkgkllgckaaDoor
open Go.RowKit

theorem addL_keep {l : List Sl} {i : Nat} {r : ByteArray} (h : slot l i = some r) (s : ByteArray) : slot (addL l s) i = some r := by
  unfold addL
  split
  · exact h
  · split
    · exact h
    · rw [withL_slot (bareI_le l)]
      split
      · rename_i e
        subst e
        rcases Nat.lt_or_ge (bareI l) l.length with h1 | h1
        · rw [bareI_lt h1] at h; cases h
        · rw [slot_ge h1] at h; cases h
      · exact h
theorem addL_new {l : List Sl} {r : ByteArray} (h : addE l r = 0) : slot (addL l r) (addN l r) = some r := by
  unfold addE at h
  unfold addL addN
  split
  · rename_i h1; rw [if_pos h1] at h; cases h
  · rename_i h1
    rw [if_neg h1] at h
    split
    · rename_i h2; rw [if_pos h2] at h; cases h
    · rw [withL_slot (bareI_le l), if_pos rfl]
theorem addE_is (l : List Sl) (r : ByteArray) : addE l r = 0 ∨ addE l r = 2 ∨ addE l r = 8 := by
  unfold addE
  split
  · exact .inr (.inl rfl)
  · split
    · exact .inr (.inr rfl)
    · exact .inl rfl
theorem putL_keep {l : List Sl} {i : Nat} {r : ByteArray} (h : slot l i = some r) (j : Int) (s : ByteArray) (hj : j ≠ (i : Int)) : slot (putL l j s) i = some r := by
  unfold putL
  split
  · exact h
  · rename_i hf
    obtain ⟨k, rfl, hk, _⟩ := fullI_lt (l := l) (i := j) (by simpa using hf)
    split
    · exact h
    · split
      · exact h
      · rw [slot_set (by simpa using hk), if_neg (by intro e; apply hj; rw [← e]; rfl)]; exact h
theorem dropL_keep {l : List Sl} {i : Nat} {r : ByteArray} (h : slot l i = some r) (j : Int) (hj : j ≠ (i : Int)) : slot (dropL l j) i = some r := by
  unfold dropL
  split
  · exact h
  · rename_i hf
    obtain ⟨k, rfl, hk, _⟩ := fullI_lt (l := l) (i := j) (by simpa using hf)
    rw [trim_slot, slot_set (by simpa using hk), if_neg (by intro e; apply hj; rw [← e]; rfl)]; exact h
theorem dropL_gone {l : List Sl} {i : Nat} {r : ByteArray} (h : slot l i = some r) : slot (dropL l (i : Int)) i = none := by
  have hl : i < l.length := by
    rcases Nat.lt_or_ge i l.length with h1 | h1
    · exact h1
    · rw [slot_ge h1] at h; cases h
  have hf : fullI l (i : Int) = true := by rw [fullI_nat, h]; rfl
  unfold dropL
  rw [if_neg (by rw [hf]; decide), trim_slot, slot_set (by simpa using hl), if_pos (by simp)]
theorem slot_in {l : List Sl} {i : Nat} {r : ByteArray} (h : slot l i = some r) : i < l.length := by
  rcases Nat.lt_or_ge i l.length with h1 | h1
  · exact h1
  · rw [slot_ge h1] at h; cases h

/-- Amid the law: the page, and the first record in its slot. -/
structure Kp (w wr : World) (g : Nat) (bs : List (Nat × Opv)) (i : Nat) (o : Opv) (l : List Sl) : Prop where
  pg : ∃ v, Pg0 wr g v l ∧ ∀ k ∈ foot g v, w.heap.size ≤ k
  below : Below w.heap.size w wr
  box : ∀ x ∈ bs, Sb wr x.1 x.2
  keep : slot l i = some (recS o)
section
variable {w wr w' : World} {g i : Nat} {bs : List (Nat × Opv)} {o : Opv} {l : List Sl}
theorem Kp.then (h : Kp w wr g bs i o l) (hb : Below wr.heap.size wr w') : Kp w w' g bs i o l := by
  obtain ⟨v, h1, h2⟩ := h.pg
  exact ⟨⟨v, h1.below hb, h2⟩, h.below.trans (hb.mono h.below.size), fun x hx => (h.box x hx).below hb, h.keep⟩
theorem Kp.went {l' : List Sl} {v : Value} (h : Kp w wr g bs i o l) (hP : Pg0 wr g v l) (hF : ∀ k ∈ foot g v, w.heap.size ≤ k) (hw : Went (foot g v) g l' wr w') (hk : slot l' i = some (recS o)) : Kp w w' g bs i o l' := by
  obtain ⟨F', ⟨v', hP', rfl⟩, hc⟩ := hw
  exact ⟨⟨v', hP', hc.high h.below.size hF⟩, hc.below h.below h.below.size hF, fun x hx => (h.box x hx).chg hc hP.typed, hk⟩
theorem Kp.push (h : Kp w wr g bs i o l) (X : Opv) : Kp w (wr.alloc (.cells #[.int .i64 X.kind, .int .i64 X.i, .int .i64 X.long, .int .u8 (X.fill : Int)] 35)) g ((wr.heap.size, X) :: bs) i o l := by
  have h2 := h.then ((Below.refl wr.heap.size wr).alloc (Nat.le_refl _) (.cells #[.int .i64 X.kind, .int .i64 X.i, .int .i64 X.long, .int .u8 (X.fill : Int)] 35))
  refine ⟨h2.pg, h2.below, fun x hx => ?_, h2.keep⟩
  rcases List.mem_cons.1 hx with rfl | hx
  · exact ⟨heap_alloc_new wr _⟩
  · exact h2.box x hx
theorem Kp.pop {x : Nat × Opv} (h : Kp w wr g (x :: bs) i o l) : Kp w wr g bs i o l := ⟨h.pg, h.below, fun y hy => h.box y (List.mem_cons_of_mem _ hy), h.keep⟩
theorem Kp.add (h : Kp w wr g bs i o l) (s : ByteArray) (hs : s.size ≤ 9223372036854775807) : Calls Tryd.prog 11 #[.pointer (some ⟨g, 0, none⟩), .string s] wr fun e w' => (∃ a b : Int, e = .returned (.tuple #[.int .i64 a, .int .i64 b])) ∧ ∃ l', Kp w w' g bs i o l' := by
  obtain ⟨v, h1, h2⟩ := h.pg
  exact (add_any h1 s hs).mono fun e w' ⟨he, hw⟩ => ⟨⟨_, _, he⟩, _, h.went h1 h2 hw (addL_keep h.keep s)⟩
theorem Kp.put (h : Kp w wr g bs i o l) (j : Int) (hj : j ≠ (i : Int)) (s : ByteArray) (hs : s.size ≤ 9223372036854775807) : Calls Tryd.prog 13 #[.pointer (some ⟨g, 0, none⟩), .int .i64 j, .string s] wr fun e w' => (∃ a : Int, e = .returned (.int .i64 a)) ∧ ∃ l', Kp w w' g bs i o l' := by
  obtain ⟨v, h1, h2⟩ := h.pg
  exact (put_any h1 j s hs).mono fun e w' ⟨he, hw⟩ => ⟨⟨_, he⟩, _, h.went h1 h2 hw (putL_keep h.keep j s hj)⟩
theorem Kp.drop (h : Kp w wr g bs i o l) (j : Int) (hj : j ≠ (i : Int)) : Calls Tryd.prog 14 #[.pointer (some ⟨g, 0, none⟩), .int .i64 j] wr fun e w' => (∃ a : Bool, e = .returned (.bool a)) ∧ ∃ l', Kp w w' g bs i o l' := by
  obtain ⟨v, h1, h2⟩ := h.pg
  exact (drop_any h1 j).mono fun e w' ⟨he, hw⟩ => ⟨⟨_, he⟩, _, h.went h1 h2 hw (dropL_keep h.keep j hj)⟩
theorem Kp.get (h : Kp w wr g bs i o l) : Calls Tryd.prog 15 #[.pointer (some ⟨g, 0, none⟩), .int .i64 (i : Int)] wr fun e w' => e = .returned (.tuple #[.string (recS o), .bool true]) ∧ Kp w w' g bs i o l := by
  obtain ⟨v, h1, h2⟩ := h.pg
  refine (get_any h1 (i : Int)).mono fun e w' ⟨he, hb⟩ => ⟨?_, h.then hb⟩
  rw [he, getS_nat, fullI_nat, h.keep]
  rfl
theorem Kp.bytes (h : Kp w wr g bs i o l) : Calls Tryd.prog 9 #[.pointer (some ⟨g, 0, none⟩)] wr fun e w' => e = .returned (.string (bytesS l)) ∧ Kp w w' g bs i o l := by
  obtain ⟨v, h1, h2⟩ := h.pg
  exact (bytes_any h1).mono fun e w' ⟨he, hb⟩ => ⟨he, h.then hb⟩
theorem Kp.len (h : Kp w wr g bs i o l) : Calls Tryd.prog 16 #[.pointer (some ⟨g, 0, none⟩)] wr fun e w' => e = .returned (.int .i64 (l.length : Int)) ∧ wr = w' := by
  obtain ⟨v, h1, h2⟩ := h.pg
  exact len_any h1
theorem Kp.drop1 (h : Kp w wr g bs i o l) : Calls Tryd.prog 14 #[.pointer (some ⟨g, 0, none⟩), .int .i64 (i : Int)] wr fun e w' => e = .returned (.bool true) ∧
    (Below w.heap.size w w' ∧ Calls Tryd.prog 14 #[.pointer (some ⟨g, 0, none⟩), .int .i64 (i : Int)] w' fun e w2 => e = .returned (.bool false) ∧ Below w.heap.size w w2) := by
  obtain ⟨v, h1, h2⟩ := h.pg
  refine (drop_any h1 (i : Int)).mono fun e w' ⟨he, hw⟩ => ?_
  rw [fullI_nat, h.keep] at he
  obtain ⟨F', ⟨v', hP', rfl⟩, hc⟩ := hw
  have hb := hc.below h.below h.below.size h2
  have hF := hc.high h.below.size h2
  refine ⟨he, hb, (drop_any hP' (i : Int)).mono fun e w2 ⟨he2, hw2⟩ => ?_⟩
  rw [fullI_nat, dropL_gone h.keep] at he2
  obtain ⟨F2, _, hc2⟩ := hw2
  exact ⟨he2, hc2.below hb hb.size hF⟩
/-- The page, and the one that was parsed of its bytes. -/
structure Kq (w wr : World) (g g2 : Nat) (bs : List (Nat × Opv)) (i : Nat) (o : Opv) (l : List Sl) : Prop where
  kp : Kp w wr g bs i o l
  q : ∃ v2, Pg0 wr g2 v2 l
theorem Kq.then {g2 : Nat} (h : Kq w wr g g2 bs i o l) (hb : Below wr.heap.size wr w') : Kq w w' g g2 bs i o l := ⟨h.kp.then hb, by obtain ⟨v2, h2⟩ := h.q; exact ⟨v2, h2.below hb⟩⟩
theorem Kp.parse (h : Kp w wr g bs i o l) : Calls Tryd.prog 6 #[.string (bytesS l)] wr fun e w' => ∃ g2, e = .returned (.tuple #[.pointer (some ⟨g2, 0, none⟩), .int .i64 0]) ∧ Kq w w' g g2 bs i o l := by
  obtain ⟨v, h1, h2⟩ := h.pg
  have hs := bytesS_size h1.ok
  have hp := parse_back h1.ok
  refine (parse_any (bytesS l) wr (by omega)).mono fun e w' ⟨p, he, hr⟩ => ?_
  have hE := parseE_ok hs hp
  rw [hE] at he
  obtain ⟨l2, g2, F, rfl, hp2, ⟨v2, hpg, _⟩, _⟩ := hr.ok hE
  rw [hp] at hp2
  cases hp2
  exact ⟨g2, he, h.then hr.below, v2, hpg⟩
section
variable {g2 : Nat}
theorem Kq.qlen (h : Kq w wr g g2 bs i o l) : Calls Tryd.prog 16 #[.pointer (some ⟨g2, 0, none⟩)] wr fun e w' => e = .returned (.int .i64 (l.length : Int)) ∧ wr = w' := by
  obtain ⟨v2, h2⟩ := h.q
  exact len_any h2
theorem Kq.qbytes (h : Kq w wr g g2 bs i o l) : Calls Tryd.prog 9 #[.pointer (some ⟨g2, 0, none⟩)] wr fun e w' => e = .returned (.string (bytesS l)) ∧ Kq w w' g g2 bs i o l := by
  obtain ⟨v2, h2⟩ := h.q
  exact (bytes_any h2).mono fun e w' ⟨he, hb⟩ => ⟨he, h.then hb⟩
theorem Kq.pbytes (h : Kq w wr g g2 bs i o l) : Calls Tryd.prog 9 #[.pointer (some ⟨g, 0, none⟩)] wr fun e w' => e = .returned (.string (bytesS l)) ∧ Kq w w' g g2 bs i o l := by
  obtain ⟨v, h1, _⟩ := h.kp.pg
  exact (bytes_any h1).mono fun e w' ⟨he, hb⟩ => ⟨he, h.then hb⟩
theorem Kq.qget (h : Kq w wr g g2 bs i o l) : Calls Tryd.prog 15 #[.pointer (some ⟨g2, 0, none⟩), .int .i64 (i : Int)] wr fun e w' => e = .returned (.tuple #[.string (recS o), .bool true]) ∧ Kq w w' g g2 bs i o l := by
  obtain ⟨v2, h2⟩ := h.q
  refine (get_any h2 (i : Int)).mono fun e w' ⟨he, hb⟩ => ⟨?_, h.then hb⟩
  rw [he, getS_nat, fullI_nat, h.kp.keep]
  rfl
end
end
end Go.Proofs.YtldkmkgkllgckaaDoor
