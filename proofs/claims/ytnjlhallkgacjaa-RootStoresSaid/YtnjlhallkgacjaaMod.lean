/- A disk as plain data: what each call makes of it. -/
namespace Go.Proofs.Ytnjlhallkgacjaa

/-- A disk: its sectors without what waits; the writes that wait; its fuse (-1: none); is it down; how much was done. -/
structure Dsk where
  out : List (List Nat)
  row : List (Nat × List Nat)
  fuse : Int
  down : Bool
  done : Nat

abbrev Wr := Nat × List Nat
def wr (l : List Wr) (k : Nat) : Wr := l.getD k (0, [])
/-- The sectors behind the first k of some writes. -/
def appN (l : List Wr) (L : List (List Nat)) : Nat → List (List Nat)
  | 0 => L
  | k + 1 => (appN l L k).set (wr l k).1 (wr l k).2
def appAll (l : List Wr) (L : List (List Nat)) : List (List Nat) := appN l L l.length
def Dsk.last (m : Dsk) : List (List Nat) := appAll m.row m.out
theorem appN_len (l : List Wr) (L : List (List Nat)) (k : Nat) : (appN l L k).length = L.length := by
  induction k with
  | zero => rfl
  | succ k ih => show ((appN l L k).set _ _).length = _; rw [List.length_set, ih]
theorem last_len (m : Dsk) : m.last.length = m.out.length := appN_len _ _ _
theorem wr_left (l r : List Wr) (k : Nat) (h : k < l.length) : wr (l ++ r) k = wr l k := by
  unfold wr; rw [List.getD_eq_getElem?_getD, List.getD_eq_getElem?_getD, List.getElem?_append_left h]
theorem wr_last (l : List Wr) (x : Wr) : wr (l ++ [x]) l.length = x := by
  unfold wr; rw [List.getD_eq_getElem?_getD, List.getElem?_append_right (Nat.le_refl _)]; simp
theorem appN_left (l r : List Wr) (L : List (List Nat)) (k : Nat) (h : k ≤ l.length) : appN (l ++ r) L k = appN l L k := by
  induction k with
  | zero => rfl
  | succ k ih => show ((appN (l ++ r) L k).set _ _) = (appN l L k).set _ _; rw [ih (by omega), wr_left _ _ _ (by omega)]
theorem appAll_snoc (l : List Wr) (x : Wr) (L : List (List Nat)) : appAll (l ++ [x]) L = (appAll l L).set x.1 x.2 := by
  unfold appAll
  rw [List.length_append]
  show (appN (l ++ [x]) L l.length).set _ _ = _
  rw [appN_left _ _ _ _ (Nat.le_refl _), wr_last]
theorem appAll_nil (L : List (List Nat)) : appAll [] L = L := rfl

/-- How much of it comes out, laid on what was there. -/
def tear (at_ : Nat) (new old : List Nat) : List Nat := new.take at_ ++ old.drop at_
def sec (L : List (List Nat)) (i : Nat) : List Nat := L.getD i []
theorem tear_len (a : Nat) (x y : List Nat) (hx : x.length = 128) (hy : y.length = 128) (ha : a ≤ 128) : (tear a x y).length = 128 := by
  unfold tear; rw [List.length_append, List.length_take, List.length_drop]; omega
theorem tear_all (x y : List Nat) (hx : x.length = 128) (hy : y.length = 128) : tear 128 x y = x := by
  unfold tear; rw [List.take_of_length_le (by omega), List.drop_of_length_le (by omega), List.append_nil]
theorem tear_dig (a : Nat) (x y : List Nat) (hx : ∀ d ∈ x, d < 256) (hy : ∀ d ∈ y, d < 256) : ∀ d ∈ tear a x y, d < 256 := fun d hd =>
  (List.mem_append.1 hd).elim (fun h => hx d (List.mem_of_mem_take h)) (fun h => hy d (List.mem_of_mem_drop h))

/-- How far of a write comes out at a failure: none: it doesn't. -/
def bits (keep : Nat → Bool) (torn : Int) (at_ : Nat) (k : Nat) : Option Nat := if (k : Int) = torn then some at_ else if keep k then some 128 else none
def bring (L : List (List Nat)) (x : Wr) : Option Nat → List (List Nat)
  | none => L
  | some a => L.set x.1 (tear a x.2 (sec L x.1))
/-- The sectors behind the first k writes of a failure. -/
def failN (l : List Wr) (L : List (List Nat)) (f : Nat → Option Nat) : Nat → List (List Nat)
  | 0 => L
  | k + 1 => bring (failN l L f k) (wr l k) (f k)
theorem bring_len (L : List (List Nat)) (x : Wr) (o : Option Nat) : (bring L x o).length = L.length := by
  cases o with
  | none => rfl
  | some a => show (L.set _ _).length = _; rw [List.length_set]
theorem failN_len (l : List Wr) (L : List (List Nat)) (f : Nat → Option Nat) (k : Nat) : (failN l L f k).length = L.length := by
  induction k with
  | zero => rfl
  | succ k ih => show (bring _ _ _).length = _; rw [bring_len, ih]

/-- A fuse that burns. -/
def burnt (m : Dsk) : Dsk := { m with down := true }
def burns (m : Dsk) : Dsk := { m with fuse := if m.fuse = -1 then -1 else m.fuse - 1, done := m.done + 1 }
def Dsk.has (m : Dsk) (i : Int) : Bool := decide (0 ≤ i) && decide (i < m.out.length)
/-- A write's answer, and what it leaves. -/
def putE (m : Dsk) (i : Int) (s : List Nat) : Int :=
  if m.down then 9 else if m.has i = false then 7 else if s.length ≠ 128 then 1 else if m.fuse = 0 then 9 else 0
def putM (m : Dsk) (i : Int) (s : List Nat) : Dsk :=
  if m.down then m else if m.has i = false then m else if s.length ≠ 128 then m else if m.fuse = 0 then burnt m else { burns m with row := m.row ++ [(i.toNat, s)] }
def barE (m : Dsk) : Int := if m.down then 9 else if m.fuse = 0 then 9 else 0
def barM (m : Dsk) : Dsk := if m.down then m else if m.fuse = 0 then burnt m else { burns m with out := m.last, row := [] }
def fuseM (m : Dsk) (n : Int) : Dsk := { m with fuse := max n (-1) }
def cut128 (n : Int) : Nat := (min (max n 0) 128).toNat
theorem cut128_le (n : Int) : cut128 n ≤ 128 := by unfold cut128; omega
def failM (m : Dsk) (keep : Nat → Bool) (torn n : Int) : Dsk :=
  { m with out := failN m.row m.out (bits keep torn (cut128 n)) m.row.length, row := [], fuse := -1, down := true }
def startM (m : Dsk) : Dsk := if m.down then { m with row := [], fuse := -1, down := false } else m
def readE (m : Dsk) (i : Int) : Int := if m.down then 9 else if m.has i = false then 7 else 0
def readS (m : Dsk) (i : Int) : List Nat := if m.down then [] else if m.has i = false then [] else sec m.last i.toNat
def outS (m : Dsk) (i : Int) : List Nat := if m.has i then sec m.out i.toNat else []
def newM (n : Nat) : Dsk := ⟨List.replicate n (List.replicate 128 0), [], -1, false, 0⟩

/-- A disk's sectors and writes are of 128 bytes; its fuse is one. -/
structure Ok (m : Dsk) : Prop where
  out : ∀ s ∈ m.out, s.length = 128 ∧ ∀ d ∈ s, d < 256
  row : ∀ x ∈ m.row, x.1 < m.out.length ∧ x.2.length = 128 ∧ ∀ d ∈ x.2, d < 256
  fuse0 : -1 ≤ m.fuse
  fuse1 : m.fuse ≤ 9223372036854775807
theorem has_true {m : Dsk} {i : Int} (h0 : 0 ≤ i) (h1 : i < m.out.length) : m.has i = true := by unfold Dsk.has; simp [h0, h1]
theorem has_low {m : Dsk} {i : Int} (h0 : i < 0) : m.has i = false := by unfold Dsk.has; simp; omega
theorem has_high {m : Dsk} {i : Int} (h0 : (m.out.length : Int) ≤ i) : m.has i = false := by unfold Dsk.has; simp; omega
theorem sec_mem {L : List (List Nat)} {i : Nat} (h : i < L.length) : sec L i ∈ L := by
  unfold sec; rw [List.getD_eq_getElem?_getD, List.getElem?_eq_getElem h]; exact List.getElem_mem h
theorem sec_set {L : List (List Nat)} {i : Nat} (s : List Nat) (h : i < L.length) (j : Nat) : sec (L.set i s) j = if i = j then s else sec L j := by
  unfold sec
  rw [List.getD_eq_getElem?_getD, List.getD_eq_getElem?_getD, List.getElem?_set]
  split
  · simp
  · rfl
theorem wr_mem {l : List Wr} {k : Nat} (h : k < l.length) : wr l k ∈ l := by
  unfold wr; rw [List.getD_eq_getElem?_getD, List.getElem?_eq_getElem h]; exact List.getElem_mem h
def Secs128 (L : List (List Nat)) : Prop := ∀ s ∈ L, s.length = 128 ∧ ∀ d ∈ s, d < 256
def Rows128 (n : Nat) (l : List Wr) : Prop := ∀ x ∈ l, x.1 < n ∧ x.2.length = 128 ∧ ∀ d ∈ x.2, d < 256
theorem Secs128.set {L : List (List Nat)} (h : Secs128 L) (i : Nat) {s : List Nat} (hs : s.length = 128 ∧ ∀ d ∈ s, d < 256) : Secs128 (L.set i s) := fun x hx =>
  (List.mem_or_eq_of_mem_set hx).elim (h x) (fun e => e ▸ hs)
theorem Secs128.appN {L : List (List Nat)} {l : List Wr} (h : Secs128 L) (hl : Rows128 L.length l) : ∀ k, k ≤ l.length → Secs128 (appN l L k)
  | 0, _ => h
  | k + 1, hk => (Secs128.appN h hl k (by omega)).set _ (hl _ (wr_mem (by omega))).2
theorem Secs128.bring {L : List (List Nat)} {x : Wr} (h : Secs128 L) (hx : x.1 < L.length ∧ x.2.length = 128 ∧ ∀ d ∈ x.2, d < 256) {o : Option Nat} (ho : ∀ a, o = some a → a ≤ 128) : Secs128 (bring L x o) := by
  cases o with
  | none => exact h
  | some a =>
    have h1 := h _ (sec_mem hx.1)
    exact h.set _ ⟨tear_len _ _ _ hx.2.1 h1.1 (ho a rfl), tear_dig _ _ _ hx.2.2 h1.2⟩
theorem bits_le {keep : Nat → Bool} {torn : Int} {a : Nat} (ha : a ≤ 128) (k : Nat) : ∀ b, bits keep torn a k = some b → b ≤ 128 := by
  intro b h
  unfold bits at h
  split at h
  · cases h; exact ha
  · split at h
    · cases h; omega
    · cases h
theorem Secs128.failN {L : List (List Nat)} {l : List Wr} (h : Secs128 L) (hl : Rows128 L.length l) {f : Nat → Option Nat} (hf : ∀ k b, f k = some b → b ≤ 128) : ∀ k, k ≤ l.length → Secs128 (failN l L f k)
  | 0, _ => h
  | k + 1, hk => (Secs128.failN h hl hf k (by omega)).bring (by rw [failN_len]; exact hl _ (wr_mem (by omega))) (hf k)
/-- Where all of each comes out, it is what a barrier brings. -/
theorem failN_all {L : List (List Nat)} {l : List Wr} (h : Secs128 L) (hl : Rows128 L.length l) {f : Nat → Option Nat} (hf : ∀ k, k < l.length → f k = some 128) : ∀ k, k ≤ l.length → Go.Proofs.Ytnjlhallkgacjaa.failN l L f k = Go.Proofs.Ytnjlhallkgacjaa.appN l L k
  | 0, _ => rfl
  | k + 1, hk => by
    show Go.Proofs.Ytnjlhallkgacjaa.bring (Go.Proofs.Ytnjlhallkgacjaa.failN l L f k) _ _ = (Go.Proofs.Ytnjlhallkgacjaa.appN l L k).set _ _
    have hx := hl _ (wr_mem (show k < l.length by omega))
    rw [failN_all h hl hf k (by omega), hf k (by omega)]
    show (Go.Proofs.Ytnjlhallkgacjaa.appN l L k).set _ (tear 128 _ _) = _
    rw [tear_all _ _ hx.2.1 (h.appN hl k (by omega) _ (sec_mem (by rw [appN_len]; exact hx.1))).1]
theorem Ok.last {m : Dsk} (h : Ok m) : Secs128 m.last := Secs128.appN h.out h.row _ (Nat.le_refl _)
theorem Ok.burnt {m : Dsk} (h : Ok m) : Ok (burnt m) := ⟨h.out, h.row, h.fuse0, h.fuse1⟩
theorem Ok.burns {m : Dsk} (h : Ok m) (_h0 : m.fuse ≠ 0) : Ok (burns m) := ⟨h.out, h.row, by
    have := h.fuse0
    show (-1 : Int) ≤ if m.fuse = -1 then -1 else m.fuse - 1
    split <;> omega, by
    have := h.fuse1
    show (if m.fuse = -1 then -1 else m.fuse - 1) ≤ (9223372036854775807 : Int)
    split <;> omega⟩
theorem Ok.put {m : Dsk} (h : Ok m) (i : Int) (s : List Nat) (hs : ∀ d ∈ s, d < 256) : Ok (putM m i s) := by
  unfold putM
  split
  · exact h
  · split
    · exact h
    · split
      · exact h
      · split
        · exact h.burnt
        · rename_i h1 h2 h3 h4
          have hb := h.burns h4
          have h5 : m.has i = true := by simpa using h2
          unfold Dsk.has at h5
          simp only [Bool.and_eq_true, decide_eq_true_eq] at h5
          refine ⟨h.out, fun x hx => ?_, hb.fuse0, hb.fuse1⟩
          rcases List.mem_append.1 hx with hx | hx
          · exact h.row x hx
          · obtain rfl := List.mem_singleton.1 hx
            exact ⟨show i.toNat < m.out.length by omega, by simpa using h3, hs⟩
theorem Ok.bar {m : Dsk} (h : Ok m) : Ok (barM m) := by
  unfold barM
  split
  · exact h
  · split
    · exact h.burnt
    · rename_i h1 h2
      have hb := h.burns h2
      exact ⟨h.last, fun x hx => (by cases hx), hb.fuse0, hb.fuse1⟩
theorem Ok.fuse {m : Dsk} (h : Ok m) {n : Int} (hn : n ≤ 9223372036854775807) : Ok (fuseM m n) := ⟨h.out, h.row, by show (-1 : Int) ≤ max n (-1); omega, by show max n (-1) ≤ (9223372036854775807 : Int); omega⟩
theorem Ok.fail {m : Dsk} (h : Ok m) (keep : Nat → Bool) (torn n : Int) : Ok (failM m keep torn n) :=
  ⟨Secs128.failN h.out h.row (fun k b hb => bits_le (cut128_le n) k b hb) _ (Nat.le_refl _), fun x hx => (by cases hx), by show (-1 : Int) ≤ -1; omega, by show (-1 : Int) ≤ _; omega⟩
theorem Ok.start {m : Dsk} (h : Ok m) : Ok (startM m) := by
  unfold startM
  split
  · exact ⟨h.out, fun x hx => (by cases hx), by show (-1 : Int) ≤ -1; omega, by show (-1 : Int) ≤ _; omega⟩
  · exact h
theorem Ok.new (n : Nat) : Ok (newM n) := ⟨fun s hs => by
  obtain rfl := (List.mem_replicate.1 hs).2
  exact ⟨by simp, fun d hd => by obtain rfl := (List.mem_replicate.1 hd).2; omega⟩, fun x hx => (by cases hx), by show (-1 : Int) ≤ -1; omega, by show (-1 : Int) ≤ _; omega⟩
end Go.Proofs.Ytnjlhallkgacjaa
