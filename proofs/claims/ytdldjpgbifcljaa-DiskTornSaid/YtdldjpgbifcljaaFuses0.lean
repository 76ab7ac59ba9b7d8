/- How far a fuse has burnt. -/
import Derived.Test.YtdldjpgbifcljaaMod
namespace Go.Proofs.Ytdldjpgbifcljaa

/-- A disk of two sectors behind i writes and barriers under a fuse of n, of which so many were done. -/
structure FR (m : Dsk) (n : Int) (done i : Nat) : Prop where
  out : m.out.length = 2
  dn : m.done = done
  low : n < 0 → m.fuse = -1 ∧ m.down = false
  high : 0 ≤ n → (done : Int) ≤ n ∧ m.fuse = n - done ∧ (m.down = true → (done : Int) = n)
  le : done ≤ i
  row : m.row.length ≤ i
def sec128 (s : List Nat) : Prop := s.length = 128
theorem FR.start (m : Dsk) (n : Int) (h : m.out.length = 2) (hr : m.row = []) (hd : m.down = false) (hn : m.done = 0) : FR (fuseM m n) n 0 0 :=
  ⟨h, hn, fun h => ⟨show max n (-1) = -1 by omega, hd⟩, fun h => ⟨by omega, show max n (-1) = n - 0 by omega, fun e => by rw [show (fuseM m n).down = m.down from rfl, hd] at e; cases e⟩, Nat.le_refl _, by show m.row.length ≤ 0; rw [hr]; exact Nat.le_refl _⟩
def Burnt (n : Int) (done : Nat) : Prop := 0 ≤ n ∧ n ≤ done
theorem FR.has {m : Dsk} {n : Int} {done i : Nat} (h : FR m n done i) (k : Int) (h0 : 0 ≤ k) (h1 : k < 2) : m.has k = true := has_true h0 (by rw [h.out]; omega)
theorem FR.up {m : Dsk} {n : Int} {done i : Nat} (h : FR m n done i) (hb : ¬ Burnt n done) : m.down = false ∧ m.fuse ≠ 0 := by
  unfold Burnt at hb
  by_cases hn : n < 0
  · have h1 := h.low hn; exact ⟨h1.2, by omega⟩
  · have h1 := h.high (by omega)
    refine ⟨?_, by omega⟩
    cases hd : m.down with
    | false => rfl
    | true => have := h1.2.2 hd; omega
theorem FR.burns {m : Dsk} {n : Int} {done i : Nat} (h : FR m n done i) (hb : ¬ Burnt n done) : FR (burns m) n (done + 1) (i + 1) := by
  have hu := h.up hb
  unfold Burnt at hb
  refine ⟨h.out, by show m.done + 1 = _; rw [h.dn], fun hn => ?_, fun hn => ?_, by have := h.le; omega, Nat.le_succ_of_le h.row⟩
  · have h1 := h.low hn
    exact ⟨by show (if m.fuse = -1 then (-1 : Int) else _) = -1; rw [if_pos h1.1], h1.2⟩
  · have h1 := h.high hn
    refine ⟨by omega, ?_, fun e => ?_⟩
    · show (if m.fuse = -1 then (-1 : Int) else m.fuse - 1) = _
      rw [if_neg (by omega)]; omega
    · rw [show (Go.Proofs.Ytdldjpgbifcljaa.burns m).down = m.down from rfl, hu.1] at e; cases e
theorem FR.put {m : Dsk} {n : Int} {done i : Nat} (h : FR m n done i) (hb : ¬ Burnt n done) (s : List Nat) (hs : s.length = 128) : putE m 1 s = 0 ∧ FR (putM m 1 s) n (done + 1) (i + 1) ∧ (putM m 1 s).down = false := by
  have hu := h.up hb
  have hh := h.has 1 (by omega) (by omega)
  have hbn := h.burns hb
  have e1 : ¬ m.down = true := by rw [hu.1]; simp
  have e2 : ¬ m.has 1 = false := by rw [hh]; simp
  have e3 : ¬ s.length ≠ 128 := by simp [hs]
  unfold putE putM
  rw [if_neg e1, if_neg e2, if_neg e3, if_neg hu.2, if_neg e1, if_neg e2, if_neg e3, if_neg hu.2]
  refine ⟨rfl, ⟨hbn.out, hbn.dn, hbn.low, hbn.high, hbn.le, ?_⟩, hu.1⟩
  show (m.row ++ [_]).length ≤ _
  rw [List.length_append]
  have := h.row
  show m.row.length + 1 ≤ _
  omega
theorem FR.bar {m : Dsk} {n : Int} {done i : Nat} (h : FR m n done i) (hb : ¬ Burnt n done) : barE m = 0 ∧ FR (barM m) n (done + 1) (i + 1) ∧ (barM m).down = false := by
  have hu := h.up hb
  have hbn := h.burns hb
  have e1 : ¬ m.down = true := by rw [hu.1]; simp
  unfold barE barM
  rw [if_neg e1, if_neg hu.2, if_neg e1, if_neg hu.2]
  exact ⟨rfl, ⟨(last_len m).trans h.out, hbn.dn, hbn.low, hbn.high, hbn.le, Nat.zero_le _⟩, hu.1⟩
theorem FR.burntM {m : Dsk} {n : Int} {done i : Nat} (h : FR m n done i) (hb : Burnt n done) : FR (burnt m) n done (i + 1) := by
  have h1 := h.high hb.1
  exact ⟨h.out, h.dn, fun hn => absurd hb.1 (by omega), fun hn => ⟨h1.1, h1.2.1, fun _ => by have := hb.2; omega⟩, Nat.le_succ_of_le h.le, Nat.le_succ_of_le h.row⟩
theorem FR.more {m : Dsk} {n : Int} {done i : Nat} (h : FR m n done i) : FR m n done (i + 1) := ⟨h.out, h.dn, h.low, h.high, Nat.le_succ_of_le h.le, Nat.le_succ_of_le h.row⟩
theorem FR.putB {m : Dsk} {n : Int} {done i : Nat} (h : FR m n done i) (hb : Burnt n done) (s : List Nat) (hs : s.length = 128) : putE m 1 s = 9 ∧ FR (putM m 1 s) n done (i + 1) ∧ (putM m 1 s).down = true := by
  have hh := h.has 1 (by omega) (by omega)
  have e2 : ¬ m.has 1 = false := by rw [hh]; simp
  have e3 : ¬ s.length ≠ 128 := by simp [hs]
  have hf : m.fuse = 0 := by have := h.high hb.1; have := hb.2; omega
  unfold putE putM
  by_cases hd : m.down = true
  · rw [if_pos hd, if_pos hd]
    exact ⟨rfl, h.more, hd⟩
  · rw [if_neg hd, if_neg e2, if_neg e3, if_pos hf, if_neg hd, if_neg e2, if_neg e3, if_pos hf]
    exact ⟨rfl, h.burntM hb, rfl⟩
theorem FR.barB {m : Dsk} {n : Int} {done i : Nat} (h : FR m n done i) (hb : Burnt n done) : barE m = 9 ∧ FR (barM m) n done (i + 1) ∧ (barM m).down = true := by
  have hf : m.fuse = 0 := by have := h.high hb.1; have := hb.2; omega
  unfold barE barM
  by_cases hd : m.down = true
  · rw [if_pos hd, if_pos hd]
    exact ⟨rfl, h.more, hd⟩
  · rw [if_neg hd, if_pos hf, if_neg hd, if_pos hf]
    exact ⟨rfl, h.burntM hb, rfl⟩
theorem FR.read {m : Dsk} {n : Int} {done i : Nat} (h : FR m n done i) (hd : m.down = false) : readE m 0 = 0 := by
  unfold readE
  rw [if_neg (by rw [hd]; simp), if_neg (by rw [h.has 0 (by omega) (by omega)]; simp)]
theorem FR.last {m : Dsk} {n : Int} {done i : Nat} (h : FR m n done i) (s : List Nat) (hs : s.length = 128) : putE (fuseM (startM m) (-1)) 0 s = 0 ∧ (fuseM (startM m) (-1)).done = done ∧ (fuseM (startM m) (-1)).row.length ≤ i := by
  have hd : (startM m).down = false := by
    unfold startM
    split
    · rfl
    · simp_all
  have ho : (startM m).out.length = 2 := by
    unfold startM
    split
    · exact h.out
    · exact h.out
  refine ⟨?_, ?_, ?_⟩
  · unfold putE
    rw [if_neg (by show ¬ (startM m).down = true; rw [hd]; simp), if_neg (by rw [has_true (by omega) (by show (0 : Int) < ((startM m).out.length : Int); omega)]; simp), if_neg (by simp [hs]), if_neg (by show ¬ max (-1 : Int) (-1) = 0; omega)]
  · show (startM m).done = done
    unfold startM
    split
    · exact h.dn
    · exact h.dn
  · show (startM m).row.length ≤ i
    unfold startM
    split
    · exact Nat.zero_le _
    · exact h.row
end Go.Proofs.Ytdldjpgbifcljaa
