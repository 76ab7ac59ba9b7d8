/- What DiskTorn rests on: a failure with a torn write, without it, and with all of it. -/
import Derived.Test.YtdldjpgbifcljaaKeeps0
import Derived.Test.YtdldjpgbifcljaaCloneD
namespace Go.Proofs.Ytdldjpgbifcljaa
open Go.RowKit

/-- The law's list, without the torn write: its first i. -/
def keepW (K : Nat → Bool) (t k : Nat) : Bool := K k && !decide (k = t)
def partK (K : Nat → Bool) (t i k : Nat) : Bool := decide (k < i) && keepW K t k
/-- Does a later write of the same sector come out? -/
def latB (l : List Wr) (K : Nat → Bool) (t : Nat) : Nat → Bool
  | 0 => false
  | i + 1 => latB l K t i || (decide (t < i) && (decide ((wr l i).1 = (wr l t).1) && keepW K t i))
def opt (b : Bool) : Option Nat := if b then some 128 else none
theorem bring128 {L : List (List Nat)} {x : Wr} (hL : Secs128 L) (hx : x.1 < L.length ∧ x.2.length = 128 ∧ ∀ d ∈ x.2, d < 256) : bring L x (some 128) = L.set x.1 x.2 := by
  show L.set x.1 (tear 128 x.2 (sec L x.1)) = _
  rw [tear_all _ _ hx.2.1 (hL _ (sec_mem hx.1)).1]
theorem failN_congr {l : List Wr} {L : List (List Nat)} {f g : Nat → Option Nat} : ∀ k, (∀ i, i < k → f i = g i) → failN l L f k = failN l L g k
  | 0, _ => rfl
  | k + 1, h => by
    show bring (failN l L f k) (wr l k) (f k) = bring (failN l L g k) (wr l k) (g k)
    rw [failN_congr k (fun i hi => h i (by omega)), h k (by omega)]
/-- What comes out of the three failures. -/
theorem torn_model {m : Dsk} (hm : Ok m) (K : Nat → Bool) (t a : Nat) (ha : a ≤ 128) (bd bw ba : Nat → Option Nat) (ht : t < m.row.length) (hd : ∀ k, k < m.row.length → bd k = if k = t then some a else opt (K k)) (hw : ∀ k, k < m.row.length → bw k = opt (keepW K t k)) (hA : ∀ k, k < m.row.length → ba k = if k = t then some 128 else opt (K k)) :
    ∀ k, t < k → k ≤ m.row.length → ∀ j, j < m.out.length → sec (failN m.row m.out bd k) j = if j = (wr m.row t).1 ∧ latB m.row K t k = false then (sec (failN m.row m.out ba k) j).take a ++ (sec (failN m.row m.out bw k) j).drop a else sec (failN m.row m.out bw k) j
  | 0, h, _, _, _ => absurd h (Nat.not_lt_zero _)
  | k + 1, h, hk, j, hj => by
    have hx := hm.row _ (wr_mem (show k < m.row.length by omega))
    have le128 : ∀ (f : Nat → Option Nat), (∀ k, k < m.row.length → ∀ b, f k = some b → b ≤ 128) → Secs128 (failN m.row m.out f k) := fun f hf => by
      have e : failN m.row m.out f k = failN m.row m.out (fun i => if i < m.row.length then f i else none) k := failN_congr k (fun i hi => by rw [if_pos (by omega)])
      rw [e]
      exact Secs128.failN hm.out hm.row (fun i b hb => by
        by_cases h : i < m.row.length
        · rw [if_pos h] at hb; exact hf i h b hb
        · rw [if_neg h] at hb; cases hb) k (by omega)
    have ho : ∀ c b, opt c = some b → b ≤ 128 := fun c b h => by unfold opt at h; split at h <;> cases h; omega
    have sd := le128 bd (fun i hi b hb => by rw [hd i hi] at hb; split at hb; · cases hb; exact ha
                                             · exact ho _ _ hb)
    have sw := le128 bw (fun i hi b hb => by rw [hw i hi] at hb; exact ho _ _ hb)
    have sa := le128 ba (fun i hi b hb => by rw [hA i hi] at hb; split at hb; · cases hb; omega
                                             · exact ho _ _ hb)
    have ld := failN_len m.row m.out bd k
    have lw := failN_len m.row m.out bw k
    have la := failN_len m.row m.out ba k
    show sec (bring (failN m.row m.out bd k) (wr m.row k) (bd k)) j = if j = (wr m.row t).1 ∧ (latB m.row K t k || (decide (t < k) && (decide ((wr m.row k).1 = (wr m.row t).1) && keepW K t k))) = false then (sec (bring (failN m.row m.out ba k) (wr m.row k) (ba k)) j).take a ++ (sec (bring (failN m.row m.out bw k) (wr m.row k) (bw k)) j).drop a else sec (bring (failN m.row m.out bw k) (wr m.row k) (bw k)) j
    rcases Nat.lt_or_ge t k with htk | htk
    · have ih := torn_model hm K t a ha bd bw ba ht hd hw hA k htk (by omega) j hj
      have hne : k ≠ t := by omega
      have ed : bd k = opt (K k) := by rw [hd k (by omega), if_neg hne]
      have ew : bw k = opt (K k) := by rw [hw k (by omega)]; unfold keepW; simp [hne]
      have ea : ba k = opt (K k) := by rw [hA k (by omega), if_neg hne]
      have eK : keepW K t k = K k := by unfold keepW; simp [hne]
      rw [ed, ew, ea, eK]
      cases hK : K k with
      | false =>
        show sec (failN m.row m.out bd k) j = if j = _ ∧ (_ || (_ && (_ && false))) = false then (sec (failN m.row m.out ba k) j).take a ++ (sec (failN m.row m.out bw k) j).drop a else sec (failN m.row m.out bw k) j
        rw [ih]; simp
      | true =>
        show sec (bring (failN m.row m.out bd k) (wr m.row k) (some 128)) j = if j = _ ∧ (_ || (_ && (_ && true))) = false then (sec (bring (failN m.row m.out ba k) (wr m.row k) (some 128)) j).take a ++ (sec (bring (failN m.row m.out bw k) (wr m.row k) (some 128)) j).drop a else sec (bring (failN m.row m.out bw k) (wr m.row k) (some 128)) j
        rw [bring128 sd (by rw [ld]; exact hx), bring128 sw (by rw [lw]; exact hx), bring128 sa (by rw [la]; exact hx), sec_set _ (by rw [failN_len]; exact hx.1), sec_set _ (by rw [failN_len]; exact hx.1), sec_set _ (by rw [failN_len]; exact hx.1)]
        by_cases ej : (wr m.row k).1 = j
        · rw [if_pos ej, if_pos ej, if_pos ej, List.take_append_drop]
          split <;> rfl
        · rw [if_neg ej, if_neg ej, if_neg ej, ih]
          by_cases e2 : j = (wr m.row t).1
          · have : ¬ (wr m.row k).1 = (wr m.row t).1 := fun e => ej (e.trans e2.symm)
            simp [e2, this]
          · simp [e2]
    · obtain rfl : k = t := by omega
      have ed : bd k = some a := by rw [hd k ht, if_pos rfl]
      have ew : bw k = none := by rw [hw k ht]; unfold keepW opt; simp
      have ea : ba k = some 128 := by rw [hA k ht, if_pos rfl]
      have c1 : failN m.row m.out bd k = failN m.row m.out bw k := failN_congr k (fun i hi => by rw [hd i (by omega), hw i (by omega), if_neg (by omega)]; unfold keepW; simp [show i ≠ k by omega])
      have c2 : failN m.row m.out ba k = failN m.row m.out bw k := failN_congr k (fun i hi => by rw [hA i (by omega), hw i (by omega), if_neg (by omega)]; unfold keepW; simp [show i ≠ k by omega])
      have hlat : ∀ i, i ≤ k → latB m.row K k i = false := fun i => by
        induction i with
        | zero => intro _; rfl
        | succ i ih => intro hi; show (latB m.row K k i || (decide (k < i) && _)) = false; rw [ih (by omega), decide_eq_false (by omega)]; rfl
      rw [ed, ew, ea, c1, c2, hlat k (Nat.le_refl _), bring128 sw (by rw [lw]; exact hx), decide_eq_false (Nat.lt_irrefl k)]
      show sec ((failN m.row m.out bw k).set _ (tear a _ (sec (failN m.row m.out bw k) _))) j = if j = _ ∧ false = false then (sec ((failN m.row m.out bw k).set _ _) j).take a ++ (sec (failN m.row m.out bw k) j).drop a else sec (failN m.row m.out bw k) j
      rw [sec_set _ (by rw [lw]; exact hx.1), sec_set _ (by rw [lw]; exact hx.1)]
      by_cases ej : (wr m.row k).1 = j
      · subst ej
        rw [if_pos rfl, if_pos rfl, if_pos ⟨rfl, rfl⟩]; rfl
      · rw [if_neg ej, if_neg ej, if_neg (fun h => ej h.1.symm)]
end Go.Proofs.Ytdldjpgbifcljaa
