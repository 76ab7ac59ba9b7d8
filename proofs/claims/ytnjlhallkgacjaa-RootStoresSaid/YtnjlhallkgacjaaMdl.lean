/- Roots, their blocks and what is told of two blocks, as plain data. -/
import Derived.Test.YtnjlhallkgacjaaCyc
import Derived.Test.YtnjlhallkgacjaaBig
namespace Go.Proofs.Ytnjlhallkgacjaa

structure Rt where
  ep : Int
  pg : Int
  dr : Int
  wd : Int
def Rt.none_ : Rt := ⟨0, 0, 0, 0⟩
def mayE (e : Int) : Bool := decide (1 ≤ e) && decide (e ≤ 4611686018427387904)
def may (r : Rt) : Bool :=
  mayE r.ep && decide (4 ≤ r.pg) && decide (r.pg ≤ 512) && decide (2 ≤ r.dr) && decide (r.dr < r.pg) && decide (0 ≤ r.wd) && decide (r.wd ≤ 2147483647)
structure Mays (r : Rt) : Prop where
  e0 : 1 ≤ r.ep
  e1 : r.ep ≤ 4611686018427387904
  p0 : 4 ≤ r.pg
  p1 : r.pg ≤ 512
  d0 : 2 ≤ r.dr
  d1 : r.dr < r.pg
  w0 : 0 ≤ r.wd
  w1 : r.wd ≤ 2147483647
theorem may_yes {r : Rt} (h : may r = true) : Mays r := by
  unfold may mayE at h
  simp only [Bool.and_eq_true, decide_eq_true_eq] at h
  exact ⟨h.1.1.1.1.1.1.1, h.1.1.1.1.1.1.2, h.1.1.1.1.1.2, h.1.1.1.1.2, h.1.1.1.2, h.1.1.2, h.1.2, h.2⟩
theorem Mays.may {r : Rt} (h : Mays r) : Go.Proofs.Ytnjlhallkgacjaa.may r = true := by
  unfold Go.Proofs.Ytnjlhallkgacjaa.may mayE
  simp only [Bool.and_eq_true, decide_eq_true_eq]
  exact ⟨⟨⟨⟨⟨⟨⟨h.e0, h.e1⟩, h.p0⟩, h.p1⟩, h.d0⟩, h.d1⟩, h.w0⟩, h.w1⟩
def place (e : Int) : Int := if mayE e = true then (if e % 2 = 1 then 4 else 0) else -1

def nameB : List Nat := [72, 73, 66, 82]
def body (r : Rt) : List Nat := be 8 r.ep.toNat ++ (nameB ++ (be 4 r.pg.toNat ++ (be 4 r.dr.toNat ++ (be 4 r.wd.toNat ++ List.replicate 92 0))))
def sealedB (r : Rt) : List Nat := body r ++ tailOf (more 0 (body r))
def block (r : Rt) : List Nat := sealedB r ++ be 8 r.ep.toNat
theorem body_len (r : Rt) : (body r).length = 116 := by unfold body nameB; simp [be_len]
theorem sealed_len (r : Rt) : (sealedB r).length = 120 := by unfold sealedB; rw [List.length_append, body_len, tail_len]
theorem block_len (r : Rt) : (block r).length = 128 := by unfold block; rw [List.length_append, sealed_len, be_len]
theorem dig_app {a b : List Nat} (ha : ∀ x ∈ a, x < 256) (hb : ∀ x ∈ b, x < 256) : ∀ x ∈ a ++ b, x < 256 := fun x hx => (List.mem_append.1 hx).elim (ha x) (hb x)
theorem dig_zeros (k : Nat) : ∀ x ∈ List.replicate k 0, x < 256 := fun x hx => by rw [(List.mem_replicate.1 hx).2]; omega
theorem body_dig (r : Rt) : ∀ x ∈ body r, x < 256 :=
  dig_app (be_dig _ _) (dig_app (by unfold nameB; decide) (dig_app (be_dig _ _) (dig_app (be_dig _ _) (dig_app (be_dig _ _) (dig_zeros 92)))))
theorem tail_dig (s : Nat) : ∀ x ∈ tailOf s, x < 256 := by intro x hx; simp [tailOf] at hx; omega
theorem sealed_dig (r : Rt) : ∀ x ∈ sealedB r, x < 256 := dig_app (body_dig r) (tail_dig _)
theorem block_dig (r : Rt) : ∀ x ∈ block r, x < 256 := dig_app (sealed_dig r) (be_dig _ _)
theorem take_app (a b : List Nat) {k : Nat} (h : a.length = k) : (a ++ b).take k = a := by
  rw [List.take_append_of_le_length (by omega), List.take_of_length_le (by omega)]
theorem drop_app (a b : List Nat) {k : Nat} (h : a.length = k) (j : Nat) : (a ++ b).drop (k + j) = b.drop j := by
  rw [← h, List.drop_append, List.drop_eq_nil_of_le (by omega), List.nil_append]
  congr 1; omega
theorem drop_app0 (a b : List Nat) {k : Nat} (h : a.length = k) : (a ++ b).drop k = b := by
  have := drop_app a b h 0
  simpa using this
theorem block_eq (r : Rt) : block r = be 8 r.ep.toNat ++ (nameB ++ (be 4 r.pg.toNat ++ (be 4 r.dr.toNat ++ (be 4 r.wd.toNat ++ (List.replicate 92 0 ++ (tailOf (more 0 (body r)) ++ be 8 r.ep.toNat)))))) := by
  unfold block sealedB
  conv => lhs; unfold body
  simp only [List.append_assoc]
  rfl
theorem block_first (r : Rt) : (block r).take 8 = be 8 r.ep.toNat := by rw [block_eq]; exact take_app _ _ (be_len _ _)
theorem block_last (r : Rt) : (block r).drop 120 = be 8 r.ep.toNat := by unfold block; exact drop_app0 _ _ (sealed_len r)
theorem block_sealed (r : Rt) : (block r).take 120 = sealedB r := by unfold block; exact take_app _ _ (sealed_len r)
theorem block_12 (r : Rt) : (block r).drop 12 = be 4 r.pg.toNat ++ (be 4 r.dr.toNat ++ (be 4 r.wd.toNat ++ (List.replicate 92 0 ++ (tailOf (more 0 (body r)) ++ be 8 r.ep.toNat)))) := by
  rw [block_eq, show 12 = 8 + 4 from rfl, drop_app _ _ (be_len _ _), drop_app0 nameB _ (k := 4) rfl]
theorem block_16 (r : Rt) : (block r).drop 16 = be 4 r.dr.toNat ++ (be 4 r.wd.toNat ++ (List.replicate 92 0 ++ (tailOf (more 0 (body r)) ++ be 8 r.ep.toNat))) := by
  rw [show 16 = 12 + 4 from rfl, ← List.drop_drop, block_12, drop_app0 _ _ (be_len _ _)]
theorem block_20 (r : Rt) : (block r).drop 20 = be 4 r.wd.toNat ++ (List.replicate 92 0 ++ (tailOf (more 0 (body r)) ++ be 8 r.ep.toNat)) := by
  rw [show 20 = 16 + 4 from rfl, ← List.drop_drop, block_16, drop_app0 _ _ (be_len _ _)]

/-- What the fields of a sector tell. -/
def told (s : List Nat) : Rt := ⟨(val (s.take 8) : Int), (val ((s.drop 12).take 4) : Int), (val ((s.drop 16).take 4) : Int), (val ((s.drop 20).take 4) : Int)⟩
theorem told_block {r : Rt} (h : Mays r) : told (block r) = r := by
  obtain ⟨h1, h2, h3, h4, h5, h6, h7, h8⟩ := h
  unfold told
  rw [block_first, block_12, block_16, block_20, take_app _ _ (be_len _ _), take_app _ _ (be_len _ _), take_app _ _ (be_len _ _),
    val_be 8 _ (by omega), val_be 4 _ (by omega), val_be 4 _ (by omega), val_be 4 _ (by omega)]
  cases r
  simp only [Rt.mk.injEq] at *
  omega
def zs128 : List Nat := List.replicate 128 0
def decE (s : List Nat) : Int :=
  if s.length ≠ 128 then 1 else if s = zs128 then 5 else if s.take 8 ≠ s.drop 120 then 4 else if may (told s) = false then 13 else if block (told s) ≠ s then 13 else 0
def decR (s : List Nat) : Rt := if decE s = 0 then told s else Rt.none_
theorem decE_cases (s : List Nat) : decE s = 0 ∨ decE s = 1 ∨ decE s = 4 ∨ decE s = 5 ∨ decE s = 13 := by
  unfold decE
  split
  · simp
  · split
    · simp
    · split
      · simp
      · split
        · simp
        · split
          · simp
          · simp
theorem be8_ne {e : Int} (h1 : 1 ≤ e) (h2 : e ≤ 4611686018427387904) : be 8 e.toNat ≠ List.replicate 8 0 := by
  intro h
  rw [← be_zero] at h
  have := be_inj (k := 8) (by omega) (by omega) h
  omega
theorem block_ne {r : Rt} (h : Mays r) : block r ≠ zs128 := by
  intro he
  have h1 := congrArg (List.take 8) he
  rw [block_first] at h1
  exact be8_ne h.e0 h.e1 h1
theorem decE_block {r : Rt} (h : Mays r) : decE (block r) = 0 := by
  unfold decE
  rw [if_neg (by rw [block_len]; simp), if_neg (block_ne h), if_neg (by rw [block_first, block_last]; simp), told_block h, if_neg (by rw [h.may]; simp), if_neg (by simp)]
theorem decR_block {r : Rt} (h : Mays r) : decR (block r) = r := by unfold decR; rw [if_pos (decE_block h), told_block h]
theorem dec_ok {s : List Nat} (h : decE s = 0) : Mays (told s) ∧ block (told s) = s ∧ decR s = told s ∧ s.length = 128 := by
  refine ⟨?_, ?_, by unfold decR; rw [if_pos h], ?_⟩
  all_goals
    unfold decE at h
    split at h
    · cases h
    · split at h
      · cases h
      · split at h
        · cases h
        · split at h
          · cases h
          · rename_i h4
            split at h
            · cases h
            · rename_i h1 _ _ h5
              first
                | exact may_yes (by simpa using h4)
                | exact Classical.not_not.1 h5
                | exact Classical.not_not.1 h1
theorem decR_no {s : List Nat} (h : decE s ≠ 0) : decR s = Rt.none_ := by unfold decR; rw [if_neg h]
/-- Fields that were read otherwise, where they tell no root. -/
theorem dec_other {s : List Nat} {r : Rt} (h1 : s.length = 128) (h2 : s ≠ zs128) (h3 : s.take 8 = s.drop 120) (hr : r = told s ∨ (may r = false ∧ may (told s) = false)) :
    (may r = false → decE s = 13) ∧ (may r = true → block r ≠ s → decE s = 13) ∧ (may r = true → block r = s → decE s = 0 ∧ decR s = r) := by
  have hE : decE s = if may (told s) = false then 13 else if block (told s) ≠ s then 13 else 0 := by
    conv => lhs; unfold decE
    rw [if_neg (by simp [h1]), if_neg h2, if_neg (by simp [h3])]
  rcases hr with rfl | ⟨ha, hb⟩
  · refine ⟨fun h => by rw [hE, if_pos h], fun h hb => by rw [hE, if_neg (by simp [h]), if_pos hb], fun h hb => ?_⟩
    have : decE s = 0 := by rw [hE, if_neg (by simp [h]), if_neg (by simp [hb])]
    exact ⟨this, by unfold decR; rw [if_pos this]⟩
  · exact ⟨fun _ => by rw [hE, if_pos hb], fun h _ => (by rw [ha] at h; cases h), fun h _ => (by rw [ha] at h; cases h)⟩
/-- A block at a place. -/
def plE (s : List Nat) (k : Int) : Int := if decE s = 0 ∧ place (decR s).ep ≠ k then 13 else decE s
def plR (s : List Nat) (k : Int) : Rt := if decE s = 0 ∧ place (decR s).ep ≠ k then Rt.none_ else decR s
theorem pl_ok {s : List Nat} {k : Int} (h : plE s k = 0) : decE s = 0 ∧ place (decR s).ep = k ∧ plR s k = decR s ∧ Mays (plR s k) := by
  unfold plE at h
  split at h
  · cases h
  · rename_i h1
    have h2 : place (decR s).ep = k := Classical.byContradiction fun e => h1 ⟨h, e⟩
    have h3 : plR s k = decR s := by unfold plR; rw [if_neg h1]
    refine ⟨h, h2, h3, ?_⟩
    rw [h3, (dec_ok h).2.2.1]
    exact (dec_ok h).1
theorem pl_no {s : List Nat} {k : Int} (h : plE s k ≠ 0) : plR s k = Rt.none_ := by
  unfold plE at h
  unfold plR
  split
  · rfl
  · rename_i h1
    rw [if_neg h1] at h
    exact decR_no h
theorem place_mays {r : Rt} (h : Mays r) : place r.ep = if r.ep % 2 = 1 then 4 else 0 := by
  unfold place; rw [if_pos]; unfold mayE; simp [h.e0, h.e1]
theorem pl_even {s : List Nat} (h : plE s 0 = 0) : (plR s 0).ep % 2 = 0 := by
  obtain ⟨h1, h2, h3, h4⟩ := pl_ok h
  rw [← h3, place_mays h4] at h2
  split at h2
  · cases h2
  · omega
theorem pl_odd {s : List Nat} (h : plE s 4 = 0) : (plR s 4).ep % 2 = 1 := by
  obtain ⟨h1, h2, h3, h4⟩ := pl_ok h
  rw [← h3, place_mays h4] at h2
  split at h2
  · assumption
  · cases h2
theorem plE_cases (s : List Nat) (k : Int) : plE s k = 0 ∨ plE s k = 1 ∨ plE s k = 4 ∨ plE s k = 5 ∨ plE s k = 13 := by
  unfold plE
  split
  · simp
  · exact decE_cases s
theorem plE_one (s : List Nat) (k : Int) : plE s k = 1 ↔ s.length ≠ 128 := by
  have hd : decE s = 1 ↔ s.length ≠ 128 := by
    constructor
    · intro h hl
      unfold decE at h
      rw [if_neg (by simp [hl])] at h
      split at h
      · cases h
      · split at h
        · cases h
        · split at h
          · cases h
          · split at h
            · cases h
            · cases h
    · intro h; unfold decE; rw [if_pos h]
  unfold plE
  split
  · rename_i h
    constructor
    · intro h2; cases h2
    · intro h2; rw [hd.2 h2] at h; cases h.1
  · exact hd
def withE (e f : Int) : Int := if (e = 5 ∧ f = 5) ∨ (e = 5 ∧ f = 4) ∨ (e = 4 ∧ f = 5) then 5 else 13
def nwE (a b : List Nat) : Int := if plE a 0 = 1 ∨ plE b 4 = 1 then 1 else if plE a 0 = 0 ∨ plE b 4 = 0 then 0 else withE (plE a 0) (plE b 4)
/-- Does the block at the first place tell the root that counts? -/
def first_ (a b : List Nat) : Prop := plE a 0 = 0 ∧ (plE b 4 ≠ 0 ∨ (plR b 4).ep < (plR a 0).ep)
instance (a b : List Nat) : Decidable (first_ a b) := by unfold first_; infer_instance
def pre (x y : Rt) : Rt := if y.ep = x.ep - 1 then y else Rt.none_
def nwA (a b : List Nat) : Rt := if nwE a b = 0 then (if first_ a b then plR a 0 else plR b 4) else Rt.none_
def nwB (a b : List Nat) : Rt := if nwE a b = 0 then (if first_ a b then pre (plR a 0) (plR b 4) else pre (plR b 4) (plR a 0)) else Rt.none_
end Go.Proofs.Ytnjlhallkgacjaa
