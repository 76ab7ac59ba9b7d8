/- Texts Mdl to Enc0 of this seat, laid into one. -/
import Derived.Lib.Strings
import Derived.Deep.QuietTactic
import Derived.BigQuiet
import Derived.Laws.Rows
import Derived.Test.YthcnofdihigohaaGreatProg
import Derived.WalkKit
import Derived.WalkSpells
import Derived.WalkLawsBesides
import Derived.Laws.BitsAllLaws
import Derived.Lib.Hide
import Derived.Outline
import Derived.Laws.OwnMore
import Derived.Laws.CopyOwn
import Derived.OwnWalk
import Derived.Laws.CopyRow
import Derived.Test.YthcnofdihigohaaGreatM00
import Derived.Test.YthcnofdihigohaaGreatM01
import Derived.Test.YthcnofdihigohaaGreatM02
section
/- Roots, their blocks and what is told of two blocks, as plain data. -/
namespace Go.Proofs.YthcnofdihigohaaGreat

structure Rt where
  ep : Int
  pg : Int
  dr : Int
  wd : Int
def Rt.none_ : Rt := ⟨0, 0, 0, 0⟩
def mayE (e : Int) : Bool := decide (1 ≤ e) && decide (e ≤ 4611686018427387904)
def may (r : Rt) : Bool :=
  mayE r.ep && decide (4 ≤ r.pg) && decide (r.pg ≤ 512) && decide (2 ≤ r.dr) && decide (r.dr < r.pg) && decide (0 ≤ r.wd) && decide (r.wd ≤ 2147483647)
structure Mays (r : Rt) : Prop where
  e0 : 1 ≤ r.ep
  e1 : r.ep ≤ 4611686018427387904
  p0 : 4 ≤ r.pg
  p1 : r.pg ≤ 512
  d0 : 2 ≤ r.dr
  d1 : r.dr < r.pg
  w0 : 0 ≤ r.wd
  w1 : r.wd ≤ 2147483647
theorem may_yes {r : Rt} (h : may r = true) : Mays r := by
  unfold may mayE at h
  simp only [Bool.and_eq_true, decide_eq_true_eq] at h
  exact ⟨h.1.1.1.1.1.1.1, h.1.1.1.1.1.1.2, h.1.1.1.1.1.2, h.1.1.1.1.2, h.1.1.1.2, h.1.1.2, h.1.2, h.2⟩
theorem Mays.may {r : Rt} (h : Mays r) : Go.Proofs.YthcnofdihigohaaGreat.may r = true := by
  unfold Go.Proofs.YthcnofdihigohaaGreat.may mayE
  simp only [Bool.and_eq_true, decide_eq_true_eq]
  exact ⟨⟨⟨⟨⟨⟨⟨h.e0, h.e1⟩, h.p0⟩, h.p1⟩, h.d0⟩, h.d1⟩, h.w0⟩, h.w1⟩
def place (e : Int) : Int := if mayE e = true then (if e % 2 = 1 then 4 else 0) else -1

def nameB : List Nat := [72, 73, 66, 82]
def body (r : Rt) : List Nat := be 8 r.ep.toNat ++ (nameB ++ (be 4 r.pg.toNat ++ (be 4 r.dr.toNat ++ (be 4 r.wd.toNat ++ List.replicate 92 0))))
def sealedB (r : Rt) : List Nat := body r ++ tailOf (more 0 (body r))
def block (r : Rt) : List Nat := sealedB r ++ be 8 r.ep.toNat
theorem body_len (r : Rt) : (body r).length = 116 := by unfold body nameB; simp [be_len]
theorem sealed_len (r : Rt) : (sealedB r).length = 120 := by unfold sealedB; rw [List.length_append, body_len, tail_len]
theorem block_len (r : Rt) : (block r).length = 128 := by unfold block; rw [List.length_append, sealed_len, be_len]
theorem dig_app {a b : List Nat} (ha : ∀ x ∈ a, x < 256) (hb : ∀ x ∈ b, x < 256) : ∀ x ∈ a ++ b, x < 256 := fun x hx => (List.mem_append.1 hx).elim (ha x) (hb x)
theorem dig_zeros (k : Nat) : ∀ x ∈ List.replicate k 0, x < 256 := fun x hx => by rw [(List.mem_replicate.1 hx).2]; omega
theorem body_dig (r : Rt) : ∀ x ∈ body r, x < 256 :=
  dig_app (be_dig _ _) (dig_app (by unfold nameB; decide) (dig_app (be_dig _ _) (dig_app (be_dig _ _) (dig_app (be_dig _ _) (dig_zeros 92)))))
theorem tail_dig (s : Nat) : ∀ x ∈ tailOf s, x < 256 := by intro x hx; simp [tailOf] at hx; omega
theorem sealed_dig (r : Rt) : ∀ x ∈ sealedB r, x < 256 := dig_app (body_dig r) (tail_dig _)
theorem block_dig (r : Rt) : ∀ x ∈ block r, x < 256 := dig_app (sealed_dig r) (be_dig _ _)
theorem take_app (a b : List Nat) {k : Nat} (h : a.length = k) : (a ++ b).take k = a := by
  rw [List.take_append_of_le_length (by omega), List.take_of_length_le (by omega)]
theorem drop_app (a b : List Nat) {k : Nat} (h : a.length = k) (j : Nat) : (a ++ b).drop (k + j) = b.drop j := by
  rw [← h, List.drop_append, List.drop_eq_nil_of_le (by omega), List.nil_append]
  congr 1; omega
theorem drop_app0 (a b : List Nat) {k : Nat} (h : a.length = k) : (a ++ b).drop k = b := by
  have := drop_app a b h 0
  simpa using this
theorem block_eq (r : Rt) : block r = be 8 r.ep.toNat ++ (nameB ++ (be 4 r.pg.toNat ++ (be 4 r.dr.toNat ++ (be 4 r.wd.toNat ++ (List.replicate 92 0 ++ (tailOf (more 0 (body r)) ++ be 8 r.ep.toNat)))))) := by
  unfold block sealedB
  conv => lhs; unfold body
  simp only [List.append_assoc]
  rfl
theorem block_first (r : Rt) : (block r).take 8 = be 8 r.ep.toNat := by rw [block_eq]; exact take_app _ _ (be_len _ _)
theorem block_last (r : Rt) : (block r).drop 120 = be 8 r.ep.toNat := by unfold block; exact drop_app0 _ _ (sealed_len r)
theorem block_sealed (r : Rt) : (block r).take 120 = sealedB r := by unfold block; exact take_app _ _ (sealed_len r)
theorem block_12 (r : Rt) : (block r).drop 12 = be 4 r.pg.toNat ++ (be 4 r.dr.toNat ++ (be 4 r.wd.toNat ++ (List.replicate 92 0 ++ (tailOf (more 0 (body r)) ++ be 8 r.ep.toNat)))) := by
  rw [block_eq, show 12 = 8 + 4 from rfl, drop_app _ _ (be_len _ _), drop_app0 nameB _ (k := 4) rfl]
theorem block_16 (r : Rt) : (block r).drop 16 = be 4 r.dr.toNat ++ (be 4 r.wd.toNat ++ (List.replicate 92 0 ++ (tailOf (more 0 (body r)) ++ be 8 r.ep.toNat))) := by
  rw [show 16 = 12 + 4 from rfl, ← List.drop_drop, block_12, drop_app0 _ _ (be_len _ _)]
theorem block_20 (r : Rt) : (block r).drop 20 = be 4 r.wd.toNat ++ (List.replicate 92 0 ++ (tailOf (more 0 (body r)) ++ be 8 r.ep.toNat)) := by
  rw [show 20 = 16 + 4 from rfl, ← List.drop_drop, block_16, drop_app0 _ _ (be_len _ _)]

/-- What the fields of a sector tell. -/
def told (s : List Nat) : Rt := ⟨(val (s.take 8) : Int), (val ((s.drop 12).take 4) : Int), (val ((s.drop 16).take 4) : Int), (val ((s.drop 20).take 4) : Int)⟩
theorem told_block {r : Rt} (h : Mays r) : told (block r) = r := by
  obtain ⟨h1, h2, h3, h4, h5, h6, h7, h8⟩ := h
  unfold told
  rw [block_first, block_12, block_16, block_20, take_app _ _ (be_len _ _), take_app _ _ (be_len _ _), take_app _ _ (be_len _ _),
    val_be 8 _ (by omega), val_be 4 _ (by omega), val_be 4 _ (by omega), val_be 4 _ (by omega)]
  cases r
  simp only [Rt.mk.injEq] at *
  omega
def zs128 : List Nat := List.replicate 128 0
def decE (s : List Nat) : Int :=
  if s.length ≠ 128 then 1 else if s = zs128 then 5 else if s.take 8 ≠ s.drop 120 then 4 else if may (told s) = false then 13 else if block (told s) ≠ s then 13 else 0
def decR (s : List Nat) : Rt := if decE s = 0 then told s else Rt.none_
theorem decE_cases (s : List Nat) : decE s = 0 ∨ decE s = 1 ∨ decE s = 4 ∨ decE s = 5 ∨ decE s = 13 := by
  unfold decE
  split
  · simp
  · split
    · simp
    · split
      · simp
      · split
        · simp
        · split
          · simp
          · simp
theorem be8_ne {e : Int} (h1 : 1 ≤ e) (h2 : e ≤ 4611686018427387904) : be 8 e.toNat ≠ List.replicate 8 0 := by
  intro h
  rw [← be_zero] at h
  have := be_inj (k := 8) (by omega) (by omega) h
  omega
theorem block_ne {r : Rt} (h : Mays r) : block r ≠ zs128 := by
  intro he
  have h1 := congrArg (List.take 8) he
  rw [block_first] at h1
  exact be8_ne h.e0 h.e1 h1
theorem decE_block {r : Rt} (h : Mays r) : decE (block r) = 0 := by
  unfold decE
  rw [if_neg (by rw [block_len]; simp), if_neg (block_ne h), if_neg (by rw [block_first, block_last]; simp), told_block h, if_neg (by rw [h.may]; simp), if_neg (by simp)]
theorem decR_block {r : Rt} (h : Mays r) : decR (block r) = r := by unfold decR; rw [if_pos (decE_block h), told_block h]
theorem dec_ok {s : List Nat} (h : decE s = 0) : Mays (told s) ∧ block (told s) = s ∧ decR s = told s ∧ s.length = 128 := by
  refine ⟨?_, ?_, by unfold decR; rw [if_pos h], ?_⟩
  all_goals
    unfold decE at h
    split at h
    · cases h
    · split at h
      · cases h
      · split at h
        · cases h
        · split at h
          · cases h
          · rename_i h4
            split at h
            · cases h
            · rename_i h1 _ _ h5
              first
                | exact may_yes (by simpa using h4)
                | exact Classical.not_not.1 h5
                | exact Classical.not_not.1 h1
theorem decR_no {s : List Nat} (h : decE s ≠ 0) : decR s = Rt.none_ := by unfold decR; rw [if_neg h]
/-- Fields that were read otherwise, where they tell no root. -/
theorem dec_other {s : List Nat} {r : Rt} (h1 : s.length = 128) (h2 : s ≠ zs128) (h3 : s.take 8 = s.drop 120) (hr : r = told s ∨ (may r = false ∧ may (told s) = false)) :
    (may r = false → decE s = 13) ∧ (may r = true → block r ≠ s → decE s = 13) ∧ (may r = true → block r = s → decE s = 0 ∧ decR s = r) := by
  have hE : decE s = if may (told s) = false then 13 else if block (told s) ≠ s then 13 else 0 := by
    conv => lhs; unfold decE
    rw [if_neg (by simp [h1]), if_neg h2, if_neg (by simp [h3])]
  rcases hr with rfl | ⟨ha, hb⟩
  · refine ⟨fun h => by rw [hE, if_pos h], fun h hb => by rw [hE, if_neg (by simp [h]), if_pos hb], fun h hb => ?_⟩
    have : decE s = 0 := by rw [hE, if_neg (by simp [h]), if_neg (by simp [hb])]
    exact ⟨this, by unfold decR; rw [if_pos this]⟩
  · exact ⟨fun _ => by rw [hE, if_pos hb], fun h _ => (by rw [ha] at h; cases h), fun h _ => (by rw [ha] at h; cases h)⟩
/-- A block at a place. -/
def plE (s : List Nat) (k : Int) : Int := if decE s = 0 ∧ place (decR s).ep ≠ k then 13 else decE s
def plR (s : List Nat) (k : Int) : Rt := if decE s = 0 ∧ place (decR s).ep ≠ k then Rt.none_ else decR s
theorem pl_ok {s : List Nat} {k : Int} (h : plE s k = 0) : decE s = 0 ∧ place (decR s).ep = k ∧ plR s k = decR s ∧ Mays (plR s k) := by
  unfold plE at h
  split at h
  · cases h
  · rename_i h1
    have h2 : place (decR s).ep = k := Classical.byContradiction fun e => h1 ⟨h, e⟩
    have h3 : plR s k = decR s := by unfold plR; rw [if_neg h1]
    refine ⟨h, h2, h3, ?_⟩
    rw [h3, (dec_ok h).2.2.1]
    exact (dec_ok h).1
theorem pl_no {s : List Nat} {k : Int} (h : plE s k ≠ 0) : plR s k = Rt.none_ := by
  unfold plE at h
  unfold plR
  split
  · rfl
  · rename_i h1
    rw [if_neg h1] at h
    exact decR_no h
theorem place_mays {r : Rt} (h : Mays r) : place r.ep = if r.ep % 2 = 1 then 4 else 0 := by
  unfold place; rw [if_pos]; unfold mayE; simp [h.e0, h.e1]
theorem pl_even {s : List Nat} (h : plE s 0 = 0) : (plR s 0).ep % 2 = 0 := by
  obtain ⟨h1, h2, h3, h4⟩ := pl_ok h
  rw [← h3, place_mays h4] at h2
  split at h2
  · cases h2
  · omega
theorem pl_odd {s : List Nat} (h : plE s 4 = 0) : (plR s 4).ep % 2 = 1 := by
  obtain ⟨h1, h2, h3, h4⟩ := pl_ok h
  rw [← h3, place_mays h4] at h2
  split at h2
  · assumption
  · cases h2
theorem plE_cases (s : List Nat) (k : Int) : plE s k = 0 ∨ plE s k = 1 ∨ plE s k = 4 ∨ plE s k = 5 ∨ plE s k = 13 := by
  unfold plE
  split
  · simp
  · exact decE_cases s
theorem plE_one (s : List Nat) (k : Int) : plE s k = 1 ↔ s.length ≠ 128 := by
  have hd : decE s = 1 ↔ s.length ≠ 128 := by
    constructor
    · intro h hl
      unfold decE at h
      rw [if_neg (by simp [hl])] at h
      split at h
      · cases h
      · split at h
        · cases h
        · split at h
          · cases h
          · split at h
            · cases h
            · cases h
    · intro h; unfold decE; rw [if_pos h]
  unfold plE
  split
  · rename_i h
    constructor
    · intro h2; cases h2
    · intro h2; rw [hd.2 h2] at h; cases h.1
  · exact hd
def withE (e f : Int) : Int := if (e = 5 ∧ f = 5) ∨ (e = 5 ∧ f = 4) ∨ (e = 4 ∧ f = 5) then 5 else 13
def nwE (a b : List Nat) : Int := if plE a 0 = 1 ∨ plE b 4 = 1 then 1 else if plE a 0 = 0 ∨ plE b 4 = 0 then 0 else withE (plE a 0) (plE b 4)
/-- Does the block at the first place tell the root that counts? -/
def first_ (a b : List Nat) : Prop := plE a 0 = 0 ∧ (plE b 4 ≠ 0 ∨ (plR b 4).ep < (plR a 0).ep)
instance (a b : List Nat) : Decidable (first_ a b) := by unfold first_; infer_instance
def pre (x y : Rt) : Rt := if y.ep = x.ep - 1 then y else Rt.none_
def nwA (a b : List Nat) : Rt := if nwE a b = 0 then (if first_ a b then plR a 0 else plR b 4) else Rt.none_
def nwB (a b : List Nat) : Rt := if nwE a b = 0 then (if first_ a b then pre (plR a 0) (plR b 4) else pre (plR b 4) (plR a 0)) else Rt.none_
end Go.Proofs.YthcnofdihigohaaGreat
end
section
/- A string that reads as these bytes. -/
namespace Go.Proofs.YthcnofdihigohaaGreat
open Go.RowKit

theorem strB_list (s : List Nat) : (strB s).data.toList = s.map fun x => UInt8.ofNat x := by
  unfold strB
  rw [strOfNums_data, List.map_map]
  apply List.map_congr_left
  intro x _
  simp
/-- S is the string of these bytes. -/
structure IsS (S : ByteArray) (s : List Nat) : Prop where
  eq : S = strB s
  dig : ∀ x ∈ s, x < 256
theorem list_eq {S T : ByteArray} (h : S.data.toList = T.data.toList) : S = T := by
  apply ByteArray.ext
  exact Array.ext' h
theorem IsS.list {S : ByteArray} {s : List Nat} (h : IsS S s) : S.data.toList = s.map fun x => UInt8.ofNat x := by rw [h.eq, strB_list]
theorem IsS.of_list {S : ByteArray} {s : List Nat} (h : S.data.toList = s.map fun x => UInt8.ofNat x) (hd : ∀ x ∈ s, x < 256) : IsS S s := ⟨list_eq (by rw [h, strB_list]), hd⟩
theorem IsS.size {S : ByteArray} {s : List Nat} (h : IsS S s) : S.size = s.length := by
  have := congrArg List.length h.list
  rw [List.length_map, Array.length_toList] at this
  exact this
theorem IsS.all (S : ByteArray) : ∃ s, IsS S s := by
  refine ⟨S.data.toList.map (·.toNat), IsS.of_list ?_ ?_⟩
  · rw [List.map_map]
    conv => lhs; rw [← List.map_id S.data.toList]
    apply List.map_congr_left
    intro x _
    simp
  · intro x hx
    obtain ⟨y, _, rfl⟩ := List.mem_map.1 hx
    exact y.toNat_lt
theorem IsS.lit {S : ByteArray} (s : List Nat) (h : S.data.toList = s.map fun x => UInt8.ofNat x) (hd : ∀ x ∈ s, x < 256) : IsS S s := IsS.of_list h hd
theorem IsS.mk_ (s : List Nat) (hd : ∀ x ∈ s, x < 256) : IsS (strB s) s := ⟨rfl, hd⟩
theorem IsS.app {S T : ByteArray} {s t : List Nat} (h : IsS S s) (k : IsS T t) : IsS (S ++ T) (s ++ t) :=
  IsS.of_list (by rw [ByteArray.data_append, Array.toList_append, h.list, k.list, List.map_append]) (dig_append h.dig k.dig)
theorem IsS.ext {S : ByteArray} {s : List Nat} (h : IsS S s) (a b : Nat) : IsS (S.extract a b) ((s.drop a).take (b - a)) := by
  refine IsS.of_list ?_ (fun x hx => h.dig x (List.mem_of_mem_drop (List.mem_of_mem_take hx)))
  rw [ByteArray.data_extract, Array.toList_extract, List.extract_eq_take_drop, h.list, List.map_take, List.map_drop]
theorem IsS.at {S : ByteArray} {s : List Nat} (h : IsS S s) (i : Nat) (hi : i < S.size) : (S[i]'hi).toNat = s.getD i 0 := by
  have hs := h.size
  have e : S[i]'hi = S.data.toList[i]'(by rw [Array.length_toList]; exact hi) := rfl
  rw [e]
  have h2 : s[i]? = some (s[i]'(by omega)) := List.getElem?_eq_getElem (by omega)
  have h3 : S.data.toList[i]? = some (UInt8.ofNat (s[i]'(by omega))) := by rw [h.list, List.getElem?_map, h2]; rfl
  rw [List.getElem?_eq_getElem (by rw [Array.length_toList]; exact hi)] at h3
  rw [Option.some.inj h3, List.getD_eq_getElem?_getD, h2]
  show (UInt8.ofNat (s[i]'(by omega))).toNat = s[i]'(by omega)
  rw [UInt8.toNat_ofNat']
  exact Nat.mod_eq_of_lt (h.dig _ (List.getElem_mem _))
theorem IsS.inj {S : ByteArray} {s t : List Nat} (h : IsS S s) (k : IsS S t) : s = t := by
  refine strB_inj h.dig k.dig ?_
  rw [← h.eq, ← k.eq]
theorem IsS.eqT {S T : ByteArray} {s t : List Nat} (h : IsS S s) (k : IsS T t) : S = T ↔ s = t := by
  constructor
  · intro e; subst e; exact h.inj k
  · intro e; subst e; rw [h.eq, k.eq]
theorem toList_eq_iff {S T : ByteArray} : S.toList = T.toList ↔ S = T := by
  constructor
  · intro h
    rw [Go.Lib.toList_data, Go.Lib.toList_data] at h
    exact list_eq h
  · intro h; rw [h]
theorem IsS.yes {S T : ByteArray} {s t : List Nat} (h : IsS S s) (k : IsS T t) (e : s = t) : (S.toList == T.toList) = true := by
  rw [beq_iff_eq]; exact toList_eq_iff.2 ((h.eqT k).2 e)
theorem IsS.no {S T : ByteArray} {s t : List Nat} (h : IsS S s) (k : IsS T t) (e : s ≠ t) : (S.toList == T.toList) = false := by
  rw [beq_eq_false_iff_ne]; exact fun h2 => e ((h.eqT k).1 (toList_eq_iff.1 h2))
/-- A byte of it. -/
theorem IsS.index {S : ByteArray} {s : List Nat} (h : IsS S s) (i : Nat) (hi : i < s.length) (w : World) :
    (Instr.index 9 (.string S) (.int .i64 (i : Int))).run Tryz.prog w = .ok (.int .u8 ((s.getD i 0 : Nat) : Int)) w := by
  have hs := h.size
  rw [run_index_string w 9 S .i64 i Tryz.underlying9, dif_pos ⟨by omega, by omega⟩]
  have e := h.at i (by omega)
  rw [← e]
  rfl
end Go.Proofs.YthcnofdihigohaaGreat
end
section
/- What the small calls on roots return. -/
set_option maxRecDepth 20000
namespace Go.Proofs.YthcnofdihigohaaGreat
open Go.RowKit

/-- A root as a value. -/
def Rt.val (r : Rt) : Value := .agg #[.int .i64 r.ep, .int .i64 r.pg, .int .i64 r.dr, .int .i64 r.wd]
set_option maxHeartbeats 400000 in
theorem mayE_any (e : Int) (w : World) : Calls Tryz.prog 66 #[.int .i64 e] w fun x w' => x = .returned (.bool (mayE e)) ∧ w = w' := by
  by_cases h1 : 1 ≤ e
  · have HE : Hid (mayE e = decide (e ≤ 4611686018427387904)) := Lib.hid (by unfold mayE; simp [h1])
    rw [HE.out]
    go_enter Tryz.func66, Tryz.ntmps66
    go_wp2_with fail
    go_ret
    exact ⟨rfl, rfl⟩
  · have HE : Hid (mayE e = false) := Lib.hid (by unfold mayE; simp [h1])
    have hd : decide ((1 : Int) ≤ e) = false := decide_eq_false h1
    rw [HE.out]
    clear h1
    go_enter Tryz.func66, Tryz.ntmps66
    go_wp2_with fail
    go_ret
    exact ⟨rfl, rfl⟩
set_option maxHeartbeats 400000 in
theorem place_any (e : Int) (w : World) : Calls Tryz.prog 33 #[.int .i64 e] w fun x w' => x = .returned (.int .i64 (place e)) ∧ w = w' := by
  have HM := Lib.hid (mayE_any e w)
  by_cases h : mayE e = true
  · rw [h] at HM
    have he : 1 ≤ e ∧ e ≤ 4611686018427387904 := by unfold mayE at h; simpa using h
    by_cases h2 : e % 2 = 1
    · have HE : Hid (place e = 4) := Lib.hid (by unfold place; rw [if_pos h, if_pos h2])
      have hd : (e % 2 == 1) = true := by rw [beq_iff_eq]; exact h2
      rw [HE.out]
      clear h h2 HE
      go_enter Tryz.func33, Tryz.ntmps33
      go_wp2_with (go_at_call 66; refine HM.out.mono ?_; rintro e w' ⟨rfl, rfl⟩)
      go_ret
      exact ⟨rfl, rfl⟩
    · have HE : Hid (place e = 0) := Lib.hid (by unfold place; rw [if_pos h, if_neg h2])
      have hd : (e % 2 == 1) = false := by rw [beq_eq_false_iff_ne]; exact h2
      rw [HE.out]
      clear h h2 HE
      go_enter Tryz.func33, Tryz.ntmps33
      go_wp2_with (go_at_call 66; refine HM.out.mono ?_; rintro e w' ⟨rfl, rfl⟩)
      go_ret
      exact ⟨rfl, rfl⟩
  · have h0 : mayE e = false := by simpa using h
    have HE : Hid (place e = -1) := Lib.hid (by unfold place; rw [if_neg h])
    rw [h0] at HM
    rw [HE.out]
    clear h h0 HE
    go_enter Tryz.func33, Tryz.ntmps33
    go_wp2_with (go_at_call 66; refine HM.out.mono ?_; rintro e w' ⟨rfl, rfl⟩)
    go_ret
    exact ⟨rfl, rfl⟩
def RtAt (w : World) (b t : Nat) (r : Rt) : Prop := w.heap[b]? = some (.cells #[.int .i64 r.ep, .int .i64 r.pg, .int .i64 r.dr, .int .i64 r.wd] t (0, 0))
section
variable {w : World} {b t : Nat} {r : Rt}
theorem RtAt.c0 (h : RtAt w b t r) : w.cell? ⟨b, 0, none⟩ = some (.int .i64 r.ep) := by rw [cell_of_row w b 0 _ _ _ h]; rfl
theorem RtAt.c1 (h : RtAt w b t r) : w.cell? ⟨b, 1, none⟩ = some (.int .i64 r.pg) := by rw [cell_of_row w b 1 _ _ _ h]; rfl
theorem RtAt.c2 (h : RtAt w b t r) : w.cell? ⟨b, 2, none⟩ = some (.int .i64 r.dr) := by rw [cell_of_row w b 2 _ _ _ h]; rfl
theorem RtAt.c3 (h : RtAt w b t r) : w.cell? ⟨b, 3, none⟩ = some (.int .i64 r.wd) := by rw [cell_of_row w b 3 _ _ _ h]; rfl
theorem RtAt.fz (h : RtAt w b t r) (i : Nat) : w.frozen? ⟨b, i, none⟩ = false := frozen_of_row w b i _ _ h
theorem RtAt.lt (h : RtAt w b t r) : b < w.heap.size := by
  rcases Nat.lt_or_ge b w.heap.size with h1 | h1
  · exact h1
  · unfold RtAt at h; rw [Array.getElem?_eq_none h1] at h; cases h
theorem RtAt.below {w' : World} (h : RtAt w b t r) (hb : Below w.heap.size w w') : RtAt w' b t r := (hb.block b h.lt).trans h
theorem RtAt.new (w : World) (r : Rt) (t : Nat) : RtAt (w.alloc (.cells #[.int .i64 r.ep, .int .i64 r.pg, .int .i64 r.dr, .int .i64 r.wd] t)) w.heap.size t r := heap_alloc_new w _
end
set_option maxHeartbeats 400000 in
theorem may_any (r : Rt) (w : World) : Calls Tryz.prog 57 #[r.val] w fun x w' => x = .returned (.bool (may r)) ∧ Below w.heap.size w w' := by
  obtain ⟨ep, pg, dr, wd⟩ := r
  unfold Rt.val
  have HM := Lib.hid (fun w => mayE_any ep w)
  by_cases h0 : mayE ep = true
  case neg =>
    have HE : Hid (may ⟨ep, pg, dr, wd⟩ = false) := Lib.hid (by
      cases hb : may ⟨ep, pg, dr, wd⟩ with
      | false => rfl
      | true =>
        have hm := may_yes hb
        have q0 := hm.e0
        have q1 := hm.e1
        have q2 := hm.p0
        have q3 := hm.p1
        have q4 := hm.d0
        have q5 := hm.d1
        have q6 := hm.w0
        have q7 := hm.w1
        simp only at q0 q1 q2 q3 q4 q5 q6 q7
        exact absurd (by unfold mayE; simp [q0, q1]) h0)
    rw [HE.out]
    have hb : mayE ep = false := by simpa using h0
    rw [hb] at HM
    clear h0 hb
    clear HE
    go_enter Tryz.func57, Tryz.ntmps57
    go_wp2_with (go_at_call 66; refine (HM.out _).mono ?_; rintro e w' ⟨rfl, rfl⟩)
    go_ret
    exact ⟨rfl, (Below.refl _ _).alloc (Nat.le_refl _) _⟩
  rw [h0] at HM
  by_cases h1 : 4 ≤ pg
  case neg =>
    have HE : Hid (may ⟨ep, pg, dr, wd⟩ = false) := Lib.hid (by
      cases hb : may ⟨ep, pg, dr, wd⟩ with
      | false => rfl
      | true =>
        have hm := may_yes hb
        have q0 := hm.e0
        have q1 := hm.e1
        have q2 := hm.p0
        have q3 := hm.p1
        have q4 := hm.d0
        have q5 := hm.d1
        have q6 := hm.w0
        have q7 := hm.w1
        simp only at q0 q1 q2 q3 q4 q5 q6 q7
        omega)
    rw [HE.out]
    have hd : decide (4 ≤ pg) = false := decide_eq_false h1
    clear HE
    go_enter Tryz.func57, Tryz.ntmps57
    go_wp2_with (go_at_call 66; refine (HM.out _).mono ?_; rintro e w' ⟨rfl, rfl⟩)
    go_ret
    exact ⟨rfl, (Below.refl _ _).alloc (Nat.le_refl _) _⟩
  by_cases h2 : pg ≤ 512
  case neg =>
    have HE : Hid (may ⟨ep, pg, dr, wd⟩ = false) := Lib.hid (by
      cases hb : may ⟨ep, pg, dr, wd⟩ with
      | false => rfl
      | true =>
        have hm := may_yes hb
        have q0 := hm.e0
        have q1 := hm.e1
        have q2 := hm.p0
        have q3 := hm.p1
        have q4 := hm.d0
        have q5 := hm.d1
        have q6 := hm.w0
        have q7 := hm.w1
        simp only at q0 q1 q2 q3 q4 q5 q6 q7
        omega)
    rw [HE.out]
    have hd : decide (pg ≤ 512) = false := decide_eq_false h2
    clear HE
    go_enter Tryz.func57, Tryz.ntmps57
    go_wp2_with (go_at_call 66; refine (HM.out _).mono ?_; rintro e w' ⟨rfl, rfl⟩)
    go_ret
    exact ⟨rfl, (Below.refl _ _).alloc (Nat.le_refl _) _⟩
  by_cases h3 : 2 ≤ dr
  case neg =>
    have HE : Hid (may ⟨ep, pg, dr, wd⟩ = false) := Lib.hid (by
      cases hb : may ⟨ep, pg, dr, wd⟩ with
      | false => rfl
      | true =>
        have hm := may_yes hb
        have q0 := hm.e0
        have q1 := hm.e1
        have q2 := hm.p0
        have q3 := hm.p1
        have q4 := hm.d0
        have q5 := hm.d1
        have q6 := hm.w0
        have q7 := hm.w1
        simp only at q0 q1 q2 q3 q4 q5 q6 q7
        omega)
    rw [HE.out]
    have hd : decide (2 ≤ dr) = false := decide_eq_false h3
    clear HE
    go_enter Tryz.func57, Tryz.ntmps57
    go_wp2_with (go_at_call 66; refine (HM.out _).mono ?_; rintro e w' ⟨rfl, rfl⟩)
    go_ret
    exact ⟨rfl, (Below.refl _ _).alloc (Nat.le_refl _) _⟩
  by_cases h4 : dr < pg
  case neg =>
    have HE : Hid (may ⟨ep, pg, dr, wd⟩ = false) := Lib.hid (by
      cases hb : may ⟨ep, pg, dr, wd⟩ with
      | false => rfl
      | true =>
        have hm := may_yes hb
        have q0 := hm.e0
        have q1 := hm.e1
        have q2 := hm.p0
        have q3 := hm.p1
        have q4 := hm.d0
        have q5 := hm.d1
        have q6 := hm.w0
        have q7 := hm.w1
        simp only at q0 q1 q2 q3 q4 q5 q6 q7
        omega)
    rw [HE.out]
    have hd : decide (dr < pg) = false := decide_eq_false h4
    clear HE
    go_enter Tryz.func57, Tryz.ntmps57
    go_wp2_with (go_at_call 66; refine (HM.out _).mono ?_; rintro e w' ⟨rfl, rfl⟩)
    go_ret
    exact ⟨rfl, (Below.refl _ _).alloc (Nat.le_refl _) _⟩
  by_cases h5 : 0 ≤ wd
  case neg =>
    have HE : Hid (may ⟨ep, pg, dr, wd⟩ = false) := Lib.hid (by
      cases hb : may ⟨ep, pg, dr, wd⟩ with
      | false => rfl
      | true =>
        have hm := may_yes hb
        have q0 := hm.e0
        have q1 := hm.e1
        have q2 := hm.p0
        have q3 := hm.p1
        have q4 := hm.d0
        have q5 := hm.d1
        have q6 := hm.w0
        have q7 := hm.w1
        simp only at q0 q1 q2 q3 q4 q5 q6 q7
        omega)
    rw [HE.out]
    have hd : decide (0 ≤ wd) = false := decide_eq_false h5
    clear HE
    go_enter Tryz.func57, Tryz.ntmps57
    go_wp2_with (go_at_call 66; refine (HM.out _).mono ?_; rintro e w' ⟨rfl, rfl⟩)
    go_ret
    exact ⟨rfl, (Below.refl _ _).alloc (Nat.le_refl _) _⟩
  by_cases h6 : wd ≤ 2147483647
  case neg =>
    have HE : Hid (may ⟨ep, pg, dr, wd⟩ = false) := Lib.hid (by
      cases hb : may ⟨ep, pg, dr, wd⟩ with
      | false => rfl
      | true =>
        have hm := may_yes hb
        have q0 := hm.e0
        have q1 := hm.e1
        have q2 := hm.p0
        have q3 := hm.p1
        have q4 := hm.d0
        have q5 := hm.d1
        have q6 := hm.w0
        have q7 := hm.w1
        simp only at q0 q1 q2 q3 q4 q5 q6 q7
        omega)
    rw [HE.out]
    have hd : decide (wd ≤ 2147483647) = false := decide_eq_false h6
    clear HE
    go_enter Tryz.func57, Tryz.ntmps57
    go_wp2_with (go_at_call 66; refine (HM.out _).mono ?_; rintro e w' ⟨rfl, rfl⟩)
    go_ret
    exact ⟨rfl, (Below.refl _ _).alloc (Nat.le_refl _) _⟩
  have HE : Hid (may ⟨ep, pg, dr, wd⟩ = true) := Lib.hid (by
    unfold may
    simp only [Bool.and_eq_true, decide_eq_true_eq]
    exact ⟨⟨⟨⟨⟨⟨h0, h1⟩, h2⟩, h3⟩, h4⟩, h5⟩, h6⟩)
  rw [HE.out]
  clear HE
  go_enter Tryz.func57, Tryz.ntmps57
  go_wp2_with (go_at_call 66; refine (HM.out _).mono ?_; rintro e w' ⟨rfl, rfl⟩)
  go_ret
  exact ⟨rfl, (Below.refl _ _).alloc (Nat.le_refl _) _⟩
end Go.Proofs.YthcnofdihigohaaGreat
end
section
/- The number of bytes: the code's take, the document's value. -/
set_option maxRecDepth 20000
namespace Go.Proofs.YthcnofdihigohaaGreat
open Go.RowKit

/-- A number of 64 bits as an int. -/
def toI (x : Nat) : Int := if x < 9223372036854775808 then (x : Int) else (x : Int) - 18446744073709551616
theorem toI_small {x : Nat} (h : x < 9223372036854775808) : toI x = (x : Int) := by unfold toI; rw [if_pos h]
theorem toI_wrap {x : Nat} (h : x < 18446744073709551616) : IntKind.i64.wrap (x : Int) = toI x := by
  unfold toI
  rw [IntKind.wrap_i64]
  split <;> omega
theorem plus_or (a b : Nat) (h : b < 256) : a * 256 ||| b = a * 256 + b := by
  have := Nat.two_pow_add_eq_or_of_lt (i := 8) h a
  rw [show (2 : Nat) ^ 8 = 256 from rfl, Nat.mul_comm 256 a] at this
  exact this.symm
theorem or_byte0 (m c : Nat) (hm : m < 72057594037927936) (hc : c < 256) : bits .or .i64 (IntKind.i64.wrap ((m : Int) * 256)) (c : Int) = toI (m * 256 + c) := by
  show IntKind.i64.wrap ((BitVec.ofInt 64 (IntKind.i64.wrap ((m : Int) * 256)) ||| BitVec.ofInt 64 (c : Int)).toNat : Int) = _
  have e1 : (BitVec.ofInt 64 (IntKind.i64.wrap ((m : Int) * 256))).toNat = m * 256 := by
    rw [BitVec.toNat_ofInt, IntKind.wrap_i64]
    omega
  have e2 : (BitVec.ofInt 64 (c : Int)).toNat = c := by
    rw [BitVec.toNat_ofInt]
    omega
  rw [BitVec.toNat_or, e1, e2, plus_or m c hc]
  exact toI_wrap (by omega)
theorem or_byte (m c : Nat) (hm : m < 72057594037927936) (hc : c < 256) : bits .or .i64 (wrap64 ((m : Int) * 256)) (c : Int) = toI (m * 256 + c) := by
  rw [show wrap64 ((m : Int) * 256) = IntKind.i64.wrap ((m : Int) * 256) by unfold wrap64; exact (IntKind.wrap_i64 _).symm]
  exact or_byte0 m c hm hc
theorem val_take_succ (s : List Nat) (j : Nat) (h : j < s.length) : val (s.take (j + 1)) = val (s.take j) * 256 + s.getD j 0 := by
  rw [take_succ_getD s j h, val_snoc]
theorem val_take_lt (s : List Nat) (j k : Nat) (hd : ∀ x ∈ s, x < 256) (h : j ≤ k) : val (s.take j) < 256 ^ k :=
  Nat.lt_of_lt_of_le (val_lt _ (fun x hx => hd x (List.mem_of_mem_take hx))) (Nat.pow_le_pow_right (by omega) (by rw [List.length_take]; omega))
theorem getD_lt {s : List Nat} (hd : ∀ x ∈ s, x < 256) (i : Nat) : s.getD i 0 < 256 := by
  rw [List.getD_eq_getElem?_getD]
  cases e : s[i]? with
  | none => decide
  | some x => exact hd x (List.mem_of_getElem? e)
set_option maxHeartbeats 400000 in
theorem take_any5 (S : ByteArray) (s : List Nat) (w : World) (hS : IsS S s) (hl : s.length ≤ 8) :
    Calls Tryz.prog 163 #[.string S] w fun e w' => e = .returned (.int .i64 (toI (val s))) ∧ w = w' := by
  have HS := Lib.hid hS
  have hsz := hS.size
  obtain ⟨n, hn⟩ : ∃ n, s.length = n := ⟨_, rfl⟩
  rw [hn] at hsz hl
  have HN := Lib.hid hn
  have HD := Lib.hid hS.dig
  have HIX := Lib.hid hS.index
  obtain ⟨V, HV⟩ : ∃ V, Hid (toI (val s) = V) := ⟨_, Lib.hid rfl⟩
  rw [HV.out]
  clear hS hn
  go_enter Tryz.func163, Tryz.ntmps163
  go_wp2_with fail
  go_loop [3, 7] (fun nv iv => ∃ j : Nat, j ≤ n ∧ iv = .int .i64 (j : Int) ∧ nv = .int .i64 (toI (val (s.take j)))) (fun _ i => n - (intOf i).toNat)
  case atStart => exact ⟨0, by omega, by go_num, rfl⟩
  case round =>
    obtain ⟨j, hj, rfl, rfl⟩ := hrel
    by_cases hlt : j < n
    · have hix := HIX.out j (by rw [HN.out]; exact hlt)
      have hm : val (s.take j) < 72057594037927936 := val_take_lt s j 7 HD.out (by omega)
      have hc := getD_lt HD.out j
      have HNX : Hid (toI (val (s.take (j + 1))) = toI (val (s.take j) * 256 + s.getD j 0)) := Lib.hid (by rw [val_take_succ s j (by rw [HN.out]; exact hlt)])
      rw [toI_small (show val (s.take j) < 9223372036854775808 by omega)]
      generalize val (s.take j) = m at *
      generalize s.getD j 0 = c at *
      have hor := or_byte m c hm hc
      clear HIX
      go_wp2_with fail
      go_round
      case rel => exact ⟨j + 1, by omega, by go_num, by rw [HNX.out]⟩
      case measure => simp [intOf]; omega
    · obtain rfl : j = n := by omega
      have HE : Hid (toI (val (s.take j)) = V) := Lib.hid (by rw [List.take_of_length_le (by rw [HN.out]; omega)]; exact HV.out)
      go_wp2_with fail
      go_ret
      exact ⟨by rw [← HE.out]; rfl, rfl⟩
/-- What the document's value tells. -/
def valR (s : List Nat) : Int := if s.length = 8 ∧ 4611686018427387904 ≤ val s then -1 else (val s : Int)
end Go.Proofs.YthcnofdihigohaaGreat
end
section
/- What the code's own sums return, and what they leave. -/
set_option maxRecDepth 20000
namespace Go.Proofs.YthcnofdihigohaaGreat
open Go.RowKit

def Eaten (k R V : Nat) : Prop := R < 4294967296 ∧ stps (8 - k) R = V
theorem eaten_put {k R V R2 : Nat} (h : Eaten k R V) (hk : k < 8) (h2 : stp R = R2) : Eaten (k + 1) R2 V := by
  obtain ⟨hl, he⟩ := h
  subst h2
  refine ⟨stp_lt hl, ?_⟩
  rw [← he, show 8 - k = (8 - (k + 1)) + 1 by omega]; rfl

set_option maxHeartbeats 400000 in
theorem take_any (r c : Nat) (w : World) (hr : r < 4294967296) (hc : c < 256) :
    Calls Tryz.prog 172 #[.int .u32 r, .int .u8 c] w fun e w' => e = .returned (.int .u32 (eat r c : Nat)) ∧ w = w' := by
  have hx := u32_xor_nat r c hr (by omega)
  have hw : IntKind.u32.wrap (c : Int) = c := by rw [IntKind.wrap_u32]; omega
  obtain ⟨V, HV⟩ : ∃ V, Hid (eat r c = V) := ⟨_, rfl⟩
  rw [HV.out]
  have H0 : Hid (Eaten 0 (r ^^^ c) V) := Lib.hid ⟨xor_lt hr (by omega), HV.out⟩
  go_enter Tryz.func172, Tryz.ntmps172
  go_wp2
  clear hx hw
  generalize r ^^^ c = R0 at *
  go_loop [0, 10] (fun rv iv => ∃ k R : Nat, k ≤ 8 ∧ iv = .int .i64 (k : Int) ∧ rv = .int .u32 (R : Int) ∧ Eaten k R V) (fun _ i => 8 - (intOf i).toNat)
  case atStart => exact ⟨0, R0, by omega, rfl, rfl, H0.out⟩
  case round =>
    obtain ⟨k, R, hk, rfl, rfl, hR⟩ := hrel
    have hl := hR.1
    have HR := Lib.hid hR
    clear hR H0
    by_cases hlt : k < 8
    · have hand : bits .and .u32 (R : Int) 1 = ((R % 2 : Nat) : Int) := by
        have h := u32_and_nat R 1 hl (by omega)
        rw [Nat.and_one_is_mod] at h; exact h
      by_cases ho : R % 2 = 1
      · have hb : (bits .and .u32 (R : Int) 1 == 1) = true := by rw [hand, ho]; rfl
        have hxp : bits .xor .u32 ((R : Int) / 2) 3988292384 = ((R / 2 ^^^ 3988292384 : Nat) : Int) := u32_xor_nat (R / 2) 3988292384 (by omega) (by omega)
        have HS : Hid (stp R = R / 2 ^^^ 3988292384) := Lib.hid (if_pos ho)
        clear ho hand
        go_wp2
        go_round
        case rel => exact ⟨k + 1, R / 2 ^^^ 3988292384, by omega, by go_num, rfl, eaten_put HR.out hlt HS.out⟩
        case measure => simp [intOf]; omega
      · have hb : (bits .and .u32 (R : Int) 1 == 1) = false := by rw [hand, show R % 2 = 0 by omega]; rfl
        have HS : Hid (stp R = R / 2) := Lib.hid (if_neg ho)
        clear ho hand
        go_wp2
        go_round
        case rel => exact ⟨k + 1, R / 2, by omega, by go_num, by go_num, eaten_put HR.out hlt HS.out⟩
        case measure => simp [intOf]; omega
    · obtain rfl : k = 8 := by omega
      obtain rfl : R = V := HR.out.2
      clear HV HR
      go_wp2
      go_ret
      exact ⟨rfl, rfl⟩

theorem eats_snoc (R : Nat) (bs : List Nat) (k : Nat) (h : k < bs.length) : eats R (bs.take (k + 1)) = eat (eats R (bs.take k)) (bs.getD k 0) := by
  rw [take_succ_getD bs k h, eats_append]; rfl
theorem max_u32 : IntKind.u32.max = ((full : Nat) : Int) := by decide
theorem ret_u32 {a b : Nat} (h : a = b) : Ending.returned (.int .u32 (a : Int)) = .returned (.int .u32 (b : Int)) := by rw [h]

set_option maxHeartbeats 400000 in
theorem more_zero (s : Nat) (p : Option Addr) (c : Nat) (w : World) (hs : s < 4294967296) :
    Calls Tryz.prog 170 #[.int .u32 s, .slice p 0 c] w fun e w' => e = .returned (.int .u32 (s : Nat)) ∧ w = w' := by
  have hx : bits .xor .u32 IntKind.u32.max (s : Int) = ((full ^^^ s : Nat) : Int) := by rw [max_u32]; exact u32_xor_nat full s (by decide) hs
  have hR : full ^^^ s < 4294967296 := xor_lt (by decide) hs
  have hy : bits .xor .u32 IntKind.u32.max ((full ^^^ s : Nat) : Int) = (s : Int) := by rw [max_u32, u32_xor_nat full _ (by decide) hR, ← Nat.xor_assoc, Nat.xor_self, Nat.zero_xor]
  generalize full ^^^ s = R0 at *
  go_enter Tryz.func170, Tryz.ntmps170
  go_wp2_with fail
  clear hx
  go_loop [5, 12] (fun rv iv => iv = .int .i64 0 ∧ rv = .int .u32 (R0 : Int)) (fun _ _ => 0)
  case atStart => exact ⟨by go_num, rfl⟩
  case round =>
    obtain ⟨rfl, rfl⟩ := hrel
    go_wp2_with fail
    go_ret
    exact ⟨rfl, rfl⟩

set_option maxHeartbeats 400000 in
theorem more_pos (s : Nat) (b o n c : Nat) (bs : List Nat) (w : World) (hs : s < 4294967296) (hm : n ≤ 9223372036854775807) (hB : Bys w (some ⟨b, o, none⟩) n bs) (hc : ∀ i, i < n → w.cell? ⟨b, o + i, none⟩ = some (.int .u8 ((bs.getD i 0 : Nat) : Int))) :
    Calls Tryz.prog 170 #[.int .u32 s, .slice (some ⟨b, o, none⟩) n c] w fun e w' => e = .returned (.int .u32 (more s bs : Nat)) ∧ w = w' := by
  have hx : bits .xor .u32 IntKind.u32.max (s : Int) = ((full ^^^ s : Nat) : Int) := by rw [max_u32]; exact u32_xor_nat full s (by decide) hs
  have hR : full ^^^ s < 4294967296 := xor_lt (by decide) hs
  obtain ⟨V, HV⟩ : ∃ V, Hid (more s bs = V) := ⟨_, rfl⟩
  rw [HV.out]
  unfold more at HV
  generalize full ^^^ s = R0 at *
  have HB := Lib.hid hB
  have HC := Lib.hid hc
  clear hB hc
  go_enter Tryz.func170, Tryz.ntmps170
  go_wp2_with fail
  clear hx
  go_loop [5, 12] (fun rv iv => ∃ k R : Nat, k ≤ n ∧ iv = .int .i64 (k : Int) ∧ rv = .int .u32 (R : Int) ∧ R < 4294967296 ∧ eats R0 (bs.take k) = R) (fun _ i => n - (intOf i).toNat)
  case atStart => exact ⟨0, R0, by omega, by go_num, rfl, hR, rfl⟩
  case round =>
    obtain ⟨k, R, hk, rfl, rfl, hR1, hR2⟩ := hrel
    have HR := Lib.hid hR2
    clear hR2
    by_cases hlt : k < n
    · have hcell := HC.out k hlt
      have hx := HB.out.getD k
      have HS := Lib.hid (eats_snoc R0 bs k (by rw [HB.out.len]; exact hlt))
      generalize bs.getD k 0 = x at *
      go_wp2_with (go_at_call 172; refine (take_any R x _ hR1 hx).mono ?_; rintro e w' ⟨rfl, rfl⟩)
      go_round
      case rel => exact ⟨k + 1, eat R x, by omega, by go_num, rfl, eat_lt hR1 hx, by rw [HS.out, HR.out]⟩
      case measure => simp [intOf]; omega
    · have HE : Hid (full ^^^ R = V) := by
        rw [← HV.out, ← HR.out, List.take_of_length_le (by rw [HB.out.len]; omega)]; exact Lib.hid rfl
      have hy : bits .xor .u32 IntKind.u32.max (R : Int) = ((full ^^^ R : Nat) : Int) := by rw [max_u32]; exact u32_xor_nat full R (by decide) hR1
      generalize full ^^^ R = X at *
      go_wp2_with fail
      go_ret
      exact ⟨ret_u32 HE.out, rfl⟩

theorem more_any (s : Nat) (p : Option Addr) (n c : Nat) (bs : List Nat) (w : World) (hs : s < 4294967296) (hm : n ≤ 9223372036854775807) (hB : Bys w p n bs) :
    Calls Tryz.prog 170 #[.int .u32 s, .slice p n c] w fun e w' => e = .returned (.int .u32 (more s bs : Nat)) ∧ w = w' := by
  rcases Nat.eq_zero_or_pos n with h | h
  · subst h
    rw [hB.nil_, more_nil]
    exact more_zero s p c w hs
  · obtain ⟨b, o, rfl, hc⟩ := hB.at h
    exact more_pos s b o n c bs w hs hm hB hc

set_option maxHeartbeats 400000 in
theorem sum_any (p : Option Addr) (n c : Nat) (bs : List Nat) (w : World) (hm : n ≤ 9223372036854775807) (hB : Bys w p n bs) :
    Calls Tryz.prog 162 #[.slice p n c] w fun e w' => e = .returned (.int .u32 (more 0 bs : Nat)) ∧ w = w' := by
  have HB := Lib.hid hB
  clear hB
  go_enter Tryz.func162, Tryz.ntmps162
  go_wp2_with (go_at_call 170; refine (more_any 0 p n c bs _ (by omega) hm HB.out).mono ?_; rintro e w' ⟨rfl, rfl⟩)
  go_ret
  exact ⟨rfl, rfl⟩
end Go.Proofs.YthcnofdihigohaaGreat
end
section
/- What the bytes of a sum are, in memory of the call's own. -/
set_option maxRecDepth 20000
namespace Go.Proofs.YthcnofdihigohaaGreat
open Go.RowKit

def TailSt (B g s k : Nat) (w wr : World) : Prop := wr.ownsRow B 5 1 (.slice (some ⟨g, 0, none⟩) 4 4) 4 (u8s ((tailOf s).take k ++ List.replicate (4 - k) 0)) ∧ Below B w wr
theorem tail_put {B g s k : Nat} {w wr : World} (h : TailSt B g s k w wr) (hg : B ≤ g) (x : Nat) (hx : (((tailOf s).take k ++ List.replicate (4 - k) 0).set k x) = (tailOf s).take (k + 1) ++ List.replicate (4 - (k + 1)) 0) :
    TailSt B g s (k + 1) w (wr.setCell ⟨g, k, none⟩ (.int .u8 (x : Int))) := by
  refine ⟨?_, h.2.setCell hg _⟩
  have h2 := h.1.stored k (.int .u8 (x : Int))
  rw [← hx]
  have e : u8s (((tailOf s).take k ++ List.replicate (4 - k) 0).set k x) = (u8s ((tailOf s).take k ++ List.replicate (4 - k) 0)).set k (.int .u8 (x : Int)) := by
    unfold u8s; rw [List.map_set]
  rw [e]; exact h2.1

set_option maxHeartbeats 400000 in
theorem tail_any (s : Nat) (w : World) (hs : s < 4294967296) :
    Calls Tryz.prog 161 #[.int .u32 s] w fun e w' => (∃ g, e = .returned (.slice (some ⟨g, 0, none⟩) 4 4) ∧ Bys w' (some ⟨g, 0, none⟩) 4 (tailOf s)) ∧ Below w.heap.size w w' := by
  have hmk : ∀ w : World, (Instr.makeSlice 94 (.int .i64 4) (.int .i64 4)).run Tryz.prog w = .ok (.slice (some ⟨w.heap.size, 0, none⟩) 4 4) (w.alloc (.cells #[.int .u8 0, .int .u8 0, .int .u8 0, .int .u8 0] 5)) := fun w => by
    obtain ⟨i0, hi, hz0, hz1, hz2⟩ := info_parts Tryz.info5
    have h := run_make (P := Tryz.prog) w 94 5 i0 _ Tryz.underlying94 hi hz0 .i64 .i64 4 4 (by omega) (by omega) (by rw [hz2]; decide) (by omega)
    rw [hz1, show madeCells (Value.int IntKind.u8 0).cells (Int.toNat 4 * 1) = #[.int .u8 0, .int .u8 0, .int .u8 0, .int .u8 0] by kernel_rfl] at h
    exact h
  have H0 : Hid (TailSt w.heap.size w.heap.size s 0 w (w.alloc (.cells #[.int .u8 0, .int .u8 0, .int .u8 0, .int .u8 0] 5))) :=
    Lib.hid ⟨World.ownsRow_lit w _ 4 (Nat.le_refl _) (by decide) rfl, (Below.refl _ _).alloc (Nat.le_refl _) _⟩
  have HG := Lib.hid (Nat.le_refl w.heap.size)
  go_enter Tryz.func161, Tryz.ntmps161
  go_wp2_with fail
  clear hmk
  generalize (w.alloc (.cells #[.int .u8 0, .int .u8 0, .int .u8 0, .int .u8 0] 5)) = W at *
  go_loopw [4, 6] (fun _ iv wr => ∃ k : Nat, k ≤ 4 ∧ iv = .int .i64 (k : Int) ∧ TailSt w.heap.size w.heap.size s k w wr) (fun _ i _ => 4 - (intOf i).toNat)
  case atStart => exact ⟨0, by omega, by go_num, H0.out⟩
  case round =>
    obtain ⟨k, hk, rfl, hT⟩ := hrel
    by_cases hlt : k < 4
    · rcases (show k = 0 ∨ k = 1 ∨ k = 2 ∨ k = 3 by omega) with rfl | rfl | rfl | rfl
      · have hc := (hT.1.cellAt 0 (by omega)).trans (u8s_get _ 0 (by simp [tailOf]))
        have hf := hT.1.frozenAt 0
        have HT := Lib.hid hT
        clear hT
        go_wp2_with fail
        go_roundw
        case rel => exact ⟨1, by omega, by go_num, tail_put HT.out (Nat.le_refl _) (s % 256) rfl⟩
        case measure => simp [intOf]
      · have hc := (hT.1.cellAt 1 (by omega)).trans (u8s_get _ 1 (by simp [tailOf]))
        have hf := hT.1.frozenAt 1
        have HT := Lib.hid hT
        clear hT
        go_wp2_with fail
        go_roundw
        case rel => exact ⟨2, by omega, by go_num, tail_put HT.out (Nat.le_refl _) (s / 256 % 256) rfl⟩
        case measure => simp [intOf]
      · have hc := (hT.1.cellAt 2 (by omega)).trans (u8s_get _ 2 (by simp [tailOf]))
        have hf := hT.1.frozenAt 2
        have HT := Lib.hid hT
        clear hT
        go_wp2_with fail
        go_roundw
        case rel => exact ⟨3, by omega, by go_num, tail_put HT.out (Nat.le_refl _) (s / 65536 % 256) rfl⟩
        case measure => simp [intOf]
      · have hc := (hT.1.cellAt 3 (by omega)).trans (u8s_get _ 3 (by simp [tailOf]))
        have hf := hT.1.frozenAt 3
        have HT := Lib.hid hT
        clear hT
        go_wp2_with fail
        go_roundw
        case rel => exact ⟨4, by omega, by go_num, tail_put HT.out (Nat.le_refl _) (s / 16777216) (by simp [tailOf]; omega)⟩
        case measure => simp [intOf]
    · obtain rfl : k = 4 := by omega
      have hT2 := hT
      clear hT
      have HE : Hid (Bys wr (some ⟨w.heap.size, 0, none⟩) 4 (tailOf s)) := Lib.hid (Bys.of_row hT2.1 (by intro x hx; simp [tailOf] at hx; omega))
      have HB := Lib.hid hT2.2
      clear hT2
      go_wp2_with fail
      go_ret
      exact ⟨⟨_, rfl, HE.out⟩, HB.out⟩
end Go.Proofs.YthcnofdihigohaaGreat
end
section
/- What sealed bytes are, in memory of the call's own. -/
set_option maxRecDepth 20000
namespace Go.Proofs.YthcnofdihigohaaGreat
open Go.RowKit

set_option maxHeartbeats 400000 in
theorem seal_any (p : Option Addr) (n c : Nat) (bs : List Nat) (w : World) (hm : n ≤ 140737488351232) (hB : Bys w p n bs) :
    Calls Tryz.prog 148 #[.slice p n c] w fun e w' => e = .returned (.slice (some ⟨w.heap.size, 0, none⟩) (n + 4) (n + 4)) ∧ w'.ownsRow w.heap.size 5 1 (.slice (some ⟨w.heap.size, 0, none⟩) (n + 4) (n + 4)) (n + 4) (u8s (bs ++ tailOf (more 0 bs))) ∧ Below w.heap.size w w' := by
  obtain ⟨i0, hi, hz0, hz1, hz2⟩ := info_parts Tryz.info5
  obtain ⟨C0, HC⟩ : ∃ C0, Hid (madeCells (Value.int IntKind.u8 0).cells (n + 4) = C0) := ⟨_, rfl⟩
  have HCs : Hid (C0.size = n + 4) := by rw [← HC.out]; exact Lib.hid (size_madeCells _ _)
  have hmk : ∀ w : World, (Instr.makeSlice 94 (.int .i64 (n : Int)) (.int .i64 ((n : Int) + 4))).run Tryz.prog w = .ok (.slice (some ⟨w.heap.size, 0, none⟩) n (n + 4)) (w.alloc (.cells C0 5)) := fun w => by
    have h := run_make (P := Tryz.prog) w 94 5 i0 _ Tryz.underlying94 hi hz0 .i64 .i64 n (n + 4) (by omega) (by omega) (by rw [hz2]; omega) (by omega)
    rw [hz1, show ((n : Int) + 4).toNat = n + 4 by omega, Int.toNat_natCast, Nat.mul_one, HC.out] at h
    exact h
  have HB := Lib.hid hB
  have HI := Lib.hid hi
  have HZ := Lib.hid hz1
  clear hB hi hz0 hz1 hz2
  have HL : Hid ((u8s bs).length = n) := by rw [u8s_len]; exact Lib.hid HB.out.len
  have hl0 : (Tryz.prog.info? 5).map (·.size) = some 1 := by kernel_rfl
  have HP := Lib.hid hl0
  clear hl0
  have K1 : Hid ((w.alloc (.cells C0 5)).heap[w.heap.size]? = some (.cells C0.toList.toArray 5 (0, 0))) := Lib.hid (by show (w.heap.push _)[w.heap.size]? = _; simp)
  have K2 : Hid ((u8s bs).length = n.min n) := Lib.hid (by rw [HL.out]; exact (Nat.min_self n).symm)
  have K5 : Hid (Below w.heap.size w (w.alloc (.cells C0 5))) := Lib.hid ((Below.refl _ _).alloc (Nat.le_refl _) _)
  have K3 : Hid (0 < (u8s bs).length → some (⟨w.heap.size, 0, none⟩ : Addr) = some ⟨w.heap.size, 0, none⟩ ∧ ∃ ad, p = some ad ∧ ∀ j v, (u8s bs)[j]? = some v → (w.alloc (.cells C0 5)).cell? (ad.add j) = some v) :=
    Lib.hid fun h => ⟨rfl, (HB.out.below K5.out).cells (by rw [HL.out] at h; exact h)⟩
  have K4 : Hid (0 + (u8s bs).length ≤ C0.toList.length) := Lib.hid (by rw [HL.out, Array.length_toList, HCs.out]; omega)
  go_enter Tryz.func148, Tryz.ntmps148
  go_wp2_with (with_reducible refine wpList_copy_splice (w := w.alloc (.cells C0 5)) rfl (.tmp 10) (.tmp 11) 94 94 rfl 5 Tryz.underlying94 HP.out (some ⟨w.heap.size, 0, none⟩) p n (n + 4) n c rfl rfl w.heap.size 0 C0.toList 5 K1.out (u8s bs) K2.out K3.out K4.out (u8s_one bs) w.heap.size w K5.out (Nat.le_refl _) ?_)
  clear hmk
  intro w2 hheap hb2
  have HB2 := Lib.hid hb2
  have HO : Hid (w2.ownsRow w.heap.size 5 1 (.slice (some ⟨w.heap.size, 0, none⟩) n (n + 4)) n (u8s bs)) := Lib.hid ⟨by rw [HL.out, Nat.mul_one], .inr ⟨w.heap.size, n + 4, _, rfl, Nat.le_refl _, hheap.out, by omega, by unfold maxLen; omega, by
      rw [List.size_toArray, length_splice _ _ _ K4.out, Array.length_toList, HCs.out, Nat.mul_one], by
      show List.take (n * 1) (splice C0.toList 0 (u8s bs)) = u8s bs
      rw [Nat.mul_one]
      unfold splice
      rw [List.take_zero, List.nil_append, List.take_append_of_le_length (by rw [HL.out]; exact Nat.le_refl _), List.take_of_length_le (by rw [HL.out]; exact Nat.le_refl _)]⟩⟩
  clear hheap hb2 K1 K2 K3 K4 K5
  go_wp2_with fail
  refine (sum_any p n c bs _ (by omega) (HB.out.below HB2.out)).mono ?_
  rintro e w3 ⟨rfl, rfl⟩
  have hs := more_lt (s := 0) (by decide) HB.out.dig
  generalize hS : more 0 bs = S at *
  have HS := Lib.hid hS
  clear hS
  go_wp2_with fail
  refine (tail_any S _ hs).mono ?_
  rintro e w3 ⟨⟨g, rfl, hT⟩, hb3⟩
  have HO3 := Lib.hid (own_below HO.out hb3)
  have HB3 := Lib.hid (HB2.out.trans (hb3.mono HB2.out.size))
  have K7 : Hid (∀ j u, (u8s (tailOf S))[j]? = some u → w3.cell? ((⟨g, 0, none⟩ : Addr).add j) = some u) := Lib.hid (by
    obtain ⟨ad, e, h⟩ := hT.cells (by omega)
    cases e
    exact h)
  have KL : Hid ((u8s (tailOf S)).length = 4 * 1) := Lib.hid (by rw [u8s_len]; rfl)
  clear hT hb3
  go_wp2_with (with_reducible refine wpList_append_fits w3 rfl (.tmp 13) (.tmp 16) 94 rfl w.heap.size 5 i0 1 Tryz.underlying94 HI.out HZ.out w.heap.size n (n + 4) (u8s bs) rfl HO3.out ⟨g, 0, none⟩ 4 4 (u8s (tailOf S)) rfl KL.out K7.out (u8s_one _) (Nat.le_refl _) ?_)
  intro w4 hown hgrow
  have HO4 := Lib.hid hown
  have HB4 := Lib.hid (HB3.out.grown hgrow HB3.out.size (fun k e => by cases e; exact Nat.le_refl _))
  clear hown hgrow
  go_wp2_with fail
  go_ret
  exact ⟨rfl, by rw [u8s_append, HS.out]; exact HO4.out, HB4.out⟩
end Go.Proofs.YthcnofdihigohaaGreat
end
section
/- A call that changes one block alone. -/
namespace Go.Proofs.YthcnofdihigohaaGreat
open Go.RowKit

theorem RtAt.only {w w' : World} {b t g : Nat} {r : Rt} (h : RtAt w b t r) (ho : Only g w w') (hg : b ≠ g) : RtAt w' b t r := (ho.block b h.lt hg).trans h
end Go.Proofs.YthcnofdihigohaaGreat
end
section
/- A number that is laid into bytes. -/
set_option maxRecDepth 20000
namespace Go.Proofs.YthcnofdihigohaaGreat
open Go.RowKit

def putN (us : List Nat) (o k n : Nat) : Nat → List Nat
  | 0 => us
  | j + 1 => (putN us o k n j).set (o + (k - 1 - j)) (n / 256 ^ j % 256)
theorem putN_len (us : List Nat) (o k n j : Nat) : (putN us o k n j).length = us.length := by
  induction j with
  | zero => rfl
  | succ j ih => show ((putN us o k n j).set _ _).length = _; rw [List.length_set, ih]
theorem getD_set (l : List Nat) (i v j : Nat) (h : i < l.length) : (l.set i v).getD j 0 = if i = j then v else l.getD j 0 := by
  rw [List.getD_eq_getElem?_getD, List.getD_eq_getElem?_getD, List.getElem?_set]
  split
  · rename_i e
    subst e
    rfl
  · rfl
theorem putN_get (us : List Nat) (o k n j i : Nat) (h : o + k ≤ us.length) (hj : j ≤ k) :
    (putN us o k n j).getD i 0 = if o + k - j ≤ i ∧ i < o + k then n / 256 ^ (o + k - 1 - i) % 256 else us.getD i 0 := by
  induction j with
  | zero => rw [if_neg (by omega)]; rfl
  | succ j ih =>
    show ((putN us o k n j).set (o + (k - 1 - j)) (n / 256 ^ j % 256)).getD i 0 = _
    rw [getD_set _ _ _ _ (by rw [putN_len]; omega), ih (by omega)]
    by_cases h1 : o + (k - 1 - j) = i
    · rw [if_pos h1, if_pos (by omega), show o + k - 1 - i = j by omega]
    · rw [if_neg h1]
      by_cases h2 : o + k - j ≤ i ∧ i < o + k
      · rw [if_pos h2, if_pos (by omega)]
      · rw [if_neg h2, if_neg (by omega)]
theorem list_ext_getD {a b : List Nat} (hl : a.length = b.length) (h : ∀ i, i < a.length → a.getD i 0 = b.getD i 0) : a = b := by
  apply List.ext_getElem hl
  intro i h1 h2
  have := h i h1
  rw [List.getD_eq_getElem?_getD, List.getD_eq_getElem?_getD, List.getElem?_eq_getElem h1, List.getElem?_eq_getElem h2] at this
  exact this
/-- Bytes laid over others. -/
def lay (us : List Nat) (o : Nat) (bs : List Nat) : List Nat := us.take o ++ (bs ++ us.drop (o + bs.length))
theorem lay_len (us : List Nat) (o : Nat) (bs : List Nat) (h : o + bs.length ≤ us.length) : (lay us o bs).length = us.length := by
  unfold lay; rw [List.length_append, List.length_append, List.length_take, List.length_drop]; omega
theorem getD_app (a b : List Nat) (i : Nat) : (a ++ b).getD i 0 = if i < a.length then a.getD i 0 else b.getD (i - a.length) 0 := by
  rw [List.getD_eq_getElem?_getD, List.getD_eq_getElem?_getD, List.getD_eq_getElem?_getD]
  split
  · rename_i h; rw [List.getElem?_append_left h]
  · rename_i h; rw [List.getElem?_append_right (by omega)]
theorem lay_get (us : List Nat) (o : Nat) (bs : List Nat) (h : o + bs.length ≤ us.length) (i : Nat) :
    (lay us o bs).getD i 0 = if o ≤ i ∧ i < o + bs.length then bs.getD (i - o) 0 else us.getD i 0 := by
  unfold lay
  have hl : (us.take o).length = o := by rw [List.length_take]; omega
  rw [getD_app, hl]
  by_cases h1 : i < o
  · rw [if_pos h1, if_neg (by omega), getD_take _ _ _ h1]
  · rw [if_neg h1, getD_app]
    by_cases h2 : i - o < bs.length
    · rw [if_pos h2, if_pos (by omega)]
    · rw [if_neg h2, if_neg (by omega), getD_drop]
      congr 1; omega
theorem putN_all (us : List Nat) (o k n : Nat) (h : o + k ≤ us.length) : putN us o k n k = lay us o (be k n) := by
  have hl : o + (be k n).length ≤ us.length := by rw [be_len]; exact h
  refine list_ext_getD (by rw [putN_len, lay_len _ _ _ hl]) fun i _ => ?_
  rw [putN_get _ _ _ _ _ _ h (Nat.le_refl _), lay_get _ _ _ hl, be_len]
  by_cases h1 : o ≤ i ∧ i < o + k
  · rw [if_pos (by omega), if_pos h1, be_get _ _ _ (by omega)]
    congr 3; omega
  · rw [if_neg (by omega), if_neg h1]
structure PutRel (w wr : World) (g N : Nat) (us : List Nat) (o k n j : Nat) : Prop where
  row : Row5 wr g N (putN us o k n j)
  only : Only g w wr
theorem PutRel.next {w wr : World} {g N : Nat} {us : List Nat} {o k n j : Nat} (h : PutRel w wr g N us o k n j) :
    PutRel w (wr.setCell ⟨g, o + (k - 1 - j), none⟩ (.int .u8 ((n / 256 ^ j % 256 : Nat) : Int))) g N us o k n (j + 1) :=
  ⟨h.row.put _ _, h.only.trans (Only.setCell _ _ _ _)⟩
set_option maxHeartbeats 1600000 in
theorem put_4 (g N o c n : Nat) (us : List Nat) (w : World) (hR : Row5 w g N us) (hk : o + 4 ≤ N) (_hn : n ≤ 4611686018427387904) :
    Calls Tryz.prog 146 #[.slice (some ⟨g, o, none⟩) 4 c, .int .i64 (n : Int)] w fun e w' => e = .returned (.tuple #[]) ∧ Row5 w' g N (lay us o (be 4 n)) ∧ Only g w w' := by
  have HP := Lib.hid (putN_all us o 4 n (by rw [hR.len]; exact hk))
  have H0 : Hid (PutRel w w g N us o 4 n 0) := Lib.hid ⟨hR, Only.refl _ _⟩
  clear hR
  go_enter Tryz.func146, Tryz.ntmps146
  go_wp2_with fail
  go_loopw [7] (fun iv wr => ∃ j : Nat, j ≤ 4 ∧ iv = .int .i64 (j : Int) ∧ Hid (PutRel w wr g N us o 4 n j)) (fun iv _ => 4 - (intOf iv).toNat)
  case atStart => exact ⟨0, by omega, by go_num, H0⟩
  case round =>
    obtain ⟨j, hj, rfl, HR⟩ := hrel
    by_cases hlt : j < 4
    · have hf := HR.out.row.fz (o + (4 - 1 - j))
      have hc := HR.out.row.cell (o + (4 - 1 - j)) (by omega)
      have HN := Lib.hid HR.out.next
      clear HR H0
      generalize (putN us o 4 n j).getD (o + (4 - 1 - j)) 0 = old at *
      rcases (show j = 0 ∨ j = 1 ∨ j = 2 ∨ j = 3 by omega) with rfl | rfl | rfl | rfl
      all_goals
        simp only [Nat.reduceSub, Nat.add_zero] at hc hf
        go_wp2_with fail
        go_roundw
        case rel =>
          refine ⟨_, hlt, by go_num, ?_⟩
          first
            | exact HN
            | (rw [Nat.pow_zero, Nat.div_one] at HN; exact HN)
            | (rw [Nat.mod_eq_of_lt (show n / 256 ^ 7 < 256 by omega)] at HN; exact HN)
        case measure => simp [intOf]
    · obtain rfl : j = 4 := by omega
      have HE := Lib.hid HR.out.row
      rw [HP.out] at HE
      have HO := Lib.hid HR.out.only
      clear HR H0 HP
      go_wp2_with fail
      go_end0
      exact ⟨rfl, HE.out, HO.out⟩
set_option maxHeartbeats 1600000 in
theorem put_8 (g N o c n : Nat) (us : List Nat) (w : World) (hR : Row5 w g N us) (hk : o + 8 ≤ N) (hn : n ≤ 4611686018427387904) :
    Calls Tryz.prog 146 #[.slice (some ⟨g, o, none⟩) 8 c, .int .i64 (n : Int)] w fun e w' => e = .returned (.tuple #[]) ∧ Row5 w' g N (lay us o (be 8 n)) ∧ Only g w w' := by
  have HP := Lib.hid (putN_all us o 8 n (by rw [hR.len]; exact hk))
  have H0 : Hid (PutRel w w g N us o 8 n 0) := Lib.hid ⟨hR, Only.refl _ _⟩
  clear hR
  go_enter Tryz.func146, Tryz.ntmps146
  go_wp2_with fail
  go_loopw [7] (fun iv wr => ∃ j : Nat, j ≤ 8 ∧ iv = .int .i64 (j : Int) ∧ Hid (PutRel w wr g N us o 8 n j)) (fun iv _ => 8 - (intOf iv).toNat)
  case atStart => exact ⟨0, by omega, by go_num, H0⟩
  case round =>
    obtain ⟨j, hj, rfl, HR⟩ := hrel
    by_cases hlt : j < 8
    · have hf := HR.out.row.fz (o + (8 - 1 - j))
      have hc := HR.out.row.cell (o + (8 - 1 - j)) (by omega)
      have HN := Lib.hid HR.out.next
      clear HR H0
      generalize (putN us o 8 n j).getD (o + (8 - 1 - j)) 0 = old at *
      rcases (show j = 0 ∨ j = 1 ∨ j = 2 ∨ j = 3 ∨ j = 4 ∨ j = 5 ∨ j = 6 ∨ j = 7 by omega) with rfl | rfl | rfl | rfl | rfl | rfl | rfl | rfl
      all_goals
        simp only [Nat.reduceSub, Nat.add_zero] at hc hf
        go_wp2_with fail
        go_roundw
        case rel =>
          refine ⟨_, hlt, by go_num, ?_⟩
          first
            | exact HN
            | (rw [Nat.pow_zero, Nat.div_one] at HN; exact HN)
            | (rw [Nat.mod_eq_of_lt (show n / 256 ^ 7 < 256 by omega)] at HN; exact HN)
        case measure => simp [intOf]
    · obtain rfl : j = 8 := by omega
      have HE := Lib.hid HR.out.row
      rw [HP.out] at HE
      have HO := Lib.hid HR.out.only
      clear HR H0 HP
      go_wp2_with fail
      go_end0
      exact ⟨rfl, HE.out, HO.out⟩
end Go.Proofs.YthcnofdihigohaaGreat
end
section
/- What Encode's steps lay into memory. -/
set_option maxRecDepth 20000
namespace Go.Proofs.YthcnofdihigohaaGreat
open Go.RowKit

theorem lt_of_block {w : World} {b : Nat} {o : Obj} (h : w.heap[b]? = some o) : b < w.heap.size := by
  rcases Nat.lt_or_ge b w.heap.size with h1 | h1
  · exact h1
  · rw [Array.getElem?_eq_none h1] at h; cases h
theorem Row5.cur {w : World} {g N : Nat} {us : List Nat} (h : Row5 w g N us) : w.heap[g]? = some (.cells (u8s us).toArray 5 (0, 0)) ∧ N ≤ maxLen := by
  have hl := h.len
  rcases h.2 with ⟨h0, _⟩ | ⟨g', cap, cur, h0, _, hh, h1, h2, h3, h4⟩
  · cases h0
  · cases h0
    rw [Nat.mul_one] at h3 h4
    refine ⟨?_, h2⟩
    rw [hh, ← h4, List.take_of_length_le (by rw [Array.length_toList]; omega), Array.toArray_toList]
theorem Row5.of_cur {w : World} {g N : Nat} {us : List Nat} (h : w.heap[g]? = some (.cells (u8s us).toArray 5 (0, 0))) (hl : us.length = N) (hN : N ≤ maxLen) : Row5 w g N us :=
  ⟨by rw [u8s_len]; omega, .inr ⟨g, N, _, rfl, Nat.zero_le _, h, Nat.le_refl _, hN, by rw [List.size_toArray, u8s_len]; omega, by
    show List.take (N * 1) (u8s us) = u8s us
    rw [List.take_of_length_le (by rw [u8s_len]; omega)]⟩⟩
theorem Only.setRow {w : World} (g : Nat) (cs : Array Value) : Only g w (w.setRow g cs) :=
  ⟨rfl, rfl, rfl, by simp, fun k _ hk => setRow_other w g k cs hk⟩
/-- The name is copied over a row's bytes. -/
theorem copy_name {w : World} {g o l c N : Nat} {us : List Nat} (h : Row5 w g N us) (hk : o + 4 ≤ N) (hl : 4 ≤ l) (ty : TypeId) :
    ∃ w', (Builtin.copy_ #[94, 9] ty #[.slice (some ⟨g, o, none⟩) l c, .string ⟨#[72, 73, 66, 82]⟩]).run Tryz.prog w = .ok (.int .i64 4) w' ∧ Row5 w' g N (lay us o nameB) ∧ Only g w w' := by
  obtain ⟨hc, hN⟩ := h.cur
  have hle := h.len
  have hst := run_storeCells_at Tryz.prog g o 5 (u8s nameB) 0 _ w hc (by rw [List.size_toArray, u8s_len, u8s_len]; show o + 0 + 4 ≤ _; omega) (u8s_one _)
  obtain ⟨i0, hi, hz0, hz1, hz2⟩ := info_parts Tryz.info5
  refine ⟨_, ?_, ?_, Only.setRow g ((u8s (lay us o nameB)).toArray)⟩
  · have hmin : Nat.min 4 l = 4 := Nat.min_eq_left hl
    have e : ((List.take (o + 0) (u8s us).toArray.toList ++ u8s nameB ++ List.drop (o + 0 + (u8s nameB).length) (u8s us).toArray.toList).toArray) = (u8s (lay us o nameB)).toArray := by
      unfold lay
      rw [u8s_append, u8s_append, u8s_len, Nat.add_zero]
      unfold u8s
      simp [List.map_take, List.map_drop]
    rw [e] at hst
    have hsz : (⟨#[72, 73, 66, 82]⟩ : ByteArray).size = 4 := rfl
    have hrun : ((Builtin.copy_ #[94, 9] ty #[.slice (some ⟨g, o, none⟩) l c, .string ⟨#[72, 73, 66, 82]⟩]).run Tryz.prog w) = .ok (goInt (⟨#[72, 73, 66, 82]⟩ : ByteArray).size) (w.setRow g (u8s (lay us o nameB)).toArray) := by
      simp [Builtin.copy_, run_underlying Tryz.underlying94, Builtin.lenOf, Builtin.firstCells, sizeOf, typeInfo, hi, hsz, hmin]
      rw [show [Value.int IntKind.u8 72, Value.int IntKind.u8 73, Value.int IntKind.u8 66, Value.int IntKind.u8 82] = u8s nameB from rfl, hst]
      simp [Result.andThen]
    exact hrun
  · exact Row5.of_cur (setRow_heap w g _ _ _ _ hc) (by rw [lay_len _ _ _ (by show o + 4 ≤ _; omega)]; exact hle) hN
theorem lay_next (A bs : List Nat) (m o : Nat) (hA : A.length = o) (_hb : bs.length ≤ m) : lay (A ++ List.replicate m 0) o bs = (A ++ bs) ++ List.replicate (m - bs.length) 0 := by
  unfold lay
  rw [take_app A _ hA, drop_app A _ hA, List.drop_replicate, List.append_assoc]
def rows0 (en : Nat) : List Nat := lay (lay (List.replicate 116 0) 0 (be 8 en)) 8 nameB
def rows (en pn dn wn : Nat) : Nat → List Nat
  | 0 => rows0 en
  | 1 => lay (rows0 en) 12 (be 4 pn)
  | 2 => lay (lay (rows0 en) 12 (be 4 pn)) 16 (be 4 dn)
  | _ => lay (lay (lay (rows0 en) 12 (be 4 pn)) 16 (be 4 dn)) 20 (be 4 wn)
theorem rows_all (en pn dn wn : Nat) : rows en pn dn wn 3 = body ⟨(en : Int), (pn : Int), (dn : Int), (wn : Int)⟩ := by
  show lay (lay (lay (lay (lay (List.replicate 116 0) 0 (be 8 en)) 8 nameB) 12 (be 4 pn)) 16 (be 4 dn)) 20 (be 4 wn) = _
  have h0 := lay_next [] (be 8 en) 116 0 rfl (by rw [be_len]; omega)
  rw [List.nil_append, List.nil_append, be_len] at h0
  rw [h0, lay_next _ nameB _ 8 (by rw [be_len]) (by show 4 ≤ _; omega), lay_next _ (be 4 pn) _ 12 (by rw [List.length_append, be_len]; rfl) (by rw [be_len]; show 4 ≤ 116 - 8 - 4; omega),
    lay_next _ (be 4 dn) _ 16 (by rw [List.length_append, List.length_append, be_len, be_len]; rfl) (by rw [be_len, be_len]; show 4 ≤ 116 - 8 - 4 - 4; omega),
    lay_next _ (be 4 wn) _ 20 (by rw [List.length_append, List.length_append, List.length_append, be_len, be_len, be_len]; rfl) (by rw [be_len, be_len, be_len]; show 4 ≤ 116 - 8 - 4 - 4 - 4; omega)]
  unfold body
  rw [be_len, be_len, be_len]
  show _ ++ List.replicate (116 - 8 - 4 - 4 - 4 - 4) 0 = _
  simp only [List.append_assoc, Int.toNat_natCast]
structure EncRel (w wr : World) (g a b : Nat) (R : Rt) (V : Array Value) (us : List Nat) : Prop where
  row : Row5 wr g 116 us
  rt : RtAt wr b 74 R
  arr : wr.heap[a]? = some (.cells V 190 (0, 0))
  below : Below w.heap.size w wr
theorem EncRel.only {w wr w' : World} {g a b : Nat} {R : Rt} {V : Array Value} {us us2 : List Nat} (h : EncRel w wr g a b R V us) (hr : Row5 w' g 116 us2) (ho : Only g wr w') (hb : b ≠ g) (ha : a ≠ g) (hg : w.heap.size ≤ g) : EncRel w w' g a b R V us2 :=
  ⟨hr, h.rt.only ho hb, (ho.block a (lt_of_block h.arr) ha).trans h.arr, ho.below h.below h.below.size hg⟩
theorem EncRel.drew {w wr : World} {g a b : Nat} {R : Rt} {V : Array Value} {us : List Nat} (h : EncRel w wr g a b R V us) : EncRel w wr.drew g a b R V us := ⟨h.row.below (Below.refl _ _).drew, h.rt.below (Below.refl _ _).drew, h.arr, h.below.drew⟩
set_option maxHeartbeats 400000 in
theorem fieldPlace_any (i : Nat) (w : World) (hi : i < 3) : Calls Tryz.prog 147 #[.int .i64 (i : Int)] w fun e w' => e = .returned (.int .i64 ((12 + 4 * i : Nat) : Int)) ∧ w = w' := by
  have HE : Hid (((12 + 4 * i : Nat) : Int) = 12 + (i : Int) * 4) := Lib.hid (by omega)
  rw [HE.out]
  go_enter Tryz.func147, Tryz.ntmps147
  go_wp2_with fail
  go_ret
  exact ⟨rfl, rfl⟩
end Go.Proofs.YthcnofdihigohaaGreat
end
