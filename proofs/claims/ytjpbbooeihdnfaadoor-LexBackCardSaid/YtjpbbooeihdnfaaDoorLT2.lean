/- Each token that a scan takes is a token of which a step over its text takes just that token. -/
import Derived.Test.YtjpbbooeihdnfaaDoorLT1
set_option maxRecDepth 20000
set_option linter.unusedSimpArgs false
set_option linter.unusedVariables false
namespace Go.Proofs.YtjpbbooeihdnfaaDoor

/-- Tokens that a scan takes. -/
inductive Gd : Tk → Prop
  | mark (k : Nat) (h : k < 9) : Gd ⟨k, 0, []⟩
  | dot : Gd ⟨9, 0, []⟩
  | int (n : Int) (h : Is64 n) : Gd ⟨10, n, []⟩
  | bool (b : Int) (h : b = 0 ∨ b = 1) : Gd ⟨11, b, []⟩
  | char (n : Nat) (h : n < 128) : Gd ⟨12, (n : Int), []⟩
  | str (s : List UInt8) (h : ∀ c ∈ s, c.toNat < 128) : Gd ⟨13, 0, s⟩
  | sym (s : List UInt8) (h : stepM s = .tok ⟨14, 0, s⟩ s.length true) : Gd ⟨14, 0, s⟩
  | lab (n : Nat) (h : n < 1000) : Gd ⟨15, (n : Int), []⟩
  | again (n : Nat) (h : n < 1000) : Gd ⟨16, (n : Int), []⟩

theorem mark_ok : ∀ k : Fin 9, stepM (mks.getD k.1 []) = .tok ⟨k.1, 0, []⟩ (mks.getD k.1 []).length false := by decide +kernel
theorem char_ok : ∀ n : Fin 128, stepM (35 :: 92 :: chrT n.1) = .tok ⟨12, (n.1 : Int), []⟩ (35 :: 92 :: chrT n.1).length true := by decide +kernel
theorem lab_ok : ∀ n : Fin 1000, stepM (35 :: (numText 10 (n.1 : Int) ++ [61])) = .tok ⟨15, (n.1 : Int), []⟩ (35 :: (numText 10 (n.1 : Int) ++ [61])).length false := by decide +kernel
theorem again_ok : ∀ n : Fin 1000, stepM (35 :: (numText 10 (n.1 : Int) ++ [35])) = .tok ⟨16, (n.1 : Int), []⟩ (35 :: (numText 10 (n.1 : Int) ++ [35])).length true := by decide +kernel
/-- What a number's text consists of. -/
def numC (c : UInt8) : Bool := isDig c || c == 45
theorem ch_num : ∀ d : Fin 10, numC (ch d.1) = true := by decide
theorem num_all (n : Int) : ∀ c ∈ numText 10 n, numC c = true := by
  intro c hc
  unfold numText at hc
  rcases List.mem_append.1 hc with h | h
  · split at h
    · rw [List.mem_singleton.1 h]; decide
    · cases h
  · obtain ⟨d, hd, rfl⟩ := List.mem_map.1 h
    exact ch_num ⟨d, bd_dig 10 (by decide) 64 n.natAbs d (List.mem_reverse.1 hd)⟩
theorem num_ne (n : Int) : numText 10 n ≠ [] := by
  intro h
  have := (List.append_eq_nil_iff.1 h).2
  exact bd_ne 10 64 n.natAbs (by simpa using this)
theorem num_facts : ∀ n : Fin 256, numC (UInt8.ofNat n.1) = true → isBlank (UInt8.ofNat n.1) = false ∧ UInt8.ofNat n.1 ≠ 59 ∧ UInt8.ofNat n.1 ≠ 35 ∧ UInt8.ofNat n.1 ≠ 34 ∧ UInt8.ofNat n.1 ≠ 46 ∧ inW (UInt8.ofNat n.1) = true ∧ n.1 < 128 ∧ ∀ j : Fin 9, (mks.getD j.1 []).head? ≠ some (UInt8.ofNat n.1) := by decide +kernel
theorem num_fact {c : UInt8} (h : numC c = true) : isBlank c = false ∧ c ≠ 59 ∧ c ≠ 35 ∧ c ≠ 34 ∧ c ≠ 46 ∧ inW c = true ∧ c.toNat < 128 ∧ ∀ j : Fin 9, (mks.getD j.1 []).head? ≠ some c := by
  have := num_facts ⟨c.toNat, UInt8.toNat_lt c⟩
  rw [UInt8.ofNat_toNat] at this
  exact this h
theorem pfx_head {p : List UInt8} {c : UInt8} {A : List UInt8} (hp : p ≠ []) (h : p.head? ≠ some c) : p.isPrefixOf (c :: A) = false := by
  cases p with
  | nil => exact absurd rfl hp
  | cons a p =>
    show (a == c && p.isPrefixOf A) = false
    rw [beq_false_of_ne (fun e => h (by rw [e]; rfl))]; rfl
theorem mark_no {c : UInt8} (A : List UInt8) (h : ∀ j : Fin 9, (mks.getD j.1 []).head? ≠ some c) : ∀ j, j ≤ 9 → markGo (c :: A) j = none
  | 0, _ => rfl
  | j + 1, hj => by
    unfold markGo
    have h1 : ∀ i : Fin 9, mks.getD i.1 [] ≠ [] := by decide
    rw [pfx_head (h1 ⟨j, by omega⟩) (h ⟨j, by omega⟩)]
    exact mark_no A h j (by omega)
theorem hiB_no {L : List UInt8} (h : ∀ c ∈ L, c.toNat < 128) : hiB L = none := by
  unfold hiB
  rw [List.findIdx?_eq_none_iff]
  intro c hc
  have := h c hc
  exact decide_eq_false (by omega)
theorem int_ok (n : Int) (hn : Is64 n) : stepM (numText 10 n) = .tok ⟨10, n, []⟩ (numText 10 n).length true := by
  obtain ⟨b1, b2⟩ := back_num 10 n (by decide) (by decide) hn.1 hn.2
  have hall := num_all n
  obtain ⟨c, A, hq⟩ := List.exists_cons_of_ne_nil (num_ne n)
  generalize numText 10 n = T at *
  obtain ⟨f1, f2, f3, f4, f5, f6, f7, f8⟩ := num_fact (hall c (by rw [hq]; exact List.mem_cons_self ..))
  have p35 : ∀ q : List UInt8, (35 :: q).isPrefixOf T = false := fun q => by
    rw [hq]; exact pfx_head (by simp) (by simpa using fun e => f3 e.symm)
  have hmk : markO T = none := by rw [hq]; exact mark_no A f8 9 (Nat.le_refl _)
  have hlb : labO T = none := by rw [labO_eq, p35 []]; rfl
  rw [step_eq hq, if_neg (by rw [f1]; decide), if_neg f2, p35 [124], if_neg (by decide), if_neg f4, hmk, hlb]
  show wrdM T = _
  have hk : wordK T = 0 := by unfold wordK; rw [p35 [92]]; rfl
  have hw : wsz T = T.length := by
    unfold wsz
    rw [hk, List.drop_zero, Nat.zero_add]
    unfold pre
    rw [tw_all fun a ha => (num_fact (hall a ha)).2.2.2.2.2.1]
  have hg : T.getD 0 0 ≠ 35 := by rw [hq]; exact f3
  have hcb : cutB T = (10, T) := by unfold cutB; rw [if_pos (Or.inr hg)]
  have h46 : T ≠ [46] := fun e => f5 (by rw [hq] at e; injection e)
  have hwm : wordM T = (⟨10, n, []⟩, 0) := by
    unfold wordM
    rw [if_neg h46, hcb, b1, b2, if_pos (by decide)]
  unfold wrdM
  rw [hw, List.take_length, hwm, if_neg (by simp), hiB_no fun a ha => (num_fact (hall a ha)).2.2.2.2.2.2.1]
/-- A string's byte, written. -/
inductive Pc (c : UInt8) : List UInt8 → Prop
  | esc (l : UInt8) (h1 : escL.contains l = true) (h2 : escB.getD (escL.idxOf l) 0 = c) : Pc c [92, l]
  | hex (a b : UInt8) (ha : a ≠ 34 ∧ a ≠ 92 ∧ a ≠ 59) (hb : b ≠ 34 ∧ b ≠ 92 ∧ b ≠ 59) (ok : byteOk [a, b] = true) (v : (parseV 16 [a, b]).toNat = c.toNat) : Pc c [92, 120, a, b, 59]
  | self (h : c ≠ 34 ∧ c ≠ 92) : Pc c [c]
theorem hex_all : ∀ n : Fin 128, n.1 < 32 ∨ n.1 = 127 → (ch (n.1 / 16 % 16) ≠ 34 ∧ ch (n.1 / 16 % 16) ≠ 92 ∧ ch (n.1 / 16 % 16) ≠ 59) ∧ (ch (n.1 % 16) ≠ 34 ∧ ch (n.1 % 16) ≠ 92 ∧ ch (n.1 % 16) ≠ 59) ∧ byteOk (two n.1) = true ∧ (parseV 16 (two n.1)).toNat = n.1 := by decide +kernel
theorem escs_all : ∀ c ∈ escW, escL.contains (escT.getD (escW.idxOf c) 0) = true ∧ escB.getD (escL.idxOf (escT.getD (escW.idxOf c) 0)) 0 = c := by decide
theorem piece_pc (c : UInt8) (h : c.toNat < 128) : Pc c (piece c) := by
  unfold piece
  by_cases he : escW.contains c = true
  · rw [if_pos he]
    obtain ⟨h1, h2⟩ := escs_all c (by simpa using he)
    exact .esc _ h1 h2
  · rw [if_neg he]
    have hne : c ≠ 34 ∧ c ≠ 92 := ⟨fun e => he (by rw [e]; decide), fun e => he (by rw [e]; decide)⟩
    by_cases hx : c.toNat < 32 ∨ c = 127
    · rw [if_pos hx]
      obtain ⟨h1, h2, h3, h4⟩ := hex_all ⟨c.toNat, h⟩ (hx.imp id fun e => by show c.toNat = 127; rw [e]; rfl)
      exact .hex _ _ h1 h2 h3 h4
    · rw [if_neg hx]
      exact .self hne
theorem qGo_self {d : UInt8} (t : List UInt8) (j : Nat) (h1 : d ≠ 34) (h2 : d ≠ 92) : qGo (d :: t) j = qGo t (j + 1) := by
  conv => lhs; unfold qGo
  rw [if_neg h1, if_neg h2]
theorem qGo_piece {c : UInt8} {p : List UInt8} (h : Pc c p) (Y : List UInt8) (i : Nat) : qGo (p ++ Y) i = qGo Y (i + p.length) := by
  cases h with
  | esc l h1 h2 => rfl
  | hex a b ha hb ok v =>
    show qGo (92 :: 120 :: a :: b :: 59 :: Y) i = _
    have e1 : qGo (92 :: 120 :: a :: b :: 59 :: Y) i = qGo (a :: b :: 59 :: Y) (i + 2) := rfl
    rw [e1, qGo_self _ _ ha.1 ha.2.1, qGo_self _ _ hb.1 hb.2.1, qGo_self _ _ (by decide) (by decide)]
    rfl
  | self h =>
    exact qGo_self Y i h.1 h.2
theorem body_cons (c : UInt8) (s : List UInt8) : bodyT (c :: s) = piece c ++ bodyT s := rfl
theorem qGo_body (X : List UInt8) : ∀ (s : List UInt8) (i : Nat), (∀ c ∈ s, c.toNat < 128) → qGo (bodyT s ++ X) i = qGo X (i + (bodyT s).length)
  | [], i, _ => rfl
  | c :: s, i, h => by
    rw [body_cons, List.append_assoc, qGo_piece (piece_pc c (h c (List.mem_cons_self ..))), qGo_body X s _ fun d hd => h d (List.mem_cons_of_mem _ hd), List.length_append, Nat.add_assoc]
theorem unq_one (f : Nat) (c : UInt8) (t : List UInt8) (i z n : Nat) (l : List UInt8) (hr : (if c = 92 then esc (c :: t) else (c.toNat, 1)) = (n, z)) (hz : z ≠ 0) (hn : n < 128)
    (hu : unq f ((c :: t).drop z) (i + z) = .ok l) : unq (f + 1) (c :: t) i = .ok (UInt8.ofNat n :: l) := by
  rw [unq, hr]
  show (if z = 0 ∨ 128 ≤ n then _ else (match unq f ((c :: t).drop z) (i + z) with | .ok l => Except.ok (UInt8.ofNat n :: l) | .error j => Except.error j)) = _
  rw [if_neg (by omega), hu]
theorem unq_body : ∀ (s : List UInt8) (f i : Nat), (∀ c ∈ s, c.toNat < 128) → (bodyT s).length ≤ f → unq f (bodyT s) i = .ok s
  | [], f, i, _, _ => by
    cases f <;> rfl
  | c :: s, f, i, h, hf => by
    have hc := h c (List.mem_cons_self ..)
    have hs : ∀ d ∈ s, d.toNat < 128 := fun d hd => h d (List.mem_cons_of_mem _ hd)
    have hp := piece_pc c hc
    have hcc : UInt8.ofNat c.toNat = c := UInt8.ofNat_toNat
    rw [body_cons] at hf ⊢
    rw [List.length_append] at hf
    cases hpe : piece c with
    | nil => rw [hpe] at hp; cases hp
    | cons a u =>
      rw [hpe] at hf
      cases f with
      | zero => rw [List.length_cons] at hf; omega
      | succ f =>
        rw [hpe] at hp
        cases hp with
        | esc l h1 h2 =>
          have hr : (if (92 : UInt8) = 92 then esc (92 :: ([l] ++ bodyT s)) else ((92 : UInt8).toNat, 1)) = (c.toNat, 2) := by
            rw [if_pos rfl]; unfold esc
            show (if escL.contains l = true then ((escB.getD (escL.idxOf l) 0).toNat, 2) else _) = _
            rw [if_pos h1, h2]
          rw [List.cons_append, unq_one f 92 _ i 2 c.toNat s hr (by decide) hc (unq_body s f (i + 2) hs (by simp at hf; omega)), hcc]
        | hex x y ha hb ok v =>
          have hr : (if (92 : UInt8) = 92 then esc (92 :: ([120, x, y, 59] ++ bodyT s)) else ((92 : UInt8).toNat, 1)) = (c.toNat, 5) := by
            rw [if_pos rfl]; unfold esc
            have htw : (x :: y :: 59 :: bodyT s).takeWhile (· != 59) = [x, y] := by
              rw [List.takeWhile_cons, List.takeWhile_cons, List.takeWhile_cons, if_pos (bne_iff_ne.2 ha.2.2), if_pos (bne_iff_ne.2 hb.2.2), if_neg (by decide)]
            show (if escL.contains 120 = true then _ else if [92, 120].isPrefixOf (92 :: 120 :: x :: y :: 59 :: bodyT s) = true ∧ (x :: y :: 59 :: bodyT s).contains 59 = true ∧ byteOk ((x :: y :: 59 :: bodyT s).takeWhile (· != 59)) = true then _ else _) = _
            rw [if_neg (by decide), if_pos ⟨rfl, by simp, by rw [htw]; exact ok⟩]
            show ((parseV 16 ((x :: y :: 59 :: bodyT s).takeWhile (· != 59))).toNat, ((x :: y :: 59 :: bodyT s).takeWhile (· != 59)).length + 3) = _
            rw [htw, v]; rfl
          rw [List.cons_append, unq_one f 92 _ i 5 c.toNat s hr (by decide) hc (unq_body s f (i + 5) hs (by simp at hf; omega)), hcc]
        | self h0 =>
          have hr : (if c = 92 then esc (c :: ([] ++ bodyT s)) else (c.toNat, 1)) = (c.toNat, 1) := if_neg h0.2
          rw [List.cons_append, unq_one f c _ i 1 c.toNat s hr (by decide) hc (unq_body s f (i + 1) hs (by simp at hf; omega)), hcc]
theorem str_ok (s : List UInt8) (h : ∀ c ∈ s, c.toNat < 128) : stepM (quoT s) = .tok ⟨13, 0, s⟩ (quoT s).length true := by
  have hq : quoT s = 34 :: (bodyT s ++ [34]) := rfl
  have hz : qsz (quoT s) = (quoT s).length := by
    show qGo (bodyT s ++ [34]) 1 = _
    rw [qGo_body _ s 1 h]
    show 1 + (bodyT s).length + 1 = (bodyT s ++ [34]).length + 1
    rw [List.length_append]; simp; omega
  have hlen : (quoT s).length = (bodyT s).length + 2 := by rw [hq]; simp
  have hcut : ((quoT s).take ((quoT s).length - 1)).drop 1 = bodyT s := by
    rw [hlen, hq]
    show ((34 :: (bodyT s ++ [34])).take ((bodyT s).length + 1)).drop 1 = _
    rw [List.take_succ_cons, List.drop_succ_cons, List.drop_zero, List.take_left']
    rfl
  rw [step_eq hq, if_neg (by decide), if_neg (by decide), hq, if_neg (by simp [List.isPrefixOf]), if_pos rfl, ← hq]
  unfold quotM
  rw [hz, if_neg (by omega), hcut, unq_body s _ 0 h (by omega)]
/-- How a token parts from what follows. -/
def tgt (t : Tk) : Bool := decide (9 ≤ t.k) && decide (t.k ≠ 15)
theorem tok_ok {t : Tk} (h : Gd t) : stepM (texM t) = .tok t (texM t).length (tgt t) := by
  cases h with
  | mark k hk =>
    have e : texM ⟨k, 0, []⟩ = mks.getD k [] := by unfold texM; simp only; repeat rw [if_neg (by omega)]
    have et : tgt ⟨k, 0, []⟩ = false := by unfold tgt; rw [decide_eq_false (by show ¬ 9 ≤ k; omega)]; rfl
    rw [e, et]; exact mark_ok ⟨k, hk⟩
  | dot => decide +kernel
  | int n hn => exact int_ok n hn
  | bool b hb => rcases hb with rfl | rfl <;> decide +kernel
  | char n hn => exact char_ok ⟨n, hn⟩
  | str s hs => exact str_ok s hs
  | sym s hs => exact hs
  | lab n hn => exact lab_ok ⟨n, hn⟩
  | again n hn => exact again_ok ⟨n, hn⟩
end Go.Proofs.YtjpbbooeihdnfaaDoor
