/- Tokens that were scanned, joined and scanned again, are the same. -/
import Derived.Test.YtjpbbooeihdnfaaDoorLT2
import Derived.Test.YtjpbbooeihdnfaaDoorLP3
set_option maxRecDepth 20000
set_option linter.unusedSimpArgs false
set_option linter.unusedVariables false
namespace Go.Proofs.YtjpbbooeihdnfaaDoor

theorem fitV_64 (x : Int) : Is64 (fitV x) := by
  unfold fitV
  by_cases h : fitB x = true
  · rw [if_pos h]
    have := of_decide_eq_true (p := -9223372036854775808 ≤ x ∧ x ≤ 9223372036854775807) h
    exact this
  · rw [if_neg h]; exact ⟨by decide, by decide⟩
theorem parseV_64 (b : Nat) (L : List UInt8) : Is64 (parseV b L) := by
  unfold parseV
  split
  · exact ⟨by decide, by decide⟩
  · exact fitV_64 _
theorem valT_lt : ∀ (k : Nat) (l : List UInt8), l.length = k → okT 10 l = true → valT 10 l < 10 ^ l.length
  | 0, l, hl, _ => by rw [List.eq_nil_of_length_eq_zero hl]; decide
  | k + 1, l, hl, h => by
    rcases List.eq_nil_or_concat l with rfl | ⟨l, c, rfl⟩
    · simp at hl
    · rw [List.concat_eq_append] at hl h ⊢
      rw [List.length_append] at hl
      rw [okT_snoc, Bool.and_eq_true] at h
      have h1 := valT_lt k l (by simpa using hl) h.1
      have h2 := of_decide_eq_true h.2
      rw [valT_snoc, List.length_append]
      show _ < 10 ^ (l.length + 1)
      rw [Nat.pow_succ]; omega
theorem lab_num (d : List UInt8) (h3 : d.length ≤ 3) (h1 : d ≠ []) (hd : ∀ c ∈ d, isDig c = true) : ∃ n : Nat, n < 1000 ∧ parseV 10 d = (n : Int) := by
  obtain ⟨c, t, rfl⟩ := List.exists_cons_of_ne_nil h1
  have hc := hd c (List.mem_cons_self ..)
  have hn : c ≠ 45 ∧ c ≠ 43 := ⟨fun e => by rw [e] at hc; exact absurd hc (by decide), fun e => by rw [e] at hc; exact absurd hc (by decide)⟩
  have hg : cutG (c :: t) = 1 := by unfold cutG; split <;> simp_all
  unfold parseV
  split
  · exact ⟨0, by decide, rfl⟩
  · rename_i hx
    have hok : okT 10 (cutR (c :: t)) = true := by
      cases ho : okT 10 (cutR (c :: t)) with
      | true => rfl
      | false => exact absurd (Or.inr ho) hx
    have h4 := valT_lt _ _ rfl hok
    have h5 := cutR_len (c :: t)
    have h6 : 10 ^ (cutR (c :: t)).length ≤ 10 ^ 3 := Nat.pow_le_pow_right (by decide) (by omega)
    have h7 : (10 : Nat) ^ 3 = 1000 := by decide
    rw [hg, Int.one_mul]
    exact ⟨valT 10 (cutR (c :: t)), by omega, fitV_yes ⟨by omega, by omega⟩⟩
theorem lab_gd {L : List UInt8} {k z : Nat} {n : Int} (h : labO L = some (k, n, z)) : Gd ⟨k, n, []⟩ := by
  rw [labO_eq] at h
  split at h
  · have hall : ∀ c ∈ (L.drop 1).takeWhile isDig, isDig c = true := fun c hc => List.all_eq_true.1 List.all_takeWhile c hc
    generalize hD : (L.drop 1).takeWhile isDig = D at h hall
    by_cases hb : D.length < 1 ∨ 3 < D.length ∨ D.length = (L.drop 1).length
    · rw [if_pos hb] at h; cases h
    · rw [if_neg hb] at h
      obtain ⟨m, hm, hv⟩ := lab_num D (by omega) (fun e => by rw [e] at hb; simp at hb) hall
      rw [hv] at h
      split at h
      · injection h with h; injection h with a b; injection b with b c; subst a; subst b; exact .lab m hm
      · split at h
        · injection h with h; injection h with a b; injection b with b c; subst a; subst b; exact .again m hm
        · cases h
  · cases h
theorem mark_lt (L : List UInt8) : ∀ (j k : Nat), markGo L j = some k → k < j
  | 0, k, h => by cases h
  | j + 1, k, h => by
    unfold markGo at h
    split at h
    · injection h with h; omega
    · have := mark_lt L j k h; omega
theorem unq_lt : ∀ (f : Nat) (L : List UInt8) (i : Nat) (l : List UInt8), unq f L i = .ok l → ∀ c ∈ l, c.toNat < 128
  | 0, L, i, l, h, c, hc => by injection h with h; subst h; cases hc
  | f + 1, [], i, l, h, c, hc => by injection h with h; subst h; cases hc
  | f + 1, d :: t, i, l, h, c, hc => by
    rw [unq] at h
    generalize (if d = 92 then esc (d :: t) else (d.toNat, 1)) = r at h
    by_cases hz : r.2 = 0 ∨ 128 ≤ r.1
    · rw [if_pos hz] at h; cases h
    · rw [if_neg hz] at h
      revert h
      cases hu : unq f ((d :: t).drop r.2) (i + r.2) with
      | error j => intro h; cases h
      | ok l' =>
        intro h
        injection h with h
        subst h
        rcases List.mem_cons.1 hc with rfl | hc
        · have : r.1 < 128 := by omega
          rw [UInt8.toNat_ofNat']; omega
        · exact unq_lt f _ _ _ hu c hc
theorem hiB_lt {L : List UInt8} (h : hiB L = none) : ∀ c ∈ L, c.toNat < 128 := by
  intro c hc
  unfold hiB at h
  rw [List.findIdx?_eq_none_iff] at h
  have := of_decide_eq_false (h c hc)
  omega
theorem nms_lt : ∀ x ∈ nms, x.2 < 128 := by decide
theorem chr_lt {L : List UInt8} {n : Nat} (hL : ∀ c ∈ L, c.toNat < 128) (h : chrO L = some n) : n < 128 := by
  unfold chrO at h
  split at h
  · unfold charO at h
    by_cases h1 : (L.drop 2).length = 1
    · rw [if_pos h1] at h
      injection h with h
      obtain ⟨c, hc⟩ : ∃ c, L.drop 2 = [c] := List.length_eq_one_iff.1 h1
      rw [hc] at h
      rw [← h]
      exact hL c (List.mem_of_mem_drop (i := 2) (by rw [hc]; exact List.mem_cons_self ..))
    · rw [if_neg h1] at h
      revert h
      cases hl : nms.lookup (L.drop 2) with
      | some m =>
        intro h
        injection h with h
        subst h
        have : ∃ k, (k, m) ∈ nms := by
          generalize nms = q at hl
          induction q with
          | nil => cases hl
          | cons x q ih =>
            obtain ⟨a, b⟩ := x
            rw [List.lookup_cons] at hl
            split at hl
            · injection hl with hl; subst hl; exact ⟨a, List.mem_cons_self ..⟩
            · obtain ⟨k, hk⟩ := ih hl; exact ⟨k, List.mem_cons_of_mem _ hk⟩
        obtain ⟨k, hk⟩ := this
        exact nms_lt _ hk
      | none =>
        intro h
        have h : (if [120].isPrefixOf (L.drop 2) then byteO ((L.drop 2).drop 1) else none) = some n := h
        split at h
        · unfold byteO at h
          split at h
          · rename_i hb
            injection h with h
            unfold byteOk at hb
            rw [Bool.and_eq_true, Bool.and_eq_true] at hb
            have := of_decide_eq_true hb.2.2
            omega
          · cases h
        · cases h
  · cases h
theorem gd_step {L : List UInt8} {t : Tk} {m : Nat} {b : Bool} (h : stepM L = .tok t m b) : Gd t := by
  have h00 := h
  cases hq : L with
  | nil => rw [hq] at h; cases h
  | cons c A =>
    have hno : ∀ n, passM L n ≠ .tok t m b := fun n => by
      rcases passM_is L n with ⟨i, x, hp⟩ | hp <;> rw [hp] <;> intro e <;> cases e
    rw [step_eq hq] at h
    by_cases c1 : isBlank c = true
    · rw [if_pos c1] at h; exact absurd h (hno _)
    · rw [if_neg c1] at h
      by_cases c2 : c = 59
      · rw [if_pos c2] at h; exact absurd h (hno _)
      · rw [if_neg c2] at h
        by_cases c3 : [35, 124].isPrefixOf L = true
        · rw [if_pos c3] at h; exact absurd h (hno _)
        · rw [if_neg c3] at h
          by_cases c4 : c = 34
          · rw [if_pos c4] at h
            unfold quotM at h
            split at h
            · cases h
            · revert h
              cases hu : unq (qsz L) ((L.take (qsz L - 1)).drop 1) 0 with
              | error j => intro h; cases h
              | ok l =>
                intro h
                injection h with h1 h2 h3
                subst h1
                exact .str l (unq_lt _ _ _ _ hu)
          · rw [if_neg c4] at h
            cases hmk : markO L with
            | some k =>
              rw [hmk] at h
              injection h with h1 h2 h3
              subst h1
              exact .mark k (mark_lt L 9 k hmk)
            | none =>
              rw [hmk] at h
              cases hlb : labO L with
              | some x =>
                obtain ⟨k, n, z⟩ := x
                rw [hlb] at h
                injection h with h1 h2 h3
                subst h1
                exact lab_gd hlb
              | none =>
                rw [hlb] at h
                have h' : wrdM L = .tok t m b := h
                unfold wrdM at h'
                by_cases he : (wordM (L.take (wsz L))).2 ≠ 0
                · rw [if_pos he] at h'; cases h'
                · rw [if_neg he] at h'
                  have he : (wordM (L.take (wsz L))).2 = 0 := by
                    rcases Int.lt_trichotomy (wordM (L.take (wsz L))).2 0 with x | x | x
                    · exact absurd (by omega) he
                    · exact x
                    · exact absurd (by omega) he
                  revert h'
                  cases hh : hiB (L.take (wsz L)) with
                  | some j => intro h'; cases h'
                  | none =>
                    intro h'
                    have hw := hiB_lt hh
                    injection h' with h1 h2 h3
                    have hstep : t = ⟨14, 0, L.take (wsz L)⟩ → stepM (L.take (wsz L)) = .tok t (L.take (wsz L)).length true := fun _ => by
                      have hp := step_pos (L := L) (by rw [hq]; simp)
                      obtain ⟨hp1, hp2⟩ := hp.2.1 t m b h00
                      have hs := step_take (m := m) h00 (by show m ≠ 0; omega) (Nat.le_refl _)
                      have : L.take m = L.take (wsz L) := by
                        rw [List.length_take] at h2
                        by_cases hle : wsz L ≤ L.length
                        · rw [Nat.min_eq_left hle] at h2; rw [h2]
                        · exact absurd (wsz_le L) hle
                      rw [this] at hs
                      rw [hs, h2, ← h3]
                    generalize hW : L.take (wsz L) = W at he hw h1 hstep
                    unfold wordM at he h1
                    by_cases w1 : W = [46]
                    · rw [if_pos w1] at h1; subst h1; exact .dot
                    · rw [if_neg w1] at he h1
                      by_cases w2 : parseE (cutB W).1 (cutB W).2 ≠ 4
                      · rw [if_pos w2] at h1; subst h1; exact .int _ (parseV_64 _ _)
                      · rw [if_neg w2] at he h1
                        cases hb : boolO W with
                        | some x =>
                          rw [hb] at h1
                          subst h1
                          unfold boolO at hb
                          split at hb
                          · injection hb with hb; subst hb; exact .bool _ (Or.inr rfl)
                          · split at hb
                            · injection hb with hb; subst hb; exact .bool _ (Or.inl rfl)
                            · cases hb
                        | none =>
                          rw [hb] at he h1
                          cases hc : chrO W with
                          | some n =>
                            rw [hc] at h1
                            subst h1
                            exact .char n (chr_lt hw hc)
                          | none =>
                            rw [hc] at he h1
                            by_cases w3 : W = [] ∨ W.contains 35 = true ∨ begN W = true
                            · have he : (if W = [] ∨ W.contains 35 = true ∨ begN W = true then ((⟨0, 0, []⟩ : Tk), (4 : Int)) else if 32 < W.length then (⟨0, 0, []⟩, 2) else (⟨14, 0, W⟩, 0)).2 = 0 := he
                              rw [if_pos w3] at he; cases he
                            · have he : (if W = [] ∨ W.contains 35 = true ∨ begN W = true then ((⟨0, 0, []⟩ : Tk), (4 : Int)) else if 32 < W.length then (⟨0, 0, []⟩, 2) else (⟨14, 0, W⟩, 0)).2 = 0 := he
                              have h1 : (if W = [] ∨ W.contains 35 = true ∨ begN W = true then ((⟨0, 0, []⟩ : Tk), (4 : Int)) else if 32 < W.length then (⟨0, 0, []⟩, 2) else (⟨14, 0, W⟩, 0)).1 = t := h1
                              rw [if_neg w3] at he h1
                              by_cases w4 : 32 < W.length
                              · rw [if_pos w4] at he; cases he
                              · rw [if_neg w4] at h1
                                have h1 : (⟨14, 0, W⟩ : Tk) = t := h1
                                have hs := hstep h1.symm
                                subst h1
                                exact .sym W hs
theorem scan_gd : ∀ (f : Nat) (L : List UInt8) (a : Nat) (tight : Bool) (l0 l : List (Tk × Nat)) (n : Nat) (e : Int), (∀ x ∈ l0, Gd x.1) → scanM L f a tight l0 = (some l, n, e) → ∀ x ∈ l, Gd x.1 := by
  intro f
  induction f with
  | zero => intro L a tight l0 l n e h0 h; injection h with h1 _; injection h1 with h1; subst h1; exact h0
  | succ f ih =>
    intro L a tight l0 l n e h0 h
    by_cases hlt : a < L.length
    · rw [scanM_succ _ _ _ _ _ hlt] at h
      generalize (!tight || parts (L.getD a 0)) = ap at h
      cases hst : stepM (L.drop a) with
      | err i y =>
        rw [hst] at h
        cases ap with
        | true => rw [s_err] at h; cases h
        | false =>
          by_cases hi : 0 < i
          · rw [s_err1 _ _ _ _ _ _ hi] at h; cases h
          · rw [s_err2 _ _ _ _ _ _ hi] at h; cases h
      | pass m =>
        rw [hst] at h
        cases ap with
        | true => rw [s_pass] at h; exact ih _ _ _ _ _ _ _ h0 h
        | false => rw [s_pass0] at h; cases h
      | tok t m b =>
        rw [hst] at h
        cases ap with
        | true =>
          rw [s_tok] at h
          refine ih _ _ _ _ _ _ _ (fun x hx => ?_) h
          rcases List.mem_append.1 hx with hx | hx
          · exact h0 x hx
          · rw [List.mem_singleton.1 hx]; exact gd_step hst
        | false => rw [s_tok0] at h; cases h
    · rw [scan_end _ _ _ _ _ (by omega)] at h; injection h with h1 _; injection h1 with h1; subst h1; exact h0
theorem scanT_gd {L : List UInt8} {l : List (Tk × Nat)} {n : Nat} {e : Int} (h : scanT L = (some l, n, e)) : ∀ x ∈ l, Gd x.1 := by
  unfold scanT at h
  split at h
  · cases h
  · exact scan_gd _ _ _ _ _ _ _ _ (fun x hx => by cases hx) h
/-- Tokens' texts with blanks between. -/
def joinM : List Tk → List UInt8
  | [] => []
  | [t] => texM t
  | t :: u :: r => texM t ++ 32 :: joinM (u :: r)
theorem drop_len {L : List UInt8} {a : Nat} {X Y : List UInt8} (h : L.drop a = X ++ Y) : L.drop (a + X.length) = Y := by
  rw [← List.drop_drop, h, List.drop_left]
theorem join_scan : ∀ (l : List Tk), (∀ t ∈ l, Gd t) → ∀ (L : List UInt8) (f a : Nat) (acc : List (Tk × Nat)), L.drop a = joinM l → a ≤ L.length → L.length - a < f →
    ∃ l', scanM L f a false acc = (some (acc ++ l'), L.length, 0) ∧ l'.map (·.1) = l
  | [], _, L, f, a, acc, h, ha, hf => by
    have hl : L.length ≤ a := List.drop_eq_nil_iff.1 h
    refine ⟨[], ?_, rfl⟩
    rw [scan_end _ _ _ _ _ hl, List.append_nil]
    have : a = L.length := by omega
    rw [this]
  | [t], hg, L, f + 1, a, acc, h, ha, hf => by
    have ht := tok_ok (hg t (List.mem_cons_self ..))
    have h : L.drop a = texM t := h
    have hne : texM t ≠ [] := fun e => by rw [e] at ht; cases ht
    have hlt : a < L.length := by
      have := congrArg List.length h
      rw [List.length_drop] at this
      have := List.length_pos_iff.2 hne
      omega
    have hd := drop_len (X := texM t) (Y := []) (by rw [h, List.append_nil])
    have hl : L.length ≤ a + (texM t).length := List.drop_eq_nil_iff.1 hd
    have hle : a + (texM t).length = L.length := by
      have := congrArg List.length h
      rw [List.length_drop] at this
      omega
    refine ⟨[(t, a)], ?_, rfl⟩
    rw [scanM_succ _ _ _ _ _ hlt, h, ht]
    show scanS L f a acc true _ = _
    rw [s_tok, scan_end _ _ _ _ _ hl, hle]
  | t :: u :: r, hg, L, f + 1, a, acc, h, ha, hf => by
    have ht := tok_ok (hg t (List.mem_cons_self ..))
    have h : L.drop a = texM t ++ 32 :: joinM (u :: r) := h
    have hne : texM t ≠ [] := fun e => by rw [e] at ht; cases ht
    have hp := List.length_pos_iff.2 hne
    have hlen := congrArg List.length h
    rw [List.length_drop, List.length_append, List.length_cons] at hlen
    have hlt : a < L.length := by omega
    have hd := drop_len (X := texM t) h
    have hd2 := drop_len (X := [32]) (Y := joinM (u :: r)) hd
    have hlt2 : a + (texM t).length < L.length := by omega
    have hg2 : L.getD (a + (texM t).length) 0 = 32 := by
      rw [List.getD_eq_getElem?_getD]
      have : (L.drop (a + (texM t).length))[0]? = some 32 := by rw [hd]; rfl
      rw [List.getElem?_drop] at this
      rw [show a + (texM t).length = a + (texM t).length + 0 from rfl, this]; rfl
    cases f with
    | zero => omega
    | succ f =>
      obtain ⟨l', h1, h2⟩ := join_scan (u :: r) (fun x hx => hg x (List.mem_cons_of_mem _ hx)) L f (a + (texM t).length + [(32 : UInt8)].length) (acc ++ [(t, a)]) hd2 (by simp; omega) (by simp; omega)
      refine ⟨(t, a) :: l', ?_, by rw [List.map_cons, h2]⟩
      rw [scanM_succ _ _ _ _ _ hlt, h, step_blank ht]
      show scanS L (f + 1) a acc true _ = _
      rw [s_tok, scanM_succ _ _ _ _ _ hlt2, hg2, show parts 32 = true from rfl, Bool.or_true, hd]
      have hps : stepM (32 :: joinM (u :: r)) = .pass 1 := rfl
      rw [hps, s_pass]
      show scanM L f (a + (texM t).length + [(32 : UInt8)].length) false _ = _
      rw [h1, List.append_assoc]
      rfl
theorem scanT_join (l : List Tk) (hg : ∀ t ∈ l, Gd t) (hl : (joinM l).length ≤ 4096) : ∃ l', scanT (joinM l) = (some l', (joinM l).length, 0) ∧ l'.map (·.1) = l := by
  obtain ⟨l', h1, h2⟩ := join_scan l hg (joinM l) ((joinM l).length + 1) 0 [] (by rw [List.drop_zero]) (Nat.zero_le _) (by omega)
  refine ⟨l', ?_, h2⟩
  unfold scanT
  rw [if_neg (by omega), h1]
  rfl
end Go.Proofs.YtjpbbooeihdnfaaDoor
