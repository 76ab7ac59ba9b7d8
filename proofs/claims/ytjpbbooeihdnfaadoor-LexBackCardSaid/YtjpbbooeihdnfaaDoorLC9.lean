/- What stands between quotes. -/
import Derived.Test.YtjpbbooeihdnfaaDoorLC8
set_option maxRecDepth 20000
set_option linter.unusedSimpArgs false
set_option linter.unusedVariables false
namespace Go.Proofs.YtjpbbooeihdnfaaDoor
open Go.RowKit

/-- Does each escape's mark have a byte behind it? -/
def wE : List UInt8 → Bool
  | [] => true
  | [c] => decide (c ≠ 92)
  | c :: d :: t => if c = 92 then wE t else wE (d :: t)
theorem wE_plain {c : UInt8} {t : List UInt8} (hc : c ≠ 92) (h : wE (c :: t) = true) : wE t = true := by
  cases t with
  | nil => rfl
  | cons d t => unfold wE at h; rw [if_neg hc] at h; exact h
theorem wE_esc {t : List UInt8} (h : wE (92 :: t) = true) : t ≠ [] ∧ wE (t.drop 1) = true := by
  cases t with
  | nil => exact absurd h (by decide)
  | cons d t => unfold wE at h; rw [if_pos rfl] at h; exact ⟨by simp, h⟩
theorem wE_skip : ∀ {h r : List UInt8}, (∀ x ∈ h, x ≠ 92) → wE (h ++ r) = true → wE r = true
  | [], r, _, h2 => h2
  | c :: t, r, h1, h2 => wE_skip (h := t) (fun x hx => h1 x (List.mem_cons_of_mem _ hx)) (wE_plain (h1 c (List.mem_cons_self ..)) h2)
theorem byteOk_no {h : List UInt8} (hb : byteOk h = true) : ∀ x ∈ h, x ≠ 92 := by
  unfold byteOk at hb
  rw [Bool.and_eq_true, Bool.and_eq_true] at hb
  have hc : cutR h = h := by
    cases h with
    | nil => rfl
    | cons c t =>
      have e1 : c ≠ 45 := fun e => by rw [e] at hb; simp at hb
      have e2 : c ≠ 43 := fun e => by rw [e] at hb; simp at hb
      unfold cutR; split
      · rename_i h; injection h with h; exact absurd h e1
      · rename_i h; injection h with h; exact absurd h e2
      · rfl
  have he : parseE 16 h = 0 := by simpa using hb.2.1
  unfold parseE at he
  rw [hc] at he
  intro x hx e
  have hok : okT 16 h = true := by
    by_cases h2 : h = [] ∨ okT 16 h = false
    · rw [if_pos h2] at he; exact absurd he (by decide)
    · rw [not_or] at h2; simpa using h2.2
  have := List.all_eq_true.1 hok x hx
  rw [e] at this
  exact absurd this (by decide)
theorem tw_split (p : UInt8 → Bool) : ∀ (l : List UInt8), ∃ r, l = l.takeWhile p ++ r ∧ (r = [] ∨ ∃ c t, r = c :: t ∧ p c = false)
  | [] => ⟨[], rfl, .inl rfl⟩
  | a :: l => by
    rw [List.takeWhile_cons]
    rcases h : p a with _ | _
    · exact ⟨a :: l, rfl, .inr ⟨a, l, rfl, h⟩⟩
    · obtain ⟨r, h1, h2⟩ := tw_split p l
      exact ⟨r, by simp [← h1], h2⟩
/-- A text that is parted at a byte. -/
theorem at_byte {L : List UInt8} {c : UInt8} (h : L.contains c = true) : ∃ r, L = L.takeWhile (· != c) ++ c :: r := by
  obtain ⟨r, h1, h2⟩ := tw_split (· != c) L
  rcases h2 with rfl | ⟨d, t, rfl, hd⟩
  · rw [List.append_nil] at h1
    have hm := List.contains_iff_mem.1 h
    rw [h1] at hm
    have hall : ∀ {l : List UInt8} {x}, x ∈ l.takeWhile (· != c) → (x != c) = true := by
      intro l
      induction l with
      | nil => intro x hx; cases hx
      | cons a l ih =>
        intro x hx
        rw [List.takeWhile_cons] at hx
        rcases ha : a != c with _ | _
        · rw [ha] at hx; simp at hx
        · rw [ha] at hx
          rcases List.mem_cons.1 (by simpa using hx) with rfl | hx
          · exact ha
          · exact ih hx
    have := hall hm
    simp at this
  · have : d = c := by simpa using hd
    exact ⟨t, by rw [← this]; exact this ▸ h1⟩
theorem pre_of {p L : List UInt8} (h : p.isPrefixOf L = true) : ∃ r, L = p ++ r := by
  obtain ⟨r, hr⟩ := List.isPrefixOf_iff_prefix.1 h
  exact ⟨r, hr.symm⟩
/-- Behind an escape. -/
theorem esc_next {t : List UInt8} (h : wE (92 :: t) = true) (hz : (esc (92 :: t)).2 ≠ 0) : wE ((92 :: t).drop (esc (92 :: t)).2) = true ∧ (esc (92 :: t)).2 ≤ t.length + 1 := by
  obtain ⟨hne, h2⟩ := wE_esc h
  unfold esc at hz ⊢
  by_cases c1 : escL.contains ((92 :: t).getD 1 0) = true
  · rw [if_pos c1]
    refine ⟨h2, ?_⟩
    cases t with
    | nil => exact absurd rfl hne
    | cons a t => simp
  · rw [if_neg c1] at hz ⊢
    by_cases c2 : [92, 120].isPrefixOf (92 :: t) = true ∧ ((92 :: t).drop 2).contains 59 = true ∧ byteOk (((92 :: t).drop 2).takeWhile (· != 59)) = true
    · rw [if_pos c2] at hz ⊢
      obtain ⟨k1, k2, k3⟩ := c2
      obtain ⟨r, hr⟩ := pre_of k1
      have ht : t = 120 :: r := by injection hr
      subst ht
      have hd : (92 :: 120 :: r).drop 2 = r := rfl
      rw [hd] at k2 k3 ⊢
      obtain ⟨u, hu⟩ := at_byte k2
      have hw : wE r = true := h2
      generalize hq : r.takeWhile (· != 59) = q at *
      rw [hu] at hw ⊢
      have hw2 := wE_plain (by decide) (wE_skip (byteOk_no k3) hw)
      refine ⟨?_, ?_⟩
      · show wE ((92 :: 120 :: (q ++ 59 :: u)).drop (q.length + 3)) = true
        rw [show (92 :: 120 :: (q ++ 59 :: u)).drop (q.length + 3) = (q ++ 59 :: u).drop (q.length + 1) from rfl]
        rw [List.drop_append, List.drop_of_length_le (by omega), List.nil_append, show q.length + 1 - q.length = 1 by omega]
        exact hw2
      · simp
    · rw [if_neg c2] at hz; exact absurd rfl hz
/-- A prefix ahead of what is found behind. -/
def prf (acc : List UInt8) : Except Nat (List UInt8) → Except Nat (List UInt8)
  | .ok l => .ok (acc ++ l)
  | .error j => .error j
theorem unq_step {g i : Nat} {c : UInt8} {t acc : List UInt8} {b n : Nat} (hr : (if c = 92 then esc (c :: t) else (c.toNat, 1)) = (b, n)) (hn : n ≠ 0) (hb : b < 128) :
    prf acc (unq (g + 1) (c :: t) i) = prf (acc ++ [UInt8.ofNat b]) (unq g ((c :: t).drop n) (i + n)) := by
  have e : unq (g + 1) (c :: t) i = match unq g ((c :: t).drop n) (i + n) with | .ok l => .ok (UInt8.ofNat b :: l) | .error j => .error j := by
    conv => lhs; unfold unq
    simp only [hr]
    rw [if_neg (by omega)]
    rfl
  rw [e]
  cases unq g ((c :: t).drop n) (i + n) with
  | ok l => simp [prf]
  | error j => rfl
theorem unq_bad {g i : Nat} {c : UInt8} {t acc : List UInt8} {b n : Nat} (hr : (if c = 92 then esc (c :: t) else (c.toNat, 1)) = (b, n)) (h : n = 0 ∨ 128 ≤ b) :
    prf acc (unq (g + 1) (c :: t) i) = .error i := by
  conv => lhs; unfold unq
  simp only [hr]
  rw [if_pos h]; rfl
def unqV : Except Nat (List UInt8) → Value
  | .ok l => .tuple #[.string ⟨l.toArray⟩, .int .i64 (-1)]
  | .error j => .tuple #[.string ⟨#[]⟩, .int .i64 (j : Int)]
set_option maxHeartbeats 3200000 in
theorem unquote_any (S : ByteArray) (f : Nat) (w : World) (hE : Env w) (hS : S.size ≤ 5000) (hf : S.size < f) (hw : wE (tl S) = true) : Calls Tryd.prog 33 #[.string S] w fun e w' => e = .returned (unqV (unq f (tl S) 0)) ∧ Below w.heap.size w w' := by
  obtain ⟨RU, hRU⟩ : ∃ RU, unq f (tl S) 0 = RU := ⟨_, rfl⟩
  rw [hRU]
  have HL := Lib.hid (tl_len S)
  have HEW := Lib.hid hE
  have HBN : Hid (Bd (w.alloc (.cells #[.pointer none, .slice none 0 0] 40)) w.heap.size w.heap.size []) := Bd.new w _ (Nat.le_refl _)
  have HB0 := Lib.hid (alloc_below w (.cells #[.pointer none, .slice none 0 0] 40))
  have HU0 : Hid (∃ g, S.size - 0 < g ∧ RU = prf [] (unq g ((tl S).drop 0) 0)) := Lib.hid ⟨f, by omega, by rw [← hRU, List.drop_zero]; cases unq f (tl S) 0 <;> rfl⟩
  have HW0 : Hid (wE ((tl S).drop 0) = true) := hw
  clear hRU hE hw hf
  obtain ⟨hzb, -⟩ := zero_of_info (P := Tryd.prog) (t := 40) (v := .agg #[.pointer none, .slice none 0 0]) (n := 2) (by kernel_rfl)
  go_enter Tryd.func33, Tryd.ntmps33
  go_wp2_with fail
  generalize w.alloc (.cells #[.pointer none, .slice none 0 0] 40) = W1 at *
  go_loopw [5] (fun iv wr => ∃ (i : Nat) (acc : List UInt8), iv = .int .i64 (i : Int) ∧ i ≤ S.size ∧ Hid (acc.length ≤ i ∧ Bd wr w.heap.size w.heap.size acc ∧ Below w.heap.size w wr ∧ (∃ g, S.size - i < g ∧ RU = prf acc (unq g ((tl S).drop i) i)) ∧ wE ((tl S).drop i) = true)) (fun iv _ => S.size - (intOf iv).toNat)
  case atStart => exact ⟨0, [], rfl, Nat.zero_le _, Lib.hid ⟨Nat.le_refl _, HBN.out, HB0.out, HU0.out, HW0.out⟩⟩
  case round =>
    obtain ⟨i, acc, rfl, hi, HR⟩ := hrel
    by_cases hlt : i < S.size
    · have hix := idx_any S i hlt
      have hd := drop_one (L := tl S) (i := i) (by rw [HL.out]; exact hlt)
      obtain ⟨c, hc⟩ : ∃ c, (tl S).getD i 0 = c := ⟨_, rfl⟩
      rw [hc] at hix hd
      have HD := Lib.hid hd
      clear hc hd
      have HG : Hid (∃ g, S.size - i < g + 1 ∧ RU = prf acc (unq (g + 1) (c :: (tl S).drop (i + 1)) i)) := by
        obtain ⟨g, hg, hu⟩ := HR.out.2.2.2.1
        cases g with
        | zero => omega
        | succ g => exact ⟨g, hg, by rw [← HD.out]; exact hu⟩
      by_cases c9 : c = 92
      · subst c9
        have hwe := HR.out.2.2.2.2
        rw [HD.out] at hwe
        have hne := (wE_esc hwe).1
        have h2 : i + 2 ≤ S.size := by
          have : ((tl S).drop (i + 1)).length ≠ 0 := fun e => hne (List.eq_nil_of_length_eq_zero e)
          rw [List.length_drop, HL.out] at this
          omega
        have hxl : (S.extract i S.size).size = S.size - i := by rw [← tl_len, tl_from, List.length_drop, HL.out]
        have hes := fun w hE => escaped_any (S.extract i S.size) w hE (by omega) (by omega)
        rw [tl_from, HD.out] at hes
        unfold escV at hes
        have HN := Lib.hid (esc_next hwe)
        obtain ⟨⟨b, n⟩, hbn⟩ : ∃ bn : Nat × Nat, esc (92 :: (tl S).drop (i + 1)) = bn := ⟨_, rfl⟩
        rw [hbn] at hes
        dsimp only at hes
        have HES := Lib.hid hes
        have HBN2 : Hid (esc (92 :: (tl S).drop (i + 1)) = (b, n)) := hbn
        have HQ : Hid ((if (92 : UInt8) = 92 then esc (92 :: (tl S).drop (i + 1)) else ((92 : UInt8).toNat, 1)) = (b, n)) := by unfold Hid; rw [if_pos rfl]; exact hbn
        have hEw : Hid (Env wr) := Lib.hid (HEW.out.below HR.out.2.2.1)
        clear hwe hne hes hbn hxl
        by_cases hbad : n = 0 ∨ 128 ≤ b
        · have HV : Hid (unqV RU = .tuple #[.string ⟨#[]⟩, .int .i64 (i : Int)]) := by
            obtain ⟨g, hg, hu⟩ := HG.out
            unfold Hid
            rw [hu, unq_bad HQ.out hbad]; rfl
          have e1 : (decide ((n : Int) = 0) = decide (n = 0)) := by rw [decide_eq_decide]; omega
          by_cases hn0 : n = 0
          · subst hn0
            clear hbad e1
            go_wp2_with (go_at_call 47; refine (HES.out _ hEw.out).mono ?_; rintro e w2 ⟨rfl, hb2⟩; have HB2 := Lib.hid (HR.out.2.2.1.trans (hb2.mono HR.out.2.2.1.size)); clear hb2)
            go_ret2
            exact ⟨by rw [HV.out]; rfl, HB2.out⟩
          · have e2 : ((n : Int) == 0) = false := by rw [beq_eq_false_iff_ne]; omega
            have e3 : decide ((128 : Int) ≤ (b : Int)) = true := decide_eq_true (by omega)
            have e4 : (n == 0) = false := by rw [beq_eq_false_iff_ne]; exact hn0
            clear hbad e1 hn0
            go_wp2_with (go_at_call 47; refine (HES.out _ hEw.out).mono ?_; rintro e w2 ⟨rfl, hb2⟩; have HB2 := Lib.hid (HR.out.2.2.1.trans (hb2.mono HR.out.2.2.1.size)); clear hb2)
            go_ret2
            exact ⟨by rw [HV.out]; rfl, HB2.out⟩
        · have hn0 : n ≠ 0 := fun e => hbad (.inl e)
          have hb8 : b < 128 := by omega
          have hnx := HN.out (by rw [HBN2.out]; exact hn0)
          rw [HBN2.out] at hnx
          have hnS : i + n ≤ S.size := by
            have := hnx.2
            dsimp only at this
            rw [List.length_drop, HL.out] at this
            omega
          have HNX : Hid (wE ((tl S).drop (i + n)) = true ∧ ∃ g, S.size - (i + n) < g ∧ RU = prf (acc ++ [UInt8.ofNat b]) (unq g ((tl S).drop (i + n)) (i + n))) := by
            have hdd : (92 :: (tl S).drop (i + 1)).drop n = (tl S).drop (i + n) := by rw [← HD.out, List.drop_drop]
            refine ⟨by have := hnx.1; rw [hdd] at this; exact this, ?_⟩
            obtain ⟨g, hg, hu⟩ := HG.out
            refine ⟨g, by omega, ?_⟩
            rw [hu, unq_step HQ.out hn0 hb8, hdd]
          have e2 : ((n : Int) == 0) = false := by rw [beq_eq_false_iff_ne]; omega
          have e3 : decide ((128 : Int) ≤ (b : Int)) = false := decide_eq_false (by omega)
          have e4 : (n == 0) = false := by rw [beq_eq_false_iff_ne]; exact hn0
          have hbu : (UInt8.ofNat b).toNat = b := by rw [UInt8.toNat_ofNat']; omega
          have HWB : Hid (∀ w2, Below wr.heap.size wr w2 → Calls Tryd.prog 10 #[.pointer (some ⟨w.heap.size, 0, none⟩), .int .u8 (b : Int)] w2 fun e w' => e = .returned .nilIface ∧ Hid (Bd w' w.heap.size w.heap.size (acc ++ [UInt8.ofNat b]) ∧ Below w.heap.size w2 w')) := Lib.hid fun w2 hb2 => by
            have h := wbyte (HR.out.2.1.below hb2) (UInt8.ofNat b) (by have := HR.out.1; omega) (by have := HR.out.2.2.1.size; have := hb2.size; omega)
            rw [hbu] at h
            exact h.mono fun e w' ⟨h1, h2⟩ => ⟨h1, Lib.hid h2⟩
          have HI : Hid (n ≠ 0 ∧ i + n ≤ S.size) := ⟨hn0, hnS⟩
          have hnI : (i : Int) + (n : Int) ≤ 5000 := by omega
          clear hbad hnx hbu
          go_wp2_with (first
            | (go_at_call 47; refine (HES.out _ hEw.out).mono ?_; rintro e w2 ⟨rfl, hb2⟩; have HB2 := Lib.hid hb2; clear hb2)
            | (go_at_call 10; refine (HWB.out _ HB2.out).mono ?_; rintro e w3 ⟨rfl, HS3⟩))
          go_roundw
          case rel => exact ⟨i + n, acc ++ [UInt8.ofNat b], by go_num, HI.out.2, Lib.hid ⟨by have := HR.out.1; have := HI.out.1; simp; omega, HS3.out.1, HR.out.2.2.1.trans ((HB2.out.mono HR.out.2.2.1.size).trans HS3.out.2), HNX.out.2, HNX.out.1⟩⟩
          case measure => have := HI.out.1; simp [intOf]; omega
      · have e9 : ((c.toNat : Int) == 92) = false := u8_ne (k := 92) rfl c9
        have HQ : Hid ((if c = 92 then esc (c :: (tl S).drop (i + 1)) else (c.toNat, 1)) = (c.toNat, 1)) := by unfold Hid; rw [if_neg c9]
        have hwe := HR.out.2.2.2.2
        rw [HD.out] at hwe
        have HWE := Lib.hid (wE_plain c9 hwe)
        have hcl := c.toNat_lt
        by_cases hb8 : 128 ≤ c.toNat
        · have HV : Hid (unqV RU = .tuple #[.string ⟨#[]⟩, .int .i64 (i : Int)]) := by
            obtain ⟨g, hg, hu⟩ := HG.out
            unfold Hid
            rw [hu, unq_bad HQ.out (.inr hb8)]; rfl
          have e3 : decide ((128 : Int) ≤ (c.toNat : Int)) = true := decide_eq_true (by omega)
          clear hwe c9 hb8
          go_wp2_with fail
          go_ret2
          exact ⟨by rw [HV.out]; rfl, HR.out.2.2.1⟩
        · have hu8 : UInt8.ofNat c.toNat = c := UInt8.ofNat_toNat
          have HNX : Hid (∃ g, S.size - (i + 1) < g ∧ RU = prf (acc ++ [c]) (unq g ((tl S).drop (i + 1)) (i + 1))) := by
            obtain ⟨g, hg, hu⟩ := HG.out
            refine ⟨g, by omega, ?_⟩
            rw [hu, unq_step HQ.out (by decide) (by omega), hu8]; rfl
          have e3 : decide ((128 : Int) ≤ (c.toNat : Int)) = false := decide_eq_false (by omega)
          have HWB : Hid (∀ w2, Below wr.heap.size wr w2 → Calls Tryd.prog 10 #[.pointer (some ⟨w.heap.size, 0, none⟩), .int .u8 (c.toNat : Int)] w2 fun e w' => e = .returned .nilIface ∧ Hid (Bd w' w.heap.size w.heap.size (acc ++ [c]) ∧ Below w.heap.size w2 w')) := Lib.hid fun w2 hb2 => by
            have h := wbyte (HR.out.2.1.below hb2) c (by have := HR.out.1; omega) (by have := HR.out.2.2.1.size; have := hb2.size; omega)
            exact h.mono fun e w' ⟨h1, h2⟩ => ⟨h1, Lib.hid h2⟩
          have hiI : (i : Int) + 1 ≤ 5000 := by omega
          clear hwe c9 hb8 hu8 hcl
          go_wp2_with (go_at_call 10; refine (HWB.out _ (Below.refl _ _)).mono ?_; rintro e w3 ⟨rfl, HS3⟩)
          go_roundw
          case rel => exact ⟨i + 1, acc ++ [c], by go_num, by omega, Lib.hid ⟨by have := HR.out.1; simp; omega, HS3.out.1, HR.out.2.2.1.trans HS3.out.2, HNX.out, HWE.out⟩⟩
          case measure => simp [intOf]; omega
    · have HV : Hid (unqV RU = .tuple #[.string ⟨acc.toArray⟩, .int .i64 (-1)]) := by
        obtain ⟨g, hg, hu⟩ := HR.out.2.2.2.1
        unfold Hid
        rw [hu, List.drop_of_length_le (by rw [HL.out]; omega)]
        cases g with
        | zero => omega
        | succ g => simp [unq, prf, unqV]
      have HST : Hid (Calls Tryd.prog 13 #[.pointer (some ⟨w.heap.size, 0, none⟩)] wr fun e w' => e = .returned (.string ⟨acc.toArray⟩) ∧ Below w.heap.size wr w') := bstring HR.out.2.1 HR.out.2.2.1.size
      go_wp2_with (go_at_call 13; refine HST.out.mono ?_; rintro e w3 ⟨rfl, hb3⟩; have HB3 := Lib.hid (HR.out.2.2.1.trans hb3); clear hb3)
      go_ret2
      exact ⟨by rw [HV.out]; rfl, HB3.out⟩
end Go.Proofs.YtjpbbooeihdnfaaDoor
