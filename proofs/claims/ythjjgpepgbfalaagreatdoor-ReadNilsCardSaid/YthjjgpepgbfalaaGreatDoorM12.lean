/- Texts XLC9 to XLD4 of this seat, laid into one. -/
import Derived.Deep.RegionHeld3
import Derived.Deep.RegionLawGrows
import Derived.Deep.RegionWith
import Derived.Deep.AppendLies
import Derived.Test.YthjjgpepgbfalaaGreatDoorM11
set_option linter.unusedVariables false
set_option linter.unusedSimpArgs false
set_option linter.constructorNameAsVariable false
section
/-! What stands between quotes. -/
set_option maxRecDepth 20000
set_option linter.unusedSimpArgs false
set_option linter.unusedVariables false
namespace Go.Proofs.YthjjgpepgbfalaaGreatDoor.Lx
open Go.RowKit

/-- Does each escape's mark have a byte behind it? -/
def wE : List UInt8 → Bool
  | [] => true
  | [c] => decide (c ≠ 92)
  | c :: d :: t => if c = 92 then wE t else wE (d :: t)
theorem wE_plain {c : UInt8} {t : List UInt8} (hc : c ≠ 92) (h : wE (c :: t) = true) : wE t = true := by
  cases t with
  | nil => rfl
  | cons d t => unfold wE at h; rw [if_neg hc] at h; exact h
theorem wE_esc {t : List UInt8} (h : wE (92 :: t) = true) : t ≠ [] ∧ wE (t.drop 1) = true := by
  cases t with
  | nil => exact absurd h (by decide)
  | cons d t => unfold wE at h; rw [if_pos rfl] at h; exact ⟨by simp, h⟩
theorem wE_skip : ∀ {h r : List UInt8}, (∀ x ∈ h, x ≠ 92) → wE (h ++ r) = true → wE r = true
  | [], r, _, h2 => h2
  | c :: t, r, h1, h2 => wE_skip (h := t) (fun x hx => h1 x (List.mem_cons_of_mem _ hx)) (wE_plain (h1 c (List.mem_cons_self ..)) h2)
theorem byteOk_no {h : List UInt8} (hb : byteOk h = true) : ∀ x ∈ h, x ≠ 92 := by
  unfold byteOk at hb
  rw [Bool.and_eq_true, Bool.and_eq_true] at hb
  have hc : cutR h = h := by
    cases h with
    | nil => rfl
    | cons c t =>
      have e1 : c ≠ 45 := fun e => by rw [e] at hb; simp at hb
      have e2 : c ≠ 43 := fun e => by rw [e] at hb; simp at hb
      unfold cutR; split
      · rename_i h; injection h with h; exact absurd h e1
      · rename_i h; injection h with h; exact absurd h e2
      · rfl
  have he : parseE 16 h = 0 := by simpa using hb.2.1
  unfold parseE at he
  rw [hc] at he
  intro x hx e
  have hok : okT 16 h = true := by
    by_cases h2 : h = [] ∨ okT 16 h = false
    · rw [if_pos h2] at he; exact absurd he (by decide)
    · rw [not_or] at h2; simpa using h2.2
  have := List.all_eq_true.1 hok x hx
  rw [e] at this
  exact absurd this (by decide)
theorem tw_split (p : UInt8 → Bool) : ∀ (l : List UInt8), ∃ r, l = l.takeWhile p ++ r ∧ (r = [] ∨ ∃ c t, r = c :: t ∧ p c = false)
  | [] => ⟨[], rfl, .inl rfl⟩
  | a :: l => by
    rw [List.takeWhile_cons]
    rcases h : p a with _ | _
    · exact ⟨a :: l, rfl, .inr ⟨a, l, rfl, h⟩⟩
    · obtain ⟨r, h1, h2⟩ := tw_split p l
      exact ⟨r, by simp [← h1], h2⟩
/-- A text that is parted at a byte. -/
theorem at_byte {L : List UInt8} {c : UInt8} (h : L.contains c = true) : ∃ r, L = L.takeWhile (· != c) ++ c :: r := by
  obtain ⟨r, h1, h2⟩ := tw_split (· != c) L
  rcases h2 with rfl | ⟨d, t, rfl, hd⟩
  · rw [List.append_nil] at h1
    have hm := List.contains_iff_mem.1 h
    rw [h1] at hm
    have hall : ∀ {l : List UInt8} {x}, x ∈ l.takeWhile (· != c) → (x != c) = true := by
      intro l
      induction l with
      | nil => intro x hx; cases hx
      | cons a l ih =>
        intro x hx
        rw [List.takeWhile_cons] at hx
        rcases ha : a != c with _ | _
        · rw [ha] at hx; simp at hx
        · rw [ha] at hx
          rcases List.mem_cons.1 (by simpa using hx) with rfl | hx
          · exact ha
          · exact ih hx
    have := hall hm
    simp at this
  · have : d = c := by simpa using hd
    exact ⟨t, by rw [← this]; exact this ▸ h1⟩
theorem pre_of {p L : List UInt8} (h : p.isPrefixOf L = true) : ∃ r, L = p ++ r := by
  obtain ⟨r, hr⟩ := List.isPrefixOf_iff_prefix.1 h
  exact ⟨r, hr.symm⟩
/-- Behind an escape. -/
theorem esc_next {t : List UInt8} (h : wE (92 :: t) = true) (hz : (esc (92 :: t)).2 ≠ 0) : wE ((92 :: t).drop (esc (92 :: t)).2) = true ∧ (esc (92 :: t)).2 ≤ t.length + 1 := by
  obtain ⟨hne, h2⟩ := wE_esc h
  unfold esc at hz ⊢
  by_cases c1 : escL.contains ((92 :: t).getD 1 0) = true
  · rw [if_pos c1]
    refine ⟨h2, ?_⟩
    cases t with
    | nil => exact absurd rfl hne
    | cons a t => simp
  · rw [if_neg c1] at hz ⊢
    by_cases c2 : [92, 120].isPrefixOf (92 :: t) = true ∧ ((92 :: t).drop 2).contains 59 = true ∧ byteOk (((92 :: t).drop 2).takeWhile (· != 59)) = true
    · rw [if_pos c2] at hz ⊢
      obtain ⟨k1, k2, k3⟩ := c2
      obtain ⟨r, hr⟩ := pre_of k1
      have ht : t = 120 :: r := by injection hr
      subst ht
      have hd : (92 :: 120 :: r).drop 2 = r := rfl
      rw [hd] at k2 k3 ⊢
      obtain ⟨u, hu⟩ := at_byte k2
      have hw : wE r = true := h2
      generalize hq : r.takeWhile (· != 59) = q at *
      rw [hu] at hw ⊢
      have hw2 := wE_plain (by decide) (wE_skip (byteOk_no k3) hw)
      refine ⟨?_, ?_⟩
      · show wE ((92 :: 120 :: (q ++ 59 :: u)).drop (q.length + 3)) = true
        rw [show (92 :: 120 :: (q ++ 59 :: u)).drop (q.length + 3) = (q ++ 59 :: u).drop (q.length + 1) from rfl]
        rw [List.drop_append, List.drop_of_length_le (by omega), List.nil_append, show q.length + 1 - q.length = 1 by omega]
        exact hw2
      · simp
    · rw [if_neg c2] at hz; exact absurd rfl hz
/-- A prefix ahead of what is found behind. -/
def prf (acc : List UInt8) : Except Nat (List UInt8) → Except Nat (List UInt8)
  | .ok l => .ok (acc ++ l)
  | .error j => .error j
theorem unq_step {g i : Nat} {c : UInt8} {t acc : List UInt8} {b n : Nat} (hr : (if c = 92 then esc (c :: t) else (c.toNat, 1)) = (b, n)) (hn : n ≠ 0) (hb : b < 128) :
    prf acc (unq (g + 1) (c :: t) i) = prf (acc ++ [UInt8.ofNat b]) (unq g ((c :: t).drop n) (i + n)) := by
  have e : unq (g + 1) (c :: t) i = match unq g ((c :: t).drop n) (i + n) with | .ok l => .ok (UInt8.ofNat b :: l) | .error j => .error j := by
    conv => lhs; unfold unq
    simp only [hr]
    rw [if_neg (by omega)]
    rfl
  rw [e]
  cases unq g ((c :: t).drop n) (i + n) with
  | ok l => simp [prf]
  | error j => rfl
theorem unq_bad {g i : Nat} {c : UInt8} {t acc : List UInt8} {b n : Nat} (hr : (if c = 92 then esc (c :: t) else (c.toNat, 1)) = (b, n)) (h : n = 0 ∨ 128 ≤ b) :
    prf acc (unq (g + 1) (c :: t) i) = .error i := by
  conv => lhs; unfold unq
  simp only [hr]
  rw [if_pos h]; rfl
def unqV : Except Nat (List UInt8) → Value
  | .ok l => .tuple #[.string ⟨l.toArray⟩, .int .i64 (-1)]
  | .error j => .tuple #[.string ⟨#[]⟩, .int .i64 (j : Int)]
set_option maxHeartbeats 3200000 in
theorem unquote_any (S : ByteArray) (f : Nat) (w : World) (hE : Env w) (hS : S.size ≤ 5000) (hf : S.size < f) (hw : wE (tl S) = true) : Calls Tryz.prog 114 #[.string S] w fun e w' => e = .returned (unqV (unq f (tl S) 0)) ∧ Below w.heap.size w w' := by
  obtain ⟨RU, hRU⟩ : ∃ RU, unq f (tl S) 0 = RU := ⟨_, rfl⟩
  rw [hRU]
  have HL := Lib.hid (tl_len S)
  have HEW := Lib.hid hE
  have HBN : Hid (Bd (w.alloc (.cells #[.pointer none, .slice none 0 0] 187)) w.heap.size w.heap.size []) := Bd.new w _ (Nat.le_refl _)
  have HB0 := Lib.hid (alloc_below w (.cells #[.pointer none, .slice none 0 0] 187))
  have HU0 : Hid (∃ g, S.size - 0 < g ∧ RU = prf [] (unq g ((tl S).drop 0) 0)) := Lib.hid ⟨f, by omega, by rw [← hRU, List.drop_zero]; cases unq f (tl S) 0 <;> rfl⟩
  have HW0 : Hid (wE ((tl S).drop 0) = true) := hw
  clear hRU hE hw hf
  obtain ⟨hzb, -⟩ := zero_of_info (P := Tryz.prog) (t := 187) (v := .agg #[.pointer none, .slice none 0 0]) (n := 2) (by kernel_rfl)
  go_enter Tryz.func114, Tryz.ntmps114
  go_wp2_with fail
  generalize w.alloc (.cells #[.pointer none, .slice none 0 0] 187) = W1 at *
  go_loopw [5] (fun iv wr => ∃ (i : Nat) (acc : List UInt8), iv = .int .i64 (i : Int) ∧ i ≤ S.size ∧ Hid (acc.length ≤ i ∧ Bd wr w.heap.size w.heap.size acc ∧ Below w.heap.size w wr ∧ (∃ g, S.size - i < g ∧ RU = prf acc (unq g ((tl S).drop i) i)) ∧ wE ((tl S).drop i) = true)) (fun iv _ => S.size - (RowKit.intOf iv).toNat)
  case atStart => exact ⟨0, [], rfl, Nat.zero_le _, Lib.hid ⟨Nat.le_refl _, HBN.out, HB0.out, HU0.out, HW0.out⟩⟩
  case round =>
    obtain ⟨i, acc, rfl, hi, HR⟩ := hrel
    by_cases hlt : i < S.size
    · have hix := idx_any S i hlt
      have hd := drop_one (L := tl S) (i := i) (by rw [HL.out]; exact hlt)
      obtain ⟨c, hc⟩ : ∃ c, (tl S).getD i 0 = c := ⟨_, rfl⟩
      rw [hc] at hix hd
      have HD := Lib.hid hd
      clear hc hd
      have HG : Hid (∃ g, S.size - i < g + 1 ∧ RU = prf acc (unq (g + 1) (c :: (tl S).drop (i + 1)) i)) := by
        obtain ⟨g, hg, hu⟩ := HR.out.2.2.2.1
        cases g with
        | zero => omega
        | succ g => exact ⟨g, hg, by rw [← HD.out]; exact hu⟩
      by_cases c9 : c = 92
      · subst c9
        have hwe := HR.out.2.2.2.2
        rw [HD.out] at hwe
        have hne := (wE_esc hwe).1
        have h2 : i + 2 ≤ S.size := by
          have : ((tl S).drop (i + 1)).length ≠ 0 := fun e => hne (List.eq_nil_of_length_eq_zero e)
          rw [List.length_drop, HL.out] at this
          omega
        have hxl : (S.extract i S.size).size = S.size - i := by rw [← tl_len, tl_from, List.length_drop, HL.out]
        have hes := fun w hE => escaped_any (S.extract i S.size) w hE (by omega) (by omega)
        rw [tl_from, HD.out] at hes
        unfold escV at hes
        have HN := Lib.hid (esc_next hwe)
        obtain ⟨⟨b, n⟩, hbn⟩ : ∃ bn : Nat × Nat, esc (92 :: (tl S).drop (i + 1)) = bn := ⟨_, rfl⟩
        rw [hbn] at hes
        dsimp only at hes
        have HES := Lib.hid hes
        have HBN2 : Hid (esc (92 :: (tl S).drop (i + 1)) = (b, n)) := hbn
        have HQ : Hid ((if (92 : UInt8) = 92 then esc (92 :: (tl S).drop (i + 1)) else ((92 : UInt8).toNat, 1)) = (b, n)) := by unfold Hid; rw [if_pos rfl]; exact hbn
        have hEw : Hid (Env wr) := Lib.hid (HEW.out.below HR.out.2.2.1)
        clear hwe hne hes hbn hxl
        by_cases hbad : n = 0 ∨ 128 ≤ b
        · have HV : Hid (unqV RU = .tuple #[.string ⟨#[]⟩, .int .i64 (i : Int)]) := by
            obtain ⟨g, hg, hu⟩ := HG.out
            unfold Hid
            rw [hu, unq_bad HQ.out hbad]; rfl
          have e1 : (decide ((n : Int) = 0) = decide (n = 0)) := by rw [decide_eq_decide]; omega
          by_cases hn0 : n = 0
          · subst hn0
            clear hbad e1
            go_wp2_with (go_at_call 124; refine (HES.out _ hEw.out).mono ?_; rintro e w2 ⟨rfl, hb2⟩; have HB2 := Lib.hid (HR.out.2.2.1.trans (hb2.mono HR.out.2.2.1.size)); clear hb2)
            go_ret2
            exact ⟨by rw [HV.out]; rfl, HB2.out⟩
          · have e2 : ((n : Int) == 0) = false := by rw [beq_eq_false_iff_ne]; omega
            have e3 : decide ((128 : Int) ≤ (b : Int)) = true := decide_eq_true (by omega)
            have e4 : (n == 0) = false := by rw [beq_eq_false_iff_ne]; exact hn0
            clear hbad e1 hn0
            go_wp2_with (go_at_call 124; refine (HES.out _ hEw.out).mono ?_; rintro e w2 ⟨rfl, hb2⟩; have HB2 := Lib.hid (HR.out.2.2.1.trans (hb2.mono HR.out.2.2.1.size)); clear hb2)
            go_ret2
            exact ⟨by rw [HV.out]; rfl, HB2.out⟩
        · have hn0 : n ≠ 0 := fun e => hbad (.inl e)
          have hb8 : b < 128 := by omega
          have hnx := HN.out (by rw [HBN2.out]; exact hn0)
          rw [HBN2.out] at hnx
          have hnS : i + n ≤ S.size := by
            have := hnx.2
            dsimp only at this
            rw [List.length_drop, HL.out] at this
            omega
          have HNX : Hid (wE ((tl S).drop (i + n)) = true ∧ ∃ g, S.size - (i + n) < g ∧ RU = prf (acc ++ [UInt8.ofNat b]) (unq g ((tl S).drop (i + n)) (i + n))) := by
            have hdd : (92 :: (tl S).drop (i + 1)).drop n = (tl S).drop (i + n) := by rw [← HD.out, List.drop_drop]
            refine ⟨by have := hnx.1; rw [hdd] at this; exact this, ?_⟩
            obtain ⟨g, hg, hu⟩ := HG.out
            refine ⟨g, by omega, ?_⟩
            rw [hu, unq_step HQ.out hn0 hb8, hdd]
          have e2 : ((n : Int) == 0) = false := by rw [beq_eq_false_iff_ne]; omega
          have e3 : decide ((128 : Int) ≤ (b : Int)) = false := decide_eq_false (by omega)
          have e4 : (n == 0) = false := by rw [beq_eq_false_iff_ne]; exact hn0
          have hbu : (UInt8.ofNat b).toNat = b := by rw [UInt8.toNat_ofNat']; omega
          have HWB : Hid (∀ w2, Below wr.heap.size wr w2 → Calls Tryz.prog 125 #[.pointer (some ⟨w.heap.size, 0, none⟩), .int .u8 (b : Int)] w2 fun e w' => e = .returned .nilIface ∧ Hid (Bd w' w.heap.size w.heap.size (acc ++ [UInt8.ofNat b]) ∧ Below w.heap.size w2 w')) := Lib.hid fun w2 hb2 => by
            have h := wbyte (HR.out.2.1.below hb2) (UInt8.ofNat b) (by have := HR.out.1; omega) (by have := HR.out.2.2.1.size; have := hb2.size; omega)
            rw [hbu] at h
            exact h.mono fun e w' ⟨h1, h2⟩ => ⟨h1, Lib.hid h2⟩
          have HI : Hid (n ≠ 0 ∧ i + n ≤ S.size) := ⟨hn0, hnS⟩
          have hnI : (i : Int) + (n : Int) ≤ 5000 := by omega
          clear hbad hnx hbu
          go_wp2_with (first
            | (go_at_call 124; refine (HES.out _ hEw.out).mono ?_; rintro e w2 ⟨rfl, hb2⟩; have HB2 := Lib.hid hb2; clear hb2)
            | (go_at_call 125; refine (HWB.out _ HB2.out).mono ?_; rintro e w3 ⟨rfl, HS3⟩))
          go_roundw
          case rel => exact ⟨i + n, acc ++ [UInt8.ofNat b], by go_num, HI.out.2, Lib.hid ⟨by have := HR.out.1; have := HI.out.1; simp; omega, HS3.out.1, HR.out.2.2.1.trans ((HB2.out.mono HR.out.2.2.1.size).trans HS3.out.2), HNX.out.2, HNX.out.1⟩⟩
          case measure => have := HI.out.1; simp [RowKit.intOf]; omega
      · have e9 : ((c.toNat : Int) == 92) = false := u8_ne (k := 92) rfl c9
        have HQ : Hid ((if c = 92 then esc (c :: (tl S).drop (i + 1)) else (c.toNat, 1)) = (c.toNat, 1)) := by unfold Hid; rw [if_neg c9]
        have hwe := HR.out.2.2.2.2
        rw [HD.out] at hwe
        have HWE := Lib.hid (wE_plain c9 hwe)
        have hcl := c.toNat_lt
        by_cases hb8 : 128 ≤ c.toNat
        · have HV : Hid (unqV RU = .tuple #[.string ⟨#[]⟩, .int .i64 (i : Int)]) := by
            obtain ⟨g, hg, hu⟩ := HG.out
            unfold Hid
            rw [hu, unq_bad HQ.out (.inr hb8)]; rfl
          have e3 : decide ((128 : Int) ≤ (c.toNat : Int)) = true := decide_eq_true (by omega)
          clear hwe c9 hb8
          go_wp2_with fail
          go_ret2
          exact ⟨by rw [HV.out]; rfl, HR.out.2.2.1⟩
        · have hu8 : UInt8.ofNat c.toNat = c := UInt8.ofNat_toNat
          have HNX : Hid (∃ g, S.size - (i + 1) < g ∧ RU = prf (acc ++ [c]) (unq g ((tl S).drop (i + 1)) (i + 1))) := by
            obtain ⟨g, hg, hu⟩ := HG.out
            refine ⟨g, by omega, ?_⟩
            rw [hu, unq_step HQ.out (by decide) (by omega), hu8]; rfl
          have e3 : decide ((128 : Int) ≤ (c.toNat : Int)) = false := decide_eq_false (by omega)
          have HWB : Hid (∀ w2, Below wr.heap.size wr w2 → Calls Tryz.prog 125 #[.pointer (some ⟨w.heap.size, 0, none⟩), .int .u8 (c.toNat : Int)] w2 fun e w' => e = .returned .nilIface ∧ Hid (Bd w' w.heap.size w.heap.size (acc ++ [c]) ∧ Below w.heap.size w2 w')) := Lib.hid fun w2 hb2 => by
            have h := wbyte (HR.out.2.1.below hb2) c (by have := HR.out.1; omega) (by have := HR.out.2.2.1.size; have := hb2.size; omega)
            exact h.mono fun e w' ⟨h1, h2⟩ => ⟨h1, Lib.hid h2⟩
          have hiI : (i : Int) + 1 ≤ 5000 := by omega
          clear hwe c9 hb8 hu8 hcl
          go_wp2_with (go_at_call 125; refine (HWB.out _ (Below.refl _ _)).mono ?_; rintro e w3 ⟨rfl, HS3⟩)
          go_roundw
          case rel => exact ⟨i + 1, acc ++ [c], by go_num, by omega, Lib.hid ⟨by have := HR.out.1; simp; omega, HS3.out.1, HR.out.2.2.1.trans HS3.out.2, HNX.out, HWE.out⟩⟩
          case measure => simp [RowKit.intOf]; omega
    · have HV : Hid (unqV RU = .tuple #[.string ⟨acc.toArray⟩, .int .i64 (-1)]) := by
        obtain ⟨g, hg, hu⟩ := HR.out.2.2.2.1
        unfold Hid
        rw [hu, List.drop_of_length_le (by rw [HL.out]; omega)]
        cases g with
        | zero => omega
        | succ g => simp [unq, prf, unqV]
      have HST : Hid (Calls Tryz.prog 126 #[.pointer (some ⟨w.heap.size, 0, none⟩)] wr fun e w' => e = .returned (.string ⟨acc.toArray⟩) ∧ Below w.heap.size wr w') := bstring HR.out.2.1 HR.out.2.2.1.size
      go_wp2_with (go_at_call 126; refine HST.out.mono ?_; rintro e w3 ⟨rfl, hb3⟩; have HB3 := Lib.hid (HR.out.2.2.1.trans hb3); clear hb3)
      go_ret2
      exact ⟨by rw [HV.out]; rfl, HB3.out⟩
end Go.Proofs.YthjjgpepgbfalaaGreatDoor.Lx
end
section
/-! A scanner amid a text. -/
set_option maxRecDepth 20000
set_option linter.unusedSimpArgs false
set_option linter.unusedVariables false
namespace Go.Proofs.YthjjgpepgbfalaaGreatDoor.Lx
open Go.RowKit

/-- The cells of tokens with their places. -/
def tkL : List (Tk × Nat) → List Value
  | [] => []
  | (t, a) :: l => (tkC t (a : Int)).toList ++ tkL l
theorem tkL_append (l m : List (Tk × Nat)) : tkL (l ++ m) = tkL l ++ tkL m := by
  induction l with
  | nil => rfl
  | cons x l ih => obtain ⟨t, a⟩ := x; show _ ++ tkL (l ++ m) = _; rw [ih, ← List.append_assoc]; rfl
/-- A scanner at block b over a text, at a place, with these tokens; all that is its own lies from B on. -/
structure Scn (w : World) (B b : Nat) (S : ByteArray) (a : Nat) (v : Value) (tight : Bool) (l : List (Tk × Nat)) : Prop where
  hB : B ≤ b
  row : w.heap[b]? = some (.cells #[.string S, .int .i64 (a : Int), v, .bool tight] 136 (0, 0))
  own : w.ownsRow B 71 4 v l.length (tkL l)
theorem own_head {w : World} {base E m n : Nat} {v : Value} {xs : List Value} {g : Nat} (h : w.ownsRow base E m v n xs) (hg : v.ownBlock = some g) : ∃ cur, w.heap[g]? = some (.cells cur E (0, 0)) := by
  rcases h.2 with ⟨rfl, _⟩ | ⟨g', cap, cur, rfl, _, hh, _⟩
  · simp [Value.ownBlock] at hg
  · simp [Value.ownBlock] at hg
    subst hg
    exact ⟨cur, hh⟩
section
variable {w w' : World} {B b a : Nat} {S : ByteArray} {v : Value} {tight : Bool} {l : List (Tk × Nat)}
theorem Scn.lt (h : Scn w B b S a v tight l) : b < w.heap.size := lt_of_block h.row
theorem Scn.ne (h : Scn w B b S a v tight l) : v.ownBlock ≠ some b := fun e => by
  obtain ⟨cur, hh⟩ := own_head h.own e
  rw [h.row] at hh
  injection hh with hh
  injection hh with h1 h2 h3
  exact absurd h2 (by decide)
theorem Scn.below (h : Scn w B b S a v tight l) (hb : Below w.heap.size w w') : Scn w' B b S a v tight l :=
  ⟨h.hB, (hb.block b h.lt).trans h.row, own_below h.own hb⟩
theorem Scn.cells (h : Scn w B b S a v tight l) : (w.cell? ⟨b, 0, none⟩ = some (.string S) ∧ w.cell? ⟨b, 1, none⟩ = some (.int .i64 (a : Int)) ∧ w.cell? ⟨b, 2, none⟩ = some v ∧ w.cell? ⟨b, 3, none⟩ = some (.bool tight)) ∧ ∀ i, w.frozen? ⟨b, i, none⟩ = false := by
  have h0 := cell_of_row _ _ 0 _ _ _ h.row
  have h1 := cell_of_row _ _ 1 _ _ _ h.row
  have h2 := cell_of_row _ _ 2 _ _ _ h.row
  have h3 := cell_of_row _ _ 3 _ _ _ h.row
  simp at h0 h1 h2 h3
  exact ⟨⟨h0, h1, h2, h3⟩, fun i => frozen_of_row _ _ i _ _ h.row⟩
theorem Scn.setAt (h : Scn w B b S a v tight l) (a2 : Nat) : Scn (w.setCell ⟨b, 1, none⟩ (.int .i64 (a2 : Int))) B b S a2 v tight l :=
  ⟨h.hB, heap_setCell_same _ _ 1 _ _ _ h.row, own_other h.own fun k hk => heap_setCell_other _ _ _ _ (fun e => h.ne (by rw [hk]; exact congrArg some e))⟩
theorem Scn.setTight (h : Scn w B b S a v tight l) (t2 : Bool) : Scn (w.setCell ⟨b, 3, none⟩ (.bool t2)) B b S a v t2 l :=
  ⟨h.hB, heap_setCell_same _ _ 3 _ _ _ h.row, own_other h.own fun k hk => heap_setCell_other _ _ _ _ (fun e => h.ne (by rw [hk]; exact congrArg some e))⟩
theorem Scn.base (h : Scn w B b S a v tight l) : B ≤ w.heap.size := Nat.le_of_lt (Nat.lt_of_le_of_lt h.hB h.lt)
end
theorem infoTok : (Tryz.prog.info? 71).map (fun i => (i.zero, i.size, i.bytes)) = some (some (.agg #[.int .i64 0, .int .i64 0, .string ⟨#[]⟩, .int .i64 0]), 4, 40) := by kernel_rfl
end Go.Proofs.YthjjgpepgbfalaaGreatDoor.Lx
end
section
/-! The scanner's small calls: apart, pass, take. -/
set_option maxRecDepth 20000
set_option linter.unusedSimpArgs false
set_option linter.unusedVariables false
namespace Go.Proofs.YthjjgpepgbfalaaGreatDoor.Lx
open Go.RowKit

theorem mem_ex (s : ByteArray) (c : UInt8) : ∃ i : Int, Hid (∀ w, Calls Tryz.prog 86 #[.string s, .int .u8 (c.toNat : Int)] w fun e w' => e = .returned (.int .i64 i) ∧ w = w') ∧ decide ((0 : Int) ≤ i) = (tl s).contains c := by
  refine ⟨Lib.indexByte (tl s) c, fun w => ?_, ?_⟩
  · refine (Tryz.strings_IndexByte s (c.toNat : Int) w).mono ?_
    rintro e w' ⟨he, hw⟩
    have hc : UInt8.ofNat c.toNat = c := UInt8.ofNat_toNat
    exact ⟨by rw [he]; simp [hc], hw.symm⟩
  · rw [← Bool.coe_iff_coe, decide_eq_true_iff]; exact idxB_iff _ _
section
variable {w w' : World} {B b a : Nat} {S : ByteArray} {v : Value} {tight : Bool} {l : List (Tk × Nat)}
set_option maxHeartbeats 800000 in
theorem Scn.apart (h : Scn w B b S a v tight l) (ha : a < S.size) : Calls Tryz.prog 61 #[.pointer (some ⟨b, 0, none⟩)] w fun e w' => e = .returned (.bool (!tight || parts ((tl S).getD a 0))) ∧ ∃ n, w' = w.drewN n := by
  obtain ⟨⟨c0, c1, c2, c3⟩, fz⟩ := h.cells
  have hix := idx_any S a ha
  generalize (tl S).getD a 0 = c at *
  obtain ⟨i, HM, hi⟩ := mem_ex ⟨#[9, 10, 12, 13, 32, 59, 40, 41, 34]⟩ c
  rw [show (tl ⟨#[9, 10, 12, 13, 32, 59, 40, 41, 34]⟩).contains c = parts c from rfl] at hi
  clear h fz
  rcases tight with _ | _
  · go_enter Tryz.func61, Tryz.ntmps61
    go_wp2_with fail
    go_quiet ((go_at_call 86; exact Calls.quiet_of_same ((HM.out _).mono fun _ _ h => ⟨h.1, h.2.symm⟩)))
    go_wp2_with fail
    go_ret
    exact ⟨rfl, _, rfl⟩
  · rcases hb : parts c with _ | _
    all_goals
      rw [hb] at hi
      clear hb
      go_enter Tryz.func61, Tryz.ntmps61
      go_wp2_with fail
      go_quiet ((go_at_call 86; exact Calls.quiet_of_same ((HM.out _).mono fun _ _ h => ⟨h.1, h.2.symm⟩)))
      go_wp2_with fail
      go_ret
      exact ⟨rfl, _, rfl⟩
/-- What pass tells, and what it makes of the scanner. -/
def PasR (w w' : World) (B b : Nat) (S : ByteArray) (a : Nat) (v : Value) (l : List (Tk × Nat)) (L : List UInt8) (n : Nat) (e : Ending) : Prop :=
  Below B w w' ∧ match passM L n with
  | .err i x => e = .returned (.tuple #[.int .i64 ((a + i : Nat) : Int), .int .i64 x])
  | _ => e = .returned (.tuple #[.int .i64 0, .int .i64 0]) ∧ Scn w' B b S (a + n) v false l
set_option maxHeartbeats 1600000 in
theorem Scn.pass (h : Scn w B b S a v tight l) (hS : S.size ≤ 5000) (n : Nat) (hn : a + n ≤ S.size) : Calls Tryz.prog 87 #[.pointer (some ⟨b, 0, none⟩), .int .i64 (n : Int)] w fun e w' => PasR w w' B b S a v l ((tl S).drop a) n e := by
  obtain ⟨⟨c0, c1, c2, c3⟩, fz⟩ := h.cells
  have HH := Lib.hid h
  unfold PasR passM
  by_cases hn0 : n = 0
  · subst hn0
    rw [if_pos rfl]
    clear h
    go_enter Tryz.func87, Tryz.ntmps87
    go_wp2_with fail
    go_ret2
    exact ⟨Below.refl _ _, rfl⟩
  · rw [if_neg hn0]
    have hx : tl (S.extract a (a + n)) = ((tl S).drop a).take n := by rw [tl_extract, show a + n - a = n by omega]
    have hxs : (S.extract a (a + n)).size ≤ 5000 := by rw [← tl_len, hx, List.length_take]; omega
    have hhi := fun w => highByte_any (S.extract a (a + n)) w hxs
    rw [hx] at hhi
    unfold hbV at hhi
    have e0 : ((n : Int) == 0) = false := by rw [beq_eq_false_iff_ne]; omega
    have e1 : (n == 0) = false := by rw [beq_eq_false_iff_ne]; exact hn0
    have hanI : (a : Int) + (n : Int) ≤ (S.size : Int) := by omega
    have hSI : (S.size : Int) ≤ 5000 := by omega
    cases hq : hiB (((tl S).drop a).take n) with
    | some j =>
      rw [hq] at hhi
      have hj : j < n := by
        have := List.findIdx?_eq_some_iff_getElem.1 hq
        obtain ⟨h1, _⟩ := this
        rw [List.length_take] at h1; omega
      have HI := Lib.hid hhi
      have hjI : (j : Int) < (n : Int) := by omega
      clear h hq hhi hx hn0
      go_enter Tryz.func87, Tryz.ntmps87
      go_wp2_with fail
      go_quiet ((go_at_call 110; exact Calls.quiet_of_same ((HI.out _).mono fun _ _ h => ⟨h.1, h.2.symm⟩)))
      go_wp2_with fail
      go_ret2
      exact ⟨(below_drewN (Below.refl _ _) _), by rw [Int.natCast_add]; rfl⟩
    | none =>
      rw [hq] at hhi
      have HI := Lib.hid hhi
      have f1 := fz 1
      have f3 := fz 3
      clear h hq hhi hx hn0 fz
      go_enter Tryz.func87, Tryz.ntmps87
      go_wp2_with fail
      go_quiet ((go_at_call 110; exact Calls.quiet_of_same ((HI.out _).mono fun _ _ h => ⟨h.1, h.2.symm⟩)))
      go_wp2_with fail
      go_ret2
      have hs := ((HH.out.below (below_drewN (Below.refl _ _) nq)).setAt (a + n)).setTight false
      rw [Int.natCast_add] at hs
      exact ⟨((below_drewN (Below.refl _ _) _).setCell (p := ⟨b, 1, none⟩) HH.out.hB _).setCell (p := ⟨b, 3, none⟩) HH.out.hB _, rfl, hs⟩
theorem heap_alloc_old' (w : World) (o : Obj) (i : Nat) (h : i < w.heap.size) : (w.alloc o).heap[i]? = w.heap[i]? := Below.heap_alloc w o i h
/-- A row of tokens more. -/
theorem Scn.push {w3 : World} {gN cap : Nat} {t : Tk} {o : Obj} (h : Scn w B b S a v tight l) (hown : w3.ownsRow B 71 4 (.slice (some ⟨gN, 0, none⟩) (l.length + 1) cap) (l.length + 1) (tkL l ++ (tkC t (a : Int)).toList)) (hg : (w.alloc o).drew.grownBy w3 v.ownBlock) :
    Scn (w3.setCell ⟨b, 2, none⟩ (.slice (some ⟨gN, 0, none⟩) (l.length + 1) cap)) B b S a (.slice (some ⟨gN, 0, none⟩) (l.length + 1) cap) tight (l ++ [(t, a)]) := by
  have hr : w3.heap[b]? = some (.cells #[.string S, .int .i64 (a : Int), v, .bool tight] 136 (0, 0)) := by
    refine (hg.block b (by show _ < (w.alloc o).heap.size; have := h.lt; simp; omega) (fun e => h.ne e.symm)).trans ((heap_alloc_old' w o b h.lt).trans h.row)
  have hne : (Value.slice (some ⟨gN, 0, none⟩) (l.length + 1) cap).ownBlock ≠ some b := fun e => by
    obtain ⟨cur, hh⟩ := own_head hown e
    rw [hr] at hh
    injection hh with hh
    injection hh with h1 h2 h3
    exact absurd h2 (by decide)
  refine ⟨h.hB, heap_setCell_same _ _ 2 _ _ _ hr, ?_⟩
  have e1 : (l ++ [(t, a)]).length = l.length + 1 := by simp
  have e2 : tkL (l ++ [(t, a)]) = tkL l ++ (tkC t (a : Int)).toList := by rw [tkL_append]; show _ ++ (_ ++ []) = _; rw [List.append_nil]
  rw [e1, e2]
  exact own_other hown fun k hk => heap_setCell_other _ _ _ _ (fun e => hne (by rw [hk]; exact congrArg some e))
end
end Go.Proofs.YthjjgpepgbfalaaGreatDoor.Lx
end
section
/-! The scanner takes a token. -/
set_option maxRecDepth 20000
set_option linter.unusedSimpArgs false
set_option linter.unusedVariables false
namespace Go.Proofs.YthjjgpepgbfalaaGreatDoor.Lx
open Go.RowKit

section
variable {w w' : World} {B b a : Nat} {S : ByteArray} {v : Value} {tight : Bool} {l : List (Tk × Nat)}
set_option maxHeartbeats 3200000 in
theorem Scn.take (h : Scn w B b S a v tight l) (hS : S.size ≤ 5000) (t : Tk) (n : Nat) (tg : Bool) (hn : a + n ≤ S.size) (hl : l.length ≤ a) :
    Calls Tryz.prog 115 #[.pointer (some ⟨b, 0, none⟩), .agg (tkC t 0), .int .i64 (n : Int), .bool tg] w fun e w' => e = .returned (.tuple #[.int .i64 0, .int .i64 0]) ∧ Below B w w' ∧ ∃ v', Scn w' B b S (a + n) v' tg (l ++ [(t, a)]) := by
  obtain ⟨tk, tn, ts⟩ := t
  obtain ⟨T, hT⟩ : ∃ T : ByteArray, T = ⟨ts.toArray⟩ := ⟨_, rfl⟩
  have HT := Lib.hid hT
  unfold tkC
  dsimp only
  rw [← hT]
  clear hT
  have HH := Lib.hid h
  have HB0 := Lib.hid (alloc_below w (.cells #[.int .i64 (tk : Int), .int .i64 tn, .string T, .int .i64 0] 71))
  have HX0 : Hid (Bx4 (w.alloc (.cells #[.int .i64 (tk : Int), .int .i64 tn, .string T, .int .i64 0] 71)) w.heap.size #[.int .i64 (tk : Int), .int .i64 tn, .string T, .int .i64 0]) := Lib.hid (Bx4.new _ _)
  have HL := Lib.hid h.lt
  clear h
  go_enter Tryz.func115, Tryz.ntmps115
  go_upto_region 1 with fail
  generalize w.alloc (.cells #[.int .i64 (tk : Int), .int .i64 tn, .string T, .int .i64 0] 71) = W1 at *
  obtain ⟨⟨c0, c1, c2, c3⟩, fz⟩ := (HH.out.below HB0.out).cells
  obtain ⟨⟨q0, q1, q2, q3⟩, g0, g1, g2, g3⟩ := HX0.out.cells
  go_upto_region 2 with fail
  have hxr := heap_setCell_same _ _ 3 _ _ (.int .i64 (a : Int)) HX0.out.row
  have HB2 : Hid (Below w.heap.size w (W1.setCell ⟨w.heap.size, 3, none⟩ (.int .i64 (a : Int)))) := Lib.hid (HB0.out.setCell (p := ⟨w.heap.size, 3, none⟩) (Nat.le_refl _) _)
  generalize W1.setCell ⟨w.heap.size, 3, none⟩ (.int .i64 (a : Int)) = W2 at *
  have hxr2 : W2.heap[w.heap.size]? = some (.cells #[.int .i64 (tk : Int), .int .i64 tn, .string T, .int .i64 (a : Int)] 71 (0, 0)) := hxr
  clear hxr c0 c1 c2 c3 fz q0 q1 q2 q3 g0 g1 g2 g3 HX0 HB0
  have HS2 := Lib.hid (HH.out.below HB2.out)
  obtain ⟨⟨c0, c1, c2, c3⟩, fz⟩ := HS2.out.cells
  have q0 := cell_of_row _ _ 0 _ _ _ hxr2
  have q1 := cell_of_row _ _ 1 _ _ _ hxr2
  have q2 := cell_of_row _ _ 2 _ _ _ hxr2
  have q3 := cell_of_row _ _ 3 _ _ _ hxr2
  simp at q0 q1 q2 q3
  have HXR := Lib.hid hxr2
  have c2a : (W2.alloc (.cells #[.int .i64 (tk : Int), .int .i64 tn, .string T, .int .i64 (a : Int)] 71)).cell? ⟨b, 2, none⟩ = some v := (World.cell?_alloc_lt _ _ _ HS2.out.lt).trans c2
  have HOWN : Hid (∀ o : Obj, (W2.alloc o).drew.ownsRow B 71 4 v l.length (tkL l)) := Lib.hid (fun o => own_other (w := W2) HS2.out.own (fun k hk => Below.heap_alloc W2 o k ((HS2.out.own.lt k hk).2)))
  have HONE : Hid (∀ u ∈ [Value.int .i64 (tk : Int), .int .i64 tn, .string T, .int .i64 (a : Int)], u.oneCell' = true) := Lib.hid (by
    intro u hu
    simp at hu
    rcases hu with rfl | rfl | rfl | rfl <;> rfl)
  have HFAR : Hid (∀ (o : Obj) (w3 : World), (W2.alloc o).drew.grownBy w3 v.ownBlock → w3.frozen? ⟨b, 2, none⟩ = false ∧ w3.cell? ⟨b, 2, none⟩ = some v) := Lib.hid (fun o w3 hg => by
    have hG := (hg.block b (by show _ < (W2.alloc o).heap.size; have := HS2.out.lt; simp; omega) (fun e => HS2.out.ne e.symm)).trans (Below.heap_alloc W2 o b HS2.out.lt)
    exact ⟨(World.frozen?_of_block hG).trans (fz 2), (World.cell?_of_block hG).trans c2⟩)
  obtain ⟨i0, hi, hz0, hz1, hz2⟩ := info_parts infoTok
  have HI := Lib.hid hi
  have HZ0 := Lib.hid hz0
  have HZ1 := Lib.hid hz1
  have HZ3 := Lib.hid hz2
  have h63 : l.length + 1 ≤ maxLen := by unfold maxLen; omega
  have H63 := Lib.hid h63
  have HNN : Hid ((0 : Nat) < 1) := Lib.hid (by omega)
  have HBY : Hid ((l.length + 1) * 40 ≤ 140737488355328) := Lib.hid (by omega)
  have HBS : Hid (∀ o : Obj, B ≤ (W2.alloc o).drew.heap.size) := Lib.hid fun o => by
    show B ≤ (W2.alloc o).heap.size
    have := HS2.out.base; simp; omega
  have f2 := fz 2
  clear hi hz0 hz1 hz2 h63 hxr2 fz
  obtain ⟨q, m, cq, hvs⟩ : ∃ q m cq, v = .slice q m cq := by
    rcases HS2.out.own.2 with ⟨hv, _⟩ | ⟨g, cap, cur, hv, _⟩
    · exact ⟨_, _, _, hv⟩
    · exact ⟨_, _, _, hv⟩
  subst hvs
  go_region_law (refine step_append_lies _ rfl (.tmp 19) (.tmp 21) 106 rfl B 71 i0 (.agg #[.int .i64 0, .int .i64 0, .string ⟨#[]⟩, .int .i64 0]) 4 40 Tryz.underlying106 HI.out HZ0.out HZ1.out HZ3.out rfl (by decide) (.slice q m cq) l.length (tkL l) (by rfl) (HOWN.out _) ⟨_, 0, none⟩ 1 1 [.int .i64 (tk : Int), .int .i64 tn, .string T, .int .i64 (a : Int)] (by rfl) rfl (World.news_of_block (heap_alloc_new _ _)) HONE.out HNN.out H63.out HBY.out (HBS.out _) _ rfl ?_; intro gN cap2 w3 hown hgrow hat hlt; have hF := HFAR.out _ _ hgrow; have f2 := hF.1; have c2 := hF.2)
  all_goals
    go_upto_region 3 with fail
    have hown2 : w3.ownsRow B 71 4 (.slice (some ⟨gN, 0, none⟩) (l.length + 1) cap2) (l.length + 1) (tkL l ++ (tkC ⟨tk, tn, ts⟩ (a : Int)).toList) := by
      have e : (tkC ⟨tk, tn, ts⟩ (a : Int)).toList = [Value.int .i64 (tk : Int), .int .i64 tn, .string T, .int .i64 (a : Int)] := by rw [HT.out]; rfl
      rw [e]; exact hown
    have HP := Lib.hid (HS2.out.push (t := ⟨tk, tn, ts⟩) hown2 hgrow)
    have HB4 : Hid (Below B w (w3.setCell ⟨b, 2, none⟩ (.slice (some ⟨gN, 0, none⟩) (l.length + 1) cap2))) := by
      have hb1 : Below B w W2 := HB2.out.mono (by have := HH.out.base; exact this)
      have hb2 := (((hb1.alloc HS2.out.base (.cells #[.int .i64 (tk : Int), .int .i64 tn, .string T, .int .i64 (a : Int)] 71)).drew).grown hgrow (HBS.out _) (fun k hk => (HS2.out.own.lt k hk).1))
      exact hb2.setCell (p := ⟨b, 2, none⟩) HH.out.hB _
    clear hown hown2 hgrow hat hlt hF f2 c2
    generalize w3.setCell ⟨b, 2, none⟩ (.slice (some ⟨gN, 0, none⟩) (l.length + 1) cap2) = w4 at *
    obtain ⟨⟨d0, d1, d2, d3⟩, dz⟩ := HP.out.cells
    have z1 := dz 1
    have z3 := dz 3
    have haI : (a : Int) + (n : Int) ≤ 5000 := by omega
    clear dz
    go_wp2_with fail
    go_ret2
    have hs := (HP.out.setAt (a + n)).setTight tg
    rw [Int.natCast_add] at hs
    exact ⟨rfl, (HB4.out.setCell (p := ⟨b, 1, none⟩) HH.out.hB _).setCell (p := ⟨b, 3, none⟩) HH.out.hB _, _, hs⟩
end
end Go.Proofs.YthjjgpepgbfalaaGreatDoor.Lx
end
section
/-! The scanner takes a string, a word. -/
set_option maxRecDepth 20000
set_option linter.unusedSimpArgs false
set_option linter.unusedVariables false
namespace Go.Proofs.YthjjgpepgbfalaaGreatDoor.Lx
open Go.RowKit

theorem qGo_spec : ∀ (k : Nat) (R : List UInt8) (i n : Nat), R.length ≤ k → qGo R i = n → n ≠ 0 → i < n ∧ n ≤ i + R.length ∧ wE (R.take (n - 1 - i)) = true := by
  intro k
  induction k with
  | zero =>
    intro R i n hR h hn
    have : R = [] := List.eq_nil_of_length_eq_zero (by omega)
    subst this
    exact absurd h.symm hn
  | succ k ih =>
    intro R i n hR h hn
    cases R with
    | nil => exact absurd h.symm hn
    | cons c t =>
      rw [qGo_cons] at h
      by_cases c1 : c = 34
      · rw [if_pos c1] at h
        subst h
        refine ⟨by omega, by simp, ?_⟩
        rw [show i + 1 - 1 - i = 0 by omega]; rfl
      · rw [if_neg c1] at h
        by_cases c2 : c = 92
        · rw [if_pos c2] at h
          cases t with
          | nil => exact absurd h.symm hn
          | cons x u =>
            have hl : u.length ≤ k := by simp at hR; omega
            obtain ⟨h1, h2, h3⟩ := ih u (i + 2) n hl h hn
            refine ⟨by omega, by simp; omega, ?_⟩
            rw [show n - 1 - i = (n - 1 - (i + 2)) + 1 + 1 by omega, List.take_succ_cons, List.take_succ_cons, c2]
            exact h3
        · rw [if_neg c2] at h
          obtain ⟨h1, h2, h3⟩ := ih t (i + 1) n (by simp at hR; omega) h hn
          refine ⟨by omega, by simp; omega, ?_⟩
          rw [show n - 1 - i = (n - 1 - (i + 1)) + 1 by omega, List.take_succ_cons]
          cases hq : t.take (n - 1 - (i + 1)) with
          | nil => simp [wE, c2]
          | cons d t2 => rw [hq] at h3; unfold wE; rw [if_neg c2]; exact h3
theorem qsz_spec {L : List UInt8} (h : qsz L ≠ 0) (hL : L ≠ []) : 2 ≤ qsz L ∧ qsz L ≤ L.length ∧ wE ((L.take (qsz L - 1)).drop 1) = true := by
  obtain ⟨h1, h2, h3⟩ := qGo_spec _ (L.drop 1) 1 (qsz L) (Nat.le_refl _) rfl h
  have hpos : 0 < L.length := List.length_pos_iff.2 hL
  rw [List.length_drop] at h2
  refine ⟨by omega, by omega, ?_⟩
  rw [List.drop_take]
  exact h3
/-- What a step of the scanner tells, and what it makes of it. -/
def StR (w w' : World) (B b : Nat) (S : ByteArray) (a : Nat) (l : List (Tk × Nat)) (st : St) (e : Ending) : Prop :=
  Below B w w' ∧ match st with
  | .err i x => e = .returned (.tuple #[.int .i64 ((a + i : Nat) : Int), .int .i64 x])
  | .pass n => e = .returned (.tuple #[.int .i64 0, .int .i64 0]) ∧ ∃ v', Scn w' B b S (a + n) v' false l
  | .tok t n tg => e = .returned (.tuple #[.int .i64 0, .int .i64 0]) ∧ ∃ v', Scn w' B b S (a + n) v' tg (l ++ [(t, a)])
section
variable {w w' : World} {B b a : Nat} {S : ByteArray} {l : List (Tk × Nat)} {e : Ending}
theorem StR.err {i : Nat} {x : Int} (hb : Below B w w') (h : e = .returned (.tuple #[.int .i64 ((a + i : Nat) : Int), .int .i64 x])) : StR w w' B b S a l (.err i x) e := ⟨hb, h⟩
theorem StR.tok {t : Tk} {n : Nat} {tg : Bool} (hb : Below B w w') (h : e = .returned (.tuple #[.int .i64 0, .int .i64 0])) (hs : ∃ v', Scn w' B b S (a + n) v' tg (l ++ [(t, a)])) : StR w w' B b S a l (.tok t n tg) e := ⟨hb, h, hs⟩
end
theorem unq_err : ∀ (f : Nat) (L : List UInt8) (i j : Nat), unq f L i = .error j → i ≤ j ∧ j < i + L.length
  | 0, L, i, j, h => by cases h
  | f + 1, [], i, j, h => by cases h
  | f + 1, c :: t, i, j, h => by
    unfold unq at h
    generalize hr : (if c = 92 then esc (c :: t) else (c.toNat, 1)) = r at h
    obtain ⟨b, n⟩ := r
    dsimp only at h
    by_cases hb : n = 0 ∨ 128 ≤ b
    · rw [if_pos hb] at h
      injection h with h
      subst h
      exact ⟨Nat.le_refl _, by simp⟩
    · rw [if_neg hb] at h
      cases hu : unq f ((c :: t).drop n) (i + n) with
      | ok l => rw [hu] at h; cases h
      | error k =>
        rw [hu] at h
        injection h with h
        subst h
        obtain ⟨h1, h2⟩ := unq_err f _ _ _ hu
        rw [List.length_drop] at h2
        exact ⟨by omega, by omega⟩
section
variable {w w' : World} {B b a : Nat} {S : ByteArray} {v : Value} {tight : Bool} {l : List (Tk × Nat)}
set_option maxHeartbeats 3200000 in
theorem Scn.quoted (h : Scn w B b S a v tight l) (hE : Env w) (hS : S.size ≤ 5000) (ha : a < S.size) (hl : l.length ≤ a) :
    Calls Tryz.prog 91 #[.pointer (some ⟨b, 0, none⟩)] w fun e w' => StR w w' B b S a l (quotM ((tl S).drop a)) e := by
  obtain ⟨⟨c0, c1, c2, c3⟩, fz⟩ := h.cells
  have HH := Lib.hid h
  have hxl : (S.extract a S.size).size = S.size - a := by rw [← tl_len, tl_from, List.length_drop, tl_len]
  have hqs := fun w => quotedSize_any (S.extract a S.size) w (by omega)
  rw [tl_from] at hqs
  obtain ⟨L, hLd⟩ : ∃ L, (tl S).drop a = L := ⟨_, rfl⟩
  have hLl : L.length = S.size - a := by rw [← hLd, List.length_drop, tl_len]
  rw [hLd] at hqs ⊢
  have hsp := fun hq => qsz_spec (L := L) hq (fun e => by rw [e] at hLl; simp at hLl; omega)
  obtain ⟨RQ, hRQ⟩ : ∃ RQ, quotM L = RQ := ⟨_, rfl⟩
  rw [hRQ]
  unfold quotM at hRQ
  have haI : (a : Int) < (S.size : Int) := by omega
  have hSI : (S.size : Int) ≤ 5000 := by omega
  have HEW := Lib.hid hE
  obtain ⟨q, hq⟩ : ∃ q, qsz L = q := ⟨_, rfl⟩
  rw [hq] at hqs hRQ hsp
  have HQ := Lib.hid hqs
  clear h hE hqs hxl fz
  by_cases hq0 : q = 0
  · rw [if_pos hq0] at hRQ
    have e0 : ((q : Int) == 0) = true := by rw [hq0]; rfl
    have HRQ : Hid (St.err 0 3 = RQ) := hRQ
    clear hRQ hsp hq hq0
    go_enter Tryz.func91, Tryz.ntmps91
    go_wp2_with fail
    go_quiet ((go_at_call 113; exact Calls.quiet_of_same ((HQ.out _).mono fun _ _ h => ⟨h.1, h.2.symm⟩)))
    have k1 : (w.drewN nq).cell? ⟨b, 1, none⟩ = some (.int .i64 (a : Int)) := c1
    go_wp2_with fail
    go_ret2
    unfold StR
    rw [← HRQ.out]
    exact ⟨(below_drewN (Below.refl _ _) _), rfl⟩
  · rw [if_neg hq0] at hRQ
    obtain ⟨s1, s2, s3⟩ := hsp hq0
    have e0 : ((q : Int) == 0) = false := by rw [beq_eq_false_iff_ne]; omega
    have e1 : (q == 0) = false := by rw [beq_eq_false_iff_ne]; exact hq0
    have hin : tl (S.extract (a + 1) (a + q - 1)) = (L.take (q - 1)).drop 1 := by
      rw [tl_extract, ← hLd, List.drop_take, List.drop_drop]
      congr 1
      omega
    have hins : (S.extract (a + 1) (a + q - 1)).size = q - 2 := by
      rw [← tl_len, hin, List.length_drop, List.length_take]; omega
    have hun := fun w hE => unquote_any (S.extract (a + 1) (a + q - 1)) q w hE (by omega) (by omega) (by rw [hin]; exact s3)
    rw [hin] at hun
    have HNB : Hid (a + q ≤ S.size) := Lib.hid (by omega)
    have hqI : (2 : Int) ≤ (q : Int) := by omega
    have haq : (a : Int) + (q : Int) ≤ (S.size : Int) := by omega
    obtain ⟨x, hx⟩ : ∃ x, a + 1 = x := ⟨_, rfl⟩
    obtain ⟨y, hy⟩ : ∃ y, a + q - 1 = y := ⟨_, rfl⟩
    obtain ⟨z, hz⟩ : ∃ z : Int, (a : Int) + (q : Int) = z := ⟨_, rfl⟩
    have hw1 : IntKind.i64.wrap ((a : Int) + 1) = (x : Int) := by rw [IntKind.wrap_i64]; omega
    have hw2 : IntKind.i64.wrap ((a : Int) + (q : Int)) = z := by rw [IntKind.wrap_i64]; omega
    have hw3 : IntKind.i64.wrap (z - 1) = (y : Int) := by rw [IntKind.wrap_i64]; omega
    have hxy : x ≤ y := by omega
    have hyS : y ≤ S.size := by omega
    have hxyI : (x : Int) ≤ (y : Int) := by omega
    have hySI : (y : Int) ≤ (S.size : Int) := by omega
    have HXZ : Hid (a + 1 = x ∧ a + q - 1 = y ∧ (a : Int) + (q : Int) = z) := Lib.hid ⟨hx, hy, hz⟩
    rw [hx, hy] at hun
    obtain ⟨U, hU⟩ : ∃ U, unq q ((L.take (q - 1)).drop 1) 0 = U := ⟨_, rfl⟩
    rw [hU] at hun hRQ
    have hje : ∀ j, U = .error j → j < q := fun j e => by
      have h := (unq_err _ _ _ _ (hU.trans e)).2
      rw [List.length_drop, List.length_take] at h
      omega
    clear hq0 hq hsp hin hins s1 s2 s3 hU hLl hLd hx hy hz
    cases U with
    | error j =>
      have HUN : Hid (∀ w, Env w → Calls Tryz.prog 114 #[.string (S.extract x y)] w fun e w' => e = .returned (.tuple #[.string ⟨#[]⟩, .int .i64 (j : Int)]) ∧ Below w.heap.size w w') := hun
      have HRQ : Hid (St.err (1 + j) 4 = RQ) := hRQ
      have hjq := hje j rfl
      have hxj : (x : Int) + (j : Int) ≤ 10000 := by have := HXZ.out.1; omega
      clear hRQ hun hje
      go_enter Tryz.func91, Tryz.ntmps91
      go_wp2_with fail
      go_quiet ((go_at_call 113; exact Calls.quiet_of_same ((HQ.out _).mono fun _ _ h => ⟨h.1, h.2.symm⟩)))
      have HS1 := Lib.hid (HH.out.below (below_drewN (Below.refl _ _) nq))
      have HB1 : Hid (Below w.heap.size w (w.drewN nq)) := Lib.hid (below_drewN (Below.refl _ _) nq)
      generalize w.drewN nq = w1 at *
      obtain ⟨⟨k0, k1, k2, k3⟩, kz⟩ := HS1.out.cells
      clear kz c0 c1 c2 c3
      go_upto_region 4 with fail
      go_region_held3 (fun u : World => u.cell? ⟨b, 0, none⟩ = some (.string S) ∧ u.cell? ⟨b, 1, none⟩ = some (.int .i64 (a : Int))) ((first | with_reducible exact ⟨k0, k1⟩ | with_reducible exact ⟨m0, m1⟩ | go_keep)) ((go_at_call 114; refine (HUN.out _ (by exact HEW.out.below (HB1.out.trans ((Below.refl _ _).drew)))).mono ?_; rintro e w2 ⟨rfl, hb2⟩; have HS3 := Lib.hid ((HS1.out.below (Below.refl _ _).drew).below hb2); obtain ⟨⟨m0, m1, m2, m3⟩, mz⟩ := HS3.out.cells; have HB2 := Lib.hid hb2; clear hb2 mz))
      all_goals
        have HB3 : Hid (Below w.heap.size w w2) := Lib.hid (HB1.out.trans (((Below.refl _ _).drew.trans HB2.out).mono HB1.out.size))
        clear k0 k1 k2 k3
        go_wp2_with fail
        go_ret2
        rw [← HRQ.out]
        refine StR.err (HB3.out.mono HH.out.base) ?_
        have hxz := HXZ.out.1
        rw [show ((a + (1 + j) : Nat) : Int) = (x : Int) + (j : Int) by omega]
        rfl
    | ok u =>
      have HUN : Hid (∀ w, Env w → Calls Tryz.prog 114 #[.string (S.extract x y)] w fun e w' => e = .returned (.tuple #[.string ⟨u.toArray⟩, .int .i64 (-1)]) ∧ Below w.heap.size w w') := hun
      have HRQ : Hid (St.tok ⟨13, 0, u⟩ q true = RQ) := hRQ
      obtain ⟨T, hT⟩ : ∃ T : ByteArray, T = ⟨u.toArray⟩ := ⟨_, rfl⟩
      rw [← hT] at HUN
      have hbk := buildKS 13 T
      have HTT := Lib.hid hT
      clear hRQ hun hje hT
      go_enter Tryz.func91, Tryz.ntmps91
      go_wp2_with fail
      go_quiet ((go_at_call 113; exact Calls.quiet_of_same ((HQ.out _).mono fun _ _ h => ⟨h.1, h.2.symm⟩)))
      have HS1 := Lib.hid (HH.out.below (below_drewN (Below.refl _ _) nq))
      have HB1 : Hid (Below w.heap.size w (w.drewN nq)) := Lib.hid (below_drewN (Below.refl _ _) nq)
      generalize w.drewN nq = w1 at *
      obtain ⟨⟨k0, k1, k2, k3⟩, kz⟩ := HS1.out.cells
      clear kz c0 c1 c2 c3
      go_upto_region 4 with fail
      go_region_held3 (fun u : World => u.cell? ⟨b, 0, none⟩ = some (.string S) ∧ u.cell? ⟨b, 1, none⟩ = some (.int .i64 (a : Int))) ((first | with_reducible exact ⟨k0, k1⟩ | with_reducible exact ⟨m0, m1⟩ | go_keep)) ((go_at_call 114; refine (HUN.out _ (by exact HEW.out.below (HB1.out.trans ((Below.refl _ _).drew)))).mono ?_; rintro e w2 ⟨rfl, hb2⟩; have HS3 := Lib.hid ((HS1.out.below (Below.refl _ _).drew).below hb2); obtain ⟨⟨m0, m1, m2, m3⟩, mz⟩ := HS3.out.cells; have HB2 := Lib.hid hb2; clear hb2 mz))
      all_goals
        have HB3 : Hid (Below w.heap.size w w2) := Lib.hid (HB1.out.trans (((Below.refl _ _).drew.trans HB2.out).mono HB1.out.size))
        clear k0 k1 k2 k3
        have HTK : Hid (Calls Tryz.prog 115 #[.pointer (some ⟨b, 0, none⟩), .agg #[.int .i64 13, .int .i64 0, .string T, .int .i64 0], .int .i64 (q : Int), .bool true] w2 fun e w' => e = .returned (.tuple #[.int .i64 0, .int .i64 0]) ∧ Below B w2 w' ∧ ∃ v', Scn w' B b S (a + q) v' true (l ++ [(⟨13, 0, u⟩, a)])) := by
          have h := HS3.out.take hS ⟨13, 0, u⟩ q true HNB.out hl
          unfold tkC at h
          dsimp only at h
          rw [← HTT.out] at h
          exact h
        go_wp2_with (go_at_call 115; refine HTK.out.mono ?_; rintro e w5 ⟨rfl, hb5, hs5⟩; have HS5 := Lib.hid hs5; have HB5 := Lib.hid ((HB3.out.mono HH.out.base).trans hb5); clear hs5 hb5)
        go_ret2
        rw [← HRQ.out]
        exact StR.tok HB5.out rfl HS5.out
end
end Go.Proofs.YthjjgpepgbfalaaGreatDoor.Lx
end
