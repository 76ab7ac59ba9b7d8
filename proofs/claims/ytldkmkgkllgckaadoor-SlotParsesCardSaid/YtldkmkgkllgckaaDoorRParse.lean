/- The document's Parse. -/
import Derived.Test.YtldkmkgkllgckaaDoorParse
import Derived.Test.YtldkmkgkllgckaaDoorRef
set_option linter.unusedSimpArgs false
namespace Go.Proofs.YtldkmkgkllgckaaDoor
open Go.RowKit

/-- What the document's Parse leaves. -/
structure RRes (w w' : World) (S : ByteArray) (v : Value) : Prop where
  ok : parseE S = 0 → ∃ l, parseM S = some l ∧ Rf w' v l
  below : Below w.heap.size w w'
theorem RRes.none_ {w w' : World} {S : ByteArray} {v : Value} (h : parseE S ≠ 0) (hb : Below w.heap.size w w') : RRes w w' S v := ⟨fun e => absurd e h, hb⟩
theorem zeroB_no {S : ByteArray} {a j : Nat} (hS : S.size = 512) (ha : a ≤ j) (hj : j < 512) (h : byteAt S j ≠ 0) : ¬ zeroB S a = true := by
  intro hz
  have hl : (nums S).length = 512 := by rw [nums_len, hS]
  have h1 := zero_drop hz
  apply h
  unfold byteAt
  have h2 : ((nums S).drop a)[j - a]? = some 0 := by
    rw [h1, List.getElem?_replicate, if_pos (by omega)]
  rw [List.getElem?_drop, show a + (j - a) = j by omega] at h2
  rw [List.getD_eq_getElem?_getD, h2]; rfl
theorem zeroB_yes {S : ByteArray} {a : Nat} (hS : S.size = 512) (h : ∀ j, a ≤ j → j < 512 → byteAt S j = 0) : zeroB S a = true := by
  have hl : (nums S).length = 512 := by rw [nums_len, hS]
  unfold zeroB
  rw [List.all_eq_true]
  intro x hx
  obtain ⟨j, hj, e⟩ := List.getElem_of_mem hx
  rw [List.length_drop, hl] at hj
  have h1 := h (a + j) (by omega) (by omega)
  unfold byteAt at h1
  rw [List.getElem_drop] at e
  rw [List.getD_eq_getElem?_getD, List.getElem?_eq_getElem (by omega)] at h1
  simp only [Option.getD_some] at h1
  simp; omega
theorem rparse_short (S : ByteArray) (w : World) (hS : S.size < 512) : Calls Tryd.prog 7 #[.string S] w fun e w' => ∃ p, e = .returned (.tuple #[p, .int .i64 (parseE S)]) ∧ RRes w w' S p := by
  have hE : parseE S = 3 := by unfold parseE; rw [if_pos hS]
  have HR : Hid (∀ v, RRes w w S v) := Lib.hid (fun v => RRes.none_ (by rw [hE]; decide) (Below.refl _ _))
  have hd : decide ((S.size : Int) < 512) = true := by simp; omega
  rw [hE]
  go_enter Tryd.func7, Tryd.ntmps7
  go_wp2_with fail
  go_ret2
  exact ⟨_, rfl, HR.out _⟩
theorem rparse_long (S : ByteArray) (w : World) (hS : 512 < S.size) (h63 : S.size ≤ 9223372036854775807) : Calls Tryd.prog 7 #[.string S] w fun e w' => ∃ p, e = .returned (.tuple #[p, .int .i64 (parseE S)]) ∧ RRes w w' S p := by
  have hE : parseE S = 2 := by unfold parseE; rw [if_neg (by omega), if_pos hS]
  have HR : Hid (∀ v, RRes w w S v) := Lib.hid (fun v => RRes.none_ (by rw [hE]; decide) (Below.refl _ _))
  have hd : decide ((S.size : Int) < 512) = false := by simp; omega
  have hd2 : decide ((512 : Int) < (S.size : Int)) = true := by simp; omega
  rw [hE]
  go_enter Tryd.func7, Tryd.ntmps7
  go_wp2_with fail
  go_ret2
  exact ⟨_, rfl, HR.out _⟩
theorem rparse_bad1 (S : ByteArray) (w : World) (hS : S.size = 512) (h64 : 64 < cntA S) : Calls Tryd.prog 7 #[.string S] w fun e w' => ∃ p, e = .returned (.tuple #[p, .int .i64 (parseE S)]) ∧ RRes w w' S p := by
  have hE : parseE S = 4 := parseE_no hS (parse_no1 h64)
  have HR : Hid (∀ v, RRes w w S v) := Lib.hid (fun v => RRes.none_ (by rw [hE]; decide) (Below.refl _ _))
  obtain ⟨c, HC⟩ : ∃ c, Hid (cntA S = c) := ⟨_, Lib.hid rfl⟩
  have h0 : ∀ w, (Instr.index 9 (.string S) (.int .i64 0)).run Tryd.prog w = .ok (.int .u8 (c : Int)) w := by rw [← HC.out]; exact index_any S 0 (by omega)
  have hc : c ≤ 255 := by have := byteAt_lt S 0; have h2 := HC.out; unfold cntA at h2; omega
  rw [HC.out] at h64
  have hd : decide ((64 : Int) < (c : Int)) = true := by simp; omega
  rw [hE]
  go_enter Tryd.func7, Tryd.ntmps7
  go_wp2_with fail
  go_ret2
  exact ⟨_, rfl, HR.out _⟩
/-- Amid the loop. -/
structure Rp (w wr : World) (v : Value) (l : List Sl) : Prop where
  below : Below w.heap.size w wr
  row : wr.ownsRow w.heap.size 59 2 v l.length (flat l)
theorem Rp.drewN {w wr : World} {v : Value} {l : List Sl} (h : Rp w wr v l) (n : Nat) : Rp w (wr.drewN n) v l := ⟨h.below.trans ⟨rfl, rfl, rfl, Nat.le_refl _, fun _ _ => rfl⟩, h.row⟩
theorem Rp.rf {w wr : World} {v : Value} {l : List Sl} (h : Rp w wr v l) : Rf wr v l := base0 h.row
theorem Rp.snoc {w wr w3 : World} {v v2 : Value} {l : List Sl} {o : Sl} {ob : Obj} (h : Rp w wr v l) (hown : w3.ownsRow w.heap.size 59 2 v2 (l.length + 1) (flat l ++ [.bool o.isSome, .string (recOf o)])) (hgrow : (wr.alloc ob).grownBy w3 v.ownBlock) : Rp w w3 v2 (l ++ [o]) := by
  refine ⟨(h.below.alloc h.below.size ob).grown hgrow (Nat.le_trans h.below.size (by simp)) (fun k e => (h.row.lt k e).1), ?_⟩
  rw [List.length_append, flat_append, flat_one]
  exact hown
set_option maxRecDepth 20000 in
set_option maxHeartbeats 3200000 in
theorem rparse_512 (S : ByteArray) (w : World) (hS : S.size = 512) (h64 : ¬ 64 < cntA S) : Calls Tryd.prog 7 #[.string S] w fun e w' => ∃ p, e = .returned (.tuple #[p, .int .i64 (parseE S)]) ∧ RRes w w' S p := by
  have HS := Lib.hid hS
  have H64 := Lib.hid h64
  obtain ⟨c, HC⟩ : ∃ c, Hid (cntA S = c) := ⟨_, Lib.hid rfl⟩
  have h0 : ∀ w, (Instr.index 9 (.string S) (.int .i64 0)).run Tryd.prog w = .ok (.int .u8 (c : Int)) w := by rw [← HC.out]; exact index_any S 0 (by omega)
  have HIX : Hid (∀ i : Nat, i < 512 → ∀ w, (Instr.index 9 (.string S) (.int .i64 (i : Int))).run Tryd.prog w = .ok (.int .u8 (byteAt S i : Int)) w) := Lib.hid (fun i hi => index_any S i (by omega))
  rw [HC.out] at h64
  have hd : decide ((64 : Int) < (c : Int)) = false := by simp; omega
  have hc : c ≤ 64 := by omega
  obtain ⟨i0, hi, hz0, hz1, hz2⟩ := info_parts infoR
  have HI := Lib.hid hi
  have HZ0 := Lib.hid hz0
  have HZ1 := Lib.hid hz1
  have HZ2 := Lib.hid hz2
  clear hi hz0 hz1 hz2
  obtain ⟨E, HE⟩ : ∃ E, Hid (parseE S = E) := ⟨_, Lib.hid rfl⟩
  rw [HE.out]
  have HG0 : Hid (goF S 0 = some ([], 1 + 2 * c)) := Lib.hid (by
    show some (([] : List Sl), 1 + 2 * cntA S) = _
    rw [HC.out])
  have HP0 : Hid (Rp w w (.slice none 0 0) []) := Lib.hid ⟨Below.refl _ _, World.ownsRow_nil _ _ _ _⟩
  go_enter Tryd.func7, Tryd.ntmps7
  go_wp2_with fail
  clear h0 hd
  go_loopw [5, 6, 7, 8] (fun av rv iv _ wr => ∃ (k a cq : Nat) (l : List Sl) (q : Option Addr), k ≤ c ∧ iv = .int .i64 (k : Int) ∧ av = .int .i64 (a : Int) ∧ rv = .slice q k cq ∧ Hid (goF S k = some (l, a)) ∧ Hid (Rp w wr (.slice q k cq) l)) (fun _ _ iv _ _ => c - (intOf iv).toNat)
  case atStart => exact ⟨0, _, 0, [], none, Nat.zero_le _, by go_num, by go_num, rfl, HG0, HP0⟩
  case round =>
    obtain ⟨k, a, cq, l, q, hk, rfl, rfl, rfl, hgo, hpl⟩ := hrel
    clear HG0 HP0
    have h9 := go9 S HS.out (by have := HC.out; omega) k (by have := HC.out; omega) hgo.out
    have ha := h9.le
    have HLK := Lib.hid h9.len
    by_cases hlt : k < c
    · have x1 := HIX.out (1 + 2 * k) (by omega)
      have x2 := HIX.out (2 + 2 * k) (by omega)
      rw [show ((1 + 2 * k : Nat) : Int) = 1 + 2 * (k : Int) by omega] at x1
      rw [show ((2 + 2 * k : Nat) : Int) = 2 + 2 * (k : Int) by omega] at x2
      have hb1 := byteAt_lt S (1 + 2 * k)
      have hb2 := byteAt_lt S (2 + 2 * k)
      have HSZ : Hid (szA S k = byteAt S (1 + 2 * k) * 256 + byteAt S (2 + 2 * k)) := Lib.hid rfl
      have HSK : Hid (goF S (k + 1) = goS S (szA S k) l a) := Lib.hid (goF_some hgo.out)
      have hs64 := szA_le S k
      generalize byteAt S (1 + 2 * k) = m1 at *
      generalize byteAt S (2 + 2 * k) = m2 at *
      generalize szA S k = s at *
      have hkc : (k : Int) < (c : Int) := by omega
      clear HIX h9
      go_upto_region 13 with fail
      go_cut [8] (fun v wx => v = .int .i64 (s : Int) ∧ Hid (Rp w wx (.slice q k cq) l))
      case first =>
        go_quiet (fail)
        go_wp2_with fail
        go_meet
        exact ⟨by rw [HSZ.out, Int.natCast_add, Int.natCast_mul]; rfl, Lib.hid (hpl.out.drewN _)⟩
      case rest =>
        obtain ⟨rfl, hpl2⟩ := hcut
        clear hpl x1 x2
        have hrow := hpl2.out.row
        rw [HLK.out] at hrow
        have HROW := Lib.hid hrow
        have HBS : Hid (w.heap.size ≤ wc.heap.size) := Lib.hid hpl2.out.below.size
        have H63 : Hid (k + 1 ≤ maxLen) := Lib.hid (by unfold maxLen; omega)
        clear hrow
        rcases Nat.eq_zero_or_pos s with h0 | h0
        · subst h0
          have HNX : Hid (goF S (k + 1) = some (l ++ [none], a)) := HSK
          clear HSK HSZ
          have HO : Hid (∀ ob, (wc.alloc ob).ownsRow w.heap.size 59 2 (.slice q k cq) k (flat l)) := Lib.hid (fun ob => HROW.out.alloc ob)
          go_wp2_with (at_builtin; refine wpList_append_lies _ rfl (.tmp 44) (.tmp 46) 27 rfl w.heap.size 59 i0 (.agg #[.bool false, .string ⟨#[]⟩]) 2 24 Tryd.underlying27 HI.out HZ0.out HZ1.out HZ2.out rfl (by decide) (.slice q k cq) k (flat l) (by rfl) (HO.out _) ⟨wc.heap.size, 0, none⟩ 1 1 [.bool false, .string ⟨#[]⟩] (by rfl) rfl (cell_two_new wc _ _ _) (by decide) (by omega) H63.out (by omega) (Nat.le_trans HBS.out (by simp)) (wc.heap.size + 1) (by simp) ?_; intro gN cap w3 hown hgrow hat hlt3)
          have HPN : Hid (Rp w w3 (.slice (some ⟨gN, 0, none⟩) (k + 1) cap) (l ++ [none])) := Lib.hid (by
            rw [← HLK.out] at hown hgrow
            have h2 := hpl2.out
            rw [← HLK.out] at h2
            have := h2.snoc (o := none) hown hgrow
            rwa [HLK.out] at this)
          clear hown hgrow hat hlt3
          go_roundw
          case rel => exact ⟨k + 1, a, cap, l ++ [none], _, by omega, by go_num, rfl, rfl, HNX, HPN⟩
          case measure => simp [intOf]; omega
        · obtain ⟨n, rfl⟩ : ∃ n, s = n + 1 := ⟨s - 1, by omega⟩
          rw [Int.natCast_add, Int.natCast_one]
          have hn6 : n ≤ 65535 := by omega
          have ha' : (a : Int) ≤ 512 := by omega
          by_cases hbad : 480 < n ∨ 512 - a < n
          · have HNO : Hid (parseE S = 4) := Lib.hid (parseE_no HS.out (parse_no3 (k := k + 1) (by rw [HSK.out, goS_eq, Nat.add_sub_cancel, if_pos hbad]) (by have := HC.out; omega)))
            have HPR : Hid (∀ v, RRes w wc S v) := Lib.hid (fun v => RRes.none_ (by rw [HNO.out]; decide) hpl2.out.below)
            have HE4 : Hid (E = 4) := Lib.hid (HE.out.symm.trans HNO.out)
            by_cases hb2 : 480 < n
            · have hd1 : decide ((481 : Int) < (n : Int) + 1) = true := by simp; omega
              clear hbad
              go_wp2_with fail
              all_goals
                go_ret2
                rw [HE4.out]
                exact ⟨_, rfl, HPR.out _⟩
            · have hd1 : decide ((481 : Int) < (n : Int) + 1) = false := by simp; omega
              have hd2 : decide ((512 : Int) - (a : Int) < (n : Int)) = true := by simp; omega
              clear hbad
              go_wp2_with fail
              all_goals
                go_ret2
                rw [HE4.out]
                exact ⟨_, rfl, HPR.out _⟩
          · have hn1 : n ≤ 480 := by omega
            have hn2 : a + n ≤ 512 := by omega
            have HNX : Hid (goF S (k + 1) = some (l ++ [some (S.extract a (a + n))], a + n)) := Lib.hid (by rw [HSK.out, goS_eq, Nat.add_sub_cancel, if_neg hbad]; rfl)
            have hd1 : decide ((481 : Int) < (n : Int) + 1) = false := by simp; omega
            have hd2 : decide ((512 : Int) - (a : Int) < (n : Int)) = false := by simp; omega
            clear hbad HSK HSZ
            have HO : Hid (∀ ob, (wc.alloc ob).ownsRow w.heap.size 59 2 (.slice q k cq) k (flat l)) := Lib.hid (fun ob => HROW.out.alloc ob)
            have HEO : Hid ([Value.bool true, .string (S.extract a (a + n))] = [.bool (some (S.extract a (a + n)) : Sl).isSome, .string (recOf (some (S.extract a (a + n))))]) := Lib.hid rfl
            have HONE : Hid (∀ u ∈ [Value.bool true, .string (S.extract a (a + n))], u.oneCell' = true) := Lib.hid (by
              intro u hu
              simp at hu
              rcases hu with rfl | rfl <;> rfl)
            go_wp2_with (at_builtin; refine wpList_append_lies _ rfl (.tmp 57) (.tmp 66) 27 rfl w.heap.size 59 i0 (.agg #[.bool false, .string ⟨#[]⟩]) 2 24 Tryd.underlying27 HI.out HZ0.out HZ1.out HZ2.out rfl (by decide) (.slice q k cq) k (flat l) (by rfl) (HO.out _) ⟨wc.heap.size, 0, none⟩ 1 1 [.bool true, .string (S.extract a (a + n))] (by rfl) rfl (cell_two_new wc _ _ _) HONE.out (by omega) H63.out (by omega) (Nat.le_trans HBS.out (by simp)) (wc.heap.size + 1) (by simp) ?_; intro gN cap w3 hown hgrow hat hlt3)
            have HPN : Hid (Rp w w3 (.slice (some ⟨gN, 0, none⟩) (k + 1) cap) (l ++ [some (S.extract a (a + n))])) := Lib.hid (by
              rw [HEO.out] at hown
              rw [← HLK.out] at hown hgrow
              have h2 := hpl2.out
              rw [← HLK.out] at h2
              have := h2.snoc (o := some (S.extract a (a + n))) hown hgrow
              rwa [HLK.out] at this)
            clear hown hgrow hat hlt3
            go_roundw
            case rel => exact ⟨k + 1, a + n, cap, _, _, by omega, by go_num, by go_num, rfl, HNX, HPN⟩
            case measure => simp [intOf]; omega
    · obtain rfl : k = c := by omega
      have HGO : Hid (goF S (cntA S) = some (l, a)) := Lib.hid (by rw [HC.out]; exact hgo.out)
      have HSZS := Lib.hid h9.szs
      by_cases hl0 : 0 < cntA S ∧ szA S (cntA S - 1) = 0
      · have HE4 : Hid (E = 4) := Lib.hid (HE.out.symm.trans (parseE_no HS.out (parse_no2 hl0)))
        have HNE : Hid (parseE S ≠ 0) := Lib.hid (by rw [HE.out, HE4.out]; decide)
        have hl1 := hl0
        rw [HC.out] at hl1
        have hk0 := hl1.1
        have h1 := h9.szs (k - 1) (by omega)
        rw [hl1.2] at h1
        have h2 : (slot l (k - 1)).isSome = false := by
          unfold szc at h1
          split at h1
          · cases h1
          · rename_i h3; simpa using h3
        obtain ⟨b, c', e, hcc, x1, x2⟩ := hpl.out.rf.at (k := k - 1) (by rw [HLK.out]; omega)
        rw [HLK.out] at e hcc
        cases e
        rw [h2] at x1
        have hd1 : decide ((0 : Int) < (k : Int)) = true := by simp; omega
        clear hl0 hl1 h1 h2 h9
        go_wp2_with fail
        go_ret2
        rw [HE4.out]
        exact ⟨_, rfl, RRes.none_ HNE.out hpl.out.below⟩
      · have HPM : Hid (parseM S = if zeroB S a = true then some l else none) := Lib.hid (parse_at HGO.out H64.out hl0)
        have hlast : 0 < k → (slot l (k - 1)).isSome = true := by
          intro hk0
          have h1 := h9.szs (k - 1) (by omega)
          unfold szc at h1
          split at h1
          · assumption
          · exact absurd ⟨by have := HC.out; omega, by rw [HC.out]; exact h1.symm⟩ hl0
        have HLS := Lib.hid hlast
        clear hl0 hlast h9
        go_upto_region 20 with fail
        go_cut [82] (fun v wx => v = .bool false ∧ Hid (wx = wr))
        case first =>
          rcases Nat.eq_zero_or_pos k with h0 | h0
          · subst h0
            go_wp2_with fail
            go_meet
            exact ⟨rfl, Lib.hid rfl⟩
          · obtain ⟨b, c', e, hcc, x1, x2⟩ := hpl.out.rf.at (k := k - 1) (by rw [HLK.out]; omega)
            rw [HLK.out] at e hcc
            cases e
            rw [HLS.out h0] at x1
            have hd1 : decide ((0 : Int) < (k : Int)) = true := by simp; omega
            go_wp2_with fail
            go_meet
            exact ⟨rfl, Lib.hid rfl⟩
        case rest =>
          obtain ⟨rfl, hwx⟩ := hcut
          obtain rfl := hwx.out
          have HZ0' : Hid (∀ j, a ≤ j → j < a → byteAt S j = 0) := Lib.hid (fun j h1 h2 => by omega)
          go_wp2_with fail
          go_loop [5] (fun av => ∃ t : Nat, a ≤ t ∧ t ≤ 512 ∧ av = .int .i64 (t : Int) ∧ Hid (∀ j, a ≤ j → j < t → byteAt S j = 0)) (fun av => 512 - (intOf av).toNat)
          case atStart => exact ⟨a, Nat.le_refl _, ha, rfl, HZ0'⟩
          case round =>
            obtain ⟨t, hat, ht, rfl, hzs⟩ := hrel
            by_cases htl : t < 512
            · have x1 := HIX.out t htl
              by_cases hz : byteAt S t = 0
              · have hzz : Hid (∀ j, a ≤ j → j < t + 1 → byteAt S j = 0) := Lib.hid (fun j h1 h2 => (Nat.lt_succ_iff_lt_or_eq.1 h2).elim (hzs.out j h1) (fun e => by rw [e]; exact hz))
                rw [hz] at x1
                have hd1 : decide ((t : Int) < 512) = true := by simp; omega
                clear hz
                go_wp2_with fail
                go_round
                case rel => exact ⟨t + 1, by omega, by omega, by go_num, hzz⟩
                case measure => simp [intOf]; omega
              · have hPM := HPM.out
                rw [if_neg (zeroB_no HS.out hat htl hz)] at hPM
                have HE4 : Hid (E = 4) := Lib.hid (HE.out.symm.trans (parseE_no HS.out hPM))
                have HNE : Hid (parseE S ≠ 0) := Lib.hid (by rw [HE.out, HE4.out]; decide)
                have hd1 : decide ((t : Int) < 512) = true := by simp; omega
                have hbz : ((byteAt S t : Int) == 0) = false := by simp; omega
                clear hPM hz
                go_wp2_with fail
                go_ret2
                rw [HE4.out]
                exact ⟨_, rfl, RRes.none_ HNE.out hpl.out.below⟩
            · obtain rfl : t = 512 := by omega
              have hPM := HPM.out
              rw [if_pos (zeroB_yes HS.out hzs.out)] at hPM
              have HPM2 := Lib.hid hPM
              have HE0 : Hid (E = 0) := Lib.hid (HE.out.symm.trans (parseE_ok HS.out hPM))
              clear hPM
              go_wp2_with fail
              go_ret2
              rw [HE0.out]
              exact ⟨_, rfl, fun _ => ⟨l, HPM2.out, hpl.out.rf⟩, hpl.out.below⟩
theorem rparse_any (S : ByteArray) (w : World) (h63 : S.size ≤ 9223372036854775807) : Calls Tryd.prog 7 #[.string S] w fun e w' => ∃ p, e = .returned (.tuple #[p, .int .i64 (parseE S)]) ∧ RRes w w' S p := by
  rcases Nat.lt_trichotomy S.size 512 with h | h | h
  · exact rparse_short S w h
  · by_cases h64 : 64 < cntA S
    · exact rparse_bad1 S w h h64
    · exact rparse_512 S w h h64
  · exact rparse_long S w h h63
end Go.Proofs.YtldkmkgkllgckaaDoor
