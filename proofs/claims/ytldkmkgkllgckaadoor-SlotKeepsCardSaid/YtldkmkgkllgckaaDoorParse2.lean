/- Parse, where all slots are told. -/
import Derived.Test.YtldkmkgkllgckaaDoorParse
import Derived.Deep.RegionLaw
import Derived.Deep.AppendLies
set_option linter.unusedSimpArgs false
namespace Go.Proofs.YtldkmkgkllgckaaDoor
open Go.RowKit

set_option maxRecDepth 20000 in
set_option maxHeartbeats 3200000 in
theorem parse_512 (S : ByteArray) (w : World) (hS : S.size = 512) (h64 : ¬ 64 < cntA S) (h0 : ¬ (0 < cntA S ∧ szA S (cntA S - 1) = 0)) : Calls Tryd.prog 6 #[.string S] w fun e w' => ∃ p, e = .returned (.tuple #[p, .int .i64 (parseE S)]) ∧ PRes w w' S p := by
  have HB := Lib.hid (sizes_any S · hS h64)
  rw [decide_eq_false h0, Bool.not_false] at HB
  have HS := Lib.hid hS
  have hd1 : decide ((512 : Int) < 512) = false := by decide
  obtain ⟨c, HC⟩ : ∃ c, Hid (cntA S = c) := ⟨_, Lib.hid rfl⟩
  have H0 := Lib.hid h0
  have H64 := Lib.hid h64
  rw [HC.out] at HB h64
  have hc : c ≤ 64 := by omega
  obtain ⟨E, HE⟩ : ∃ E, Hid (parseE S = E) := ⟨_, Lib.hid rfl⟩
  rw [HE.out]
  have hle : (1 : Int) + (c : Int) * 2 ≤ 512 := by omega
  have hsl : (1 : Int) + (c : Int) * 2 ≤ (S.size : Int) := by omega
  clear h64 h0
  go_enter Tryd.func6, Tryd.ntmps6
  go_wp2_with (first
    | (go_at_call 19; refine (HB.out _).mono ?_; rintro e w1 ⟨b, rfl, hb⟩; have HZ := Lib.hid hb; clear hb)
    | (go_at_call 17; refine (new_any _).mono ?_; rintro e w2 ⟨g, F, rfl, hp, hF, hg, hbl⟩; have HP := Lib.hid hp; have HF := Lib.hid hF; have HG := Lib.hid hg; have HBL := Lib.hid hbl; clear hp hF hg hbl)
    | (go_at_call 20; refine (behind_any c _ (by omega)).mono ?_; rintro e w3 ⟨rfl, rfl⟩))
  have HPL : ∃ v, Hid (Pl w w2 S b c g v []) := by
    obtain ⟨v, hp, hF⟩ := HP.out
    subst hF
    have hz := HZ.out
    have hb2 := HBL.out
    have hsz := hz.below.size
    exact ⟨v, Lib.hid ⟨hz.below.trans (hb2.mono hsz), own_below hz.row hb2, hp.raw, Nat.le_trans hsz HG.out, fun k hk => Nat.le_trans hsz (HF.out k (by simp [foot, hk]))⟩⟩
  obtain ⟨v0, HPL⟩ := HPL
  have HG0 : Hid (goF S 0 = some ([], 1 + c * 2)) := Lib.hid (by
    show some (([] : List Sl), 1 + 2 * cntA S) = _
    rw [HC.out, Nat.mul_comm])
  clear HZ HP HF HG HBL HB hle hsl
  go_loopw [7, 9, 10, 34] (fun rv _ _ iv wr => ∃ (k a : Nat) (l : List Sl) (v : Value), k ≤ c ∧ iv = .int .i64 (k : Int) ∧ rv = .string (S.extract a 512) ∧ Hid (goF S k = some (l, a)) ∧ Hid (Pl w wr S b c g v l)) (fun _ _ _ iv _ => c - (intOf iv).toNat)
  case atStart => exact ⟨0, _, [], v0, Nat.zero_le _, by go_num, rfl, HG0, HPL⟩
  case round =>
    obtain ⟨k, a, l, v, hk, rfl, rfl, hgo, hpl⟩ := hrel
    clear HG0 HPL
    have h9 := go9 S HS.out (by have := HC.out; omega) k (by have := HC.out; omega) hgo.out
    have ha := h9.le
    obtain ⟨m, hm⟩ : ∃ m, m + a = 512 := ⟨512 - a, by omega⟩
    have HRS : Hid (S.extract a 512 = S.extract a 512 ∧ (S.extract a 512).size = m) := Lib.hid ⟨rfl, by rw [extract_size S a 512 ha (by have := HS.out; omega)]; omega⟩
    have hrs := HRS.out.2
    obtain ⟨R, HR⟩ : ∃ R, Hid (S.extract a 512 = R) := ⟨_, Lib.hid rfl⟩
    rw [HR.out] at hrs ⊢
    clear HRS
    by_cases hlt : k < c
    · have hcell := hpl.out.row.cellAt k (by omega)
      rw [rowI_get _ _ _ _ hlt, if_pos hlt] at hcell
      have HSK : Hid (goF S (k + 1) = goS S (szA S k) l a) := Lib.hid (goF_some hgo.out)
      have hs64 := szA_le S k
      generalize szA S k = s at *
      have hkc : (k : Int) < (c : Int) := by omega
      obtain ⟨n, hn⟩ : ∃ n, n = s - 1 := ⟨_, rfl⟩
      have hn6 : n ≤ 65535 := by omega
      have hmx : (s = 0 ∧ n = 0) ∨ s = n + 1 := by omega
      have HN := Lib.hid hn
      clear hn
      go_upto_region 13 with fail
      go_cut [10] (fun v wx => v = .int .i64 (n : Int) ∧ Hid (wx = wr))
      case first =>
        rcases hmx with ⟨rfl, rfl⟩ | rfl
        all_goals
          try rw [Int.natCast_add, Int.natCast_one] at *
          go_wp2_with fail
          try go_meet
          try exact ⟨rfl, Lib.hid rfl⟩
      case rest =>
        obtain ⟨rfl, hwx⟩ := hcut
        obtain rfl := hwx.out
        by_cases hbad : 480 < n ∨ m < n
        · have HNO : Hid (parseE S = 4) := Lib.hid (parseE_no HS.out (parse_no3 (k := k + 1) (by rw [HSK.out, goS_eq, ← HN.out, if_pos (by omega)]) (by have := HC.out; omega)))
          have HBL := Lib.hid hpl.out.below
          have HPR : Hid (PRes w _ S (.pointer none)) := Lib.hid (PRes.none_ (by rw [HNO.out]; decide) HBL.out)
          have HE4 : Hid (E = 4) := Lib.hid (HE.out.symm.trans HNO.out)
          have hor : n ≤ 480 ∨ 480 < n := by omega
          have hb1 : m < n ∨ 480 < n := by omega
          clear hbad
          go_wp2_with fail
          all_goals
            go_ret2
            rw [HE4.out]
            exact ⟨_, rfl, HPR.out⟩
        · have hn1 : n ≤ 480 := by omega
          have hn2 : n ≤ m := by omega
          clear hbad
          go_upto_region 14 with fail
          go_cut [45] (fun v wx => v = .bool false ∧ Hid (wx = wc))
          case first =>
            go_wp2_with fail
            all_goals
              go_meet
              exact ⟨by simp; omega, Lib.hid rfl⟩
          case rest =>
            obtain ⟨rfl, hwx⟩ := hcut
            obtain rfl := hwx.out
            have HNX : Hid (goF S (k + 1) = some (l ++ [slO S s a], a + n)) := Lib.hid (by rw [HSK.out, goS_eq, ← HN.out, if_neg (by omega)])
            have hso := slO_some S s a
            have hrc := slO_rec S s a
            rw [← HN.out] at hrc
            have he := ext_ext S a n (by omega)
            have hdr := ext_drop S a n HS.out (by omega)
            rw [HR.out] at he hdr
            rw [hrs] at hdr
            have HDR := Lib.hid hdr
            rw [← he] at hrc
            have hle1 : (n : Int) ≤ (m : Int) := by omega
            obtain ⟨o, HO⟩ : ∃ o, Hid (slO S s a = o) := ⟨_, Lib.hid rfl⟩
            rw [HO.out] at hso hrc HNX
            have HSO := Lib.hid hso
            have HRC := Lib.hid hrc
            clear hso hrc he hdr
            have HFL : Hid ([Value.bool o.isSome, .string (recOf o)] = [.bool (decide (0 < s)), .string (R.extract 0 n)]) := Lib.hid (by rw [HSO.out, HRC.out])
            have h9' := h9.len
            have HNN := Lib.hid h9'
            clear h9'
            obtain ⟨q, cq, hv⟩ := own_form hpl.out.page.row
            subst hv
            rw [HNN.out] at hpl
            have c0 := hpl.out.page.c0
            have cf := hpl.out.page.fz
            have HGL : Hid (g < wc.heap.size) := Lib.hid (lt_of_block hpl.out.page.hd)
            have c0a : (wc.alloc (.cells #[.bool (decide (0 < s)), .string (R.extract 0 n)] 56)).cell? ⟨g, 0, none⟩ = some (.slice q k cq) := (World.cell?_alloc_lt _ _ _ HGL.out).trans c0
            have HOWN : Hid (∀ ob : Obj, (wc.alloc ob).drew.ownsRow 0 56 2 (.slice q k cq) k (flat l)) := Lib.hid (fun ob => by
              have h1 := hpl.out.page.row
              rw [HNN.out] at h1
              exact own_other (w := wc) h1 (fun k hk => Below.heap_alloc wc ob k ((h1.lt k hk).2)))
            obtain ⟨i0, hi, hz0, hz1, hz2⟩ := info_parts infoS
            have HI := Lib.hid hi
            have HZ0 := Lib.hid hz0
            have HZ1 := Lib.hid hz1
            have HZ2 := Lib.hid hz2
            have H63 : Hid (k + 1 ≤ maxLen) := Lib.hid (by unfold maxLen; omega)
            have HONE : Hid (∀ u ∈ [Value.bool (decide (0 < s)), .string (R.extract 0 n)], u.oneCell' = true) := Lib.hid (by
              intro u hu
              simp at hu
              rcases hu with rfl | rfl <;> rfl)
            have HFAR : Hid (∀ (ob : Obj) (w3 : World), (wc.alloc ob).drew.grownBy w3 (Value.slice q k cq).ownBlock → w3.cell? ⟨g, 0, none⟩ = some (.slice q k cq) ∧ w3.frozen? ⟨g, 0, none⟩ = false) := Lib.hid (fun ob w3 hg => by
              have h0 : w3.heap[g]? = wc.heap[g]? :=
                (hg.block g (by show _ < (wc.alloc ob).heap.size; simp; have := HGL.out; omega) (fun e => hpl.out.page.ne g e.symm rfl)).trans (Below.heap_alloc wc ob g HGL.out)
              exact ⟨(World.cell?_of_block h0).trans c0, (World.frozen?_of_block h0).trans cf⟩)
            have HNN1 : Hid ((0 : Nat) < 1) := Lib.hid (by omega)
            clear hi hz0 hz1 hz2 h9
            go_wp2_with fail
            go_region_law (refine step_append_lies _ rfl (.tmp 50) (.tmp 57) 52 rfl 0 56 i0 (.agg #[.bool false, .string ⟨#[]⟩]) 2 24 Tryd.underlying52 HI.out HZ0.out HZ1.out HZ2.out rfl (by decide) (.slice q k cq) k (flat l) (by rfl) (HOWN.out _) ⟨_, 0, none⟩ 1 1 [.bool (decide (0 < s)), .string (R.extract 0 n)] (by rfl) rfl (World.news_of_block (heap_alloc_new _ _)) HONE.out HNN1.out H63.out (by omega) (Nat.zero_le _) _ rfl ?_; intro gN cap2 w3 hown hgrow hat hlt3; have hF := HFAR.out _ _ hgrow; have f2 := hF.2; have c2 := hF.1)
            all_goals
              have HPN : Hid (Pl w (w3.setCell ⟨g, 0, none⟩ (.slice (some ⟨gN, 0, none⟩) (k + 1) cap2)) S b c g (.slice (some ⟨gN, 0, none⟩) (k + 1) cap2) (l ++ [o])) := Lib.hid (by
                rw [← HFL.out, ← HNN.out] at hown
                have h1 := hpl.out
                rw [← HNN.out] at h1 hgrow hat
                have h2 := h1.snoc (ob := .cells #[.bool (decide (0 < s)), .string (R.extract 0 n)] 56) hown ⟨hgrow.os, hgrow.tape, hgrow.output, hgrow.size, hgrow.block⟩ (hat.imp id (fun e => by rw [e]; show (wc.alloc _).heap.size = _; simp))
                rwa [HNN.out] at h2)
              clear hF hown hgrow hat hlt3 c2 f2
              go_wp2_with fail
              go_roundw
              case rel => exact ⟨k + 1, a + n, l ++ [o], _, by omega, by go_num, by rw [HDR.out], HNX, by first | exact HPN | exact Lib.hid HPN.out.drew⟩
              case measure => simp [intOf]; omega
    · obtain rfl : k = c := by omega
      have HTR := Lib.hid (trim_any R wr (by omega))
      have HGO : Hid (goF S (cntA S) = some (l, a)) := Lib.hid (by rw [HC.out]; exact hgo.out)
      have HPM : Hid (parseM S = if zeroB S a = true then some l else none) := Lib.hid (parse_at HGO.out H64.out H0.out)
      have HAZ : Hid (allZ R ↔ zeroB S a = true) := Lib.hid (by rw [← HR.out]; exact allZ_zeroB S a HS.out ha)
      by_cases hz : zeroB S a = true
      · have HZ := Lib.hid hz
        have hPM := HPM.out
        rw [if_pos hz] at hPM
        have HPM2 := Lib.hid hPM
        have HE0 : Hid (E = 0) := Lib.hid (HE.out.symm.trans (parseE_ok HS.out hPM))
        clear hz hPM HPM
        go_wp2_with (go_at_call 21; refine HTR.out.mono ?_; rintro e w5 ⟨⟨U, rfl, hu⟩, hb⟩; have hU : U = ⟨#[]⟩ := empty_of (hu.2 (HAZ.out.2 HZ.out)); subst hU; have HB5 := Lib.hid hb; clear hb hu)
        go_ret2
        have hb5 := HB5.out
        have hp5 : Pg0 w5 g v l := (hpl.out.page.pg0 (parse_ok HS.out HPM2.out).1).below hb5
        rw [HE0.out]
        refine ⟨_, rfl, fun _ => ⟨l, g, _, rfl, HPM2.out, hp5.pg, fun j hj => ?_⟩, fun h => absurd (HE.out.trans HE0.out) h, hpl.out.below.trans (hb5.mono hpl.out.below.size)⟩
        simp only [foot, List.mem_cons, Option.mem_toList] at hj
        rcases hj with rfl | hj
        · exact hpl.out.high
        · exact hpl.out.vhigh j hj
      · have HZ := Lib.hid hz
        have hPM := HPM.out
        rw [if_neg hz] at hPM
        have HE4 : Hid (E = 4) := Lib.hid (HE.out.symm.trans (parseE_no HS.out hPM))
        clear hz hPM HPM
        go_wp2_with (go_at_call 21; refine HTR.out.mono ?_; rintro e w5 ⟨⟨U, rfl, hu⟩, hb⟩; have hU : U.toList.isEmpty = false := notEmpty_of (fun e2 => HZ.out (HAZ.out.1 (hu.1 e2))); have HB5 := Lib.hid hb; clear hb hu)
        go_ret2
        rw [HE4.out]
        exact ⟨_, rfl, PRes.none_ (by rw [HE.out, HE4.out]; decide) (hpl.out.below.trans (HB5.out.mono hpl.out.below.size))⟩
/-- Parse: for all bytes. -/
theorem parse_any (S : ByteArray) (w : World) (h63 : S.size ≤ 9223372036854775807) : Calls Tryd.prog 6 #[.string S] w fun e w' => ∃ p, e = .returned (.tuple #[p, .int .i64 (parseE S)]) ∧ PRes w w' S p := by
  rcases Nat.lt_trichotomy S.size 512 with h | h | h
  · exact parse_short S w h
  · by_cases h64 : 64 < cntA S
    · exact parse_bad1 S w h h64
    · by_cases h0 : 0 < cntA S ∧ szA S (cntA S - 1) = 0
      · exact parse_bad2 S w h h64 h0
      · exact parse_512 S w h h64 h0
  · exact parse_long S w h h63
end Go.Proofs.YtldkmkgkllgckaaDoor
