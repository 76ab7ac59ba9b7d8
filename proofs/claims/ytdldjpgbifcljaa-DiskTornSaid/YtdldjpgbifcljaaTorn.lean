/- What DiskTorn returns where a write is torn: true. -/
import Derived.Test.YtdldjpgbifcljaaTorn2
namespace Go.Proofs.Ytdldjpgbifcljaa
open Go.RowKit

theorem below_drewT {n : Nat} {w w' : World} (h : Below n w w') (k : Nat) : Below n w (w'.drewN k) := by
  induction k with
  | zero => exact h
  | succ k ih => exact ih.drew
set_option maxRecDepth 100000 in
set_option maxHeartbeats 3200000 in
theorem torn_short (a0 : Option Addr) (n0 c0 : Nat) (f0 : Nat → Opv) (o : Opv) (W : World) (hO0 : Ops W a0 n0 f0) (h0 : Light n0 f0) (hk : o.nk ≤ 100) (hK : Kp W o.p o.nk o.keep) (HX : Hid ((0 ≤ o.torn ∧ o.torn < (runM (newM 4) f0 n0).row.length ∧ (runM (newM 4) f0 n0).down = false))) :
    Calls Try.prog 5 #[.slice a0 n0 c0, o.val] W fun e w' => e = .returned (.bool true) ∧ Below W.heap.size W w' := by
  obtain ⟨i0, hi0, hz0, hz1, hz2⟩ := info_parts info4
  have JI := Lib.hid hi0
  have HZ0 := Lib.hid hz0
  have HZ1 := Lib.hid hz1
  have HZ2 := Lib.hid hz2
  clear hi0 hz0 hz1 hz2
  have HO0 := Lib.hid hO0
  have HL0 := Lib.hid h0
  have hn0 := h0.1
  clear hO0 h0
  obtain ⟨kind, at_, num, torn, long, y, p, nk, ck, keep⟩ := o
  change Calls _ _ #[_, .agg #[.int .i64 kind, .int .i64 at_, .int .i64 num, .int .i64 torn, .int .i64 long, .int .u8 (y : Int), .slice p nk ck]] _ _
  simp only at hk hK HX
  have HK := Lib.hid hK
  clear hK
  have hk2 : decide ((100 : Int) < (nk : Int)) = false := decide_eq_false (by omega)
  have HB0 : Hid (Below W.heap.size W (W.alloc (.cells #[.int .i64 kind, .int .i64 at_, .int .i64 num, .int .i64 torn, .int .i64 long, .int .u8 (y : Int), .slice p nk ck] 39))) := Lib.hid ((Below.refl _ _).alloc (Nat.le_refl _) _)
  have HX0 : Hid (BoxO (W.alloc (.cells #[.int .i64 kind, .int .i64 at_, .int .i64 num, .int .i64 torn, .int .i64 long, .int .u8 (y : Int), .slice p nk ck] 39)) W.heap.size ⟨kind, at_, num, torn, long, y, p, nk, ck, keep⟩) := Lib.hid ⟨heap_alloc_new W _⟩
  go_enter Try.func5, Try.ntmps5
  go_upto_region 1 with fail
  generalize W.alloc (.cells #[.int .i64 kind, .int .i64 at_, .int .i64 num, .int .i64 torn, .int .i64 long, .int .u8 (y : Int), .slice p nk ck] 39) = w1 at *
  have k6 := HX0.out.c6
  simp only at k6
  go_wp2_with fail
  refine (light_yes a0 n0 c0 f0 _ (tops_below HO0.out HB0.out) HL0.out).mono ?_
  rintro e w2 ⟨rfl, rfl⟩
  go_wp2_with fail
  refine (played_any a0 n0 c0 f0 _ (by omega) (tops_below HO0.out HB0.out)).mono ?_
  rintro e w2 ⟨g, F, rfl, hD, hF, hb⟩
  have HI0 : Hid (HI W w2 g (runM (newM 4) f0 n0)) := Lib.hid ⟨⟨F, hD, fun k hk => Nat.le_trans HB0.out.size (hF k hk)⟩, HB0.out.trans (hb.mono HB0.out.size)⟩
  have HBX := Lib.hid (HX0.out.below hb)
  have HN := Lib.hid (runM_near 4 f0 n0)
  clear hD hF hb HX0 HB0 k6
  generalize runM (newM 4) f0 n0 = m0 at *
  go_wp2_with fail
  obtain ⟨F, hD, _⟩ := HI0.out.dk
  refine (hD.waiting (by have := HN.out.row; omega)).mono ?_
  rintro e w3 ⟨⟨q, c, rfl, hO⟩, hb⟩
  have HI3 := Lib.hid (HI0.out.le hb)
  have HX3 := Lib.hid (HBX.out.below hb)
  have HR3 := Lib.hid (base0 hO)
  clear hD hO hb HI0 HBX
  have k3 := HX3.out.c3
  simp only at k3
  obtain ⟨F3, hD3, _⟩ := HI3.out.dk
  have HDN := Lib.hid hD3.down
  clear hD3
  obtain ⟨t, rfl⟩ : ∃ t : Nat, torn = (t : Int) := ⟨torn.toNat, by have := HX.out.1; omega⟩
  have ht : t < m0.row.length := by have := HX.out.2.1; omega
  rw [HX.out.2.2] at HDN
  have t1 : decide ((t : Int) < 0) = false := decide_eq_false (by omega)
  obtain ⟨rb, c', hq, _⟩ := HR3.out.form (by omega)
  simp only [Value.slice.injEq] at hq
  obtain ⟨rfl, _, rfl⟩ := hq
  obtain ⟨n, hn⟩ : ∃ n, Hid (m0.row.length = n) := ⟨_, Lib.hid rfl⟩
  have hn2 : n ≤ 60 := by have := HN.out.row; have := hn.out; omega
  rw [hn.out] at ht HR3
  have t2 : decide ((n : Int) ≤ (t : Int)) = false := decide_eq_false (by omega)
  rw [hn.out]
  go_wp2_with fail
  refine HDN.out.mono ?_
  rintro e w5 ⟨rfl, rfl⟩
  go_wp2_with (refine wpList_make_full _ rfl _ _ 37 rfl 0 4 i0 (.bool false) 1 Try.underlying37 JI.out HZ0.out HZ1.out .i64 .i64 (n : Int) (n : Int) n rfl rfl rfl rfl (by rw [HZ2.out]; omega) (by unfold maxLen; omega) (Nat.zero_le _) ?_)
  intro w4 hown hgrow
  have hb34 : Below w3.heap.size w3 w4 := (Below.refl _ _).grown hgrow (Nat.le_refl _) (fun k e => by cases e)
  rw [toList_madeCells_one] at hown
  have HT0 : Hid (TB W w4 rb w3.heap.size n c m0.row ⟨kind, at_, num, (t : Int), long, y, p, nk, ck, keep⟩ (partK (keepB nk keep) t 0)) := Lib.hid ⟨HX3.out.below hb34, own_below HR3.out hb34, by
    rw [show bools n (partK (keepB nk keep) t 0) = List.replicate n (.bool false) from (bools_congr (fun k _ => by unfold partK; simp)).trans (bools_false n)]
    exact base0 hown⟩
  have HI4 := Lib.hid (HI3.out.le hb34)
  have hkb : W.heap.size ≤ w3.heap.size := HI3.out.below.size
  clear hown hgrow hb34 HI3 HX3 HR3 HDN k3 JI HZ0 HZ1 HZ2
  generalize w3.heap.size = kb at *
  go_wp2_with fail
  go_loopw [8, 9] (fun lv iv wq => ∃ i : Nat, i ≤ n ∧ iv = .int .i64 (i : Int) ∧ lv = .bool (latB m0.row (keepB nk keep) t i) ∧ Hid (HI W wq g m0 ∧ TB W wq rb kb n c m0.row ⟨kind, at_, num, (t : Int), long, y, p, nk, ck, keep⟩ (partK (keepB nk keep) t i))) (fun _ iv _ => n - (intOf iv).toNat)
  case atStart => exact ⟨0, by omega, by go_num, rfl, Lib.hid ⟨HI4.out, HT0.out⟩⟩
  case round =>
    clear HI4 HT0
    obtain ⟨i, hi, rfl, rfl, hr⟩ := hrel
    by_cases hlt : i < n
    · have bi : (0 : Int) ≤ (i : Int) := by omega
      have bi2 : (i : Int) < (n : Int) := by omega
      have k6 := hr.out.2.x.c6
      have k3 := hr.out.2.x.c3
      simp only at k6 k3
      have kc := (hr.out.2.kcell i hlt).1
      have kf := (hr.out.2.kcell i hlt).2
      have HN1 : Hid (∀ b, b = keepW (keepB nk keep) t i → HI W (wr.setCell ⟨kb, i, none⟩ (.bool b)) g m0 ∧ TB W (wr.setCell ⟨kb, i, none⟩ (.bool b)) rb kb n c m0.row ⟨kind, at_, num, (t : Int), long, y, p, nk, ck, keep⟩ (partK (keepB nk keep) t (i + 1))) := Lib.hid (fun b hb => by
        obtain ⟨cur, hc⟩ := hr.out.2.head
        refine ⟨hr.out.1.setT hc hkb i _, (hr.out.2.set i b).ext (fun k hk => ?_)⟩
        subst hb
        unfold partK
        by_cases e : k = i
        · subst e; simp
        · rw [if_neg e, show decide (k < i + 1) = decide (k < i) from decide_eq_decide.2 (by omega)])
      have HKC : Hid (i < nk → ∃ pb po, p = some ⟨pb, po, none⟩ ∧ wr.cell? ⟨pb, po + i, none⟩ = some (.bool (keep i))) := Lib.hid (fun h => by
        obtain ⟨pb, po, e, hcl⟩ := (HK.out.below hr.out.1.below) (by omega)
        exact ⟨pb, po, e, hcl i h⟩)
      clear hr
      go_upto_region 14 with fail
      go_cut [] (fun wx => Hid (HI W wx g m0 ∧ TB W wx rb kb n c m0.row ⟨kind, at_, num, (t : Int), long, y, p, nk, ck, keep⟩ (partK (keepB nk keep) t (i + 1))))
      case first =>
        by_cases h1 : i < nk
        · obtain ⟨pb, po, rfl, hcl⟩ := HKC.out h1
          have d1 : decide ((i : Int) < (nk : Int)) = true := decide_eq_true (by omega)
          cases hki : keep i with
          | false =>
            rw [hki] at hcl
            have HF := Lib.hid (HN1.out false (by unfold keepW keepB; simp [hki]))
            go_wp2_with fail
            go_meet
            exact HF
          | true =>
            rw [hki] at hcl
            have HF := Lib.hid (HN1.out ((i : Int) != (t : Int)) (by
              unfold keepW keepB
              by_cases e : i = t
              · subst e; simp
              · simp [hki, h1, e]; omega))
            go_wp2_with fail
            go_meet
            exact HF
        · have d1 : decide ((i : Int) < (nk : Int)) = false := decide_eq_false (by omega)
          have HF := Lib.hid (HN1.out false (by unfold keepW keepB; simp [h1]))
          go_wp2_with fail
          go_meet
          exact HF
      case rest =>
        clear kc kf k6 k3 HN1 HKC
        have hr := hcut
        clear hcut
        have k3 := hr.out.2.x.c3
        simp only at k3
        have kc := (hr.out.2.kcell i hlt).1
        rw [show partK (keepB nk keep) t (i + 1) i = keepW (keepB nk keep) t i by unfold partK; simp] at kc
        have r1 := hr.out.2.rcell hn.out i hlt
        have r2 := hr.out.2.rcell hn.out t ht
        have HLB : Hid (latB m0.row (keepB nk keep) t (i + 1) = (latB m0.row (keepB nk keep) t i || (decide (t < i) && (decide ((Go.Proofs.Ytdldjpgbifcljaa.wr m0.row i).1 = (Go.Proofs.Ytdldjpgbifcljaa.wr m0.row t).1) && keepW (keepB nk keep) t i)))) := Lib.hid rfl
        have ti : (0 : Int) ≤ (t : Int) := by omega
        have ti2 : (t : Int) < (n : Int) := by omega
        have HK2 : Hid (∀ b, latB m0.row (keepB nk keep) t (i + 1) = b → latB m0.row (keepB nk keep) t (i + 1) = b) := Lib.hid (fun _ h => h)
        generalize hL : latB m0.row (keepB nk keep) t i = L at *
        generalize hL1 : latB m0.row (keepB nk keep) t (i + 1) = L1 at *
        generalize hkw : keepW (keepB nk keep) t i = kw at *
        generalize hz1 : (Go.Proofs.Ytdldjpgbifcljaa.wr m0.row i).1 = z1 at *
        generalize hz2 : (Go.Proofs.Ytdldjpgbifcljaa.wr m0.row t).1 = z2 at *
        rcases Bool.eq_false_or_eq_true L with hLt | hLf
        · subst hLt
          have e1 : L1 = true := by rw [HLB.out]; rfl
          go_upto_region 15 with fail
          go_quiet (fail)
          go_wp2_with fail
          go_roundw
          case rel => exact ⟨i + 1, by omega, by go_num, by rw [hL1, e1], Lib.hid ⟨hr.out.1.le (below_drewT (Below.refl _ _) _), hr.out.2.le (below_drewT (Below.refl _ _) _)⟩⟩
          case measure => simp [intOf]; omega
        · subst hLf
          by_cases hti : t < i
          · have d1 : decide ((t : Int) < (i : Int)) = true := decide_eq_true (by omega)
            by_cases hz : z1 = z2
            · subst hz
              have d2 : ((z1 : Int) == (z1 : Int)) = true := by simp
              cases kw with
              | true =>
                have e1 : L1 = true := by rw [HLB.out]; simp [hti]
                go_upto_region 15 with fail
                go_quiet (fail)
                go_wp2_with fail
                go_roundw
                case rel => exact ⟨i + 1, by omega, by go_num, by rw [hL1, e1], Lib.hid ⟨hr.out.1.le (below_drewT (Below.refl _ _) _), hr.out.2.le (below_drewT (Below.refl _ _) _)⟩⟩
                case measure => simp [intOf]; omega
              | false =>
                have e1 : L1 = false := by rw [HLB.out]; simp
                go_upto_region 15 with fail
                go_quiet (fail)
                go_wp2_with fail
                go_roundw
                case rel => exact ⟨i + 1, by omega, by go_num, by rw [hL1, e1], Lib.hid ⟨hr.out.1.le (below_drewT (Below.refl _ _) _), hr.out.2.le (below_drewT (Below.refl _ _) _)⟩⟩
                case measure => simp [intOf]; omega
            · have d2 : ((z1 : Int) == (z2 : Int)) = false := by simp; omega
              have e1 : L1 = false := by rw [HLB.out]; simp [hz]
              clear hz
              go_upto_region 15 with fail
              go_quiet (fail)
              go_wp2_with fail
              go_roundw
              case rel => exact ⟨i + 1, by omega, by go_num, by rw [hL1, e1], Lib.hid ⟨hr.out.1.le (below_drewT (Below.refl _ _) _), hr.out.2.le (below_drewT (Below.refl _ _) _)⟩⟩
              case measure => simp [intOf]; omega
          · have d1 : decide ((t : Int) < (i : Int)) = false := decide_eq_false (by omega)
            have e1 : L1 = false := by rw [HLB.out]; simp [hti]
            go_upto_region 15 with fail
            go_quiet (fail)
            go_wp2_with fail
            go_roundw
            case rel => exact ⟨i + 1, by omega, by go_num, by rw [hL1, e1], Lib.hid ⟨hr.out.1.le (below_drewT (Below.refl _ _) _), hr.out.2.le (below_drewT (Below.refl _ _) _)⟩⟩
            case measure => simp [intOf]; omega
    · obtain rfl : n = i := by omega
      obtain ⟨hi5, hT5⟩ := hr.out
      obtain ⟨F5, hD5, hF5⟩ := hi5.dk
      have HB5 := Lib.hid hi5.below
      have HT5 := Lib.hid (hT5.ext (kg := keepW (keepB nk keep) t) (fun k hk => by unfold partK; simp [hk]))
      have HD5 := Lib.hid hD5
      have HF5 := Lib.hid hF5
      have hrow : m0.row.length ≤ 4611686018427387904 := by have := hn.out; omega
      clear hr hi5 hT5 hD5 hF5
      obtain ⟨L, hL⟩ : ∃ L, Hid (latB m0.row (keepB nk keep) t n = L) := ⟨_, Lib.hid rfl⟩
      rw [hL.out]
      go_wp2_with fail
      refine (HD5.out.clone (by rw [HN.out.out]; decide) (by rw [HN.out.out]; decide) (by have := hn.out; omega)).mono ?_
      rintro e w6 ⟨g2, F2, rfl, hD6, hF6, hb6⟩
      go_wp2_with fail
      refine ((HD5.out.below hb6).clone (by rw [HN.out.out]; decide) (by rw [HN.out.out]; decide) (by have := hn.out; omega)).mono ?_
      rintro e w7 ⟨g3, F3, rfl, hD7, hF7, hb7⟩
      have H7 := Lib.hid (T3.start HB5.out HF5.out HD5.out hD6 hF6 hb6 hD7 hF7 hb7)
      have HT7 := Lib.hid ((HT5.out.le hb6).le hb7)
      have HOK := Lib.hid HD5.out.ok
      clear hD6 hF6 hb6 hD7 hF7 hb7 HB5 HT5 HD5 HF5
      go_wp2_with fail
      refine (H7.out.rot.fail hrow (some ⟨kb, 0, none⟩) n n (keepW (keepB nk keep) t) HT7.out.kp (fun F hT _ _ => by obtain ⟨cur, hcur⟩ := HT7.out.head; exact off_typed hcur (by decide) F hT) (by omega) (-1) 0).mono ?_
      rintro e w8 ⟨rfl, h8, ht8⟩
      have HT8 := Lib.hid (ht8 _ _ _ _ _ _ _ HT7.out)
      have H8 := Lib.hid h8
      clear h8 ht8 H7 HT7
      have k3 := HT8.out.x.c3
      simp only at k3
      have kc := (HT8.out.kcell t ht).1
      have kf := (HT8.out.kcell t ht).2
      have ti : (0 : Int) ≤ (t : Int) := by omega
      have ti2 : (t : Int) < (n : Int) := by omega
      go_upto_region 19 with fail
      have H9 : Hid (T3 W (w8.setCell ⟨kb, t, none⟩ (.bool true)) g2 _ g3 _ g _) := Lib.hid (by obtain ⟨cur, hcur⟩ := HT8.out.head; exact H8.out.setT hcur hkb t (.bool true))
      have HT9 := Lib.hid (HT8.out.set t true)
      clear H8 HT8 k3 kc kf
      generalize w8.setCell ⟨kb, t, none⟩ (.bool true) = w9 at *
      go_wp2_with fail
      refine (H9.out.rot.fail hrow (some ⟨kb, 0, none⟩) n n _ HT9.out.kp (fun F hT _ _ => by obtain ⟨cur, hcur⟩ := HT9.out.head; exact off_typed hcur (by decide) F hT) (by omega) (-1) 0).mono ?_
      rintro e w10 ⟨rfl, h10, ht10⟩
      have HT10 := Lib.hid (ht10 _ _ _ _ _ _ _ HT9.out)
      have H10 := Lib.hid h10
      clear h10 ht10 H9 HT9
      have k3 := HT10.out.x.c3
      have k6 := HT10.out.x.c6
      have k2 := HT10.out.x.c2
      simp only at k3 k6 k2
      go_wp2_with fail
      refine (H10.out.rot.fail hrow p nk ck keep (HK.out.below H10.out.below) (fun F _ hF h => HK.out.off hF h) (by omega) (t : Int) num).mono ?_
      rintro e w11 ⟨rfl, h11, ht11⟩
      have HT11 := Lib.hid (ht11 _ _ _ _ _ _ _ HT10.out)
      have H11 := Lib.hid h11
      clear h11 ht11 H10 HT10 k3 k6 k2
      have HEND : Hid (∀ j : Nat, j < 4 → outS (failM m0 (keepB nk keep) (t : Int) num) (j : Int) = if j = (Go.Proofs.Ytdldjpgbifcljaa.wr m0.row t).1 ∧ L = false then (outS (failM m0 (keepB n (fun j => if j = t then true else keepW (keepB nk keep) t j)) (-1) 0) (j : Int)).take (cut128 num) ++ (outS (failM m0 (keepB n (keepW (keepB nk keep) t)) (-1) 0) (j : Int)).drop (cut128 num) else outS (failM m0 (keepB n (keepW (keepB nk keep) t)) (-1) 0) (j : Int)) := Lib.hid (fun j hj => by
        rw [← hL.out]
        exact torn_end HOK.out n t hn.out ht HN.out.out nk keep num _ _ (fun k _ => rfl) (fun k _ => rfl) j hj)
      have k2 := HT11.out.x.c2
      have k3 := HT11.out.x.c3
      simp only at k2 k3
      have r2 := HT11.out.rcell hn.out t ht
      have hmwo := fail_out_len m0 (keepB n (keepW (keepB nk keep) t)) (-1) 0
      have hmao := fail_out_len m0 (keepB n (fun j => if j = t then true else keepW (keepB nk keep) t j)) (-1) 0
      have hw128 := fun j (hj : j < 4) => out128 (HOK.out.fail (keepB n (keepW (keepB nk keep) t)) (-1) 0) j (by rw [hmwo, HN.out.out]; exact hj)
      have ha128 := fun j (hj : j < 4) => out128 (HOK.out.fail (keepB n (fun j => if j = t then true else keepW (keepB nk keep) t j)) (-1) 0) j (by rw [hmao, HN.out.out]; exact hj)
      have HW128 := Lib.hid hw128
      have HA128 := Lib.hid ha128
      have HRW : Hid ((failM m0 (keepB nk keep) (t : Int) num).row = [] ∧ (failM m0 (keepB nk keep) (t : Int) num).down = true) := Lib.hid ⟨rfl, rfl⟩
      clear hmwo hmao hw128 ha128
      go_upto_region 22 with fail
      rw [cut_form]
      generalize (if (128 : Int) < num then (128 : Int) else num) = mn
      have hca := cut128_le num
      generalize cut128 num = ca at *
      generalize failM m0 (keepB nk keep) (t : Int) num = md at *
      generalize failM m0 (keepB n (fun j => if j = t then true else keepW (keepB nk keep) t j)) (-1) 0 = ma at *
      generalize failM m0 (keepB n (keepW (keepB nk keep) t)) (-1) 0 = mw at *
      have HRC : Hid (∀ wq, TB W wq rb kb n c m0.row ⟨kind, at_, num, (t : Int), long, y, p, nk, ck, keep⟩ (fun j => if j = t then true else keepW (keepB nk keep) t j) → wq.cell? ⟨rb, t, none⟩ = some (.int .i64 ((Go.Proofs.Ytdldjpgbifcljaa.wr m0.row t).1 : Int))) := Lib.hid (fun wq h => h.rcell hn.out t ht)
      generalize (Go.Proofs.Ytdldjpgbifcljaa.wr m0.row t).1 = z at *
      clear k2 k3 r2
      go_wp2_with fail
      go_loopw [13] (fun iv wq => ∃ j : Nat, j ≤ 4 ∧ iv = .int .i64 (j : Int) ∧ Hid (T3 W wq g md g2 mw g3 ma ∧ TB W wq rb kb n c m0.row ⟨kind, at_, num, (t : Int), long, y, p, nk, ck, keep⟩ (fun j => if j = t then true else keepW (keepB nk keep) t j))) (fun iv _ => 4 - (intOf iv).toNat)
      case atStart => exact ⟨0, by omega, by go_num, Lib.hid ⟨H11.out, HT11.out⟩⟩
      case round =>
        clear H11 HT11
        obtain ⟨j, hj, rfl, hr⟩ := hrel
        by_cases hlt : j < 4
        · have hE := HEND.out j hlt
          have k3 := hr.out.2.x.c3
          simp only at k3
          have r2 := HRC.out wr hr.out.2
          by_cases hz : j = z
          · have d1 : ((j : Int) == (z : Int)) = true := by simp [hz]
            rcases Bool.eq_false_or_eq_true L with hLt | hLf
            · subst hLt
              rw [if_neg (fun h => by cases h.2)] at hE
              clear hz
              have HO1 := Lib.hid (hr.out.1.rot.out_ (j : Int))
              have HO2 := hr.out.1.out_ (j : Int)
              rw [hE] at HO2
              have HO3 := Lib.hid HO2
              clear HO2 hE
              generalize strB (outS mw (j : Int)) = S at *
              have hSS : (S.toList == S.toList) = true := by simp
              have HNX := hr
              clear hr
              go_wp2_with fail
              refine HO1.out.mono ?_
              rintro e w12 ⟨rfl, rfl⟩
              go_wp2_with fail
              refine HO3.out.mono ?_
              rintro e w12 ⟨rfl, rfl⟩
              go_wp2_with fail
              go_roundw
              case rel => exact ⟨j + 1, by omega, by go_num, HNX⟩
              case measure => simp [intOf]; omega
            · subst hLf
              rw [if_pos ⟨hz, rfl⟩] at hE
              clear hz
              have HO1 := Lib.hid (hr.out.1.rot.out_ (j : Int))
              have HO2 := Lib.hid (hr.out.1.out_ (j : Int))
              have HO3 : Hid (∀ k, Calls Try.prog 25 #[.pointer (some ⟨g3, 0, none⟩), .int .i64 (j : Int)] (wr.drewN k) fun e w' => e = .returned (.string (strB (outS ma (j : Int)))) ∧ wr.drewN k = w') := Lib.hid (fun k => (hr.out.1.le (below_drewT (Below.refl _ _) k)).rot.rot.out_ (j : Int))
              have HO4 : Hid (∀ k, Calls Try.prog 25 #[.pointer (some ⟨g, 0, none⟩), .int .i64 (j : Int)] (wr.drewN k) fun e w' => e = .returned (.string (strB (outS md (j : Int)))) ∧ wr.drewN k = w') := Lib.hid (fun k => (hr.out.1.le (below_drewT (Below.refl _ _) k)).out_ (j : Int))
              have HNX : Hid (∀ k, T3 W (wr.drewN k) g md g2 mw g3 ma ∧ TB W (wr.drewN k) rb kb n c m0.row ⟨kind, at_, num, (t : Int), long, y, p, nk, ck, keep⟩ (fun j => if j = t then true else keepW (keepB nk keep) t j)) := Lib.hid (fun k => ⟨hr.out.1.le (below_drewT (Below.refl _ _) k), hr.out.2.le (below_drewT (Below.refl _ _) k)⟩)
              have hwl := HW128.out j hlt
              have hal := HA128.out j hlt
              rw [hE] at HO4 HO2
              clear hr hE
              generalize outS mw (j : Int) = lw at *
              generalize outS ma (j : Int) = la at *
              have hSz : (strB la).size = 128 := (strB_size _).trans hal
              have hTz : (strB lw).size = 128 := (strB_size _).trans hwl
              have hAP : (strB la).extract 0 ca ++ (strB lw).extract ca 128 = strB (la.take ca ++ lw.drop ca) := by
                have h := strB_drop lw ca
                rw [hTz] at h
                rw [strB_take, h, ← strB_append]
              have HAP := Lib.hid hAP
              have b5 : (0 : Int) ≤ (ca : Int) := by omega
              have b6 : (ca : Int) ≤ 128 := by omega
              clear hAP hwl hal
              generalize strB (la.take ca ++ lw.drop ca) = R at *
              generalize strB la = S at *
              generalize strB lw = T at *
              go_wp2_with fail
              refine HO1.out.mono ?_
              rintro e w12 ⟨rfl, rfl⟩
              go_upto_region 27 with fail
              go_quiet ((go_at_call 25; exact Calls.quiet_of_same ((HO3.out _).mono fun _ _ h => ⟨h.1, h.2.symm⟩)))
              rw [HAP.out]
              have hRR : (R.toList == R.toList) = true := by simp
              go_wp2_with fail
              refine (HO4.out _).mono ?_
              rintro e w12 ⟨rfl, rfl⟩
              go_wp2_with fail
              go_roundw
              case rel => exact ⟨j + 1, by omega, by go_num, Lib.hid (HNX.out _)⟩
              case measure => simp [intOf]; omega
          · have d1 : ((j : Int) == (z : Int)) = false := by simp; omega
            rw [if_neg (fun h => hz h.1)] at hE
            clear hz
            have HO1 := Lib.hid (hr.out.1.rot.out_ (j : Int))
            have HO2 := hr.out.1.out_ (j : Int)
            rw [hE] at HO2
            have HO3 := Lib.hid HO2
            clear HO2 hE
            generalize strB (outS mw (j : Int)) = S at *
            have hSS : (S.toList == S.toList) = true := by simp
            have HNX := hr
            clear hr
            go_wp2_with fail
            refine HO1.out.mono ?_
            rintro e w12 ⟨rfl, rfl⟩
            go_wp2_with fail
            refine HO3.out.mono ?_
            rintro e w12 ⟨rfl, rfl⟩
            go_wp2_with fail
            go_roundw
            case rel => exact ⟨j + 1, by omega, by go_num, HNX⟩
            case measure => simp [intOf]; omega
        · obtain rfl : j = 4 := by omega
          obtain ⟨Fd, hDd⟩ := hr.out.1.dk
          have hdn := hDd.down
          have hwt := hDd.waiting (by rw [HRW.out.1]; decide)
          rw [HRW.out.2] at hdn
          rw [HRW.out.1] at hwt
          have HDN2 := Lib.hid hdn
          have HWT := Lib.hid hwt
          have HBL := Lib.hid hr.out.1.below
          clear hr hDd hdn hwt
          go_wp2_with fail
          refine HDN2.out.mono ?_
          rintro e w12 ⟨rfl, rfl⟩
          go_wp2_with fail
          refine HWT.out.mono ?_
          rintro e w13 ⟨⟨q9, c9, rfl, _⟩, hb⟩
          have HB13 := Lib.hid (HBL.out.trans (hb.mono HBL.out.size))
          clear hb
          go_wp2_with fail
          refine (lives_any _).mono ?_
          rintro e w14 ⟨rfl, hb⟩
          have HB14 := Lib.hid (HB13.out.trans (hb.mono HB13.out.size))
          clear hb
          go_wp2_with fail
          go_ret
          exact ⟨rfl, HB14.out⟩
end Go.Proofs.Ytdldjpgbifcljaa
