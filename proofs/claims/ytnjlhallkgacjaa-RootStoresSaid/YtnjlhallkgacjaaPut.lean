/- A write: what it returns, and what it makes of the disk. -/
import Derived.Test.YtnjlhallkgacjaaPut0
namespace Go.Proofs.Ytnjlhallkgacjaa
open Go.RowKit

section
variable {w : World} {g bO cO bL cL : Nat} {vW : Value} {os ls : List Value} {ws : List Vw} {m : Dsk}
set_option maxHeartbeats 400000 in
theorem put_far (h : Dk0 w g bO cO bL cL vW os ls ws m) (i : Int) (S : ByteArray) (hE : readE m i ≠ 0) :
    Calls Try.prog 37 #[.pointer (some ⟨g, 0, none⟩), .int .i64 i, .string S] w fun e w' => e = .returned (.int .i64 (readE m i)) ∧ w = w' := by
  have HR := Lib.hid (reach_any h i)
  generalize readE m i = E at *
  have hd : (E != 0) = true := by simpa using hE
  clear h hE
  go_enter Try.func37, Try.ntmps37
  go_wp2_with (go_at_call 44; refine HR.out.mono ?_; rintro e w' ⟨rfl, rfl⟩)
  go_ret
  exact ⟨rfl, rfl⟩
set_option maxHeartbeats 400000 in
theorem put_nil (i : Int) (S : ByteArray) (w : World) : Calls Try.prog 37 #[.pointer none, .int .i64 i, .string S] w fun e w' => e = .returned (.int .i64 1) ∧ w = w' := by
  go_enter Try.func37, Try.ntmps37
  go_wp2_with (go_at_call 44; refine (reach_nil _ _).mono ?_; rintro e w' ⟨rfl, rfl⟩)
  go_ret
  exact ⟨rfl, rfl⟩
set_option maxHeartbeats 400000 in
theorem put_short (h : Dk0 w g bO cO bL cL vW os ls ws m) (i : Int) (S : ByteArray) (hE : readE m i = 0) (hs : S.size ≠ 128) :
    Calls Try.prog 37 #[.pointer (some ⟨g, 0, none⟩), .int .i64 i, .string S] w fun e w' => e = .returned (.int .i64 1) ∧ w = w' := by
  have hr := reach_any h i
  rw [hE] at hr
  have HR := Lib.hid hr
  have hd : ((S.size : Int) != 128) = true := by simp; omega
  clear h hE hr
  go_enter Try.func37, Try.ntmps37
  go_wp2_with (go_at_call 44; refine HR.out.mono ?_; rintro e w' ⟨rfl, rfl⟩)
  go_ret
  exact ⟨rfl, rfl⟩
set_option maxHeartbeats 400000 in
theorem put_burnt (h : Dk0 w g bO cO bL cL vW os ls ws m) (i : Int) (S : ByteArray) (hE : readE m i = 0) (hs : S.size = 128) (hz : m.fuse = 0) (hn : m.done ≤ 4611686018427387904) :
    Calls Try.prog 37 #[.pointer (some ⟨g, 0, none⟩), .int .i64 i, .string S] w fun e w' => e = .returned (.int .i64 9) ∧ Went (foot g bO bL vW) g (burnt m) w w' := by
  have hr := reach_any h i
  rw [hE] at hr
  have HR := Lib.hid hr
  have hd : ((S.size : Int) != 128) = false := by simp; omega
  have HBu := burn_any h hn
  rw [show burnE m = 9 from if_pos hz, show burnM m = burnt m from if_pos hz] at HBu
  have HBU := Lib.hid HBu
  have hs2 : S.size ≤ 9223372036854775807 := by omega
  clear h hE hr HBu hz hs
  go_enter Try.func37, Try.ntmps37
  go_wp2_with fail
  refine HR.out.mono ?_
  rintro e w1 ⟨rfl, rfl⟩
  go_wp2_with fail
  refine HBU.out.mono ?_
  rintro e w1 ⟨rfl, hs⟩
  have HS := Lib.hid hs
  clear hs
  go_wp2_with fail
  go_ret
  exact ⟨rfl, _, HS.out.1.went, HS.out.2⟩
theorem Dk0.below {w' : World} (h : Dk0 w g bO cO bL cL vW os ls ws m) (hb : Below w.heap.size w w') : Dk0 w' g bO cO bL cL vW os ls ws m :=
  h.stay (Chg.of_below (F := []) hb) (fun k hk => by cases hk) (fun k _ hk => by cases hk)
theorem info81 : (Try.prog.info? 81).map (fun i => (i.zero, i.size, i.bytes)) = some (some (.agg #[.int .i64 0, .slice none 0 0]), 2, 32) := by kernel_rfl
set_option maxHeartbeats 1600000 in
theorem put_done (h : Dk0 w g bO cO bL cL vW os ls ws m) (k : Nat) (s : List Nat) (hE : readE m (k : Int) = 0) (hk : k < m.out.length) (hs : s.length = 128) (hd : ∀ d ∈ s, d < 256) (hz : m.fuse ≠ 0) (hn : m.done ≤ 4611686018427387904) (hl : m.row.length ≤ 1099511627776) :
    Calls Try.prog 37 #[.pointer (some ⟨g, 0, none⟩), .int .i64 (k : Int), .string (strB s)] w fun e w' => e = .returned (.int .i64 0) ∧ Went (foot g bO bL vW) g { burns m with row := m.row ++ [(k, s)] } w w' := by
  have hr := reach_any h (k : Int)
  rw [hE] at hr
  have HR := Lib.hid hr
  have HBu := burn_any h hn
  rw [show burnE m = 0 from if_neg hz, show burnM m = burns m from if_neg hz] at HBu
  have HBU := Lib.hid HBu
  have HSB := Lib.hid (sec_bytes · s · hs hd)
  have hsz : (strB s).size = 128 := (strB_size s).trans hs
  have hdd : (((strB s).size : Int) != 128) = false := by rw [hsz]; rfl
  clear h hE hr HBu hz
  obtain ⟨n, hnn⟩ : ∃ n, Hid (m.row.length = n) := ⟨_, Lib.hid rfl⟩
  rw [hnn.out] at hl
  have hkl : (k : Int) < (m.out.length : Int) := by omega
  have HL : Hid ((burns m).out.length = m.out.length) := Lib.hid rfl
  generalize hSS : strB s = S at *
  have hs2 : S.size ≤ 9223372036854775807 := by omega
  have HZ := Lib.hid hsz
  clear hSS hs hd hsz
  go_enter Try.func37, Try.ntmps37
  go_wp2_with fail
  refine HR.out.mono ?_
  rintro e w1 ⟨rfl, rfl⟩
  go_wp2_with fail
  refine HBU.out.mono ?_
  rintro e w1 ⟨rfl, hst⟩
  have HS := Lib.hid hst
  clear hst HBU HR hdd
  have hconv := run_bytes_of_string (P := Try.prog) w1 9 45 5 S Try.underlying9 Try.underlying45 Try.underlying5
  rw [HZ.out] at hconv
  go_wp2_with fail
  clear hconv
  have hc1 := grownCap_ge w1 128 0 5
  have hc2 := grownCap_le_maxLen w1 128 0 5 (by unfold maxLen; omega)
  generalize grownCap w1 128 0 5 = cap at *
  unfold maxLen at hc2
  have HB1 : Hid (Below w1.heap.size w1 (w1.alloc (.cells (bytesRow S cap) 5 ((bytesRow S cap).size, (bytesRow S cap).size + 1)))) := Lib.hid ((Below.refl _ _).alloc (Nat.le_refl _) _)
  have HS1 := Lib.hid (HSB.out w1 cap hc1 hc2 ((bytesRow S cap).size, (bytesRow S cap).size + 1))
  have hh1 : (w1.alloc (.cells (bytesRow S cap) 5 ((bytesRow S cap).size, (bytesRow S cap).size + 1))).heap.size = w1.heap.size + 1 := by simp
  have HH1 := Lib.hid hh1
  clear hh1
  generalize hv1 : w1.alloc (.cells (bytesRow S cap) 5 ((bytesRow S cap).size, (bytesRow S cap).size + 1)) = wb at *
  obtain ⟨b, hb⟩ : ∃ b, w1.heap.size = b := ⟨_, rfl⟩
  rw [hb] at HH1 HS1 HB1 ⊢
  have HB2 : Hid (Below wb.heap.size wb (wb.alloc (.cells #[.int .i64 (k : Int), .slice (some ⟨b, 0, none⟩) 128 cap] 81)).drew) := Lib.hid (((Below.refl _ _).alloc (Nat.le_refl _) _).drew)
  have HN0 : Hid ((wb.alloc (.cells #[.int .i64 (k : Int), .slice (some ⟨b, 0, none⟩) 128 cap] 81)).drew.cell? ⟨b + 1, 0, none⟩ = some (.int .i64 (k : Int))) := Lib.hid (by
    rw [← HH1.out]; exact World.cell?_alloc_new wb _ _ 0)
  have HN1 : Hid ((wb.alloc (.cells #[.int .i64 (k : Int), .slice (some ⟨b, 0, none⟩) 128 cap] 81)).drew.cell? ⟨b + 1, 1, none⟩ = some (.slice (some ⟨b, 0, none⟩) 128 cap)) := Lib.hid (by
    rw [← HH1.out]; exact World.cell?_alloc_new wb _ _ 1)
  have HZ2 : Hid ((wb.alloc (.cells #[.int .i64 (k : Int), .slice (some ⟨b, 0, none⟩) 128 cap] 81)).drew.heap.size = b + 2) := Lib.hid (by
    show (wb.alloc _).heap.size = _
    rw [show (wb.alloc (.cells #[.int .i64 (k : Int), .slice (some ⟨b, 0, none⟩) 128 cap] 81)).heap.size = wb.heap.size + 1 by simp, HH1.out])
  generalize (wb.alloc (.cells #[.int .i64 (k : Int), .slice (some ⟨b, 0, none⟩) 128 cap] 81)).drew = w2 at *
  have HSEC := Lib.hid (HS1.out.below HB2.out)
  have HBB := Lib.hid (show Below b w1 w2 from HB1.out.trans (HB2.out.mono (by rw [HH1.out]; omega)))
  have HD := Lib.hid (HS.out.1.below (by rw [hb]; exact HBB.out))
  obtain ⟨q, cq, hvW⟩ := HD.out.wslice n hnn
  rw [hvW] at HD
  have n2 := HD.out.c2
  have n2a : (w2.alloc (.cells #[.int .i64 (k : Int), .slice (some ⟨b, 0, none⟩) 128 cap] 81)).cell? ⟨g, 2, none⟩ = some (.slice q n cq) := (World.cell?_alloc_lt _ _ _ (by have := HD.out.lt; exact this)).trans n2
  have HOWN : Hid (∀ o : Obj, (w2.alloc o).drew.ownsRow 0 81 2 (.slice q n cq) n (flat ws)) := Lib.hid (fun o => by
    have h1 := HD.out.rw_
    rw [show (burns m).row.length = n from hnn.out] at h1
    exact own_other (w := w2) h1 (fun k hk => Below.heap_alloc w2 o k ((h1.lt k hk).2)))
  have HONE : Hid (∀ u ∈ [Value.int .i64 (k : Int), .slice (some ⟨b, 0, none⟩) 128 cap], u.oneCell' = true) := Lib.hid (by
    intro u hu
    simp at hu
    rcases hu with rfl | rfl <;> rfl)
  have hgb : g < b := by rw [← hb]; exact HS.out.1.lt
  have hLb : bL < b := by rw [← hb]; obtain ⟨cur, hc⟩ := own_head HS.out.1.rl rfl; exact lt_of_block hc
  have HFAR : Hid (∀ (o : Obj) (w3 : World), (w2.alloc o).drew.grownBy w3 (Value.slice q n cq).ownBlock → (∀ i, w3.cell? ⟨g, i, none⟩ = w2.cell? ⟨g, i, none⟩) ∧ w3.frozen? ⟨g, 2, none⟩ = false ∧ w3.cell? ⟨b + 1, 1, none⟩ = some (.slice (some ⟨b, 0, none⟩) 128 cap) ∧
      w3.cell? ⟨bL, k, none⟩ = w2.cell? ⟨bL, k, none⟩ ∧ w3.frozen? ⟨bL, k, none⟩ = w2.frozen? ⟨bL, k, none⟩) := Lib.hid (fun o w3 hg => by
    have h0 : ∀ j, j < w2.heap.size → (Value.slice q n cq).ownBlock ≠ some j → w3.heap[j]? = w2.heap[j]? := fun j hj hne =>
      (hg.block j (by show _ < (w2.alloc o).heap.size; simp; omega) (fun e => hne e.symm)).trans (Below.heap_alloc w2 o j hj)
    have hG := h0 g (by rw [HZ2.out]; omega) (fun e => HD.out.ne_gW g e rfl)
    have hL := h0 bL (by rw [HZ2.out]; omega) (fun e => HD.out.ne_LW bL e rfl)
    have hB := h0 (b + 1) (by rw [HZ2.out]; omega) (fun e => by
      have h1 := HS.out.1.rw_
      rw [hvW] at h1
      have h2 := (h1.lt _ e).2
      rw [hb] at h2
      omega)
    exact ⟨fun i => World.cell?_of_block hG, (World.frozen?_of_block hG).trans (HD.out.fz 2), (World.cell?_of_block hB).trans HN1.out, World.cell?_of_block hL, World.frozen?_of_block hL⟩)
  obtain ⟨i0, hi, hz0, hz1, hz2⟩ := info_parts info81
  have HI := Lib.hid hi
  have HZ0 := Lib.hid hz0
  have HZ1 := Lib.hid hz1
  have HZ3 := Lib.hid hz2
  have h63 : n + 1 ≤ maxLen := by unfold maxLen; omega
  have H63 := Lib.hid h63
  have n0 := HN0.out
  have n1 := HN1.out
  have HNN : Hid ((0 : Nat) < 1) := Lib.hid (by omega)
  clear hi hz0 hz1 hz2 h63 HSB HN0 HN1 HB1 HB2 HS1
  go_region_law (refine step_append_lies _ rfl (.tmp 32) (.tmp 34) 70 rfl 0 81 i0 (.agg #[.int .i64 0, .slice none 0 0]) 2 32 Try.underlying70 HI.out HZ0.out HZ1.out HZ3.out rfl (by decide) (.slice q n cq) n (flat ws) (by rfl) (HOWN.out _) ⟨_, 0, none⟩ 1 1 [.int .i64 (k : Int), .slice (some ⟨b, 0, none⟩) 128 cap] (by rfl) rfl (World.news_of_block (heap_alloc_new _ _)) HONE.out HNN.out H63.out (by omega) (Nat.zero_le _) _ rfl ?_; intro gN cap2 w3 hown hgrow hat hlt; have hF := HFAR.out _ _ hgrow; have f2 := hF.2.1; have c2 := (hF.1 2).trans n2)
  all_goals
    go_wp2_with fail
    have hat2 : (Value.slice q n cq).ownBlock = some gN ∨ w2.heap.size ≤ gN := hat.imp id (fun e => by rw [e]; show _ ≤ (w2.alloc _).heap.size; simp)
    have HPUT := Lib.hid (HD.out.put (w3 := w3) (i := k) (gN := gN) (cap := cap2) hk HSEC.out (by rw [show (burns m).row.length = n from hnn.out]; exact hown) (by exact hgrow) hat2)
    rw [show (burns m).row.length = n from hnn.out] at HPUT
    have kG : w3.heap[g]? = w2.heap[g]? := (hgrow.block g (by show _ < (w2.alloc _).heap.size; simp; rw [HZ2.out]; omega) (fun e => HD.out.ne_gW g e.symm rfl)).trans (Below.heap_alloc w2 _ g (by rw [HZ2.out]; omega))
    have k1 : (w3.setCell ⟨g, 2, none⟩ (.slice (some ⟨gN, 0, none⟩) (n + 1) cap2)).cell? ⟨g, 1, none⟩ = some (.slice (some ⟨bL, 0, none⟩) m.out.length cL) := (World.cell?_setCell_other _ _ _ _ (by simp)).trans ((hF.1 1).trans HD.out.c1)
    have kB : (w3.setCell ⟨g, 2, none⟩ (.slice (some ⟨gN, 0, none⟩) (n + 1) cap2)).cell? ⟨b + 1, 1, none⟩ = some (.slice (some ⟨b, 0, none⟩) 128 cap) := (World.cell?_setCell_far _ _ _ _ (by show g ≠ b + 1; omega)).trans hF.2.2.1
    have kL : (w3.setCell ⟨g, 2, none⟩ (.slice (some ⟨gN, 0, none⟩) (n + 1) cap2)).cell? ⟨bL, k, none⟩ = some (vAt ls k) := (World.cell?_setCell_far _ _ _ _ HD.out.ne_gL).trans (hF.2.2.2.1.trans ((HD.out.rl.cellAt k (show k < m.out.length * 1 by omega)).trans (vAt_get (by rw [HD.out.sl.len, last_len]; exact hk))))
    have fL : (w3.setCell ⟨g, 2, none⟩ (.slice (some ⟨gN, 0, none⟩) (n + 1) cap2)).frozen? ⟨bL, k, none⟩ = false := (World.frozen?_of_block (heap_setCell_other _ _ _ _ (Ne.symm HD.out.ne_gL))).trans (hF.2.2.2.2.trans (HD.out.rl.frozenAt k))
    have qg := Ne.symm HD.out.ne_gL
    have qb : bL ≠ b + 1 := by omega
    clear hF hown hgrow hat hat2 c2 f2 kG HFAR HOWN n2 n2a
    generalize w3.setCell ⟨g, 2, none⟩ (.slice (some ⟨gN, 0, none⟩) (n + 1) cap2) = w4 at *
    generalize vAt ls k = old at *
    go_region_held3 (fun w' => w'.cell? ⟨g, 1, none⟩ = some (.slice (some ⟨bL, 0, none⟩) m.out.length cL) ∧ w'.cell? ⟨b + 1, 1, none⟩ = some (.slice (some ⟨b, 0, none⟩) 128 cap))
      (go_keep) (fail)
    go_wp2_with fail
    go_ret
    have hX := HPUT.out
    have hS2 := HS.out.2
    rw [hvW] at hS2 ⊢
    exact ⟨rfl, _, (hX.1.below (Below.refl _ _).drew).went, (hS2.trans (Chg.of_below (by rw [hb]; exact HBB.out))).trans hX.2.drew⟩
end
/-- Write: for any bytes. -/
theorem put_any {w : World} {g : Nat} {F : List Nat} {m : Dsk} (h : Dk w g F m) (i : Int) (s : List Nat) (hd : ∀ d ∈ s, d < 256) (hn : m.done ≤ 4611686018427387904) (hl : m.row.length ≤ 1099511627776) :
    Calls Try.prog 37 #[.pointer (some ⟨g, 0, none⟩), .int .i64 i, .string (strB s)] w fun e w' => e = .returned (.int .i64 (putE m i s)) ∧ Went F g (putM m i s) w w' := by
  obtain ⟨bO, cO, bL, cL, vW, os, ls, ws, h, rfl⟩ := h
  by_cases hE : readE m i = 0
  · have hdn : ¬ m.down = true := by
      intro hd
      unfold readE at hE; rw [if_pos hd] at hE; omega
    have hh : ¬ m.has i = false := by
      intro hh
      unfold readE at hE; rw [if_neg hdn, if_pos hh] at hE; omega
    by_cases hs : s.length = 128
    · by_cases hz : m.fuse = 0
      · rw [show putE m i s = 9 by unfold putE; rw [if_neg hdn, if_neg hh, if_neg (by simp [hs]), if_pos hz], show putM m i s = burnt m by unfold putM; rw [if_neg hdn, if_neg hh, if_neg (by simp [hs]), if_pos hz]]
        exact put_burnt h i _ hE ((strB_size s).trans hs) hz hn
      · rw [show putE m i s = 0 by unfold putE; rw [if_neg hdn, if_neg hh, if_neg (by simp [hs]), if_neg hz], show putM m i s = { burns m with row := m.row ++ [(i.toNat, s)] } by unfold putM; rw [if_neg hdn, if_neg hh, if_neg (by simp [hs]), if_neg hz]]
        have h0 : m.has i = true := by simpa using hh
        unfold Dsk.has at h0
        simp only [Bool.and_eq_true, decide_eq_true_eq] at h0
        obtain ⟨k, rfl⟩ := Int.eq_ofNat_of_zero_le h0.1
        exact put_done h k s hE (by omega) hs hd hz hn hl
    · rw [show putE m i s = 1 by unfold putE; rw [if_neg hdn, if_neg hh, if_pos hs], show putM m i s = m by unfold putM; rw [if_neg hdn, if_neg hh, if_pos hs]]
      refine (put_short h i _ hE (by rw [strB_size]; exact hs)).mono ?_
      rintro e w' ⟨rfl, rfl⟩
      exact ⟨rfl, Went.refl h.went⟩
  · have hP : putE m i s = readE m i ∧ putM m i s = m := by
      unfold putE putM readE
      unfold readE at hE
      by_cases hd : m.down = true
      · simp [hd]
      · by_cases hh : m.has i = false
        · simp [hd, hh]
        · rw [if_neg hd, if_neg hh] at hE; exact absurd rfl hE
    rw [hP.1, hP.2]
    refine (put_far h i _ hE).mono ?_
    rintro e w' ⟨rfl, rfl⟩
    exact ⟨rfl, Went.refl h.went⟩
end Go.Proofs.Ytnjlhallkgacjaa
