/- The new name: the search. -/
import Derived.Test.YtnagdjgicphknaaDoorRFresh
import Derived.Test.YtnagdjgicphknaaDoorAdd
import Derived.Deep.RegionLaw
import Derived.RegionTactic
set_option linter.unusedSimpArgs false
set_option maxRecDepth 20000
namespace Go.Proofs.YtnagdjgicphknaaDoor
open Go.RowKit

theorem chr37 (w : World) : Bys (w.alloc (.cells #[.int .u8 37] 5)) (some ⟨w.heap.size, 0, none⟩) 1 [37] := ⟨rfl, by simp, fun _ => ⟨w.heap.size, 0, rfl, fun i hi => by
    obtain rfl : i = 0 := by omega
    exact World.cell?_alloc_new w #[.int .u8 37] 5 0⟩⟩
/-- Two rows that lie apart. -/
structure Two (w wr : World) (mp : Option Addr) (mc : Nat) (tp : Option Addr) (tc : Nat) : Prop where
  made : Byr wr w.heap.size (.slice mp 0 mc) []
  tail : Byr wr w.heap.size (.slice tp 0 tc) []
  ne : ∀ b, (Value.slice mp 0 mc).ownBlock = some b → (Value.slice tp 0 tc).ownBlock ≠ some b
  below : Below w.heap.size w wr
/-- May a name be made anew beside these? -/
def Room (w : World) (L : List ByteArray) : Prop := L.length ≤ 98 ∨ (L.length ≤ 900 ∧ TabW w)
theorem Room.le {w : World} {L : List ByteArray} (h : Room w L) : L.length ≤ 900 := by rcases h with h | h <;> omega
theorem Room.below {w w' : World} {L : List ByteArray} (h : Room w L) (hb : Below w.heap.size w w') : Room w' L := h.imp id (fun h => ⟨h.1, h.2.below hb⟩)
theorem Room.num {w : World} {L : List ByteArray} (h : Room w L) {n : Nat} (hn : n ≤ L.length + 1) : NumOk w n := h.imp (fun h => by omega) (fun h => ⟨by omega, h.2⟩)
theorem Room.few {w : World} {L : List ByteArray} (h : L.length ≤ 98) : Room w L := .inl h
set_option maxHeartbeats 1600000 in
theorem ifresh_any {w : World} {g : Nat} {F : List Nat} {L : List ByteArray} (h : Tb w g F L) (hr : Room w L) (S : ByteArray) (hS : okB S = true) : Calls Tryd.prog 26 #[.pointer (some ⟨g, 0, none⟩), .string S] w fun e w' => e = .returned (.string (fr L S)) ∧ Below w.heap.size w w' := by
  have hl := hr.le
  have HNO : Hid (∀ w1, Below w.heap.size w w1 → ∀ n, n ≤ L.length + 1 → NumOk w1 n) := Lib.hid (fun w1 hb n hn => (hr.below hb).num hn)
  clear hr
  have HSP : Hid (FrN L S (frN L S)) := Lib.hid (frN_spec S (by omega))
  have hsz : S.size ≤ 32 := ((okB_iff S).1 hS).2.1
  have HFR : Hid (∀ n, 1 ≤ n → n ≤ L.length + 1 → cand S n ∉ L → (∀ k, 1 ≤ k → k < n → cand S k ∈ L) → cand S n = fr L S) := Lib.hid (fun n h1 h2 h3 h4 => by unfold fr; rw [(frN_spec S (by omega)).eq ⟨h1, h2, h3, h4⟩])
  obtain ⟨v, mb, h, rfl⟩ := h
  have HT := Lib.hid h
  have HC1 : Hid (∀ w1, Below w.heap.size w w1 → w1.cell? ⟨g, 1, none⟩ = some (.map (some mb))) := Lib.hid (fun w1 hb => (h.below hb).c1)
  have HLK : Hid (∀ w1, Below w.heap.size w w1 → ∀ T : ByteArray, T.size ≤ 140737488355328 → (Instr.lookup 47 (.map (some mb)) (.string T) true).run Tryd.prog w1 = .ok (.tuple #[.int .i64 (numI L T), .bool (decide (T ∈ L))]) w1) := Lib.hid (fun w1 hb T hT => (h.below hb).map.look T hT)
  clear h
  go_enter Tryd.func26, Tryd.ntmps26
  go_wp2_with fail
  go_loopw [5, 6, 7, 8, 9, 10] (fun mv tv nv _ _ _ wr => ∃ (n mk tk mc tc : Nat) (mp tp : Option Addr), 1 ≤ n ∧ n ≤ L.length + 1 ∧ mv = .slice mp mk mc ∧ tv = .slice tp tk tc ∧ nv = .int .i64 (n : Int) ∧ Hid (∀ k, 1 ≤ k → k < n → cand S k ∈ L) ∧ Hid (Two w wr mp mc tp tc)) (fun _ _ nv _ _ _ _ => L.length + 2 - (intOf nv).toNat)
  case atStart => exact ⟨1, 0, 0, 0, 0, none, none, by omega, by omega, rfl, rfl, by go_num, Lib.hid (fun k h1 h2 => by omega), Lib.hid ⟨Byr.nil_ _ _, Byr.nil_ _ _, fun b hb => (by cases hb), Below.refl _ _⟩⟩
  case round =>
    obtain ⟨n, mk, tk, mc, tc, mp, tp, hn1, hn2, rfl, rfl, rfl, HJ, HTwo⟩ := hrel
    have hn : n < 1000 := by omega
    have HB0 := Lib.hid HTwo.out.below
    have HBa : Hid (Below w.heap.size w (wr.alloc (.cells #[.int .u8 37] 5))) := Lib.hid (HB0.out.alloc HB0.out.size _)
    have HTl : Hid (Byr (wr.alloc (.cells #[.int .u8 37] 5)) w.heap.size (.slice tp 0 tc) []) := Lib.hid (HTwo.out.tail.below ((Below.refl _ _).alloc (Nat.le_refl _) _))
    have HCH := Lib.hid (chr37 wr)
    go_upto_region 5 with (first
      | (at_builtin; refine wpList_append_byr _ rfl (.tmp 14) (.tmp 15) rfl w.heap.size (.slice tp 0 tc) [] rfl HTl.out _ 1 1 [37] rfl HCH.out (by omega) (by decide) HBa.out.size ?_; intro v1 w1 hv1 ha1; have HB1 := Lib.hid (ha1.below HBa.out HBa.out.size HTl.out); have HA1 := Lib.hid ha1; have HV1 := Lib.hid hv1)
      | (go_at_call 31; refine (int_any HV1.out HB1.out.size (by decide) n (HNO.out _ HB1.out n hn2)).mono ?_; rintro e w2 ⟨v2, rfl, hv2, ha2⟩))
    have HV2 := Lib.hid (show Byr w2 w.heap.size v2 (tailM n) from hv2)
    have HB2 := Lib.hid (ha2.below HB1.out HB1.out.size HV1.out)
    have HAA : Hid ((v2.ownBlock = (Value.slice tp 0 tc).ownBlock ∨ ∃ b, v2.ownBlock = some b ∧ wr.heap.size ≤ b)) := Lib.hid (by
      have hsz1 := HA1.out.grown.size
      simp at hsz1
      rcases ha2.at_ with e | e
      · rcases HA1.out.at_ with e1 | e1
        · exact .inl (e.trans e1)
        · exact .inr ⟨_, e.trans e1, by simp⟩
      · obtain ⟨b, e, hb⟩ := e
        exact .inr ⟨b, e, by omega⟩)
    have HMD : Hid (Byr w2 w.heap.size (.slice mp 0 mc) []) := Lib.hid (HTwo.out.made.other (fun b hb => by
      have hlt := (HTwo.out.made.lt b hb).2
      have hne := HTwo.out.ne b hb
      have h1 : w1.heap[b]? = wr.heap[b]? := (HA1.out.grown.block b (by simp; omega) (fun e => hne e.symm)).trans (Below.heap_alloc wr _ b hlt)
      have hs1 := HA1.out.grown.size
      simp at hs1
      refine (ha2.grown.block b (by omega) (fun e => ?_)).trans h1
      rcases HA1.out.at_ with e1 | e1
      · exact hne (e1.symm.trans e.symm)
      · rw [← e] at e1
        have e2 : b = (wr.alloc (.cells #[.int .u8 37] 5)).heap.size := by injection e1
        simp at e2; omega))
    obtain ⟨tl, HTL⟩ : ∃ tl, Hid ((tailM n).length = tl) := ⟨_, Lib.hid rfl⟩
    have htl : 2 ≤ tl ∧ tl ≤ 4 := by rw [← HTL.out]; exact tailM_len n
    obtain ⟨q2, c2, e2⟩ := hv2.form
    have e3 : v2 = .slice q2 tl c2 := by rw [e2, ← HTL.out]; rfl
    clear e2
    have e2 := e3
    clear e3
    subst e2
    clear hv2 ha2
    obtain ⟨m, HM⟩ : ∃ m, Hid (S.size = m) := ⟨_, Lib.hid rfl⟩
    have hm := HM.out
    rw [hm] at hsz
    go_cut [8] (fun v wx => ∃ f : Nat, v = .int .i64 (f : Int) ∧ Hid (f = min m (32 - tl)) ∧ Hid (w2 = wx))
    case first =>
      by_cases hfit : m ≤ 32 - tl
      · have hd1 : decide ((32 : Int) - (tl : Int) < (m : Int)) = false := by simp; omega
        go_wp2_with fail
        go_meet
        exact ⟨m, by congr 1; omega, Lib.hid (by omega), Lib.hid rfl⟩
      · have hd1 : decide ((32 : Int) - (tl : Int) < (m : Int)) = true := by simp; omega
        go_wp2_with fail
        go_meet
        exact ⟨32 - tl, by congr 1; omega, Lib.hid (by omega), Lib.hid rfl⟩
    case rest =>
      obtain ⟨f, rfl, HF, hwx⟩ := hcut
      obtain rfl := hwx.out
      have hfm : f ≤ m := by have := HF.out; omega
      have hf32 : f + tl ≤ 32 := by have := HF.out; omega
      have HXS : Hid ((S.extract 0 f).size = f) := Lib.hid (by rw [extract_size S 0 f (Nat.zero_le _) (by omega)]; omega)
      have HXN : Hid (nums (S.extract 0 f) = (nums S).take f) := Lib.hid (by rw [nums_extract, List.drop_zero, Nat.sub_zero])
      have H63 : Hid (([] : List Nat).length + (S.extract 0 f).size ≤ 1000000) := Lib.hid (by rw [HXS.out]; show 0 + f ≤ _; omega)
      have hfS : f ≤ S.size := by omega
      have HNE2 : Hid (∀ b, (Value.slice mp 0 mc).ownBlock = some b → (Value.slice q2 tl c2).ownBlock ≠ some b) := Lib.hid (fun b hb e => by
        rcases HAA.out with h1 | ⟨b2, h1, h2⟩
        · exact HTwo.out.ne b hb (h1.symm.trans e)
        · rw [h1] at e
          have e2 : b2 = b := by injection e
          have := (HTwo.out.made.lt b hb).2
          omega)
      have HTB : Hid (∀ v3 w3, Apd w2.drew w3 (.slice mp 0 mc) v3 → Byr w3 w.heap.size (.slice q2 tl c2) (tailM n)) := Lib.hid (fun v3 w3 ha => HV2.out.other (fun b hb => ha.grown.block b (HV2.out.lt b hb).2 (fun e => HNE2.out b e.symm hb)))
      have HTY : Hid (∀ v3 w3, Apd w2.drew w3 (.slice mp 0 mc) v3 → Bys w3 q2 tl (tailM n)) := Lib.hid (fun v3 w3 ha => by
        have h1 := HTB.out v3 w3 ha
        unfold Byr at h1
        rw [HTL.out] at h1
        exact Bys.own h1 (fun x hx => by have := tailM_chr hn x hx; omega))
      have HS3 : Hid (∀ v3 w3, Apd w2.drew w3 (.slice mp 0 mc) v3 → w.heap.size ≤ w3.heap.size) := Lib.hid (fun v3 w3 ha => Nat.le_trans HB2.out.size ha.grown.size)
      have H64 : Hid (([] ++ nums (S.extract 0 f) : List Nat).length + tl ≤ 1000000) := Lib.hid (by rw [HXN.out, List.nil_append, List.length_take]; omega)
      have htl0 : 0 < tl := by omega
      go_upto_region 6 with fail
      go_region_law (first
        | (refine step_append_str _ rfl (.tmp 26) (.tmp 29) rfl w.heap.size (.slice mp 0 mc) [] (by rfl) HMD.out (S.extract 0 f) (by rfl) H63.out HB2.out.size ?_; intro v3 w3 hv3 ha3)
        | (refine step_append_byr _ rfl (.tmp 30) (.tmp 31) rfl w.heap.size v3 ([] ++ nums (S.extract 0 f)) (by rfl) hv3 q2 tl c2 (tailM n) (by rfl) (HTY.out v3 w3 ha3) htl0 H64.out (HS3.out v3 w3 ha3) ?_; intro v4 w4 hv4 ha4))
      have HV4 : Hid (Byr w4 w.heap.size v4 (candL (nums S) n)) := Lib.hid (by
        have e : candL (nums S) n = [] ++ nums (S.extract 0 f) ++ tailM n := by
          unfold candL
          rw [HXN.out, HTL.out, List.nil_append]
          congr 1
          have h1 : (nums S).length = m := by rw [nums_len]; exact HM.out
          have h2 := HF.out
          rcases Nat.le_total m (32 - tl) with h3 | h3
          · rw [List.take_of_length_le (by omega), List.take_of_length_le (by omega)]
          · rw [show f = 32 - tl by omega]
        rw [e]; exact hv4)
      have HB3 : Hid (Below w.heap.size w w3) := Lib.hid (Apd.below ha3 (HB2.out.drew) HB2.out.size HMD.out)
      have HB4 : Hid (Below w.heap.size w w4) := Lib.hid (Apd.below ha4 HB3.out HB3.out.size hv3)
      have HN3 : Hid (∀ b, v3.ownBlock = some b → (Value.slice q2 tl c2).ownBlock ≠ some b) := Lib.hid (fun b hb e => by
        rcases ha3.at_ with h1 | h1
        · exact HNE2.out b (h1.symm.trans hb) e
        · have h2 := (HV2.out.lt b e).2
          rw [h1] at hb
          have h3 : w2.drew.heap.size = b := by injection hb
          have h4 : w2.drew.heap.size = w2.heap.size := rfl
          omega)
      have HN4 : Hid (∀ b, v4.ownBlock = some b → (Value.slice q2 tl c2).ownBlock ≠ some b) := Lib.hid (fun b hb e => by
        rcases ha4.at_ with h1 | h1
        · exact HN3.out b (h1.symm.trans hb) e
        · have h2 := ((HTB.out v3 w3 ha3).lt b e).2
          rw [h1] at hb
          have h3 : w3.heap.size = b := by injection hb
          omega)
      have HT4 : Hid (Byr w4 w.heap.size (.slice q2 tl c2) (tailM n)) := Lib.hid ((HTB.out v3 w3 ha3).other (fun b hb => ha4.grown.block b ((HTB.out v3 w3 ha3).lt b hb).2 (fun e => HN3.out b e.symm hb)))
      obtain ⟨q4, c4, e4⟩ := HV4.out.form
      obtain ⟨cl, HCL⟩ : ∃ cl, Hid ((candL (nums S) n).length = cl) := ⟨_, Lib.hid rfl⟩
      rw [HCL.out] at e4
      subst e4
      clear hv3 ha3 hv4 ha4
      have hconv : ∀ w5 : World, w5.heap = w4.heap → (convert 55 9 (.slice q4 cl c4)).run Tryd.prog w5 = .ok (.string (cand S n)) w5 := fun w5 h5 => by
        have h1 : Byr w5 w.heap.size (.slice q4 cl c4) (candL (nums S) n) := HV4.out.other (fun b _ => by rw [h5])
        unfold Byr at h1
        rw [HCL.out] at h1
        exact (Bys.own h1 (candL_dig hn)).conv c4
      have hcv1 := hconv w4.drew rfl
      have hcv0 := hconv w4 rfl
      have c1 := HC1.out w4.drew HB4.out.drew
      have hcs : (cand S n).size ≤ 140737488355328 := by rw [← nums_len, nums_cand hn, HCL.out]; have h1 : cl = min (32 - tl) m + tl := by rw [← HCL.out, ← HTL.out, ← HM.out]; unfold candL; rw [List.length_append, List.length_take, nums_len]
                                                         omega
      have hlk := HLK.out w4.drew HB4.out.drew (cand S n) hcs
      clear hconv hcs
      have HFN := Lib.hid (HFR.out n hn1 hn2)
      by_cases hm : cand S n ∈ L
      · rw [decide_eq_true hm] at hlk
        have HMM := Lib.hid hm
        clear hm
        have hnl : n ≤ L.length := by
          rcases Nat.lt_or_ge L.length n with h1 | h1
          · exfalso
            have h2 := HSP.out
            rcases Nat.lt_or_ge (frN L S) n with h3 | h3
            · exact h2.not_ (HJ.out _ h2.pos h3)
            · have h4 := h2.le
              exact h2.not_ (by rw [show frN L S = n by omega]; exact HMM.out)
          · exact h1
        have HJ2 : Hid (∀ k, 1 ≤ k → k < n + 1 → cand S k ∈ L) := Lib.hid (fun k h1 h2 => (Nat.lt_succ_iff_lt_or_eq.1 h2).elim (HJ.out k h1) (fun e => by rw [e]; exact HMM.out))
        have HEND : Hid (Two w w4.drew q4 c4 q2 c2) := Lib.hid ⟨(HV4.out.cut : Byr w4 w.heap.size (.slice q4 0 c4) []), (HT4.out.cut : Byr w4 w.heap.size (.slice q2 0 c2) []), fun b hb e => by
            refine HN4.out b ?_ ?_
            · cases q4 with
              | none => cases hb
              | some a => exact hb
            · cases q2 with
              | none => cases e
              | some a => exact e, HB4.out.drew⟩
        generalize cand S n = C at *
        generalize numI L C = x at *
        go_upto_region 7 with fail
        go_region
        all_goals go_wp2_with fail
        all_goals
          refine ⟨⟨n + 1, cl, tl, c4, c2, q4, q2, by omega, by omega, rfl, rfl, by go_num, HJ2, HEND⟩, ?_⟩
          simp [intOf]; omega
      · rw [decide_eq_false hm] at hlk
        have HE := Lib.hid (HFN.out hm HJ.out)
        rw [HE.out] at hlk hcv1 hcv0
        clear hm
        generalize numI L (fr L S) = x at *
        go_upto_region 7 with fail
        go_region
        all_goals go_wp2_with fail
        all_goals
          go_ret
          exact ⟨rfl, HB4.out.drew⟩
end Go.Proofs.YtnagdjgicphknaaDoor
