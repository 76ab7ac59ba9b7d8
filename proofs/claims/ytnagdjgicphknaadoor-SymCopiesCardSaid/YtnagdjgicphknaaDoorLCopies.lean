/- The law of a copy that goes on by itself: the walk. -/
import Derived.Test.YtnagdjgicphknaaDoorLNames
import Derived.Laws.AppendOwnNone
set_option linter.unusedSimpArgs false
set_option maxRecDepth 20000
namespace Go.Proofs.YtnagdjgicphknaaDoor
open Go.RowKit

theorem light_is {p : Option Addr} {n : Nat} (c : Nat) {f : Nat → Opv} {w : World} (hO : Ops w p n f) (b : Bool) (hb : b = true ↔ Lite f n) : Calls Tryd.prog 7 #[.slice p n c] w fun e w' => e = .returned (.bool b) ∧ w = w' :=
  (light_any p n c f w hO).mono fun e w' ⟨⟨b', he, hb'⟩, hw⟩ => ⟨by rw [he, show b' = b from by
    cases b <;> cases b' <;> simp_all], hw⟩
/-- The names behind so many steps, from these on. -/
theorem runM_len2 (L : List ByteArray) (f : Nat → Opv) (k : Nat) : (runM L f k).length ≤ L.length + k := runM_len L f k
/-- What is handed in, in a box. -/
theorem two_at (w : World) (A B : ByteArray) : (w.alloc (.cells #[.string A, .string B] 43)).cell? ⟨w.heap.size, 0, none⟩ = some (.string A) ∧ (w.alloc (.cells #[.string A, .string B] 43)).cell? ⟨w.heap.size, 1, none⟩ = some (.string B) :=
  ⟨World.cell?_alloc_new w #[.string A, .string B] 43 0, World.cell?_alloc_new w #[.string A, .string B] 43 1⟩
/-- A row of names behind nothing: a row of its own. -/
theorem wpList_append_rf (w : World) {ops : Array Oper} {rest : List Oper} {o : Oper} {a : Act} {Q : Exit → Act → World → Prop} (hgd : o.guard = none) (sl x : Operand)
    (ho : o.op = .call { callee := .builtin .append, args := #[sl, x], argTypes := #[27, 27] }) (hs : a.eval sl = .slice none 0 0)
    (v : Value) (L : List ByteArray) (hx : a.eval x = v) (hR : Rf w v L) (hl : L.length ≤ 1000)
    (h : ∀ v' w', w'.ownsRow w.heap.size 9 1 v' L.length (strs L) → Below w.heap.size w w' → wpList Tryd.prog ops Q rest (a.put o.dst v') w') : wpList Tryd.prog ops Q (o :: rest) a w := by
  obtain ⟨i0, hi0, hz0, hz1, hz2⟩ := info_parts info9
  rcases hR.2 with ⟨e, h0⟩ | ⟨g, cap, cur, e, hb, hg, hc, hr⟩
  · have hL : L = [] := List.eq_nil_of_length_eq_zero h0
    subst hL
    exact wpList_append_own_none hgd sl x 27 ho w.heap.size 9 i0 1 Tryd.underlying27 hi0 (.slice none 0 0) 0 [] hs (World.ownsRow_nil _ _ _ _) (hx.trans e) (h _ _ (World.ownsRow_nil _ _ _ _) (Below.refl _ _))
  · subst e
    have hcell : ∀ j u, (strs L)[j]? = some u → w.cell? ((⟨g, 0, none⟩ : Addr).add j) = some u := by
      intro j u hj
      have hjl : j < L.length := by rw [← strs_len]; exact (List.getElem?_eq_some_iff.1 hj).1
      have h1 := World.ownsRow.cellAt hR j (by omega)
      rw [hj] at h1
      rw [Go.WideShapes.add_plain, Nat.zero_add]
      exact h1
    refine wpList_append_own w hgd sl x 27 ho w.heap.size 9 i0 (.string ⟨#[]⟩) 1 16 Tryd.underlying27 hi0 hz0 hz1 hz2 rfl (by decide) (.slice none 0 0) 0 [] hs (World.ownsRow_nil _ _ _ _) ⟨g, 0, none⟩ L.length cap (strs L) hx (by rw [strs_len, Nat.mul_one]) hcell (strs_one L) (by unfold maxLen; omega) (by omega) (Nat.le_refl _) ?_
    intro v' w' h1 h2 _
    rw [Nat.zero_add] at h1
    exact h v' w' h1 ((Below.refl _ _).grown h2 (Nat.le_refl _) (fun k hk => by cases hk))
/-- Which of two names comes ahead, as the law reckons it. -/
theorem lessM_lt {A B : ByteArray} (h : A.size < B.size) : lessM A B = true := by unfold lessM; rw [if_neg (by omega), decide_eq_true h]
theorem lessM_gt {A B : ByteArray} (h : B.size < A.size) : lessM A B = false := by unfold lessM; rw [if_neg (by omega), decide_eq_false (by omega)]
theorem lessM_eq {A B : ByteArray} (h : A.size = B.size) : lessM A B = Op.bytesLess A.toList B.toList := by unfold lessM; rw [if_pos h]
/-- A copy and a row of its own, made since. -/
theorem Md.made {w w1 w2 : World} {g : Nat} {F : List Nat} {v : Value} {L : List ByteArray} (hT : Tb w1 g F L) (hF : ∀ k ∈ F, w.heap.size ≤ k) (hb : Below w.heap.size w w1) (hv : w2.ownsRow w1.heap.size 9 1 v L.length (strs L)) (hb2 : Below w1.heap.size w1 w2) : Md w w2 g v L := by
  refine ⟨⟨F, ⟨hT.below hb2, base0 hv, fun k hk hkF => ?_⟩, fun k hk => ?_⟩, hb.trans (hb2.mono hb.size)⟩
  · have h1 := (World.ownsRow.lt hv k hk).1
    have h2 := hT.lt k hkF
    omega
  · unfold Pair.foot at hk
    rcases List.mem_append.1 hk with h1 | h1
    · exact hF k h1
    · have h2 := (World.ownsRow.lt hv k (by simpa using h1)).1
      have := hb.size
      omega
set_option maxHeartbeats 3200000 in
theorem copies_walk (a : Option Addr) (n c : Nat) (f : Nat → Opv) (a2 : Option Addr) (n2 c2 : Nat) (f2 : Nat → Opv) (A B : ByteArray) (W : World) (htab : TabW W) (hn : n ≤ 9223372036854775807) (hO : Ops W a n f) (hn2 : n2 ≤ 9223372036854775807) (hO2 : Ops W a2 n2 f2) (_hA : A.size ≤ maxLen) (_hB : B.size ≤ maxLen) :
    Calls Tryd.prog 6 #[.slice a n c, .slice a2 n2 c2, .agg #[.string A, .string B]] W fun e W' => e = .returned (.bool true) ∧ Below W.heap.size W W' := by
  have HTAB := Lib.hid htab
  obtain ⟨ba, hba⟩ : ∃ b : Bool, b = true ↔ Lite f n := by
    by_cases h : Lite f n
    · exact ⟨true, by simp [h]⟩
    · exact ⟨false, by simp [h]⟩
  obtain ⟨bb, hbb⟩ : ∃ b : Bool, b = true ↔ Lite f2 n2 := by
    by_cases h : Lite f2 n2
    · exact ⟨true, by simp [h]⟩
    · exact ⟨false, by simp [h]⟩
  have HBA := Lib.hid hba
  have HBB := Lib.hid hbb
  have HBX : Hid (Below W.heap.size W (W.alloc (.cells #[.string A, .string B] 43))) := Lib.hid ((Below.refl _ _).alloc (Nat.le_refl _) _)
  obtain ⟨p0, p1⟩ := two_at W A B
  have HO := Lib.hid hO
  have HO2 := Lib.hid hO2
  have HLV := Lib.hid lives_any
  have HM1 := Lib.hid may_any
  clear hO hO2 hba hbb htab
  obtain ⟨za, hza⟩ : ∃ z, Hid (A.size = z) := ⟨_, Lib.hid rfl⟩
  obtain ⟨zb, hzb⟩ : ∃ z, Hid (B.size = z) := ⟨_, Lib.hid rfl⟩
  have hza1 := hza.out
  have hzb1 := hzb.out
  obtain ⟨ga, hga⟩ : ∃ b : Bool, decide ((200 : Int) < (za : Int)) = b := ⟨_, rfl⟩
  obtain ⟨gb, hgb⟩ : ∃ b : Bool, decide ((200 : Int) < (zb : Int)) = b := ⟨_, rfl⟩
  go_enter Tryd.func6, Tryd.ntmps6
  go_upto_region 1 with fail
  go_quiet (fail)
  go_upto_region 2 with fail
  clear p0 p1
  have HW : Hid (Below W.heap.size W ((W.alloc (.cells #[.string A, .string B] 43)).drewN nq)) := Lib.hid (below_drewN HBX.out _)
  generalize (W.alloc (.cells #[.string A, .string B] 43)).drewN nq = wa at *
  clear HBX
  have HYA := Lib.hid (light_is c (HO.out.below HW.out) ba HBA.out)
  have HYB := Lib.hid (light_is c2 (HO2.out.below HW.out) bb HBB.out)
  cases ba with
  | false =>
    go_wp2_with (first
      | (go_at_call 7; with_reducible refine HYA.out.mono ?_; rintro e w1 ⟨rfl, rfl⟩)
      | (go_at_call 8; refine (HLV.out _).mono ?_; rintro e w1 ⟨rfl, hb1⟩))
    go_ret
    exact ⟨rfl, HW.out.trans (hb1.mono HW.out.size)⟩
  | true =>
    cases bb with
    | false =>
      go_wp2_with (first
        | (go_at_call 7; with_reducible refine HYA.out.mono ?_; rintro e w1 ⟨rfl, rfl⟩)
        | (go_at_call 7; with_reducible refine HYB.out.mono ?_; rintro e w1 ⟨rfl, rfl⟩)
        | (go_at_call 8; refine (HLV.out _).mono ?_; rintro e w1 ⟨rfl, hb1⟩))
      go_ret
      exact ⟨rfl, HW.out.trans (hb1.mono HW.out.size)⟩
    | true =>
      cases ga with
      | true =>
        go_wp2_with (first
          | (go_at_call 7; with_reducible refine HYA.out.mono ?_; rintro e w1 ⟨rfl, rfl⟩)
          | (go_at_call 7; with_reducible refine HYB.out.mono ?_; rintro e w1 ⟨rfl, rfl⟩)
          | (go_at_call 8; refine (HLV.out _).mono ?_; rintro e w1 ⟨rfl, hb1⟩))
        go_ret
        exact ⟨rfl, HW.out.trans (hb1.mono HW.out.size)⟩
      | false =>
        cases gb with
        | true =>
          go_wp2_with (first
            | (go_at_call 7; with_reducible refine HYA.out.mono ?_; rintro e w1 ⟨rfl, rfl⟩)
            | (go_at_call 7; with_reducible refine HYB.out.mono ?_; rintro e w1 ⟨rfl, rfl⟩)
            | (go_at_call 8; refine (HLV.out _).mono ?_; rintro e w1 ⟨rfl, hb1⟩))
          go_ret
          exact ⟨rfl, HW.out.trans (hb1.mono HW.out.size)⟩
        | false =>
          have HLA : Hid (Lite f n) := Lib.hid (HBA.out.1 rfl)
          have HLB : Hid (Lite f2 n2) := Lib.hid (HBB.out.1 rfl)
          clear HBA HBB
          go_upto_region 10 with (first
            | (go_at_call 7; with_reducible refine HYA.out.mono ?_; rintro e w1 ⟨rfl, rfl⟩)
            | (go_at_call 7; with_reducible refine HYB.out.mono ?_; rintro e w1 ⟨rfl, rfl⟩)
            | (go_at_call 14; refine (number_nil _ _).mono ?_; rintro e w1 ⟨rfl, rfl⟩)
            | (go_at_call 15; refine (find_nil _ _).mono ?_; rintro e w1 ⟨rfl, rfl⟩)
            | (go_at_call 17; refine (fresh_nil _ _).mono ?_; rintro e w1 ⟨rfl, rfl⟩)
            | (go_at_call 19; refine (len_nil _).mono ?_; rintro e w1 ⟨rfl, rfl⟩)
            | (go_at_call 16; refine (name_nil _ _).mono ?_; rintro e w1 ⟨rfl, rfl⟩)
            | (go_at_call 20; refine (copy_nil _).mono ?_; rintro e w1 ⟨rfl, rfl⟩))
          clear HYA HYB
          have HNew := Lib.hid (new_any wa)
          go_wp2_with (go_at_call 9; refine HNew.out.mono ?_; rintro e w1 ⟨g, F, rfl, hT, hF, hb1⟩)
          have H0 : Hid (Md W w1 g (.slice none 0 0) (runM [] f 0)) := Lib.hid (Md.start hT (fun k hk => Nat.le_trans HW.out.size (hF k hk)) (HW.out.trans (hb1.mono HW.out.size)))
          clear hT hF hb1 HNew
          have hn60 := HLA.out.le
          have hm60 := HLB.out.le
          go_loopw [17, 18] (fun xv iv wr => ∃ i : Nat, i ≤ n ∧ iv = .int .i64 (i : Int) ∧ Hid (Md W wr g xv (runM [] f i))) (fun _ iv _ => n - (intOf iv).toNat)
          case atStart => exact ⟨0, by omega, by go_num, H0⟩
          case round =>
            obtain ⟨i, hi, rfl, HI⟩ := hrel
            have hlen : (runM [] f i).length ≤ 98 := by have := runM_len [] f i; simp at this; omega
            by_cases hlt : i < n
            · have hiN : (i : Int) < (n : Int) := by omega
              obtain ⟨b, o, rfl, hc⟩ := (HO.out.below HI.out.below) (by omega)
              obtain ⟨x0, x1⟩ := hc i hlt
              have HS : Hid (Calls Tryd.prog 10 #[.pointer (some ⟨g, 0, none⟩), u17, .agg #[.int .i64 (f i).kind, .string (f i).name]] wr fun e w' => ∃ y, e = .returned (.tuple #[y, .bool true]) ∧ Md W w' g y (opM (runM [] f i) (f i))) := Lib.hid (HI.out.step hlen (f i) (HLA.out.sz i hlt))
              go_wp2_with (go_at_call 10; refine HS.out.mono ?_; rintro e w2 ⟨y, rfl, hI2⟩)
              go_roundw
              case rel => exact ⟨i + 1, by omega, by go_num, Lib.hid (show Md W _ g y (runM [] f (i + 1)) from hI2)⟩
              case measure => simp [intOf]; omega
            · obtain rfl : i = n := by omega
              obtain ⟨wo, rfl⟩ : ∃ wo, wo = wr := ⟨_, rfl⟩
              have hl2 : (runM [] f i).length ≤ 60 := by have := runM_len [] f i; simp at this; omega
              have HB1 := Lib.hid HI.out.below
              obtain ⟨F1, hP1, _⟩ := HI.out.pr
              have HP1 := Lib.hid hP1
              have HCP := Lib.hid (copy_any hP1.tb (by omega))
              clear hP1 H0 hi hlt hlen HI
              generalize runM [] f i = L at *
              go_upto_region 18 with (go_at_call 20; refine HCP.out.mono ?_; rintro e w2 ⟨gc, Fc, rfl, hTc, hFc, hbc⟩)
              have HTC := Lib.hid hTc
              have HFC := Lib.hid hFc
              have HBC := Lib.hid hbc
              have HR2 : Hid (Rf w2 u17 L) := Lib.hid (HP1.out.rf.below hbc)
              clear hTc hFc hbc HCP
              have hl3 : L.length ≤ 1000 := by omega
              go_upto_region 19 with (at_builtin; refine wpList_append_rf _ rfl (.tmp 113) (.tmp 114) rfl rfl u17 L rfl HR2.out hl3 ?_; intro vm w3 hvm hb3)
              obtain ⟨qm, cm, em⟩ := own_form hvm
              subst em
              have HMd : Hid (Md wo w3 gc (.slice qm L.length cm) (runM L f2 0)) := Lib.hid (Md.made HTC.out HFC.out HBC.out hvm hb3)
              clear hvm hb3 HR2 HTC HFC HBC
              go_wp2_with fail
              go_loopw [20, 21] (fun xv iv wz => ∃ j : Nat, j ≤ n2 ∧ iv = .int .i64 (j : Int) ∧ Hid (Md wo wz gc xv (runM L f2 j))) (fun _ iv _ => n2 - (intOf iv).toNat)
              case atStart => exact ⟨0, by omega, by go_num, HMd⟩
              case round =>
                obtain ⟨j, hj, rfl, HJ⟩ := hrel
                have hlen2 : (runM L f2 j).length ≤ 120 := by have := runM_len L f2 j; omega
                have HWZ : Hid (Below W.heap.size W wr) := Lib.hid (HB1.out.trans (HJ.out.below.mono HB1.out.size))
                by_cases hlt : j < n2
                · have hjN : (j : Int) < (n2 : Int) := by omega
                  obtain ⟨b, o, rfl, hc⟩ := (HO2.out.below HWZ.out) (by omega)
                  obtain ⟨x0, x1⟩ := hc j hlt
                  have HS : Hid (Calls Tryd.prog 10 #[.pointer (some ⟨gc, 0, none⟩), u20, .agg #[.int .i64 (f2 j).kind, .string (f2 j).name]] wr fun e w' => ∃ y, e = .returned (.tuple #[y, .bool true]) ∧ Md wo w' gc y (opM (runM L f2 j) (f2 j))) := Lib.hid (HJ.out.stepR (.inr ⟨by omega, HTAB.out.below HWZ.out⟩) (f2 j) (HLB.out.sz j hlt))
                  go_wp2_with (go_at_call 10; refine HS.out.mono ?_; rintro e w4 ⟨y, rfl, hI2⟩)
                  go_roundw
                  case rel => exact ⟨j + 1, by omega, by go_num, Lib.hid (show Md wo _ gc y (runM L f2 (j + 1)) from hI2)⟩
                  case measure => simp [intOf]; omega
                · obtain rfl : j = n2 := by omega
                  obtain ⟨F2, hP2, _⟩ := HJ.out.pr
                  have HSA := Lib.hid (same_any (HP1.out.below HJ.out.below) (by omega))
                  have HSB : Hid (∀ w5, Below wr.heap.size wr w5 → Calls Tryd.prog 13 #[.pointer (some ⟨gc, 0, none⟩), u20] w5 fun e w' => e = .returned (.bool true) ∧ Below w5.heap.size w5 w') := Lib.hid (fun w5 hb => same_any (hP2.below hb) (by omega))
                  have HLS := Lib.hid (less_any A B)
                  clear hP2 hj hlen2 hl2 hl3 HP1 HJ
                  generalize runM L f2 j = M at *
                  rcases Nat.lt_trichotomy za zb with h1 | h1 | h1
                  · rw [show lessM A B = true from lessM_lt (by omega)] at HLS
                    have hd : decide ((za : Int) < (zb : Int)) = true := by simp; omega
                    go_wp2_with (first
                      | (go_at_call 13; with_reducible refine HSA.out.mono ?_; rintro e w5 ⟨rfl, hb5⟩)
                      | (go_at_call 13; with_reducible refine (HSB.out _ hb5).mono ?_; rintro e w6 ⟨rfl, hb6⟩)
                      | (go_at_call 21; refine (HLS.out _).mono ?_; rintro e w7 ⟨rfl, rfl⟩)
                      | (go_at_call 8; refine (HLV.out _).mono ?_; rintro e w7 ⟨rfl, hb7⟩))
                    go_ret
                    have h56 := hb5.trans (hb6.mono hb5.size)
                    have h57 := h56.trans (hb7.mono h56.size)
                    exact ⟨rfl, HWZ.out.trans (h57.mono HWZ.out.size)⟩
                  · rw [lessM_eq (by omega)] at HLS
                    have hd : decide ((za : Int) < (zb : Int)) = false := by simp; omega
                    have hdn : decide (za < zb) = false := by simp; omega
                    have he : ((za : Int) == (zb : Int)) = true := by rw [h1]; simp
                    have hbb : (Op.bytesLess A.toList B.toList == Op.bytesLess A.toList B.toList) = true := by simp
                    clear h1
                    go_wp2_with (first
                      | (go_at_call 13; with_reducible refine HSA.out.mono ?_; rintro e w5 ⟨rfl, hb5⟩)
                      | (go_at_call 13; with_reducible refine (HSB.out _ hb5).mono ?_; rintro e w6 ⟨rfl, hb6⟩)
                      | (go_at_call 21; refine (HLS.out _).mono ?_; rintro e w7 ⟨rfl, rfl⟩)
                      | (go_at_call 8; refine (HLV.out _).mono ?_; rintro e w7 ⟨rfl, hb7⟩))
                    go_ret
                    have h56 := hb5.trans (hb6.mono hb5.size)
                    have h57 := h56.trans (hb7.mono h56.size)
                    exact ⟨rfl, HWZ.out.trans (h57.mono HWZ.out.size)⟩
                  · rw [show lessM A B = false from lessM_gt (by omega)] at HLS
                    have hd : decide ((za : Int) < (zb : Int)) = false := by simp; omega
                    have hdn : decide (za < zb) = false := by simp; omega
                    have he : ((za : Int) == (zb : Int)) = false := by rw [beq_eq_false_iff_ne]; omega
                    go_wp2_with (first
                      | (go_at_call 13; with_reducible refine HSA.out.mono ?_; rintro e w5 ⟨rfl, hb5⟩)
                      | (go_at_call 13; with_reducible refine (HSB.out _ hb5).mono ?_; rintro e w6 ⟨rfl, hb6⟩)
                      | (go_at_call 21; refine (HLS.out _).mono ?_; rintro e w7 ⟨rfl, rfl⟩)
                      | (go_at_call 8; refine (HLV.out _).mono ?_; rintro e w7 ⟨rfl, hb7⟩))
                    go_ret
                    have h56 := hb5.trans (hb6.mono hb5.size)
                    have h57 := h56.trans (hb7.mono h56.size)
                    exact ⟨rfl, HWZ.out.trans (h57.mono HWZ.out.size)⟩
end Go.Proofs.YtnagdjgicphknaaDoor
