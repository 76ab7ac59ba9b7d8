/- A token's text. -/
import Derived.Test.YtjpbbooeihdnfaaDoorLU2
import Derived.Test.YtjpbbooeihdnfaaDoorLU3
set_option maxRecDepth 20000
set_option linter.unusedSimpArgs false
set_option linter.unusedVariables false
namespace Go.Proofs.YtjpbbooeihdnfaaDoor
open Go.RowKit

theorem chr_len : ∀ n : Fin 128, (chrT n.1).length ≤ 10 := by decide +kernel
theorem mark_text : ∀ k : Fin 9, texM ⟨k.1, 0, []⟩ = mks.getD k.1 [] := by decide +kernel
theorem cat_str2 (a b : List UInt8) : ((⟨a.toArray⟩ : ByteArray) ++ ⟨b.toArray⟩) = ⟨(a ++ b).toArray⟩ := cat_str a b
/-- The end of each walk. -/
theorem ret_text {A : ByteArray} {L : List UInt8} (h : A = ⟨L.toArray⟩) : Ending.returned (.string A) = .returned (.string ⟨L.toArray⟩) := by rw [h]
set_option maxHeartbeats 6400000 in
theorem text_mark (k : Nat) (hk : k < 9) (s : ByteArray) (n at_ : Int) (w : World) (hE : Env w) : Calls Tryd.prog 12 #[.agg #[.int .i64 (k : Int), .int .i64 n, .string s, .int .i64 at_]] w fun e w' => e = .returned (.string ⟨(mks.getD k []).toArray⟩) ∧ Below w.heap.size w w' := by
  have HB0 := Lib.hid (alloc_below w (.cells #[.int .i64 (k : Int), .int .i64 n, .string s, .int .i64 at_] 30))
  have q := (hE.below HB0.out).mks k hk
  have hx9 := heap_alloc_new w (.cells #[.int .i64 (k : Int), .int .i64 n, .string s, .int .i64 at_] 30)
  have d0 := cell_of_row _ _ 0 _ _ _ hx9
  simp only [List.getElem?_toArray, List.getElem?_cons_zero] at d0
  have HEW := Lib.hid hE
  have hkI : (k : Int) < 9 := by omega
  obtain ⟨M, hM⟩ : ∃ M : ByteArray, ⟨(mks.getD k []).toArray⟩ = M := ⟨_, rfl⟩
  rw [hM] at q ⊢
  have z9 : ((k : Int) == 9) = false := beq_false_of_ne (by omega)
  have z10 : ((k : Int) == 10) = false := beq_false_of_ne (by omega)
  have z11 : ((k : Int) == 11) = false := beq_false_of_ne (by omega)
  have z12 : ((k : Int) == 12) = false := beq_false_of_ne (by omega)
  have z13 : ((k : Int) == 13) = false := beq_false_of_ne (by omega)
  have z14 : ((k : Int) == 14) = false := beq_false_of_ne (by omega)
  have z15 : ((k : Int) == 15) = false := beq_false_of_ne (by omega)
  have z16 : ((k : Int) == 16) = false := beq_false_of_ne (by omega)
  have y9 : (k == 9) = false := beq_false_of_ne (by omega)
  have y10 : (k == 10) = false := beq_false_of_ne (by omega)
  have y11 : (k == 11) = false := beq_false_of_ne (by omega)
  have y12 : (k == 12) = false := beq_false_of_ne (by omega)
  have y13 : (k == 13) = false := beq_false_of_ne (by omega)
  have y14 : (k == 14) = false := beq_false_of_ne (by omega)
  have y15 : (k == 15) = false := beq_false_of_ne (by omega)
  have y16 : (k == 16) = false := beq_false_of_ne (by omega)
  have g0 : decide ((k : Int) < 0) = false := decide_eq_false (by omega)
  have g1 : decide ((9 : Int) ≤ (k : Int)) = false := decide_eq_false (by omega)
  have g2 : decide (9 ≤ k) = false := decide_eq_false (by omega)
  clear hx9 hE hM
  go_enter Tryd.func12, Tryd.ntmps12
  go_upto_region 1 with fail
  generalize w.alloc (.cells #[.int .i64 (k : Int), .int .i64 n, .string s, .int .i64 at_] 30) = W0 at *
  go_wp2_with fail
  go_ret
  exact ⟨rfl, HB0.out⟩
/-- A token by value. -/
abbrev tkV (t : Tk) (a : Int) : Value := .agg #[.int .i64 (t.k : Int), .int .i64 t.n, .string ⟨t.s.toArray⟩, .int .i64 a]
theorem pow_below {w w' : World} (h : Pow w) (hb : Below w.heap.size w w') : Pow w' := by
  unfold Pow Lib.TabIs World.var? at h ⊢
  cases hg : Tryd.prog.globalNamed "internal/strconv.uint64pow10" with
  | none => rw [hg] at h; cases h
  | some g =>
    rw [hg] at h
    simp only [Option.bind_some] at h ⊢
    have hlt : g < w.heap.size := by
      rcases Nat.lt_or_ge g w.heap.size with h' | h'
      · exact h'
      · rw [Array.getElem?_eq_none h'] at h; cases h
    rw [hb.block g hlt]
    exact h
set_option maxHeartbeats 6400000 in
theorem text_dot  (a : Int) (w : World) (hE : Env w) (hP : Pow w) : Calls Tryd.prog 12 #[.agg #[.int .i64 9, .int .i64 0, .string ⟨#[]⟩, .int .i64 a]] w fun e w' => e = .returned (.string ⟨(texM ⟨9, 0, []⟩).toArray⟩) ∧ Below w.heap.size w w' := by
  have HB0 := Lib.hid (alloc_below w (.cells #[.int .i64 9, .int .i64 0, .string ⟨#[]⟩, .int .i64 a] 30))
  have hx9 := heap_alloc_new w (.cells #[.int .i64 9, .int .i64 0, .string ⟨#[]⟩, .int .i64 a] 30)
  have d0 := cell_of_row _ _ 0 _ _ _ hx9
  have d1 := cell_of_row _ _ 1 _ _ _ hx9
  have d2 := cell_of_row _ _ 2 _ _ _ hx9
  simp only [List.getElem?_toArray, List.getElem?_cons_zero, List.getElem?_cons_succ] at d0 d1 d2
  have HEW := Lib.hid hE
  have HPW := Lib.hid hP
  clear hx9 hE hP
  go_enter Tryd.func12, Tryd.ntmps12
  go_upto_region 1 with fail
  generalize w.alloc (.cells #[.int .i64 9, .int .i64 0, .string ⟨#[]⟩, .int .i64 a] 30) = W0 at *
  go_wp2_with fail
  go_ret
  exact ⟨rfl, HB0.out⟩
set_option maxHeartbeats 6400000 in
theorem text_int (n : Int) (hn : Is64 n) (a : Int) (w : World) (hE : Env w) (hP : Pow w) : Calls Tryd.prog 12 #[.agg #[.int .i64 10, .int .i64 n, .string ⟨#[]⟩, .int .i64 a]] w fun e w' => e = .returned (.string ⟨(texM ⟨10, n, []⟩).toArray⟩) ∧ Below w.heap.size w w' := by
  have HB0 := Lib.hid (alloc_below w (.cells #[.int .i64 10, .int .i64 n, .string ⟨#[]⟩, .int .i64 a] 30))
  have hx9 := heap_alloc_new w (.cells #[.int .i64 10, .int .i64 n, .string ⟨#[]⟩, .int .i64 a] 30)
  have d0 := cell_of_row _ _ 0 _ _ _ hx9
  have d1 := cell_of_row _ _ 1 _ _ _ hx9
  have d2 := cell_of_row _ _ 2 _ _ _ hx9
  simp only [List.getElem?_toArray, List.getElem?_cons_zero, List.getElem?_cons_succ] at d0 d1 d2
  have HEW := Lib.hid hE
  have HPW := Lib.hid hP
  have hcl := text_len 10 n
  have HNT : Hid (∀ W, Below w.heap.size w W → Calls Tryd.prog 24 #[.int .i64 n, .int .i64 10] W fun e w' => e = .returned (.string ⟨(numText 10 n).toArray⟩) ∧ Below W.heap.size W w') := Lib.hid fun W hb => num_text n W (pow_below HPW.out hb) hn
  clear hn
  clear hx9 hE hP
  go_enter Tryd.func12, Tryd.ntmps12
  go_upto_region 1 with fail
  generalize w.alloc (.cells #[.int .i64 10, .int .i64 n, .string ⟨#[]⟩, .int .i64 a] 30) = W0 at *
  go_wp2_with (go_at_call 24; refine (HNT.out _ HB0.out).mono ?_; rintro e w5 ⟨rfl, hb5⟩; have HB5 := Lib.hid hb5; clear hb5)
  go_ret
  exact ⟨rfl, HB0.out.trans (HB5.out.mono HB0.out.size)⟩
set_option maxHeartbeats 6400000 in
theorem text_bool (n : Int) (a : Int) (w : World) (hE : Env w) (hP : Pow w) : Calls Tryd.prog 12 #[.agg #[.int .i64 11, .int .i64 n, .string ⟨#[]⟩, .int .i64 a]] w fun e w' => e = .returned (.string ⟨(texM ⟨11, n, []⟩).toArray⟩) ∧ Below w.heap.size w w' := by
  have HB0 := Lib.hid (alloc_below w (.cells #[.int .i64 11, .int .i64 n, .string ⟨#[]⟩, .int .i64 a] 30))
  have hx9 := heap_alloc_new w (.cells #[.int .i64 11, .int .i64 n, .string ⟨#[]⟩, .int .i64 a] 30)
  have d0 := cell_of_row _ _ 0 _ _ _ hx9
  have d1 := cell_of_row _ _ 1 _ _ _ hx9
  have d2 := cell_of_row _ _ 2 _ _ _ hx9
  simp only [List.getElem?_toArray, List.getElem?_cons_zero, List.getElem?_cons_succ] at d0 d1 d2
  have HEW := Lib.hid hE
  have HPW := Lib.hid hP
  have hTT := truth_text n
  have hte : texM ⟨11, n, []⟩ = if n = 0 then [35, 102] else [35, 116] := rfl
  rw [hte]
  generalize (if n = 0 then [35, 102] else [35, 116] : List UInt8) = R at hTT ⊢
  have HTT := Lib.hid hTT
  clear hTT hte
  clear hx9 hE hP
  go_enter Tryd.func12, Tryd.ntmps12
  go_upto_region 1 with fail
  generalize w.alloc (.cells #[.int .i64 11, .int .i64 n, .string ⟨#[]⟩, .int .i64 a] 30) = W0 at *
  go_wp2_with (go_at_call 25; refine (HTT.out _).mono ?_; rintro e w' ⟨rfl, rfl⟩)
  go_ret
  exact ⟨rfl, HB0.out⟩
set_option maxHeartbeats 6400000 in
theorem text_char (n : Nat) (hn : n < 128) (a : Int) (w : World) (hE : Env w) (hP : Pow w) : Calls Tryd.prog 12 #[.agg #[.int .i64 12, .int .i64 (n : Int), .string ⟨#[]⟩, .int .i64 a]] w fun e w' => e = .returned (.string ⟨(texM ⟨12, (n : Int), []⟩).toArray⟩) ∧ Below w.heap.size w w' := by
  have HB0 := Lib.hid (alloc_below w (.cells #[.int .i64 12, .int .i64 (n : Int), .string ⟨#[]⟩, .int .i64 a] 30))
  have hx9 := heap_alloc_new w (.cells #[.int .i64 12, .int .i64 (n : Int), .string ⟨#[]⟩, .int .i64 a] 30)
  have d0 := cell_of_row _ _ 0 _ _ _ hx9
  have d1 := cell_of_row _ _ 1 _ _ _ hx9
  have d2 := cell_of_row _ _ 2 _ _ _ hx9
  simp only [List.getElem?_toArray, List.getElem?_cons_zero, List.getElem?_cons_succ] at d0 d1 d2
  have HEW := Lib.hid hE
  have HPW := Lib.hid hP
  have hcl := chr_len ⟨n, hn⟩
  simp only at hcl
  have HCT : Hid (∀ W, Below w.heap.size w W → Calls Tryd.prog 26 #[.int .i64 (n : Int)] W fun e w' => e = .returned (.string ⟨(chrT n).toArray⟩) ∧ Below W.heap.size W w') := Lib.hid fun W hb => chr_text n W (HEW.out.below hb) hn
  clear hn
  clear hx9 hE hP
  go_enter Tryd.func12, Tryd.ntmps12
  go_upto_region 1 with fail
  generalize w.alloc (.cells #[.int .i64 12, .int .i64 (n : Int), .string ⟨#[]⟩, .int .i64 a] 30) = W0 at *
  go_wp2_with (go_at_call 26; refine (HCT.out _ HB0.out).mono ?_; rintro e w5 ⟨rfl, hb5⟩; have HB5 := Lib.hid hb5; clear hb5)
  go_ret
  exact ⟨ret_text (cat_str2 [35, 92] (chrT n)), HB0.out.trans (HB5.out.mono HB0.out.size)⟩
set_option maxHeartbeats 6400000 in
theorem text_str (s : ByteArray) (hs : s.size ≤ 5000) (hc : ∀ c ∈ tl s, c.toNat < 128) (a : Int) (w : World) (hE : Env w) (hP : Pow w) : Calls Tryd.prog 12 #[.agg #[.int .i64 13, .int .i64 0, .string s, .int .i64 a]] w fun e w' => e = .returned (.string ⟨(texM ⟨13, 0, tl s⟩).toArray⟩) ∧ Below w.heap.size w w' := by
  have HB0 := Lib.hid (alloc_below w (.cells #[.int .i64 13, .int .i64 0, .string s, .int .i64 a] 30))
  have hx9 := heap_alloc_new w (.cells #[.int .i64 13, .int .i64 0, .string s, .int .i64 a] 30)
  have d0 := cell_of_row _ _ 0 _ _ _ hx9
  have d1 := cell_of_row _ _ 1 _ _ _ hx9
  have d2 := cell_of_row _ _ 2 _ _ _ hx9
  simp only [List.getElem?_toArray, List.getElem?_cons_zero, List.getElem?_cons_succ] at d0 d1 d2
  have HEW := Lib.hid hE
  have HPW := Lib.hid hP
  have HQT : Hid (∀ W, Calls Tryd.prog 27 #[.string s] W fun e w' => e = .returned (.string ⟨(quoT (tl s)).toArray⟩) ∧ Below W.heap.size W w') := Lib.hid fun W => quote_any s W hs hc
  clear hs hc
  clear hx9 hE hP
  go_enter Tryd.func12, Tryd.ntmps12
  go_upto_region 1 with fail
  generalize w.alloc (.cells #[.int .i64 13, .int .i64 0, .string s, .int .i64 a] 30) = W0 at *
  go_wp2_with (go_at_call 27; refine (HQT.out _).mono ?_; rintro e w5 ⟨rfl, hb5⟩; have HB5 := Lib.hid hb5; clear hb5)
  go_ret
  exact ⟨rfl, HB0.out.trans (HB5.out.mono HB0.out.size)⟩
set_option maxHeartbeats 6400000 in
theorem text_sym (s : ByteArray) (a : Int) (w : World) (hE : Env w) (hP : Pow w) : Calls Tryd.prog 12 #[.agg #[.int .i64 14, .int .i64 0, .string s, .int .i64 a]] w fun e w' => e = .returned (.string ⟨(texM ⟨14, 0, tl s⟩).toArray⟩) ∧ Below w.heap.size w w' := by
  have HB0 := Lib.hid (alloc_below w (.cells #[.int .i64 14, .int .i64 0, .string s, .int .i64 a] 30))
  have hx9 := heap_alloc_new w (.cells #[.int .i64 14, .int .i64 0, .string s, .int .i64 a] 30)
  have d0 := cell_of_row _ _ 0 _ _ _ hx9
  have d1 := cell_of_row _ _ 1 _ _ _ hx9
  have d2 := cell_of_row _ _ 2 _ _ _ hx9
  simp only [List.getElem?_toArray, List.getElem?_cons_zero, List.getElem?_cons_succ] at d0 d1 d2
  have HEW := Lib.hid hE
  have HPW := Lib.hid hP
  clear hx9 hE hP
  go_enter Tryd.func12, Tryd.ntmps12
  go_upto_region 1 with fail
  generalize w.alloc (.cells #[.int .i64 14, .int .i64 0, .string s, .int .i64 a] 30) = W0 at *
  go_wp2_with fail
  go_ret
  exact ⟨rfl, HB0.out⟩
set_option maxHeartbeats 6400000 in
theorem text_lab (n : Int) (hn : Is64 n) (a : Int) (w : World) (hE : Env w) (hP : Pow w) : Calls Tryd.prog 12 #[.agg #[.int .i64 15, .int .i64 n, .string ⟨#[]⟩, .int .i64 a]] w fun e w' => e = .returned (.string ⟨(texM ⟨15, n, []⟩).toArray⟩) ∧ Below w.heap.size w w' := by
  have HB0 := Lib.hid (alloc_below w (.cells #[.int .i64 15, .int .i64 n, .string ⟨#[]⟩, .int .i64 a] 30))
  have hx9 := heap_alloc_new w (.cells #[.int .i64 15, .int .i64 n, .string ⟨#[]⟩, .int .i64 a] 30)
  have d0 := cell_of_row _ _ 0 _ _ _ hx9
  have d1 := cell_of_row _ _ 1 _ _ _ hx9
  have d2 := cell_of_row _ _ 2 _ _ _ hx9
  simp only [List.getElem?_toArray, List.getElem?_cons_zero, List.getElem?_cons_succ] at d0 d1 d2
  have HEW := Lib.hid hE
  have HPW := Lib.hid hP
  have hcl := text_len 10 n
  have HNT : Hid (∀ W, Below w.heap.size w W → Calls Tryd.prog 24 #[.int .i64 n, .int .i64 10] W fun e w' => e = .returned (.string ⟨(numText 10 n).toArray⟩) ∧ Below W.heap.size W w') := Lib.hid fun W hb => num_text n W (pow_below HPW.out hb) hn
  clear hn
  clear hx9 hE hP
  go_enter Tryd.func12, Tryd.ntmps12
  go_upto_region 1 with fail
  generalize w.alloc (.cells #[.int .i64 15, .int .i64 n, .string ⟨#[]⟩, .int .i64 a] 30) = W0 at *
  go_wp2_with (go_at_call 24; refine (HNT.out _ HB0.out).mono ?_; rintro e w5 ⟨rfl, hb5⟩; have HB5 := Lib.hid hb5; clear hb5)
  go_ret
  exact ⟨ret_text (cat_str3 [35] (numText 10 n) [61]), HB0.out.trans (HB5.out.mono HB0.out.size)⟩
set_option maxHeartbeats 6400000 in
theorem text_again (n : Int) (hn : Is64 n) (a : Int) (w : World) (hE : Env w) (hP : Pow w) : Calls Tryd.prog 12 #[.agg #[.int .i64 16, .int .i64 n, .string ⟨#[]⟩, .int .i64 a]] w fun e w' => e = .returned (.string ⟨(texM ⟨16, n, []⟩).toArray⟩) ∧ Below w.heap.size w w' := by
  have HB0 := Lib.hid (alloc_below w (.cells #[.int .i64 16, .int .i64 n, .string ⟨#[]⟩, .int .i64 a] 30))
  have hx9 := heap_alloc_new w (.cells #[.int .i64 16, .int .i64 n, .string ⟨#[]⟩, .int .i64 a] 30)
  have d0 := cell_of_row _ _ 0 _ _ _ hx9
  have d1 := cell_of_row _ _ 1 _ _ _ hx9
  have d2 := cell_of_row _ _ 2 _ _ _ hx9
  simp only [List.getElem?_toArray, List.getElem?_cons_zero, List.getElem?_cons_succ] at d0 d1 d2
  have HEW := Lib.hid hE
  have HPW := Lib.hid hP
  have hcl := text_len 10 n
  have HNT : Hid (∀ W, Below w.heap.size w W → Calls Tryd.prog 24 #[.int .i64 n, .int .i64 10] W fun e w' => e = .returned (.string ⟨(numText 10 n).toArray⟩) ∧ Below W.heap.size W w') := Lib.hid fun W hb => num_text n W (pow_below HPW.out hb) hn
  clear hn
  clear hx9 hE hP
  go_enter Tryd.func12, Tryd.ntmps12
  go_upto_region 1 with fail
  generalize w.alloc (.cells #[.int .i64 16, .int .i64 n, .string ⟨#[]⟩, .int .i64 a] 30) = W0 at *
  go_wp2_with (go_at_call 24; refine (HNT.out _ HB0.out).mono ?_; rintro e w5 ⟨rfl, hb5⟩; have HB5 := Lib.hid hb5; clear hb5)
  go_ret
  exact ⟨ret_text (cat_str3 [35] (numText 10 n) [35]), HB0.out.trans (HB5.out.mono HB0.out.size)⟩
theorem text_any {t : Tk} (hg : Gd t) (hs : t.s.length ≤ 5000) (a : Int) (w : World) (hE : Env w) (hP : Pow w) : Calls Tryd.prog 12 #[tkV t a] w fun e w' => e = .returned (.string ⟨(texM t).toArray⟩) ∧ Below w.heap.size w w' := by
  cases hg with
  | mark k hk => rw [mark_text ⟨k, hk⟩]; exact text_mark k hk _ _ _ w hE
  | dot => exact text_dot a w hE hP
  | int n hn => exact text_int n hn a w hE hP
  | bool b hb => exact text_bool b a w hE hP
  | char n hn => exact text_char n hn a w hE hP
  | str s hc => exact text_str ⟨s.toArray⟩ (by show s.toArray.size ≤ 5000; rw [List.size_toArray]; exact hs) hc a w hE hP
  | sym s h => exact text_sym ⟨s.toArray⟩ a w hE hP
  | lab n hn => exact text_lab n ⟨by omega, by omega⟩ a w hE hP
  | again n hn => exact text_again n ⟨by omega, by omega⟩ a w hE hP
end Go.Proofs.YtjpbbooeihdnfaaDoor
