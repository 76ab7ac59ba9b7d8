/- takePart: a part that is read. -/
import Derived.Test.YtpdihgmgcamgkaaTakeK
import Derived.Test.YtpdihgmgcamgkaaEncode
set_option linter.unusedSimpArgs false
set_option maxRecDepth 20000
namespace Go.Proofs.Ytpdihgmgcamgkaa
open Go.RowKit Go.Shelf

/-- What takePart leaves. -/
def TpR (w w' : World) (e : Ending) (g d : Nat) (p : Pt) (E rest : List Nat) (cut : Bool) : Prop :=
  ∃ (k n : Int) (s : ByteArray) (E0 f : Int) (T' : List Nat), e = .returned (.tuple #[.agg #[.int .i64 k, .int .i64 n, .string s], .int .i64 E0]) ∧ Rd w' g d T' f ∧ Only g w w' ∧
    ((E0 = 0 ∧ f = 0 ∧ (⟨k, n, s⟩ : Pt) = p ∧ Fd T' E rest cut) ∨ (E0 = 3 ∧ f = 3 ∧ cut = true))
/-- The three blocks that takePart lays, amid it. -/
structure Tk (w W : World) (g d : Nat) (T : List Nat) (f : Int) (b6 b7 : Nat) (k n : Int) (s : ByteArray) (lo hi : Int) : Prop where
  rd : Rd W g d T f
  only : Only g w W
  x4 : W.heap[w.heap.size]? = some (.cells #[.int .i64 0, .int .i64 0, .string ⟨#[]⟩] 54 (0, 0))
  x6 : W.heap[b6]? = some (.cells #[.int .i64 k, .int .i64 n, .string s] 54 (0, 0))
  x7 : W.heap[b7]? = some (.cells #[.int .i64 lo, .int .i64 hi] 60 (0, 0))
  n6 : w.heap.size < b6
  n7 : b6 < b7
  gl : g < w.heap.size
theorem Tk.below {w W W' : World} {g d : Nat} {T : List Nat} {f : Int} {b6 b7 : Nat} {k n : Int} {s : ByteArray} {lo hi : Int} (h : Tk w W g d T f b6 b7 k n s lo hi) (hb : Below W.heap.size W W') : Tk w W' g d T f b6 b7 k n s lo hi :=
  ⟨h.rd.below hb, h.only.trans (Only.of_below hb), (hb.block _ (lt_of_block h.x4)).trans h.x4, (hb.block _ (lt_of_block h.x6)).trans h.x6, (hb.block _ (lt_of_block h.x7)).trans h.x7, h.n6, h.n7, h.gl⟩
theorem Tk.went {w W W' : World} {g d : Nat} {T T' : List Nat} {f f' : Int} {b6 b7 : Nat} {k n : Int} {s : ByteArray} {lo hi : Int} (h : Tk w W g d T f b6 b7 k n s lo hi) (hw : Went W W' g d T' f') : Tk w W' g d T' f' b6 b7 k n s lo hi :=
  ⟨hw.rd, h.only.trans hw.only, hw.only.block_ne h.x4 (by have := h.gl; omega), hw.only.block_ne h.x6 (by have := h.gl; have := h.n6; omega), hw.only.block_ne h.x7 (by have := h.gl; have := h.n6; have := h.n7; omega), h.n6, h.n7, h.gl⟩
theorem Rd.set_ {w : World} {g d b i : Nat} {T : List Nat} {f : Int} {v : Value} {t : TypeId} {cs : Array Value} (h : Rd w g d T f) (hb : w.heap[b]? = some (.cells cs t (0, 0))) (_ht : t ≠ 5) (hg : b ≠ g)
    (hd : T ≠ [] → ∀ o x, w.cell? ⟨b, o, none⟩ = some (.int .u8 x) → False) : Rd (w.setCell ⟨b, i, none⟩ v) g d T f := by
  obtain ⟨p, c, h0, hh, hB, h1, h2, h3, h4⟩ := h
  refine ⟨p, c, h0, (Below.heap_setCell _ _ _ _ (Ne.symm hg)).trans hh, ⟨hB.len, hB.dig, fun hn => ?_⟩, h1, h2, h3, h4⟩
  obtain ⟨b', o, e, hc⟩ := hB.inn hn
  refine ⟨b', o, e, fun j hj => (set_other _ _ _ _ _ ?_).trans (hc j hj)⟩
  rintro rfl
  exact hd (by intro e; subst e; simp at hn) _ _ (hc j hj)
/-- A part's cell that is set. -/
theorem Tk.setN {w W : World} {g d : Nat} {T : List Nat} {f : Int} {b6 b7 : Nat} {k n z : Int} {s : ByteArray} {lo hi : Int} (h : Tk w W g d T f b6 b7 k n s lo hi) : Tk w (W.setCell ⟨b6, 1, none⟩ (.int .i64 z)) g d T f b6 b7 k z s lo hi := by
  have hg := h.gl
  have h6 := h.n6
  have h7 := h.n7
  have hs := lt_of_block h.x6
  refine ⟨h.rd.set_ h.x6 (by decide) (by omega) (fun _ o x hc => ?_), ?_, ?_, heap_setCell_same _ _ 1 _ _ _ h.x6, ?_, h6, h7, hg⟩
  · rw [cell_of_row _ _ o _ _ _ h.x6] at hc
    match o, hc with
    | 0, hc => simp at hc
    | 1, hc => simp at hc
    | 2, hc => simp at hc
    | o + 3, hc => simp at hc
  · have h0 := Only.setCell b6 1 (.int .i64 z) W
    exact ⟨h0.os.trans h.only.os, h0.tape.trans h.only.tape, h0.output.trans h.only.output, Nat.le_trans h.only.size h0.size, fun i hi hne => (h0.block i (Nat.lt_of_lt_of_le hi h.only.size) (by omega)).trans (h.only.block i hi hne)⟩
  · exact (Below.heap_setCell _ _ _ _ (by show w.heap.size ≠ b6; omega)).trans h.x4
  · exact (Below.heap_setCell _ _ _ _ (by show b7 ≠ b6; omega)).trans h.x7
theorem Tk.setS {w W : World} {g d : Nat} {T : List Nat} {f : Int} {b6 b7 : Nat} {k n : Int} {s S : ByteArray} {lo hi : Int} (h : Tk w W g d T f b6 b7 k n s lo hi) : Tk w (W.setCell ⟨b6, 2, none⟩ (.string S)) g d T f b6 b7 k n S lo hi := by
  have hg := h.gl
  have h6 := h.n6
  have h7 := h.n7
  have hs := lt_of_block h.x6
  refine ⟨h.rd.set_ h.x6 (by decide) (by omega) (fun _ o x hc => ?_), ?_, ?_, heap_setCell_same _ _ 2 _ _ _ h.x6, ?_, h6, h7, hg⟩
  · rw [cell_of_row _ _ o _ _ _ h.x6] at hc
    match o, hc with
    | 0, hc => simp at hc
    | 1, hc => simp at hc
    | 2, hc => simp at hc
    | o + 3, hc => simp at hc
  · have h0 := Only.setCell b6 2 (.string S) W
    exact ⟨h0.os.trans h.only.os, h0.tape.trans h.only.tape, h0.output.trans h.only.output, Nat.le_trans h.only.size h0.size, fun i hi hne => (h0.block i (Nat.lt_of_lt_of_le hi h.only.size) (by omega)).trans (h.only.block i hi hne)⟩
  · exact (Below.heap_setCell _ _ _ _ (by show w.heap.size ≠ b6; omega)).trans h.x4
  · exact (Below.heap_setCell _ _ _ _ (by show b7 ≠ b6; omega)).trans h.x7
/-- The return. -/
theorem Tk.ret {w W : World} {g d : Nat} {T : List Nat} {f : Int} {b6 b7 : Nat} {k n : Int} {s : ByteArray} {lo hi : Int} (h : Tk w W g d T f b6 b7 k n s lo hi) (k2 n2 : Int) (s2 : ByteArray) (E0 : Int) (p : Pt) (E rest : List Nat) (cut : Bool)
    (A : Array Value) (h4 : A[4]? = some (.pointer (some ⟨w.heap.size, 0, none⟩))) (h5 : A[5]? = some (.int .i64 E0)) (ht : (E0 = 0 ∧ f = 0 ∧ (⟨k2, n2, s2⟩ : Pt) = p ∧ Fd T E rest cut) ∨ (E0 = 3 ∧ f = 3 ∧ cut = true)) :
    bodyPost Try.prog Try.f33 (fun e w' => TpR w w' e g d p E rest cut) Exit.ret ⟨A, []⟩ (((W.setCell ⟨w.heap.size, 0, none⟩ (.int .i64 k2)).setCell ⟨w.heap.size, 1, none⟩ (.int .i64 n2)).setCell ⟨w.heap.size, 2, none⟩ (.string s2)) := by
  have hF := three_set W w.heap.size _ _ _ _ (.int .i64 k2) (.int .i64 n2) (.string s2) h.x4
  have hg := h.gl
  have hd : ∀ (V : World) (a b c : Value), V.heap[w.heap.size]? = some (.cells #[a, b, c] 54 (0, 0)) → (∀ x, a ≠ .int .u8 x ∧ b ≠ .int .u8 x ∧ c ≠ .int .u8 x) → ∀ o x, V.cell? ⟨w.heap.size, o, none⟩ = some (.int .u8 x) → False := fun V a b c hV hne o x hc => by
    rw [cell_of_row _ _ o _ _ _ hV] at hc
    match o, hc with
    | 0, hc => simp at hc; exact (hne x).1 hc
    | 1, hc => simp at hc; exact (hne x).2.1 hc
    | 2, hc => simp at hc; exact (hne x).2.2 hc
    | o + 3, hc => simp at hc
  have x1 := heap_setCell_same W w.heap.size 0 _ _ (.int .i64 k2) h.x4
  have x2 := heap_setCell_same _ w.heap.size 1 _ _ (.int .i64 n2) x1
  have r1 := h.rd.set_ (i := 0) (v := .int .i64 k2) h.x4 (by decide) (by omega) (fun _ => hd _ _ _ _ h.x4 (by simp))
  have r2 := r1.set_ (i := 1) (v := .int .i64 n2) x1 (by decide) (by omega) (fun _ => hd _ _ _ _ x1 (by simp))
  have r3 := r2.set_ (i := 2) (v := .string s2) x2 (by decide) (by omega) (fun _ => hd _ _ _ _ x2 (by simp))
  have hO : Only g w (((W.setCell ⟨w.heap.size, 0, none⟩ (.int .i64 k2)).setCell ⟨w.heap.size, 1, none⟩ (.int .i64 n2)).setCell ⟨w.heap.size, 2, none⟩ (.string s2)) := by
    have a1 := Only.setCell w.heap.size 0 (.int .i64 k2) W
    have a2 := Only.setCell w.heap.size 1 (.int .i64 n2) (W.setCell ⟨w.heap.size, 0, none⟩ (.int .i64 k2))
    have a3 := Only.setCell w.heap.size 2 (.string s2) ((W.setCell ⟨w.heap.size, 0, none⟩ (.int .i64 k2)).setCell ⟨w.heap.size, 1, none⟩ (.int .i64 n2))
    have h0 := (a1.trans a2).trans a3
    exact ⟨h0.os.trans h.only.os, h0.tape.trans h.only.tape, h0.output.trans h.only.output, Nat.le_trans h.only.size h0.size, fun i hi hne => (h0.block i (Nat.lt_of_lt_of_le hi h.only.size) (by omega)).trans (h.only.block i hi hne)⟩
  generalize (((W.setCell ⟨w.heap.size, 0, none⟩ (.int .i64 k2)).setCell ⟨w.heap.size, 1, none⟩ (.int .i64 n2)).setCell ⟨w.heap.size, 2, none⟩ (.string s2)) = V at *
  have z0 := cell_of_row _ _ 0 _ _ _ hF
  have z1 := cell_of_row _ _ 1 _ _ _ hF
  have z2 := cell_of_row _ _ 2 _ _ _ hF
  simp at z0 z1 z2
  exact bodyPost_ret (v := .tuple #[.agg #[.int .i64 k2, .int .i64 n2, .string s2], .int .i64 E0]) (by simp [results, Try.results33, go_sem, h4, h5, z0, z1, z2]) rfl ⟨k2, n2, s2, E0, f, T, rfl, r3, hO, ht⟩
set_option maxHeartbeats 6400000 in
theorem takePart_any (g d : Nat) (r : Rl) (v : Value) (p : Pt) (T E rest : List Nat) (cut : Bool) (w : World) (HR : Hid (Rd w g d T 0)) (hv : RlV w v r) (hl : E.length + rest.length ≤ 1000000000) (hB : PtB p)
    (hok : ((r.ap p.k).ok && mayBeM p (r.ap p.k).lo (r.ap p.k).hi) = true) (hT : Fd T (ptB p ++ E) rest cut) :
    Calls Try.prog 33 #[.pointer (some ⟨g, 0, none⟩), v] w fun e w' => TpR w w' e g d p E rest cut := by
  obtain ⟨ok1, ok2, k0, k8, ks, k4, kn, kc⟩ := part_ok hok
  have HGL := Lib.hid HR.out.lt
  have HN0 := Lib.hid hB.n.1
  have HN1 := Lib.hid hB.n.2
  have hptb : ptB p = [p.k.toNat] ++ (ptB p).drop 1 := by
    unfold ptB
    rw [show (p.k % 256).toNat = p.k.toNat by omega]
    rfl
  have HPT : Hid (Fd T ([p.k.toNat] ++ ((ptB p).drop 1 ++ E)) rest cut) := Lib.hid (by rw [← List.append_assoc, ← hptb]; exact hT)
  have HL : Hid (((ptB p).drop 1).length ≤ 200) := Lib.hid (by
    have := ptB_len hB (if h4 : p.k = 4 then k4 h4 else by rw [ks h4]; decide)
    rw [List.length_drop]; omega)
  have HC : Hid (p.k = 1 ∨ p.k = 3 ∨ p.k = 5 ∨ p.k = 8 → (ptB p).drop 1 = numB p.n.toNat) := Lib.hid (fun h => by rw [ptB_count h, show cnt p.n = p.n.toNat by unfold cnt; omega]; rfl)
  have HW : Hid (p.k = 2 → (ptB p).drop 1 = numB (zig p.n)) := Lib.hid (fun h => by rw [ptB_whole h]; rfl)
  have HS : Hid (p.k = 4 → (ptB p).drop 1 = numB (nums p.s).length ++ nums p.s) := Lib.hid (fun h => by rw [ptB_sym h, nums_len]; rfl)
  have HBR : Hid (p.k ≠ 1 → p.k ≠ 3 → p.k ≠ 5 → p.k ≠ 8 → p.k ≠ 2 → p.k ≠ 4 → (ptB p).drop 1 = []) := Lib.hid (fun a b c d e f => by rw [ptB_bare a b c d e f]; rfl)
  have HOK1 := Lib.hid ok1
  have HOK2 := Lib.hid ok2
  have KS := Lib.hid ks
  have K4 := Lib.hid k4
  have KN := Lib.hid kn
  have KC := Lib.hid kc
  have HV := Lib.hid hv
  clear hv hT hok hptb ok1 ok2 ks k4 kn kc hB
  obtain ⟨k, n, s⟩ := p
  simp only at HPT HC HW HS HBR HOK1 HOK2 KS K4 KN KC HN0 HN1 k0 k8 HL ⊢
  have hk0 := k0
  generalize (ptB ⟨k, n, s⟩).drop 1 = PB at *
  go_enter Try.func33, Try.ntmps33
  obtain ⟨f5, cs5, rfl, _, _⟩ := rule_one r v 0 w HV.out
  go_wp2_with fail
  have hb1 : Below w.heap.size w (w.alloc (.cells #[.int .i64 0, .int .i64 0, .string ⟨#[]⟩] 54)) := (Below.refl _ _).alloc (Nat.le_refl _) _
  refine (fbyte g d k.toNat T _ rest cut _ (Lib.hid (HR.out.below hb1)) HPT.out).mono ?_
  rintro e w1 ⟨y, f, T1, rfl, hy, hF⟩
  have HF := Lib.hid hF.tell
  have HRD1 := Lib.hid hF.went.rd
  have HV1 := Lib.hid ((HV.out.below hb1).only (HR.out.below hb1) hF.went.only)
  have HX4 : Hid (w1.heap[w.heap.size]? = some (.cells #[.int .i64 0, .int .i64 0, .string ⟨#[]⟩] 54 (0, 0))) := Lib.hid (hF.went.only.block_ne (heap_alloc_new w _) (by have := HGL.out; omega))
  have HO1 := Lib.hid ((Only.of_below (g := g) hb1).trans hF.went.only)
  have hyw : IntKind.i64.wrap (y : Int) = (y : Int) := by rw [IntKind.wrap_i64]; omega
  clear hF hb1
  have HV2 : Hid (RlV (w1.alloc (.cells #[.int .i64 (y : Int), .int .i64 0, .string ⟨#[]⟩] 54)) (.func (.func f5) #[] cs5) r) := Lib.hid (HV1.out.below ((Below.refl _ _).alloc (Nat.le_refl _) _))
  obtain ⟨f6, cs6, e6, eg5, hC5⟩ := rule_one r _ (y : Int) _ HV2.out
  obtain ⟨rfl, rfl⟩ : f5 = f6 ∧ cs5 = cs6 := by simp at e6; exact ⟨e6.1, e6.2⟩
  have HC5 := Lib.hid hC5
  clear hC5 e6
  go_wp2_with (go_at_fn f5; refine (HC5.out _ (Below.refl _ _)).mono ?_; rintro e w3 ⟨rfl, hb3⟩; have HB3 := Lib.hid hb3; clear hb3)
  have HTK : Hid (Tk w (w3.alloc (.cells #[.int .i64 (r.ap (y : Int)).lo, .int .i64 (r.ap (y : Int)).hi] 60)) g d T1 f w1.heap.size w3.heap.size (y : Int) 0 ⟨#[]⟩ (r.ap (y : Int)).lo (r.ap (y : Int)).hi) := Lib.hid (by
    have a1 : Below w1.heap.size w1 (w1.alloc (.cells #[.int .i64 (y : Int), .int .i64 0, .string ⟨#[]⟩] 54)) := (Below.refl _ _).alloc (Nat.le_refl _) _
    have a3 := a1.trans (HB3.out.mono a1.size)
    have x6 := (HB3.out.block w1.heap.size (by simp)).trans (heap_alloc_new w1 _)
    have a4 := a3.alloc a3.size (.cells #[.int .i64 (r.ap (y : Int)).lo, .int .i64 (r.ap (y : Int)).hi] 60)
    exact ⟨HRD1.out.below a4, HO1.out.trans (Only.of_below a4), (a4.block _ (lt_of_block HX4.out)).trans HX4.out, (Below.heap_alloc _ _ _ (lt_of_block x6)).trans x6, heap_alloc_new w3 _, lt_of_block HX4.out, lt_of_block x6, HGL.out⟩)
  clear HRD1 HO1 HX4 HB3 HC5 HV1 HV2 HV eg5
  generalize w3.alloc (.cells #[.int .i64 (r.ap (y : Int)).lo, .int .i64 (r.ap (y : Int)).hi] 60) = W at HTK ⊢
  generalize w3.heap.size = b7 at HTK ⊢
  generalize w1.heap.size = b6 at HTK ⊢
  refine (judge_any g d T1 f _ W HTK.out.rd).mono ?_
  rintro e w4 ⟨rfl, rfl⟩
  have x40 := cell_of_row _ _ 0 _ _ _ HTK.out.x4
  have x41 := cell_of_row _ _ 1 _ _ _ HTK.out.x4
  have x42 := cell_of_row _ _ 2 _ _ _ HTK.out.x4
  have f40 := frozen_of_row _ _ 0 _ _ HTK.out.x4
  have f41 := frozen_of_row _ _ 1 _ _ HTK.out.x4
  have f42 := frozen_of_row _ _ 2 _ _ HTK.out.x4
  have l0 := cell_of_row _ _ 0 _ _ _ HTK.out.x7
  have l1 := cell_of_row _ _ 1 _ _ _ HTK.out.x7
  have m0 := cell_of_row _ _ 0 _ _ _ HTK.out.x6
  have m1 := cell_of_row _ _ 1 _ _ _ HTK.out.x6
  have m2 := cell_of_row _ _ 2 _ _ _ HTK.out.x6
  simp at x40 x41 x42 l0 l1 m0 m1 m2
  rcases HF.out with ⟨e0, e1, e2⟩ | ⟨e0, e1⟩
  · subst e0
    have hyk : (y : Int) = k := by omega
    have HT1 := Lib.hid e2
    clear e1 e2 HF
    rw [hyk] at l0 l1 m0 hyw HTK ⊢
    rw [HOK1.out, show judgeM 0 true = 0 by decide]
    clear hyk hy HPT
    have HMB := Lib.hid (fun z S u => mayBe_any ⟨k, z, S⟩ (r.ap k).lo (r.ap k).hi u)
    unfold Pt.val at HMB
    generalize hhi : (r.ap k).hi = hi at *
    generalize hlo : (r.ap k).lo = lo at *
    have HHI := Lib.hid hhi
    have HLT : Hid (T1.length ≤ 1099511627776) := Lib.hid (by have h1 := HT1.out.len; have h2 := HL.out; rw [List.length_append] at h1; omega)
    clear hhi hlo
    by_cases hk : k = 1 ∨ k = 3 ∨ k = 5 ∨ k = 8
    · obtain ⟨q1, q2, q3⟩ := KC.out hk
      have HNN : Hid ((n.toNat : Int) = n) := Lib.hid (by omega)
      have HF2 : Hid (Fd T1 (numB n.toNat ++ E) rest cut) := Lib.hid (by rw [← HC.out hk]; exact HT1.out)
      have HSE : Hid (s = ⟨#[]⟩) := Lib.hid (KS.out (by omega))
      clear HC HW HS HBR KS K4 KN KC HT1
      rcases hk with rfl | rfl | rfl | rfl
      all_goals
        go_wp2_with fail
        refine (fcount g d n.toNat hi T1 E rest cut _ (Lib.hid HTK.out.rd) HLT.out (by rw [HNN.out]; omega) (by omega) HF2.out).mono ?_
        rintro e w5 ⟨z, f5', T2, rfl, hF2⟩
        have HTKa := Lib.hid (HTK.out.went hF2.went)
        have HT5 : Hid ((f5' = 0 ∧ z = n ∧ (⟨#[]⟩ : ByteArray) = s ∧ Fd T2 E rest cut) ∨ (f5' = 3 ∧ cut = true)) := Lib.hid (hF2.tell.imp (fun ⟨a, b, c⟩ => ⟨a, by rw [b, HNN.out], HSE.out.symm, c⟩) id)
        have HTK5 := Lib.hid (HTKa.out.setN (z := z))
        have n1 := cell_of_row _ _ 1 _ _ _ HTKa.out.x6
        have nf := frozen_of_row _ _ 1 _ _ HTKa.out.x6
        simp at n1
        clear hF2 x40 x41 x42 f40 f41 f42 l0 l1 m0 m1 m2
        go_upto_region 16 with fail
        generalize w5.setCell ⟨b6, 1, none⟩ (.int .i64 z) = w6 at HTK5 ⊢
        clear n1 nf HTKa HTK
        have HTK6 := Lib.hid HTK5.out
        have m0 := cell_of_row _ _ 0 _ _ _ HTK5.out.x6
        have m1 := cell_of_row _ _ 1 _ _ _ HTK5.out.x6
        have m2 := cell_of_row _ _ 2 _ _ _ HTK5.out.x6
        have l0 := cell_of_row _ _ 0 _ _ _ HTK5.out.x7
        have l1 := cell_of_row _ _ 1 _ _ _ HTK5.out.x7
        simp at m0 m1 m2 l0 l1
        go_wp2_with fail
        refine (HMB.out _ _ _).mono ?_
        rintro e w8 ⟨rfl, hb8⟩
        have HTK8 := Lib.hid (HTK5.out.below hb8)
        clear hb8 m0 m1 m2 l0 l1
        have x40 := cell_of_row _ _ 0 _ _ _ HTK8.out.x4
        have x41 := cell_of_row _ _ 1 _ _ _ HTK8.out.x4
        have x42 := cell_of_row _ _ 2 _ _ _ HTK8.out.x4
        have f40 := frozen_of_row _ _ 0 _ _ HTK8.out.x4
        have f41 := frozen_of_row _ _ 1 _ _ HTK8.out.x4
        have f42 := frozen_of_row _ _ 2 _ _ HTK8.out.x4
        have m0 := cell_of_row _ _ 0 _ _ _ HTK8.out.x6
        have m1 := cell_of_row _ _ 1 _ _ _ HTK8.out.x6
        have m2 := cell_of_row _ _ 2 _ _ _ HTK8.out.x6
        simp at m0 m1 m2 x40 x41 x42
        go_wp2_with fail
        refine (judge_any g d _ _ _ _ HTK8.out.rd).mono ?_
        rintro e w9 ⟨rfl, rfl⟩
        rcases HT5.out with ⟨e0, e1, e3, e2⟩ | ⟨e0, e1⟩
        · subst e0
          subst e1
          subst e3
          rw [HOK2.out, show judgeM 0 true = 0 by decide]
          have HE2 := Lib.hid e2
          clear e2
          go_wp2_with fail
          exact HTK8.out.ret _ _ _ 0 _ E rest cut _ rfl rfl (.inl ⟨rfl, rfl, rfl, HE2.out⟩)
        · subst e0
          rw [show ∀ b, judgeM 3 b = 3 by intro b; rfl]
          have HE2 := Lib.hid e1
          clear e1
          go_wp2_with fail
          exact HTK8.out.ret 0 0 ⟨#[]⟩ 3 _ E rest cut _ rfl rfl (.inr ⟨rfl, rfl, HE2.out⟩)
    · have g1 : (k == 1) = false := beq_eq_false_iff_ne.2 (by omega)
      have g3 : (k == 3) = false := beq_eq_false_iff_ne.2 (by omega)
      have g5 : (k == 5) = false := beq_eq_false_iff_ne.2 (by omega)
      have g8 : (k == 8) = false := beq_eq_false_iff_ne.2 (by omega)
      by_cases h2 : k = 2
      · have HF2 : Hid (Fd T1 (numB (zig n) ++ E) rest cut) := Lib.hid (by rw [← HW.out h2]; exact HT1.out)
        have HSE : Hid (s = ⟨#[]⟩) := Lib.hid (KS.out (by omega))
        clear HC HW HS HBR KS K4 KN KC HT1 hk
        subst h2
        go_wp2_with fail
        refine (fwhole g d n T1 E rest cut _ (Lib.hid HTK.out.rd) HLT.out HN0.out HN1.out HF2.out).mono ?_
        rintro e w5 ⟨z, f5', T2, rfl, hF2⟩
        have HTKa := Lib.hid (HTK.out.went hF2.went)
        have HT5 : Hid ((f5' = 0 ∧ z = n ∧ (⟨#[]⟩ : ByteArray) = s ∧ Fd T2 E rest cut) ∨ (f5' = 3 ∧ cut = true)) := Lib.hid (hF2.tell.imp (fun ⟨a, b, c⟩ => ⟨a, b, HSE.out.symm, c⟩) id)
        have HTK5 := Lib.hid (HTKa.out.setN (z := z))
        have n1 := cell_of_row _ _ 1 _ _ _ HTKa.out.x6
        have nf := frozen_of_row _ _ 1 _ _ HTKa.out.x6
        simp at n1
        clear hF2 x40 x41 x42 f40 f41 f42 l0 l1 m0 m1 m2
        go_upto_region 16 with fail
        generalize w5.setCell ⟨b6, 1, none⟩ (.int .i64 z) = w6 at HTK5 ⊢
        clear n1 nf HTKa HTK
        have HTK6 := Lib.hid HTK5.out
        have m0 := cell_of_row _ _ 0 _ _ _ HTK5.out.x6
        have m1 := cell_of_row _ _ 1 _ _ _ HTK5.out.x6
        have m2 := cell_of_row _ _ 2 _ _ _ HTK5.out.x6
        have l0 := cell_of_row _ _ 0 _ _ _ HTK5.out.x7
        have l1 := cell_of_row _ _ 1 _ _ _ HTK5.out.x7
        simp at m0 m1 m2 l0 l1
        go_wp2_with fail
        refine (HMB.out _ _ _).mono ?_
        rintro e w8 ⟨rfl, hb8⟩
        have HTK8 := Lib.hid (HTK5.out.below hb8)
        clear hb8 m0 m1 m2 l0 l1
        have x40 := cell_of_row _ _ 0 _ _ _ HTK8.out.x4
        have x41 := cell_of_row _ _ 1 _ _ _ HTK8.out.x4
        have x42 := cell_of_row _ _ 2 _ _ _ HTK8.out.x4
        have f40 := frozen_of_row _ _ 0 _ _ HTK8.out.x4
        have f41 := frozen_of_row _ _ 1 _ _ HTK8.out.x4
        have f42 := frozen_of_row _ _ 2 _ _ HTK8.out.x4
        have m0 := cell_of_row _ _ 0 _ _ _ HTK8.out.x6
        have m1 := cell_of_row _ _ 1 _ _ _ HTK8.out.x6
        have m2 := cell_of_row _ _ 2 _ _ _ HTK8.out.x6
        simp at m0 m1 m2 x40 x41 x42
        go_wp2_with fail
        refine (judge_any g d _ _ _ _ HTK8.out.rd).mono ?_
        rintro e w9 ⟨rfl, rfl⟩
        rcases HT5.out with ⟨e0, e1, e3, e2⟩ | ⟨e0, e1⟩
        · subst e0
          subst e1
          subst e3
          rw [HOK2.out, show judgeM 0 true = 0 by decide]
          have HE2 := Lib.hid e2
          clear e2
          go_wp2_with fail
          exact HTK8.out.ret _ _ _ 0 _ E rest cut _ rfl rfl (.inl ⟨rfl, rfl, rfl, HE2.out⟩)
        · subst e0
          rw [show ∀ b, judgeM 3 b = 3 by intro b; rfl]
          have HE2 := Lib.hid e1
          clear e1
          go_wp2_with fail
          exact HTK8.out.ret 0 0 ⟨#[]⟩ 3 _ E rest cut _ rfl rfl (.inr ⟨rfl, rfl, HE2.out⟩)
      · have g2 : (k == 2) = false := beq_eq_false_iff_ne.2 h2
        by_cases h4 : k = 4
        · have HF2 : Hid (Fd T1 (numB (nums s).length ++ nums s ++ E) rest cut) := Lib.hid (by rw [← HS.out h4]; exact HT1.out)
          have HNE : Hid (n = 0) := Lib.hid (KN.out (by omega) (by omega) (by omega) (by omega) (by omega))
          have H32 : Hid ((nums s).length ≤ 32) := Lib.hid (by rw [nums_len]; exact K4.out h4)
          clear HC HW HS HBR KS K4 KN KC HT1 hk h2
          subst h4
          go_wp2_with fail
          refine (fsized 32 (by omega) g d (nums s) T1 E rest cut _ (Lib.hid HTK.out.rd) HLT.out H32.out HF2.out).mono ?_
          rintro e w5 ⟨ps, ns, cs, ys, f5', T2, rfl, hys, hns, hF2⟩
          have hcv := hys.conv cs
          have HTKa := Lib.hid (HTK.out.went hF2.went)
          have HT5 : Hid ((f5' = 0 ∧ (0 : Int) = n ∧ strB ys = s ∧ Fd T2 E rest cut) ∨ (f5' = 3 ∧ cut = true)) := Lib.hid (hF2.tell.imp (fun ⟨a, b, c⟩ => ⟨a, HNE.out.symm, by rw [b, strB_nums], c⟩) id)
          have HTK5 := Lib.hid (HTKa.out.setS (S := strB ys))
          have n1 := cell_of_row _ _ 2 _ _ _ HTKa.out.x6
          have nf := frozen_of_row _ _ 2 _ _ HTKa.out.x6
          simp at n1
          clear hF2 hys x40 x41 x42 f40 f41 f42 l0 l1 m0 m1 m2
          go_upto_region 16 with fail
          generalize strB ys = S5 at *
          generalize w5.setCell ⟨b6, 2, none⟩ (.string S5) = w6 at HTK5 ⊢
          clear n1 nf hcv HTKa HTK
          have HTK6 := Lib.hid HTK5.out
          have m0 := cell_of_row _ _ 0 _ _ _ HTK5.out.x6
          have m1 := cell_of_row _ _ 1 _ _ _ HTK5.out.x6
          have m2 := cell_of_row _ _ 2 _ _ _ HTK5.out.x6
          have l0 := cell_of_row _ _ 0 _ _ _ HTK5.out.x7
          have l1 := cell_of_row _ _ 1 _ _ _ HTK5.out.x7
          simp at m0 m1 m2 l0 l1
          go_wp2_with fail
          refine (HMB.out _ _ _).mono ?_
          rintro e w8 ⟨rfl, hb8⟩
          have HTK8 := Lib.hid (HTK5.out.below hb8)
          clear hb8 m0 m1 m2 l0 l1
          have x40 := cell_of_row _ _ 0 _ _ _ HTK8.out.x4
          have x41 := cell_of_row _ _ 1 _ _ _ HTK8.out.x4
          have x42 := cell_of_row _ _ 2 _ _ _ HTK8.out.x4
          have f40 := frozen_of_row _ _ 0 _ _ HTK8.out.x4
          have f41 := frozen_of_row _ _ 1 _ _ HTK8.out.x4
          have f42 := frozen_of_row _ _ 2 _ _ HTK8.out.x4
          have m0 := cell_of_row _ _ 0 _ _ _ HTK8.out.x6
          have m1 := cell_of_row _ _ 1 _ _ _ HTK8.out.x6
          have m2 := cell_of_row _ _ 2 _ _ _ HTK8.out.x6
          simp at m0 m1 m2 x40 x41 x42
          go_wp2_with fail
          refine (judge_any g d _ _ _ _ HTK8.out.rd).mono ?_
          rintro e w9 ⟨rfl, rfl⟩
          rcases HT5.out with ⟨e0, e1, e3, e2⟩ | ⟨e0, e1⟩
          · subst e0
            subst e1
            subst e3
            rw [HOK2.out, show judgeM 0 true = 0 by decide]
            have HE2 := Lib.hid e2
            clear e2
            go_wp2_with fail
            exact HTK8.out.ret _ _ _ 0 _ E rest cut _ rfl rfl (.inl ⟨rfl, rfl, rfl, HE2.out⟩)
          · subst e0
            rw [show ∀ b, judgeM 3 b = 3 by intro b; rfl]
            have HE2 := Lib.hid e1
            clear e1
            go_wp2_with fail
            exact HTK8.out.ret 0 0 ⟨#[]⟩ 3 _ E rest cut _ rfl rfl (.inr ⟨rfl, rfl, HE2.out⟩)
        · have g4 : (k == 4) = false := beq_eq_false_iff_ne.2 h4
          have HF2 : Hid (Fd T1 E rest cut) := Lib.hid (by have h := HT1.out; rw [HBR.out (by omega) (by omega) (by omega) (by omega) h2 h4] at h; exact h)
          have HNE : Hid (n = 0) := Lib.hid (KN.out (by omega) (by omega) (by omega) (by omega) (by omega))
          have HSE : Hid (s = ⟨#[]⟩) := Lib.hid (KS.out h4)
          have HT5 : Hid ((((0 : Int) = 0) ∧ (0 : Int) = n ∧ (⟨#[]⟩ : ByteArray) = s ∧ Fd T1 E rest cut) ∨ ((0 : Int) = 3 ∧ cut = true)) := Lib.hid (.inl ⟨rfl, HNE.out.symm, HSE.out.symm, HF2.out⟩)
          have HTK5 := Lib.hid HTK.out
          clear HC HW HS HBR KS K4 KN KC HT1 hk h2 h4 x40 x41 x42 f40 f41 f42 l0 l1 m1 m2
          go_upto_region 16 with fail
          clear HTK m0
          have HTK6 := Lib.hid HTK5.out
          have m0 := cell_of_row _ _ 0 _ _ _ HTK5.out.x6
          have m1 := cell_of_row _ _ 1 _ _ _ HTK5.out.x6
          have m2 := cell_of_row _ _ 2 _ _ _ HTK5.out.x6
          have l0 := cell_of_row _ _ 0 _ _ _ HTK5.out.x7
          have l1 := cell_of_row _ _ 1 _ _ _ HTK5.out.x7
          simp at m0 m1 m2 l0 l1
          go_wp2_with fail
          refine (HMB.out _ _ _).mono ?_
          rintro e w8 ⟨rfl, hb8⟩
          have HTK8 := Lib.hid (HTK5.out.below hb8)
          clear hb8 m0 m1 m2 l0 l1
          have x40 := cell_of_row _ _ 0 _ _ _ HTK8.out.x4
          have x41 := cell_of_row _ _ 1 _ _ _ HTK8.out.x4
          have x42 := cell_of_row _ _ 2 _ _ _ HTK8.out.x4
          have f40 := frozen_of_row _ _ 0 _ _ HTK8.out.x4
          have f41 := frozen_of_row _ _ 1 _ _ HTK8.out.x4
          have f42 := frozen_of_row _ _ 2 _ _ HTK8.out.x4
          have m0 := cell_of_row _ _ 0 _ _ _ HTK8.out.x6
          have m1 := cell_of_row _ _ 1 _ _ _ HTK8.out.x6
          have m2 := cell_of_row _ _ 2 _ _ _ HTK8.out.x6
          simp at m0 m1 m2 x40 x41 x42
          go_wp2_with fail
          refine (judge_any g d _ _ _ _ HTK8.out.rd).mono ?_
          rintro e w9 ⟨rfl, rfl⟩
          rcases HT5.out with ⟨e0, e1, e3, e2⟩ | ⟨e0, e1⟩
          · clear e0
            subst e1
            subst e3
            rw [HOK2.out, show judgeM 0 true = 0 by decide]
            have HE2 := Lib.hid e2
            clear e2
            go_wp2_with fail
            exact HTK8.out.ret _ _ _ 0 _ E rest cut _ rfl rfl (.inl ⟨rfl, rfl, rfl, HE2.out⟩)
          · exact absurd e0 (by decide)
  · subst e0
    rw [show ∀ b, judgeM 3 b = 3 by intro b; rfl]
    have HE2 := Lib.hid e1
    clear e1 HF l0 l1 m0 m1 m2
    go_wp2_with fail
    exact HTK.out.ret 0 0 ⟨#[]⟩ 3 _ E rest cut _ rfl rfl (.inr ⟨rfl, rfl, HE2.out⟩)
end Go.Proofs.Ytpdihgmgcamgkaa
