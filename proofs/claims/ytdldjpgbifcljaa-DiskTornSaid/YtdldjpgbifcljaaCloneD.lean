/- A clone of a disk is one by itself. -/
import Derived.Test.YtdldjpgbifcljaaClone
namespace Go.Proofs.Ytdldjpgbifcljaa
open Go.RowKit

/-- A clone whose rows are being laid. -/
structure CR (w wr : World) (m : Dsk) (v0 v1 v2 : Value) : Prop where
  hd : wr.heap[w.heap.size]? = some (.cells #[v0, v1, v2, .int .i64 m.fuse, .bool m.down, .int .i64 (m.done : Int)] 63 (0, 0))
  below : Below w.heap.size w wr
theorem CR.le {w wr w2 : World} {m : Dsk} {v0 v1 v2 : Value} (h : CR w wr m v0 v1 v2) (hb : Below wr.heap.size wr w2) : CR w w2 m v0 v1 v2 := ⟨(hb.block _ (lt_of_block h.hd)).trans h.hd, h.below.trans (hb.mono h.below.size)⟩
theorem CR.set0 {w wr : World} {m : Dsk} {v0 v1 v2 : Value} (h : CR w wr m v0 v1 v2) (u : Value) : CR w (wr.setCell ⟨w.heap.size, 0, none⟩ u) m u v1 v2 := ⟨heap_setCell_same wr _ 0 _ _ u h.hd, h.below.setCell (Nat.le_refl _) u⟩
theorem CR.set1 {w wr : World} {m : Dsk} {v0 v1 v2 : Value} (h : CR w wr m v0 v1 v2) (u : Value) : CR w (wr.setCell ⟨w.heap.size, 1, none⟩ u) m v0 u v2 := ⟨heap_setCell_same wr _ 1 _ _ u h.hd, h.below.setCell (Nat.le_refl _) u⟩
theorem CR.set2 {w wr : World} {m : Dsk} {v0 v1 v2 : Value} (h : CR w wr m v0 v1 v2) (u : Value) : CR w (wr.setCell ⟨w.heap.size, 2, none⟩ u) m v0 v1 u := ⟨heap_setCell_same wr _ 2 _ _ u h.hd, h.below.setCell (Nat.le_refl _) u⟩
theorem CR.c (i : Nat) {w wr : World} {m : Dsk} {v0 v1 v2 : Value} (h : CR w wr m v0 v1 v2) : wr.cell? ⟨w.heap.size, i, none⟩ = #[v0, v1, v2, .int .i64 m.fuse, .bool m.down, .int .i64 (m.done : Int)][i]? ∧ wr.frozen? ⟨w.heap.size, i, none⟩ = false := ⟨cell_of_row wr _ i _ _ _ h.hd, frozen_of_row wr _ i _ _ h.hd⟩
/-- An owned row that is no disk's box stays while that is stored into. -/
theorem own_box {wr : World} {base E n k b i : Nat} {v u : Value} {xs : List Value} {cs : Array Value} (h : wr.ownsRow base E n v k xs) (hb : wr.heap[b]? = some (.cells cs 63 (0, 0))) (hE : E ≠ 63) : (wr.setCell ⟨b, i, none⟩ u).ownsRow base E n v k xs :=
  own_other h (fun j hj => heap_setCell_other _ _ _ _ (by obtain ⟨cur, hc⟩ := own_head h hj; exact ne_of_ty hc hb hE))
theorem clone_end {w wr : World} {bO cO bL cL gO dO gL dL : Nat} {vW vN : Value} {os ls : List Value} {ws : List Vw} {m : Dsk} {g : Nat} (h : Dk0 w g bO cO bL cL vW os ls ws m) (hC : CR w wr m (.slice (some ⟨gO, 0, none⟩) m.out.length dO) (.slice (some ⟨gL, 0, none⟩) m.out.length dL) vN)
    (hO : wr.ownsRow w.heap.size 59 1 (.slice (some ⟨gO, 0, none⟩) m.out.length dO) m.out.length os) (hL : wr.ownsRow w.heap.size 59 1 (.slice (some ⟨gL, 0, none⟩) m.out.length dL) m.out.length ls) (hW : wr.ownsRow w.heap.size 77 2 vN m.row.length (flat ws)) (hne : gO ≠ gL) (hnil : m.row = [] → vN = .slice none 0 0) :
    ∃ F2, Dk wr w.heap.size F2 m ∧ (∀ k ∈ F2, w.heap.size ≤ k) ∧ Below w.heap.size w wr := by
  refine ⟨foot w.heap.size gO gL vN, ⟨gO, dO, gL, dL, vN, os, ls, ws, ⟨hC.hd, base0 hO, base0 hL, base0 hW, h.so.below hC.below, h.sl.below hC.below, h.sw.below hC.below, hnil, hne, h.ok⟩, rfl⟩, fun k hk => ?_, hC.below⟩
  simp only [foot, List.mem_cons, Option.mem_toList] at hk
  rcases hk with rfl | rfl | rfl | hk
  · exact Nat.le_refl _
  · exact (hO.lt _ rfl).1
  · exact (hL.lt _ rfl).1
  · exact (hW.lt _ hk).1
theorem base1 {w : World} {b1 b2 E m n : Nat} {v : Value} {xs : List Value} (h : w.ownsRow b1 E m v n xs) (hb : b2 ≤ b1) : w.ownsRow b2 E m v n xs := by
  obtain ⟨h1, h2⟩ := h
  refine ⟨h1, ?_⟩
  rcases h2 with h2 | ⟨g, cap, cur, e, hbg, hr⟩
  · exact .inl h2
  · exact .inr ⟨g, cap, cur, e, Nat.le_trans hb hbg, hr⟩
theorem clone_ws {w : World} {q : Option Addr} {n c nr : Nat} {os : List Value} {row : List Wr} (h : w.ownsRow 0 77 2 (.slice q n c) nr os) (h1 : ∀ u ∈ os, u.oneCell' = true) (hm : nr ≤ 1099511627776) (hnil : row = [] → Value.slice q n c = .slice none 0 0) (hrow : row.length = nr := by rfl) :
    Calls Try.prog 41 #[.slice q n c] w fun e w' => (∃ q' n' c', e = .returned (.slice q' n' c') ∧ w'.ownsRow w.heap.size 77 2 (.slice q' n' c') nr os ∧ (row = [] → Value.slice q' n' c' = .slice none 0 0)) ∧ Below w.heap.size w w' := by
  rcases Nat.eq_zero_or_pos nr with e | e
  · have e2 : row = [] := List.length_eq_zero_iff.1 (by omega)
    have e3 := hnil e2
    rw [e3] at h ⊢
    refine (clone_waits_nil w).mono ?_
    rintro _ _ ⟨rfl, rfl⟩
    subst e
    have hos : os = [] := List.length_eq_zero_iff.1 (by have := h.1; omega)
    subst hos
    exact ⟨⟨_, _, _, rfl, World.ownsRow_nil _ _ _ _, fun _ => rfl⟩, Below.refl _ _⟩
  · obtain ⟨b, c', e2, _⟩ := h.form e
    simp only [Value.slice.injEq] at e2
    obtain ⟨rfl, rfl, rfl⟩ := e2
    refine (clone_waits b n c os w h h1 e hm).mono ?_
    rintro _ _ ⟨⟨b', c', rfl, hO⟩, hb⟩
    exact ⟨⟨_, _, _, rfl, hO, fun e3 => absurd e (by rw [← hrow, e3]; decide)⟩, hb⟩
set_option maxHeartbeats 1600000 in
theorem clone_disk {w : World} {g bO cO bL cL : Nat} {vW : Value} {os ls : List Value} {ws : List Vw} {m : Dsk} (h : Dk0 w g bO cO bL cL vW os ls ws m) (hn : 0 < m.out.length) (hl : m.out.length ≤ 1099511627776) (hr : m.row.length ≤ 1099511627776) :
    Calls Try.prog 24 #[.pointer (some ⟨g, 0, none⟩)] w fun e w' => ∃ g2 F2, e = .returned (.pointer (some ⟨g2, 0, none⟩)) ∧ Dk w' g2 F2 m ∧ (∀ k ∈ F2, w.heap.size ≤ k) ∧ Below w.heap.size w w' := by
  have HH := Lib.hid h
  have HW : Hid (vW = .slice none 0 0 ∧ m.row.length = 0 ∨ ∃ q c, vW = .slice (some ⟨q, 0, none⟩) m.row.length c ∧ 0 < m.row.length) := Lib.hid (by
    rcases Nat.eq_zero_or_pos m.row.length with e | e
    · exact .inl ⟨h.nil_ (List.length_eq_zero_iff.1 e), e⟩
    · obtain ⟨q, c, e2, _⟩ := h.rw_.form e
      exact .inr ⟨q, c, e2, e⟩)
  obtain ⟨q2, n2, c2, hvW⟩ : ∃ (q : Option Addr) (n c : Nat), vW = .slice q n c := by
    rcases HW.out with ⟨e, _⟩ | ⟨q, c, e, _⟩
    · exact ⟨_, _, _, e⟩
    · exact ⟨_, _, _, e⟩
  rw [hvW] at h
  have a0 := h.c0
  have a1 := h.c1
  have a2 := h.c2
  have a3 := h.c3
  have a4 := h.c4
  have a5 := h.c5
  have hg := h.lt
  have H0 : Hid (CR w (w.alloc (.cells #[.slice (some ⟨bO, 0, none⟩) m.out.length cO, .slice (some ⟨bL, 0, none⟩) m.out.length cL, .slice q2 n2 c2, .int .i64 m.fuse, .bool m.down, .int .i64 (m.done : Int)] 63)) m (.slice (some ⟨bO, 0, none⟩) m.out.length cO) (.slice (some ⟨bL, 0, none⟩) m.out.length cL) (.slice q2 n2 c2)) := Lib.hid ⟨heap_alloc_new w _, (Below.refl _ _).alloc (Nat.le_refl _) _⟩
  have HV := Lib.hid hvW
  clear h hvW
  obtain ⟨no, hno⟩ : ∃ no, Hid (m.out.length = no) := ⟨_, Lib.hid rfl⟩
  rw [hno.out] at hn hl a0 a1 H0
  generalize hfu : m.fuse = fu at a3
  generalize hdw : m.down = dw at a4
  generalize hdn : m.done = dn at a5
  rw [hfu, hdw, hdn] at H0
  have HE : Hid (m.fuse = fu ∧ m.down = dw ∧ m.done = dn) := Lib.hid ⟨hfu, hdw, hdn⟩
  clear hfu hdw hdn
  go_enter Try.func24, Try.ntmps24
  go_upto_region 4 with fail
  generalize w.alloc (.cells #[.slice (some ⟨bO, 0, none⟩) no cO, .slice (some ⟨bL, 0, none⟩) no cL, .slice q2 n2 c2, .int .i64 fu, .bool dw, .int .i64 (dn : Int)] 63) = w1 at *
  have k0 := (H0.out.below.cell (p := ⟨g, 0, none⟩) hg).trans a0
  go_wp2_with fail
  have hro := HH.out.ro
  rw [hno.out] at hro
  refine (clone_outs bO no cO os _ (own_below hro H0.out.below) HH.out.so.one hn hl).mono ?_
  rintro e w2 ⟨⟨gO, dO, rfl, hO⟩, hb⟩
  have HC := Lib.hid (H0.out.le hb)
  have HO := Lib.hid (base0 hO)
  have HlO := Lib.hid (hO.lt _ rfl)
  have HO2 := Lib.hid hO
  clear hO hro k0
  have c0 := (HC.out.c 0).1
  have f0 := (HC.out.c 0).2
  have k1 := (HC.out.below.cell (p := ⟨g, 1, none⟩) hg).trans a1
  go_wp2_with fail
  have hrl := HH.out.rl
  rw [hno.out] at hrl
  have HS := Lib.hid (HC.out.set0 (.slice (some ⟨gO, 0, none⟩) no dO))
  have HzL := Lib.hid HS.out.below.size
  have HO3 := Lib.hid (own_box (i := 0) (u := .slice (some ⟨gO, 0, none⟩) no dO) HO2.out HC.out.hd (by decide))
  clear c0 f0 k1
  refine (clone_outs bL no cL ls _ (own_below hrl HS.out.below) HH.out.sl.one hn hl).mono ?_
  rintro e w3 ⟨⟨gL, dL, rfl, hL⟩, hb2⟩
  have HD := Lib.hid (HS.out.le hb2)
  have HO4 := Lib.hid (own_below HO3.out hb2)
  have HN : Hid (gO ≠ gL) := Lib.hid (by have h1 : _ ≤ gL := (hL.lt _ rfl).1; have h2 : gO < _ := (HO3.out.lt _ rfl).2; omega)
  have HL2 := Lib.hid hL
  have c0 := (HD.out.c 1).1
  have f0 := (HD.out.c 1).2
  have k2 := (HD.out.below.cell (p := ⟨g, 2, none⟩) hg).trans a2
  clear hL hrl HS HO3 HC HO HlO HO2 hb hb2
  go_wp2_with fail
  have hrw := HH.out.rw_
  rw [HV.out] at hrw
  have HS := Lib.hid (HD.out.set1 (.slice (some ⟨gL, 0, none⟩) no dL))
  have HzW := Lib.hid HS.out.below.size
  have HO3 := Lib.hid (own_box (i := 1) (u := .slice (some ⟨gL, 0, none⟩) no dL) HO4.out HD.out.hd (by decide))
  have HL3 := Lib.hid (own_box (i := 1) (u := .slice (some ⟨gL, 0, none⟩) no dL) HL2.out HD.out.hd (by decide))
  clear c0 f0 k2
  refine (clone_ws (nr := m.row.length) (own_below hrw HS.out.below) HH.out.sw.one hr (fun e => by rw [← HV.out]; exact HH.out.nil_ e)).mono ?_
  rintro e w4 ⟨⟨q5, n5, c5, rfl, hW, hnl⟩, hb3⟩
  have HE2 := Lib.hid (HS.out.le hb3)
  have HO5 := Lib.hid (own_below HO3.out hb3)
  have HL5 := Lib.hid (own_below HL3.out hb3)
  have HW2 := Lib.hid hW
  have HNL := Lib.hid hnl
  have c0 := (HE2.out.c 2).1
  have f0 := (HE2.out.c 2).2
  clear hW hrw HS HO3 HL3 HO4 HL2 HD hb3 hnl
  go_wp2_with fail
  go_ret
  have HS := HE2.out.set2 (.slice q5 n5 c5)
  have e1 := hno.out
  subst e1
  obtain ⟨F2, h1, h2, h3⟩ := clone_end HH.out HS (base1 (own_box (i := 2) (u := .slice q5 n5 c5) HO5.out HE2.out.hd (by decide)) H0.out.below.size) (base1 (own_box (i := 2) (u := .slice q5 n5 c5) HL5.out HE2.out.hd (by decide)) HzL.out) (base1 (own_box (i := 2) (u := .slice q5 n5 c5) HW2.out HE2.out.hd (by decide)) HzW.out) HN.out HNL.out
  exact ⟨_, F2, rfl, h1, h2, h3⟩
theorem Dk.clone {w : World} {g : Nat} {F : List Nat} {m : Dsk} (h : Dk w g F m) (hn : 0 < m.out.length) (hl : m.out.length ≤ 1099511627776) (hr : m.row.length ≤ 1099511627776) :
    Calls Try.prog 24 #[.pointer (some ⟨g, 0, none⟩)] w fun e w' => ∃ g2 F2, e = .returned (.pointer (some ⟨g2, 0, none⟩)) ∧ Dk w' g2 F2 m ∧ (∀ k ∈ F2, w.heap.size ≤ k) ∧ Below w.heap.size w w' := by
  obtain ⟨bO, cO, bL, cL, vW, os, ls, ws, h0, _⟩ := h
  exact clone_disk h0 hn hl hr
theorem Dk.waiting {w : World} {g : Nat} {F : List Nat} {m : Dsk} (h : Dk w g F m) (hr : m.row.length ≤ 1099511627776) :
    Calls Try.prog 23 #[.pointer (some ⟨g, 0, none⟩)] w fun e w' => (∃ q c, e = .returned (.slice q m.row.length c) ∧ w'.ownsRow w.heap.size 3 1 (.slice q m.row.length c) m.row.length (ats m.row)) ∧ Below w.heap.size w w' := by
  obtain ⟨bO, cO, bL, cL, vW, os, ls, ws, h0, _⟩ := h
  exact waiting_any h0 _ (Lib.hid rfl) hr
end Go.Proofs.Ytdldjpgbifcljaa
