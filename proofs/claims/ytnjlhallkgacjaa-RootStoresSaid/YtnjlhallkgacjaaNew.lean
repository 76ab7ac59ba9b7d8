/- A new disk. -/
import Derived.Test.YtnjlhallkgacjaaPut
namespace Go.Proofs.Ytnjlhallkgacjaa
open Go.RowKit

def zeros128 : List Nat := List.replicate 128 0
/-- A disk whose two rows are being laid. -/
structure NH (w wr : World) (g : Nat) (z vO vL : Value) (a b : Nat) : Prop where
  below : Below w.heap.size w wr
  high : w.heap.size ≤ g
  hd : wr.heap[g]? = some (.cells #[vO, vL, .slice none 0 0, .int .i64 (-1), .bool false, .int .i64 0] 72 (0, 0))
  ro : wr.ownsRow w.heap.size 45 1 vO a (List.replicate a z)
  rl : wr.ownsRow w.heap.size 45 1 vL b (List.replicate b z)
  ne : ∀ j, vO.ownBlock = some j → vL.ownBlock ≠ some j
  sz : Sec wr z zeros128
theorem typed_one {w : World} {base E m n : Nat} {v : Value} {xs : List Value} (h : w.ownsRow base E m v n xs) (hE : E = 72 ∨ E = 45 ∨ E = 81) : Typed w v.ownBlock.toList := fun k hk => by
  obtain ⟨cur, hc⟩ := own_head h (by simpa using hk)
  exact ⟨_, _, _, hc, hE⟩
theorem grow_chg {w w3 : World} {o : Obj} {v : Value} (hgrow : (w.alloc o).grownBy w3 v.ownBlock) : Chg v.ownBlock.toList v.ownBlock.toList w w3 :=
  ⟨hgrow.os, hgrow.tape, hgrow.output, Nat.le_trans (by simp) hgrow.size, fun k hk hne => (hgrow.block k (by simp; omega) (fun e => hne (by simp [← e]))).trans (Below.heap_alloc w o k hk), fun _ h => .inl h⟩
theorem NH.out {w wr w3 : World} {g gN cap : Nat} {z vO vL : Value} {a b : Nat} (h : NH w wr g z vO vL a b) {o : Obj} (hown : w3.ownsRow w.heap.size 45 1 (.slice (some ⟨gN, 0, none⟩) (a + 1) cap) (a + 1) (List.replicate a z ++ [z]))
    (hgrow : (wr.alloc o).grownBy w3 vO.ownBlock) (hat : vO.ownBlock = some gN ∨ wr.heap.size ≤ gN) : NH w (w3.setCell ⟨g, 0, none⟩ (.slice (some ⟨gN, 0, none⟩) (a + 1) cap)) g z (.slice (some ⟨gN, 0, none⟩) (a + 1) cap) vL (a + 1) b := by
  have hC := grow_chg hgrow
  have hgO : ∀ j, vO.ownBlock = some j → g ≠ j := fun j e => by obtain ⟨cur, hc⟩ := own_head h.ro e; exact ne_of_ty h.hd hc (by decide)
  have hgL : ∀ j, vL.ownBlock = some j → g ≠ j := fun j e => by obtain ⟨cur, hc⟩ := own_head h.rl e; exact ne_of_ty h.hd hc (by decide)
  have hLO : ∀ j, vL.ownBlock = some j → vO.ownBlock ≠ some j := fun j e e2 => h.ne j e2 e
  have hg3 : w3.heap[g]? = wr.heap[g]? := hC.block g (lt_of_block h.hd) (fun e => hgO g (by simpa using e) rfl)
  have hgN : g ≠ gN := by
    rcases hat with e | e
    · exact hgO _ e
    · have := lt_of_block h.hd; omega
  have hS := h.sz.chg hC (typed_one h.ro (.inr (.inl rfl)))
  have hT : Typed w3 [g] := fun k hk => by obtain rfl := List.mem_singleton.1 hk; exact ⟨_, _, _, hg3.trans h.hd, .inl rfl⟩
  refine ⟨?_, h.high, heap_setCell_same w3 g 0 _ _ _ (hg3.trans h.hd), ?_, ?_, fun j e e2 => ?_, hS.chg (Chg.setCell (F := [g]) (g := g) (i := 0) (by simp) _ w3) hT⟩
  · exact (hC.below h.below h.below.size (fun k hk => (h.ro.lt k (by simpa using hk)).1)).setCell h.high _
  · rw [List.replicate_succ']
    exact own_other hown (fun j e => by cases e; exact heap_setCell_other _ _ _ _ (Ne.symm hgN))
  · exact own_other h.rl (fun j e => (heap_setCell_other _ _ _ _ (Ne.symm (hgL j e))).trans (hC.block j (h.rl.lt j e).2 (fun e2 => hLO j e (by simpa using e2))))
  · cases e
    rcases hat with e3 | e3
    · exact h.ne gN e3 e2
    · have := (h.rl.lt _ e2).2; exact absurd (Nat.lt_of_lt_of_le this e3) (Nat.lt_irrefl _)
theorem NH.last {w wr w3 : World} {g gN cap : Nat} {z vO vL : Value} {a b : Nat} (h : NH w wr g z vO vL a b) {o : Obj} (hown : w3.ownsRow w.heap.size 45 1 (.slice (some ⟨gN, 0, none⟩) (b + 1) cap) (b + 1) (List.replicate b z ++ [z]))
    (hgrow : (wr.alloc o).grownBy w3 vL.ownBlock) (hat : vL.ownBlock = some gN ∨ wr.heap.size ≤ gN) : NH w (w3.setCell ⟨g, 1, none⟩ (.slice (some ⟨gN, 0, none⟩) (b + 1) cap)) g z vO (.slice (some ⟨gN, 0, none⟩) (b + 1) cap) a (b + 1) := by
  have hC := grow_chg hgrow
  have hgO : ∀ j, vO.ownBlock = some j → g ≠ j := fun j e => by obtain ⟨cur, hc⟩ := own_head h.ro e; exact ne_of_ty h.hd hc (by decide)
  have hgL : ∀ j, vL.ownBlock = some j → g ≠ j := fun j e => by obtain ⟨cur, hc⟩ := own_head h.rl e; exact ne_of_ty h.hd hc (by decide)
  have hg3 : w3.heap[g]? = wr.heap[g]? := hC.block g (lt_of_block h.hd) (fun e => hgL g (by simpa using e) rfl)
  have hgN : g ≠ gN := by
    rcases hat with e | e
    · exact hgL _ e
    · have := lt_of_block h.hd; omega
  have hS := h.sz.chg hC (typed_one h.rl (.inr (.inl rfl)))
  have hT : Typed w3 [g] := fun k hk => by obtain rfl := List.mem_singleton.1 hk; exact ⟨_, _, _, hg3.trans h.hd, .inl rfl⟩
  refine ⟨?_, h.high, heap_setCell_same w3 g 1 _ _ _ (hg3.trans h.hd), ?_, ?_, fun j e e2 => ?_, hS.chg (Chg.setCell (F := [g]) (g := g) (i := 1) (by simp) _ w3) hT⟩
  · exact (hC.below h.below h.below.size (fun k hk => (h.rl.lt k (by simpa using hk)).1)).setCell h.high _
  · exact own_other h.ro (fun j e => (heap_setCell_other _ _ _ _ (Ne.symm (hgO j e))).trans (hC.block j (h.ro.lt j e).2 (fun e2 => h.ne j e (by simpa using e2))))
  · rw [List.replicate_succ']
    exact own_other hown (fun j e => by cases e; exact heap_setCell_other _ _ _ _ (Ne.symm hgN))
  · cases e2
    rcases hat with e3 | e3
    · exact h.ne gN e e3
    · have := (h.ro.lt _ e).2; exact absurd (Nat.lt_of_lt_of_le this e3) (Nat.lt_irrefl _)
theorem base0 {w : World} {base E m n : Nat} {v : Value} {xs : List Value} (h : w.ownsRow base E m v n xs) : w.ownsRow 0 E m v n xs := by
  obtain ⟨h1, h2⟩ := h
  refine ⟨h1, ?_⟩
  rcases h2 with h2 | ⟨g, cap, cur, e, hbg, hr⟩
  · exact .inl h2
  · exact .inr ⟨g, cap, cur, e, Nat.zero_le _, hr⟩
theorem NH.disk {w wr : World} {g : Nat} {z vO vL : Value} {n : Nat} (h : NH w wr g z vO vL n n) (hn : 0 < n) : ∃ F, Dk wr g F (newM n) ∧ (∀ k ∈ F, w.heap.size ≤ k) ∧ Below w.heap.size w wr := by
  obtain ⟨bO, cO, rfl, hO, _⟩ := h.ro.form hn
  obtain ⟨bL, cL, rfl, hL, _⟩ := h.rl.form hn
  have hlen : (newM n).out.length = n := List.length_replicate
  have hsec : Secs wr (List.replicate n z) (newM n).out := ⟨by rw [hlen, List.length_replicate], fun i hi => by
    rw [hlen] at hi
    have e1 : vAt (List.replicate n z) i = z := by unfold vAt; rw [List.getD_eq_getElem?_getD, List.getElem?_replicate, if_pos hi]; rfl
    have e2 : sec (newM n).out i = zeros128 := by unfold sec newM; rw [List.getD_eq_getElem?_getD, List.getElem?_replicate, if_pos hi]; rfl
    rw [e1, e2]; exact h.sz⟩
  refine ⟨foot g bO bL (.slice none 0 0), ⟨bO, cO, bL, cL, _, List.replicate n z, List.replicate n z, [], ⟨?_, ?_, ?_, World.ownsRow_nil _ _ _ _, hsec, hsec, Vws.nil_ _, fun _ => rfl, fun e => h.ne bO rfl (by rw [e]; rfl), Ok.new n⟩, rfl⟩, fun k hk => ?_, h.below⟩
  · rw [hlen]; exact h.hd
  · rw [hlen]; exact base0 h.ro
  · rw [hlen]; exact base0 h.rl
  · simp [foot, Value.ownBlock] at hk
    rcases hk with rfl | rfl | rfl
    · exact h.high
    · exact hO
    · exact hL

theorem own_form {w : World} {base E m n : Nat} {v : Value} {xs : List Value} (h : w.ownsRow base E m v n xs) : ∃ (q : Option Addr) (c : Nat), v = .slice q n c := by
  rcases h.2 with ⟨e, h0⟩ | ⟨g, cap, cur, e, _⟩
  · exact ⟨none, 0, by rw [e, h0]⟩
  · exact ⟨_, _, e⟩
theorem NH.far {w wr w3 : World} {g : Nat} {z vO vL : Value} {a b : Nat} (h : NH w wr g z vO vL a b) {o : Obj} {v : Value} (hv : v = vO ∨ v = vL) (hgrow : (wr.alloc o).grownBy w3 v.ownBlock) : (∀ i, w3.cell? ⟨g, i, none⟩ = wr.cell? ⟨g, i, none⟩) ∧ ∀ i, w3.frozen? ⟨g, i, none⟩ = false := by
  have hgO : ∀ j, vO.ownBlock = some j → g ≠ j := fun j e => by obtain ⟨cur, hc⟩ := own_head h.ro e; exact ne_of_ty h.hd hc (by decide)
  have hgL : ∀ j, vL.ownBlock = some j → g ≠ j := fun j e => by obtain ⟨cur, hc⟩ := own_head h.rl e; exact ne_of_ty h.hd hc (by decide)
  have hG : w3.heap[g]? = wr.heap[g]? := (grow_chg hgrow).block g (lt_of_block h.hd) (fun e => by
    rcases hv with rfl | rfl
    · exact hgO g (by simpa using e) rfl
    · exact hgL g (by simpa using e) rfl)
  exact ⟨fun i => World.cell?_of_block hG, fun i => (World.frozen?_of_block hG).trans (frozen_of_row wr g i _ _ h.hd)⟩
theorem zeros_made : (madeCells #[Value.int .u8 0] 128).toList = u8s zeros128 := by
  rw [toList_madeCells_one]
  unfold u8s zeros128
  rw [List.map_replicate]; rfl
set_option maxHeartbeats 400000 in
theorem new_bad (n : Int) (w : World) (hn : n < 1 ∨ 2048 < n) :
    Calls Try.prog 23 #[.int .i64 n] w fun e w' => e = .returned (.tuple #[.pointer none, .int .i64 1]) ∧ w = w' := by
  rcases hn with hn | hn
  · go_enter Try.func23, Try.ntmps23
    go_wp2_with fail
    go_ret2
    exact ⟨rfl, rfl⟩
  · have h1 : ¬ n < 1 := by omega
    have h2 : decide (n < 1) = false := decide_eq_false h1
    go_enter Try.func23, Try.ntmps23
    go_wp2_with fail
    go_ret2
    exact ⟨rfl, rfl⟩
set_option maxHeartbeats 1600000 in
theorem new_any (n : Nat) (w : World) (h1 : 1 ≤ n) (h2 : n ≤ 2048) :
    Calls Try.prog 23 #[.int .i64 (n : Int)] w fun e w' => ∃ g F, e = .returned (.tuple #[.pointer (some ⟨g, 0, none⟩), .int .i64 0]) ∧ Dk w' g F (newM n) ∧ (∀ k ∈ F, w.heap.size ≤ k) ∧ Below w.heap.size w w' := by
  obtain ⟨i0, hi, hz0, hz1, hz2⟩ := info_parts Try.info5
  have HI := Lib.hid hi
  have HZ0 := Lib.hid hz0
  have HZ1 := Lib.hid hz1
  have HZ2 := Lib.hid hz2
  clear hi hz0 hz1 hz2
  obtain ⟨j0, hi, hz0, hz1, hz2⟩ := info_parts info45
  have JI := Lib.hid hi
  have JZ0 := Lib.hid hz0
  have JZ1 := Lib.hid hz1
  have JZ2 := Lib.hid hz2
  clear hi hz0 hz1 hz2
  have hd1 : ¬ (n : Int) < 1 := by omega
  have hd2 : ¬ (2048 : Int) < (n : Int) := by omega
  go_enter Try.func23, Try.ntmps23
  go_wp2_with (refine wpList_make_full _ rfl _ _ 45 rfl 0 5 i0 (.int .u8 0) 1 Try.underlying45 HI.out HZ0.out HZ1.out .i64 .i64 128 128 128 rfl rfl rfl rfl (by rw [HZ2.out]; omega) (by unfold maxLen; omega) (Nat.zero_le _) ?_)
  intro w1 hown hgrow
  go_wp2_with fail
  have H0 : Hid (NH w (w1.alloc (.cells #[.slice none 0 0, .slice none 0 0, .slice none 0 0, .int .i64 (-1), .bool false, .int .i64 0] 72)) w1.heap.size (.slice (some ⟨w.heap.size, 0, none⟩) 128 128) (.slice none 0 0) (.slice none 0 0) 0 0) := Lib.hid (by
    have hb : Below w.heap.size w w1 := (Below.refl _ _).grown hgrow (Nat.le_refl _) (fun k e => by cases e)
    rw [zeros_made] at hown
    exact ⟨hb.alloc hb.size _, hb.size, heap_alloc_new w1 _, World.ownsRow_nil _ _ _ _, World.ownsRow_nil _ _ _ _, fun j e => (by cases e), (Sec.of_own hown (fun d hd => by obtain rfl := (List.mem_replicate.1 hd).2; omega)).below ((Below.refl _ _).alloc (Nat.le_refl _) _)⟩)
  clear hown hgrow
  generalize w1.alloc (.cells #[.slice none 0 0, .slice none 0 0, .slice none 0 0, .int .i64 (-1), .bool false, .int .i64 0] 72) = w2 at *
  generalize w1.heap.size = g at *
  go_loopw [16] (fun iv wr => ∃ k : Nat, k ≤ n ∧ iv = .int .i64 (k : Int) ∧ Hid (∃ vO vL, NH w wr g (.slice (some ⟨w.heap.size, 0, none⟩) 128 128) vO vL k k)) (fun iv _ => n - (intOf iv).toNat)
  case atStart => exact ⟨0, by omega, by go_num, Lib.hid ⟨_, _, H0.out⟩⟩
  case round =>
    obtain ⟨k, hk, rfl, hr⟩ := hrel
    clear H0
    by_cases hlt : k < n
    · obtain ⟨vO, vL, hN⟩ := hr.out
      have HN := Lib.hid hN
      clear hr hN
      obtain ⟨qO, cO, hvO⟩ := own_form HN.out.ro
      obtain ⟨qL, cL, hvL⟩ := own_form HN.out.rl
      rw [hvO, hvL] at HN
      have c0 : wr.cell? ⟨g, 0, none⟩ = some (.slice qO k cO) := by rw [cell_of_row wr g 0 _ _ _ HN.out.hd]; rfl
      have c1 : wr.cell? ⟨g, 1, none⟩ = some (.slice qL k cL) := by rw [cell_of_row wr g 1 _ _ _ HN.out.hd]; rfl
      have HOWN : Hid (∀ o : Obj, (wr.alloc o).ownsRow w.heap.size 45 1 (.slice qO k cO) k (List.replicate k (.slice (some ⟨w.heap.size, 0, none⟩) 128 128))) := Lib.hid (fun o => HN.out.ro.alloc o)
      have HONE : Hid (∀ u ∈ [Value.slice (some ⟨w.heap.size, 0, none⟩) 128 128], u.oneCell' = true) := Lib.hid (by
        intro u hu
        obtain rfl := List.mem_singleton.1 hu
        rfl)
      have HSZ : Hid (w.heap.size ≤ (wr.alloc (.cells #[.slice (some ⟨w.heap.size, 0, none⟩) 128 128] 45)).heap.size) := Lib.hid (by have := HN.out.below.size; simp; omega)
      have H63 : Hid (k + 1 ≤ maxLen) := Lib.hid (by unfold maxLen; omega)
      clear hvO hvL
      go_wp2_with (at_builtin; refine wpList_append_lies _ rfl (.tmp 22) (.tmp 24) 69 rfl w.heap.size 45 j0 (.slice none 0 0) 1 24 Try.underlying69 JI.out JZ0.out JZ1.out JZ2.out rfl (by decide) (.slice qO k cO) k _ (by rfl) (HOWN.out _) ⟨_, 0, none⟩ 1 1 [.slice (some ⟨w.heap.size, 0, none⟩) 128 128] (by rfl) rfl (World.news_of_block (heap_alloc_new _ _)) HONE.out (by omega) H63.out (by omega) HSZ.out _ rfl ?_)
      intro gN cap w3 hown hgrow hat _
      have hF := HN.out.far (v := .slice qO k cO) (.inl rfl) hgrow
      have d0 := (hF.1 0).trans c0
      have d1 : (w3.setCell ⟨g, 0, none⟩ (.slice (some ⟨gN, 0, none⟩) (k + 1) cap)).cell? ⟨g, 1, none⟩ = some (.slice qL k cL) := (World.cell?_setCell_other _ _ _ _ (by simp)).trans ((hF.1 1).trans c1)
      have e0 := hF.2 0
      have HN2 := Lib.hid (HN.out.out hown hgrow (hat.imp id (fun e => by rw [e]; simp)))
      have HOWN2 : Hid (∀ o : Obj, ((w3.setCell ⟨g, 0, none⟩ (.slice (some ⟨gN, 0, none⟩) (k + 1) cap)).alloc o).ownsRow w.heap.size 45 1 (.slice qL k cL) k (List.replicate k (.slice (some ⟨w.heap.size, 0, none⟩) 128 128))) := Lib.hid (fun o => HN2.out.rl.alloc o)
      have HSZ2 : Hid (w.heap.size ≤ ((w3.setCell ⟨g, 0, none⟩ (.slice (some ⟨gN, 0, none⟩) (k + 1) cap)).alloc (.cells #[.slice (some ⟨w.heap.size, 0, none⟩) 128 128] 45)).heap.size) := Lib.hid (by have := HN2.out.below.size; simp at this ⊢; omega)
      have HNEW : Hid (∀ j u, [Value.slice (some ⟨w.heap.size, 0, none⟩) 128 128][j]? = some u → ((w3.setCell ⟨g, 0, none⟩ (.slice (some ⟨gN, 0, none⟩) (k + 1) cap)).alloc (.cells #[.slice (some ⟨w.heap.size, 0, none⟩) 128 128] 45)).cell? ((⟨w3.heap.size, 0, none⟩ : Addr).add j) = some u) := Lib.hid (by
        have h := World.news_of_block (heap_alloc_new (w3.setCell ⟨g, 0, none⟩ (.slice (some ⟨gN, 0, none⟩) (k + 1) cap)) (.cells #[.slice (some ⟨w.heap.size, 0, none⟩) 128 128] 45))
        rw [show (w3.setCell ⟨g, 0, none⟩ (.slice (some ⟨gN, 0, none⟩) (k + 1) cap)).heap.size = w3.heap.size by simp] at h
        exact h)
      clear hF hown hgrow hat HOWN HSZ HN c0 c1
      go_wp2_with (at_builtin; refine wpList_append_lies _ rfl (.tmp 32) (.tmp 34) 69 rfl w.heap.size 45 j0 (.slice none 0 0) 1 24 Try.underlying69 JI.out JZ0.out JZ1.out JZ2.out rfl (by decide) (.slice qL k cL) k _ (by rfl) (HOWN2.out _) ⟨_, 0, none⟩ 1 1 [.slice (some ⟨w.heap.size, 0, none⟩) 128 128] (by rfl) rfl HNEW.out HONE.out (by omega) H63.out (by omega) HSZ2.out _ rfl ?_)
      intro gM cap2 w5 hown hgrow hat _
      have hF := HN2.out.far (v := .slice qL k cL) (.inr rfl) hgrow
      have d5 := (hF.1 1).trans d1
      have e5 := hF.2 1
      have HN3 := Lib.hid (HN2.out.last hown hgrow (hat.imp id (fun e => by rw [e]; simp)))
      clear hF hown hgrow hat HOWN2 HSZ2 HN2 d0 d1 e0
      go_wp2_with fail
      go_roundw
      case rel => exact ⟨k + 1, by omega, by go_num, Lib.hid ⟨_, _, HN3.out⟩⟩
      case measure => simp [intOf]; omega
    · obtain rfl : k = n := by omega
      go_wp2_with fail
      go_ret2
      obtain ⟨vO, vL, hN⟩ := hr.out
      obtain ⟨F, h3, h4, h5⟩ := hN.disk (by omega)
      exact ⟨_, F, rfl, h3, h4, h5⟩
end Go.Proofs.Ytnjlhallkgacjaa
