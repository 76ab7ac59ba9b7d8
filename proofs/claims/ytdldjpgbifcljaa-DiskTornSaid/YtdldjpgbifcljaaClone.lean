/- A clone of a disk; the writes that wait. -/
import Derived.Test.YtdldjpgbifcljaaRef0
import Derived.Lib.SliceRun
namespace Go.Proofs.Ytdldjpgbifcljaa
open Go.RowKit

theorem info3 : (Try.prog.info? 3).map (fun i => (i.zero, i.size, i.bytes)) = some (some (.int .i64 0), 1, 8) := by kernel_rfl
set_option maxHeartbeats 800000 in
theorem clone_outs (g n c : Nat) (os : List Value) (w : World) (h : w.ownsRow 0 59 1 (.slice (some ⟨g, 0, none⟩) n c) n os) (h1 : ∀ u ∈ os, u.oneCell' = true) (hn : 0 < n) (hm : n ≤ 1099511627776) :
    Calls Try.prog 40 #[.slice (some ⟨g, 0, none⟩) n c] w fun e w' => (∃ b c', e = .returned (.slice (some ⟨b, 0, none⟩) n c') ∧ w'.ownsRow w.heap.size 59 1 (.slice (some ⟨b, 0, none⟩) n c') n os) ∧ Below w.heap.size w w' := by
  obtain ⟨i0, hi0, hz0, hz1, hz2⟩ := info_parts info59
  have HI := Lib.hid hi0
  have HZ0 := Lib.hid hz0
  have HZ1 := Lib.hid hz1
  have HZ2 := Lib.hid hz2
  clear hi0 hz0 hz1 hz2
  have HO := Lib.hid h1
  have HE : Hid ((w.alloc (.cells #[] 59)).ownsRow w.heap.size 59 1 (.slice (some ⟨w.heap.size, 0, none⟩) 0 0) 0 []) := Lib.hid ⟨rfl, .inr ⟨w.heap.size, 0, #[], rfl, Nat.le_refl _, heap_alloc_new w _, Nat.le_refl _, Nat.zero_le _, rfl, rfl⟩⟩
  have hg : g < w.heap.size := by obtain ⟨cur, hc⟩ := own_head h rfl; exact lt_of_block hc
  have HNEW : Hid (∀ j u, os[j]? = some u → (w.alloc (.cells #[] 59)).cell? ((⟨g, 0, none⟩ : Addr).add j) = some u) := Lib.hid (World.ownsRow.cells (h.alloc _) rfl)
  have HLN : Hid (os.length = n * 1) := Lib.hid h.1
  have H63 : Hid (0 + n ≤ maxLen) := Lib.hid (by unfold maxLen; omega)
  have HSZ : Hid (w.heap.size ≤ (w.alloc (.cells #[] 59)).heap.size) := Lib.hid (by simp)
  have HB0 : Hid (Below w.heap.size w (w.alloc (.cells #[] 59))) := Lib.hid ((Below.refl _ _).alloc (Nat.le_refl _) _)
  clear h h1
  have q60 := Lib.run_eql_slice_nil (P := Try.prog) w _ _ (some ⟨g, 0, none⟩) n c 0 0 Try.underlying60
  go_enter Try.func40, Try.ntmps40
  go_wp2_with (at_builtin; refine wpList_append_lies _ rfl (.tmp 5) (.tmp 6) 60 rfl w.heap.size 59 i0 (.slice none 0 0) 1 24 Try.underlying60 HI.out HZ0.out HZ1.out HZ2.out rfl (by decide) (.slice (some ⟨w.heap.size, 0, none⟩) 0 0) 0 [] (by rfl) HE.out ⟨g, 0, none⟩ n c os (by rfl) HLN.out HNEW.out HO.out (by omega) H63.out (by omega) HSZ.out _ rfl ?_)
  intro gN cap w1 hown hgrow hat _
  have hown2 : w1.ownsRow w.heap.size 59 1 (.slice (some ⟨gN, 0, none⟩) n cap) n os := by simpa using hown
  have HR := Lib.hid hown2
  have HB : Hid (Below w.heap.size w w1) := Lib.hid (HB0.out.grown hgrow HSZ.out (fun k e => by cases e; exact Nat.le_refl _))
  clear hown hown2 hgrow hat
  go_wp2_with fail
  go_ret
  exact ⟨⟨gN, cap, rfl, HR.out⟩, HB.out⟩
set_option maxHeartbeats 800000 in
theorem clone_waits (g n c : Nat) (os : List Value) (w : World) (h : w.ownsRow 0 77 2 (.slice (some ⟨g, 0, none⟩) n c) n os) (h1 : ∀ u ∈ os, u.oneCell' = true) (hn : 0 < n) (hm : n ≤ 1099511627776) :
    Calls Try.prog 41 #[.slice (some ⟨g, 0, none⟩) n c] w fun e w' => (∃ b c', e = .returned (.slice (some ⟨b, 0, none⟩) n c') ∧ w'.ownsRow w.heap.size 77 2 (.slice (some ⟨b, 0, none⟩) n c') n os) ∧ Below w.heap.size w w' := by
  obtain ⟨i0, hi0, hz0, hz1, hz2⟩ := info_parts info77
  have HI := Lib.hid hi0
  have HZ0 := Lib.hid hz0
  have HZ1 := Lib.hid hz1
  have HZ2 := Lib.hid hz2
  clear hi0 hz0 hz1 hz2
  have HO := Lib.hid h1
  have HE : Hid ((w.alloc (.cells #[] 77)).ownsRow w.heap.size 77 2 (.slice (some ⟨w.heap.size, 0, none⟩) 0 0) 0 []) := Lib.hid ⟨rfl, .inr ⟨w.heap.size, 0, #[], rfl, Nat.le_refl _, heap_alloc_new w _, Nat.le_refl _, Nat.zero_le _, rfl, rfl⟩⟩
  have hg : g < w.heap.size := by obtain ⟨cur, hc⟩ := own_head h rfl; exact lt_of_block hc
  have HNEW : Hid (∀ j u, os[j]? = some u → (w.alloc (.cells #[] 77)).cell? ((⟨g, 0, none⟩ : Addr).add j) = some u) := Lib.hid (World.ownsRow.cells (h.alloc _) rfl)
  have HLN : Hid (os.length = n * 2) := Lib.hid h.1
  have H63 : Hid (0 + n ≤ maxLen) := Lib.hid (by unfold maxLen; omega)
  have HSZ : Hid (w.heap.size ≤ (w.alloc (.cells #[] 77)).heap.size) := Lib.hid (by simp)
  have HB0 : Hid (Below w.heap.size w (w.alloc (.cells #[] 77))) := Lib.hid ((Below.refl _ _).alloc (Nat.le_refl _) _)
  clear h h1
  have q61 := Lib.run_eql_slice_nil (P := Try.prog) w _ _ (some ⟨g, 0, none⟩) n c 0 0 Try.underlying61
  go_enter Try.func41, Try.ntmps41
  go_wp2_with (at_builtin; refine wpList_append_lies _ rfl (.tmp 5) (.tmp 6) 61 rfl w.heap.size 77 i0 (.agg #[.int .i64 0, .slice none 0 0]) 2 32 Try.underlying61 HI.out HZ0.out HZ1.out HZ2.out rfl (by decide) (.slice (some ⟨w.heap.size, 0, none⟩) 0 0) 0 [] (by rfl) HE.out ⟨g, 0, none⟩ n c os (by rfl) HLN.out HNEW.out HO.out (by omega) H63.out (by omega) HSZ.out _ rfl ?_)
  intro gN cap w1 hown hgrow hat _
  have hown2 : w1.ownsRow w.heap.size 77 2 (.slice (some ⟨gN, 0, none⟩) n cap) n os := by simpa using hown
  have HR := Lib.hid hown2
  have HB : Hid (Below w.heap.size w w1) := Lib.hid (HB0.out.grown hgrow HSZ.out (fun k e => by cases e; exact Nat.le_refl _))
  clear hown hown2 hgrow hat
  go_wp2_with fail
  go_ret
  exact ⟨⟨gN, cap, rfl, HR.out⟩, HB.out⟩
set_option maxHeartbeats 400000 in
theorem clone_waits_nil (w : World) : Calls Try.prog 41 #[.slice none 0 0] w fun e w' => e = .returned (.slice none 0 0) ∧ w = w' := by
  have q61 := Lib.run_eql_slice_nil (P := Try.prog) w _ _ none 0 0 0 0 Try.underlying61
  go_enter Try.func41, Try.ntmps41
  go_wp2_with fail
  go_ret
  exact ⟨rfl, rfl⟩
set_option maxHeartbeats 400000 in
theorem clone_nil (w : World) : Calls Try.prog 24 #[.pointer none] w fun e w' => e = .returned (.pointer none) ∧ w = w' := by
  go_enter Try.func24, Try.ntmps24
  go_wp2_with fail
  go_ret
  exact ⟨rfl, rfl⟩
set_option maxHeartbeats 400000 in
theorem waiting_nil (w : World) : Calls Try.prog 23 #[.pointer none] w fun e w' => e = .returned (.slice none 0 0) ∧ w = w' := by
  go_enter Try.func23, Try.ntmps23
  go_wp2_with fail
  go_ret
  exact ⟨rfl, rfl⟩
def ats (l : List Wr) : List Value := l.map fun x => .int .i64 (x.1 : Int)
theorem ats_take (l : List Wr) (k : Nat) (h : k < l.length) : ats (l.take (k + 1)) = ats (l.take k) ++ [.int .i64 ((wr l k).1 : Int)] := by
  have e : wr l k = l[k] := by unfold wr; rw [List.getD_eq_getElem?_getD, List.getElem?_eq_getElem h]; rfl
  unfold ats
  rw [List.take_succ_eq_append_getElem h, List.map_append, e]; rfl
set_option maxHeartbeats 1600000 in
theorem waiting_any {w : World} {g bO cO bL cL : Nat} {vW : Value} {os ls : List Value} {ws : List Vw} {m : Dsk} (h : Dk0 w g bO cO bL cL vW os ls ws m) (n : Nat) (hn : Hid (m.row.length = n)) (hl : n ≤ 1099511627776) :
    Calls Try.prog 23 #[.pointer (some ⟨g, 0, none⟩)] w fun e w' => (∃ q c, e = .returned (.slice q n c) ∧ w'.ownsRow w.heap.size 3 1 (.slice q n c) n (ats m.row)) ∧ Below w.heap.size w w' := by
  obtain ⟨i0, hi0, hz0, hz1, hz2⟩ := info_parts info3
  have HI := Lib.hid hi0
  have HZ0 := Lib.hid hz0
  have HZ1 := Lib.hid hz1
  have HZ2 := Lib.hid hz2
  clear hi0 hz0 hz1 hz2
  obtain ⟨q2, c2, rfl⟩ := h.wslice n hn
  have hc2 := h.c2
  have HR : Hid (∀ k, k < n → ∃ b c v, q2 = some ⟨b, 0, none⟩ ∧ b < w.heap.size ∧ w.cell? ⟨b, k * 2, none⟩ = some (.int .i64 ((wr m.row k).1 : Int)) ∧ w.cell? ⟨b, k * 2 + 1, none⟩ = some (.slice (some ⟨v, 0, none⟩) 128 c)) := Lib.hid (fun k hk => by
    have hk2 : k < m.row.length := by rw [hn.out]; exact hk
    have hr := h.rw_
    obtain ⟨b, c, e, _, hb⟩ := hr.form (by omega)
    simp only [Value.slice.injEq] at e
    obtain ⟨rfl, _, rfl⟩ := e
    have hr2 : w.ownsRow 0 77 2 (.slice (some ⟨b, 0, none⟩) m.row.length c2) m.row.length (flat ws) := by
      have := hr; rw [hn.out]; rw [hn.out] at this; exact this
    have h1 := hr2.cellAt (k * 2) (by omega)
    have h2 := hr2.cellAt (k * 2 + 1) (by omega)
    have hf := flat_get ws k (by rw [h.sw.len]; exact hk2)
    obtain ⟨hv1, hv2⟩ := h.sw.at_ k hk2
    obtain ⟨bD, cD, hvD, _⟩ := hv2.bys
    rw [hv1, hvD] at hf
    rw [hf.1] at h1
    rw [hf.2] at h2
    exact ⟨b, cD, bD, rfl, hb, h1, h2⟩)
  have HAT : Hid (∀ k, k < n → ats (m.row.take (k + 1)) = ats (m.row.take k) ++ [.int .i64 ((wr m.row k).1 : Int)]) := Lib.hid (fun k hk => ats_take _ _ (by rw [hn.out]; exact hk))
  have HA0 : Hid (ats (m.row.take 0) = []) := Lib.hid rfl
  have HAN : Hid (ats (m.row.take n) = ats m.row) := Lib.hid (by rw [← hn.out, List.take_length])
  have hgl := h.lt
  clear h hn
  go_enter Try.func23, Try.ntmps23
  go_wp2_with fail
  go_loopw [3, 13] (fun vv iv wq => ∃ (k : Nat) (q : Option Addr) (c : Nat), k ≤ n ∧ iv = .int .i64 (k : Int) ∧ vv = .slice q k c ∧ Hid (wq.ownsRow w.heap.size 3 1 (.slice q k c) k (ats (m.row.take k)) ∧ Below w.heap.size w wq)) (fun _ iv _ => n - (intOf iv).toNat)
  case atStart => exact ⟨0, none, 0, by omega, by go_num, rfl, Lib.hid ⟨by rw [HA0.out]; exact World.ownsRow_nil _ _ _ _, Below.refl _ _⟩⟩
  case round =>
    obtain ⟨k, q, c, hk, rfl, rfl, hr⟩ := hrel
    by_cases hlt : k < n
    · obtain ⟨b, cD, bD, rfl, hb, h1, h2⟩ := HR.out k hlt
      have k1 := (hr.out.2.cell (p := ⟨b, k * 2, none⟩) hb).trans h1
      have k2 := (hr.out.2.cell (p := ⟨b, k * 2 + 1, none⟩) hb).trans h2
      have b1 : (0 : Int) ≤ (k : Int) := by omega
      have b2 : (k : Int) < (n : Int) := by omega
      clear h1 h2
      have HE := Lib.hid (HAT.out k hlt)
      generalize (Go.Proofs.Ytdldjpgbifcljaa.wr m.row k).1 = i at *
      have HONE : Hid (∀ u ∈ [Value.int .i64 (i : Int)], u.oneCell' = true) := Lib.hid (by
        intro u hu
        obtain rfl := List.mem_singleton.1 hu
        rfl)
      have H63 : Hid (k + 1 ≤ maxLen) := Lib.hid (by unfold maxLen; omega)
      have HOWN : Hid (∀ o o2 : Obj, ((wr.alloc o).alloc o2).ownsRow w.heap.size 3 1 (.slice q k c) k (ats (m.row.take k))) := Lib.hid (fun o o2 => (hr.out.1.alloc o).alloc o2)
      have HSZ : Hid (∀ o o2 : Obj, w.heap.size ≤ ((wr.alloc o).alloc o2).heap.size) := Lib.hid (fun o o2 => Nat.le_trans hr.out.2.size (below2 wr o o2).size)
      have HBB : Hid (∀ (o o2 : Obj) (w3 : World), ((wr.alloc o).alloc o2).grownBy w3 (Value.slice q k c).ownBlock → Below w.heap.size w w3) := Lib.hid (fun o o2 w3 hg => (hr.out.2.trans ((below2 wr o o2).mono hr.out.2.size)).grown hg (HSZ.out o o2) (fun j e => (hr.out.1.lt j e).1))
      clear hr
      go_wp2_with (at_builtin; refine wpList_append_lies _ rfl (.tmp 17) (.tmp 20) 52 rfl w.heap.size 3 i0 (.int .i64 0) 1 8 Try.underlying52 HI.out HZ0.out HZ1.out HZ2.out rfl (by decide) (.slice q k c) k _ (by rfl) (HOWN.out _ _) ⟨_, 0, none⟩ 1 1 [.int .i64 (i : Int)] (by rfl) rfl (World.news_of_block (heap_alloc2_new _ _ _)) HONE.out (by omega) H63.out (by omega) (HSZ.out _ _) _ rfl ?_)
      intro gN cap w3 hown hgrow hat _
      have HN : Hid (w3.ownsRow w.heap.size 3 1 (.slice (some ⟨gN, 0, none⟩) (k + 1) cap) (k + 1) (ats (m.row.take (k + 1))) ∧ Below w.heap.size w w3) := Lib.hid ⟨by rw [HE.out]; exact hown, HBB.out _ _ _ hgrow⟩
      clear hown hgrow hat HOWN HSZ HBB
      go_wp2_with fail
      go_roundw
      case rel => exact ⟨k + 1, _, _, by omega, by go_num, rfl, HN⟩
      case measure => simp [intOf]; omega
    · obtain rfl : k = n := by omega
      go_wp2_with fail
      go_ret
      have h3 := hr.out
      rw [HAN.out] at h3
      exact ⟨⟨q, c, rfl, h3.1⟩, h3.2⟩
end Go.Proofs.Ytdldjpgbifcljaa
