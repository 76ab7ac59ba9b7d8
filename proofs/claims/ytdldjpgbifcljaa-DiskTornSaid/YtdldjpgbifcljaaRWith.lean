/- The document's list of sectors with another one at a place; what it reads. -/
import Derived.Test.YtdldjpgbifcljaaRef0
namespace Go.Proofs.Ytdldjpgbifcljaa
open Go.RowKit

theorem info9 : (Try.prog.info? 9).map (fun i => (i.zero, i.size, i.bytes)) = some (some (.string ⟨#[]⟩), 1, 16) := by kernel_rfl
theorem info73 : (Try.prog.info? 73).map (fun i => (i.zero, i.size, i.bytes)) = some (some (.agg #[.int .i64 0, .string ⟨#[]⟩]), 2, 24) := by kernel_rfl
theorem strs_one (L : List (List Nat)) : ∀ u ∈ strs L, u.oneCell' = true := by
  intro u hu
  obtain ⟨x, _, rfl⟩ := List.mem_map.1 hu
  rfl
theorem strs_len (L : List (List Nat)) : (strs L).length = L.length := List.length_map _
theorem strs_set (L : List (List Nat)) (i : Nat) (s : List Nat) : (strs L).set i (.string (strB s)) = strs (L.set i s) := by
  unfold strs; rw [List.map_set]
theorem strs_get (L : List (List Nat)) (i : Nat) (h : i < L.length) : (strs L)[i]? = some (.string (strB (sec L i))) := by
  unfold strs sec
  rw [List.getElem?_map, List.getD_eq_getElem?_getD, List.getElem?_eq_getElem h]; rfl
theorem wrs_one (l : List Wr) : ∀ u ∈ wrs l, u.oneCell' = true := by
  intro u hu
  obtain ⟨x, _, hu⟩ := List.mem_flatMap.1 hu
  simp at hu
  rcases hu with rfl | rfl <;> rfl
theorem wrs_len (l : List Wr) : (wrs l).length = l.length * 2 := by
  unfold wrs
  induction l with
  | nil => rfl
  | cons a l ih => simp only [List.flatMap_cons, List.length_append, List.length_cons, List.length_nil]; rw [ih]; omega
theorem wrs_snoc (l : List Wr) (x : Wr) : wrs (l ++ [x]) = wrs l ++ [.int .i64 (x.1 : Int), .string (strB x.2)] := by unfold wrs; simp
theorem wrs_get (l : List Wr) (k : Nat) (h : k < l.length) : (wrs l)[k * 2]? = some (.int .i64 ((wr l k).1 : Int)) ∧ (wrs l)[k * 2 + 1]? = some (.string (strB (wr l k).2)) := by
  induction l generalizing k with
  | nil => cases h
  | cons a l ih =>
    cases k with
    | zero => exact ⟨rfl, rfl⟩
    | succ k =>
      have h2 := ih k (by simpa using h)
      have e : wrs (a :: l) = [.int .i64 (a.1 : Int), .string (strB a.2)] ++ wrs l := rfl
      have hl : ([Value.int .i64 (a.1 : Int), .string (strB a.2)] : List Value).length = 2 := rfl
      rw [e, List.getElem?_append_right (by rw [hl]; omega), List.getElem?_append_right (by rw [hl]; omega)]
      rw [hl, show (k + 1) * 2 - 2 = k * 2 by omega, show (k + 1) * 2 + 1 - 2 = k * 2 + 1 by omega]
      exact h2
/-- The cells of an owned row, as news for an append. -/
theorem own_news {w : World} {base E m n c : Nat} {g : Nat} {xs : List Value} (h : w.ownsRow base E m (.slice (some ⟨g, 0, none⟩) n c) n xs) : ∀ j u, xs[j]? = some u → w.cell? ((⟨g, 0, none⟩ : Addr).add j) = some u := World.ownsRow.cells h rfl

set_option maxHeartbeats 800000 in
theorem with_any (g n c : Nat) (L : List (List Nat)) (i : Nat) (s : List Nat) (w : World) (hL : w.ownsRow 0 9 1 (.slice (some ⟨g, 0, none⟩) n c) n (strs L)) (hn : Hid (L.length = n)) (hi : i < n) (hm : n ≤ 1099511627776) :
    Calls Try.prog 44 #[.slice (some ⟨g, 0, none⟩) n c, .int .i64 (i : Int), .string (strB s)] w fun e w' => (∃ b c', e = .returned (.slice (some ⟨b, 0, none⟩) n c') ∧ w'.ownsRow 0 9 1 (.slice (some ⟨b, 0, none⟩) n c') n (strs (L.set i s))) ∧ Below w.heap.size w w' := by
  obtain ⟨i0, hi0, hz0, hz1, hz2⟩ := info_parts info9
  have HI := Lib.hid hi0
  have HZ0 := Lib.hid hz0
  have HZ1 := Lib.hid hz1
  have HZ2 := Lib.hid hz2
  clear hi0 hz0 hz1 hz2
  have HL := Lib.hid hL
  have HST := Lib.hid (strs_set L i s)
  have HLN : Hid ((strs L).length = n * 1) := Lib.hid (by rw [strs_len, hn.out, Nat.mul_one])
  have HO := Lib.hid (strs_one L)
  have h63 : n ≤ 1099511627776 := hm
  have H63 : Hid (0 + n ≤ maxLen) := Lib.hid (by unfold maxLen; omega)
  have hil : (i : Int) < (n : Int) := by omega
  clear hL hn
  generalize strB s = S at *
  go_enter Try.func44, Try.ntmps44
  go_wp2_with (at_builtin; refine wpList_append_lies _ rfl (.tmp 8) (.tmp 9) 30 rfl w.heap.size 9 i0 (.string ⟨#[]⟩) 1 16 Try.underlying30 HI.out HZ0.out HZ1.out HZ2.out rfl (by decide) (.slice none 0 0) 0 [] (by rfl) (World.ownsRow_nil _ _ _ _) ⟨g, 0, none⟩ n c (strs L) (by rfl) HLN.out (own_news HL.out) HO.out (by omega) H63.out (by omega) (Nat.le_refl _) _ rfl ?_)
  intro gN cap w1 hown hgrow hat _
  have HB : Hid (Below w.heap.size w w1) := Lib.hid ((Below.refl _ _).grown hgrow (Nat.le_refl _) (fun k e => by cases e))
  have hgN : w.heap.size ≤ gN := (hown.lt gN rfl).1
  have hc := hown.cellAt i (by omega)
  have hf := hown.frozenAt i
  obtain ⟨old, hold⟩ : ∃ old, (strs L)[i]? = some old := ⟨_, List.getElem?_eq_getElem (by have := HLN.out; omega)⟩
  rw [hold] at hc
  have HR := Lib.hid (base0 (hown.stored i (.string S)).1)
  rw [HST.out] at HR
  clear hown hgrow hat hold
  go_wp2_with fail
  go_ret
  exact ⟨⟨gN, cap, rfl, HR.out⟩, HB.out.setCell hgN _⟩
end Go.Proofs.Ytdldjpgbifcljaa
