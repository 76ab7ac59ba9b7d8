/- Pages told in four bytes each. -/
import Derived.Test.YtamfkglkgfggaaaCopy
set_option linter.unusedSimpArgs false
namespace Go.Proofs.Ytamfkglkgfggaaa
open Go.RowKit

/-- A page's four bytes, the highest first. -/
def four (v : Nat) : List Nat := [0, 0, v / 256, v % 256]
def fours (f : Nat → Nat) : Nat → List Nat
  | 0 => []
  | n + 1 => fours f n ++ four (f n)
theorem fours_len (f : Nat → Nat) (n : Nat) : (fours f n).length = 4 * n := by
  induction n with
  | zero => rfl
  | succ n ih => show (fours f n ++ four (f n)).length = _; rw [List.length_append, ih]; show 4 * n + 4 = _; omega
theorem four_dig {v : Nat} (h : v < 512) : ∀ x ∈ four v, x < 256 := by
  intro x hx
  simp [four] at hx
  rcases hx with rfl | rfl | rfl <;> omega
theorem fours_dig {f : Nat → Nat} (h : ∀ j, f j < 512) (n : Nat) : ∀ x ∈ fours f n, x < 256 := by
  induction n with
  | zero => intro x hx; cases hx
  | succ n ih => exact dig_append ih (four_dig (h n))
theorem fours_congr {f g : Nat → Nat} {n : Nat} (h : ∀ j, j < n → f j = g j) : fours f n = fours g n := by
  induction n with
  | zero => rfl
  | succ n ih => show fours f n ++ four (f n) = fours g n ++ four (g n); rw [ih (fun j hj => h j (by omega)), h n (by omega)]
/-- The number of four bytes. -/
def valB (bs : List Nat) (k : Nat) : Nat := bs.getD (4 * k) 0 * 16777216 + bs.getD (4 * k + 1) 0 * 65536 + bs.getD (4 * k + 2) 0 * 256 + bs.getD (4 * k + 3) 0
theorem getD_app_left (a b : List Nat) (i : Nat) (h : i < a.length) : (a ++ b).getD i 0 = a.getD i 0 := by
  rw [List.getD_eq_getElem?_getD, List.getElem?_append_left h, ← List.getD_eq_getElem?_getD]
theorem getD_app_right (a b : List Nat) (i : Nat) : (a ++ b).getD (a.length + i) 0 = b.getD i 0 := by
  rw [List.getD_eq_getElem?_getD, List.getElem?_append_right (by omega), show a.length + i - a.length = i by omega, ← List.getD_eq_getElem?_getD]
theorem valB_app (a b : List Nat) (k : Nat) (h : 4 * k + 4 ≤ a.length) : valB (a ++ b) k = valB a k := by
  unfold valB
  rw [getD_app_left _ _ _ (by omega), getD_app_left _ _ _ (by omega), getD_app_left _ _ _ (by omega), getD_app_left _ _ _ (by omega)]
theorem valB_fours (f : Nat → Nat) (n k : Nat) (h : k < n) : valB (fours f n) k = f k := by
  induction n with
  | zero => omega
  | succ n ih =>
    show valB (fours f n ++ four (f n)) k = _
    by_cases e : k = n
    · subst e
      have hl := fours_len f k
      unfold valB
      rw [show 4 * k = (fours f k).length + 0 by omega, show (fours f k).length + 0 + 1 = (fours f k).length + 1 by omega, show (fours f k).length + 0 + 2 = (fours f k).length + 2 by omega,
        show (fours f k).length + 0 + 3 = (fours f k).length + 3 by omega, getD_app_right, getD_app_right, getD_app_right, getD_app_right]
      show 0 * 16777216 + 0 * 65536 + f k / 256 * 256 + f k % 256 = f k
      omega
    · rw [valB_app _ _ _ (by rw [fours_len]; omega)]
      exact ih (by omega)
theorem fours_inj {f g : Nat → Nat} {n : Nat} (h : fours f n = fours g n) : ∀ j, j < n → f j = g j := by
  intro j hj
  rw [← valB_fours f n j hj, h, valB_fours g n j hj]
theorem fours_zero (n : Nat) : fours (fun _ => 0) n = List.replicate (4 * n) 0 := by
  induction n with
  | zero => rfl
  | succ n ih =>
    show fours _ n ++ four 0 = _
    rw [ih, show 4 * (n + 1) = 4 * n + 4 by omega, ← List.replicate_append_replicate]; rfl

theorem own_cap {w : World} {base E n : Nat} {v : Value} {xs : List Value} (h : w.ownsRow base E 1 v n xs) : ∃ p c, v = .slice p n c ∧ n ≤ c ∧ c ≤ 9223372036854775807 := by
  rcases h.2 with ⟨h0, h1⟩ | ⟨g, cap, cur, e, _, _, hc, hm, _⟩
  · subst h1; exact ⟨none, 0, h0, Nat.le_refl _, by omega⟩
  · exact ⟨_, _, e, hc, by unfold maxLen at hm; omega⟩
theorem wr256 {v : Nat} (h : v < 512) : IntKind.u8.wrap (v : Int) = ((v % 256 : Nat) : Int) := by rw [IntKind.wrap_u8]; omega
set_option maxRecDepth 100000 in
set_option maxHeartbeats 1600000 in
theorem lay_any (g o n c : Nat) (f : Nat → Nat) (w : World) (hn : n ≤ 128) (hf : ∀ j, f j < 512) (hcell : ∀ j, j < n → w.cell? ⟨g, o + j, none⟩ = some (.int .i64 ((f j : Nat) : Int))) :
    Calls Try.prog 35 #[.slice (some ⟨g, o, none⟩) n c] w fun e w' => (∃ p c', e = .returned (.slice p (4 * n) c') ∧ Bys w' p (4 * n) (fours f n) ∧ 4 * n ≤ c' ∧ c' ≤ 9223372036854775807) ∧ Below w.heap.size w w' := by
  obtain ⟨i0, hi, hz0, hz1, hz2⟩ := info_parts Try.info5
  have HN := Lib.hid hn
  have HF := Lib.hid hf
  have HC := Lib.hid hcell
  obtain ⟨C0, hC0⟩ : ∃ C0, C0 = madeCells #[Value.int .u8 0] (4 * n) := ⟨_, rfl⟩
  have hmk : ∀ w : World, (Instr.makeSlice 35 (.int .i64 (0 : Int)) (.int .i64 ((n : Int) * 4))).run Try.prog w = .ok (.slice (some ⟨w.heap.size, 0, none⟩) 0 (4 * n)) (w.alloc (.cells C0 5)) := fun w => by
    obtain ⟨m, hm⟩ : ∃ m, m = 4 * n := ⟨_, rfl⟩
    rw [show (n : Int) * 4 = (m : Int) by omega, hC0, ← hm]
    have h := run_make (P := Try.prog) w 35 5 i0 _ Try.underlying35 hi hz0 .i64 .i64 ((0 : Nat) : Int) (m : Int) (by omega) (by omega) (by rw [hz2]; omega) (by omega)
    rw [hz1, Int.toNat_natCast, Int.toNat_natCast, Nat.mul_one] at h
    exact h
  have HCs : Hid (C0.size = 4 * n) := Lib.hid (by rw [hC0]; simp [madeCells])
  have K0 : Hid ((w.alloc (.cells C0 5)).ownsRow w.heap.size 5 1 (.slice (some ⟨w.heap.size, 0, none⟩) 0 (4 * n)) 0 (u8s [])) := Lib.hid ⟨rfl, .inr ⟨w.heap.size, 4 * n, C0, rfl, Nat.le_refl _, heap_alloc_new w _, Nat.zero_le _, by unfold maxLen; omega, by rw [HCs.out, Nat.mul_one], by simp [u8s]⟩⟩
  have K5 : Hid (Below w.heap.size w (w.alloc (.cells C0 5))) := Lib.hid ((Below.refl _ _).alloc (Nat.le_refl _) _)
  have hnz : (n : Int) ≤ 128 := by omega
  clear hn hf hcell hC0
  go_enter Try.func35, Try.ntmps35
  go_wp2_with fail
  generalize w.alloc (.cells C0 5) = W at *
  go_loopw [12, 3] (fun iv bv wr => ∃ i : Nat, i ≤ n ∧ iv = .int .i64 (i : Int) ∧ wr.ownsRow w.heap.size 5 1 bv (4 * i) (u8s (fours f i)) ∧ Below w.heap.size w wr) (fun iv _ _ => n - (intOf iv).toNat)
  case atStart => exact ⟨0, Nat.zero_le _, by go_num, K0.out, K5.out⟩
  case round =>
    obtain ⟨i, hi1, rfl, hown, hbel⟩ := hrel
    have HO := Lib.hid hown
    have HB := Lib.hid hbel
    have HI := Lib.hid hi1
    clear hown hbel hi1
    by_cases hlt : i < n
    · have hc := (HB.out.cell (p := ⟨g, o + i, none⟩) (World.block_lt_of_cell? w _ (HC.out i hlt))).trans (HC.out i hlt)
      have hv := HF.out i
      have HL := Lib.hid hlt
      have HFS : Hid (u8s (fours f (i + 1)) = u8s (fours f i) ++ u8s (four (f i))) := Lib.hid (u8s_append _ _)
      generalize hvv : f i = v at *
      have HV := Lib.hid hvv
      have hvz : (v : Int) < 512 := by omega
      have hvz0 : (0 : Int) ≤ (v : Int) := by omega
      have d1 : (v : Int) / 16777216 = 0 := by omega
      have d2 : (v : Int) / 65536 = 0 := by omega
      obtain ⟨q, hq⟩ : ∃ q, Hid (v / 256 = q) := ⟨_, Lib.hid rfl⟩
      obtain ⟨r, hr⟩ : ∃ r, Hid (v % 256 = r) := ⟨_, Lib.hid rfl⟩
      have d3 : (v : Int) / 256 = (q : Int) := by have := hq.out; omega
      have d4 : (v : Int) % 256 = (r : Int) := by have := hr.out; omega
      have d5 : (q : Int) < 256 := by have := hq.out; omega
      have d6 : (r : Int) < 256 := by have := hr.out; omega
      have d7 : (q : Int) % 256 = (q : Int) := by omega
      have HFV : Hid (four v = [0, 0, q, r]) := Lib.hid (by unfold four; rw [hq.out, hr.out])
      have HNEW : Hid (∀ (j : Nat) (u : Value), (u8s [0, 0, q, r])[j]? = some u → (wr.alloc (.cells #[.int .u8 0, .int .u8 0, .int .u8 (q : Int), .int .u8 (r : Int)] 5)).cell? ((⟨wr.heap.size, 0, none⟩ : Addr).add j) = some u) := Lib.hid fun j u hj => by
        rw [Addr.add_mid, Nat.zero_add, cell_of_row _ _ j _ _ _ (heap_alloc_new wr _)]
        simpa [u8s] using hj
      clear hlt hvv hv
      go_wp2_with (at_builtin; refine wpList_append_own _ rfl _ _ 35 rfl w.heap.size 5 i0 (.int .u8 0) 1 1 Try.underlying35 hi hz0 hz1 hz2 rfl (by decide) _ (4 * i) _ rfl (World.ownsRow.alloc HO.out _) ⟨wr.heap.size, 0, none⟩ 4 4 (u8s [0, 0, q, r]) rfl rfl HNEW.out ?c2 ?c3 ?c4 ?c5 ?_)
      case c2 => exact u8s_one _
      case c3 => unfold maxLen; have := HN.out; have := HI.out; omega
      case c4 => have := HN.out; have := HI.out; omega
      case c5 => have := HB.out.size; simp; omega
      intro v' w1 hown hgrow hnil
      have HB1 := Lib.hid ((HB.out.alloc HB.out.size (.cells #[.int .u8 0, .int .u8 0, .int .u8 (q : Int), .int .u8 (r : Int)] 5)).grown hgrow (by have := HB.out.size; simp; omega) (by intro k2 hk2; exact (World.ownsRow.lt HO.out k2 hk2).1))
      have hown2 : w1.ownsRow w.heap.size 5 1 v' (4 * (i + 1)) (u8s (fours f (i + 1))) := by rw [HFS.out, HFV.out]; exact hown
      clear hown hgrow hnil
      go_wp2_with fail
      go_roundw
      case rel => exact ⟨i + 1, by have := HL.out; omega, by go_num, hown2, HB1.out⟩
      case measure => have := HL.out; simp [intOf]; omega
    · obtain rfl : i = n := by have := HI.out; omega
      obtain ⟨p', c', rfl, hcap⟩ := own_cap HO.out
      have HCP := Lib.hid hcap
      clear hcap
      have HY : Hid (Bys wr p' (4 * i) (fours f i)) := Lib.hid (Bys.own HO.out (fours_dig HF.out i))
      have hlt2 : ¬ i < i := Nat.lt_irrefl i
      clear hlt
      go_wp2_with fail
      go_ret
      exact ⟨⟨_, _, rfl, HY.out, HCP.out⟩, HB.out⟩
end Go.Proofs.Ytamfkglkgfggaaa
