/- A number's digits, by the library and by the document. -/
import Derived.Test.YtnagdjgicphknaaDoorStr
import Derived.Test.YtnagdjgicphknaaDoorShelf
import Derived.Lib.AppendIntMem
import Derived.Lib.ItoaMem
import Derived.Lib.Slices
set_option linter.unusedSimpArgs false
set_option maxRecDepth 20000
namespace Go.Proofs.YtnagdjgicphknaaDoor
open Go.RowKit

def kDig : ByteArray := ⟨#[48, 49, 50, 51, 52, 53, 54, 55, 56, 57, 97, 98, 99, 100, 101, 102, 103, 104, 105, 106, 107, 108, 109, 110, 111, 112, 113, 114, 115, 116, 117, 118, 119, 120, 121, 122]⟩
def kTwo : ByteArray := ⟨#[48, 48, 48, 49, 48, 50, 48, 51, 48, 52, 48, 53, 48, 54, 48, 55, 48, 56, 48, 57, 49, 48, 49, 49, 49, 50, 49, 51, 49, 52, 49, 53, 49, 54, 49, 55, 49, 56, 49, 57, 50, 48, 50, 49, 50, 50, 50, 51, 50, 52, 50, 53, 50, 54, 50, 55, 50, 56, 50, 57, 51, 48, 51, 49, 51, 50, 51, 51, 51, 52, 51, 53, 51, 54, 51, 55, 51, 56, 51, 57, 52, 48, 52, 49, 52, 50, 52, 51, 52, 52, 52, 53, 52, 54, 52, 55, 52, 56, 52, 57, 53, 48, 53, 49, 53, 50, 53, 51, 53, 52, 53, 53, 53, 54, 53, 55, 53, 56, 53, 57, 54, 48, 54, 49, 54, 50, 54, 51, 54, 52, 54, 53, 54, 54, 54, 55, 54, 56, 54, 57, 55, 48, 55, 49, 55, 50, 55, 51, 55, 52, 55, 53, 55, 54, 55, 55, 55, 56, 55, 57, 56, 48, 56, 49, 56, 50, 56, 51, 56, 52, 56, 53, 56, 54, 56, 55, 56, 56, 56, 57, 57, 48, 57, 49, 57, 50, 57, 51, 57, 52, 57, 53, 57, 54, 57, 55, 57, 56, 57, 57]⟩
theorem kDig_at : ∀ n, n < 10 → nums (kDig.extract n (n + 1)) = digs n := by decide +kernel
theorem kTwo_at : ∀ n, n < 100 → 10 ≤ n → nums (kTwo.extract (n * 2) (n * 2 + 2)) = digs n := by decide +kernel
theorem digs_dig {n : Nat} (hn : n < 1000) : ∀ x ∈ digs n, x < 256 := by
  intro x hx
  unfold digs at hx
  split at hx
  · simp at hx; omega
  · split at hx
    · simp at hx; omega
    · simp at hx; omega
theorem digs_len (n : Nat) : 1 ≤ (digs n).length ∧ (digs n).length ≤ 3 := by unfold digs; split <;> (try split) <;> simp
/-- The library's table of powers lies in memory. -/
def TabW (w : World) : Prop := Lib.TabIs Tryd.prog w "internal/strconv.uint64pow10" .u64 Lib.pow10Tab
theorem TabW.below {w w' : World} (h : TabW w) (hb : Below w.heap.size w w') : TabW w' := Lib.tabBelow_of_tabIs h w' hb
theorem dec_digs : ∀ (f n : Nat), n < 10 ^ f → n < 1000 → Lib.byteCells (Lib.decDigits n) = u8s (digs n)
  | 0, n, h, _ => by
    obtain rfl : n = 0 := by simpa using h
    rw [Lib.decDigits, dif_pos (by omega)]; rfl
  | f + 1, n, h, hn => by
    by_cases h1 : n < 10
    · rw [Lib.decDigits, dif_pos h1]
      unfold digs
      rw [if_pos h1]
      simp [Lib.byteCells, u8s]
      omega
    · rw [Lib.decDigits, dif_neg h1, Lib.byteCells_append, dec_digs f (n / 10) (by rw [Nat.pow_succ] at h; omega) (by omega), digs_step (by omega) hn, u8s_append]
      congr 1
      simp [Lib.byteCells, u8s]
      omega
/-- Behind a call that appended. -/
structure Apg (w w' : World) (v v' : Value) : Prop where
  grown : w.grownBy w' v.ownBlock
  at_ : v'.ownBlock = v.ownBlock ∨ ∃ b, v'.ownBlock = some b ∧ w.heap.size ≤ b
theorem Apd.apg {w w' : World} {v v' : Value} (h : Apd w w' v v') : Apg w w' v v' := ⟨h.grown, h.at_.imp id (fun e => ⟨_, e, Nat.le_refl _⟩)⟩
theorem Apg.below {w0 w w' : World} {B : Nat} {v v' : Value} {bs : List Nat} (h : Apg w w' v v') (hB : Below B w0 w) (hs : B ≤ w.heap.size) (ho : Byr w B v bs) : Below B w0 w' :=
  hB.grown h.grown hs (fun k e => (ho.lt k e).1)
/-- May this number be written? -/
def NumOk (w : World) (n : Nat) : Prop := n < 100 ∨ (n < 1000 ∧ TabW w)
theorem NumOk.lt {w : World} {n : Nat} (h : NumOk w n) : n < 1000 := by rcases h with h | h <;> omega
theorem NumOk.below {w w' : World} {n : Nat} (h : NumOk w n) (hb : Below w.heap.size w w') : NumOk w' n := h.imp id (fun h => ⟨h.1, h.2.below hb⟩)
theorem small_any (n : Nat) (hn : n < 100) (w : World) : Calls Tryd.prog 35 #[.int .i64 (n : Int)] w fun e w' => e = .returned (.string (strB (digs n))) ∧ w = w' := by
  by_cases h1 : n < 10
  · have hd : decide ((n : Int) < 10) = true := by simp; omega
    have HE : Hid (kDig.extract n (n + 1) = strB (digs n)) := Lib.hid (nums_inj (by rw [nums_strB (digs_dig (by omega))]; exact kDig_at n h1))
    go_enter Tryd.func35, Tryd.ntmps35
    go_wp2_with fail
    go_ret
    exact ⟨congrArg (fun s => Ending.returned (Value.string s)) HE.out, rfl⟩
  · have hd : decide ((n : Int) < 10) = false := by simp; omega
    have HE : Hid (kTwo.extract (n * 2) (n * 2 + 2) = strB (digs n)) := Lib.hid (nums_inj (by rw [nums_strB (digs_dig (by omega))]; exact kTwo_at n hn (by omega)))
    go_enter Tryd.func35, Tryd.ntmps35
    go_wp2_with fail
    go_ret
    exact ⟨congrArg (fun s => Ending.returned (Value.string s)) HE.out, rfl⟩
section
variable {w : World} {B : Nat} {v : Value} {bs : List Nat}
/-- What the three calls that write a number's digits leave. -/
def DigR (w : World) (B : Nat) (v : Value) (bs : List Nat) (n : Nat) (e : Ending) (w' : World) : Prop := ∃ v', e = .returned v' ∧ Byr w' B v' (bs ++ digs n) ∧ Apg w w' v v'
theorem uint_small (h : Byr w B v bs) (hB : B ≤ w.heap.size) (hl : bs.length ≤ 1000) (n : Nat) (hn : n < 100) : Calls Tryd.prog 34 #[v, .int .u64 (n : Int), .int .i64 10] w (DigR w B v bs n) := by
  have HB := Lib.hid h
  have HS := Lib.hid (small_any n hn w)
  have HL : Hid (bs.length + (strB (digs n)).size ≤ 1000000) := Lib.hid (by rw [strB_size]; have := (digs_len n).2; omega)
  have HN : Hid (nums (strB (digs n)) = digs n) := Lib.hid (nums_strB (digs_dig (by omega)))
  obtain ⟨q, c, rfl⟩ := h.form
  have hd : decide ((n : Int) < 100) = true := by simp; omega
  generalize strB (digs n) = S at *
  clear h
  go_enter Tryd.func34, Tryd.ntmps34
  go_wp2_with (first
    | (go_at_call 35; refine HS.out.mono ?_; rintro e w1 ⟨rfl, rfl⟩)
    | (at_builtin; refine wpList_append_str _ rfl (.tmp 13) (.tmp 16) rfl B _ bs rfl HB.out S rfl HL.out hB ?_; intro v1 w1 hv1 ha1))
  go_ret
  exact ⟨_, rfl, by rw [← HN.out]; exact hv1, ha1.apg⟩
set_option maxHeartbeats 12800000 in
set_option maxRecDepth 100000 in
theorem uint_big (h : Byr w B v bs) (hB : B ≤ w.heap.size) (hl : bs.length ≤ 1000) (u : Nat) (hu : 100 ≤ u) (hu2 : u < 1000) (htab : TabW w) : Calls Tryd.prog 34 #[v, .int .u64 (u : Int), .int .i64 10] w (DigR w B v bs u) := by
  have hu1 : 1 ≤ u := by omega
  have hu64 : u < 18446744073709551616 := by omega
  have HOWN := Lib.hid h
  obtain ⟨q, c, rfl⟩ := h.form
  obtain ⟨i0, hi, hz0, hz1, hz2⟩ := info_parts Tryd.info5
  have hnd20 : Lib.nDigits u ≤ 20 := by have := Lib.numDigits_eq u hu1 hu64; split at this <;> omega
  have hal : Tryd.prog.arrayLen 61 = 24 := by simp [Program.arrayLen, Tryd.underlying61]
  have hsl : ∀ W, (Instr.sliceAt 61 (.pointer (some ⟨w.heap.size, 0, none⟩)) none (some (.int .i64 (Lib.nDigits u : Int))) none).run Tryd.prog W = .ok (.slice (some ⟨w.heap.size, 0, none⟩) (Lib.nDigits u) 24) W := fun W => by
    rw [run_sliceAt_array_h W 61 ⟨w.heap.size, 0, none⟩ (by simp [Program.arrayLen, Program.elem, Tryd.underlying61]) .i64 (Lib.nDigits u : Int) (by omega) (by rw [hal]; omega)]
    go_simp
  have hH0 := Lib.holds_zero0 w 61 (Lib.nDigits u) (by omega)
  have hfmt := Tryd.internal_strconv_formatBase10 w.heap.size 0 24 u (Array.replicate (Lib.nDigits u) 0) (w.alloc (.cells Lib.zeros24 61)) hH0 (by rw [Array.size_replicate]; exact Lib.lt_pow_nDigits u) hu64 (by rw [Array.size_replicate]; omega)
  rw [Array.size_replicate] at hfmt
  have HH0 := Lib.hid hH0
  have hd : decide ((u : Int) < 100) = false := by simp; omega
  have HND := Lib.hid (Tryd.internal_strconv_numDigits u hu1 hu64 (w.alloc (.cells Lib.zeros24 61)) (Lib.tabIs_alloc htab _))
  clear hH0 hal h
  go_enter Tryd.func34, Tryd.ntmps34
  go_wp2_with (go_at_call 36; refine HND.out.mono ?_; rintro e w' ⟨rfl, rfl⟩)
  refine hfmt.mono ?_
  rintro e w' ⟨rfl, k, v', dk, rfl, hF⟩
  have hcells : ∀ j u', (Lib.byteCells (Lib.decDigits u))[j]? = some u' → ((Go.Sort.putRow (fun (b : UInt8) => Value.int .u8 (b.toNat : Int)) (w.alloc (.cells Lib.zeros24 61)) w.heap.size 0 dk).drewN k).cell? ((⟨w.heap.size, 0, none⟩ : Addr).add j) = some u' := by
    intro j u' hj
    have hjl : j < (Lib.decDigits u).length := by
      have h5 := (List.getElem?_eq_some_iff.1 hj).1
      rwa [Lib.byteCells_length] at h5
    have e5 : (Lib.byteCells (Lib.decDigits u))[j]? = some (Value.int .u8 ((Lib.decDigits u)[j].toNat : Int)) := by simp [Lib.byteCells, hjl]
    rw [e5] at hj
    cases hj
    rw [Lib.row_is_numeral hF j hjl, Lib.add_plain, World.cell?_drewN]
    exact Go.Sort.cell?_putRow (fun (b : UInt8) => Value.int .u8 (b.toNat : Int)) _ w.heap.size 0 _ dk HH0.out (by rw [hF.size, Array.size_replicate]) j (by rw [hF.size]; rw [Lib.decDigits_length] at hjl; exact hjl)
  obtain ⟨os, eo⟩ := Lib.fin_at w (.cells Lib.zeros24 61) dk k 0
  have HBL : Hid (Below w.heap.size w ((Go.Sort.putRow (fun (b : UInt8) => Value.int .u8 (b.toNat : Int)) (w.alloc (.cells Lib.zeros24 61)) w.heap.size 0 dk).drewN k)) := Lib.hid (by rw [eo]; exact Lib.below_grow w.heap.size w (Nat.le_refl _) k os)
  generalize (Go.Sort.putRow (fun (b : UInt8) => Value.int .u8 (b.toNat : Int)) (w.alloc (.cells Lib.zeros24 61)) w.heap.size 0 dk).drewN k = W2 at hcells HBL ⊢
  have hown2 : W2.ownsRow B 5 1 (.slice q bs.length c) bs.length (u8s bs) := HOWN.out.below HBL.out
  clear eo HH0 hfmt
  have elen : (digs u).length = Lib.nDigits u := by
    have h1 := congrArg List.length (dec_digs 3 u hu2 hu2)
    rw [Lib.byteCells_length, Lib.decDigits_length, u8s_len] at h1
    exact h1.symm
  rw [dec_digs 3 u hu2 hu2] at hcells
  have hby : Bys W2 (some ⟨w.heap.size, 0, none⟩) (Lib.nDigits u) (digs u) := ⟨elen, digs_dig hu2, fun _ => ⟨w.heap.size, 0, rfl, fun i hi => by
    have h1 := hcells i (.int .u8 (((digs u).getD i 0 : Nat) : Int)) (by
      unfold u8s
      rw [List.getElem?_map, List.getD_eq_getElem?_getD, List.getElem?_eq_getElem (by omega)]; rfl)
    rw [Lib.add_plain] at h1
    exact h1⟩⟩
  have HBY := Lib.hid hby
  have hpos : 0 < Lib.nDigits u := by have := (digs_len u).1; omega
  have hB2 : B ≤ W2.heap.size := by have := HBL.out.size; omega
  have HO2 : Hid (Byr W2 B (.slice q bs.length c) bs) := Lib.hid hown2
  have HLN : Hid (bs.length + Lib.nDigits u ≤ 1000000) := Lib.hid (by omega)
  clear hcells hby hown2
  generalize Lib.nDigits u = nd at *
  go_wp2_with (at_builtin; refine wpList_append_byr _ rfl (.tmp 24) (.tmp 26) rfl B (.slice q bs.length c) bs rfl HO2.out _ nd 24 (digs u) rfl HBY.out hpos HLN.out hB2 ?_; intro v2 w3 hv2 ha2)
  go_ret
  have hsz := HBL.out.size
  have hgrow := ha2.grown
  have hsz3 := hgrow.size
  refine ⟨v2, rfl, hv2, ⟨⟨hgrow.os.trans HBL.out.os, hgrow.tape.trans HBL.out.tape, hgrow.output.trans HBL.out.output, by omega, fun k hk hne => (hgrow.block k (by omega) hne).trans (HBL.out.block k hk)⟩, ha2.at_.imp id (fun e => ⟨_, e, hsz⟩)⟩⟩
theorem uint_any (h : Byr w B v bs) (hB : B ≤ w.heap.size) (hl : bs.length ≤ 1000) (n : Nat) (hn : NumOk w n) : Calls Tryd.prog 34 #[v, .int .u64 (n : Int), .int .i64 10] w (DigR w B v bs n) := by
  by_cases h1 : n < 100
  · exact uint_small h hB hl n h1
  · rcases hn with hn | hn
    · omega
    · exact uint_big h hB hl n (by omega) hn.1 hn.2
theorem iint_any (h : Byr w B v bs) (hB : B ≤ w.heap.size) (hl : bs.length ≤ 1000) (n : Nat) (hn : NumOk w n) : Calls Tryd.prog 33 #[v, .int .i64 (n : Int), .int .i64 10] w (DigR w B v bs n) := by
  have HS := Lib.hid (uint_any h hB hl n hn)
  have hn := hn.lt
  obtain ⟨q, c, rfl⟩ := h.form
  have hd : decide ((n : Int) < 0) = false := by simp
  clear h
  go_enter Tryd.func33, Tryd.ntmps33
  go_wp2_with (refine HS.out.mono ?_; rintro e w1 ⟨v1, rfl, h1, h2⟩)
  go_ret
  exact ⟨_, rfl, h1, h2⟩
theorem int_any (h : Byr w B v bs) (hB : B ≤ w.heap.size) (hl : bs.length ≤ 1000) (n : Nat) (hn : NumOk w n) : Calls Tryd.prog 31 #[v, .int .i64 (n : Int), .int .i64 10] w (DigR w B v bs n) := by
  have HS := Lib.hid (iint_any h hB hl n hn)
  obtain ⟨q, c, rfl⟩ := h.form
  clear h
  go_enter Tryd.func31, Tryd.ntmps31
  go_wp2_with (refine HS.out.mono ?_; rintro e w1 ⟨v1, rfl, h1, h2⟩)
  go_ret
  exact ⟨_, rfl, h1, h2⟩
end
end Go.Proofs.YtnagdjgicphknaaDoor
