/- Encode: a record's bytes. -/
import Derived.Test.YtpdihgmgcamgkaaPartB
set_option linter.unusedSimpArgs false
set_option maxRecDepth 20000
namespace Go.Proofs.Ytpdihgmgcamgkaa
open Go.RowKit

theorem needM_b (k : Int) : (needM k).most ≤ 256 ∧ (needM k).bytes ≤ 4096 ∧ 0 ≤ (needM k).bytes ∧ 0 ≤ (needM k).most := by
  unfold needM
  repeat' split
  all_goals simp
theorem partsM_mem (N : Nd) : ∀ (l : List Pt) (i : Nat), partsM N i l = true → ∀ p ∈ l, ∃ j, partOk N j p = true := by
  intro l
  induction l with
  | nil => intro i _ p hp; cases hp
  | cons x l ih =>
    intro i h p hp
    unfold partsM at h
    rw [Bool.and_eq_true] at h
    rcases List.mem_cons.1 hp with rfl | hp
    · exact ⟨i, h.1⟩
    · exact ih _ h.2 p hp
theorem partOk_size {N : Nd} {i : Nat} {p : Pt} (h : partOk N i p = true) : p.s.size ≤ 32 := by
  unfold partOk mayBeM at h
  rw [Bool.and_eq_true, Bool.and_eq_true] at h
  have h1 := h.2.1
  split at h1
  · exact ((okB_iff _).1 h1).2.1
  · have : p.s.size = 0 := by simpa using h1
    omega
theorem ptB_len {p : Pt} (hB : PtB p) (h : p.s.size ≤ 32) : (ptB p).length ≤ 60 := by
  unfold ptB
  have h1 := hB.n.1
  have h2 := hB.n.2
  rw [List.length_append]
  have e1 : [(p.k % 256).toNat].length = 1 := rfl
  have n1 := numB_ten (n := p.n.toNat) (by omega)
  have n2 := numB_ten (zig_lt h1 h2)
  have n3 := numB_ten (n := p.s.size) (by omega)
  split
  · omega
  · split
    · omega
    · split
      · rw [List.length_append, nums_len]; omega
      · simp
theorem ptsB_len {l : List Pt} (h : ∀ p ∈ l, PtB p ∧ p.s.size ≤ 32) : (ptsB l).length ≤ 60 * l.length := by
  induction l with
  | nil => simp [ptsB]
  | cons p l ih =>
    have h1 := ptB_len (h p (by simp)).1 (h p (by simp)).2
    have h2 := ih (fun x hx => h x (by simp [hx]))
    rw [ptsB, List.length_append, List.length_cons]
    omega
theorem ptsB_take (l : List Pt) (i : Nat) (h : i < l.length) : ptsB (l.take (i + 1)) = ptsB (l.take i) ++ ptB (l.getD i default) := by
  rw [List.take_succ_eq_append_getElem h, ptsB_append, List.getD_eq_getElem?_getD, List.getElem?_eq_getElem h]
  simp [ptsB]
theorem kept_of_may {r : Rc} (h : mayM r = true) : (needM r.kind).kept = true := by
  unfold mayM at h; rw [Bool.and_eq_true] at h; exact h.1
theorem may_size {r : Rc} (h : mayM r = true) : r.parts.length ≤ 256 ∧ r.bytes.size ≤ 4096 ∧ ∀ p ∈ r.parts, p.s.size ≤ 32 := by
  have hb := needM_b r.kind
  unfold mayM at h
  simp only [Bool.and_eq_true, decide_eq_true_eq] at h
  obtain ⟨_, ⟨_, h2⟩, h3, h4⟩ := h
  unfold bytesM at h4
  simp only [Bool.and_eq_true, decide_eq_true_eq] at h4
  refine ⟨by omega, by omega, fun p hp => ?_⟩
  obtain ⟨j, hj⟩ := partsM_mem _ _ _ h3 p hp
  exact partOk_size hj
/-- Bytes of the call's own, behind others. -/
structure EnR (w wr : World) (v : Value) (bs : List Nat) : Prop where
  below : Below w.heap.size w wr
  made : Made (w.heap.size + 1) wr v bs
def encE (r : Rc) : Int := if (needM r.kind).kept = false then 10 else if mayM r = false then 1 else 0
def encS (r : Rc) : ByteArray := if mayM r = true then strB (rcB r) else ⟨#[]⟩
set_option maxHeartbeats 3200000 in
theorem encode_yes (r : Rc) (q : Option Addr) (c : Nat) (w : World) (hm : mayM r = true) (hB : ∀ p ∈ r.parts, PtB p) (hp : Pts w q r.parts.length r.parts) :
    Calls Try.prog 9 #[r.val q c] w fun e w' => e = .returned (.tuple #[.string (strB (rcB r)), .int .i64 0]) ∧ Below w.heap.size w w' := by
  obtain ⟨hz1, hz2, hz3⟩ := may_size hm
  have hkept := kept_of_may hm
  have HK := Lib.hid (fun w => kept_any r.kind w)
  rw [hkept] at HK
  have HMY := Lib.hid (fun w (h : Pts w q r.parts.length r.parts) => may_rec r q c w (by omega) (by omega) h)
  rw [hm] at HMY
  have HP := Lib.hid hp
  have HZ : Hid (∀ i, i < r.parts.length → PtB (r.parts.getD i default) ∧ (r.parts.getD i default).s.size ≤ 32) := Lib.hid (fun i hi => by
    rw [List.getD_eq_getElem?_getD, List.getElem?_eq_getElem hi]
    exact ⟨hB _ (List.getElem_mem hi), hz3 _ (List.getElem_mem hi)⟩)
  have HLT : Hid (∀ i, i ≤ r.parts.length → (ptsB (r.parts.take i)).length ≤ 60 * 256) := Lib.hid (fun i hi => by
    have := ptsB_len (l := r.parts.take i) (fun p hp => ⟨hB p (List.mem_of_mem_take hp), hz3 p (List.mem_of_mem_take hp)⟩)
    rw [List.length_take] at this
    omega)
  have hw8 : IntKind.u8.wrap r.kind = (((r.kind % 256).toNat : Nat) : Int) := by rw [IntKind.wrap_u8']; omega
  have hkb := kB_lt r.kind
  obtain ⟨i0, hi, hz0, hzs, hzb⟩ := info_parts Try.info5
  have HI := Lib.hid hi
  have HZ0 := Lib.hid hz0
  have HZ1 := Lib.hid hzs
  have HZ2 := Lib.hid hzb
  have HST := Lib.hid (fun i (h : i < r.parts.length) => ptsB_take r.parts i h)
  clear hi hz0 hzs hzb hp hB hkept hm hz3
  obtain ⟨k, l, S⟩ := r
  unfold Rc.val at HMY ⊢
  unfold rcB
  simp only at HK HMY HP HZ HLT HST hw8 hkb hz1 hz2 ⊢
  generalize (k % 256).toNat = x at *
  obtain ⟨n, HN⟩ : ∃ n, Hid (l.length = n) := ⟨_, Lib.hid rfl⟩
  rw [HN.out] at HP HZ HLT HST hz1 HMY ⊢
  have HTK : Hid (l.take n = l) := Lib.hid (by rw [← HN.out, List.take_length])
  obtain ⟨RS, HRS⟩ : ∃ RS, Hid (strB ([x] ++ numB n ++ ptsB l ++ (numB S.size ++ nums S)) = RS) := ⟨_, Lib.hid rfl⟩
  rw [HRS.out]
  go_enter Try.func9, Try.ntmps9
  go_wp2_with fail
  have h1 : (w.alloc (.cells #[.int .i64 k, .slice q n c, .string S] 33)).heap[w.heap.size]? = some (.cells #[.int .i64 k, .slice q n c, .string S] 33 (0, 0)) := heap_alloc_new w _
  have hb1 : Below w.heap.size w (w.alloc (.cells #[.int .i64 k, .slice q n c, .string S] 33)) := (Below.refl _ _).alloc (Nat.le_refl _) _
  refine (HK.out _).mono ?_
  rintro e w2 ⟨rfl, hb2⟩
  have h2 := (hb2.block _ (lt_of_block h1)).trans h1
  have hB2 := hb1.trans (hb2.mono hb1.size)
  have c20 := cell_of_row _ _ 0 _ _ _ h2
  have c21 := cell_of_row _ _ 1 _ _ _ h2
  have c22 := cell_of_row _ _ 2 _ _ _ h2
  simp at c20 c21 c22
  have H2 := Lib.hid h2
  have HB2 := Lib.hid hB2
  clear h1 hb1 hb2 h2 hB2
  go_wp2_with fail
  refine (HMY.out _ (HP.out.below (HB2.out.mono (Nat.le_refl _)))).mono ?_
  rintro e w3 ⟨rfl, hb3⟩
  have H3 := Lib.hid ((hb3.block _ (lt_of_block H2.out)).trans H2.out)
  have HB3 := Lib.hid (HB2.out.trans (hb3.mono HB2.out.size))
  have c30 := cell_of_row _ _ 0 _ _ _ H3.out
  have c31 := cell_of_row _ _ 1 _ _ _ H3.out
  simp at c30 c31
  have HO := Lib.hid (one_bys w3 x hkb)
  have c31a : ∀ ob, (w3.alloc ob).cell? ⟨w.heap.size, 1, none⟩ = some (.slice q n c) := fun ob => (World.cell?_alloc_lt _ _ _ (lt_of_block H3.out)).trans c31
  clear hb3 c20 c21 c22
  go_wp2_with fail
  refine (count_any _ 1 1 [x] n _ (by omega) HO.out ⟨Nat.le_refl _, fun h => by cases h⟩ (by omega) (by omega)).mono ?_
  rintro e w4 ⟨⟨v4, rfl, hM⟩, hb4⟩
  have hb34 : Below w3.heap.size w3 w4 := ((Below.refl w3.heap.size w3).alloc (Nat.le_refl _) _).trans (hb4.mono (by simp))
  have H4 := Lib.hid ((hb34.block _ (lt_of_block H3.out)).trans H3.out)
  have HE4 : Hid (EnR w w4 v4 ([x] ++ numB n)) := Lib.hid ⟨HB3.out.trans (hb34.mono HB3.out.size), by
    have h := hM.low (b2 := w.heap.size + 1) (by have := lt_of_block H3.out; simp; omega)
    rw [show cnt (n : Int) = n by unfold cnt; omega] at h
    exact h⟩
  have c41 := cell_of_row _ _ 1 _ _ _ H4.out
  simp at c41
  have HL10 := Lib.hid (numB_ten (n := n) (by omega))
  clear hM hb4 hb34 c30 c31 c31a
  go_wp2_with fail
  go_loopw [4, 6, 27] (fun bv _ iv wr => ∃ i : Nat, i ≤ n ∧ iv = .int .i64 (i : Int) ∧ Hid (EnR w wr bv ([x] ++ numB n ++ ptsB (l.take i))) ∧ Hid (wr.heap[w.heap.size]? = some (.cells #[.int .i64 k, .slice q n c, .string S] 33 (0, 0)))) (fun _ _ iv _ => n - (intOf iv).toNat)
  case atStart => exact ⟨0, by omega, by go_num, by simpa [ptsB] using HE4, H4⟩
  case round =>
    obtain ⟨i, hi, rfl, HE, H5⟩ := hrel
    by_cases hlt : i < n
    · obtain ⟨b, o, rfl, hc⟩ := (HP.out.below (HE.out.below.mono (Nat.le_refl _))).2 (by omega)
      obtain ⟨p0, p1, p2⟩ := hc i hlt
      have hzi := HZ.out i hlt
      have hst := HST.out i hlt
      have hd1 : decide ((i : Int) < (n : Int)) = true := by simp; omega
      obtain ⟨p, hpe⟩ : ∃ p, l.getD i default = p := ⟨_, rfl⟩
      rw [hpe] at p0 p1 p2 hzi hst
      have HST1 := Lib.hid hst
      have HPB := Lib.hid (fun w => partBytes_any p w hzi.1 (by have := hzi.2; omega))
      have HPL := Lib.hid (ptB_len hzi.1 hzi.2)
      unfold Pt.val at HPB
      have HLi := Lib.hid (HLT.out i hi)
      clear hc hst hzi hpe
      obtain ⟨hbel, p4, cc, rfl, hrow⟩ := HE.out
      have HBEL := Lib.hid hbel
      have HROW := Lib.hid hrow
      clear hbel hrow HE
      generalize hbs : [x] ++ numB n ++ ptsB (l.take i) = bs at *
      have HBL : Hid (bs.length ≤ 16000) := Lib.hid (by rw [← hbs, List.length_append, List.length_append]; have := HLi.out; have := HL10.out; simp; omega)
      have HNX : Hid ([x] ++ numB n ++ ptsB (l.take (i + 1)) = bs ++ ptB p) := Lib.hid (by rw [HST1.out, ← hbs, List.append_assoc, List.append_assoc, List.append_assoc])
      clear hbs
      go_wp2_with fail
      refine (HPB.out _).mono ?_
      rintro e w6 ⟨⟨v, rfl, q6, c6, rfl, hrow6⟩, hb6⟩
      have HB6 : Hid (Below wr.heap.size wr w6) := Lib.hid (((Below.refl wr.heap.size wr).alloc (Nat.le_refl _) _).trans (hb6.mono (by simp)))
      have hlen : 0 < (ptB p).length := by unfold ptB; simp
      have HBY := Lib.hid (Bys.own hrow6 (ptB_dig p))
      obtain ⟨g6, o6, e6, _⟩ := HBY.out.at hlen
      subst e6
      obtain ⟨ad, had, hcells⟩ := HBY.out.cells hlen
      cases had
      have HCE := Lib.hid hcells
      have HRW6 := Lib.hid (own_below HROW.out HB6.out)
      have HLEN := Lib.hid (u8s_len (ptB p))
      have HONE := Lib.hid (u8s_one (ptB p))
      have HSZ := Lib.hid (HBEL.out.trans (HB6.out.mono HBEL.out.size))
      have H56 := Lib.hid ((HB6.out.block _ (lt_of_block H5.out)).trans H5.out)
      have HLT6 : Hid (w.heap.size + 1 ≤ w6.heap.size) := Lib.hid (lt_of_block H56.out)
      clear hrow6 hb6 hcells hlen
      obtain ⟨m, hm⟩ : ∃ m, Hid ((ptB p).length = m) := ⟨_, Lib.hid rfl⟩
      obtain ⟨t, ht⟩ : ∃ t, Hid (bs.length = t) := ⟨_, Lib.hid rfl⟩
      rw [hm.out] at HPL HBY HLEN
      rw [ht.out] at HRW6 HBL
      rw [hm.out, ht.out]
      have hp1 := HPL.out
      have hp2 := HBL.out
      go_wp2_with (at_builtin; refine wpList_append_own _ rfl (.tmp 31) (.tmp 33) 42 rfl (w.heap.size + 1) 5 i0 (.int .u8 0) 1 1 Try.underlying42 HI.out HZ0.out HZ1.out HZ2.out rfl (by decide) _ t _ (by rfl) HRW6.out _ m _ (u8s (ptB p)) (by rfl) (by rw [HLEN.out, Nat.mul_one]) HCE.out HONE.out (by unfold maxLen; omega) (by omega) HLT6.out ?_; intro v' w7 hown hgrow _)
      obtain ⟨q7, c7, rfl⟩ := own_slice hown
      have HE7 : Hid (EnR w w7 (.slice q7 (t + m) c7) ([x] ++ numB n ++ ptsB (l.take (i + 1)))) := Lib.hid ⟨HSZ.out.grown hgrow HSZ.out.size (fun j e => by have := (HRW6.out.lt j e).1; omega), by
        rw [HNX.out]
        refine ⟨q7, c7, by rw [List.length_append, hm.out, ht.out], ?_⟩
        rw [List.length_append, hm.out, ht.out, u8s_append]
        exact hown⟩
      have H57 : Hid (w7.heap[w.heap.size]? = some (.cells #[.int .i64 k, .slice (some ⟨b, o, none⟩) n c, .string S] 33 (0, 0))) := Lib.hid ((hgrow.block _ (lt_of_block H56.out) (fun e => by
        have h1 := (HRW6.out.lt _ e.symm).1
        omega)).trans H56.out)
      clear hown hgrow
      go_roundw
      case rel => exact ⟨i + 1, by omega, by go_num, HE7, H57⟩
      case measure => simp [intOf]; omega
    · obtain rfl : i = n := by omega
      have HE2 : Hid (EnR w wr _ ([x] ++ numB i ++ ptsB l)) := Lib.hid (by have h := HE.out; rw [HTK.out] at h; exact h)
      have hll := HLT.out i (Nat.le_refl _)
      rw [HTK.out] at hll
      obtain ⟨hbel, p4, cc, rfl, hrow⟩ := HE2.out
      have HBEL := Lib.hid hbel
      have HFIT := Lib.hid (own_fit hrow)
      have HBYS := Lib.hid (Bys.own hrow (dig_append (dig_append (by intro y hy; simp at hy; omega) (numB_dig _)) (ptsB_dig l)))
      have c52 := cell_of_row _ _ 2 _ _ _ H5.out
      simp at c52
      obtain ⟨t, ht⟩ : ∃ t, Hid (([x] ++ numB i ++ ptsB l).length = t) := ⟨_, Lib.hid rfl⟩
      have htl : t ≤ 16000 := by rw [← ht.out, List.length_append, List.length_append]; have := HL10.out; simp; omega
      rw [ht.out] at HFIT HBYS
      rw [ht.out]
      clear hbel hrow HE HE2
      obtain ⟨cap, W1, hrun, hbW, hBy, hc1, hc2⟩ := conv_str wr S (by omega)
      have HBX := Lib.hid hBy
      have HBW := Lib.hid hbW
      clear hBy hbW
      go_wp2_with fail
      refine (sized_any _ _ t cc S.size cap _ (nums S) _ (by omega) (by omega) (HBYS.out.below HBW.out) HFIT.out HBX.out ⟨hc1, fun h => by cases h⟩).mono ?_
      rintro e w8 ⟨⟨v8, rfl, q8, c8, rfl, hrow8⟩, hb8⟩
      have hconv := (Bys.own hrow8 (dig_append (dig_append (dig_append (dig_append (by intro y hy; simp at hy; omega) (numB_dig _)) (ptsB_dig l)) (numB_dig _)) (nums_dig S))).conv c8
      have HB8 := Lib.hid ((HBEL.out.trans (HBW.out.mono HBEL.out.size)).trans (hb8.mono (by have := HBEL.out.size; have := HBW.out.size; omega)))
      have HQ : Hid ([x] ++ numB i ++ ptsB l ++ numB S.size ++ nums S = [x] ++ numB i ++ ptsB l ++ (numB S.size ++ nums S)) := Lib.hid (by rw [List.append_assoc _ (numB S.size)])
      clear hrow8 hb8 hrun c52
      generalize ([x] ++ numB i ++ ptsB l ++ numB S.size ++ nums S).length = m8 at hconv ⊢
      rw [HQ.out, HRS.out] at hconv
      go_wp2_with fail
      go_ret2
      exact ⟨rfl, HB8.out⟩
set_option maxHeartbeats 800000 in
theorem encode_keep (r : Rc) (q : Option Addr) (c : Nat) (w : World) (hm : (needM r.kind).kept = false) :
    Calls Try.prog 9 #[r.val q c] w fun e w' => e = .returned (.tuple #[.string ⟨#[]⟩, .int .i64 10]) ∧ Below w.heap.size w w' := by
  have HK := Lib.hid (fun w => kept_any r.kind w)
  rw [hm] at HK
  clear hm
  unfold Rc.val
  go_enter Try.func9, Try.ntmps9
  go_wp2_with fail
  refine (HK.out _).mono ?_
  rintro e w2 ⟨rfl, hb2⟩
  have HB2 : Hid (Below w.heap.size w w2) := Lib.hid (((Below.refl w.heap.size w).alloc (Nat.le_refl _) _).trans (hb2.mono (by simp)))
  clear hb2
  go_wp2_with fail
  go_ret2
  exact ⟨rfl, HB2.out⟩
set_option maxHeartbeats 800000 in
theorem encode_arg (r : Rc) (q : Option Addr) (c : Nat) (w : World) (hk : (needM r.kind).kept = true) (hm : mayM r = false) (hn : r.parts.length ≤ 9223372036854775807) (hS : r.bytes.size ≤ 9223372036854775807) (hp : Pts w q r.parts.length r.parts) :
    Calls Try.prog 9 #[r.val q c] w fun e w' => e = .returned (.tuple #[.string ⟨#[]⟩, .int .i64 1]) ∧ Below w.heap.size w w' := by
  have HK := Lib.hid (fun w => kept_any r.kind w)
  rw [hk] at HK
  have HMY := Lib.hid (fun w (h : Pts w q r.parts.length r.parts) => may_rec r q c w hn hS h)
  rw [hm] at HMY
  have HP := Lib.hid hp
  clear hm hk hp
  unfold Rc.val at HMY ⊢
  go_enter Try.func9, Try.ntmps9
  go_wp2_with fail
  refine (HK.out _).mono ?_
  rintro e w2 ⟨rfl, hb2⟩
  have HB2 : Hid (Below w.heap.size w w2) := Lib.hid (((Below.refl w.heap.size w).alloc (Nat.le_refl _) _).trans (hb2.mono (by simp)))
  have h2 : w2.heap[w.heap.size]? = some (.cells #[.int .i64 r.kind, .slice q r.parts.length c, .string r.bytes] 33 (0, 0)) := (hb2.block _ (by simp)).trans (heap_alloc_new w _)
  have c20 := cell_of_row _ _ 0 _ _ _ h2
  have c21 := cell_of_row _ _ 1 _ _ _ h2
  have c22 := cell_of_row _ _ 2 _ _ _ h2
  simp at c20 c21 c22
  clear hb2 h2
  go_wp2_with fail
  refine (HMY.out _ (HP.out.below (HB2.out.mono (Nat.le_refl _)))).mono ?_
  rintro e w3 ⟨rfl, hb3⟩
  have HB3 := Lib.hid (HB2.out.trans (hb3.mono HB2.out.size))
  clear hb3
  go_wp2_with fail
  go_ret2
  exact ⟨rfl, HB3.out⟩
/-- Encode, for any record. -/
theorem encode_any (r : Rc) (q : Option Addr) (c : Nat) (w : World) (hn : r.parts.length ≤ 9223372036854775807) (hS : r.bytes.size ≤ 9223372036854775807) (hB : ∀ p ∈ r.parts, PtB p) (hp : Pts w q r.parts.length r.parts) :
    Calls Try.prog 9 #[r.val q c] w fun e w' => e = .returned (.tuple #[.string (encS r), .int .i64 (encE r)]) ∧ Below w.heap.size w w' := by
  by_cases hk : (needM r.kind).kept = false
  · have hm : mayM r = false := by unfold mayM; rw [hk]; rfl
    rw [show encS r = ⟨#[]⟩ by unfold encS; rw [hm]; rfl, show encE r = 10 by unfold encE; rw [if_pos hk]]
    exact encode_keep r q c w hk
  · have hk' : (needM r.kind).kept = true := by simpa using hk
    cases hm : mayM r with
    | false =>
      rw [show encS r = ⟨#[]⟩ by unfold encS; rw [hm]; rfl, show encE r = 1 by unfold encE; rw [if_neg hk, hm]; rfl]
      exact encode_arg r q c w hk' hm hn hS hp
    | true =>
      rw [show encS r = strB (rcB r) by unfold encS; rw [hm]; rfl, show encE r = 0 by unfold encE; rw [if_neg hk, hm]; rfl]
      exact encode_yes r q c w hm hB hp
end Go.Proofs.Ytpdihgmgcamgkaa
