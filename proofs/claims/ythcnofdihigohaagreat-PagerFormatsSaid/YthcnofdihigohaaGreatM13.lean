/- Texts PTake to PLeaf of this seat, laid into one. -/
import Derived.Laws.EntriesVeiled
import Derived.Shelf.SlIterI.Sorted
import Derived.Shelf.SlIterI.Keys
import Derived.Shelf.Sort.Plain
import Derived.Shelf.Slices.In.SortNone
import Derived.StillTailTactics
import Derived.Test.YthcnofdihigohaaGreatM11
import Derived.Test.YthcnofdihigohaaGreatM12
section
/- The closures of a plan: one page more; a page's write. -/
set_option maxRecDepth 20000
set_option linter.unusedSimpArgs false
namespace Go.Proofs.YthcnofdihigohaaGreat
open Go.RowKit

/-- Block B holds what is left of a row of numbers. -/
structure FreeAt (W : World) (B bf o c : Nat) (L : List Nat) : Prop where
  box : W.heap[B]? = some (.cells #[.slice (some ⟨bf, o, none⟩) L.length c] 62 (0, 0))
  le : L.length ≤ c ∧ o + c ≤ 9223372036854775807
  row : ∃ cs, W.heap[bf]? = some (.cells cs 3 (0, 0)) ∧ ∀ i, i < L.length → cs[o + i]? = some (.int .i64 ((L.getD i 0 : Nat) : Int))
theorem FreeAt.keep {W W' : World} {B bf o c : Nat} {L : List Nat} (h : FreeAt W B bf o c L) (h1 : W'.heap[B]? = W.heap[B]?) (h2 : W'.heap[bf]? = W.heap[bf]?) : FreeAt W' B bf o c L :=
  ⟨h1.trans h.box, h.le, by obtain ⟨cs, hc, hr⟩ := h.row; exact ⟨cs, h2.trans hc, hr⟩⟩
theorem FreeAt.lt {W : World} {B bf o c : Nat} {L : List Nat} (h : FreeAt W B bf o c L) : B < W.heap.size ∧ bf < W.heap.size := ⟨lt_of_block h.box, by obtain ⟨cs, hc, _⟩ := h.row; exact lt_of_block hc⟩
theorem FreeAt.ne {W : World} {B bf o c : Nat} {L : List Nat} (h : FreeAt W B bf o c L) : bf ≠ B := fun e => by
  obtain ⟨cs, hc, _⟩ := h.row
  rw [e, h.box] at hc
  simp at hc
theorem takeP_any {W : World} {B bf o c x : Nat} {L : List Nat} (h : FreeAt W B bf o c (x :: L)) :
    Calls Tryz.prog 91 #[.pointer (some ⟨B, 0, none⟩)] W fun e w' => e = .returned (.int .i64 (x : Int)) ∧ (∃ o c, FreeAt w' B bf o c L) ∧ Only B W w' := by
  have HX := Lib.hid h
  obtain ⟨cs, hcs, hrow⟩ := h.row
  have b0 : W.cell? ⟨B, 0, none⟩ = some (.slice (some ⟨bf, o, none⟩) (L.length + 1) c) := by rw [cell_of_row _ _ _ _ _ _ h.box]; rfl
  have f0 : W.frozen? ⟨B, 0, none⟩ = false := frozen_of_row _ _ 0 _ _ h.box
  have r0 : W.cell? ⟨bf, o, none⟩ = some (.int .i64 (x : Int)) := by
    rw [cell_of_row _ _ _ _ _ _ hcs]
    have := hrow 0 (by simp)
    simpa using this
  have hl1 : L.length + 1 ≤ c := by simpa using h.le.1
  have hl2 := h.le.2
  have HCS := Lib.hid hcs
  have HROW := Lib.hid hrow
  have HLL := Lib.hid (rfl : (x :: L).length = L.length + 1)
  clear h hcs hrow
  obtain ⟨n, hn⟩ : ∃ n, L.length = n := ⟨_, rfl⟩
  rw [hn] at b0 hl1
  have HN := Lib.hid hn
  clear hn
  go_enter Tryz.func91, Tryz.ntmps91
  go_wp2_with fail
  · go_ret
    refine ⟨rfl, ⟨o, 0, ⟨?_, by rw [HN.out]; omega, ?_⟩⟩, Only.setCell B 0 _ _⟩
    · rw [HN.out]; exact heap_setCell_same _ B 0 _ 62 _ HX.out.box
    · exact ⟨cs, (heap_setCell_other _ _ _ _ HX.out.ne).trans HCS.out, fun i hi => by rw [HN.out] at hi; omega⟩
  · go_ret
    refine ⟨rfl, ⟨o + 1, c - 1, ⟨?_, by rw [HN.out]; omega, ?_⟩⟩, Only.setCell B 0 _ _⟩
    · rw [HN.out]; exact heap_setCell_same _ B 0 _ 62 _ HX.out.box
    · refine ⟨cs, (heap_setCell_other _ _ _ _ HX.out.ne).trans HCS.out, fun i hi => ?_⟩
      have h1 := HROW.out (i + 1) (by simp; exact hi)
      rw [show o + 1 + i = o + (i + 1) by omega, h1]
      rfl
/-- What a row of a commit's writes lays out. -/
def wrs (ps : List (Nat × List Nat)) : List Value := ps.flatMap fun p => [.int .i64 ((p.1 : Nat) : Int), .string (strB p.2)]
theorem wrs_len (ps : List (Nat × List Nat)) : (wrs ps).length = ps.length * 2 := by
  unfold wrs
  induction ps with
  | nil => rfl
  | cons a l ih => rw [List.flatMap_cons, List.length_append, ih]; simp; omega
theorem wrs_snoc (ps : List (Nat × List Nat)) (x : Nat) (b : List Nat) : wrs (ps ++ [(x, b)]) = wrs ps ++ [.int .i64 (x : Int), .string (strB b)] := by unfold wrs; rw [List.flatMap_append]; rfl
/-- Block B holds a row of writes of the call's own. -/
def WrsAt (W : World) (base B : Nat) (ps : List (Nat × List Nat)) : Prop := ∃ v, W.heap[B]? = some (.cells #[v] 109 (0, 0)) ∧ W.ownsRow base 142 2 v ps.length (wrs ps)
/-- Only boxes of a plan, and rows of its writes, have changed. -/
structure Gat (base b7 b6 : Nat) (w w' : World) : Prop where
  os : w'.os = w.os
  tape : w'.tape = w.tape
  output : w'.output = w.output
  size : w.heap.size ≤ w'.heap.size
  block : ∀ k, k < w.heap.size → k ≠ b7 → k ≠ b6 → (k < base ∨ ∀ cs fr, w.heap[k]? ≠ some (.cells cs 142 fr)) → w'.heap[k]? = w.heap[k]?
theorem Tryz.info142 : (Tryz.prog.info? 142).map (fun i => (i.zero, i.size, i.bytes)) = some (some (.agg #[.int .i64 0, .string ByteArray.empty]), 2, 24) := by kernel_rfl
/-- The gathering closure's boxes. -/
structure GatAt (W : World) (base b8 b7 b6 bf : Nat) (L : List Nat) (ps : List (Nat × List Nat)) : Prop where
  x8 : W.heap[b8]? = some (.cells #[.func (.func 91) #[] #[.pointer (some ⟨b7, 0, none⟩)]] 42 (0, 0))
  fr : ∃ o c, FreeAt W b7 bf o c L
  wr : WrsAt W base b6 ps
  ne : b7 ≠ b6 ∧ b8 ≠ b7 ∧ b8 ≠ b6 ∧ bf ≠ b6
  hi : base ≤ b6 ∧ base ≤ b7
theorem wr_ne {W : World} {base k : Nat} {v : Value} {n : Nat} {xs : List Value} (h : W.ownsRow base 142 2 v n xs) (hk : k < base ∨ ∀ cs fr, W.heap[k]? ≠ some (.cells cs 142 fr)) : some k ≠ v.ownBlock := fun e => by
  rcases hk with hk | hk
  · have := (h.lt k e.symm).1; omega
  rcases h.2 with ⟨rfl, _⟩ | ⟨g, cap, cur, rfl, _, hg, _⟩
  · cases e
  · have e2 : k = g := by simpa [Value.ownBlock] using e
    exact hk _ _ (e2 ▸ hg)
set_option maxHeartbeats 1600000 in
theorem gather_any {W : World} {base b8 b7 b6 bf x : Nat} {L : List Nat} {ps : List (Nat × List Nat)} (h : GatAt W base b8 b7 b6 bf (x :: L) ps) (b : List Nat) (hn : ps.length ≤ 4096) :
    Calls Tryz.prog 92 #[.string (strB b), .pointer (some ⟨b8, 0, none⟩), .pointer (some ⟨b6, 0, none⟩)] W fun e w' => e = .returned (.int .i64 (x : Int)) ∧ GatAt w' base b8 b7 b6 bf L (ps ++ [(x, b)]) ∧ Gat base b7 b6 W w' := by
  obtain ⟨i0, hi, hz0, hz1, hz2⟩ := info_parts Tryz.info142
  have HI := Lib.hid hi
  have HZ0 := Lib.hid hz0
  have HZ1 := Lib.hid hz1
  have HZ2 := Lib.hid hz2
  obtain ⟨o, c, hf⟩ := h.fr
  have HTK := Lib.hid (takeP_any hf)
  have c8 : W.cell? ⟨b8, 0, none⟩ = some (.func (.func 91) #[] #[.pointer (some ⟨b7, 0, none⟩)]) := by rw [cell_of_row _ _ _ _ _ _ h.x8]; rfl
  obtain ⟨v, hv, ho⟩ := h.wr
  have HX := Lib.hid h
  have HO := Lib.hid ho
  have HV := Lib.hid hv
  have HF := Lib.hid hf
  have HNN := Lib.hid hn
  clear hi hz0 hz1 hz2 hf ho hv h hn
  obtain ⟨S, hS⟩ : ∃ S, strB b = S := ⟨_, rfl⟩
  have HS := Lib.hid hS
  rw [hS]
  clear hS
  go_enter Tryz.func92, Tryz.ntmps92
  go_upto_region 2 with (go_at_call 91; refine HTK.out.mono ?_; rintro e w1 ⟨rfl, hF1, hO1⟩)
  have hv1 : w1.heap[b6]? = some (.cells #[v] 109 (0, 0)) := (hO1.block b6 (lt_of_block HV.out) (Ne.symm HX.out.ne.1)).trans HV.out
  have n7 : some b7 ≠ v.ownBlock := wr_ne HO.out (.inr fun cs fr e => by rw [HF.out.box] at e; simp at e)
  have hgr1 : W.grownBy w1 (some b7) := ⟨hO1.os, hO1.tape, hO1.output, hO1.size, fun k hk hne => hO1.block k hk (fun e => hne (by rw [e]))⟩
  have HO1 := Lib.hid (HO.out.kept hgr1 (.inr (fun e => n7 e.symm)))
  have HV1 := Lib.hid hv1
  have HB1 := Lib.hid hO1
  obtain ⟨o1, c1, hF1⟩ := hF1
  have HF1 := Lib.hid hF1
  have e8 : w1.heap[b8]? = some (.cells #[.func (.func 91) #[] #[.pointer (some ⟨b7, 0, none⟩)]] 42 (0, 0)) := (hO1.block b8 (lt_of_block HX.out.x8) HX.out.ne.2.1).trans HX.out.x8
  have HE8 := Lib.hid e8
  have k6 : w1.cell? ⟨b6, 0, none⟩ = some v := by rw [cell_of_row _ _ _ _ _ _ hv1]; rfl
  have f6 : w1.frozen? ⟨b6, 0, none⟩ = false := frozen_of_row _ _ 0 _ _ hv1
  have HLB : Hid (base ≤ w1.heap.size) := Lib.hid (Nat.le_trans HX.out.hi.1 (Nat.le_of_lt (lt_of_block hv1)))
  have HWS := Lib.hid (wrs_snoc ps x b)
  rw [HS.out] at HWS
  have HPL : Hid ((ps ++ [(x, b)]).length = ps.length + 1) := Lib.hid (by simp)
  clear hO1 hv1 hgr1 n7 hF1 c8 e8 HTK
  generalize ps.length = m at *
  generalize wrs ps = ws at *
  go_wp2_with (at_builtin; refine wpList_append_own _ rfl _ _ 109 rfl base 142 i0 (.agg #[.int .i64 0, .string ByteArray.empty]) 2 24 Tryz.underlying109 HI.out HZ0.out HZ1.out HZ2.out rfl (by decide) _ m _ rfl (World.ownsRow.alloc HO1.out _) ⟨w1.heap.size, 0, none⟩ 1 1 [.int .i64 (x : Int), .string S] rfl rfl (World.news_of_block (heap_alloc_new w1 _)) ?c2 ?c3 ?c4 ?c5 ?_)
  case c2 => intro v hv; simp at hv; rcases hv with rfl | rfl <;> rfl
  case c3 => unfold maxLen; have := HNN.out; omega
  case c4 => have := HNN.out; omega
  case c5 => have := HLB.out; simp; omega
  intro v' w3 hown hgrow _
  have hne6 : some b6 ≠ v.ownBlock := wr_ne HO1.out (.inr fun cs fr e => by rw [HV1.out] at e; simp at e)
  have hv3 : w3.heap[b6]? = some (.cells #[v] 109 (0, 0)) := (hgrow.block b6 (by have := lt_of_block HV1.out; simp; omega) hne6).trans (((alloc_below w1 _).block b6 (lt_of_block HV1.out)).trans HV1.out)
  have k63 : w3.cell? ⟨b6, 0, none⟩ = some v := by rw [cell_of_row _ _ _ _ _ _ hv3]; rfl
  have f63 : w3.frozen? ⟨b6, 0, none⟩ = false := frozen_of_row _ _ 0 _ _ hv3
  have HV3 := Lib.hid hv3
  have HOW := Lib.hid hown
  have HGR := Lib.hid hgrow
  obtain ⟨g', cap', rfl⟩ : ∃ g' cap', v' = .slice (some ⟨g', 0, none⟩) (m + 1) cap' := by
    rcases hown.2 with ⟨_, h0⟩ | ⟨g1, cap1, cur1, rfl, _⟩
    · omega
    · exact ⟨_, _, rfl⟩
  clear hown hgrow hne6 hv3
  go_wp2_with fail
  go_ret
  have hg4 := grownBy_setCell' w3 b6 (.slice (some ⟨g', 0, none⟩) (m + 1) cap')
  have hst : ∀ k, k < w1.heap.size → k ≠ b6 → (k < base ∨ ∀ cs fr, w1.heap[k]? ≠ some (.cells cs 142 fr)) → (w3.setCell ⟨b6, 0, none⟩ (.slice (some ⟨g', 0, none⟩) (m + 1) cap')).heap[k]? = w1.heap[k]? := fun k hk h6 ht =>
    (heap_setCell_other _ _ _ _ h6).trans ((HGR.out.block k (by simp; omega) (wr_ne HO1.out ht)).trans ((alloc_below w1 _).block k hk))
  have hne4 : (Value.slice (some ⟨g', 0, none⟩) (m + 1) cap').ownBlock ≠ some b6 := fun e => wr_ne HOW.out (.inr fun cs fr e2 => by rw [HV3.out] at e2; simp at e2) e.symm
  have hgs : w1.heap.size ≤ w3.heap.size := by have := HGR.out.size; simp at this; omega
  refine ⟨rfl, ⟨?_, ⟨o1, c1, HF1.out.keep ?_ ?_⟩, ⟨_, heap_setCell_same _ b6 0 _ 109 _ HV3.out, ?_⟩, HX.out.ne, HX.out.hi⟩, ?_⟩
  · exact (hst b8 (lt_of_block HE8.out) HX.out.ne.2.2.1 (.inr fun cs fr e => by rw [HE8.out] at e; simp at e)).trans HE8.out
  · exact hst b7 HF1.out.lt.1 HX.out.ne.1 (.inr fun cs fr e => by rw [HF1.out.box] at e; simp at e)
  · obtain ⟨cs0, hcs0, _⟩ := HF1.out.row
    exact hst bf HF1.out.lt.2 HX.out.ne.2.2.2 (.inr fun cs fr e => by rw [hcs0] at e; simp at e)
  · rw [HPL.out, HWS.out]
    exact HOW.out.kept hg4 (.inr hne4)
  · refine ⟨HGR.out.os.trans HB1.out.os, HGR.out.tape.trans HB1.out.tape, HGR.out.output.trans HB1.out.output, ?_, fun k hk h7 h6 ht => ?_⟩
    · have h1 := HB1.out.size
      have h2 := hg4.size
      exact Nat.le_trans h1 (Nat.le_trans hgs h2)
    · have h1 := HB1.out.block k hk h7
      exact (hst k (Nat.lt_of_lt_of_le hk HB1.out.size) h6 (ht.imp id (fun ht cs fr e => ht cs fr (h1 ▸ e)))).trans h1
end Go.Proofs.YthcnofdihigohaaGreat
end
section
/- The keys of the new pages, rising. -/
set_option maxRecDepth 20000
set_option linter.unusedSimpArgs false
namespace Go.Proofs.YthcnofdihigohaaGreat
open Go.RowKit Go.Maps Go.MapKept
open Go.WideElems (rd rg pl rd_key rd_val rg_of rd_mk)
open Go.WideShapes (sorted_perm)

theorem keys_pairwise (f : Pgs) : (f.keys.map fun l => ((l : Nat) : Int)).Pairwise (fun a b => leI a b = true) := by
  refine List.pairwise_map.2 ?_
  unfold Pgs.keys
  refine List.Pairwise.filter _ (List.Pairwise.imp (R := (· < ·)) ?_ List.pairwise_lt_range)
  intro a b h
  simp [leI]; omega
theorem frm_intKeys {w : World} {b : Nat} {es : Array MapEntry} {clock : Nat} {f : Pgs} (h : Frm w b es clock f) :
    (intKeys (DataW.map ((es.toList.map (rg Tryz.prog 3 contR)).foldr DataW.insert []))).Perm (f.keys.map fun l => ((l : Nat) : Int)) := by
  have h1 : (intKeys (DataW.map ((es.toList.map (rg Tryz.prog 3 contR)).foldr DataW.insert []))).Perm ((es.toList.map (rg Tryz.prog 3 contR)).map fun p => Go.intOf p.1) := (sorted_perm _).map _
  refine h1.trans ?_
  rw [List.map_map]
  have h2 : (es.toList.map ((fun p => Go.intOf p.1) ∘ rg Tryz.prog 3 contR)) = (es.toList.map Go.Proofs.YthcnofdihigohaaGreat.keyN).map fun l => ((l : Nat) : Int) := by
    rw [List.map_map]
    refine List.map_congr_left fun x hx => ?_
    show Go.intOf (rg Tryz.prog 3 contR x).1 = _
    rw [frm_rgKey h hx]; rfl
  rw [h2]
  exact h.perm.map _
theorem sorted_keys {w : World} {b : Nat} {es : Array MapEntry} {clock : Nat} {f : Pgs} (h : Frm w b es clock f) {ss : List Int}
    (hp : ss.Perm (intKeys (DataW.map ((es.toList.map (rg Tryz.prog 3 contR)).foldr DataW.insert [])))) : ss.mergeSort leI = f.keys.map fun l => ((l : Nat) : Int) := by
  rw [mergeSort_of_perm_i (hp.trans (frm_intKeys h))]
  exact List.mergeSort_of_pairwise (keys_pairwise f)
end Go.Proofs.YthcnofdihigohaaGreat
end
section
/- The keys of the new pages, sorted. -/
set_option maxRecDepth 20000
set_option linter.unusedSimpArgs false
namespace Go.Proofs
open Go.Shelf
def Tryz.keysA_ren : Go.Shelf.Ren := ⟨fun | 7 => 94 | 10 => 121 | n => n, fun | 23 => 82 | 26 => 3 | 3 => 117 | 28 => 98 | 0 => 0 | 27 => 97 | 33 => 23 | 4 => 4 | n => n, fun | n => n⟩
theorem Tryz.keysA : Go.Proofs.SlLaysZI.n7 Tryz.prog Tryz.keysA_ren := {
  mixed := by kernel_rfl
  f7 := ⟨Tryz.f94.name, by decide, Tryz.func94.trans (congrArg some (by kernel_rfl))⟩
  f10 := ⟨Tryz.f121.name, by decide, Tryz.func121.trans (congrArg some (by kernel_rfl))⟩
  t0 := Tryz.underlying0
  a0 := Tryz.isAgg0
  z0 := Tryz.sizeOf0
  v0 := Tryz.zeroValue0
  t4 := Tryz.underlying4
  a4 := Tryz.isAgg4
  z4 := Tryz.sizeOf4
  v4 := Tryz.zeroValue4
  t23 := Tryz.underlying82
  a23 := Tryz.isAgg82
  z23 := Tryz.sizeOf82
  v23 := Tryz.zeroValue82
  t26 := Tryz.underlying3
  a26 := Tryz.isAgg3
  z26 := Tryz.sizeOf3
  v26 := Tryz.zeroValue3
  t27 := Tryz.underlying97
  a27 := Tryz.isAgg97
  z27 := Tryz.sizeOf97
  v27 := Tryz.zeroValue97
  t28 := Tryz.underlying98
  a28 := Tryz.isAgg98
  z28 := Tryz.sizeOf98
  v28 := Tryz.zeroValue98
  t33 := Tryz.underlying23
  a33 := Tryz.isAgg23
  z33 := Tryz.sizeOf23
  v33 := Tryz.zeroValue23 }
def Tryz.sortedA_ren : Go.Shelf.Ren := ⟨fun | 6 => 93 | 8 => 90 | 9 => 120 | 11 => 119 | 13 => 145 | 12 => 144 | 23 => 159 | 24 => 160 | 14 => 150 | 15 => 151 | 16 => 152 | 17 => 153 | 18 => 154 | 19 => 155 | 20 => 156 | 21 => 157 | 22 => 158 | 25 => 164 | 26 => 165 | 27 => 166 | 28 => 167 | 29 => 168 | 30 => 169 | 31 => 171 | n => n, fun | 26 => 3 | 28 => 98 | 24 => 62 | 0 => 0 | 3 => 3 | 37 => 188 | 48 => 200 | 50 => 202 | 4 => 4 | 40 => 194 | 39 => 193 | 45 => 119 | 5 => 5 | 9 => 9 | 51 => 205 | 55 => 209 | 57 => 212 | 58 => 213 | 33 => 23 | n => n, fun | n => n⟩
theorem Tryz.sortedA : Go.Proofs.SlLaysZI.n6 Tryz.prog Tryz.sortedA_ren := {
  mixed := by kernel_rfl
  f6 := ⟨Tryz.f93.name, by decide, Tryz.func93.trans (congrArg some (by kernel_rfl))⟩
  f8 := ⟨Tryz.f90.name, by decide, Tryz.func90.trans (congrArg some (by kernel_rfl))⟩
  f11 := ⟨Tryz.f119.name, by decide, Tryz.func119.trans (congrArg some (by kernel_rfl))⟩
  t0 := Tryz.underlying0
  a0 := Tryz.isAgg0
  z0 := Tryz.sizeOf0
  v0 := Tryz.zeroValue0
  t24 := Tryz.underlying62
  a24 := Tryz.isAgg62
  z24 := Tryz.sizeOf62
  v24 := Tryz.zeroValue62
  t26 := Tryz.underlying3
  a26 := Tryz.isAgg3
  z26 := Tryz.sizeOf3
  v26 := Tryz.zeroValue3
  t28 := Tryz.underlying98
  a28 := Tryz.isAgg98
  z28 := Tryz.sizeOf98
  v28 := Tryz.zeroValue98
  i26 := by kernel_rfl }
def Tryz.sortA_ren : Go.Shelf.Ren := ⟨fun | 189 => 120 | 125 => 145 | 257 => 144 | 128 => 159 | 129 => 160 | 294 => 150 | 295 => 151 | 296 => 152 | 297 => 153 | 298 => 154 | 299 => 155 | 216 => 156 | 300 => 157 | 301 => 158 | 328 => 164 | 329 => 165 | 330 => 166 | 331 => 167 | 332 => 168 | 215 => 169 | 343 => 171 | n => n, fun | 28 => 62 | 3 => 3 | 46 => 188 | 0 => 0 | 51 => 200 | 53 => 202 | 4 => 4 | 183 => 194 | 182 => 193 | 131 => 119 | 5 => 5 | 9 => 9 | 218 => 205 | 222 => 209 | 228 => 212 | 229 => 213 | n => n, fun | n => n⟩
theorem Tryz.sortA : Go.Proofs.Lays.n189 Tryz.prog Tryz.sortA_ren := {
  mixed := by kernel_rfl
  f125 := Tryz.func145.trans (congrArg some (by kernel_rfl))
  f128 := Tryz.func159.trans (congrArg some (by kernel_rfl))
  f129 := Tryz.func160.trans (congrArg some (by kernel_rfl))
  f189 := Tryz.func120.trans (congrArg some (by kernel_rfl))
  f215 := Tryz.func169.trans (congrArg some (by kernel_rfl))
  f216 := Tryz.func156.trans (congrArg some (by kernel_rfl))
  f257 := Tryz.func144.trans (congrArg some (by kernel_rfl))
  f294 := Tryz.func150.trans (congrArg some (by kernel_rfl))
  f295 := Tryz.func151.trans (congrArg some (by kernel_rfl))
  f296 := Tryz.func152.trans (congrArg some (by kernel_rfl))
  f297 := Tryz.func153.trans (congrArg some (by kernel_rfl))
  f298 := Tryz.func154.trans (congrArg some (by kernel_rfl))
  f299 := Tryz.func155.trans (congrArg some (by kernel_rfl))
  f300 := Tryz.func157.trans (congrArg some (by kernel_rfl))
  f301 := Tryz.func158.trans (congrArg some (by kernel_rfl))
  f328 := Tryz.func164.trans (congrArg some (by kernel_rfl))
  f329 := Tryz.func165.trans (congrArg some (by kernel_rfl))
  f330 := Tryz.func166.trans (congrArg some (by kernel_rfl))
  f331 := Tryz.func167.trans (congrArg some (by kernel_rfl))
  f332 := Tryz.func168.trans (congrArg some (by kernel_rfl))
  f343 := Tryz.func171.trans (congrArg some (by kernel_rfl))
  t0 := Tryz.underlying0
  a0 := Tryz.isAgg0
  z0 := Tryz.sizeOf0
  v0 := Tryz.zeroValue0
  t3 := Tryz.underlying3
  a3 := Tryz.isAgg3
  z3 := Tryz.sizeOf3
  v3 := Tryz.zeroValue3
  t4 := Tryz.underlying4
  a4 := Tryz.isAgg4
  z4 := Tryz.sizeOf4
  v4 := Tryz.zeroValue4
  t5 := Tryz.underlying5
  a5 := Tryz.isAgg5
  z5 := Tryz.sizeOf5
  v5 := Tryz.zeroValue5
  t9 := Tryz.underlying9
  a9 := Tryz.isAgg9
  z9 := Tryz.sizeOf9
  v9 := Tryz.zeroValue9
  t28 := Tryz.underlying62
  a28 := Tryz.isAgg62
  z28 := Tryz.sizeOf62
  v28 := Tryz.zeroValue62
  t46 := Tryz.underlying188
  a46 := Tryz.isAgg188
  z46 := Tryz.sizeOf188
  v46 := Tryz.zeroValue188
  t51 := Tryz.underlying200
  a51 := Tryz.isAgg200
  z51 := Tryz.sizeOf200
  v51 := Tryz.zeroValue200
  t53 := Tryz.underlying202
  a53 := Tryz.isAgg202
  z53 := Tryz.sizeOf202
  v53 := Tryz.zeroValue202
  t131 := Tryz.underlying119
  a131 := Tryz.isAgg119
  z131 := Tryz.sizeOf119
  v131 := Tryz.zeroValue119
  t182 := Tryz.underlying193
  a182 := Tryz.isAgg193
  z182 := Tryz.sizeOf193
  v182 := Tryz.zeroValue193
  t183 := Tryz.underlying194
  a183 := Tryz.isAgg194
  z183 := Tryz.sizeOf194
  v183 := Tryz.zeroValue194
  t218 := Tryz.underlying205
  a218 := Tryz.isAgg205
  z218 := Tryz.sizeOf205
  v218 := Tryz.zeroValue205
  t222 := Tryz.underlying209
  a222 := Tryz.isAgg209
  z222 := Tryz.sizeOf209
  v222 := Tryz.zeroValue209
  t228 := Tryz.underlying212
  a228 := Tryz.isAgg212
  z228 := Tryz.sizeOf212
  v228 := Tryz.zeroValue212
  t229 := Tryz.underlying213
  a229 := Tryz.isAgg213
  z229 := Tryz.sizeOf213
  v229 := Tryz.zeroValue213 }
end Go.Proofs
namespace Go.Proofs.YthcnofdihigohaaGreat
open Go.RowKit Go.Maps Go.MapKept Go.Shelf Go.Sort
open Go.WideElems (rd rg pl rd_key rd_val rg_of rd_mk)

theorem sorts (m : Nat) : AnyZI.SortsIn Tryz.prog Tryz.sortedA_ren Fence.wide m :=
  ⟨fun blk off cap ss W hH hblk hsz => callsIn_wide.2 (Any.slices_Sort_int Tryz.sortA blk off cap ss W hH hblk hsz),
   fun p cap W => callsIn_wide.2 (Any.slices_Sort_int_none Tryz.sortA p cap W)⟩
theorem keys94 (mb : Option Nat) (W : World) : Calls Tryz.prog 94 #[.map mb] W fun e w' => e = .returned (.func (.func 121) #[] #[.pointer (some ⟨W.heap.size, 0, none⟩)]) ∧ w' = W.alloc (.cells #[.map mb] 82) :=
  (callsIn_wide (n := 5)).1 (AnyZI.keys_in Tryz.keysA Fence.wide 5 trivial rfl mb W)
theorem sorted93 {w : World} {mb : Nat} {f : Pgs} (h : Frs w mb f) :
    Calls Tryz.prog 93 #[.func (.func 121) #[] #[.pointer (some ⟨w.heap.size, 0, none⟩)]] (w.alloc (.cells #[.map (some mb)] 82)) fun e w' => (∃ v, e = .returned v ∧ OwnI w' (w.heap.size + 1) v f.keys) ∧ Below (w.alloc (.cells #[.map (some mb)] 82)).heap.size (w.alloc (.cells #[.map (some mb)] 82)) w' := by
  obtain ⟨D, hown, es, clock, hF, hD⟩ := h.owns
  have hlt := h.lt
  have hsz : Maps.size D ≤ 512 := by
    have h1 := (frm_intKeys hF).length_eq
    rw [← hD] at h1
    have h2 := f.keys_le
    rw [List.length_map] at h1
    rw [hD] at h1 ⊢
    simp only [intKeys, List.length_map] at h1
    show List.length _ ≤ 512
    omega
  have hseq : SeqGives Fence.wide 2 Tryz.prog 121 #[.pointer (some ⟨w.heap.size, 0, none⟩)] encZ (fun ss => ss.Perm (intKeys D)) (Maps.size D) (w.alloc (.cells #[.map (some mb)] 82)) :=
    AnyZI.keys_gives (ρ := Tryz.keysA_ren) { Tryz.keysA with } Fence.wide _ trivial rfl (by omega) w.heap.size mb 512 D _ (by simp) (by simp) (by
      obtain ⟨es, clock, hb, Ft, hs, hD⟩ := hown
      exact ⟨es, clock, (Below.heap_alloc _ _ mb hlt).trans hb, Ft, hs, hD⟩)
  have cS := AnyZI.sorted_in Tryz.sortedA Fence.wide 5 trivial trivial trivial trivial rfl (by omega) (sorts _) (enters_of Tryz.func120 (by kernel_rfl) rfl) 121 #[.pointer (some ⟨w.heap.size, 0, none⟩)] trivial (enters_of Tryz.func121 (by kernel_rfl) rfl) _ _ (by unfold maxLen; omega) (by omega) _ hseq
  refine ((callsIn_wide (n := 5)).1 cS).mono ?_
  rintro e w' ⟨v, ss, rfl, hS, hrow, _, hb⟩
  refine ⟨⟨v, rfl, ?_⟩, hb⟩
  have hl : ss.length = f.keys.length := by
    have h1 := (hS.trans (hD ▸ frm_intKeys hF)).length_eq
    rwa [List.length_map] at h1
  rw [hD] at hS
  have hk := sorted_keys hF hS
  unfold OwnI
  rw [← hl]
  have e1 : (f.keys.map fun l => ((l : Nat) : Int)).map encZ = Tb.ivs f.keys := by unfold Tb.ivs; rw [List.map_map]; rfl
  rw [← e1, ← hk, ← show (w.alloc (.cells #[.map (some mb)] 82)).heap.size = w.heap.size + 1 by simp]
  exact hrow
end Go.Proofs.YthcnofdihigohaaGreat
end
section
/- All pages that a state lies on. -/
set_option maxRecDepth 20000
set_option linter.unusedSimpArgs false
namespace Go.Proofs.YthcnofdihigohaaGreat
open Go.RowKit Go.Shelf
attribute [local go_sem] Oper.semAt_some

theorem clm_foldl_app (pg : Int) (c : (Nat → Bool) × Bool) (a b : List Int) : (a ++ b).foldl (clm pg) c = b.foldl (clm pg) (a.foldl (clm pg) c) := List.foldl_append ..
/-- What is claimed of the leaves ahead of some. -/
def lvL (lv : Nat → Nat) (i : Nat) : List Int := ((List.range i).filter fun i => !(lv i == 0)).map fun i => ((lv i : Nat) : Int)
theorem lvL_succ (lv : Nat → Nat) (i : Nat) : lvL lv (i + 1) = lvL lv i ++ (if lv i = 0 then [] else [((lv i : Nat) : Int)]) := by
  unfold lvL
  rw [List.range_succ, List.filter_append, List.map_append]
  congr 1
  by_cases h : lv i = 0
  · simp [h]
  · simp [h]
/-- Amid the claims of a state. -/
structure Amid (w wr : World) (B1 B2 B3 B6 g pt gu bu : Nat) (pu : Option Addr) (r : Rt) (lv tb : Nat → Nat) (c : (Nat → Bool) × Bool) : Prop where
  cl : Clm wr B1 B2 B3 g pt gu bu pu r lv tb c
  c6 : wr.cell? ⟨B6, 0, none⟩ = some (.func (.func 124) #[] #[.pointer (some ⟨B1, 0, none⟩), .pointer (some ⟨B2, 0, none⟩), .pointer (some ⟨B3, 0, none⟩)])
  bel : Below w.heap.size w wr
  n6 : B6 ≠ bu ∧ B6 ≠ B3
  hi : w.heap.size ≤ bu ∧ w.heap.size ≤ B3
theorem Amid.below {w wr w' : World} {B1 B2 B3 B6 g pt gu bu : Nat} {pu : Option Addr} {r : Rt} {lv tb : Nat → Nat} {c : (Nat → Bool) × Bool} (h : Amid w wr B1 B2 B3 B6 g pt gu bu pu r lv tb c) (hb : Below wr.heap.size wr w') : Amid w w' B1 B2 B3 B6 g pt gu bu pu r lv tb c :=
  ⟨h.cl.below hb, (hb.cell (p := ⟨B6, 0, none⟩) (World.block_lt_of_cell? wr _ h.c6)).trans h.c6, Below.more h.bel hb h.bel.size, h.n6, h.hi⟩
theorem Amid.grown {w wr w' : World} {B1 B2 B3 B6 g pt gu bu : Nat} {pu : Option Addr} {r : Rt} {lv tb : Nat → Nat} {c : (Nat → Bool) × Bool} (h : Amid w wr B1 B2 B3 B6 g pt gu bu pu r lv tb c) {row : Option Nat} (hg : wr.grownBy w' row)
    (hr : ∀ k ∈ [B1, B2, B3, g, pt, gu, bu, B6], some k ≠ row) (hw : ∀ j, row = some j → w.heap.size ≤ j) : Amid w w' B1 B2 B3 B6 g pt gu bu pu r lv tb c :=
  ⟨h.cl.keep (fun k hk => hg.block k (h.cl.lt k hk) (hr k ((List.mem_append (s := [B1, B2, B3, g, pt, gu, bu]) (t := [B6])).2 (.inl hk)))), (World.cell?_of_block (hg.block B6 (World.block_lt_of_cell? wr _ h.c6) (hr B6 (by simp)))).trans h.c6, h.bel.grown hg h.bel.size hw, h.n6, h.hi⟩
theorem Amid.lt {w wr : World} {B1 B2 B3 B6 g pt gu bu : Nat} {pu : Option Addr} {r : Rt} {lv tb : Nat → Nat} {c : (Nat → Bool) × Bool} (h : Amid w wr B1 B2 B3 B6 g pt gu bu pu r lv tb c) : ∀ k ∈ [B1, B2, B3, g, pt, gu, bu, B6], k < wr.heap.size := fun k hk => by
  by_cases e : k = B6
  · rw [e]; exact World.block_lt_of_cell? wr _ h.c6
  · exact h.cl.lt k (((List.mem_append (s := [B1, B2, B3, g, pt, gu, bu]) (t := [B6])).1 hk).elim id (fun h2 => absurd (by simpa using h2) e))
theorem Amid.claim {w wr w' : World} {B1 B2 B3 B6 g pt gu bu : Nat} {pu : Option Addr} {r : Rt} {lv tb : Nat → Nat} {c c' : (Nat → Bool) × Bool} (h : Amid w wr B1 B2 B3 B6 g pt gu bu pu r lv tb c)
    (hc : Clm w' B1 B2 B3 g pt gu bu pu r lv tb c') (hg : Chg [bu, B3] [bu, B3] wr w') : Amid w w' B1 B2 B3 B6 g pt gu bu pu r lv tb c' :=
  ⟨hc, (World.cell?_of_block (hg.block B6 (World.block_lt_of_cell? wr _ h.c6) (by simp; exact h.n6))).trans h.c6, hg.below h.bel h.bel.size (by intro k hk; simp only [List.mem_cons, List.not_mem_nil, or_false] at hk; rcases hk with rfl | rfl; exact h.hi.1; exact h.hi.2), h.n6, h.hi⟩
section
variable {w : World} {g pt : Nat} {pu : Option Addr} {r : Rt} {lv tb : Nat → Nat}
set_option maxRecDepth 100000 in
set_option maxHeartbeats 3200000 in
theorem pagesS_any (h : Stt w g pt pu r lv tb) :
    Calls Tryz.prog 97 #[.pointer (some ⟨g, 0, none⟩)] w fun e w' => (∃ gu bu, e = .returned (.tuple #[.pointer (some ⟨gu, 0, none⟩), .bool (pgsM r lv tb).2]) ∧ w.heap.size ≤ gu ∧ w.heap.size ≤ bu ∧ Bi.Sat w' gu bu 512 (pgsM r lv tb).1) ∧ Below w.heap.size w w' := by
  have HN := Lib.hid (fun w => noPages_any w)
  have HX := Lib.hid h
  clear h
  refine (callsIn_wide (n := 5)).1 ?_
  refine callsIn_of_wp_marks Tryz.func97 rfl trivial ?_ rfl
  simp only [Tryz.ntmps97, List.size_toArray, List.length_cons, List.length_nil, Nat.reduceAdd, Nat.reduceSub, Array.replicate_succ, Array.replicate_zero, List.push_toArray, List.append_toArray, List.nil_append, List.cons_append]
  refine wpIn_wide.2 ?_
  go_upto_region 1 with fail
  have HA := Lib.hid (alloc_below w (.cells #[.pointer (some ⟨g, 0, none⟩)] 173))
  have HA1 : Hid ((w.alloc (.cells #[.pointer (some ⟨g, 0, none⟩)] 173)).cell? ⟨w.heap.size, 0, none⟩ = some (.pointer (some ⟨g, 0, none⟩))) := Lib.hid (World.cell?_alloc_new w _ _ 0)
  have HA2 : Hid ((w.alloc (.cells #[.pointer (some ⟨g, 0, none⟩)] 173)).heap.size = w.heap.size + 1) := Lib.hid (by simp)
  generalize w.alloc (.cells #[.pointer (some ⟨g, 0, none⟩)] 173) = w1 at *
  have HE : Hid (∀ u : World, ((u.alloc (.cells #[.pointer none] 33)).alloc (.cells #[.bool false] 4)).cell? ⟨u.heap.size, 0, none⟩ = some (.pointer none) ∧ ((u.alloc (.cells #[.pointer none] 33)).alloc (.cells #[.bool false] 4)).frozen? ⟨u.heap.size, 0, none⟩ = false ∧
      ((u.alloc (.cells #[.pointer none] 33)).alloc (.cells #[.bool false] 4)).cell? ⟨u.heap.size + 1, 0, none⟩ = some (.bool false) ∧ ((u.alloc (.cells #[.pointer none] 33)).alloc (.cells #[.bool false] 4)).frozen? ⟨u.heap.size + 1, 0, none⟩ = false) := Lib.hid fun u => by
    have a1 := heap_alloc2_old u (.cells #[.pointer none] 33) (.cells #[.bool false] 4)
    have a2 := heap_alloc2_new u (.cells #[.pointer none] 33) (.cells #[.bool false] 4)
    exact ⟨by rw [cell_of_row _ _ _ _ _ _ a1]; rfl, frozen_of_row _ _ _ _ _ a1, by rw [cell_of_row _ _ _ _ _ _ a2]; rfl, frozen_of_row _ _ _ _ _ a2⟩
  go_upto_region 2 with (go_at_call 49; refine (HN.out _).mono ?_; rintro e w2 ⟨⟨gu, bu, rfl, ha, hb, hS⟩, hb2⟩; obtain ⟨e1, e2, e3, e4⟩ := HE.out w2)
  have a1 := heap_alloc2_old w2 (.cells #[.pointer (some ⟨gu, 0, none⟩)] 33) (.cells #[.bool true] 4)
  have a2 := heap_alloc2_new w2 (.cells #[.pointer (some ⟨gu, 0, none⟩)] 33) (.cells #[.bool true] 4)
  have hb3 : Below w2.heap.size w2 ((w2.alloc (.cells #[.pointer (some ⟨gu, 0, none⟩)] 33)).alloc (.cells #[.bool true] 4)) := ((Below.refl _ _).alloc (Nat.le_refl _) _).alloc (by simp) _
  have HS3 : Hid (((w2.alloc (.cells #[.pointer (some ⟨gu, 0, none⟩)] 33)).alloc (.cells #[.bool true] 4)).heap.size = w2.heap.size + 2) := Lib.hid (by simp)
  have HSZ : Hid (w.heap.size < w2.heap.size ∧ w1.heap.size ≤ w2.heap.size) := Lib.hid (by have := HA2.out; have := hb2.size; omega)
  have HCL0 : Hid (Clm ((w2.alloc (.cells #[.pointer (some ⟨gu, 0, none⟩)] 33)).alloc (.cells #[.bool true] 4)) w.heap.size w2.heap.size (w2.heap.size + 1) g pt gu bu pu r lv tb (fun _ => false, true)) := Lib.hid (by
    have hgl := HX.out.lt
    have hptl := HX.out.tab.lt
    have hgu := hS.glt
    have hbu := hS.blt
    have hs1 := HA2.out
    have hs2 := hb2.size
    refine ⟨?_, by rw [cell_of_row _ _ _ _ _ _ a1]; rfl, by rw [cell_of_row _ _ _ _ _ _ a2]; rfl, frozen_of_row _ _ _ _ _ a2, ((HX.out.below HA.out).below hb2).below hb3, hS.below hb3, ⟨by omega, by omega, by omega, by omega, by omega, by omega⟩, ⟨by omega, by omega, by omega, by omega, by omega⟩⟩
    rw [hb3.cell (p := ⟨w.heap.size, 0, none⟩) (by show w.heap.size < _; omega), hb2.cell (p := ⟨w.heap.size, 0, none⟩) (by show w.heap.size < _; omega)]
    exact HA1.out)
  have HB3 : Hid (Below w.heap.size w ((w2.alloc (.cells #[.pointer (some ⟨gu, 0, none⟩)] 33)).alloc (.cells #[.bool true] 4))) := Lib.hid (Below.more (Below.more HA.out hb2 HA.out.size) hb3 (Nat.le_of_lt HSZ.out.1))
  have HGU : Hid (w.heap.size ≤ gu ∧ w.heap.size ≤ bu) := Lib.hid (by have := HA2.out; omega)
  clear HN HA HA1 HE e1 e2 e3 e4 a1 a2 hb3 hS hb2 ha hb
  obtain ⟨B1, hB1⟩ : ∃ B1, w.heap.size = B1 := ⟨_, rfl⟩
  obtain ⟨B2, hB2⟩ : ∃ B2, w2.heap.size = B2 := ⟨_, rfl⟩
  obtain ⟨B3, hB3⟩ : ∃ B3, w2.heap.size + 1 = B3 := ⟨_, rfl⟩
  have HBS : Hid (w.heap.size = B1 ∧ B1 < B2 ∧ B3 = B2 + 1) := Lib.hid ⟨hB1, by have := HSZ.out; omega, by omega⟩
  generalize ((w2.alloc (.cells #[.pointer (some ⟨gu, 0, none⟩)] 33)).alloc (.cells #[.bool true] 4)) = w3 at *
  rw [hB1, hB3, hB2] at HCL0
  rw [hB2] at HS3
  rw [hB1, hB3, hB2]
  have q1 : (w3.alloc (.cells #[.nilFunc] 50)).cell? ⟨w3.heap.size, 0, none⟩ = some .nilFunc := World.cell?_alloc_new w3 _ _ 0
  have q2 : (w3.alloc (.cells #[.nilFunc] 50)).frozen? ⟨w3.heap.size, 0, none⟩ = false := free_of_one (heap_alloc_new w3 _)
  clear hB1 hB2 hB3 HSZ HA2
  go_upto_region 3 with fail
  have hb4 := alloc_below w3 (.cells #[.func (.func 124) #[] #[.pointer (some ⟨B1, 0, none⟩), .pointer (some ⟨B2, 0, none⟩), .pointer (some ⟨B3, 0, none⟩)]] 50)
  have HAM : Hid (Amid w (w3.alloc (.cells #[.func (.func 124) #[] #[.pointer (some ⟨B1, 0, none⟩), .pointer (some ⟨B2, 0, none⟩), .pointer (some ⟨B3, 0, none⟩)]] 50)) B1 B2 B3 w3.heap.size g pt gu bu pu r lv tb (fun _ => false, true)) := Lib.hid
    ⟨HCL0.out.below hb4, World.cell?_alloc_new w3 _ _ 0, Below.more HB3.out hb4 HB3.out.size, ⟨by have := HCL0.out.sat.blt; omega, by have := HS3.out; have := HBS.out; omega⟩, ⟨HGU.out.2, by have := HBS.out; omega⟩⟩
  generalize w3.alloc (.cells #[.func (.func 124) #[] #[.pointer (some ⟨B1, 0, none⟩), .pointer (some ⟨B2, 0, none⟩), .pointer (some ⟨B3, 0, none⟩)]] 50) = w4 at *
  generalize w3.heap.size = B6 at *
  have HGU2 := Lib.hid HGU.out.1
  clear q1 q2 hb4 HCL0 HB3 HS3 HX HBS HGU
  have k6 := HAM.out.c6
  have k1 := HAM.out.cl.c1
  have kd : w4.cell? ⟨g, 2, none⟩ = some (.int .i64 r.dr) := HAM.out.cl.st.cell 2 _ rfl
  have HAM2 := Lib.hid (HAM.out.below (Below.refl _ _).drew)
  have HCA := Lib.hid (claim_any HAM2.out.cl r.dr)
  go_cut [] from 11 to 22 (fun wx => Amid w wx B1 B2 B3 B6 g pt gu bu pu r lv tb (clm r.pg (fun _ => false, true) r.dr))
  case first =>
    go_still_tail 6, (by kernel_rfl)
    change wpList _ _ _ _ _ (World.drew _)
    go_wp2_with (go_at_call 124; refine HCA.out.mono ?_; rintro e w5 ⟨rfl, hC5, hG5⟩)
    have HF := Lib.hid (HAM2.out.claim hC5 hG5)
    clear hC5 hG5
    go_meet
    exact HF.out
  case rest =>
    have HA5 := Lib.hid hcut
    clear hcut HAM HAM2 HCA k6 k1 kd
    have k1 := HA5.out.cl.c1
    have l0 : wc.cell? ⟨g, 4, none⟩ = some (.int .i64 (lv 0 : Nat)) := HA5.out.cl.st.cell 4 _ rfl
    have l1 : wc.cell? ⟨g, 5, none⟩ = some (.int .i64 (lv 1 : Nat)) := HA5.out.cl.st.cell 5 _ rfl
    have l2 : wc.cell? ⟨g, 6, none⟩ = some (.int .i64 (lv 2 : Nat)) := HA5.out.cl.st.cell 6 _ rfl
    have l3 : wc.cell? ⟨g, 7, none⟩ = some (.int .i64 (lv 3 : Nat)) := HA5.out.cl.st.cell 7 _ rfl
    go_wp2_with fail
    obtain ⟨c0, hc0⟩ : ∃ c0, clm r.pg (fun _ => false, true) r.dr = c0 := ⟨_, rfl⟩
    rw [hc0] at HA5
    have HC0 := Lib.hid hc0
    clear hc0 k1 l0 l1 l2 l3
    have HLV : Hid (∀ i : Nat, i < 4 → (#[Value.int .i64 (lv 0 : Nat), .int .i64 (lv 1 : Nat), .int .i64 (lv 2 : Nat), .int .i64 (lv 3 : Nat)] : Array Value)[i]? = some (.int .i64 (lv i : Nat))) := Lib.hid fun i hi => by
      rcases (show i = 0 ∨ i = 1 ∨ i = 2 ∨ i = 3 by omega) with rfl | rfl | rfl | rfl <;> rfl
    obtain ⟨LA, hLA⟩ : ∃ LA, (#[Value.int .i64 (lv 0 : Nat), .int .i64 (lv 1 : Nat), .int .i64 (lv 2 : Nat), .int .i64 (lv 3 : Nat)] : Array Value) = LA := ⟨_, rfl⟩
    rw [hLA] at HLV ⊢
    clear hLA
    go_loopw [24] (fun iv wr => ∃ i : Nat, i ≤ 4 ∧ iv = .int .i64 (i : Int) ∧ Hid (Amid w wr B1 B2 B3 B6 g pt gu bu pu r lv tb ((lvL lv i).foldl (clm r.pg) c0))) (fun iv _ => 4 - (RowKit.intOf iv).toNat)
    case atStart => exact ⟨0, by omega, by go_num, HA5⟩
    case round =>
      obtain ⟨i, hi4, rfl, HA⟩ := hrel
      have hz4 : (i : Int) ≤ 4 := by omega
      by_cases hlt : i < 4
      · have hd : decide ((i : Int) < 4) = true := decide_eq_true (by omega)
        have hidx : ∀ w : World, (Instr.index 78 (.agg LA) (.int .i64 (i : Int))).run Tryz.prog w = .ok (.int .i64 (lv i : Nat)) w := fun w => Tb.run_index48 LA i _ w hlt (HLV.out i hlt)
        have HL := Lib.hid hlt
        have k6 := HA.out.c6
        have HSU := Lib.hid (lvL_succ lv i)
        by_cases hz : lv i = 0
        · have HS2 : Hid ((lvL lv (i + 1)).foldl (clm r.pg) c0 = (lvL lv i).foldl (clm r.pg) c0) := Lib.hid (by rw [HSU.out, if_pos hz, List.append_nil])
          rw [hz] at hidx
          clear hlt hi4 hz HSU
          go_wp2_with fail
          go_roundw
          case rel => exact ⟨i + 1, by have := HL.out; omega, by go_num, by rw [HS2.out]; exact HA⟩
          case measure => have := HL.out; simp [RowKit.intOf]; omega
        · have hnz : (((lv i : Nat) : Int) == 0) = false := by simpa using hz
          have hnz2 : (((lv i : Nat) : Int) != 0) = true := by simpa using hz
          have HS2 : Hid ((lvL lv (i + 1)).foldl (clm r.pg) c0 = clm r.pg ((lvL lv i).foldl (clm r.pg) c0) ((lv i : Nat) : Int)) := Lib.hid (by rw [HSU.out, if_neg hz, List.foldl_append]; rfl)
          have HCA := Lib.hid (claim_any HA.out.cl ((lv i : Nat) : Int))
          clear hlt hi4 hz HSU
          obtain ⟨y, hy⟩ : ∃ y, lv i = y := ⟨_, rfl⟩
          rw [hy] at hidx hnz hnz2 HCA HS2
          clear hy
          go_wp2_with (go_at_call 124; refine HCA.out.mono ?_; rintro e w5 ⟨rfl, hC5, hG5⟩)
          go_roundw
          case rel => exact ⟨i + 1, by have := HL.out; omega, by go_num, by rw [HS2.out]; exact Lib.hid (HA.out.claim hC5 hG5)⟩
          case measure => have := HL.out; simp [RowKit.intOf]; omega
      · have hd : decide ((i : Int) < 4) = false := decide_eq_false (by omega)
        have hd2 : decide (i < 4) = false := decide_eq_false (by omega)
        have HE : Hid (i = 4) := Lib.hid (by omega)
        have k1 := HA.out.cl.c1
        have k8 : wr.cell? ⟨g, 8, none⟩ = some (.pointer (some ⟨pt, 0, none⟩)) := HA.out.cl.st.cell 8 _ rfl
        have HALL := Lib.hid (Tb.all_any HA.out.cl.st.tab)
        clear hlt hi4
        go_wp2_with (go_at_call 103; refine HALL.out.mono ?_; rintro e w6 ⟨⟨Bs, g', rfl, hTo⟩, hb6⟩)
        have HA6 := Lib.hid (HA.out.below hb6)
        obtain ⟨t1, t2, t3, t4, t5, t6⟩ := hTo
        have HSZ : Hid (wr.heap.size ≤ w6.heap.size) := Lib.hid hb6.size
        have HLT : Hid (∀ k ∈ [B1, B2, B3, g, pt, gu, bu, B6], k < w6.heap.size ∧ k ≠ Bs ∧ k ≠ g') := Lib.hid fun k hk => by
          have h1 := HA.out.lt k hk
          exact ⟨by omega, by omega, by omega⟩
        have HBW : Hid (w.heap.size ≤ w6.heap.size) := Lib.hid HA6.out.bel.size
        have HE2 : Hid (lvL lv i = lvL lv 4) := Lib.hid (by rw [HE.out])
        obtain ⟨c1, hc1⟩ : ∃ c1, (lvL lv i).foldl (clm r.pg) c0 = c1 := ⟨_, rfl⟩
        rw [hc1] at HA HA6
        have HC1 := Lib.hid hc1
        have HTN : Hid (Bs ≠ g') := Lib.hid t3
        clear HALL hb6 hc1 k1 k8 HA hd hd2
        refine (wpIn_wide (n := 5)).1 ?_
        refine wpIn_rangeFunc_ownG rfl (by omega) (gf := 131) (lb := #[.pointer (some ⟨Bs, 0, none⟩)]) rfl trivial (enters_of Tryz.func131 (by kernel_rfl) rfl)
          (Tb.all_stops 4 (by omega) Bs g' tb w6 t4 t5 t6) Tb.Two.trans (Tb.Two.put t4 t6.lt) (Below.refl _ _) (fun _ => rfl)
          (fun pre W => Amid w W B1 B2 B3 B6 g pt gu bu pu r lv tb ((pre.map fun l => ((tb l : Nat) : Int)).foldl (clm r.pg) c1) ∧ w6.heap.size ≤ W.heap.size)
          (fun _ _ _ => False)
          (fun pre W W' row hs hg hr => ⟨hs.1.grown hg (fun k hk e => by have h1 := (hr k e.symm).1; have h2 := (HLT.out k hk).1; omega) (fun j e => Nat.le_trans HBW.out (hr j e).1), Nat.le_trans hs.2 hg.size⟩)
          (fun c => ownFrom_pure _ _)
          ⟨HA6.out, Nat.le_refl _⟩
          (fun x => { tmps := #[.pointer (some ⟨g, 0, none⟩), .pointer (some ⟨B1, 0, none⟩), .pointer none, .bool false, .pointer (some ⟨B2, 0, none⟩), .pointer (some ⟨B3, 0, none⟩), .pointer (some ⟨B6, 0, none⟩), undef, u8, undef, .int .i64 ((tb x : Nat) : Int), u11, u12, u13, u14, u15, u16, u17, u18, u19, .pointer (some ⟨g, 0, none⟩), .pointer (some ⟨g, 0, none⟩), .pointer (some ⟨g, 4, none⟩), .agg LA, .int .i64 (i : Int), .bool false, u26, u27, u28, u29, u30, u31, u32, .pointer (some ⟨g, 0, none⟩), .pointer (some ⟨g, 0, none⟩), .pointer (some ⟨g, 8, none⟩), .pointer (some ⟨pt, 0, none⟩), .func (.func 131) #[] #[.pointer (some ⟨Bs, 0, none⟩)], .int .i64 (x : Int), .int .i64 ((tb x : Nat) : Int), undef, undef, undef, undef, undef], defers := [] }) ?assign ?body ?done ?stop
        case assign =>
          intro l x W K hK
          unfold Tb.tell
          gi_wp2
          first
            | exact hK
            | (simp; exact hK)
        case body =>
          rintro l pre x W ⟨hA, hWS⟩ hlen
          have HAW := Lib.hid hA
          have k6 := hA.c6
          have HCA := Lib.hid (claim_any hA.cl ((tb x : Nat) : Int))
          have HFO : Hid (((pre ++ [x]).map fun l => ((tb l : Nat) : Int)).foldl (clm r.pg) c1 = clm r.pg ((pre.map fun l => ((tb l : Nat) : Int)).foldl (clm r.pg) c1) ((tb x : Nat) : Int)) := Lib.hid (by rw [List.map_append, List.foldl_append]; rfl)
          clear hA hlen
          generalize tb x = y at *
          gi_wp2
          refine ⟨trivial, (CallsIn.inRound l (callsIn_wide.2 HCA.out)).mono ?_⟩
          rintro e w7 ⟨rfl, hC7, hG7⟩
          have hsz := hG7.size
          have h1 := (HLT.out bu (by simp)).1
          have h2 := (HLT.out B3 (by simp)).1
          have hoth : ∀ k, k ≠ bu → k ≠ B3 → k < W.heap.size → w7.heap[k]? = W.heap[k]? := fun k e1 e2 hk => hG7.block k hk (by simp; exact ⟨e1, e2⟩)
          have hKF : KeepsFrom w6.heap.size W w7 := ⟨hsz, fun k o hB hk _ => (hoth k (by omega) (by omega) (Array.getElem?_eq_some_iff.1 hk).1).trans hk⟩
          have hFin := HAW.out.claim hC7 hG7
          rw [← HFO.out] at hFin
          have hTw : Tb.Two Bs g' W w7 := ⟨hoth Bs (fun e => (HLT.out bu (by simp)).2.1 e.symm) (fun e => (HLT.out B3 (by simp)).2.1 e.symm) (by omega), hoth g' (fun e => (HLT.out bu (by simp)).2.2 e.symm) (fun e => (HLT.out B3 (by simp)).2.2 e.symm) (by have := t6.lt; omega)⟩
          gi_wp2
          exact ⟨hKF, hTw, hFin, by omega⟩
        case done =>
          rintro D ys W hD rfl ⟨hA, hWS⟩ hK
          have HPG : Hid (pgsM r lv tb = ((Tb.mems (Tb.told tb) 512).map fun l => ((tb l : Nat) : Int)).foldl (clm r.pg) c1) := Lib.hid (by
            unfold pgsM claims
            rw [List.foldl_cons, List.foldl_append, HC0.out, ← HC1.out, HE2.out]; rfl)
          have k4 := hA.cl.c2
          have k5 := hA.cl.c3
          have HAW := Lib.hid hA
          have HK := Lib.hid hK
          have HBF : Hid (Below w6.heap.size W (W.putObj D (.deferred none))) := Lib.hid (belowK_b (w := w6) (Nat.le_refl _) W D _ (.deferred none) hD hK rfl rfl)
          clear hA hK
          rw [← HPG.out] at k5 HAW
          obtain ⟨PG, hPG⟩ : ∃ PG, pgsM r lv tb = PG := ⟨_, rfl⟩
          rw [hPG] at k5 HAW
          have HPG2 := Lib.hid hPG
          clear hPG HPG
          go_wp2_with fail
          go_quiet (fail)
          have hbq : Below W.heap.size W (W.drewN nq) := below_drewN (Below.refl _ _) nq
          have hDl : D < W.heap.size := (Array.getElem?_eq_some_iff.1 HK.out).1
          have HKq : Hid ((W.drewN nq).heap[D]? = some (.deferred (some []))) := Lib.hid ((hbq.block D hDl).trans HK.out)
          have HAq := Lib.hid (HAW.out.below hbq)
          have HBq : Hid (Below w6.heap.size (W.drewN nq) ((W.drewN nq).putObj D (.deferred none))) := Lib.hid (belowK_b (w := w6) (Nat.le_refl _) _ D _ (.deferred none) hD HKq.out rfl rfl)
          clear hbq HAW HBF
          generalize W.drewN nq = Wq at *
          go_wp2_with fail
          refine ⟨by simp, .inl ⟨_, _, rfl, run_takeDeferred HKq.out, ?_⟩⟩
          have hfin : Amid w (Wq.putObj D (.deferred none)) B1 B2 B3 B6 g pt gu bu pu r lv tb PG := HAq.out.grown (grownBy_putObj' Wq D _) (fun k hk e => by have h2 := (HLT.out k hk).1; injection e with e; omega) (fun j e => by cases e; exact Nat.le_trans HBW.out hD)
          refine ⟨.tuple #[.pointer (some ⟨gu, 0, none⟩), .bool PG.2], ?_, ⟨gu, bu, by rw [HPG2.out], HGU2.out, hfin.hi.1, by rw [HPG2.out]; exact hfin.cl.sat⟩, hfin.bel⟩
          simp [results, Tryz.f97, go_sem]
        case stop =>
          rintro D cd pre W hD _ hf hK
          exact hf.elim
end
end Go.Proofs.YthcnofdihigohaaGreat
end
section
/- A leaf loaded off the disk. -/
set_option maxRecDepth 20000
set_option linter.unusedSimpArgs false
namespace Go.Proofs.YthcnofdihigohaaGreat
open Go.RowKit

/-- '[]byte(s)'. -/
theorem conv_bytes (w : World) (b : List Nat) (hd : ∀ x ∈ b, x < 256) (hn : b.length ≤ 1099511627776) :
    ∃ cap W', (convert 9 94 (.string (strB b))).run Tryz.prog w = .ok (.slice (some ⟨w.heap.size, 0, none⟩) b.length cap) W' ∧ Below w.heap.size w W' ∧ Bys W' (some ⟨w.heap.size, 0, none⟩) b.length b ∧ b.length ≤ cap ∧ cap ≤ 9223372036854775807 := by
  have hrun := run_bytes_of_string (P := Tryz.prog) w 9 94 5 (strB b) Tryz.underlying9 Tryz.underlying94 Tryz.underlying5
  rw [strB_size] at hrun
  have hc1 := grownCap_ge w b.length 0 5
  have hc2 := grownCap_le_maxLen w b.length 0 5 (by unfold maxLen; omega)
  refine ⟨_, _, hrun, (Below.refl _ _).drew.alloc (Nat.le_refl _) _, ⟨rfl, hd, fun _ => ⟨w.heap.size, 0, rfl, fun i hi => ?_⟩⟩, hc1, by unfold maxLen at hc2; omega⟩
  rw [Nat.zero_add]
  show (w.drew.alloc _).cell? ⟨w.drew.heap.size, i, none⟩ = _
  rw [cell_of_row _ _ _ _ _ _ (heap_alloc_new w.drew _)]
  unfold bytesRow
  have hsz : ((strB b).data.map (fun c => Value.int .u8 (c.toNat : Int))).size = b.length := by
    rw [Array.size_map]; exact strB_size b
  rw [Array.getElem?_append_left (by rw [hsz]; exact hi), Array.getElem?_map, strB_get b i hi]
  have h3 : b.getD i 0 < 256 := by
    rw [List.getD_eq_getElem?_getD, List.getElem?_eq_getElem hi]
    exact hd _ (List.getElem_mem _)
  simp only [Option.map_some]
  rw [UInt8.toNat_ofNat_of_lt' h3]
theorem pageB_ok {m : Dsk} (h : Ok m) (p : Nat) (hp : 4 * p + 4 ≤ m.out.length) : (pageB m.last p).length = 512 ∧ ∀ x ∈ pageB m.last p, x < 256 := by
  have hs : ∀ j, j < 4 → (sec m.last (4 * p + j)).length = 128 ∧ ∀ d ∈ sec m.last (4 * p + j), d < 256 := fun j hj => h.last _ (sec_mem (by rw [last_len]; omega))
  have hL : ∀ i, i ≤ 4 → (cat (fun j => sec m.last (4 * p + j)) i).length = i * 128 ∧ ∀ x ∈ cat (fun j => sec m.last (4 * p + j)) i, x < 256 := by
    intro i
    induction i with
    | zero => exact fun _ => ⟨rfl, fun x hx => by cases hx⟩
    | succ i ih =>
      intro hi
      have h1 := ih (by omega)
      have h2 := hs i (by omega)
      refine ⟨?_, fun x hx => ?_⟩
      · show (cat _ i ++ sec m.last (4 * p + i)).length = _
        rw [List.length_append, h1.1, h2.1]; omega
      · rcases List.mem_append.1 (show x ∈ cat (fun j => sec m.last (4 * p + j)) i ++ sec m.last (4 * p + i) from hx) with hx | hx
        · exact h1.2 x hx
        · exact h2.2 x hx
  exact hL 4 (by omega)
/-- What a leaf's page makes of a table, and what is told of it. -/
def leafM (m : Dsk) (r : Rt) (lv tb : Nat → Nat) (i : Nat) : Int × (Nat → Nat) :=
  if lv i = 0 then (0, tb) else if r.pg ≤ ((lv i : Nat) : Int) then (13, tb)
  else if Tb.loadE (i : Int) (pageB m.last (lv i)) ≠ 0 then (13, tb) else if Tb.bareB (Tb.loadF tb (i : Int) (pageB m.last (lv i))) i then (13, Tb.loadF tb (i : Int) (pageB m.last (lv i))) else (0, Tb.loadF tb (i : Int) (pageB m.last (lv i)))
section
variable {w : World} {g pt d : Nat} {pu : Option Addr} {r : Rt} {lv tb : Nat → Nat} {F : List Nat} {m : Dsk}
set_option maxHeartbeats 1600000 in
theorem loadLeaf_any (h : Stt w g pt pu r lv tb) (hD : Dk w d F m) (hd : m.down = false) (hl : m.out.length ≤ 2048) (hpg : r.pg * 4 ≤ (m.out.length : Int)) (i : Nat) (hi : i < 4) (hlv : lv i < 512) :
    Calls Tryz.prog 105 #[.pointer (some ⟨g, 0, none⟩), .pointer (some ⟨d, 0, none⟩), .int .i64 (i : Int)] w fun e w' => e = .returned (.int .i64 (leafM m r lv tb i).1) ∧ Tb.Tab w' pt (leafM m r lv tb i).2 ∧ Only pt w w' := by
  have kl : w.cell? ⟨g, 4 + i, none⟩ = some (.int .i64 (lv i : Nat)) := h.cell (4 + i) _ (by rcases (show i = 0 ∨ i = 1 ∨ i = 2 ∨ i = 3 by omega) with rfl | rfl | rfl | rfl <;> rfl)
  have k1 : w.cell? ⟨g, 1, none⟩ = some (.int .i64 r.pg) := h.cell 1 _ rfl
  have k8 : w.cell? ⟨g, 8, none⟩ = some (.pointer (some ⟨pt, 0, none⟩)) := h.cell 8 _ rfl
  have HX := Lib.hid h
  have HE : Hid (leafM m r lv tb i = if lv i = 0 then (0, tb) else if r.pg ≤ ((lv i : Nat) : Int) then (13, tb)
    else if Tb.loadE (i : Int) (pageB m.last (lv i)) ≠ 0 then (13, tb) else if Tb.bareB (Tb.loadF tb (i : Int) (pageB m.last (lv i))) i then (13, Tb.loadF tb (i : Int) (pageB m.last (lv i))) else (0, Tb.loadF tb (i : Int) (pageB m.last (lv i)))) := Lib.hid rfl
  rw [HE.out]
  have HT := Lib.hid h.tab
  have hli := hlv
  have hi5 : (i : Int) < 4 := by omega
  have hi6 : (0 : Int) ≤ (i : Int) := by omega
  have HI := Lib.hid hi
  clear h hlv HE
  by_cases hz : lv i = 0
  · rw [if_pos hz]
    rw [hz] at kl
    clear hz hD hd hl hpg hli
    go_enter Tryz.func105, Tryz.ntmps105
    go_wp2_with fail
    go_ret
    exact ⟨rfl, HT.out, Only.refl _ _⟩
  · rw [if_neg hz]
    have hnz : (((lv i : Nat) : Int) == 0) = false := by simpa using hz
    by_cases hp : r.pg ≤ ((lv i : Nat) : Int)
    · rw [if_pos hp]
      have hd1 : decide (r.pg ≤ ((lv i : Nat) : Int)) = true := decide_eq_true hp
      have hd2 : decide (((lv i : Nat) : Int) ≥ r.pg) = true := decide_eq_true hp
      clear hz hD hd hl hpg hli
      generalize lv i = y at *
      generalize r.pg = pg at *
      go_enter Tryz.func105, Tryz.ntmps105
      go_wp2_with fail
      go_ret
      exact ⟨rfl, HT.out, Only.refl _ _⟩
    · rw [if_neg hp]
      have hd1 : decide (r.pg ≤ ((lv i : Nat) : Int)) = false := decide_eq_false hp
      have hd2 : decide (((lv i : Nat) : Int) ≥ r.pg) = false := decide_eq_false hp
      have HRP := Lib.hid (readPage_up hD (lv i) hd (by omega) hl)
      obtain ⟨hb1, hb2⟩ := pageB_ok hD.ok (lv i) (by omega)
      generalize pageB m.last (lv i) = bs at *
      obtain ⟨cap, W1, hrun, hbW, hBy, hc1, hc2⟩ := conv_bytes w bs hb2 (by omega)
      rw [hb1] at hrun hBy hc1
      have HB1 := Lib.hid hbW
      have j8 := (hbW.cell (p := ⟨g, 8, none⟩) HX.out.lt).trans k8
      have hTL := Tb.load_any (HT.out.below hbW) (i : Int) (some ⟨w.heap.size, 0, none⟩) 512 cap bs hBy hc1 hc2
      have HTL := Lib.hid hTL
      have HKG : Hid (∀ w2, Only pt W1 w2 → w2.cell? ⟨g, 8, none⟩ = some (.pointer (some ⟨pt, 0, none⟩))) := Lib.hid fun w2 ho => by
        have hg1 : g < W1.heap.size := Nat.lt_of_lt_of_le HX.out.lt hbW.size
        have hne : g ≠ pt := fun e => by
          have h1 := HX.out.box
          have h2 := HT.out.row
          unfold Tb.IsT at h2
          rw [e, h2] at h1; simp at h1
        exact (World.cell?_of_block (ho.block g hg1 hne)).trans j8
      have hLF : Tb.loadE (i : Int) bs ≠ 0 → Tb.loadF tb (i : Int) bs = tb := fun e => by unfold Tb.loadF; rw [if_neg e]
      have HLF := Lib.hid hLF
      clear hz hD hd hl hpg hp hb1 hb2 hbW hBy hc1 hc2 hTL hLF
      generalize Tb.loadF tb (i : Int) bs = t2 at *
      obtain ⟨E, hE⟩ : ∃ E, Tb.loadE (i : Int) bs = E := ⟨_, rfl⟩
      rw [hE] at HTL HLF ⊢
      clear hE
      obtain ⟨S, hS⟩ : ∃ S, strB bs = S := ⟨_, rfl⟩
      rw [hS] at HRP hrun
      clear hS
      generalize lv i = y at *
      generalize r.pg = pg at *
      by_cases h0 : E = 0
      · subst h0
        rw [if_neg (by decide)]
        cases hba : Tb.bareB t2 i with
        | true =>
          have HBA : Hid (∀ w2, Tb.Tab w2 pt t2 → Calls Tryz.prog 84 #[.pointer (some ⟨pt, 0, none⟩), .int .i64 (i : Int)] w2 fun e w' => e = .returned (.bool true) ∧ w2 = w') := Lib.hid fun w2 hT => by
            have h1 := Tb.bare_in hT i HI.out
            rwa [hba] at h1
          rw [if_pos rfl]
          clear hba HLF
          go_enter Tryz.func105, Tryz.ntmps105
          go_wp2_with (first
            | (go_at_call 65; refine HRP.out.mono ?_; rintro e w7 ⟨rfl, rfl⟩)
            | (go_at_call 136; refine HTL.out.mono ?_; rintro e w2 ⟨rfl, hT2, hO2⟩; have m8 := HKG.out w2 hO2)
            | (go_at_call 84; refine (HBA.out _ hT2).mono ?_; rintro e w7 ⟨rfl, rfl⟩))
          go_ret
          exact ⟨rfl, hT2, (Only.of_below HB1.out).trans hO2⟩
        | false =>
          have HBA : Hid (∀ w2, Tb.Tab w2 pt t2 → Calls Tryz.prog 84 #[.pointer (some ⟨pt, 0, none⟩), .int .i64 (i : Int)] w2 fun e w' => e = .returned (.bool false) ∧ w2 = w') := Lib.hid fun w2 hT => by
            have h1 := Tb.bare_in hT i HI.out
            rwa [hba] at h1
          rw [if_neg (by decide)]
          clear hba HLF
          go_enter Tryz.func105, Tryz.ntmps105
          go_wp2_with (first
            | (go_at_call 65; refine HRP.out.mono ?_; rintro e w7 ⟨rfl, rfl⟩)
            | (go_at_call 136; refine HTL.out.mono ?_; rintro e w2 ⟨rfl, hT2, hO2⟩; have m8 := HKG.out w2 hO2)
            | (go_at_call 84; refine (HBA.out _ hT2).mono ?_; rintro e w7 ⟨rfl, rfl⟩))
          go_ret
          exact ⟨rfl, hT2, (Only.of_below HB1.out).trans hO2⟩
      · rw [if_pos h0]
        have hb0 : (E == 0) = false := by simpa using h0
        have hb00 : (E != 0) = true := by simpa using h0
        have HTB := Lib.hid (HLF.out h0)
        clear h0 HLF
        go_enter Tryz.func105, Tryz.ntmps105
        go_wp2_with (first
          | (go_at_call 65; refine HRP.out.mono ?_; rintro e w7 ⟨rfl, rfl⟩)
          | (go_at_call 136; refine HTL.out.mono ?_; rintro e w2 ⟨rfl, hT2, hO2⟩))
        go_ret
        exact ⟨rfl, by rw [← HTB.out]; exact hT2, (Only.of_below HB1.out).trans hO2⟩
end
end Go.Proofs.YthcnofdihigohaaGreat
end
