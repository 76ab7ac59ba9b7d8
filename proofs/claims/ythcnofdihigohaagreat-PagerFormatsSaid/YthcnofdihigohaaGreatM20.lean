/- Texts XComm to XStep3 of this seat, laid into one. -/
import Derived.Deep.MidRow
import Derived.Deep.RegionHeldLaw
import Derived.Test.YthcnofdihigohaaGreatM06
import Derived.Test.YthcnofdihigohaaGreatM19
section
/- The document's Commit and Abort, in memory. -/
set_option maxRecDepth 100000
set_option linter.unusedSimpArgs false
namespace Go.Proofs.YthcnofdihigohaaGreat
open Go.RowKit

def txtL (f : Nat → List Nat) : List Value := (List.range 512).map fun l => Value.string (strB (f l))
theorem txtL_len (f : Nat → List Nat) : (txtL f).length = 512 := by unfold txtL; rw [List.length_map, List.length_range]
theorem txtL_get (f : Nat → List Nat) {l : Nat} (h : l < 512) : (txtL f)[l]? = some (.string (strB (f l))) := by unfold txtL; rw [List.getElem?_map, List.getElem?_range h]; rfl
theorem txtL_one (f : Nat → List Nat) : ∀ v ∈ txtL f, v.oneCell' = true := fun v hv => by
  obtain ⟨l, _, rfl⟩ := List.mem_map.1 hv; rfl
theorem Txt.range {w : World} {g o : Nat} {f : Nat → List Nat} (h : Txt w g o f) : w.rangeAt g o (txtL f) := fun j v hv => by
  have hj : j < 512 := by have := (List.getElem?_eq_some_iff.1 hv).1; rwa [txtL_len] at this
  rw [txtL_get f hj] at hv
  rw [h j hj, hv]
def falL : List Value := (List.range 512).map fun _ => Value.bool false
theorem falL_len : falL.length = 512 := by unfold falL; rw [List.length_map, List.length_range]
theorem falL_one : ∀ v ∈ falL, v.oneCell' = true := fun v hv => by
  obtain ⟨l, _, rfl⟩ := List.mem_map.1 hv; rfl
theorem size38 : (Tryz.prog.info? 38).map (·.size) = some 512 := by kernel_rfl
theorem size39 : (Tryz.prog.info? 39).map (·.size) = some 512 := by kernel_rfl
theorem zero39 : (Tryz.prog.info? 39).map (·.zero) = some (some (.agg falL.toArray)) := by kernel_rfl
theorem box_set {w : World} {g i : Nat} {v : Value} {n t : Nat} (h : ∃ cs, w.heap[g]? = some (.cells cs t (0, 0)) ∧ cs.size = n) : ∃ cs, (w.setCell ⟨g, i, none⟩ v).heap[g]? = some (.cells cs t (0, 0)) ∧ cs.size = n := by
  obtain ⟨cs, hc, hn⟩ := h
  exact ⟨_, heap_setCell_same w g i cs t v hc, by simpa using hn⟩
theorem box_sets {g t n : Nat} : ∀ (l : List Value) (o : Nat) (w : World), (∃ cs, w.heap[g]? = some (.cells cs t (0, 0)) ∧ cs.size = n) → ∃ cs, (w.setCells g o l).heap[g]? = some (.cells cs t (0, 0)) ∧ cs.size = n
  | [], _, _, h => h
  | v :: l, o, w, h => box_sets l (o + 1) (w.setCell ⟨g, o, none⟩ v) (box_set h)
theorem only_sets {g : Nat} : ∀ (l : List Value) (o : Nat) (w : World), Only g w (w.setCells g o l)
  | [], _, w => Only.refl g w
  | v :: l, o, w => (Only.setCell g o v w).trans (only_sets l (o + 1) (w.setCell ⟨g, o, none⟩ v))
theorem built39 : Tryz.prog.built 39 [] = some falL.toArray := by kernel_rfl
theorem wpList_build39 {ops : Array Oper} {rest : List Oper} {o : Oper} {a : Act} {w : World} {Q : Exit → Act → World → Prop} (hg : o.guard = none) (ho : o.op = .build 39 #[]) (Z : Array Value) (hZ : falL.toArray = Z)
    (h : wpList Tryz.prog ops Q rest (a.put o.dst (.agg Z)) w) : wpList Tryz.prog ops Q (o :: rest) a w := by
  have e : Tryz.prog.built 39 ((#[] : Array (Nat × Operand)).map fun (i, x) => (i, a.eval x)).toList = some falL.toArray := by
    have := built39
    simpa using this
  refine wpList_build hg 39 #[] ho (by rw [e]; rfl) ?_
  rw [e]
  show wpList Tryz.prog ops Q rest (a.put o.dst (.agg falL.toArray)) w
  rw [hZ]; exact h
theorem Xb.setCom {w : World} {g : Nat} {x : Xv} (h : Xb w g x) (f : Nat → List Nat) : Xb (w.setCells g 0 (txtL f)) g { x with com := f } := by
  have ht : w.there g 0 (txtL f).length := fun j hj => by rw [txtL_len] at hj; rw [h.com j hj]; exact ⟨rfl, h.fz _⟩
  have hout : ∀ i, 512 ≤ i → (w.setCells g 0 (txtL f)).cell? ⟨g, i, none⟩ = w.cell? ⟨g, i, none⟩ := fun i hi => World.cell?_setCells_out g _ 0 w ⟨g, i, none⟩ (fun _ _ => .inr (by show 0 + (txtL f).length ≤ i; rw [txtL_len]; omega))
  exact ⟨fun l hl => World.rangeAt_setCells_same w g 0 (txtL f) ht l _ (txtL_get f hl), fun l hl => (hout _ (by omega)).trans (h.now l hl), fun l hl => (hout _ (by omega)).trans (h.dirty l hl), (hout _ (by omega)).trans h.word, (hout _ (by omega)).trans h.ep, box_sets _ _ _ h.box⟩
theorem Xb.setNow {w : World} {g : Nat} {x : Xv} (h : Xb w g x) (f : Nat → List Nat) : Xb (w.setCells g 512 (txtL f)) g { x with now := f } := by
  have ht : w.there g 512 (txtL f).length := fun j hj => by rw [txtL_len] at hj; rw [h.now j hj]; exact ⟨rfl, h.fz _⟩
  have hout : ∀ i, i < 512 ∨ 1024 ≤ i → (w.setCells g 512 (txtL f)).cell? ⟨g, i, none⟩ = w.cell? ⟨g, i, none⟩ := fun i hi => World.cell?_setCells_out g _ 512 w ⟨g, i, none⟩ (fun _ _ => by
    rcases hi with hi | hi
    · exact .inl hi
    · exact .inr (by show 512 + (txtL f).length ≤ i; rw [txtL_len]; omega))
  exact ⟨fun l hl => (hout _ (by omega)).trans (h.com l hl), fun l hl => World.rangeAt_setCells_same w g 512 (txtL f) ht l _ (txtL_get f hl), fun l hl => (hout _ (by omega)).trans (h.dirty l hl), (hout _ (by omega)).trans h.word, (hout _ (by omega)).trans h.ep, box_sets _ _ _ h.box⟩
theorem falL_get {l : Nat} (h : l < 512) : falL[l]? = some (.bool false) := by unfold falL; rw [List.getElem?_map, List.getElem?_range h]; rfl
theorem Xb.setDirty {w : World} {g : Nat} {x : Xv} (h : Xb w g x) : Xb (w.setCells g 1024 falL) g { x with dirty := fun _ => false } := by
  have ht : w.there g 1024 falL.length := fun j hj => by rw [falL_len] at hj; rw [h.dirty j hj]; exact ⟨rfl, h.fz _⟩
  have hout : ∀ i, i < 1024 ∨ 1536 ≤ i → (w.setCells g 1024 falL).cell? ⟨g, i, none⟩ = w.cell? ⟨g, i, none⟩ := fun i hi => World.cell?_setCells_out g _ 1024 w ⟨g, i, none⟩ (fun _ _ => by
    rcases hi with hi | hi
    · exact .inl hi
    · exact .inr (by show 1024 + falL.length ≤ i; rw [falL_len]; omega))
  exact ⟨fun l hl => (hout _ (by omega)).trans (h.com l hl), fun l hl => (hout _ (by omega)).trans (h.now l hl), fun l hl => World.rangeAt_setCells_same w g 1024 falL ht l _ (falL_get hl), (hout _ (by omega)).trans h.word, (hout _ (by omega)).trans h.ep, box_sets _ _ _ h.box⟩
theorem cell_set_ne {w : World} {g i j : Nat} (v : Value) (h : i ≠ j) : (w.setCell ⟨g, i, none⟩ v).cell? ⟨g, j, none⟩ = w.cell? ⟨g, j, none⟩ := World.cell?_setCell_other _ _ _ _ (fun e => h (by injection e))
theorem cell_set_eq {w : World} {g i : Nat} {u : Value} (v : Value) (h : w.cell? ⟨g, i, none⟩ = some u) : (w.setCell ⟨g, i, none⟩ v).cell? ⟨g, i, none⟩ = some v := World.cell?_setCell_same _ _ _ (by rw [h])
theorem Xb.setWord {w : World} {g : Nat} {x : Xv} (h : Xb w g x) (v : Int) : Xb (w.setCell ⟨g, 1536, none⟩ (.int .i64 v)) g { x with word := v } :=
  ⟨fun l hl => (cell_set_ne _ (by omega)).trans (h.com l hl), fun l hl => (cell_set_ne _ (by omega)).trans (h.now l hl), fun l hl => (cell_set_ne _ (by omega)).trans (h.dirty l hl), cell_set_eq _ h.word, (cell_set_ne _ (by omega)).trans h.ep, box_set h.box⟩
theorem Xb.setEp {w : World} {g : Nat} {x : Xv} (h : Xb w g x) (v : Int) : Xb (w.setCell ⟨g, 1537, none⟩ (.int .i64 v)) g { x with ep := v } :=
  ⟨fun l hl => (cell_set_ne _ (by omega)).trans (h.com l hl), fun l hl => (cell_set_ne _ (by omega)).trans (h.now l hl), fun l hl => (cell_set_ne _ (by omega)).trans (h.dirty l hl), (cell_set_ne _ (by omega)).trans h.word, cell_set_eq _ h.ep, box_set h.box⟩
theorem Xb.setNow1 {w : World} {g : Nat} {x : Xv} (h : Xb w g x) {l : Nat} (hl : l < 512) (b : List Nat) : Xb (w.setCell ⟨g, 512 + l, none⟩ (.string (strB b))) g { x with now := fun k => if k = l then b else x.now k } :=
  ⟨fun k hk => (cell_set_ne _ (by omega)).trans (h.com k hk), fun k hk => by
    show _ = some (Value.string (strB (if k = l then b else x.now k)))
    by_cases e : k = l
    · subst e; rw [if_pos rfl]; exact cell_set_eq _ (h.now k hk)
    · rw [if_neg e]; exact (cell_set_ne _ (by omega)).trans (h.now k hk), fun k hk => (cell_set_ne _ (by omega)).trans (h.dirty k hk), (cell_set_ne _ (by omega)).trans h.word, (cell_set_ne _ (by omega)).trans h.ep, box_set h.box⟩
theorem Xb.setDirty1 {w : World} {g : Nat} {x : Xv} (h : Xb w g x) {l : Nat} (hl : l < 512) (b : Bool) : Xb (w.setCell ⟨g, 1024 + l, none⟩ (.bool b)) g { x with dirty := fun k => if k = l then b else x.dirty k } :=
  ⟨fun k hk => (cell_set_ne _ (by omega)).trans (h.com k hk), fun k hk => (cell_set_ne _ (by omega)).trans (h.now k hk), fun k hk => by
    show _ = some (Value.bool (if k = l then b else x.dirty k))
    by_cases e : k = l
    · subst e; rw [if_pos rfl]; exact cell_set_eq _ (h.dirty k hk)
    · rw [if_neg e]; exact (cell_set_ne _ (by omega)).trans (h.dirty k hk), (cell_set_ne _ (by omega)).trans h.word, (cell_set_ne _ (by omega)).trans h.ep, box_set h.box⟩
theorem Xb.there3 {w : World} {g : Nat} {x : Xv} (h : Xb w g x) : w.there g 1024 falL.toArray.size := fun j hj => by
  rw [List.size_toArray, falL_len] at hj
  rw [h.dirty j hj]; exact ⟨rfl, h.fz _⟩
set_option maxHeartbeats 3200000 in
theorem rcommit_any {w : World} {g : Nat} {x : Xv} (h : Xb w g x) (word : Int) (he : 0 ≤ x.ep ∧ x.ep ≤ 4611686018427387904) : Calls Tryz.prog 30 #[.pointer (some ⟨g, 0, none⟩), .int .i64 word] w fun e w' => e = .returned (.tuple #[]) ∧ Xb w' g (x.commit word) ∧ Only g w w' := by
  have HX := Lib.hid h
  have HR := Lib.hid h.now.range
  have HT : Hid (w.there g 0 (txtL x.now).toArray.size) := Lib.hid fun j hj => by
    rw [List.size_toArray, txtL_len] at hj
    rw [h.com j hj]; exact ⟨rfl, h.fz _⟩
  have HS : Hid ((Tryz.prog.info? 38).map (·.size) = some (txtL x.now).length) := Lib.hid (by rw [txtL_len]; exact size38)
  have HS2 : Hid ((Tryz.prog.info? 38).map (·.size) = some (txtL x.now).toArray.size) := Lib.hid (by rw [List.size_toArray, txtL_len]; exact size38)
  have H1 := Lib.hid (all_oneCell_toArray (txtL_one x.now))
  have HX1 : Hid (Xb (w.setCells g 0 (txtL x.now)) g { x with com := x.now } ∧ Only g w (w.setCells g 0 (txtL x.now))) := Lib.hid ⟨h.setCom x.now, only_sets _ _ _⟩
  obtain ⟨FA, HFA⟩ : ∃ FA, Hid (falL.toArray = FA) := ⟨_, Lib.hid rfl⟩
  have HF1 : Hid (FA.all (·.oneCell') = true) := Lib.hid (by rw [← HFA.out]; exact all_oneCell_toArray falL_one)
  have HF2 : Hid ((Tryz.prog.info? 39).map (·.size) = some FA.size) := Lib.hid (by rw [← HFA.out, List.size_toArray, falL_len]; exact size39)
  clear h
  go_enter Tryz.func30, Tryz.ntmps30
  go_upto_region 1 with (first
    | (refine wpList_load_mid rfl 38 (.tmp 7) rfl g 512 rfl (txtL x.now) _ HR.out Tryz.underlying38 rfl HS.out ?_)
    | (refine wpList_store_mid rfl 38 (.tmp 10) (.tmp 8) rfl g 0 (txtL x.now).toArray rfl rfl HT.out HS2.out H1.out ?_))
  generalize w.setCells g 0 (txtL x.now) = w1 at *
  generalize txtL x.now = T at *
  have cw := HX1.out.1.word
  have cf := HX1.out.1.fz 1536
  have HX2 : Hid (Xb (w1.setCell ⟨g, 1536, none⟩ (.int .i64 word)) g { x with com := x.now, word := word } ∧ Only g w (w1.setCell ⟨g, 1536, none⟩ (.int .i64 word))) := Lib.hid ⟨HX1.out.1.setWord word, HX1.out.2.trans (Only.setCell g 1536 _ _)⟩
  go_upto_region 2 with fail
  clear cw cf
  generalize w1.setCell ⟨g, 1536, none⟩ (.int .i64 word) = w2 at *
  have ce : w2.cell? ⟨g, 1537, none⟩ = some (.int .i64 x.ep) := HX2.out.1.ep
  have cf := HX2.out.1.fz 1537
  have HX3 : Hid (Xb (w2.setCell ⟨g, 1537, none⟩ (.int .i64 (x.ep + 1))) g { x with com := x.now, word := word, ep := x.ep + 1 } ∧ Only g w (w2.setCell ⟨g, 1537, none⟩ (.int .i64 (x.ep + 1)))) := Lib.hid ⟨HX2.out.1.setEp _, HX2.out.2.trans (Only.setCell g 1537 _ _)⟩
  obtain ⟨E, hE⟩ : ∃ E, Hid (x.ep = E) := ⟨_, Lib.hid rfl⟩
  rw [hE.out] at ce he
  have he0 := he.1
  have he1 := he.2
  rw [hE.out] at HX3
  go_upto_region 3 with fail
  clear ce cf
  generalize w2.setCell ⟨g, 1537, none⟩ (.int .i64 (E + 1)) = w3 at *
  have HT3 : Hid (w3.there g 1024 FA.size) := Lib.hid (by rw [← HFA.out]; exact HX3.out.1.there3)
  have HX4 : Hid (Xb (w3.setCells g 1024 FA.toList) g (x.commit word) ∧ Only g w (w3.setCells g 1024 FA.toList)) := Lib.hid (by
    rw [← HFA.out, List.toList_toArray]
    refine ⟨?_, HX3.out.2.trans (only_sets _ _ _)⟩
    have h4 := HX3.out.1.setDirty
    rw [← hE.out] at h4
    exact h4)
  go_wp2_with (first
    | (refine wpList_build39 rfl rfl FA HFA.out ?_)
    | (refine wpList_store_mid rfl 39 (.tmp 26) (.tmp 24) rfl g 1024 FA rfl rfl HT3.out HF2.out HF1.out ?_))
  go_end0
  exact ⟨rfl, HX4.out.1, HX4.out.2⟩
set_option maxHeartbeats 3200000 in
theorem rabort_any {w : World} {g : Nat} {x : Xv} (h : Xb w g x) : Calls Tryz.prog 29 #[.pointer (some ⟨g, 0, none⟩)] w fun e w' => e = .returned (.tuple #[]) ∧ Xb w' g x.abort ∧ Only g w w' := by
  have HR := Lib.hid h.com.range
  have HT : Hid (w.there g 512 (txtL x.com).toArray.size) := Lib.hid fun j hj => by
    rw [List.size_toArray, txtL_len] at hj
    rw [h.now j hj]; exact ⟨rfl, h.fz _⟩
  have HS : Hid ((Tryz.prog.info? 38).map (·.size) = some (txtL x.com).length) := Lib.hid (by rw [txtL_len]; exact size38)
  have HS2 : Hid ((Tryz.prog.info? 38).map (·.size) = some (txtL x.com).toArray.size) := Lib.hid (by rw [List.size_toArray, txtL_len]; exact size38)
  have H1 := Lib.hid (all_oneCell_toArray (txtL_one x.com))
  have HX1 : Hid (Xb (w.setCells g 512 (txtL x.com)) g { x with now := x.com } ∧ Only g w (w.setCells g 512 (txtL x.com))) := Lib.hid ⟨h.setNow x.com, only_sets _ _ _⟩
  obtain ⟨FA, HFA⟩ : ∃ FA, Hid (falL.toArray = FA) := ⟨_, Lib.hid rfl⟩
  have HF1 : Hid (FA.all (·.oneCell') = true) := Lib.hid (by rw [← HFA.out]; exact all_oneCell_toArray falL_one)
  have HF2 : Hid ((Tryz.prog.info? 39).map (·.size) = some FA.size) := Lib.hid (by rw [← HFA.out, List.size_toArray, falL_len]; exact size39)
  clear h
  go_enter Tryz.func29, Tryz.ntmps29
  go_upto_region 1 with (first
    | (refine wpList_load_mid rfl 38 (.tmp 5) rfl g 0 rfl (txtL x.com) _ HR.out Tryz.underlying38 rfl HS.out ?_)
    | (refine wpList_store_mid rfl 38 (.tmp 8) (.tmp 6) rfl g 512 (txtL x.com).toArray rfl rfl HT.out HS2.out H1.out ?_))
  generalize w.setCells g 512 (txtL x.com) = w1 at *
  generalize txtL x.com = T at *
  have HT3 : Hid (w1.there g 1024 FA.size) := Lib.hid (by rw [← HFA.out]; exact HX1.out.1.there3)
  have HX4 : Hid (Xb (w1.setCells g 1024 FA.toList) g x.abort ∧ Only g w (w1.setCells g 1024 FA.toList)) := Lib.hid (by
    rw [← HFA.out, List.toList_toArray]
    exact ⟨HX1.out.1.setDirty, HX1.out.2.trans (only_sets _ _ _)⟩)
  go_wp2_with (first
    | (refine wpList_build39 rfl rfl FA HFA.out ?_)
    | (refine wpList_store_mid rfl 39 (.tmp 12) (.tmp 10) rfl g 1024 FA rfl rfl HT3.out HF2.out HF1.out ?_))
  go_end0
  exact ⟨rfl, HX4.out.1, HX4.out.2⟩
end Go.Proofs.YthcnofdihigohaaGreat
end
section
/- A disk, a space, and the document's space, in memory. -/
set_option maxRecDepth 20000
set_option linter.unusedSimpArgs false
namespace Go.Proofs.YthcnofdihigohaaGreat
open Go.RowKit

def IsX (w : World) (g : Nat) : Prop := ∃ cs fr, w.heap[g]? = some (.cells cs 41 fr)
section
variable {w w' : World} {X : Nat}
theorem keep3 (hO : Only X w w') (hx : IsX w X) {b t : Nat} {cs : Array Value} {fr : Nat × Nat} (hb : w.heap[b]? = some (.cells cs t fr)) (ht : t ≠ 41) : w'.heap[b]? = some (.cells cs t fr) := by
  rw [hO.block b (lt_of_block hb) (fun e => by
    obtain ⟨c2, f2, h2⟩ := hx
    rw [← e, hb] at h2
    cases h2
    exact ht rfl), hb]
theorem Sec.chg3 {v : Value} {s : List Nat} (hs : Sec w v s) (hO : Only X w w') (hx : IsX w X) : Sec w' v s := by
  obtain ⟨b, c, cur, fr, rfl, hh, hr⟩ := hs
  exact ⟨b, c, cur, fr, rfl, keep3 hO hx hh (by decide), hr⟩
theorem Dk.stay3 {F : List Nat} {g : Nat} {m : Dsk} (h : Dk w g F m) (hO : Only X w w') (hx : IsX w X) : Dk w' g F m := by
  obtain ⟨bO, cO, bL, cL, vW, os, ls, ws, h, rfl⟩ := h
  have hs : ∀ k ∈ foot g bO bL vW, w'.heap[k]? = w.heap[k]? := fun k hk => by
    obtain ⟨cs, t, fr, h1, h2⟩ := h.typed k hk
    exact (keep3 hO hx h1 (by rcases h2 with e | e | e <;> rw [e] <;> decide)).trans h1.symm
  refine ⟨bO, cO, bL, cL, vW, os, ls, ws, ⟨(hs g (by simp [foot])).trans h.hd, own_other h.ro (fun k hk => hs k ?_), own_other h.rl (fun k hk => hs k ?_), own_other h.rw_ (fun k hk => hs k ?_), ⟨h.so.len, fun i hi => (h.so.at_ i hi).chg3 hO hx⟩, ⟨h.sl.len, fun i hi => (h.sl.at_ i hi).chg3 hO hx⟩, ⟨h.sw.len, fun i hi => ⟨(h.sw.at_ i hi).1, (h.sw.at_ i hi).2.chg3 hO hx⟩⟩, h.nil_, h.ne, h.ok⟩, rfl⟩
  · cases hk; simp [foot]
  · cases hk; simp [foot]
  · simp [foot, hk]
theorem Sat.chg3 {g b n : Nat} {f : Nat → Bool} (hs : Bi.Sat w g b n f) (hO : Only X w w') (hx : IsX w X) : Bi.Sat w' g b n f := by
  obtain ⟨cur, hc⟩ := hs.row.head
  exact ⟨hs.le, hs.sub, hs.ne, keep3 hO hx hs.box (by decide), hs.row.same ((keep3 hO hx hc (by decide)).trans hc.symm)⟩
theorem Stp.chg3 {p : Option Addr} {f : Option (Nat → Bool)} (hs : Stp w p f) (hO : Only X w w') (hx : IsX w X) : Stp w' p f := by
  cases f with
  | none => exact hs
  | some f =>
    obtain ⟨g, b, e, hs⟩ := hs
    exact ⟨g, b, e, Sat.chg3 hs hO hx⟩
theorem Spc.stay3 {g d : Nat} {G : List Nat} {s : Sp} (h : Spc w g G d s) (hO : Only X w w') (hx : IsX w X) : Spc w' g G d s := by
  obtain ⟨pt, pk, mb, pu, po, h, rfl⟩ := h
  obtain ⟨es, c, hm⟩ := h.map.isMap
  have hmb : mb < w.heap.size := h.lts.2.2.2
  have hne : mb ≠ X := fun e => by
    obtain ⟨c2, f2, h2⟩ := hx
    rw [← e, hm] at h2
    cases h2
  exact ⟨pt, pk, mb, pu, po, ⟨keep3 hO hx h.box (by decide), h.tab.same ((keep3 hO hx h.tab.row (by decide)).trans h.tab.row.symm), h.kep.same ((keep3 hO hx h.kep.row (by decide)).trans h.kep.row.symm), h.map.same (hO.block mb hmb hne), h.us.chg3 hO hx, h.od.chg3 hO hx, h.ne⟩, rfl⟩
end
/-- All three, at rest; b: below it nothing changes; k: how many steps were done. -/
structure Duo (b : Nat) (w : World) (d g X : Nat) (m : Dsk) (s : Sp) (pg : Nat) (x y : Xv) (k : Nat) : Prop where
  mem : ∃ F G, Dk w d F m ∧ Spc w g G d s ∧ ∀ k ∈ F ++ G, b ≤ k
  xb : Xb w X x
  xge : b ≤ X
  inv : Inv m s pg
  sim : Sim s m.out y
  dn : m.done ≤ 3000 * k + 100
  ep : 0 ≤ s.g.r.ep ∧ s.g.r.ep ≤ (k : Int) + 1
  ro : k ≤ 50 → RootO m.out s.g.r
  k : k ≤ 1000
  bl : b ≤ w.heap.size
  od : OdOk s pg
section
variable {b : Nat} {w w' : World} {d g X : Nat} {m : Dsk} {s : Sp} {pg : Nat} {x y : Xv} {k : Nat}
theorem Xb.isX (h : Xb w X x) : IsX w X := by obtain ⟨cs, hc, _⟩ := h.box; exact ⟨cs, _, hc⟩
theorem Duo.secs (h : Duo b w d g X m s pg x y k) : Secs128 m.out := by
  obtain ⟨F, G, hD, _, _⟩ := h.mem
  exact hD.ok.out
theorem Duo.rest (h : Duo b w d g X m s pg x y k) : ∃ F G, Rest w d g F G m s pg ∧ ∀ k ∈ F ++ G, b ≤ k := by
  obtain ⟨F, G, hD, hS, hb⟩ := h.mem
  have h1 := h.k
  have h2 := h.dn
  have h3 := h.ep
  exact ⟨F, G, ⟨hD, hS, h.inv, by omega, h3.1, by omega⟩, hb⟩
theorem Duo.below (h : Duo b w d g X m s pg x y k) (hb : Below w.heap.size w w') : Duo b w' d g X m s pg x y k := by
  obtain ⟨F, G, hD, hS, hk⟩ := h.mem
  exact ⟨⟨F, G, hD.below hb, hS.below hb, hk⟩, h.xb.below hb, h.xge, h.inv, h.sim, h.dn, h.ep, h.ro, h.k, Nat.le_trans h.bl hb.size, h.od⟩
theorem Duo.drew (h : Duo b w d g X m s pg x y k) : Duo b w.drew d g X m s pg x y k := h.below (Below.refl _ _).drew
/-- The document's space changes. -/
theorem Duo.xup (h : Duo b w d g X m s pg x y k) {x' : Xv} (hO : Only X w w') (hx : Xb w' X x') : Duo b w' d g X m s pg x' y k := by
  obtain ⟨F, G, hD, hS, hk⟩ := h.mem
  exact ⟨⟨F, G, hD.stay3 hO h.xb.isX, hS.stay3 hO h.xb.isX, hk⟩, hx, h.xge, h.inv, h.sim, h.dn, h.ep, h.ro, h.k, Nat.le_trans h.bl hO.size, h.od⟩
theorem Only.belowB {X b : Nat} {w w' : World} (h : Only X w w') (hX : b ≤ X) (hw : b ≤ w.heap.size) : Below b w w' :=
  ⟨h.os, h.tape, h.output, h.size, fun k hk => h.block k (by omega) (by omega)⟩
theorem Chg.belowB {F F' : List Nat} {b : Nat} {w w' : World} (h : Chg F F' w w') (hF : ∀ k ∈ F, b ≤ k) (hw : b ≤ w.heap.size) : Below b w w' :=
  ⟨h.os, h.tape, h.output, h.size, fun k hk => h.block k (by omega) (fun hm => absurd (hF k hm) (by omega))⟩
theorem Chg.ge {F F' : List Nat} {b : Nat} {w w' : World} (h : Chg F F' w w') (hF : ∀ k ∈ F, b ≤ k) (hw : b ≤ w.heap.size) : ∀ k ∈ F', b ≤ k := fun k hk => (h.fresh k hk).elim (hF k) (fun h => Nat.le_trans hw h)
/-- The document's space stays where a disk's and a space's blocks change. -/
theorem Xb.chg {F G F' : List Nat} (h : Xb w X x) (hD : Dk w d F m) (hS : Spc w g G d s) (hc : Chg (F ++ G) F' w w') : Xb w' X x := by
  obtain ⟨cs, hb, _⟩ := h.box
  exact h.same ((hc.keep2 (hD.typed.kin.app hS.kin) hb (by decide)).trans hb.symm)
theorem Xb.chgG {G F' : List Nat} (h : Xb w X x) (hS : Spc w g G d s) (hc : Chg G F' w w') : Xb w' X x := by
  obtain ⟨cs, hb, _⟩ := h.box
  exact h.same ((hc.keep2 hS.kin hb (by decide)).trans hb.symm)
/-- A step's box stays. -/
def BoxK (w w' : World) : Prop := ∀ (B : Nat) (cs : Array Value) (fr : Nat × Nat), w.heap[B]? = some (Obj.cells cs 90 fr) → w'.heap[B]? = some (Obj.cells cs 90 fr)
theorem BoxK.trans {a b c : World} (h : BoxK a b) (k : BoxK b c) : BoxK a c := fun B cs fr hb => k B cs fr (h B cs fr hb)
theorem BoxK.below {a b : World} (h : Below a.heap.size a b) : BoxK a b := fun B _ _ hb => (h.block B (lt_of_block hb)).trans hb
theorem BoxK.only (hO : Only X w w') (hx : IsX w X) : BoxK w w' := fun _ _ _ hb => keep3 hO hx hb (by decide)
theorem BoxK.chgG {G F' : List Nat} (hS : Spc w g G d s) (hc : Chg G F' w w') : BoxK w w' := fun _ _ _ hb => hc.keep2 hS.kin hb (by decide)
end
end Go.Proofs.YthcnofdihigohaaGreat
end
section
/- The calls of a step, over all three. -/
set_option maxRecDepth 20000
set_option linter.unusedSimpArgs false
namespace Go.Proofs.YthcnofdihigohaaGreat
open Go.RowKit

section
variable {b : Nat} {w : World} {d g X : Nat} {m : Dsk} {s : Sp} {pg : Nat} {x y : Xv} {k : Nat}
theorem Duo.th (h : Duo b w d g X m s pg x y k) (l : Int) : hasS s l = thX y.now l := by
  unfold thX
  by_cases h0 : 0 ≤ l ∧ l < 512
  · obtain ⟨n, rfl⟩ : ∃ n : Nat, l = (n : Int) := ⟨l.toNat, by omega⟩
    have hn : n < 512 := by omega
    rw [hasS_isN s hn, Int.toNat_natCast, h.sim.nnow h.inv.sp h.secs hn, decide_eq_true h0.1, decide_eq_true h0.2]; rfl
  · rw [hasS_out s h0 (fun l e => h.inv.sp.frLt l e)]
    rcases Decidable.not_and_iff_or_not.1 h0 with h1 | h1
    · rw [decide_eq_false h1]; rfl
    · rw [decide_eq_false h1]; simp
theorem Inv.sp' {s' : Sp} (h : Inv m s pg) (hs : SpGood s' m.out pg) (hg : s'.g.r = s.g.r) : Inv m s' pg :=
  ⟨h.up, h.row, h.fuse, h.len, h.ok, hs, by rw [hg]; exact h.rt⟩
/-- The space changes in its own blocks. -/
theorem Duo.spUp (h : Duo b w d g X m s pg x y k) {w' : World} {pt pk mb : Nat} {pu po : Option Addr} {s' : Sp} {y' : Xv} (h0 : Spc0 w g d pt pk mb pu po s) (hge : ∀ j ∈ [g, pt, pk, mb], b ≤ j) {F : List Nat} (hD : Dk w d F m) (hF : ∀ j ∈ F, b ≤ j) (hs : Spc0 w' g d pt pk mb pu po s') (hc : Chg [g, pt, pk, mb] [g, pt, pk, mb] w w')
    (hg : SpGood s' m.out pg) (hr : s'.g.r = s.g.r) (ho : s'.od = s.od) (hy : Sim s' m.out y') : Duo b w' d g X m s' pg x y' k := by
  refine ⟨⟨F, [g, pt, pk, mb], hD.stay2 hc h0.kin (fun j hj hm => apart_of hD.typed h0 j hm hj), ⟨pt, pk, mb, pu, po, hs, rfl⟩, fun j hj => (List.mem_append.1 hj).elim (hF j) (hge j)⟩, h.xb.chgG ⟨pt, pk, mb, pu, po, h0, rfl⟩ hc, h.xge, h.inv.sp' hg hr, hy, h.dn, by rw [hr]; exact h.ep, fun hk => hr ▸ h.ro hk, h.k, Nat.le_trans h.bl hc.size, fun f e => h.od f (ho ▸ e)⟩
theorem Duo.parts (h : Duo b w d g X m s pg x y k) : ∃ F pt pk mb pu po, Dk w d F m ∧ Spc0 w g d pt pk mb pu po s ∧ (∀ j ∈ F, b ≤ j) ∧ ∀ j ∈ [g, pt, pk, mb], b ≤ j := by
  obtain ⟨F, G, hD, ⟨pt, pk, mb, pu, po, hS, rfl⟩, hb⟩ := h.mem
  exact ⟨F, pt, pk, mb, pu, po, hD, hS, fun j hj => hb j (List.mem_append_left _ hj), fun j hj => hb j (List.mem_append_right _ hj)⟩
theorem th_lt {f : Nat → List Nat} {l : Int} (h : thX f l = true) : l.toNat < 512 ∧ 0 ≤ l ∧ ((l.toNat : Nat) : Int) = l := by
  unfold thX at h
  simp only [Bool.and_eq_true, decide_eq_true_eq] at h
  omega
theorem write_duo (h : Duo b w d g X m s pg x y k) (l : Int) (h0 : -9223372036854775808 ≤ l) (h1 : l ≤ 9223372036854775807) (c : List Nat) (hc : c.length = 512 ∧ ∀ v ∈ c, v < 256) :
    Calls Tryz.prog 38 #[.pointer (some ⟨g, 0, none⟩), .int .i64 l, .string (strB c)] w fun e w' => e = .returned (.int .i64 (if thX y.now l = true then 0 else 5)) ∧ (∃ s', Duo b w' d g X m s' pg x (if thX y.now l = true then y.put l.toNat c else y) k) ∧ Below b w w' ∧ BoxK w w' := by
  obtain ⟨F, pt, pk, mb, pu, po, hD, hS, hF, hG⟩ := h.parts
  refine (write_sp hS l h0 h1 c hc.1).mono ?_
  rintro e w' ⟨rfl, hs, hch⟩
  rw [h.th l] at hs ⊢
  refine ⟨rfl, ?_, hch.belowB hG h.bl, BoxK.chgG ⟨pt, pk, mb, pu, po, hS, rfl⟩ hch⟩
  cases ht : thX y.now l
  · rw [ht] at hs
    exact ⟨s, h.spUp hS hG hD hF hs hch h.inv.sp rfl rfl h.sim⟩
  · rw [ht] at hs
    obtain ⟨t1, t2, t3⟩ := th_lt ht
    exact ⟨_, h.spUp hS hG hD hF hs hch (h.inv.sp.put t1 hc) rfl rfl (h.sim.put t1 c)⟩
theorem drop_duo (h : Duo b w d g X m s pg x y k) (l : Int) (h0 : -9223372036854775808 ≤ l) (h1 : l ≤ 9223372036854775807) :
    Calls Tryz.prog 74 #[.pointer (some ⟨g, 0, none⟩), .int .i64 l] w fun e w' => e = .returned (.int .i64 (if thX y.now l = true then 0 else 5)) ∧ (∃ s', Duo b w' d g X m s' pg x (if thX y.now l = true then y.drop l.toNat else y) k) ∧ Below b w w' ∧ BoxK w w' := by
  obtain ⟨F, pt, pk, mb, pu, po, hD, hS, hF, hG⟩ := h.parts
  refine (drop_sp hS l h0 h1).mono ?_
  rintro e w' ⟨rfl, hs, hch⟩
  rw [h.th l] at hs ⊢
  refine ⟨rfl, ?_, hch.belowB hG h.bl, BoxK.chgG ⟨pt, pk, mb, pu, po, hS, rfl⟩ hch⟩
  cases ht : thX y.now l
  · rw [ht] at hs
    exact ⟨s, h.spUp hS hG hD hF hs hch h.inv.sp rfl rfl h.sim⟩
  · rw [ht] at hs
    obtain ⟨t1, t2, t3⟩ := th_lt ht
    have hs2 : Spc0 w' g d pt pk mb pu po (dropS s ((l.toNat : Nat) : Int)) := by rw [t3]; exact hs
    exact ⟨_, h.spUp hS hG hD hF hs2 hch (h.inv.sp.drop t1) rfl rfl (h.sim.drop t1)⟩
theorem zs_ok : zs512.length = 512 ∧ ∀ v ∈ zs512, v < 256 := by
  refine ⟨by decide, fun v hv => ?_⟩
  have := List.eq_of_mem_replicate hv
  omega
theorem alloc_duo (h : Duo b w d g X m s pg x y k) :
    Calls Tryz.prog 25 #[.pointer (some ⟨g, 0, none⟩)] w fun e w' => ((∃ l, gapF (nn y.now) 512 0 = some l ∧ l < 512 ∧ e = .returned (.tuple #[.int .i64 (l : Int), .int .i64 0]) ∧ ∃ s', Duo b w' d g X m s' pg x (y.put l zs512) k) ∨
      (gapF (nn y.now) 512 0 = none ∧ e = .returned (.tuple #[.int .i64 0, .int .i64 8]) ∧ Duo b w' d g X m s pg x y k)) ∧ Below b w w' ∧ BoxK w w' := by
  obtain ⟨F, pt, pk, mb, pu, po, hD, hS, hF, hG⟩ := h.parts
  refine (alloc_sp hS).mono ?_
  rintro e w' ⟨rfl, hs, hch⟩
  refine ⟨?_, hch.belowB hG h.bl, BoxK.chgG ⟨pt, pk, mb, pu, po, hS, rfl⟩ hch⟩
  have hgp := gap_eq h.sim h.inv.sp h.secs
  unfold allocE
  unfold allocS at hs
  rw [hgp] at hs ⊢
  cases hg : gapF (nn y.now) 512 0 with
  | none =>
    rw [hg] at hs
    exact .inr ⟨rfl, rfl, h.spUp hS hG hD hF hs hch h.inv.sp rfl rfl h.sim⟩
  | some l =>
    rw [hg] at hs
    have hl := (gapF_lt hg).1
    exact .inl ⟨l, rfl, by omega, rfl, _, h.spUp hS hG hD hF hs hch (h.inv.sp.put (by omega) zs_ok) rfl rfl (h.sim.put (by omega) zs512)⟩
theorem abort_duo (h : Duo b w d g X m s pg x y k) :
    Calls Tryz.prog 76 #[.pointer (some ⟨g, 0, none⟩)] w fun e w' => e = .returned (.tuple #[]) ∧ Duo b w' d g X m (settleS s) pg x y.abort k ∧ Below b w w' := by
  obtain ⟨F, pt, pk, mb, pu, po, hD, hS, hF, hG⟩ := h.parts
  refine (abort_sp hS).mono ?_
  rintro e w' ⟨rfl, ⟨pk', mb', k1, k2, hs⟩, hO⟩
  have hbl := h.bl
  have hgb := hG g (by simp)
  refine ⟨rfl, ⟨⟨F, [g, pt, pk', mb'], hD.keepG hS.box hO, ⟨pt, pk', mb', pu, po, hs, rfl⟩, fun j hj => ?_⟩, ?_, h.xge, h.inv.sp' h.inv.sp.settle rfl, h.sim.settle, h.dn, h.ep, h.ro, h.k, Nat.le_trans hbl hO.size, fun f e => h.od f e⟩, hO.belowB hgb hbl⟩
  · rcases List.mem_append.1 hj with hj | hj
    · exact hF j hj
    · simp only [List.mem_cons, List.not_mem_nil, or_false] at hj
      rcases hj with rfl | rfl | rfl | rfl
      · exact hgb
      · exact hG _ (by simp)
      · omega
      · omega
  · obtain ⟨cs, hx, _⟩ := h.xb.box
    exact h.xb.same (hO.block X h.xb.lt (fun e => by rw [e, hS.box] at hx; cases hx))
theorem changed_duo (h : Duo b w d g X m (settleS s) pg x y k) : Calls Tryz.prog 77 #[.pointer (some ⟨g, 0, none⟩)] w fun e w' => e = .returned (.bool false) ∧ w = w' := by
  obtain ⟨F, pt, pk, mb, pu, po, hD, hS, hF, hG⟩ := h.parts
  exact changed_sp hS
theorem read_duo (h : Duo b w d g X m s pg x y k) (l : Int) (h0 : -9223372036854775808 ≤ l) (h1 : l ≤ 9223372036854775807) :
    Calls Tryz.prog 31 #[.pointer (some ⟨g, 0, none⟩), .int .i64 l] w fun e w' => e = .returned (if thX y.now l = true then .tuple #[.string (strB (y.now l.toNat)), .int .i64 0] else .tuple #[.string (strB []), .int .i64 5]) ∧ Below w.heap.size w w' := by
  obtain ⟨F, pt, pk, mb, pu, po, hD, hS, hF, hG⟩ := h.parts
  have hp := h.inv.pgle
  have hl := h.inv.len
  refine (read_sp hS hD h.inv.up (by omega) (fun l hl => (h.inv.sp.kpLt l hl).2) l h0 h1).mono ?_
  rintro e w' ⟨rfl, hb⟩
  refine ⟨?_, hb⟩
  cases ht : thX y.now l
  · have : rdV m s l = none := by
      have hh := h.th l
      rw [ht] at hh
      unfold hasS at hh
      unfold rdV
      cases e : s.fr.at_ l with
      | some c => rw [e] at hh; simp at hh
      | none =>
        rw [e] at hh
        have h3 : Tb.getI s.kp l = 0 := by simpa using hh
        show (if Tb.getI s.kp l = 0 then none else _) = none
        rw [if_pos h3]
    rw [this]; rfl
  · obtain ⟨t1, t2, t3⟩ := th_lt ht
    have hr := rd_now m s h.inv.last t1
    rw [t3] at hr
    have hn : isN s l.toNat = true := by
      rw [← h.sim.nnow h.inv.sp h.secs t1]
      unfold thX at ht
      simp only [Bool.and_eq_true] at ht
      exact ht.2
    rw [hr, if_pos hn, h.sim.now _ t1]; rfl
end
end Go.Proofs.YthcnofdihigohaaGreat
end
section
/- The law's commit: both commit, and answer alike; a space opened anew. -/
set_option maxRecDepth 20000
set_option linter.unusedSimpArgs false
namespace Go.Proofs.YthcnofdihigohaaGreat
open Go.RowKit

section
variable {b : Nat} {w : World} {d g X : Nat} {m : Dsk} {s : Sp} {pg : Nat} {x y : Xv} {k : Nat}
theorem Duo.next (h : Duo b w d g X m s pg x y k) (hk : k + 1 ≤ 1000) : Duo b w d g X m s pg x y (k + 1) :=
  ⟨h.mem, h.xb, h.xge, h.inv, h.sim, by have := h.dn; omega, ⟨h.ep.1, by have := h.ep.2; omega⟩, fun hk2 => h.ro (by omega), hk, h.bl, h.od⟩
theorem need_duo (h : Duo b w d g X m s pg x y k) : Calls Tryz.prog 17 #[.pointer (some ⟨g, 0, none⟩)] w fun e w' => e = .returned (.int .i64 (needS s : Int)) ∧ Below w.heap.size w w' := by
  obtain ⟨F, pt, pk, mb, pu, po, hD, hS, hF, hG⟩ := h.parts
  exact need_any hS
theorem free_duo (h : Duo b w d g X m s pg x y k) : Calls Tryz.prog 20 #[.pointer (some ⟨g, 0, none⟩)] w fun e w' => e = .returned (.int .i64 ((freeL s).length : Int)) ∧ Below w.heap.size w w' := by
  obtain ⟨F, pt, pk, mb, pu, po, hD, hS, hF, hG⟩ := h.parts
  exact Free_any hS pg h.inv.sp.pgE h.inv.pgle.2
theorem rneed_duo (h : Duo b w d g X m s pg x x k) : Calls Tryz.prog 18 #[.pointer (some ⟨X, 0, none⟩)] w fun e w' => e = .returned (.int .i64 (needS s : Int)) ∧ Below w.heap.size w w' := by
  have := rneed_any h.xb
  rw [need_eq h.sim h.inv.sp h.secs] at this
  exact this
/-- How a commit ends. -/
def ComE (s : Sp) (word E : Int) : Prop := (¬ (0 ≤ word ∧ word ≤ 2147483647) ∧ E = 7) ∨ ((0 ≤ word ∧ word ≤ 2147483647) ∧ (freeL s).length < needS s ∧ E = 8) ∨ ((0 ≤ word ∧ word ≤ 2147483647) ∧ needS s ≤ (freeL s).length ∧ E = 0)
theorem cmt_duo (h : Duo b w d g X m s pg x y k) (hk : k + 1 ≤ 1000) (word : Int) :
    Calls Tryz.prog 24 #[.pointer (some ⟨g, 0, none⟩), .int .i64 word] w fun e w' => (∃ E, e = .returned (.int .i64 E) ∧ ComE s word E ∧ (E ≠ 0 → Duo b w' d g X m s pg x y k) ∧ (E = 0 → ∃ m', Duo b w' d g X m' (commS s (nextR s word)) pg x (y.commit word) (k + 1))) ∧ Below b w w' := by
  obtain ⟨F, G, hR, hge⟩ := h.rest
  refine (commit_sp hR word).mono ?_
  rintro e w' (⟨hw, rfl, hb⟩ | ⟨hw, hf, rfl, hb⟩ | ⟨hw, hf, rfl, hC⟩)
  · exact ⟨⟨7, rfl, .inl ⟨of_eq_false hw, rfl⟩, fun _ => h.below hb, fun e => absurd e (by decide)⟩, hb.mono h.bl⟩
  · exact ⟨⟨8, rfl, .inr (.inl ⟨hw, hf, rfl⟩), fun _ => h.below hb, fun e => absurd e (by decide)⟩, hb.mono h.bl⟩
  · obtain ⟨m', F', G', hD', hS', hc, hI, hdn, hsim, hro⟩ := hC
    have h1 := h.dn
    have h2 := h.ep
    refine ⟨⟨0, rfl, .inr (.inr ⟨hw, hf, rfl⟩), fun e => absurd rfl e, fun _ => ⟨m', ⟨F', G', hD', hS', hc.ge hge h.bl⟩, h.xb.chg hR.dk hR.sp hc, h.xge, hI, hsim _ h.sim, by omega, ?_, fun _ => hro, hk, Nat.le_trans h.bl hc.size, od_comm h.inv.sp _⟩⟩, hc.belowB hge h.bl⟩
    show 0 ≤ s.g.r.ep + 1 ∧ s.g.r.ep + 1 ≤ _
    omega
theorem rcommit_duo (h : Duo b w d g X m s pg x y k) (he : 0 ≤ x.ep ∧ x.ep ≤ 4611686018427387904) (word : Int) : Calls Tryz.prog 30 #[.pointer (some ⟨X, 0, none⟩), .int .i64 word] w fun e w' => e = .returned (.tuple #[]) ∧ Duo b w' d g X m s pg (x.commit word) y k ∧ Below b w w' := by
  refine (rcommit_any h.xb word he).mono ?_
  rintro e w' ⟨rfl, hx, hO⟩
  exact ⟨rfl, h.xup hO hx, hO.belowB h.xge h.bl⟩
theorem rabort_duo (h : Duo b w d g X m s pg x y k) : Calls Tryz.prog 29 #[.pointer (some ⟨X, 0, none⟩)] w fun e w' => e = .returned (.tuple #[]) ∧ Duo b w' d g X m s pg x.abort y k ∧ Below b w w' := by
  refine (rabort_any h.xb).mono ?_
  rintro e w' ⟨rfl, hx, hO⟩
  exact ⟨rfl, h.xup hO hx, hO.belowB h.xge h.bl⟩
set_option maxHeartbeats 3200000 in
theorem lcommit_duo (h : Duo b w d g X m s pg x x k) (hk : k + 1 ≤ 1000) (word : Int) :
    Calls Tryz.prog 75 #[.pointer (some ⟨g, 0, none⟩), .pointer (some ⟨X, 0, none⟩), .int .i64 word] w fun e w' => e = .returned (.bool true) ∧ (∃ m' s' x', Duo b w' d g X m' s' pg x' x' (k + 1)) ∧ Below b w w' := by
  have HH := Lib.hid h
  have HE : Hid (0 ≤ x.ep ∧ x.ep ≤ 4611686018427387904) := Lib.hid (by
    have := h.sim.ep
    have h1 := h.ep
    have h2 := h.k
    omega)
  have HND : Hid (∀ u, Duo b u d g X m s pg x x k → Calls Tryz.prog 17 #[.pointer (some ⟨g, 0, none⟩)] u fun e w' => e = .returned (.int .i64 (needS s : Int)) ∧ Below u.heap.size u w') := Lib.hid fun u hu => need_duo hu
  have HFR : Hid (∀ u, Duo b u d g X m s pg x x k → Calls Tryz.prog 20 #[.pointer (some ⟨g, 0, none⟩)] u fun e w' => e = .returned (.int .i64 ((freeL s).length : Int)) ∧ Below u.heap.size u w') := Lib.hid fun u hu => free_duo hu
  have HRN : Hid (∀ u, Duo b u d g X m s pg x x k → Calls Tryz.prog 18 #[.pointer (some ⟨X, 0, none⟩)] u fun e w' => e = .returned (.int .i64 (needS s : Int)) ∧ Below u.heap.size u w') := Lib.hid fun u hu => rneed_duo hu
  have HCE : Hid (∀ E, ComE s word E → (¬ (0 ≤ word ∧ word ≤ 2147483647) ∧ E = 7) ∨ ((0 ≤ word ∧ word ≤ 2147483647) ∧ (freeL s).length < needS s ∧ E = 8) ∨ ((0 ≤ word ∧ word ≤ 2147483647) ∧ needS s ≤ (freeL s).length ∧ E = 0)) := Lib.hid fun E hE => hE
  have HCT : Hid (∀ u, Duo b u d g X m s pg x x k → Calls Tryz.prog 24 #[.pointer (some ⟨g, 0, none⟩), .int .i64 word] u fun e w' => (∃ E, e = .returned (.int .i64 E) ∧ ComE s word E ∧ (E ≠ 0 → Duo b w' d g X m s pg x x k) ∧ (E = 0 → ∃ m', Duo b w' d g X m' (commS s (nextR s word)) pg x (x.commit word) (k + 1))) ∧ Below b u w') := Lib.hid fun u hu => cmt_duo hu hk word
  clear h
  generalize needS s = nd at *
  generalize (freeL s).length = fr at *
  go_enter Tryz.func75, Tryz.ntmps75
  go_upto_region 4 with (first
    | (go_at_call 17; refine (HND.out _ HH.out).mono ?_; rintro e w1 ⟨rfl, hb1⟩; have H1 := Lib.hid (HH.out.below hb1); have HB1 := Lib.hid (hb1.mono HH.out.bl); clear hb1)
    | (go_at_call 20; refine (HFR.out _ H1.out).mono ?_; rintro e w2 ⟨rfl, hb2⟩; have H2 := Lib.hid (H1.out.below hb2); have HB2 := Lib.hid (HB1.out.trans (hb2.mono H1.out.bl)); clear hb2)
    | (go_at_call 18; refine (HRN.out _ H2.out).mono ?_; rintro e w3 ⟨rfl, hb3⟩; have H3 := Lib.hid (H2.out.below hb3); have HB3 := Lib.hid (HB2.out.trans (hb3.mono H2.out.bl)); clear hb3))
  go_upto_region 5 with (go_at_call 24; refine (HCT.out _ H3.out).mono ?_; rintro e w4 ⟨⟨E, rfl, hE, hE1, hE2⟩, hb4⟩)
  have HB4 := Lib.hid (HB3.out.trans hb4)
  have HE1 := Lib.hid hE1
  have HE2 := Lib.hid hE2
  have hE' := HCE.out E hE
  clear hE hE1 hE2 hb4 HCT HCE HRN H1 H2 H3 HB1 HB2 HB3
  rcases hE' with ⟨hw, rfl⟩ | ⟨hw, hf, rfl⟩ | ⟨hw, hf, rfl⟩
  · have HR := Lib.hid (HE1.out (by decide))
    clear HE1 HE2
    by_cases h0 : word < 0
    · have d0 : decide (word < 0) = true := decide_eq_true h0
      go_wp2_with fail
      go_ret
      exact ⟨rfl, ⟨m, s, x, HR.out.next hk⟩, HB4.out⟩
    · have d0 : decide (word < 0) = false := decide_eq_false h0
      have d1 : decide (2147483647 < word) = true := decide_eq_true (by omega)
      go_wp2_with fail
      go_ret
      exact ⟨rfl, ⟨m, s, x, HR.out.next hk⟩, HB4.out⟩
  · have HR := Lib.hid (HE1.out (by decide))
    clear HE1 HE2
    have d0 : decide (word < 0) = false := decide_eq_false (by omega)
    have d1 : decide (2147483647 < word) = false := decide_eq_false (by omega)
    have d2 : decide ((fr : Int) < (nd : Int)) = true := decide_eq_true (by omega)
    have d3 : decide (fr < nd) = true := decide_eq_true (by omega)
    go_wp2_with (first
      | (go_at_call 17; refine (HND.out _ HR.out).mono ?_; rintro e w5 ⟨rfl, hb5⟩; have H5 := Lib.hid (HR.out.below hb5); have HB5 := Lib.hid (HB4.out.trans (hb5.mono HR.out.bl)); clear hb5)
      | (go_at_call 20; refine (HFR.out _ H5.out).mono ?_; rintro e w6 ⟨rfl, hb6⟩; have H6 := Lib.hid (H5.out.below hb6); have HB6 := Lib.hid (HB5.out.trans (hb6.mono H5.out.bl)); clear hb6))
    go_ret
    exact ⟨rfl, ⟨m, s, x, H6.out.next hk⟩, HB6.out⟩
  · obtain ⟨m', hm'⟩ := HE2.out rfl
    have HR := Lib.hid hm'
    clear HE1 HE2 hm'
    have d0 : decide (word < 0) = false := decide_eq_false (by omega)
    have d1 : decide (2147483647 < word) = false := decide_eq_false (by omega)
    have d2 : decide ((fr : Int) < (nd : Int)) = false := decide_eq_false (by omega)
    have d3 : decide (fr < nd) = false := decide_eq_false (by omega)
    go_wp2_with (go_at_call 30; refine (rcommit_duo HR.out HE.out word).mono ?_; rintro e w5 ⟨rfl, h5, hb5⟩)
    go_ret
    exact ⟨rfl, ⟨m', _, _, h5⟩, HB4.out.trans hb5⟩
theorem fail_start (m : Dsk) (hr : m.row = []) (hf : m.fuse = -1) (hd : m.down = false) (f : Nat → Bool) (t a : Int) : startM (failM m f t a) = m := by
  unfold startM failM
  rw [hr]
  show (if true = true then _ else _) = m
  rw [if_pos rfl]
  cases m
  simp only at hr hf hd
  subst hr hf hd
  rfl
theorem startopen_duo (h : Duo b w d g X m s pg x y k) : Calls Tryz.prog 40 #[.pointer (some ⟨d, 0, none⟩), .slice none 0 0, .int .i64 (-1), .int .i64 0] w fun e w' => e = .returned (.tuple #[]) ∧ (Calls Tryz.prog 41 #[.pointer (some ⟨d, 0, none⟩)] w' fun e w2 => e = .returned (.tuple #[]) ∧ Duo b w2 d g X m s pg x y k ∧ Below b w w2) := by
  obtain ⟨F, G, hD, hS, hge⟩ := h.mem
  have hD0 := hD
  obtain ⟨bO, cO, bL, cL, vW, os, ls, ws, hD, rfl⟩ := hD
  have hrow := h.inv.row
  refine (fail_any hD (by rw [hrow]; exact Nat.zero_le _) none 0 0 (fun _ => false) (fun hn => absurd hn (by omega)) (fun hn => absurd hn (by omega)) (by omega) (-1) 0).mono ?_
  rintro e w' ⟨rfl, F1, hD1, hc1⟩
  refine ⟨rfl, ?_⟩
  have hD10 := hD1
  obtain ⟨bO1, cO1, bL1, cL1, vW1, os1, ls1, ws1, hD1, rfl⟩ := hD1
  refine (start_down hD1 rfl).mono ?_
  rintro e w2 ⟨rfl, F2, hD2, hc2⟩
  rw [fail_start m h.inv.row h.inv.fuse h.inv.up] at hD2
  have hc := hc1.trans hc2
  have hgeF : ∀ j ∈ foot d bO bL vW, b ≤ j := fun j hj => hge j (List.mem_append_left _ hj)
  obtain ⟨cs, hx, _⟩ := h.xb.box
  refine ⟨rfl, ⟨⟨F2, G, hD2, hS.stay hc hD0.typed.kin (apart_of' hD0.typed hS), fun j hj => (List.mem_append.1 hj).elim (hc.ge hgeF h.bl j) (fun hm => hge j (List.mem_append_right _ hm))⟩, h.xb.same ((hc.keep hD0.typed hx (by decide)).trans hx.symm), h.xge, h.inv, h.sim, h.dn, h.ep, h.ro, h.k, Nat.le_trans h.bl hc.size, h.od⟩, hc.belowB hgeF h.bl⟩
theorem open_duo (h : Duo b w d g X m s pg x y k) : Calls Tryz.prog 28 #[.pointer (some ⟨d, 0, none⟩)] w fun e w' => ∃ g', e = .returned (.tuple #[.pointer (some ⟨g', 0, none⟩), .int .i64 0]) ∧ (∃ s', Duo b w' d g' X m s' pg x y.abort k) ∧ Below b w w' := by
  obtain ⟨F, G, hD, hS, hge⟩ := h.mem
  have hp := h.inv.pgle
  have hl := h.inv.len
  obtain ⟨h0, hlike, hinv, hkp, hfr, hch⟩ := h.inv.opens
  refine (open_sp hD h.inv.up (by omega)).mono ?_
  rintro e w' ⟨hh, hb⟩
  rcases hh with ⟨hn, _⟩ | ⟨_, g', G', rfl, hs, hG'⟩
  · exact absurd h0 hn
  · refine ⟨g', rfl, ⟨openS m, ⟨F, G', hD.below hb, hs, fun j hj => (List.mem_append.1 hj).elim (fun hm => hge j (List.mem_append_left _ hm)) (fun hm => Nat.le_trans h.bl (hG' j hm))⟩, h.xb.below hb, h.xge, hinv, h.sim.like hlike hkp hfr, h.dn, by rw [hlike.r]; exact h.ep, fun hk => by rw [hlike.r]; exact h.ro hk, h.k, Nat.le_trans h.bl hb.size, od_open h.inv.len⟩, hb.mono h.bl⟩
end
end Go.Proofs.YthcnofdihigohaaGreat
end
section
/- One step of the law. -/
set_option maxRecDepth 20000
set_option linter.unusedSimpArgs false
namespace Go.Proofs.YthcnofdihigohaaGreat
open Go.RowKit

/-- The step in the law's own box. -/
structure OpB (w : World) (B : Nat) (ki l n : Int) (c : Nat) : Prop where
  box : w.heap[B]? = some (.cells #[.int .i64 ki, .int .i64 l, .int .i64 n, .int .u8 (c : Int)] 90 (0, 0))
section
variable {w : World} {B : Nat} {ki l n : Int} {c : Nat}
theorem OpB.c0 (h : OpB w B ki l n c) : w.cell? ⟨B, 0, none⟩ = some (.int .i64 ki) := by rw [cell_of_row _ _ _ _ _ _ h.box]; rfl
theorem OpB.c1 (h : OpB w B ki l n c) : w.cell? ⟨B, 1, none⟩ = some (.int .i64 l) := by rw [cell_of_row _ _ _ _ _ _ h.box]; rfl
theorem OpB.c2 (h : OpB w B ki l n c) : w.cell? ⟨B, 2, none⟩ = some (.int .i64 n) := by rw [cell_of_row _ _ _ _ _ _ h.box]; rfl
theorem OpB.c3 (h : OpB w B ki l n c) : w.cell? ⟨B, 3, none⟩ = some (.int .u8 (c : Int)) := by rw [cell_of_row _ _ _ _ _ _ h.box]; rfl
theorem OpB.new (w : World) (ki l n : Int) (c : Nat) : OpB (w.alloc (.cells #[.int .i64 ki, .int .i64 l, .int .i64 n, .int .u8 (c : Int)] 90)) w.heap.size ki l n c := ⟨heap_alloc_new w _⟩
end
/-- What a step tells. -/
def StepR (b : Nat) (w : World) (d X pg k : Nat) (e : Ending) (w' : World) : Prop :=
  ∃ g', e = .returned (.tuple #[.pointer (some ⟨g', 0, none⟩), .bool true]) ∧ (∃ m' s' x', Duo b w' d g' X m' s' pg x' x' (k + 1)) ∧ Below b w w'
/-- The box stays: its block lies below what is changed. -/
structure Bxd (b : Nat) (w : World) (d g X : Nat) (m : Dsk) (s : Sp) (pg : Nat) (x y : Xv) (k B : Nat) (ki l n : Int) (c : Nat) : Prop where
  duo : Duo b w d g X m s pg x y k
  op : OpB w B ki l n c
section
variable {b : Nat} {w : World} {d g X : Nat} {m : Dsk} {s : Sp} {pg : Nat} {x y : Xv} {k : Nat} {l n : Int} {c : Nat}
/-- At another base. -/
theorem Duo.base (h : Duo b w d g X m s pg x y k) {b' : Nat} (hb : b' ≤ b) : Duo b' w d g X m s pg x y k := by
  obtain ⟨F, G, hD, hS, hk⟩ := h.mem
  exact ⟨⟨F, G, hD, hS, fun j hj => Nat.le_trans hb (hk j hj)⟩, h.xb, Nat.le_trans hb h.xge, h.inv, h.sim, h.dn, h.ep, h.ro, h.k, Nat.le_trans hb h.bl, h.od⟩
set_option maxHeartbeats 3200000 in
theorem step_four (h : Duo b w d g X m s pg x x k) (hk : k + 1 ≤ 1000) :
    Calls Tryz.prog 47 #[.pointer (some ⟨d, 0, none⟩), .pointer (some ⟨g, 0, none⟩), .pointer (some ⟨X, 0, none⟩), .agg #[.int .i64 4, .int .i64 l, .int .i64 n, .int .u8 (c : Int)]] w (StepR b w d X pg k) := by
  have HO := Lib.hid (OpB.new w 4 l n c)
  have HA := Lib.hid (alloc_below w (.cells #[.int .i64 4, .int .i64 l, .int .i64 n, .int .u8 (c : Int)] 90))
  have HD := Lib.hid (h.below HA.out)
  have HB := Lib.hid (HA.out.mono h.bl)
  have c0 := HO.out.c0
  clear h HA
  go_enter Tryz.func47, Tryz.ntmps47
  go_upto_region 28 with (go_at_call 76; refine (abort_duo HD.out).mono ?_; rintro e w1 ⟨rfl, h1, hb1⟩)
  have H1 := Lib.hid h1
  have HB1 := Lib.hid (HB.out.trans hb1)
  clear h1 hb1 c0
  go_wp2_with (first
    | (go_at_call 29; refine (rabort_duo H1.out).mono ?_; rintro e w2 ⟨rfl, h2, hb2⟩; have H2 := Lib.hid h2; have HB2 := Lib.hid (HB1.out.trans hb2); clear h2 hb2)
    | (go_at_call 77; refine (changed_duo H2.out).mono ?_; rintro e w3 ⟨rfl, rfl⟩))
  go_ret2
  exact ⟨g, rfl, ⟨_, _, _, H2.out.next hk⟩, HB2.out⟩
set_option maxHeartbeats 3200000 in
theorem step_five (h : Duo b w d g X m s pg x x k) (hk : k + 1 ≤ 1000) :
    Calls Tryz.prog 47 #[.pointer (some ⟨d, 0, none⟩), .pointer (some ⟨g, 0, none⟩), .pointer (some ⟨X, 0, none⟩), .agg #[.int .i64 5, .int .i64 l, .int .i64 n, .int .u8 (c : Int)]] w (StepR b w d X pg k) := by
  have HO := Lib.hid (OpB.new w 5 l n c)
  have HA := Lib.hid (alloc_below w (.cells #[.int .i64 5, .int .i64 l, .int .i64 n, .int .u8 (c : Int)] 90))
  have HD := Lib.hid (h.below HA.out)
  have HB := Lib.hid (HA.out.mono h.bl)
  have c0 := HO.out.c0
  clear h HA
  go_enter Tryz.func47, Tryz.ntmps47
  go_upto_region 32 with (go_at_call 40; refine (startopen_duo HD.out).mono ?_; rintro e w1 ⟨rfl, h1⟩)
  have H1 := Lib.hid h1
  clear h1 c0
  go_wp2_with (first
    | (go_at_call 41; refine H1.out.mono ?_; rintro e w2 ⟨rfl, h2, hb2⟩; have H2 := Lib.hid h2; have HB2 := Lib.hid (HB.out.trans hb2); clear h2 hb2)
    | (go_at_call 28; refine (open_duo H2.out).mono ?_; rintro e w3 ⟨g', rfl, ⟨s', h3⟩, hb3⟩; have H3 := Lib.hid h3; have HB3 := Lib.hid (HB2.out.trans hb3); clear h3 hb3)
    | (go_at_call 29; refine (rabort_duo H3.out).mono ?_; rintro e w4 ⟨rfl, h4, hb4⟩; have H4 := Lib.hid h4; have HB4 := Lib.hid (HB3.out.trans hb4); clear h4 hb4))
  go_ret2
  exact ⟨g', rfl, ⟨_, _, _, H4.out.next hk⟩, HB4.out⟩
set_option maxHeartbeats 3200000 in
theorem step_three (h : Duo b w d g X m s pg x x k) (hk : k + 1 ≤ 1000) :
    Calls Tryz.prog 47 #[.pointer (some ⟨d, 0, none⟩), .pointer (some ⟨g, 0, none⟩), .pointer (some ⟨X, 0, none⟩), .agg #[.int .i64 3, .int .i64 l, .int .i64 n, .int .u8 (c : Int)]] w (StepR b w d X pg k) := by
  have HO := Lib.hid (OpB.new w 3 l n c)
  have HA := Lib.hid (alloc_below w (.cells #[.int .i64 3, .int .i64 l, .int .i64 n, .int .u8 (c : Int)] 90))
  have HD := Lib.hid (h.below HA.out)
  have HB := Lib.hid (HA.out.mono h.bl)
  have c0 := HO.out.c0
  have c2 := HO.out.c2
  clear h HA
  go_enter Tryz.func47, Tryz.ntmps47
  go_wp2_with (go_at_call 75; refine (lcommit_duo HD.out hk n).mono ?_; rintro e w1 ⟨rfl, ⟨m', s', x', h1⟩, hb1⟩; have H1 := Lib.hid h1; have HB1 := Lib.hid (HB.out.trans hb1); clear h1 hb1)
  go_ret2
  exact ⟨g, rfl, ⟨_, _, _, H1.out⟩, HB1.out⟩
end
end Go.Proofs.YthcnofdihigohaaGreat
end
section
/- One step of the law: drop, and what it reads. -/
set_option maxRecDepth 20000
set_option linter.unusedSimpArgs false
namespace Go.Proofs.YthcnofdihigohaaGreat
open Go.RowKit

theorem OpB.keep {w w' : World} {B : Nat} {ki l n : Int} {c : Nat} (h : OpB w B ki l n c) (k : BoxK w w') : OpB w' B ki l n c := ⟨k B _ _ h.box⟩
section
variable {b : Nat} {w : World} {d g X : Nat} {m : Dsk} {s : Sp} {pg : Nat} {x y : Xv} {k : Nat} {ki l n : Int} {c : Nat}
theorem there_duo (h : Duo b w d g X m s pg x y k) (l : Int) (h0 : -9223372036854775808 ≤ l) (h1 : l ≤ 9223372036854775807) : Calls Tryz.prog 37 #[.pointer (some ⟨X, 0, none⟩), .int .i64 l] w fun e w' => e = .returned (.bool (thX x.now l)) ∧ w = w' := there_any h.xb l h0 h1
/-- The document's page is set. -/
theorem Duo.now1 (h : Duo b w d g X m s pg x y k) {l : Nat} (hl : l < 512) (v : List Nat) : Hid (Duo b (w.setCell ⟨X, 512 + l, none⟩ (.string (strB v))) d g X m s pg { x with now := fun j => if j = l then v else x.now j } y k ∧ Below b w (w.setCell ⟨X, 512 + l, none⟩ (.string (strB v))) ∧ BoxK w (w.setCell ⟨X, 512 + l, none⟩ (.string (strB v)))) :=
  have hO := Only.setCell X (512 + l) (.string (strB v)) w
  Lib.hid ⟨h.xup hO (h.xb.setNow1 hl v), hO.belowB h.xge h.bl, BoxK.only hO h.xb.isX⟩
theorem Duo.dirty1 (h : Duo b w d g X m s pg x y k) {l : Nat} (hl : l < 512) (v : Bool) : Hid (Duo b (w.setCell ⟨X, 1024 + l, none⟩ (.bool v)) d g X m s pg { x with dirty := fun j => if j = l then v else x.dirty j } y k ∧ Below b w (w.setCell ⟨X, 1024 + l, none⟩ (.bool v)) ∧ BoxK w (w.setCell ⟨X, 1024 + l, none⟩ (.bool v))) :=
  have hO := Only.setCell X (1024 + l) (.bool v) w
  Lib.hid ⟨h.xup hO (h.xb.setDirty1 hl v), hO.belowB h.xge h.bl, BoxK.only hO h.xb.isX⟩
set_option maxHeartbeats 3200000 in
theorem step_two (h : Duo b w d g X m s pg x x k) (hk : k + 1 ≤ 1000) (h0 : -9223372036854775808 ≤ l) (h1 : l ≤ 9223372036854775807) :
    Calls Tryz.prog 47 #[.pointer (some ⟨d, 0, none⟩), .pointer (some ⟨g, 0, none⟩), .pointer (some ⟨X, 0, none⟩), .agg #[.int .i64 2, .int .i64 l, .int .i64 n, .int .u8 (c : Int)]] w (StepR b w d X pg k) := by
  have HO := Lib.hid (OpB.new w 2 l n c)
  have HA := Lib.hid (alloc_below w (.cells #[.int .i64 2, .int .i64 l, .int .i64 n, .int .u8 (c : Int)] 90))
  have HD := Lib.hid (h.below HA.out)
  have HB := Lib.hid (HA.out.mono h.bl)
  have HT := Lib.hid (drop_duo HD.out l h0 h1)
  have c0 := HO.out.c0
  have c1 := HO.out.c1
  clear h HA
  go_enter Tryz.func47, Tryz.ntmps47
  cases ht : thX x.now l
  · rw [ht] at HT
    go_upto_region 19 with (go_at_call 74; refine HT.out.mono ?_; rintro e w1 ⟨rfl, ⟨s', h1⟩, hb1, hk1⟩)
    have H1 := Lib.hid h1
    have HB1 := Lib.hid (HB.out.trans hb1)
    have d1 := (HO.out.keep hk1).c1
    have HTH := Lib.hid (there_duo H1.out l h0 (by assumption))
    rw [ht] at HTH
    clear h1 hb1 hk1 c0 c1
    go_wp2_with (go_at_call 37; refine HTH.out.mono ?_; rintro e w2 ⟨rfl, rfl⟩)
    go_ret2
    exact ⟨g, rfl, ⟨_, _, _, H1.out.next hk⟩, HB1.out⟩
  · obtain ⟨t1, t2, t3⟩ := th_lt ht
    obtain ⟨j, hj⟩ : ∃ j : Nat, l.toNat = j := ⟨_, rfl⟩
    rw [ht, hj] at HT
    rw [hj] at t1 t3
    subst t3
    go_upto_region 19 with (go_at_call 74; refine HT.out.mono ?_; rintro e w1 ⟨rfl, ⟨s', h1⟩, hb1, hk1⟩)
    have H1 := Lib.hid h1
    have HB1 := Lib.hid (HB.out.trans hb1)
    have HO1 := Lib.hid (HO.out.keep hk1)
    have d1 := HO1.out.c1
    have HTH := Lib.hid (there_duo H1.out (j : Int) h0 (by assumption))
    rw [ht] at HTH
    have n1 : w1.cell? ⟨X, 512 + j, none⟩ = some (.string (strB (x.now j))) := H1.out.xb.now j t1
    have nf := H1.out.xb.fz (512 + j)
    clear h1 hb1 hk1 c0 c1
    go_upto_region 21 with (go_at_call 37; refine HTH.out.mono ?_; rintro e w2 ⟨rfl, rfl⟩)
    go_region
    have N1 := H1.out.now1 t1 []
    rw [show strB [] = (⟨#[]⟩ : ByteArray) from rfl] at N1
    clear n1 nf d1
    generalize w1.setCell ⟨X, 512 + j, none⟩ (.string ⟨#[]⟩) = w2 at *
    have H2 := Lib.hid N1.out.1.drew
    have HB2 : Hid (Below b w w2.drew) := Lib.hid (HB1.out.trans N1.out.2.1).drew
    have HO2 : Hid (OpB w2.drew w.heap.size 2 (j : Int) n c) := Lib.hid ((HO1.out.keep N1.out.2.2).keep (BoxK.below (Below.refl _ _).drew))
    clear N1
    generalize w2.drew = w3 at *
    have d1 := HO2.out.c1
    have n1 : w3.cell? ⟨X, 1024 + j, none⟩ = some (.bool (x.dirty j)) := H2.out.xb.dirty j t1
    have nf := H2.out.xb.fz (1024 + j)
    go_upto_region 22 with fail
    go_region
    have N2 := H2.out.dirty1 t1 false
    clear n1 nf d1
    generalize w3.setCell ⟨X, 1024 + j, none⟩ (.bool false) = w4 at *
    have H4 := Lib.hid N2.out.1.drew
    have HB4 : Hid (Below b w w4.drew) := Lib.hid (HB2.out.trans N2.out.2.1).drew
    clear N2
    generalize w4.drew = w5 at *
    go_wp2_with fail
    go_ret2
    exact ⟨g, rfl, ⟨_, _, _, H4.out.next hk⟩, HB4.out⟩
end
end Go.Proofs.YthcnofdihigohaaGreat
end
section
/- One step of the law: a read. -/
set_option maxRecDepth 20000
set_option linter.unusedSimpArgs false
namespace Go.Proofs.YthcnofdihigohaaGreat
open Go.RowKit

section
variable {b : Nat} {w : World} {d g X : Nat} {m : Dsk} {s : Sp} {pg : Nat} {x y : Xv} {k : Nat} {ki l n : Int} {c : Nat}
set_option maxHeartbeats 3200000 in
theorem step_read (h : Duo b w d g X m s pg x x k) (hk : k + 1 ≤ 1000) (h0 : -9223372036854775808 ≤ l) (h1 : l ≤ 9223372036854775807) (hi : ki ≠ 0 ∧ ki ≠ 1 ∧ ki ≠ 2 ∧ ki ≠ 3 ∧ ki ≠ 4 ∧ ki ≠ 5) :
    Calls Tryz.prog 47 #[.pointer (some ⟨d, 0, none⟩), .pointer (some ⟨g, 0, none⟩), .pointer (some ⟨X, 0, none⟩), .agg #[.int .i64 ki, .int .i64 l, .int .i64 n, .int .u8 (c : Int)]] w (StepR b w d X pg k) := by
  have HO := Lib.hid (OpB.new w ki l n c)
  have HA := Lib.hid (alloc_below w (.cells #[.int .i64 ki, .int .i64 l, .int .i64 n, .int .u8 (c : Int)] 90))
  have HD := Lib.hid (h.below HA.out)
  have HB := Lib.hid (HA.out.mono h.bl)
  have HT := Lib.hid (read_duo HD.out l h0 h1)
  have c0 := HO.out.c0
  have c1 := HO.out.c1
  obtain ⟨i0, i1, i2, i3, i4, i5⟩ := hi
  have e0 : (ki == 0) = false := by simpa using i0
  have e1 : (ki == 1) = false := by simpa using i1
  have e2 : (ki == 2) = false := by simpa using i2
  have e3 : (ki == 3) = false := by simpa using i3
  have e4 : (ki == 4) = false := by simpa using i4
  have e5 : (ki == 5) = false := by simpa using i5
  clear h HA i0 i1 i2 i3 i4 i5
  go_enter Tryz.func47, Tryz.ntmps47
  cases ht : thX x.now l
  · rw [ht, if_neg (by simp)] at HT
    rw [show strB [] = (⟨#[]⟩ : ByteArray) from rfl] at HT
    go_upto_region 37 with (go_at_call 31; refine HT.out.mono ?_; rintro e w1 ⟨rfl, hb1⟩)
    have H1 := Lib.hid (HD.out.below hb1)
    have HB1 := Lib.hid (HB.out.trans (hb1.mono HD.out.bl))
    have d1 := (HO.out.keep (BoxK.below hb1)).c1
    have HTH := Lib.hid (there_duo H1.out l h0 h1)
    rw [ht] at HTH
    clear hb1 c0 c1
    go_wp2_with (go_at_call 37; refine HTH.out.mono ?_; rintro e w2 ⟨rfl, rfl⟩)
    go_ret2
    exact ⟨g, rfl, ⟨_, _, _, H1.out.next hk⟩, HB1.out⟩
  · obtain ⟨t1, t2, t3⟩ := th_lt ht
    obtain ⟨j, hj⟩ : ∃ j : Nat, l.toNat = j := ⟨_, rfl⟩
    rw [ht, if_pos rfl, hj] at HT
    rw [hj] at t1 t3
    subst t3
    go_upto_region 37 with (go_at_call 31; refine HT.out.mono ?_; rintro e w1 ⟨rfl, hb1⟩)
    have H1 := Lib.hid (HD.out.below hb1)
    have HB1 := Lib.hid (HB.out.trans (hb1.mono HD.out.bl))
    have d1 := (HO.out.keep (BoxK.below hb1)).c1
    have n1 : w1.cell? ⟨X, 512 + j, none⟩ = some (.string (strB (x.now j))) := H1.out.xb.now j t1
    have HTH := Lib.hid (there_duo H1.out (j : Int) h0 h1)
    rw [ht] at HTH
    generalize strB (x.now j) = S at *
    clear hb1 c0 c1
    go_upto_region 39 with (go_at_call 37; refine HTH.out.mono ?_; rintro e w2 ⟨rfl, rfl⟩)
    go_quiet (fail)
    all_goals go_wp2_with fail
    all_goals go_ret2
    all_goals exact ⟨g, rfl, ⟨_, _, _, (H1.out.below (below_drewN (Below.refl _ _) _)).next hk⟩, HB1.out.trans (below_drewN (Below.refl _ _) _)⟩
end
end Go.Proofs.YthcnofdihigohaaGreat
end
