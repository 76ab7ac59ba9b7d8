/- Texts YTold to YRmS of this seat, laid into one. -/
import Derived.Deep.RegionHeldLaw
import Derived.Maps.AppendAt
import Derived.Great.BuildSlice
import Derived.Deep.RegionLaw
import Derived.Deep.AppendLies
import Derived.Deep.RegionHeld3
import Derived.Test.YtmbecjlioogbhaaGreatDoorM15
import Derived.Test.YtmbecjlioogbhaaGreatDoorM20
import Derived.Test.YtmbecjlioogbhaaGreatDoorM21
set_option linter.unusedVariables false
set_option linter.unusedSimpArgs false
set_option linter.constructorNameAsVariable false
section
/-! A number is told a spot. -/
set_option maxRecDepth 20000
set_option linter.unusedSimpArgs false
namespace Go.Proofs.YtmbecjlioogbhaaGreatDoor
open Go.RowKit

theorem chg_moreY {K K2 L : List Nat} {w w' : World} (h : Chg K K2 w w') (hF : ∀ k ∈ K, k ∈ L) : Chg L L w w' :=
  ⟨h.os, h.tape, h.output, h.size, fun k hk hn => h.block k hk (fun e => hn (hF k e)), fun _ h => .inl h⟩
section
variable {w w' : World} {d sg pg k g mb n : Nat} {D G : List Nat} {m : Dsk} {s s' : Sp} {y y' : Xv} {v : Value} {F : Nat → Nat}
set_option maxHeartbeats 3200000 in
theorem Sto.tell (h : Sto w d sg D G m s pg y k g mb v n F) (i x : Nat) (hi : i < n * 128) (hF : ∀ j, j < n * 129 → F j ≤ 1099511627776) (hx : x ≤ 1099511627776) (hth : thX y.now ((F (i / 128 * 129) : Nat) : Int) = true) :
    Calls Tryz.prog 60 #[.pointer (some ⟨g, 0, none⟩), .int .i64 ((i : Int) + 1), .int .i64 (x : Int)] w fun e w' => e = .returned (.tuple #[]) ∧
      (∃ s', Sto w' d sg D G m s' pg (y.put (F (i / 128 * 129)) (partB (Tb.updN F (i / 128 * 129 + 1 + i % 128) x) (i / 128))) k g mb v n (Tb.updN F (i / 128 * 129 + 1 + i % 128) x)) ∧
      ∃ K, (∀ j ∈ K, j ∈ G ∨ v.ownBlock = some j) ∧ Chg K K w w' := by
  have HPL := Lib.hid (placeOf_any i w (by have := h.st.n64; omega))
  have hq1 : i / 128 < n := by omega
  have hq2 : i % 128 < 128 := Nat.mod_lt _ (by decide)
  have h64 := h.st.n64
  obtain ⟨p, c, rfl, hp⟩ := h.st.own.form
  obtain ⟨b, rfl, hbl, hcell⟩ := hp (by omega)
  obtain ⟨I, hI⟩ : ∃ I : Int, (i : Int) + 1 = I := ⟨_, rfl⟩
  rw [hI] at HPL ⊢
  clear hI hp
  generalize i / 128 = q at *
  generalize i % 128 = r at *
  have hin : q * 129 + 129 ≤ n * 129 := by have := Nat.mul_le_mul_right 129 (show q + 1 ≤ n by omega); omega
  have c1 := h.st.c1
  have hcl := hcell (q * 129 + 1 + r) (by omega)
  have hfz : w.frozen? ⟨b, q * 129 + 1 + r, none⟩ = false := (World.ownsRow.frozenAt h.st.own _)
  obtain ⟨h1, hc1⟩ := h.put rfl (q * 129 + 1 + r) x
  have hFq : Tb.updN F (q * 129 + 1 + r) x (q * 129) = F (q * 129) := Tb.updN_other _ _ _ _ (by omega)
  have hpb : F (q * 129) ≤ 1099511627776 := hF _ (by omega)
  have hFb2 : ∀ j, j < 128 → Tb.updN F (q * 129 + 1 + r) x (q * 129 + 1 + j) ≤ 1099511627776 := fun j hj => by
    by_cases e : q * 129 + 1 + j = q * 129 + 1 + r
    · rw [e, Tb.updN_same]; exact hx
    · rw [Tb.updN_other _ _ _ _ e]; exact hF _ (by omega)
  have H := Lib.hid h
  clear h hcell hF hx
  generalize hF' : Tb.updN F (q * 129 + 1 + r) x = F' at *
  generalize hW1 : w.setCell ⟨b, q * 129 + 1 + r, none⟩ (.int .i64 (x : Int)) = W1 at *
  have hq1I : (q : Int) < (n : Int) := by omega
  have hq2I : (r : Int) < 128 := by omega
  have h64I : (n : Int) ≤ 64 := by omega
  have HW1 := Lib.hid hW1
  clear hF'
  go_enter Tryz.func60, Tryz.ntmps60
  go_upto_region 2 with (go_at_call 113; with_reducible refine HPL.out.mono ?_; rintro e w7 ⟨rfl, rfl⟩)
  clear hW1 c1 hcl hfz HPL hbl hq2I hi hq2
  have HRD : Hid (∀ w2 s2 y2, Sto w2 d sg D G m s2 pg y2 k g mb (.slice (some ⟨b, 0, none⟩) n c) n F' → w2.cell? ⟨g, 0, none⟩ = some (.pointer (some ⟨sg, 0, none⟩)) ∧ w2.cell? ⟨g, 1, none⟩ = some (.slice (some ⟨b, 0, none⟩) n c) ∧ w2.cell? ⟨b, q * 129, none⟩ = some (.int .i64 ((F (q * 129) : Nat) : Int)) ∧ w2.rangeAt b (q * 129) (Tb.ints F' (q * 129) 129)) := Lib.hid fun w2 s2 y2 h2 => by
    obtain ⟨p2, c2, e2, hp2⟩ := h2.st.own.form
    cases e2
    obtain ⟨b2, e3, -, hce⟩ := hp2 (by omega)
    cases e3
    refine ⟨h2.st.c0, h2.st.c1, ?_, range_of_cells hce hin⟩
    rw [hce _ (by omega), hFq]
  have HPT : Hid (∀ w2, Calls Tryz.prog 114 #[.agg (Tb.ints F' (q * 129) 129).toArray] w2 fun e w' => e = .returned (.string (strB (partB F' q))) ∧ Below w2.heap.size w2 w') := Lib.hid fun w2 => by
    have := partText_any (F' (q * 129)) (fun j => F' (q * 129 + 1 + j)) w2 hFb2
    rw [partL_ints] at this
    exact this
  have HWR : Hid (∀ w5, Below W1.heap.size W1 w5 → Calls Tryz.prog 36 #[.pointer (some ⟨sg, 0, none⟩), .int .i64 ((F (q * 129) : Nat) : Int), .string (strB (partB F' q))] w5 fun e w6 => e = .returned (.int .i64 0) ∧ Hid ((∃ s', Sto w6 d sg D G m s' pg (y.put (F (q * 129)) (partB F' q)) k g mb (.slice (some ⟨b, 0, none⟩) n c) n F') ∧ Chg (b :: G) (b :: G) w w6)) := Lib.hid fun w5 hb5 => by
    have h5 := h1.below hb5
    have hw := write_z h5.sp ((F (q * 129) : Nat) : Int) (by omega) (by omega) (partB F' q) (partB_ok F' q)
    rw [if_pos hth, if_pos hth, Int.toNat_natCast] at hw
    refine hw.mono ?_
    rintro e w6 ⟨rfl, ⟨s6, hs6⟩, hchg⟩
    refine ⟨rfl, Lib.hid ⟨⟨s6, h5.chg hchg hs6⟩, ?_⟩⟩
    have q1 : Chg (b :: G) (b :: G) w W1 := chg_moreY hc1 (fun j hj => by cases List.mem_singleton.1 hj; exact List.mem_cons_self ..)
    have q2 : Chg (b :: G) (b :: G) W1 w5 := Chg.of_below hb5
    exact (q1.trans q2).trans (chg_moreY hchg (fun j hj => List.mem_cons_of_mem _ hj))
  have HS1 := Lib.hid (HRD.out W1 s y h1)
  have H1 := Lib.hid h1
  have hqI0 : (0 : Int) ≤ (q : Int) := by omega
  have HSR : Hid ((Tryz.prog.info? 82).map (·.size) = some (Tb.ints F' (q * 129) 129).length) := Lib.hid (by rw [sizePart, Tb.ints_len])
  clear h1 hc1 hth hFq hFb2 hpb hin h64 H HW1
  generalize strB (partB F' q) = T at *
  obtain ⟨pgn, hpgn⟩ : ∃ p, F (q * 129) = p := ⟨_, rfl⟩
  have HPG := Lib.hid hpgn
  rw [hpgn] at HWR HRD HS1
  clear hpgn
  obtain ⟨a0, a1, a2, a3⟩ : W1.drew.cell? ⟨g, 0, none⟩ = some (.pointer (some ⟨sg, 0, none⟩)) ∧ W1.drew.cell? ⟨g, 1, none⟩ = some (.slice (some ⟨b, 0, none⟩) n c) ∧ W1.drew.cell? ⟨b, q * 129, none⟩ = some (.int .i64 (pgn : Int)) ∧ W1.drew.rangeAt b (q * 129) (Tb.ints F' (q * 129) 129) := HRD.out W1.drew s y (H1.out.below (Below.refl _ _).drew)
  generalize Tb.ints F' (q * 129) 129 = Y at *
  refine wp_region_held_drew (S := (fun u : World => u.cell? ⟨g, 0, none⟩ = some (.pointer (some ⟨sg, 0, none⟩)) ∧ u.cell? ⟨g, 1, none⟩ = some (.slice (some ⟨b, 0, none⟩) n c) ∧ u.cell? ⟨b, q * 129, none⟩ = some (.int .i64 (pgn : Int)) ∧ u.rangeAt b (q * 129) Y)) (by kernel_rfl) ⟨a0, a1, a2, a3⟩ (fun hHeld => ?_)
  refine wpAnyH_take (i := 0) (v := ?_) rfl (by kernel_rfl) (by kernel_rfl) (by kernel_rfl) (fun _ _ _ h => h) (Or.inl ⟨by rfl, ?_⟩) (by assumption) ?_
  rotate_left
  · intro w hSw
    try dsimp only at hSw
    go_simp
    try with_reducible rfl
  try simp only [Act.put, List.setIfInBounds_toArray, List.set_cons_zero, List.set_cons_succ]
  refine wpAnyH_take (i := 1) (v := ?_) rfl (by kernel_rfl) (by kernel_rfl) (by kernel_rfl) (fun _ _ _ h => h) (Or.inl ⟨by rfl, ?_⟩) (by assumption) ?_
  rotate_left
  · intro w hSw
    try dsimp only at hSw
    go_simp
    try with_reducible rfl
  try simp only [Act.put, List.setIfInBounds_toArray, List.set_cons_zero, List.set_cons_succ]
  refine wpAnyH_take (i := 2) (v := ?_) rfl (by kernel_rfl) (by kernel_rfl) (by kernel_rfl) (fun _ _ _ h => h) (Or.inl ⟨by rfl, ?_⟩) (by assumption) ?_
  rotate_left
  · intro w hSw
    try dsimp only at hSw
    go_simp
    try with_reducible rfl
  try simp only [Act.put, List.setIfInBounds_toArray, List.set_cons_zero, List.set_cons_succ]
  refine wpAnyH_take (i := 3) (v := ?_) rfl (by kernel_rfl) (by kernel_rfl) (by kernel_rfl) (fun _ _ _ h => h) (Or.inl ⟨by rfl, ?_⟩) (by assumption) ?_
  rotate_left
  · intro w hSw
    try dsimp only at hSw
    go_simp
    try with_reducible rfl
  try simp only [Act.put, List.setIfInBounds_toArray, List.set_cons_zero, List.set_cons_succ]
  refine wpAnyH_take (i := 4) (v := ?_) rfl (by kernel_rfl) (by kernel_rfl) (by kernel_rfl) (fun _ _ _ h => h) (Or.inl ⟨by rfl, ?_⟩) (by assumption) ?_
  rotate_left
  · intro w hSw
    try dsimp only at hSw
    go_simp
    try with_reducible rfl
  try simp only [Act.put, List.setIfInBounds_toArray, List.set_cons_zero, List.set_cons_succ]
  refine wpAnyH_take (i := 5) (v := ?_) rfl (by kernel_rfl) (by kernel_rfl) (by kernel_rfl) (fun _ _ _ h => h) (Or.inl ⟨by rfl, ?_⟩) (by assumption) ?_
  rotate_left
  · intro w hSw
    try dsimp only at hSw
    go_simp
    try with_reducible rfl
  try simp only [Act.put, List.setIfInBounds_toArray, List.set_cons_zero, List.set_cons_succ]
  refine wpAnyH_take (i := 6) (v := ?_) rfl (by kernel_rfl) (by kernel_rfl) (by kernel_rfl) (fun _ _ _ h => h) (Or.inl ⟨by rfl, ?_⟩) (by assumption) ?_
  rotate_left
  · intro w hSw
    try dsimp only at hSw
    go_simp
    try with_reducible rfl
  try simp only [Act.put, List.setIfInBounds_toArray, List.set_cons_zero, List.set_cons_succ]
  refine wpAnyH_take (i := 7) (v := ?_) rfl (by kernel_rfl) (by kernel_rfl) (by kernel_rfl) (fun _ _ _ h => h) (Or.inl ⟨by rfl, ?_⟩) (by assumption) ?_
  rotate_left
  · intro w hSw
    try dsimp only at hSw
    go_simp
    try with_reducible rfl
  try simp only [Act.put, List.setIfInBounds_toArray, List.set_cons_zero, List.set_cons_succ]
  refine wpAnyH_take (i := 8) (v := ?_) rfl (by kernel_rfl) (by kernel_rfl) (by kernel_rfl) (fun _ _ _ h => h) (Or.inl ⟨by rfl, ?_⟩) (by assumption) ?_
  rotate_left
  · intro w hSw
    try dsimp only at hSw
    go_simp
    try with_reducible rfl
  try simp only [Act.put, List.setIfInBounds_toArray, List.set_cons_zero, List.set_cons_succ]
  refine wpAnyH_take (i := 9) (v := ?_) rfl (by kernel_rfl) (by kernel_rfl) (by kernel_rfl) (fun _ _ _ h => h) (Or.inl ⟨by rfl, ?_⟩) (by assumption) ?_
  rotate_left
  · intro w hSw
    try dsimp only at hSw
    go_simp
    try with_reducible rfl
  try simp only [Act.put, List.setIfInBounds_toArray, List.set_cons_zero, List.set_cons_succ]
  refine wpAnyH_take (i := 10) (v := ?_) rfl (by kernel_rfl) (by kernel_rfl) (by kernel_rfl) (fun _ _ _ h => h) (Or.inl ⟨by rfl, ?_⟩) (by assumption) ?_
  rotate_left
  · intro w hSw
    try dsimp only at hSw
    go_simp
    try with_reducible rfl
  try simp only [Act.put, List.setIfInBounds_toArray, List.set_cons_zero, List.set_cons_succ]
  refine wpAnyH_take (i := 11) (v := ?_) rfl (by kernel_rfl) (by kernel_rfl) (by kernel_rfl) (fun _ _ _ h => h) (Or.inl ⟨by rfl, ?_⟩) (by assumption) ?_
  rotate_left
  · intro w hSw
    try dsimp only at hSw
    go_simp
    try with_reducible rfl
  try simp only [Act.put, List.setIfInBounds_toArray, List.set_cons_zero, List.set_cons_succ]
  refine wpAnyH_take (i := 12) (v := ?_) rfl (by kernel_rfl) (by kernel_rfl) (by kernel_rfl) (fun _ _ _ h => h) (Or.inl ⟨by rfl, ?_⟩) (by assumption) ?_
  rotate_left
  · intro w hSw
    try dsimp only at hSw
    go_simp
    try with_reducible rfl
  try simp only [Act.put, List.setIfInBounds_toArray, List.set_cons_zero, List.set_cons_succ]
  refine wpAnyH_take (i := 13) (v := ?_) rfl (by kernel_rfl) (by kernel_rfl) (by kernel_rfl) (fun _ _ _ h => h) (Or.inl ⟨by rfl, ?_⟩) (by assumption) ?_
  rotate_left
  · intro w hSw
    try dsimp only at hSw
    go_simp
    try with_reducible rfl
  try simp only [Act.put, List.setIfInBounds_toArray, List.set_cons_zero, List.set_cons_succ]
  refine wpAnyH_take (i := 14) (v := ?_) rfl (by kernel_rfl) (by kernel_rfl) (by kernel_rfl) (fun _ _ _ h => h) (Or.inl ⟨by rfl, ?_⟩) (by assumption) ?_
  rotate_left
  · intro w hSw
    try dsimp only at hSw
    go_simp
    try with_reducible rfl
  try simp only [Act.put, List.setIfInBounds_toArray, List.set_cons_zero, List.set_cons_succ]
  refine wpAnyH_take (i := 15) (v := ?_) rfl (by kernel_rfl) (by kernel_rfl) (by kernel_rfl) (fun _ _ _ h => h) (Or.inl ⟨by rfl, ?_⟩) (by assumption) ?_
  rotate_left
  · intro w hSw
    try dsimp only at hSw
    go_simp
    try with_reducible rfl
  try simp only [Act.put, List.setIfInBounds_toArray, List.set_cons_zero, List.set_cons_succ]
  refine wpAnyH_take (i := 16) (v := ?_) rfl (by kernel_rfl) (by kernel_rfl) (by kernel_rfl) (fun _ _ _ h => h) (Or.inl ⟨by rfl, ?_⟩) (by assumption) ?_
  rotate_left
  · intro w hSw
    try dsimp only at hSw
    go_simp
    try with_reducible rfl
  try simp only [Act.put, List.setIfInBounds_toArray, List.set_cons_zero, List.set_cons_succ]
  refine wpAnyH_take (i := 17) (v := ?_) rfl (by kernel_rfl) (by kernel_rfl) (by kernel_rfl) (fun _ _ _ h => h) (Or.inl ⟨by rfl, ?_⟩) (by assumption) ?_
  rotate_left
  · intro w hSw
    try dsimp only at hSw
    go_simp
    try with_reducible rfl
  try simp only [Act.put, List.setIfInBounds_toArray, List.set_cons_zero, List.set_cons_succ]
  refine wpAnyH_take (i := 18) (oi := { dst := some 41, op := Op.load 82 (Operand.tmp 40), type := 82, pos := "pages.go:107", after := #[{ on := 17, ground := Ground.data }], guard := none }) (v := .agg Y.toArray) (by kernel_rfl) (by kernel_rfl) (by kernel_rfl) (by kernel_rfl) (fun _ _ _ h => h) (yieldsIf_load_mid (by kernel_rfl) 82 (.tmp 40) rfl b (q * 129) (by kernel_rfl) Y _ (fun w h => h.2.2.2) Tryz.underlying82 rfl HSR.out) (by assumption) ?_
  try simp only [Act.put, List.setIfInBounds_toArray, List.set_cons_zero, List.set_cons_succ]
  refine wpAnyH_ready (rs := [19]) (by kernel_rfl) (by simp) ?_
  refine AllReadyH.cons rfl (fun K hK => ?_) AllReadyH.nil
  go_simp
  go_wp2_with ((go_at_call 114; refine (HPT.out _).mono ?_; rintro e w5 ⟨rfl, hb5⟩; have hk5 : Below W1.heap.size W1 w5 := (Below.refl _ _).drew.trans hb5; have hS5 := HRD.out w5 s y (H1.out.below hk5)))
  refine hK.out _ _ hS5 (fun hHeld => ?_)
  clear hK K
  refine wpAnyH_ready (rs := [20]) (by kernel_rfl) (by simp) ?_
  refine AllReadyH.cons rfl (fun K hK => ?_) AllReadyH.nil
  go_simp
  go_wp2_with (go_at_call 36; with_reducible refine (HWR.out _ hk5).mono ?_; rintro e w6 ⟨rfl, HS6⟩; obtain ⟨⟨s6, h6⟩, -⟩ := HS6.out; have hS6 := HRD.out w6 s6 _ h6; clear h6)
  refine hK.out _ _ hS6 (fun hHeld => ?_)
  clear hK K
  refine wpAnyH_done (by kernel_rfl) ?_ _
  go_end0
  have h6 := HS6.out
  rw [HPG.out]
  exact ⟨rfl, h6.1, b :: G, fun j hj => (List.mem_cons.1 hj).elim (fun e => .inr (by rw [e]; rfl)) .inl, h6.2⟩
end
end Go.Proofs.YtmbecjlioogbhaaGreatDoor
end
section
/-! A part more. -/
set_option maxRecDepth 20000
set_option linter.unusedSimpArgs false
namespace Go.Proofs.YtmbecjlioogbhaaGreatDoor
open Go.RowKit

/-- The text of a part that tells nothing. -/
def zpart : List Nat := pageT (spsB (fun _ => 0) 128)
theorem zpart_ok : zpart.length = 512 ∧ ∀ x ∈ zpart, x < 256 := ⟨pageT_len (by rw [spsB_len]; omega), pageT_dig (spsB_dig _ _)⟩
/-- The parts with one more. -/
def grewF (F : Nat → Nat) (n l : Nat) : Nat → Nat := fun j => if j < n * 129 then F j else if j = n * 129 then l else 0
theorem build_part (w : World) : (Instr.build 82 #[]).run Tryz.prog w = .ok (.agg (partL 0 fun _ => 0).toArray) w := run_build w _ _ _ (by kernel_rfl)
theorem step_load_mid {P : Program} {ops : Array Oper} {op : Oper} {a : Act} {w : World} {K : Act → World → Prop} {Q : Exit → Act → World → Prop} {E : Prop} (hgd : op.guard = none) (ty : TypeId) (x : Operand) (ho : op.op = .load ty x)
    (b o : Nat) (hx : a.eval x = .pointer (some ⟨b, o, none⟩)) (cs : List Value) (d : TypeDesc) (hc : w.rangeAt b o cs) (hu : P.underlying ty = some d) (hd : d.isRow = true) (hi : (P.info? ty).map (·.size) = some cs.length)
    (h : K (a.put op.dst (.agg cs.toArray)) w) : if Region.wanted op (yielded ops a.tmps) = true then Oper.wp P op a w K Q else E := by
  have hw : Region.wanted op (yielded ops a.tmps) = true := by simp [Region.wanted, hgd]
  rw [if_pos hw]
  exact wp_load_mid ty x ho b o hx cs d hc hu hd hi h
theorem step_buildSlice {P : Program} {ops : Array Oper} {o : Oper} {a : Act} {w : World} {K : Act → World → Prop} {Q : Exit → Act → World → Prop} {E : Prop} (hgd : o.guard = none) (t e : TypeId) (len : Nat) (parts : Array (Nat × Operand)) (ho : o.op = .buildSlice t len parts)
    (cells : Array Value) (ie : TypeInfo) (z : Value)
    (hu : P.underlying t = some (.slice e)) (hie : P.info? e = some ie) (hz : ie.zero = some z) (hsmall : ¬ len * ie.size > 2 ^ 24) (hpos : ¬ len * ie.size = 0)
    (hf : Instr.fill (fun i => some (i * ie.size, ie.size)) ((Array.range (len * ie.size)).map (z.cells[· % z.cells.size]!)) (parts.map fun (i, x) => (i, a.eval x)).toList = some cells)
    (h : K (a.put o.dst (.slice (some ⟨w.heap.size, 0, none⟩) len len)) (w.alloc (.cells cells e))) : if Region.wanted o (yielded ops a.tmps) = true then Oper.wp P o a w K Q else E := by
  have hw : Region.wanted o (yielded ops a.tmps) = true := by simp [Region.wanted, hgd]
  rw [if_pos hw]
  exact wp_buildSlice t e len parts ho cells ie z hu hie hz hsmall hpos hf h
/-- One part, laid as a slice. -/
theorem fill_part (l : Nat) (Z : Value) (hZ : Z = .agg (partL 0 fun _ => 0).toArray) : Instr.fill (fun i => some (i * 129, 129)) ((Array.range (1 * 129)).map (Z.cells[· % Z.cells.size]!)) [(0, .agg (partL l fun _ => 0).toArray)] = some (partL l fun _ => 0).toArray := by
  subst hZ
  kernel_rfl
theorem set_part (l : Nat) : (partL 0 fun _ => 0).toArray.setIfInBounds 0 (.int .i64 (l : Int)) = (partL l fun _ => 0).toArray := by
  unfold partL
  simp
section
variable {w w' : World} {d sg pg k g mb n : Nat} {D G : List Nat} {m : Dsk} {s s' : Sp} {y y' : Xv} {v : Value} {F : Nat → Nat}
theorem ints_app (f : Nat → Nat) (a n : Nat) : ∀ k, Tb.ints f a (n + k) = Tb.ints f a n ++ Tb.ints f (a + n) k
  | 0 => by rw [Nat.add_zero, show Tb.ints f (a + n) 0 = [] from rfl, List.append_nil]
  | k + 1 => by rw [← Nat.add_assoc, Tb.ints_snoc, ints_app f a n k, Tb.ints_snoc, List.append_assoc, Nat.add_assoc]
theorem ints_grew (F : Nat → Nat) (n l : Nat) : Tb.ints (grewF F n l) 0 ((n + 1) * 129) = Tb.ints F 0 (n * 129) ++ partL l fun _ => 0 := by
  rw [show (n + 1) * 129 = n * 129 + 129 by omega, ints_app, Nat.zero_add]
  congr 1
  · exact Tb.ints_congr fun j hj => by unfold grewF; rw [Nat.zero_add, if_pos hj]
  · rw [← partL_ints]
    have e0 : grewF F n l (n * 129) = l := by unfold grewF; rw [if_neg (by omega), if_pos rfl]
    rw [e0]
    congr 1
    funext j
    unfold grewF
    rw [if_neg (by omega), if_neg (by omega)]
/-- Blocks that aren't the store's change. -/
theorem Sto.stayB (h : Sto w d sg D G m s pg y k g mb v n F) {K K' : List Nat} (hc : Chg K K' w w') (hK : Kin w K) (hD : ∀ j ∈ D, j ∉ K) (hG : ∀ j ∈ G, j ∉ K) (hg : g ∉ K) (hv : ∀ b, v.ownBlock = some b → b ∉ K) : Sto w' d sg D G m s pg y k g mb v n F :=
  ⟨h.sp.stay hc hK hD hG, ⟨(hc.block g h.st.lt hg).trans h.st.row, own_other h.st.own fun b hb => hc.block b (World.ownsRow.lt h.st.own b hb).2 (hv b hb), h.st.n64⟩, h.ag, h.av, h.ad, h.avd⟩
theorem Sto.own_ne (h : Sto w d sg D G m s pg y k g mb v n F) : ∀ b, v.ownBlock = some b → b ≠ g ∧ ∃ cur, w.heap[b]? = some (.cells cur 82 (0, 0)) := fun b hb => by
  rcases h.st.own.2 with ⟨e, _⟩ | ⟨g2, cap, cur, e, _, hh, _⟩
  · rw [e] at hb; cases hb
  · have : g2 = b := by rw [e] at hb; cases hb; rfl
    subst this
    refine ⟨fun e1 => ?_, cur, hh⟩
    rw [e1, h.st.row] at hh
    cases hh
/-- The parts are one more. -/
theorem Sto.grown (h : Sto w d sg D G m s pg y k g mb v n F) (hn : n < 64) {U w9 : World} {l g2 cap : Nat} (hU : Below w.heap.size w U)
    (hrow : w9.ownsRow 0 82 129 (.slice (some ⟨g2, 0, none⟩) (n + 1) cap) (n + 1) (Tb.ints F 0 (n * 129) ++ partL l fun _ => 0)) (hgr : U.grownBy w9 v.ownBlock) (hor : v.ownBlock = some g2 ∨ g2 = U.heap.size) :
    Sto (w9.setCell ⟨g, 1, none⟩ (.slice (some ⟨g2, 0, none⟩) (n + 1) cap)) d sg D G m s pg y k g mb (.slice (some ⟨g2, 0, none⟩) (n + 1) cap) (n + 1) (grewF F n l) ∧
      Chg (g :: v.ownBlock.toList) [g, g2] w (w9.setCell ⟨g, 1, none⟩ (.slice (some ⟨g2, 0, none⟩) (n + 1) cap)) ∧ w9.heap[g]? = w.heap[g]? := by
  have hgl := h.st.lt
  have hon := h.own_ne
  have hGL := kin_lt h.sp.kinG
  have hDL := kin_lt h.sp.kinF
  have hUs := hU.size
  have hng : some g ≠ v.ownBlock := fun e => (hon g e.symm).1 rfl
  have hg9 : w9.heap[g]? = w.heap[g]? := (hgr.block g (by omega) hng).trans (hU.block g hgl)
  have hg2g : g2 ≠ g := by
    rcases hor with e | e
    · exact (hon g2 e).1
    · omega
  have hc : Chg (g :: v.ownBlock.toList) [g, g2] w (w9.setCell ⟨g, 1, none⟩ (.slice (some ⟨g2, 0, none⟩) (n + 1) cap)) := by
    refine ⟨hgr.os.trans hU.os, hgr.tape.trans hU.tape, hgr.output.trans hU.output, by have := hgr.size; simp; omega, fun j hj hnk => ?_, fun j hj => ?_⟩
    · simp only [List.mem_cons, not_or] at hnk
      refine (heap_setCell_other _ _ _ _ hnk.1).trans ((hgr.block j (by omega) (fun e => hnk.2 (by rw [← e]; simp))).trans (hU.block j hj))
    · simp only [List.mem_cons, List.not_mem_nil, or_false] at hj
      rcases hj with rfl | rfl
      · exact .inl (List.mem_cons_self ..)
      · rcases hor with e | e
        · exact .inl (by rw [e]; simp)
        · exact .inr (by omega)
  have hK : Kin w (g :: v.ownBlock.toList) := fun j hj => by
    rcases List.mem_cons.1 hj with rfl | hj
    · exact .inr ⟨_, _, _, h.st.row, by simp⟩
    · obtain ⟨-, cur, hh⟩ := hon j (by simpa [Option.mem_toList] using hj)
      exact .inr ⟨_, _, _, hh, by simp⟩
  have hin : ∀ j, j ∈ g :: v.ownBlock.toList → j = g ∨ v.ownBlock = some j := fun j hj => (List.mem_cons.1 hj).imp id fun e => by simpa [Option.mem_toList] using e
  refine ⟨⟨h.sp.stay hc hK (fun j hj e => (hin j e).elim (fun e => h.ad (by rw [← e]; exact hj)) (fun e => h.avd j e hj)) (fun j hj e => (hin j e).elim (fun e => h.ag (by rw [← e]; exact hj)) (fun e => h.av j e hj)), ⟨?_, ?_, by omega⟩, h.ag, fun b e => ?_, h.ad, fun b e => ?_⟩, hc, hg9⟩
  · exact heap_setCell_same _ _ 1 _ _ _ (hg9.trans h.st.row)
  · unfold OwnP
    rw [ints_grew]
    exact own_other hrow fun b e => heap_setCell_other _ _ _ _ (by simp [Value.ownBlock] at e; subst e; exact hg2g)
  · have e : g2 = b := by simpa [Value.ownBlock] using e
    subst e
    rcases hor with e | e
    · exact h.av _ e
    · exact fun hj => by have := hGL _ hj; omega
  · have e : g2 = b := by simpa [Value.ownBlock] using e
    subst e
    rcases hor with e | e
    · exact h.avd _ e
    · exact fun hj => by have := hDL _ hj; omega
theorem infoPart3 : (Tryz.prog.info? 82).map (fun i => (i.zero, i.size, i.bytes)) = some (some (.agg (partL 0 fun _ => 0).toArray), 129, 1032) := by kernel_rfl
set_option maxHeartbeats 3200000 in
theorem Sto.addPart (h : Sto w d sg D G m s pg y k g mb v n F) (hn : n < 64) (l : Nat) (hl : gapF (nn y.now) 512 0 = some l) (h0 : thX y.now 0 = true) (hF : ∀ i, i < n → F (i * 129) ≤ 1099511627776) :
    Calls Tryz.prog 102 #[.pointer (some ⟨g, 0, none⟩)] w fun e w' => e = .returned (.tuple #[]) ∧ (∃ s' v', Sto w' d sg D G m s' pg ((y.put l zpart).put 0 (pageT (headB (n + 1) fun i => grewF F n l (i * 129)))) k g mb v' (n + 1) (grewF F n l) ∧ ∀ j, v'.ownBlock = some j → v.ownBlock = some j ∨ w.heap.size ≤ j) ∧ ∃ K K', (∀ j ∈ K, j ∈ G ∨ j = g ∨ v.ownBlock = some j) ∧ Chg K K' w w' := by
  obtain ⟨hz, hiP⟩ := zero_of_info (P := Tryz.prog) infoPart
  have hbp := build_part
  have HPT : Hid (∀ w2, Calls Tryz.prog 114 #[.agg (partL 0 fun _ => 0).toArray] w2 fun e w' => e = .returned (.string (strB zpart)) ∧ Below w2.heap.size w2 w') := Lib.hid fun w2 => partText_any 0 (fun _ => 0) w2 (fun _ _ => by omega)
  have hZS : (partL 0 fun _ => 0).toArray.size = 129 := by rw [List.size_toArray, partL_len]
  have hZO : (partL 0 fun _ => 0).toArray.all (·.oneCell') = true := by rw [Array.all_eq_true_iff_forall_mem]; intro x hx; exact partL_one _ _ x (by simpa using hx)
  have HH := Lib.hid h
  have HNP : Hid (∀ w1, Below w.heap.size w w1 → Calls Tryz.prog 104 #[.pointer (some ⟨g, 0, none⟩), .string (strB zpart)] w1 fun e w' => e = .returned (.int .i64 (l : Int)) ∧ Hid ((∃ s', Sto w' d sg D G m s' pg (y.put l zpart) k g mb v n F) ∧ Chg G G w1 w')) := Lib.hid fun w1 hb => ((h.below hb).newPage l hl zpart zpart_ok).mono fun e w' hh => ⟨hh.1, Lib.hid hh.2⟩
  have HSP : Hid ((Tryz.prog.info? 82).map (·.size) = some (partL 0 fun _ => 0).length) := Lib.hid (by rw [sizePart, partL_len])
  have HSZ : Hid ((Tryz.prog.info? 82).map (·.size) = some (partL 0 fun _ => 0).toArray.size) := Lib.hid (by rw [sizePart, hZS])
  have HZO := Lib.hid hZO
  obtain ⟨X, hX⟩ : ∃ X, X = (partL 0 fun _ => 0) := ⟨_, rfl⟩
  rw [← hX] at HPT HSP HSZ HZO hz hbp hZS
  have HXX := Lib.hid hX
  have HF := Lib.hid hF
  have HL5 : Hid (l < 512) := Lib.hid (by have := (gapF_lt hl).1; omega)
  have HH0 := Lib.hid h0
  clear h hl hF hiP hZO hX h0
  generalize strB zpart = T at *
  have HNW : Hid ((w.alloc (.cells X.toArray 82)).heap[w.heap.size]? = some (.cells X.toArray 82 (0, 0))) := Lib.hid (heap_alloc_new _ _)
  obtain ⟨W5, hW5⟩ : ∃ W5, (w.alloc (.cells X.toArray 82)).setRow w.heap.size X.toArray = W5 := ⟨_, rfl⟩
  have HB5 : Hid (Below w.heap.size w W5) := Lib.hid (by rw [← hW5]; exact below_rowY (alloc_below w _) (Nat.le_refl _) _)
  have HR5 : Hid (W5.heap[w.heap.size]? = some (.cells X.toArray 82 (0, 0))) := Lib.hid (by rw [← hW5]; exact setRow_heap (w.alloc (.cells X.toArray 82)) w.heap.size _ _ _ _ HNW.out)
  go_enter Tryz.func102, Tryz.ntmps102
  go_upto_region 1 with (refine wpList_store_row rfl 82 (.tmp 2) (.tmp 3) rfl w.heap.size X.toArray rfl rfl 82 X.toArray HNW.out HSZ.out rfl HZO.out ?_; rw [hW5])
  have HRG : Hid (W5.rangeAt w.heap.size 0 X) := Lib.hid fun j u hu => by
    rw [cell_of_row _ _ _ _ _ _ HR5.out, Nat.zero_add, ← hu, ← List.getElem?_toArray]
  have HBL := Lib.hid (HH.out.st.lt)
  have HGL := Lib.hid (kin_lt HH.out.sp.kinG)
  have HDL := Lib.hid (kin_lt HH.out.sp.kinF)
  clear hW5 HNW hbp hz HSZ HZO
  go_upto_region 2 with (first
    | (refine wpList_load_mid rfl 82 (.tmp 2) rfl w.heap.size 0 rfl X _ HRG.out Tryz.underlying82 rfl HSP.out ?_)
    | (go_at_call 114; with_reducible refine (HPT.out _).mono ?_; rintro e w6 ⟨rfl, hb6⟩; have HB6 := Lib.hid (HB5.out.trans (hb6.mono HB5.out.size)); have HX6 := Lib.hid ((hb6.block _ (lt_of_block HR5.out)).trans HR5.out); clear hb6)
    | (go_at_call 104; with_reducible refine (HNP.out _ HB6.out).mono ?_; rintro e w7 ⟨rfl, HS7⟩; have hx7 := (HS7.out.2.block _ (lt_of_block HX6.out) (fun e => absurd (HGL.out _ e) (Nat.lt_irrefl _))).trans HX6.out; have f7 := frozen_of_row _ _ 0 _ _ hx7; have g7 := cell_of_row _ _ 0 _ _ _ hx7))
  obtain ⟨⟨s7, h7⟩, hc7⟩ := HS7.out
  have hx8 : (w7.setCell ⟨w.heap.size, 0, none⟩ (.int .i64 (l : Int))).heap[w.heap.size]? = some (.cells (partL l fun _ => 0).toArray 82 (0, 0)) := by
    have := heap_setCell_same _ _ 0 _ _ (.int .i64 (l : Int)) hx7
    rw [HXX.out, set_part] at this
    exact this
  have hcB : Chg [w.heap.size] [w.heap.size] w7 (w7.setCell ⟨w.heap.size, 0, none⟩ (.int .i64 (l : Int))) := ⟨rfl, rfl, rfl, by simp, fun j _ hj => heap_setCell_other w7 ⟨w.heap.size, 0, none⟩ j _ (by simpa using hj), fun _ h => .inl h⟩
  have h8 : Sto (w7.setCell ⟨w.heap.size, 0, none⟩ (.int .i64 (l : Int))) d sg D G m s7 pg (y.put l zpart) k g mb v n F := h7.stayB hcB
    (fun j hj => by cases List.mem_singleton.1 hj; exact .inr ⟨_, _, _, hx7, by simp⟩)
    (fun j hj e => by cases List.mem_singleton.1 e; exact absurd (HDL.out _ hj) (Nat.lt_irrefl _))
    (fun j hj e => by cases List.mem_singleton.1 e; exact absurd (HGL.out _ hj) (Nat.lt_irrefl _))
    (fun e => by have := List.mem_singleton.1 e; have := HBL.out; omega)
    (fun b hb e => by cases List.mem_singleton.1 e; exact absurd (World.ownsRow.lt HH.out.st.own _ hb).2 (Nat.lt_irrefl _))
  have HC8 : Hid (Chg G G w6 w7 ∧ Chg [w.heap.size] [w.heap.size] w7 (w7.setCell ⟨w.heap.size, 0, none⟩ (.int .i64 (l : Int)))) := Lib.hid ⟨hc7, hcB⟩
  clear hcB h7 hc7 HS7 hx7 f7 g7
  generalize w7.setCell ⟨w.heap.size, 0, none⟩ (.int .i64 (l : Int)) = W8 at *
  obtain ⟨ie, hie, hiz, his, hib⟩ := info_parts infoPart3
  have hzs : ie.zero = some (.agg (partL 0 fun _ => 0).toArray) := hiz
  have HIE := Lib.hid hie
  have HIZ := Lib.hid hiz
  have HIS := Lib.hid his
  have HIB := Lib.hid hib
  have H8 := Lib.hid h8
  obtain ⟨p, c, rfl, -⟩ := h8.st.own.form
  have c1 := h8.st.c1
  have hg8 := h8.st.lt
  have HRP : Hid (∀ U : World, U.heap[w.heap.size]? = W8.heap[w.heap.size]? → U.rangeAt w.heap.size 0 (partL l fun _ => 0)) := Lib.hid fun U e j u hu => by
    rw [cell_of_row _ _ _ _ _ _ (e.trans hx8), Nat.zero_add, ← hu, ← List.getElem?_toArray]
  have HSL : Hid ((Tryz.prog.info? 82).map (·.size) = some (partL l fun _ => 0).length) := Lib.hid (by rw [sizePart, partL_len])
  have HON : Hid (∀ u ∈ (partL l fun _ => 0), u.oneCell' = true) := Lib.hid (partL_one _ _)
  have HFP : Hid (Instr.fill (fun i => some (i * ie.size, ie.size)) ((Array.range (1 * ie.size)).map ((Value.agg (partL 0 fun _ => 0).toArray).cells[· % (Value.agg (partL 0 fun _ => 0).toArray).cells.size]!)) [(0, .agg (partL l fun _ => 0).toArray)] = some (partL l fun _ => 0).toArray) := Lib.hid (by rw [his]; exact fill_part l _ rfl)
  have HZC : Hid ((Value.agg (partL 0 fun _ => 0).toArray).cells.size = 129) := Lib.hid (by kernel_rfl)
  have HLN : Hid ((partL l fun _ => 0).length = 1 * 129) := Lib.hid (by rw [partL_len])
  have HNM : Hid (¬ 1 * ie.size > 2 ^ 24 ∧ ¬ 1 * ie.size = 0) := Lib.hid (by rw [his]; exact ⟨by decide, by decide⟩)
  have HN63 : Hid (n + 1 ≤ maxLen ∧ (n + 1) * 1032 ≤ 140737488355328) := Lib.hid ⟨by unfold maxLen; omega, by omega⟩
  have HZ8 : Hid (w.heap.size < W8.heap.size) := Lib.hid (lt_of_block hx8)
  have HGR : Hid (∀ (U w9 : World) g2 cap, Below W8.heap.size W8 U → w9.ownsRow 0 82 129 (.slice (some ⟨g2, 0, none⟩) (n + 1) cap) (n + 1) (Tb.ints F 0 (n * 129) ++ partL l fun _ => 0) → U.grownBy w9 (Value.slice p n c).ownBlock → ((Value.slice p n c).ownBlock = some g2 ∨ g2 = U.heap.size) →
      Sto (w9.setCell ⟨g, 1, none⟩ (.slice (some ⟨g2, 0, none⟩) (n + 1) cap)) d sg D G m s7 pg (y.put l zpart) k g mb (.slice (some ⟨g2, 0, none⟩) (n + 1) cap) (n + 1) (grewF F n l) ∧
      Chg (g :: (Value.slice p n c).ownBlock.toList) [g, g2] W8 (w9.setCell ⟨g, 1, none⟩ (.slice (some ⟨g2, 0, none⟩) (n + 1) cap)) ∧ w9.heap[g]? = W8.heap[g]? ∧ ∀ j, (Value.slice (some ⟨g2, 0, none⟩) (n + 1) cap).ownBlock = some j → (Value.slice p n c).ownBlock = some j ∨ w.heap.size ≤ j) := Lib.hid fun U w9 g2 cap hU hrow hgr hor => by
    obtain ⟨r1, r2, r3⟩ := h8.grown hn hU hrow hgr hor
    refine ⟨r1, r2, r3, fun j hj => ?_⟩
    cases hj
    have z1 := hU.size
    have z2 := HZ8.out
    exact hor.imp id fun e => by show w.heap.size ≤ g2; omega
  have HOW : Hid (∀ U, Below W8.heap.size W8 U → U.ownsRow 0 82 129 (.slice p n c) n (Tb.ints F 0 (n * 129))) := Lib.hid fun U hU => own_below h8.st.own hU
  have HRO8 := Lib.hid h8.st.row
  have HFIN : Hid (∀ (V w10 w11 : World) (g2 : Nat), Chg (g :: (Value.slice p n c).ownBlock.toList) [g, g2] W8 V → Below V.heap.size V w10 → Chg G G w10 w11 → ∃ K K', (∀ j ∈ K, j ∈ G ∨ j = g ∨ (Value.slice p n c).ownBlock = some j) ∧ Chg K K' w w11) := Lib.hid fun V w10 w11 g2 a1 a2 a3 => by
    obtain ⟨k1, k2⟩ := HC8.out
    have k0 := HB6.out
    have z0 := k0.size
    have z1 := k1.size
    have z2 := k2.size
    have z3 := a1.size
    have z4 := a2.size
    have z5 := a3.size
    refine ⟨G ++ (g :: (Value.slice p n c).ownBlock.toList), G ++ (g :: (Value.slice p n c).ownBlock.toList), fun j hj => ?_, ⟨a3.os.trans (a2.os.trans (a1.os.trans (k2.os.trans (k1.os.trans k0.os)))), a3.tape.trans (a2.tape.trans (a1.tape.trans (k2.tape.trans (k1.tape.trans k0.tape)))), a3.output.trans (a2.output.trans (a1.output.trans (k2.output.trans (k1.output.trans k0.output)))), by omega, fun j hj hn => ?_, fun j hj => .inl hj⟩⟩
    · rcases List.mem_append.1 hj with e | e
      · exact .inl e
      · rcases List.mem_cons.1 e with e | e
        · exact .inr (.inl e)
        · exact .inr (.inr (by simpa [Option.mem_toList] using e))
    · have n1 : j ∉ G := fun e => hn (List.mem_append.2 (.inl e))
      have n2 : j ∉ g :: (Value.slice p n c).ownBlock.toList := fun e => hn (List.mem_append.2 (.inr e))
      exact (a3.block j (by omega) n1).trans ((a2.block j (by omega)).trans ((a1.block j (by omega) n2).trans ((k2.block j (by omega) (fun e => by have := List.mem_singleton.1 e; omega)).trans ((k1.block j (by omega) n1).trans (k0.block j hj)))))
  have HHD3 : Hid (∀ (V w10 : World) g2 cap, Sto V d sg D G m s7 pg (y.put l zpart) k g mb (.slice (some ⟨g2, 0, none⟩) (n + 1) cap) (n + 1) (grewF F n l) → Below V.heap.size V w10 → Calls Tryz.prog 63 #[.slice (some ⟨g2, 0, none⟩) (n + 1) cap] w10 fun e w' => e = .returned (.string (strB (pageT (headB (n + 1) fun i => grewF F n l (i * 129))))) ∧ Below V.heap.size V w') := Lib.hid fun V w10 g2 cap hV hb => by
    obtain ⟨p3, c3, e3, hp3⟩ := (hV.below hb).st.own.form
    cases e3
    obtain ⟨b3, e3, hl3, hce⟩ := hp3 (by omega)
    cases e3
    have hq : PtsR w10 (some ⟨g2, 0, none⟩) (n + 1) (partAt (grewF F n l)) := fun i hi => by
      refine ⟨g2, rfl, hl3, ?_⟩
      unfold partAt
      rw [partL_ints]
      exact range_of_cells hce (by have := Nat.mul_le_mul_right 129 (show i + 1 ≤ n + 1 by omega); omega)
    refine (headText_any (some ⟨g2, 0, none⟩) (n + 1) cap (partAt (grewF F n l)) w10 (by omega) hq fun i hi => ?_).mono fun e w' h => ⟨h.1, hb.trans (h.2.mono hb.size)⟩
    show grewF F n l (i * 129) ≤ _
    unfold grewF
    split
    · exact HF.out i (by omega)
    · split
      · have := HL5.out; omega
      · omega
  have HWR3 : Hid (∀ (V w10 : World) g2 cap, Sto V d sg D G m s7 pg (y.put l zpart) k g mb (.slice (some ⟨g2, 0, none⟩) (n + 1) cap) (n + 1) (grewF F n l) → Below V.heap.size V w10 → Calls Tryz.prog 36 #[.pointer (some ⟨sg, 0, none⟩), .int .i64 0, .string (strB (pageT (headB (n + 1) fun i => grewF F n l (i * 129))))] w10 fun e w' => e = .returned (.int .i64 0) ∧ Hid ((∃ s', Sto w' d sg D G m s' pg ((y.put l zpart).put 0 (pageT (headB (n + 1) fun i => grewF F n l (i * 129)))) k g mb (.slice (some ⟨g2, 0, none⟩) (n + 1) cap) (n + 1) (grewF F n l)) ∧ Chg G G w10 w')) := Lib.hid fun V w10 g2 cap hV hb => by
    have h10 := hV.below hb
    have hth : thX (y.put l zpart).now 0 = true := by
      have h0 := HH0.out
      rw [show (0 : Int) = ((0 : Nat) : Int) from rfl, th_nat (by omega)] at h0 ⊢
      show (!(if (0 : Nat) = l then zpart else y.now 0).isEmpty) = true
      split
      · have := zpart_ok.1
        cases hz : zpart with
        | nil => rw [hz] at this; cases this
        | cons a b => rfl
      · exact h0
    have hlen : (headB (n + 1) fun i => grewF F n l (i * 129)).length ≤ 512 := by rw [headB_len]; omega
    have hw := write_z h10.sp 0 (by omega) (by omega) (pageT (headB (n + 1) fun i => grewF F n l (i * 129))) ⟨pageT_len hlen, pageT_dig (headB_dig _ _)⟩
    rw [if_pos hth, if_pos hth, show (0 : Int).toNat = 0 from rfl] at hw
    refine hw.mono ?_
    rintro e w11 ⟨rfl, ⟨s11, hs11⟩, hchg⟩
    exact ⟨rfl, Lib.hid ⟨⟨s11, h10.chg hchg hs11⟩, hchg⟩⟩
  clear h8 hx8 hie hiz his hib hzs HH
  generalize hPL : (partL l fun _ => 0) = Y at *
  generalize hPZ : (partL 0 fun _ => 0) = Z at *
  have HPL := Lib.hid hPL
  clear hPL hPZ hZS
  refine wp_region_held_drew (S := fun _ : World => True) (by kernel_rfl) trivial (fun _ => ?_)
  refine wpAnyH_take (i := 0) (v := ?_) rfl (by kernel_rfl) (by kernel_rfl) (by kernel_rfl) (fun _ _ _ h => h) (Or.inl ⟨by rfl, ?_⟩) trivial ?_
  rotate_left
  · intro w hSw
    try dsimp only at hSw
    go_simp
    try with_reducible rfl
  try simp only [Act.put, List.setIfInBounds_toArray, List.set_cons_zero, List.set_cons_succ]
  refine wpAnyH_take (i := 1) (v := ?_) rfl (by kernel_rfl) (by kernel_rfl) (by kernel_rfl) (fun _ _ _ h => h) (Or.inl ⟨by rfl, ?_⟩) trivial ?_
  rotate_left
  · intro w hSw
    try dsimp only at hSw
    go_simp
    try with_reducible rfl
  try simp only [Act.put, List.setIfInBounds_toArray, List.set_cons_zero, List.set_cons_succ]
  refine wpAnyH_take (i := 2) (v := ?_) rfl (by kernel_rfl) (by kernel_rfl) (by kernel_rfl) (fun _ _ _ h => h) (Or.inl ⟨by rfl, ?_⟩) trivial ?_
  rotate_left
  · intro w hSw
    try dsimp only at hSw
    go_simp
    try with_reducible rfl
  try simp only [Act.put, List.setIfInBounds_toArray, List.set_cons_zero, List.set_cons_succ]
  refine wpAnyH_take (i := 3) (v := ?_) rfl (by kernel_rfl) (by kernel_rfl) (by kernel_rfl) (fun _ _ _ h => h) (Or.inl ⟨by rfl, ?_⟩) trivial ?_
  rotate_left
  · intro w hSw
    try dsimp only at hSw
    go_simp
    try with_reducible rfl
  try simp only [Act.put, List.setIfInBounds_toArray, List.set_cons_zero, List.set_cons_succ]
  refine wpAnyH_ready (rs := [4, 5]) (by kernel_rfl) (by simp) ?_
  refine AllReadyH.cons (o := { dst := some 13, op := Op.load 75 (Operand.tmp 12), type := 75, pos := "pages.go:92", after := #[{ on := 3, ground := Ground.data }], guard := none }) (by kernel_rfl) (fun K hK => ?_) (AllReadyH.cons (o := { dst := some 14, op := Op.load 82 (Operand.tmp 2), type := 82, pos := "pages.go:92", after := #[], guard := none }) (by kernel_rfl) (fun K hK => ?_) AllReadyH.nil)
  · go_simp
    refine hK.out _ _ trivial (fun _ => ?_)
    clear hK K
    try simp only [Act.put, List.setIfInBounds_toArray, List.set_cons_zero, List.set_cons_succ]
    refine wpAnyH_ready (rs := [5]) (by kernel_rfl) (by simp) ?_
    refine AllReadyH.cons (o := { dst := some 14, op := Op.load 82 (Operand.tmp 2), type := 82, pos := "pages.go:92", after := #[], guard := none }) (by kernel_rfl) (fun K hK => ?_) AllReadyH.nil
    refine step_load_mid rfl 82 (.tmp 2) rfl w.heap.size 0 rfl Y _ (HRP.out _ rfl) Tryz.underlying82 rfl HSL.out ?_
    refine hK.out _ _ trivial (fun _ => ?_)
    clear hK K
    try simp only [Act.put, List.setIfInBounds_toArray, List.set_cons_zero, List.set_cons_succ]
    refine wpAnyH_ready (rs := [6]) (by kernel_rfl) (by simp) ?_
    refine AllReadyH.cons (o := { dst := some 15, op := Op.buildSlice 75 1 #[(0, Operand.tmp 14)], type := 75, pos := "pages.go:92", after := #[{ on := 5, ground := Ground.data }], guard := none }) (by kernel_rfl) (fun K hK => ?_) AllReadyH.nil
    refine step_buildSlice rfl 75 82 1 #[(0, .tmp 14)] rfl Y.toArray ie _ Tryz.underlying75 HIE.out HIZ.out HNM.out.1 HNM.out.2 (Eq.trans (congrArg (Instr.fill (fun i => some (i * ie.size, ie.size)) _) (by simp [go_sem])) HFP.out) ?_
    refine hK.out _ _ trivial (fun _ => ?_)
    clear hK K
    try simp only [Act.put, List.setIfInBounds_toArray, List.set_cons_zero, List.set_cons_succ]
    refine wpAnyH_ready (rs := [7]) (by kernel_rfl) (by simp) ?_
    refine AllReadyH.cons (o := { dst := some 16, op := Op.call { callee := Callee.builtin Builtin.append, args := #[Operand.tmp 13, Operand.tmp 15], argTypes := #[75, 75] }, type := 75, pos := "pages.go:92", after := #[{ on := 4, ground := Ground.data }, { on := 6, ground := Ground.data }], guard := none }) (by kernel_rfl) (fun K hK => ?_) AllReadyH.nil
    refine step_append_lies _ rfl (.tmp 13) (.tmp 15) 75 rfl 0 82 ie _ 129 1032 Tryz.underlying75 HIE.out HIZ.out HIS.out HIB.out HZC.out (by decide) (.slice p n c) n _ rfl (HOW.out _ (by exact ((Below.refl _ _).drew).alloc (Nat.le_refl _) _)) ⟨W8.heap.size, 0, none⟩ 1 1 Y rfl HLN.out (World.news_of_block (heap_alloc_new _ _)) HON.out (by decide) HN63.out.1 HN63.out.2 (Nat.zero_le _) _ rfl ?_
    intro g2 cap w9 hrow hgr hor hlt
    have HT9 := Lib.hid (HGR.out _ w9 g2 cap (by exact ((Below.refl _ _).drew).alloc (Nat.le_refl _) _) hrow hgr hor)
    have hr9 := HT9.out.2.2.1.trans HRO8.out
    have q9 := cell_of_row _ _ 1 _ _ _ hr9
    have fz9 := frozen_of_row _ _ 1 _ _ hr9
    simp at q9
    clear hrow hgr hor hlt hr9
    refine hK.out _ _ trivial (fun _ => ?_)
    clear hK K
    try simp only [Act.put, List.setIfInBounds_toArray, List.set_cons_zero, List.set_cons_succ]
    refine wpAnyH_ready (rs := [8]) (by kernel_rfl) (by simp) ?_
    refine AllReadyH.cons rfl (fun K hK => ?_) AllReadyH.nil
    go_simp
    refine hK.out _ _ trivial (fun _ => ?_)
    clear hK K
    try simp only [Act.put, List.setIfInBounds_toArray, List.set_cons_zero, List.set_cons_succ]
    refine wpAnyH_ready (rs := [9]) (by kernel_rfl) (by simp) ?_
    refine AllReadyH.cons rfl (fun K hK => ?_) AllReadyH.nil
    go_simp
    refine hK.out _ _ trivial (fun _ => ?_)
    clear hK K
    try simp only [Act.put, List.setIfInBounds_toArray, List.set_cons_zero, List.set_cons_succ]
    refine wpAnyH_ready (rs := [10]) (by kernel_rfl) (by simp) ?_
    refine AllReadyH.cons rfl (fun K hK => ?_) AllReadyH.nil
    go_simp
    refine hK.out _ _ trivial (fun _ => ?_)
    clear hK K
    try simp only [Act.put, List.setIfInBounds_toArray, List.set_cons_zero, List.set_cons_succ]
    refine wpAnyH_done (by kernel_rfl) ?_ _
    have HV := Lib.hid HT9.out.1
    have HCV := Lib.hid HT9.out.2.1
    have HOV := Lib.hid HT9.out.2.2.2
    clear HT9 q9 fz9
    generalize w9.setCell ⟨g, 1, none⟩ (.slice (some ⟨g2, 0, none⟩) (n + 1) cap) = V at *
    have v0 := HV.out.st.c0
    have v1 := HV.out.st.c1
    have HWR4 := Lib.hid (HWR3.out V)
    have HHD4 := Lib.hid (HHD3.out V V.drew g2 cap HV.out (Below.refl _ _).drew)
    clear HWR3 HHD3
    generalize strB (pageT (headB (n + 1) fun i => grewF F n l (i * 129))) = T3 at *
    go_wp2_with fail
    go_region_held3 (fun u : World => u.cell? ⟨g, 0, none⟩ = some (.pointer (some ⟨sg, 0, none⟩)) ∧ u.cell? ⟨g, 1, none⟩ = some (.slice (some ⟨g2, 0, none⟩) (n + 1) cap)) ((first
        | with_reducible exact ⟨v0, v1⟩
        | go_keep)) (first
      | (go_at_call 63; with_reducible refine HHD4.out.mono ?_; rintro e w10 ⟨rfl, hb10⟩; have HB10 := Lib.hid hb10; have v0 := (HV.out.below HB10.out).st.c0; have v1 := (HV.out.below HB10.out).st.c1)
      | (go_at_call 36; with_reducible refine (HWR4.out _ g2 cap HV.out HB10.out).mono ?_; rintro e w11 ⟨rfl, HE⟩; obtain ⟨⟨s11, h11⟩, -⟩ := HE.out; have v0 := h11.st.c0; have v1 := h11.st.c1; clear h11))
    go_wp2_with fail
    go_end0
    exact ⟨rfl, ⟨_, _, HE.out.1.choose_spec, HOV.out⟩, HFIN.out V _ _ g2 HCV.out HB10.out HE.out.2⟩
  · refine step_load_mid rfl 82 (.tmp 2) rfl w.heap.size 0 rfl Y _ (HRP.out _ rfl) Tryz.underlying82 rfl HSL.out ?_
    refine hK.out _ _ trivial (fun _ => ?_)
    clear hK K
    try simp only [Act.put, List.setIfInBounds_toArray, List.set_cons_zero, List.set_cons_succ]
    refine wpAnyH_ready (rs := [4, 6]) (by kernel_rfl) (by simp) ?_
    refine AllReadyH.cons (o := { dst := some 13, op := Op.load 75 (Operand.tmp 12), type := 75, pos := "pages.go:92", after := #[{ on := 3, ground := Ground.data }], guard := none }) (by kernel_rfl) (fun K hK => ?_) (AllReadyH.cons (o := { dst := some 15, op := Op.buildSlice 75 1 #[(0, Operand.tmp 14)], type := 75, pos := "pages.go:92", after := #[{ on := 5, ground := Ground.data }], guard := none }) (by kernel_rfl) (fun K hK => ?_) AllReadyH.nil)
    · go_simp
      refine hK.out _ _ trivial (fun _ => ?_)
      clear hK K
      try simp only [Act.put, List.setIfInBounds_toArray, List.set_cons_zero, List.set_cons_succ]
      refine wpAnyH_ready (rs := [6]) (by kernel_rfl) (by simp) ?_
      refine AllReadyH.cons (o := { dst := some 15, op := Op.buildSlice 75 1 #[(0, Operand.tmp 14)], type := 75, pos := "pages.go:92", after := #[{ on := 5, ground := Ground.data }], guard := none }) (by kernel_rfl) (fun K hK => ?_) AllReadyH.nil
      refine step_buildSlice rfl 75 82 1 #[(0, .tmp 14)] rfl Y.toArray ie _ Tryz.underlying75 HIE.out HIZ.out HNM.out.1 HNM.out.2 (Eq.trans (congrArg (Instr.fill (fun i => some (i * ie.size, ie.size)) _) (by simp [go_sem])) HFP.out) ?_
      refine hK.out _ _ trivial (fun _ => ?_)
      clear hK K
      try simp only [Act.put, List.setIfInBounds_toArray, List.set_cons_zero, List.set_cons_succ]
      refine wpAnyH_ready (rs := [7]) (by kernel_rfl) (by simp) ?_
      refine AllReadyH.cons (o := { dst := some 16, op := Op.call { callee := Callee.builtin Builtin.append, args := #[Operand.tmp 13, Operand.tmp 15], argTypes := #[75, 75] }, type := 75, pos := "pages.go:92", after := #[{ on := 4, ground := Ground.data }, { on := 6, ground := Ground.data }], guard := none }) (by kernel_rfl) (fun K hK => ?_) AllReadyH.nil
      refine step_append_lies _ rfl (.tmp 13) (.tmp 15) 75 rfl 0 82 ie _ 129 1032 Tryz.underlying75 HIE.out HIZ.out HIS.out HIB.out HZC.out (by decide) (.slice p n c) n _ rfl (HOW.out _ (by exact ((Below.refl _ _).drew).alloc (Nat.le_refl _) _)) ⟨W8.heap.size, 0, none⟩ 1 1 Y rfl HLN.out (World.news_of_block (heap_alloc_new _ _)) HON.out (by decide) HN63.out.1 HN63.out.2 (Nat.zero_le _) _ rfl ?_
      intro g2 cap w9 hrow hgr hor hlt
      have HT9 := Lib.hid (HGR.out _ w9 g2 cap (by exact ((Below.refl _ _).drew).alloc (Nat.le_refl _) _) hrow hgr hor)
      have hr9 := HT9.out.2.2.1.trans HRO8.out
      have q9 := cell_of_row _ _ 1 _ _ _ hr9
      have fz9 := frozen_of_row _ _ 1 _ _ hr9
      simp at q9
      clear hrow hgr hor hlt hr9
      refine hK.out _ _ trivial (fun _ => ?_)
      clear hK K
      try simp only [Act.put, List.setIfInBounds_toArray, List.set_cons_zero, List.set_cons_succ]
      refine wpAnyH_ready (rs := [8]) (by kernel_rfl) (by simp) ?_
      refine AllReadyH.cons rfl (fun K hK => ?_) AllReadyH.nil
      go_simp
      refine hK.out _ _ trivial (fun _ => ?_)
      clear hK K
      try simp only [Act.put, List.setIfInBounds_toArray, List.set_cons_zero, List.set_cons_succ]
      refine wpAnyH_ready (rs := [9]) (by kernel_rfl) (by simp) ?_
      refine AllReadyH.cons rfl (fun K hK => ?_) AllReadyH.nil
      go_simp
      refine hK.out _ _ trivial (fun _ => ?_)
      clear hK K
      try simp only [Act.put, List.setIfInBounds_toArray, List.set_cons_zero, List.set_cons_succ]
      refine wpAnyH_ready (rs := [10]) (by kernel_rfl) (by simp) ?_
      refine AllReadyH.cons rfl (fun K hK => ?_) AllReadyH.nil
      go_simp
      refine hK.out _ _ trivial (fun _ => ?_)
      clear hK K
      try simp only [Act.put, List.setIfInBounds_toArray, List.set_cons_zero, List.set_cons_succ]
      refine wpAnyH_done (by kernel_rfl) ?_ _
      have HV := Lib.hid HT9.out.1
      have HCV := Lib.hid HT9.out.2.1
      have HOV := Lib.hid HT9.out.2.2.2
      clear HT9 q9 fz9
      generalize w9.setCell ⟨g, 1, none⟩ (.slice (some ⟨g2, 0, none⟩) (n + 1) cap) = V at *
      have v0 := HV.out.st.c0
      have v1 := HV.out.st.c1
      have HWR4 := Lib.hid (HWR3.out V)
      have HHD4 := Lib.hid (HHD3.out V V.drew g2 cap HV.out (Below.refl _ _).drew)
      clear HWR3 HHD3
      generalize strB (pageT (headB (n + 1) fun i => grewF F n l (i * 129))) = T3 at *
      go_wp2_with fail
      go_region_held3 (fun u : World => u.cell? ⟨g, 0, none⟩ = some (.pointer (some ⟨sg, 0, none⟩)) ∧ u.cell? ⟨g, 1, none⟩ = some (.slice (some ⟨g2, 0, none⟩) (n + 1) cap)) ((first
          | with_reducible exact ⟨v0, v1⟩
          | go_keep)) (first
        | (go_at_call 63; with_reducible refine HHD4.out.mono ?_; rintro e w10 ⟨rfl, hb10⟩; have HB10 := Lib.hid hb10; have v0 := (HV.out.below HB10.out).st.c0; have v1 := (HV.out.below HB10.out).st.c1)
        | (go_at_call 36; with_reducible refine (HWR4.out _ g2 cap HV.out HB10.out).mono ?_; rintro e w11 ⟨rfl, HE⟩; obtain ⟨⟨s11, h11⟩, -⟩ := HE.out; have v0 := h11.st.c0; have v1 := h11.st.c1; clear h11))
      go_wp2_with fail
      go_end0
      exact ⟨rfl, ⟨_, _, HE.out.1.choose_spec, HOV.out⟩, HFIN.out V _ _ g2 HCV.out HB10.out HE.out.2⟩
    · refine step_buildSlice rfl 75 82 1 #[(0, .tmp 14)] rfl Y.toArray ie _ Tryz.underlying75 HIE.out HIZ.out HNM.out.1 HNM.out.2 (Eq.trans (congrArg (Instr.fill (fun i => some (i * ie.size, ie.size)) _) (by simp [go_sem])) HFP.out) ?_
      refine hK.out _ _ trivial (fun _ => ?_)
      clear hK K
      try simp only [Act.put, List.setIfInBounds_toArray, List.set_cons_zero, List.set_cons_succ]
      refine wpAnyH_ready (rs := [4]) (by kernel_rfl) (by simp) ?_
      refine AllReadyH.cons (o := { dst := some 13, op := Op.load 75 (Operand.tmp 12), type := 75, pos := "pages.go:92", after := #[{ on := 3, ground := Ground.data }], guard := none }) (by kernel_rfl) (fun K hK => ?_) AllReadyH.nil
      go_simp
      refine hK.out _ _ trivial (fun _ => ?_)
      clear hK K
      try simp only [Act.put, List.setIfInBounds_toArray, List.set_cons_zero, List.set_cons_succ]
      refine wpAnyH_ready (rs := [7]) (by kernel_rfl) (by simp) ?_
      refine AllReadyH.cons (o := { dst := some 16, op := Op.call { callee := Callee.builtin Builtin.append, args := #[Operand.tmp 13, Operand.tmp 15], argTypes := #[75, 75] }, type := 75, pos := "pages.go:92", after := #[{ on := 4, ground := Ground.data }, { on := 6, ground := Ground.data }], guard := none }) (by kernel_rfl) (fun K hK => ?_) AllReadyH.nil
      refine step_append_lies _ rfl (.tmp 13) (.tmp 15) 75 rfl 0 82 ie _ 129 1032 Tryz.underlying75 HIE.out HIZ.out HIS.out HIB.out HZC.out (by decide) (.slice p n c) n _ rfl (HOW.out _ (by exact ((Below.refl _ _).drew).alloc (Nat.le_refl _) _)) ⟨W8.heap.size, 0, none⟩ 1 1 Y rfl HLN.out (World.news_of_block (heap_alloc_new _ _)) HON.out (by decide) HN63.out.1 HN63.out.2 (Nat.zero_le _) _ rfl ?_
      intro g2 cap w9 hrow hgr hor hlt
      have HT9 := Lib.hid (HGR.out _ w9 g2 cap (by exact ((Below.refl _ _).drew).alloc (Nat.le_refl _) _) hrow hgr hor)
      have hr9 := HT9.out.2.2.1.trans HRO8.out
      have q9 := cell_of_row _ _ 1 _ _ _ hr9
      have fz9 := frozen_of_row _ _ 1 _ _ hr9
      simp at q9
      clear hrow hgr hor hlt hr9
      refine hK.out _ _ trivial (fun _ => ?_)
      clear hK K
      try simp only [Act.put, List.setIfInBounds_toArray, List.set_cons_zero, List.set_cons_succ]
      refine wpAnyH_ready (rs := [8]) (by kernel_rfl) (by simp) ?_
      refine AllReadyH.cons rfl (fun K hK => ?_) AllReadyH.nil
      go_simp
      refine hK.out _ _ trivial (fun _ => ?_)
      clear hK K
      try simp only [Act.put, List.setIfInBounds_toArray, List.set_cons_zero, List.set_cons_succ]
      refine wpAnyH_ready (rs := [9]) (by kernel_rfl) (by simp) ?_
      refine AllReadyH.cons rfl (fun K hK => ?_) AllReadyH.nil
      go_simp
      refine hK.out _ _ trivial (fun _ => ?_)
      clear hK K
      try simp only [Act.put, List.setIfInBounds_toArray, List.set_cons_zero, List.set_cons_succ]
      refine wpAnyH_ready (rs := [10]) (by kernel_rfl) (by simp) ?_
      refine AllReadyH.cons rfl (fun K hK => ?_) AllReadyH.nil
      go_simp
      refine hK.out _ _ trivial (fun _ => ?_)
      clear hK K
      try simp only [Act.put, List.setIfInBounds_toArray, List.set_cons_zero, List.set_cons_succ]
      refine wpAnyH_done (by kernel_rfl) ?_ _
      have HV := Lib.hid HT9.out.1
      have HCV := Lib.hid HT9.out.2.1
      have HOV := Lib.hid HT9.out.2.2.2
      clear HT9 q9 fz9
      generalize w9.setCell ⟨g, 1, none⟩ (.slice (some ⟨g2, 0, none⟩) (n + 1) cap) = V at *
      have v0 := HV.out.st.c0
      have v1 := HV.out.st.c1
      have HWR4 := Lib.hid (HWR3.out V)
      have HHD4 := Lib.hid (HHD3.out V V.drew g2 cap HV.out (Below.refl _ _).drew)
      clear HWR3 HHD3
      generalize strB (pageT (headB (n + 1) fun i => grewF F n l (i * 129))) = T3 at *
      go_wp2_with fail
      go_region_held3 (fun u : World => u.cell? ⟨g, 0, none⟩ = some (.pointer (some ⟨sg, 0, none⟩)) ∧ u.cell? ⟨g, 1, none⟩ = some (.slice (some ⟨g2, 0, none⟩) (n + 1) cap)) ((first
          | with_reducible exact ⟨v0, v1⟩
          | go_keep)) (first
        | (go_at_call 63; with_reducible refine HHD4.out.mono ?_; rintro e w10 ⟨rfl, hb10⟩; have HB10 := Lib.hid hb10; have v0 := (HV.out.below HB10.out).st.c0; have v1 := (HV.out.below HB10.out).st.c1)
        | (go_at_call 36; with_reducible refine (HWR4.out _ g2 cap HV.out HB10.out).mono ?_; rintro e w11 ⟨rfl, HE⟩; obtain ⟨⟨s11, h11⟩, -⟩ := HE.out; have v0 := h11.st.c0; have v1 := h11.st.c1; clear h11))
      go_wp2_with fail
      go_end0
      exact ⟨rfl, ⟨_, _, HE.out.1.choose_spec, HOV.out⟩, HFIN.out V _ _ g2 HCV.out HB10.out HE.out.2⟩
end
end Go.Proofs.YtmbecjlioogbhaaGreatDoor
end
section
/-! The keys, sorted: Rm. -/
set_option maxRecDepth 20000
set_option linter.unusedSimpArgs false
namespace Go.Proofs
open Go.Shelf
def Tryz.keysB_ren : Go.Shelf.Ren := ⟨fun | 7 => 95 | 10 => 153 | n => n, fun | 23 => 76 | 26 => 3 | 3 => 3 | 28 => 31 | 0 => 0 | 27 => 30 | 33 => 84 | 4 => 4 | n => n, fun | n => n⟩
theorem Tryz.keysB : Go.Proofs.SlLaysZI.n7 Tryz.prog Tryz.keysB_ren := {
  mixed := by kernel_rfl
  f7 := ⟨Tryz.f95.name, by decide, Tryz.func95.trans (congrArg some (by kernel_rfl))⟩
  f10 := ⟨Tryz.f153.name, by decide, Tryz.func153.trans (congrArg some (by kernel_rfl))⟩
  t0 := Tryz.underlying0
  a0 := Tryz.isAgg0
  z0 := Tryz.sizeOf0
  v0 := Tryz.zeroValue0
  t4 := Tryz.underlying4
  a4 := Tryz.isAgg4
  z4 := Tryz.sizeOf4
  v4 := Tryz.zeroValue4
  t23 := Tryz.underlying76
  a23 := Tryz.isAgg76
  z23 := Tryz.sizeOf76
  v23 := Tryz.zeroValue76
  t26 := Tryz.underlying3
  a26 := Tryz.isAgg3
  z26 := Tryz.sizeOf3
  v26 := Tryz.zeroValue3
  t27 := Tryz.underlying30
  a27 := Tryz.isAgg30
  z27 := Tryz.sizeOf30
  v27 := Tryz.zeroValue30
  t28 := Tryz.underlying31
  a28 := Tryz.isAgg31
  z28 := Tryz.sizeOf31
  v28 := Tryz.zeroValue31
  t33 := Tryz.underlying84
  a33 := Tryz.isAgg84
  z33 := Tryz.sizeOf84
  v33 := Tryz.zeroValue84 }
end Go.Proofs
namespace Go.Proofs.YtmbecjlioogbhaaGreatDoor
open Go.RowKit Go.Maps Go.MapKept Go.Shelf Go.Sort
open Go.WideElems (rd rg pl rd_key rd_val rg_of rd_mk)

theorem keysRm (mb : Option Nat) (W : World) : Calls Tryz.prog 95 #[.map mb] W fun e w' => e = .returned (.func (.func 153) #[] #[.pointer (some ⟨W.heap.size, 0, none⟩)]) ∧ w' = W.alloc (.cells #[.map mb] 76) :=
  (callsIn_wide (n := 5)).1 (AnyZI.keys_in Tryz.keysB Fence.wide 5 trivial rfl mb W)
theorem sortedRm {w : World} {mb : Nat} {f : Rmf} (h : Rms w mb f) :
    Calls Tryz.prog 94 #[.func (.func 153) #[] #[.pointer (some ⟨w.heap.size, 0, none⟩)]] (w.alloc (.cells #[.map (some mb)] 76)) fun e w' => (∃ v, e = .returned v ∧ OwnI w' (w.heap.size + 1) v f.keys) ∧ Below (w.alloc (.cells #[.map (some mb)] 76)).heap.size (w.alloc (.cells #[.map (some mb)] 76)) w' := by
  obtain ⟨D, hown, es, clock, hF, hD⟩ := h.owns
  have hlt := h.lt
  have hsz : Maps.size D ≤ 512 := by
    have h1 := (hF.ikeys).length_eq
    rw [← hD] at h1
    have h2 := f.keys_le
    rw [List.length_map] at h1
    rw [hD] at h1 ⊢
    simp only [intKeys, List.length_map] at h1
    show List.length _ ≤ 512
    omega
  have hseq : SeqGives Fence.wide 2 Tryz.prog 153 #[.pointer (some ⟨w.heap.size, 0, none⟩)] encZ (fun ss => ss.Perm (intKeys D)) (Maps.size D) (w.alloc (.cells #[.map (some mb)] 76)) :=
    AnyZI.keys_gives (ρ := Tryz.keysB_ren) { Tryz.keysB with } Fence.wide _ trivial rfl (by omega) w.heap.size mb 512 D _ (by simp) (by simp) (by
      obtain ⟨es, clock, hb, Ft, hs, hD⟩ := hown
      exact ⟨es, clock, (Below.heap_alloc _ _ mb hlt).trans hb, Ft, hs, hD⟩)
  have cS := AnyZI.sorted_in Tryz.sortedA Fence.wide 5 trivial trivial trivial trivial rfl (by omega) (sorts _) (enters_of Tryz.func152 (by kernel_rfl) rfl) 153 #[.pointer (some ⟨w.heap.size, 0, none⟩)] trivial (enters_of Tryz.func153 (by kernel_rfl) rfl) _ _ (by unfold maxLen; omega) (by omega) _ hseq
  refine ((callsIn_wide (n := 5)).1 cS).mono ?_
  rintro e w' ⟨v, ss, rfl, hS, hrow, _, hb⟩
  refine ⟨⟨v, rfl, ?_⟩, hb⟩
  have hl : ss.length = f.keys.length := by
    have h1 := (hS.trans (hD ▸ hF.ikeys)).length_eq
    rwa [List.length_map] at h1
  rw [hD] at hS
  have hk := hF.sorted hS
  unfold OwnI
  rw [← hl]
  have e1 : (f.keys.map fun l => ((l : Nat) : Int)).map encZ = Tb.ivs f.keys := by unfold Tb.ivs; rw [List.map_map]; rfl
  rw [← e1, ← hk, ← show (w.alloc (.cells #[.map (some mb)] 76)).heap.size = w.heap.size + 1 by simp]
  exact hrow
end Go.Proofs.YtmbecjlioogbhaaGreatDoor
end
