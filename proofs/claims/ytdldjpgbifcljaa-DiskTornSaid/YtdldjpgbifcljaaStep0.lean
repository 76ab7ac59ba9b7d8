/- One step of the law, on the disk and on the document's: what is shared by all its kinds. -/
import Derived.Test.YtdldjpgbifcljaaLives
import Derived.Test.YtdldjpgbifcljaaRNew
namespace Go.Proofs.Ytdldjpgbifcljaa
open Go.RowKit

/-- What a step makes of a disk. -/
def opM (m : Dsk) (o : Opv) : Dsk :=
  if o.kind = 0 then putM m o.at_ (fillS o) else if o.kind = 1 then barM m else if o.kind = 2 then fuseM m o.n else if o.kind = 3 then failM m (keepB o.nk o.keep) o.torn o.n else if o.kind = 4 then startM m else m
/-- A box of an Op. -/
structure BoxO (w : World) (b : Nat) (o : Opv) : Prop where
  hd : w.heap[b]? = some (.cells #[.int .i64 o.kind, .int .i64 o.at_, .int .i64 o.n, .int .i64 o.torn, .int .i64 o.long, .int .u8 (o.fill : Int), .slice o.p o.nk o.ck] 39 (0, 0))
theorem BoxO.c0 {w : World} {b : Nat} {o : Opv} (h : BoxO w b o) : w.cell? ⟨b, 0, none⟩ = some (.int .i64 o.kind) := by rw [cell_of_row w b 0 _ _ _ h.hd]; rfl
theorem BoxO.c1 {w : World} {b : Nat} {o : Opv} (h : BoxO w b o) : w.cell? ⟨b, 1, none⟩ = some (.int .i64 o.at_) := by rw [cell_of_row w b 1 _ _ _ h.hd]; rfl
theorem BoxO.c2 {w : World} {b : Nat} {o : Opv} (h : BoxO w b o) : w.cell? ⟨b, 2, none⟩ = some (.int .i64 o.n) := by rw [cell_of_row w b 2 _ _ _ h.hd]; rfl
theorem BoxO.c3 {w : World} {b : Nat} {o : Opv} (h : BoxO w b o) : w.cell? ⟨b, 3, none⟩ = some (.int .i64 o.torn) := by rw [cell_of_row w b 3 _ _ _ h.hd]; rfl
theorem BoxO.c4 {w : World} {b : Nat} {o : Opv} (h : BoxO w b o) : w.cell? ⟨b, 4, none⟩ = some (.int .i64 o.long) := by rw [cell_of_row w b 4 _ _ _ h.hd]; rfl
theorem BoxO.c5 {w : World} {b : Nat} {o : Opv} (h : BoxO w b o) : w.cell? ⟨b, 5, none⟩ = some (.int .u8 (o.fill : Int)) := by rw [cell_of_row w b 5 _ _ _ h.hd]; rfl
theorem BoxO.c6 {w : World} {b : Nat} {o : Opv} (h : BoxO w b o) : w.cell? ⟨b, 6, none⟩ = some (.slice o.p o.nk o.ck) := by rw [cell_of_row w b 6 _ _ _ h.hd]; rfl
theorem BoxO.lt {w : World} {b : Nat} {o : Opv} (h : BoxO w b o) : b < w.heap.size := lt_of_block h.hd
theorem BoxO.chg {w w' : World} {F F' : List Nat} {b : Nat} {o : Opv} (h : BoxO w b o) (hc : Chg F F' w w') (hT : Typed w F) : BoxO w' b o := ⟨hc.keep hT h.hd (by decide)⟩
theorem BoxO.below {w w' : World} {b : Nat} {o : Opv} (h : BoxO w b o) (hb : Below w.heap.size w w') : BoxO w' b o := ⟨(hb.block b h.lt).trans h.hd⟩
theorem Box5.chg {w w' : World} {F F' : List Nat} {b : Nat} {v0 v1 v2 v3 v4 : Value} (h : Box5 w b v0 v1 v2 v3 v4) (hc : Chg F F' w w') (hT : Typed w F) : Box5 w' b v0 v1 v2 v3 v4 := ⟨hc.keep hT h.hd (by decide)⟩
/-- The worlds amid a step: the boxes of the document's disk, of the step, and of the result. -/
structure SW (w wx : World) (b g : Nat) (F Fx : List Nat) (x0 x1 : Value) (mx md : Dsk) (o : Opv) : Prop where
  x : Box5 wx b x0 x1 (.int .i64 mx.fuse) (.bool mx.down) (.int .i64 (mx.done : Int))
  o : BoxO wx (b + 1) o
  r : ∃ z0 z1 z2 z3 z4, Box5 wx (b + 2) z0 z1 z2 z3 z4
  ref : RefV wx x0 x1 mx
  dk : Dk wx g Fx md
  chg : Chg F Fx w wx
theorem SW.below {w wx w2 : World} {b g : Nat} {F Fx : List Nat} {x0 x1 : Value} {mx md : Dsk} {o : Opv} (h : SW w wx b g F Fx x0 x1 mx md o) (hb : Below wx.heap.size wx w2) : SW w w2 b g F Fx x0 x1 mx md o := by
  obtain ⟨z0, z1, z2, z3, z4, hr⟩ := h.r
  exact ⟨h.x.below hb, h.o.below hb, ⟨z0, z1, z2, z3, z4, hr.below hb⟩, h.ref.below hb, h.dk.below hb, h.chg.trans (Chg.of_below hb)⟩
theorem SW.went {w wx w2 : World} {b g : Nat} {F Fx : List Nat} {x0 x1 : Value} {mx md md2 : Dsk} {o : Opv} (h : SW w wx b g F Fx x0 x1 mx md o) (hw : Went Fx g md2 wx w2) : ∃ F2, SW w w2 b g F F2 x0 x1 mx md2 o := by
  obtain ⟨F2, hD, hC⟩ := hw
  obtain ⟨z0, z1, z2, z3, z4, hr⟩ := h.r
  have hT := h.dk.typed
  exact ⟨F2, h.x.chg hC hT, h.o.chg hC hT, ⟨z0, z1, z2, z3, z4, hr.chg hC hT⟩, h.ref.chg hC hT, hD, h.chg.trans hC⟩
theorem SW.drew {w wx : World} {b g : Nat} {F Fx : List Nat} {x0 x1 : Value} {mx md : Dsk} {o : Opv} (h : SW w wx b g F Fx x0 x1 mx md o) : SW w wx.drew b g F Fx x0 x1 mx md o := h.below (Below.refl _ _).drew
theorem three_boxes (w : World) (A B C : Obj) : (((w.alloc A).alloc B).alloc C).heap[w.heap.size]? = some A ∧ (((w.alloc A).alloc B).alloc C).heap[w.heap.size + 1]? = some B ∧ (((w.alloc A).alloc B).alloc C).heap[w.heap.size + 2]? = some C := by
  have h1 : ((w.alloc A).alloc B).heap.size = w.heap.size + 2 := by simp
  have h2 := heap_alloc2_old w A B
  have h3 := heap_alloc2_new w A B
  generalize (w.alloc A).alloc B = W at *
  refine ⟨(Below.heap_alloc W C _ (by rw [h1]; exact Nat.lt_add_of_pos_right (by decide))).trans h2, (Below.heap_alloc W C _ (by rw [h1]; exact Nat.lt_succ_self _)).trans h3, ?_⟩
  rw [← h1]; exact heap_alloc_new W C
theorem below3 (w : World) (A B C : Obj) : Below w.heap.size w (((w.alloc A).alloc B).alloc C) := (below2 w A B).alloc (Nat.le_trans ((Below.refl 0 w).alloc (Nat.zero_le _) A).size ((Below.refl 0 (w.alloc A)).alloc (Nat.zero_le _) B).size) C
theorem SW.start {w : World} {g : Nat} {F : List Nat} {vL vR : Value} {m : Dsk} {o : Opv} (hD : Dk w g F m) (hR : RefV w vL vR m) :
    SW w (((w.alloc (.cells #[vL, vR, .int .i64 m.fuse, .bool m.down, .int .i64 (m.done : Int)] 33)).alloc (.cells #[.int .i64 o.kind, .int .i64 o.at_, .int .i64 o.n, .int .i64 o.torn, .int .i64 o.long, .int .u8 (o.fill : Int), .slice o.p o.nk o.ck] 39)).alloc (.cells #[.slice none 0 0, .slice none 0 0, .int .i64 0, .bool false, .int .i64 0] 33)) w.heap.size g F F vL vR m m o := by
  have hb := below3 w (.cells #[vL, vR, .int .i64 m.fuse, .bool m.down, .int .i64 (m.done : Int)] 33) (.cells #[.int .i64 o.kind, .int .i64 o.at_, .int .i64 o.n, .int .i64 o.torn, .int .i64 o.long, .int .u8 (o.fill : Int), .slice o.p o.nk o.ck] 39) (.cells #[.slice none 0 0, .slice none 0 0, .int .i64 0, .bool false, .int .i64 0] 33)
  obtain ⟨h1, h2, h3⟩ := three_boxes w (.cells #[vL, vR, .int .i64 m.fuse, .bool m.down, .int .i64 (m.done : Int)] 33) (.cells #[.int .i64 o.kind, .int .i64 o.at_, .int .i64 o.n, .int .i64 o.torn, .int .i64 o.long, .int .u8 (o.fill : Int), .slice o.p o.nk o.ck] 39) (.cells #[.slice none 0 0, .slice none 0 0, .int .i64 0, .bool false, .int .i64 0] 33)
  exact ⟨⟨h1⟩, ⟨h2⟩, ⟨_, _, _, _, _, ⟨h3⟩⟩, hR.below hb, hD.below hb, Chg.of_below hb⟩
/-- How a step ends. -/
def Ends (w : World) (g : Nat) (F : List Nat) (m : Dsk) (e : Ending) (w' : World) : Prop := ∃ y F', e = .returned (.tuple #[y, .bool true]) ∧ Dk w' g F' m ∧ Ref w' y m ∧ Chg F F' w w'
theorem Chg.set5 {F F' : List Nat} {w w1 : World} (h : Chg F F' w w1) {k : Nat} (hk : w.heap.size ≤ k) (i : Nat) (v : Value) : Chg F F' w (w1.setCell ⟨k, i, none⟩ v) :=
  ⟨h.os, h.tape, h.output, by simp [World.setCell]; exact h.size, fun j hj hF => (heap_setCell_other _ _ _ _ (by show j ≠ k; omega)).trans (h.block j hj hF), h.fresh⟩
/-- A box that is stored into: a disk stays, and the document's. -/
theorem Dk.apart {wx W5 : World} {g k : Nat} {Fx : List Nat} {md : Dsk} (hD : Dk wx g Fx md) {z0 z1 z2 z3 z4 : Value} (hB : Box5 wx k z0 z1 z2 z3 z4) (hall : ∀ j, j ≠ k → W5.heap[j]? = wx.heap[j]?) : Dk W5 g Fx md := by
  obtain ⟨bO, cO, bL, cL, vW, os, ls, ws, h, rfl⟩ := hD
  have hF : ∀ j ∈ foot g bO bL vW, j ≠ k := fun j hj => by
    obtain ⟨cs, t, fr, h1, h2⟩ := h.typed j hj
    exact ne_of_ty h1 hB.hd (by rcases h2 with e | e | e <;> subst e <;> decide)
  have hs := fun j hj => hall j (hF j hj)
  have sec : ∀ {v : Value} {s : List Nat}, Sec wx v s → Sec W5 v s := fun {v s} hsec => by
    obtain ⟨b, c, cur, fr, rfl, hh, hr⟩ := hsec
    exact ⟨b, c, cur, fr, rfl, (hall b (ne_of_ty hh hB.hd (by decide))).trans hh, hr⟩
  refine ⟨bO, cO, bL, cL, vW, os, ls, ws, ⟨(hs g (by simp [foot])).trans h.hd, own_other h.ro (fun j hj => hs j ?_), own_other h.rl (fun j hj => hs j ?_), own_other h.rw_ (fun j hj => hs j ?_), ⟨h.so.len, fun i hi => sec (h.so.at_ i hi)⟩, ⟨h.sl.len, fun i hi => sec (h.sl.at_ i hi)⟩, ⟨h.sw.len, fun i hi => ⟨(h.sw.at_ i hi).1, sec (h.sw.at_ i hi).2⟩⟩, h.nil_, h.ne, h.ok⟩, rfl⟩
  · cases hj; simp [foot]
  · cases hj; simp [foot]
  · simp [foot, hj]
theorem RefV.apart {wx W5 : World} {k : Nat} {vL vR : Value} {md : Dsk} (h : RefV wx vL vR md) {z0 z1 z2 z3 z4 : Value} (hB : Box5 wx k z0 z1 z2 z3 z4) (hall : ∀ j, j ≠ k → W5.heap[j]? = wx.heap[j]?) : RefV W5 vL vR md := by
  refine ⟨own_other h.l (fun j hj => hall j ?_), own_other h.r (fun j hj => hall j ?_), h.ok⟩
  · obtain ⟨cur, hc⟩ := own_head h.l hj; exact ne_of_ty hc hB.hd (by decide)
  · obtain ⟨cur, hc⟩ := own_head h.r hj; exact ne_of_ty hc hB.hd (by decide)
theorem Ref.apart {wx W5 : World} {k : Nat} {y : Value} {md : Dsk} (hR : Ref wx y md) {z0 z1 z2 z3 z4 : Value} (hB : Box5 wx k z0 z1 z2 z3 z4) (hall : ∀ j, j ≠ k → W5.heap[j]? = wx.heap[j]?) : Ref W5 y md := by
  obtain ⟨vL, vR, e, h⟩ := hR
  exact ⟨vL, vR, e, h.apart hB hall⟩
theorem ends_gen {w wx W5 : World} {g k : Nat} {F Fx : List Nat} {md : Dsk} {y : Value} (hD : Dk wx g Fx md) (hR : Ref wx y md) {z0 z1 z2 z3 z4 : Value} (hB : Box5 wx k z0 z1 z2 z3 z4)
    (hall : ∀ j, j ≠ k → W5.heap[j]? = wx.heap[j]?) (hc : Chg F Fx w W5) : Ends w g F md (.returned (.tuple #[y, .bool true])) W5 := ⟨y, Fx, rfl, hD.apart hB hall, hR.apart hB hall, hc⟩
theorem five_other (wx : World) (k : Nat) (v0 v1 v2 v3 v4 : Value) (j : Nat) (hj : j ≠ k) : (((((wx.setCell ⟨k, 0, none⟩ v0).setCell ⟨k, 1, none⟩ v1).setCell ⟨k, 2, none⟩ v2).setCell ⟨k, 3, none⟩ v3).setCell ⟨k, 4, none⟩ v4).heap[j]? = wx.heap[j]? := by
  rw [heap_setCell_other _ _ _ _ hj, heap_setCell_other _ _ _ _ hj, heap_setCell_other _ _ _ _ hj, heap_setCell_other _ _ _ _ hj, heap_setCell_other _ _ _ _ hj]
/-- Five cells of the result are stored: all else stays. -/
theorem ends_of {w wx : World} {g k : Nat} {F Fx : List Nat} {md : Dsk} {y : Value} (hk : w.heap.size ≤ k) (hD : Dk wx g Fx md) (hR : Ref wx y md) (hc : Chg F Fx w wx) {z0 z1 z2 z3 z4 : Value} (hB : Box5 wx k z0 z1 z2 z3 z4) (v0 v1 v2 v3 v4 : Value) :
    Ends w g F md (.returned (.tuple #[y, .bool true])) (((((wx.setCell ⟨k, 0, none⟩ v0).setCell ⟨k, 1, none⟩ v1).setCell ⟨k, 2, none⟩ v2).setCell ⟨k, 3, none⟩ v3).setCell ⟨k, 4, none⟩ v4) :=
  ends_gen hD hR hB (five_other wx k v0 v1 v2 v3 v4) (((((hc.set5 hk 0 v0).set5 hk 1 v1).set5 hk 2 v2).set5 hk 3 v3).set5 hk 4 v4)
end Go.Proofs.Ytdldjpgbifcljaa
