/- The sum of two numbers with their signs, and a number with its sign turned. -/
import Derived.Test.YtfjoahbboglgfaaDoorOf
import Derived.Deep.RegionHeld3
import Derived.Deep.DeepCutAuto
namespace Go.Proofs.YtfjoahbboglgfaaDoor
open Go.RowKit

/-- The whole number of a sign and an amount. -/
def sgn (b : Bool) (n : Nat) : Int := if b = true then -(n : Int) else n
theorem sgn_t (n : Nat) : sgn true n = -(n : Int) := rfl
theorem sgn_f (n : Nat) : sgn false n = (n : Int) := rfl
/-- Which sign a sum has. -/
def sumSign (x y : Bool) (m n : Nat) : Bool := if x = y then x else if n ≤ m then x else y

set_option maxHeartbeats 400000 in
theorem turned_any (A : Option Addr) (n c : Nat) (x : Bool) (w : World) :
    Calls Tryd.prog 17 #[.agg #[.bool x, .slice A n c]] w fun e w' => e = .returned (.agg #[.bool (!x), .slice A n c]) ∧ Below w.heap.size w w' := by
  go_enter Tryd.func17, Tryd.ntmps17
  go_wp2_with fail
  exact bodyPost_ret (v := .agg #[.bool (!x), .slice A n c]) (by simp [results, Tryd.results17, go_sem]) rfl ⟨rfl, below2 _ _ _⟩

theorem below3 (w : World) (o o' o'' : Obj) : Below w.heap.size w (((w.alloc o).alloc o').alloc o'') := (below2 w o o').alloc (by simp; omega) o''
theorem heap3_0 (w : World) (o o' o'' : Obj) : (((w.alloc o).alloc o').alloc o'').heap[w.heap.size]? = some o := blk_alloc (blk_alloc (heap_alloc_new w o) o') o''
theorem heap3_1 (w : World) (o o' o'' : Obj) : (((w.alloc o).alloc o').alloc o'').heap[w.heap.size + 1]? = some o' := blk_alloc (by simpa using heap_alloc_new (w.alloc o) o') o''
theorem heap3_2 (w : World) (o o' o'' : Obj) : (((w.alloc o).alloc o').alloc o'').heap[w.heap.size + 1 + 1]? = some o'' := by simpa using heap_alloc_new ((w.alloc o).alloc o') o''
theorem bcell {w w1 : World} (hb : Below w.heap.size w w1) {g : Nat} {o : Obj} (h : w.heap[g]? = some o) : w1.heap[g]? = some o := (hb.block g (blk_lt h)).trans h
theorem Row.set_far {w : World} {A : Option Addr} {c : Nat} {ds : List Nat} (h : Row w A c ds) {p : Addr} (hp : ∀ g, A = some ⟨g, 0, none⟩ → ds ≠ [] → g ≠ p.block) (u : Value) : Row (w.setCell p u) A c ds := by
  refine ⟨h.1, ?_⟩
  rcases h.2 with h0 | ⟨g, e, hc⟩
  · exact .inl h0
  · by_cases hd : ds = []
    · exact .inl hd
    · exact .inr ⟨g, e, fun j hj => by rw [World.cell?_setCell_other _ _ _ _ (fun e2 => hp g e hd (by rw [e2]))]; exact hc j hj⟩

theorem Row.ne_bool {w : World} {A : Option Addr} {c : Nat} {ds : List Nat} (h : Row w A c ds) {g' : Nat} {b : Bool} (hv : w.cell? ⟨g', 0, none⟩ = some (.bool b)) : ∀ g, A = some ⟨g, 0, none⟩ → ds ≠ [] → g ≠ g' := by
  intro g e hd he
  subst he
  have h0 : 0 < ds.length := List.length_pos_iff.2 hd
  obtain ⟨g2, e2, hc⟩ := h.cell h0
  rw [e] at e2
  injection e2 with e2
  injection e2 with e2
  subst e2
  rw [hv] at hc
  injection hc with hc
  cases hc

/-- A result's two cells, written into a block of the call's own: what the row was it is. -/
theorem num_end {w w1 : World} {g : Nat} {x y : Bool} {v u : Value} {C : Option Addr} {c : Nat} {ds : List Nat} (h : w1.heap[g]? = some (.cells #[.bool y, v] 24 (0, 0))) (hr : Row w1 C c ds) (hb : Below w.heap.size w w1) (hg : w.heap.size ≤ g) :
    ((w1.setCell ⟨g, 0, none⟩ (.bool x)).setCell ⟨g, 1, none⟩ u).cell? ⟨g, 0, none⟩ = some (.bool x) ∧ ((w1.setCell ⟨g, 0, none⟩ (.bool x)).setCell ⟨g, 1, none⟩ u).cell? ⟨g, 1, none⟩ = some u ∧
    (w1.setCell ⟨g, 0, none⟩ (.bool x)).cell? ⟨g, 0, none⟩ = some (.bool x) ∧
    Row ((w1.setCell ⟨g, 0, none⟩ (.bool x)).setCell ⟨g, 1, none⟩ u) C c ds ∧ Below w.heap.size w ((w1.setCell ⟨g, 0, none⟩ (.bool x)).setCell ⟨g, 1, none⟩ u) := by
  have e0 := blk_set h 0 (.bool x)
  have e1 := blk_set e0 1 u
  have k0 := blk_cell e1 0
  have k1 := blk_cell e1 1
  have k2 := blk_cell e0 0
  have k3 := blk_cell h 0
  simp at k0 k1 k2 k3
  exact ⟨k0, k1, k2, (hr.set_far (hr.ne_bool k3) _).set_far ((hr.set_far (hr.ne_bool k3) _).ne_bool k2) _, (hb.setCell hg _).setCell hg _⟩

set_option maxHeartbeats 1600000 in
set_option maxRecDepth 100000 in
theorem sum_same (A B : Option Addr) (ca cb : Nat) (a b : List Nat) (x : Bool) (w : World) (ha : Row w A ca a) (hb : Row w B cb b) (hla : a.length ≤ 400) (hlb : b.length ≤ 400) (hda : Canon a) (hdb : Canon b) :
    Calls Tryd.prog 16 #[.agg #[.bool x, .slice A a.length ca], .agg #[.bool x, .slice B b.length cb]] w fun e w' =>
      (∃ C c ds, e = .returned (.agg #[.bool x, .slice C ds.length c]) ∧ Row w' C c ds ∧ Canon ds ∧ val ds = val a + val b) ∧ Below w.heap.size w w' := by
  have h3 := below3 w (.cells #[.bool x, .slice A a.length ca] 24) (.cells #[.bool x, .slice B b.length cb] 24) (.cells #[.bool false, .slice none 0 0] 24)
  have e0 := heap3_0 w (.cells #[.bool x, .slice A a.length ca] 24) (.cells #[.bool x, .slice B b.length cb] 24) (.cells #[.bool false, .slice none 0 0] 24)
  have e1 := heap3_1 w (.cells #[.bool x, .slice A a.length ca] 24) (.cells #[.bool x, .slice B b.length cb] 24) (.cells #[.bool false, .slice none 0 0] 24)
  have e2 := heap3_2 w (.cells #[.bool x, .slice A a.length ca] 24) (.cells #[.bool x, .slice B b.length cb] 24) (.cells #[.bool false, .slice none 0 0] 24)
  have H3 := Lib.hid h3
  have E0 := Lib.hid e0
  have E1 := Lib.hid e1
  have E2 := Lib.hid e2
  clear h3 e0 e1 e2
  go_enter Tryd.func16, Tryd.ntmps16
  go_wp2_with fail
  generalize (((w.alloc (.cells #[.bool x, .slice A a.length ca] 24)).alloc (.cells #[.bool x, .slice B b.length cb] 24)).alloc (.cells #[.bool false, .slice none 0 0] 24)) = W at *
  have k0 := blk_cell E0.out 0
  have k1 := blk_cell E0.out 1
  have k2 := blk_cell E1.out 1
  have k3 := blk_cell E1.out 0
  simp at k0 k1 k2 k3
  have ha1 := ha.below H3.out
  have hb1 := hb.below H3.out
  go_region_held3 (fun w' => w'.cell? ⟨w.heap.size, 0, none⟩ = some (.bool x) ∧ w'.cell? ⟨w.heap.size, 1, none⟩ = some (.slice A a.length ca) ∧ w'.cell? ⟨w.heap.size + 1, 1, none⟩ = some (.slice B b.length cb) ∧ w'.cell? ⟨w.heap.size + 1, 0, none⟩ = some (.bool x))
    (((repeat' apply And.intro) <;> first | (go_keep; done) | (rw [World.cell?_setCell_other _ _ _ _ (by simp <;> omega), World.cell?_setCell_other _ _ _ _ (by simp <;> omega)]; assumption)))
    (first | (go_at_call 33; refine (plus_any A B ca cb a b _ (by exact ha1) (by exact hb1) (by omega) (by omega) hda.1 hdb.1).mono ?_; rintro e w1 ⟨⟨C, c, ds, rfl, hrow, hcan, hv⟩, hbw⟩; have m0 := blk_cell (bcell hbw (by exact E0.out)) 0; have m1 := blk_cell (bcell hbw (by exact E0.out)) 1; have m2 := blk_cell (bcell hbw (by exact E1.out)) 1; have m3 := blk_cell (bcell hbw (by exact E1.out)) 0; have M2 := Lib.hid (bcell hbw (by exact E2.out)); have n0 := blk_cell M2.out 0; have n1 := blk_cell M2.out 1; have f0 := blk_frozen M2.out 0; have f1 := blk_frozen M2.out 1; simp at m0 m1 m2 m3 n0 n1; have HV := Lib.hid hv; clear hv))
  have HE := Lib.hid (num_end (x := x) (u := .slice C ds.length c) M2.out hrow (by first | exact H3.out.trans (hbw.mono H3.out.size) | exact H3.out.drew.trans (hbw.mono H3.out.size) | exact (below_drewN H3.out _).trans (hbw.mono H3.out.size)) (by omega))
  have r0 := HE.out.1
  have r1 := HE.out.2.1
  go_wp2_with fail
  exact bodyPost_ret (v := .agg #[.bool x, .slice C ds.length c]) (by simp [results, Tryd.results16, go_sem, r0, r1]) rfl ⟨⟨C, c, ds, rfl, HE.out.2.2.2.1, hcan, HV.out⟩, HE.out.2.2.2.2⟩

set_option maxHeartbeats 1600000 in
set_option maxRecDepth 100000 in
theorem sum_t_ge (A B : Option Addr) (ca cb : Nat) (a b : List Nat) (w : World) (ha : Row w A ca a) (hb : Row w B cb b) (hla : a.length ≤ 400) (hlb : b.length ≤ 400) (hda : Canon a) (hdb : Canon b) (hle : val b ≤ val a) :
    Calls Tryd.prog 16 #[.agg #[.bool true, .slice A a.length ca], .agg #[.bool false, .slice B b.length cb]] w fun e w' =>
      (∃ C c ds, e = .returned (.agg #[.bool true, .slice C ds.length c]) ∧ Row w' C c ds ∧ Canon ds ∧ val ds = val a - val b) ∧ Below w.heap.size w w' := by
  have h3 := below3 w (.cells #[.bool true, .slice A a.length ca] 24) (.cells #[.bool false, .slice B b.length cb] 24) (.cells #[.bool false, .slice none 0 0] 24)
  have e0 := heap3_0 w (.cells #[.bool true, .slice A a.length ca] 24) (.cells #[.bool false, .slice B b.length cb] 24) (.cells #[.bool false, .slice none 0 0] 24)
  have e1 := heap3_1 w (.cells #[.bool true, .slice A a.length ca] 24) (.cells #[.bool false, .slice B b.length cb] 24) (.cells #[.bool false, .slice none 0 0] 24)
  have e2 := heap3_2 w (.cells #[.bool true, .slice A a.length ca] 24) (.cells #[.bool false, .slice B b.length cb] 24) (.cells #[.bool false, .slice none 0 0] 24)
  have H3 := Lib.hid h3
  have E0 := Lib.hid e0
  have E1 := Lib.hid e1
  have E2 := Lib.hid e2
  clear h3 e0 e1 e2
  have hcm : ∃ k : Int, Hid (cmpN (val a) (val b) = k) ∧ 0 ≤ k ∧ k ≤ 1 := by
    rcases Nat.lt_or_ge (val b) (val a) with h | h
    · exact ⟨1, cmpN_gt h, by omega, by omega⟩
    · exact ⟨0, cmpN_eq (by omega), by omega, by omega⟩
  obtain ⟨k, HK, hk1, hk2⟩ := hcm
  have hlen : b.length ≤ a.length := by
    rcases Nat.lt_or_ge a.length b.length with h | h
    · have := len_lt hda.1 hdb h; omega
    · exact h
  go_enter Tryd.func16, Tryd.ntmps16
  go_wp2_with fail
  generalize (((w.alloc (.cells #[.bool true, .slice A a.length ca] 24)).alloc (.cells #[.bool false, .slice B b.length cb] 24)).alloc (.cells #[.bool false, .slice none 0 0] 24)) = W at *
  have k0 := blk_cell E0.out 0
  have k1 := blk_cell E0.out 1
  have k2 := blk_cell E1.out 1
  have k3 := blk_cell E1.out 0
  simp at k0 k1 k2 k3
  have ha1 := ha.below H3.out
  have hb1 := hb.below H3.out
  refine (cmp_any A B ca cb a b _ ha1 hb1 (by omega) (by omega) hda hdb).mono ?_
  rintro e w' ⟨rfl, n, rfl⟩
  rw [HK.out]
  go_wp2_with fail
  go_region_held3 (fun w' => w'.cell? ⟨w.heap.size, 0, none⟩ = some (.bool true) ∧ w'.cell? ⟨w.heap.size, 1, none⟩ = some (.slice A a.length ca) ∧ w'.cell? ⟨w.heap.size + 1, 1, none⟩ = some (.slice B b.length cb) ∧ w'.cell? ⟨w.heap.size + 1, 0, none⟩ = some (.bool false))
    (((repeat' apply And.intro) <;> first | (go_keep; done) | (rw [World.cell?_setCell_other _ _ _ _ (by simp <;> omega), World.cell?_setCell_other _ _ _ _ (by simp <;> omega)]; assumption)))
    (first | (go_at_call 35; refine (minus_any A B ca cb a b _ (by exact ha1) (by exact hb1) (by omega) hlen hda.1 hdb.1 hle).mono ?_; rintro e w1 ⟨⟨C, c, ds, rfl, hrow, hcan, hv⟩, hbw⟩; have m0 := blk_cell (bcell hbw (by exact E0.out)) 0; have m1 := blk_cell (bcell hbw (by exact E0.out)) 1; have m2 := blk_cell (bcell hbw (by exact E1.out)) 1; have m3 := blk_cell (bcell hbw (by exact E1.out)) 0; have M2 := Lib.hid (bcell hbw (by exact E2.out)); have n0 := blk_cell M2.out 0; have n1 := blk_cell M2.out 1; have f0 := blk_frozen M2.out 0; have f1 := blk_frozen M2.out 1; simp at m0 m1 m2 m3 n0 n1; have HV := Lib.hid hv; clear hv))
  have HE := Lib.hid (num_end (x := true) (u := .slice C ds.length c) M2.out hrow (by first | exact H3.out.trans (hbw.mono H3.out.size) | exact H3.out.drew.trans (hbw.mono H3.out.size) | exact (below_drewN H3.out _).trans (hbw.mono H3.out.size)) (by omega))
  have r0 := HE.out.1
  have r1 := HE.out.2.1
  go_wp2_with fail
  exact bodyPost_ret (v := .agg #[.bool true, .slice C ds.length c]) (by simp [results, Tryd.results16, go_sem, r0, r1]) rfl ⟨⟨C, c, ds, rfl, HE.out.2.2.2.1, hcan, HV.out⟩, HE.out.2.2.2.2⟩

set_option maxHeartbeats 1600000 in
set_option maxRecDepth 100000 in
theorem sum_t_lt (A B : Option Addr) (ca cb : Nat) (a b : List Nat) (w : World) (ha : Row w A ca a) (hb : Row w B cb b) (hla : a.length ≤ 400) (hlb : b.length ≤ 400) (hda : Canon a) (hdb : Canon b) (hlt : val a < val b) :
    Calls Tryd.prog 16 #[.agg #[.bool true, .slice A a.length ca], .agg #[.bool false, .slice B b.length cb]] w fun e w' =>
      (∃ C c ds, e = .returned (.agg #[.bool false, .slice C ds.length c]) ∧ Row w' C c ds ∧ Canon ds ∧ val ds = val b - val a) ∧ Below w.heap.size w w' := by
  have h3 := below3 w (.cells #[.bool true, .slice A a.length ca] 24) (.cells #[.bool false, .slice B b.length cb] 24) (.cells #[.bool false, .slice none 0 0] 24)
  have e0 := heap3_0 w (.cells #[.bool true, .slice A a.length ca] 24) (.cells #[.bool false, .slice B b.length cb] 24) (.cells #[.bool false, .slice none 0 0] 24)
  have e1 := heap3_1 w (.cells #[.bool true, .slice A a.length ca] 24) (.cells #[.bool false, .slice B b.length cb] 24) (.cells #[.bool false, .slice none 0 0] 24)
  have e2 := heap3_2 w (.cells #[.bool true, .slice A a.length ca] 24) (.cells #[.bool false, .slice B b.length cb] 24) (.cells #[.bool false, .slice none 0 0] 24)
  have H3 := Lib.hid h3
  have E0 := Lib.hid e0
  have E1 := Lib.hid e1
  have E2 := Lib.hid e2
  clear h3 e0 e1 e2
  have hcm : ∃ k : Int, Hid (cmpN (val a) (val b) = k) ∧ k < 0 ∧ -1 ≤ k := ⟨-1, cmpN_lt hlt, by omega, by omega⟩
  obtain ⟨k, HK, hk1, hk2⟩ := hcm
  have hlen : a.length ≤ b.length := by
    rcases Nat.lt_or_ge a.length b.length with h | h
    · omega
    · rcases Nat.lt_or_ge b.length a.length with h2 | h2
      · have := len_lt hdb.1 hda h2; omega
      · exact h2
  go_enter Tryd.func16, Tryd.ntmps16
  go_wp2_with fail
  generalize (((w.alloc (.cells #[.bool true, .slice A a.length ca] 24)).alloc (.cells #[.bool false, .slice B b.length cb] 24)).alloc (.cells #[.bool false, .slice none 0 0] 24)) = W at *
  have k0 := blk_cell E0.out 0
  have k1 := blk_cell E0.out 1
  have k2 := blk_cell E1.out 1
  have k3 := blk_cell E1.out 0
  simp at k0 k1 k2 k3
  have ha1 := ha.below H3.out
  have hb1 := hb.below H3.out
  refine (cmp_any A B ca cb a b _ ha1 hb1 (by omega) (by omega) hda hdb).mono ?_
  rintro e w' ⟨rfl, n, rfl⟩
  rw [HK.out]
  go_wp2_with fail
  go_region_held3 (fun w' => w'.cell? ⟨w.heap.size, 0, none⟩ = some (.bool true) ∧ w'.cell? ⟨w.heap.size, 1, none⟩ = some (.slice A a.length ca) ∧ w'.cell? ⟨w.heap.size + 1, 1, none⟩ = some (.slice B b.length cb) ∧ w'.cell? ⟨w.heap.size + 1, 0, none⟩ = some (.bool false))
    (((repeat' apply And.intro) <;> first | (go_keep; done) | (rw [World.cell?_setCell_other _ _ _ _ (by simp <;> omega), World.cell?_setCell_other _ _ _ _ (by simp <;> omega)]; assumption)))
    (first | (go_at_call 35; refine (minus_any B A cb ca b a _ (by exact hb1) (by exact ha1) (by omega) hlen hdb.1 hda.1 (by omega)).mono ?_; rintro e w1 ⟨⟨C, c, ds, rfl, hrow, hcan, hv⟩, hbw⟩; have m0 := blk_cell (bcell hbw (by exact E0.out)) 0; have m1 := blk_cell (bcell hbw (by exact E0.out)) 1; have m2 := blk_cell (bcell hbw (by exact E1.out)) 1; have m3 := blk_cell (bcell hbw (by exact E1.out)) 0; have M2 := Lib.hid (bcell hbw (by exact E2.out)); have n0 := blk_cell M2.out 0; have n1 := blk_cell M2.out 1; have f0 := blk_frozen M2.out 0; have f1 := blk_frozen M2.out 1; simp at m0 m1 m2 m3 n0 n1; have HV := Lib.hid hv; clear hv))
  have HE := Lib.hid (num_end (x := false) (u := .slice C ds.length c) M2.out hrow (by first | exact H3.out.trans (hbw.mono H3.out.size) | exact H3.out.drew.trans (hbw.mono H3.out.size) | exact (below_drewN H3.out _).trans (hbw.mono H3.out.size)) (by omega))
  have r0 := HE.out.1
  have r1 := HE.out.2.1
  go_wp2_with fail
  exact bodyPost_ret (v := .agg #[.bool false, .slice C ds.length c]) (by simp [results, Tryd.results16, go_sem, r0, r1]) rfl ⟨⟨C, c, ds, rfl, HE.out.2.2.2.1, hcan, HV.out⟩, HE.out.2.2.2.2⟩

set_option maxHeartbeats 1600000 in
set_option maxRecDepth 100000 in
theorem sum_f_ge (A B : Option Addr) (ca cb : Nat) (a b : List Nat) (w : World) (ha : Row w A ca a) (hb : Row w B cb b) (hla : a.length ≤ 400) (hlb : b.length ≤ 400) (hda : Canon a) (hdb : Canon b) (hle : val b ≤ val a) :
    Calls Tryd.prog 16 #[.agg #[.bool false, .slice A a.length ca], .agg #[.bool true, .slice B b.length cb]] w fun e w' =>
      (∃ C c ds, e = .returned (.agg #[.bool false, .slice C ds.length c]) ∧ Row w' C c ds ∧ Canon ds ∧ val ds = val a - val b) ∧ Below w.heap.size w w' := by
  have h3 := below3 w (.cells #[.bool false, .slice A a.length ca] 24) (.cells #[.bool true, .slice B b.length cb] 24) (.cells #[.bool false, .slice none 0 0] 24)
  have e0 := heap3_0 w (.cells #[.bool false, .slice A a.length ca] 24) (.cells #[.bool true, .slice B b.length cb] 24) (.cells #[.bool false, .slice none 0 0] 24)
  have e1 := heap3_1 w (.cells #[.bool false, .slice A a.length ca] 24) (.cells #[.bool true, .slice B b.length cb] 24) (.cells #[.bool false, .slice none 0 0] 24)
  have e2 := heap3_2 w (.cells #[.bool false, .slice A a.length ca] 24) (.cells #[.bool true, .slice B b.length cb] 24) (.cells #[.bool false, .slice none 0 0] 24)
  have H3 := Lib.hid h3
  have E0 := Lib.hid e0
  have E1 := Lib.hid e1
  have E2 := Lib.hid e2
  clear h3 e0 e1 e2
  have hcm : ∃ k : Int, Hid (cmpN (val a) (val b) = k) ∧ 0 ≤ k ∧ k ≤ 1 := by
    rcases Nat.lt_or_ge (val b) (val a) with h | h
    · exact ⟨1, cmpN_gt h, by omega, by omega⟩
    · exact ⟨0, cmpN_eq (by omega), by omega, by omega⟩
  obtain ⟨k, HK, hk1, hk2⟩ := hcm
  have hlen : b.length ≤ a.length := by
    rcases Nat.lt_or_ge a.length b.length with h | h
    · have := len_lt hda.1 hdb h; omega
    · exact h
  go_enter Tryd.func16, Tryd.ntmps16
  go_wp2_with fail
  generalize (((w.alloc (.cells #[.bool false, .slice A a.length ca] 24)).alloc (.cells #[.bool true, .slice B b.length cb] 24)).alloc (.cells #[.bool false, .slice none 0 0] 24)) = W at *
  have k0 := blk_cell E0.out 0
  have k1 := blk_cell E0.out 1
  have k2 := blk_cell E1.out 1
  have k3 := blk_cell E1.out 0
  simp at k0 k1 k2 k3
  have ha1 := ha.below H3.out
  have hb1 := hb.below H3.out
  refine (cmp_any A B ca cb a b _ ha1 hb1 (by omega) (by omega) hda hdb).mono ?_
  rintro e w' ⟨rfl, n, rfl⟩
  rw [HK.out]
  go_wp2_with fail
  go_region_held3 (fun w' => w'.cell? ⟨w.heap.size, 0, none⟩ = some (.bool false) ∧ w'.cell? ⟨w.heap.size, 1, none⟩ = some (.slice A a.length ca) ∧ w'.cell? ⟨w.heap.size + 1, 1, none⟩ = some (.slice B b.length cb) ∧ w'.cell? ⟨w.heap.size + 1, 0, none⟩ = some (.bool true))
    (((repeat' apply And.intro) <;> first | (go_keep; done) | (rw [World.cell?_setCell_other _ _ _ _ (by simp <;> omega), World.cell?_setCell_other _ _ _ _ (by simp <;> omega)]; assumption)))
    (first | (go_at_call 35; refine (minus_any A B ca cb a b _ (by exact ha1) (by exact hb1) (by omega) hlen hda.1 hdb.1 hle).mono ?_; rintro e w1 ⟨⟨C, c, ds, rfl, hrow, hcan, hv⟩, hbw⟩; have m0 := blk_cell (bcell hbw (by exact E0.out)) 0; have m1 := blk_cell (bcell hbw (by exact E0.out)) 1; have m2 := blk_cell (bcell hbw (by exact E1.out)) 1; have m3 := blk_cell (bcell hbw (by exact E1.out)) 0; have M2 := Lib.hid (bcell hbw (by exact E2.out)); have n0 := blk_cell M2.out 0; have n1 := blk_cell M2.out 1; have f0 := blk_frozen M2.out 0; have f1 := blk_frozen M2.out 1; simp at m0 m1 m2 m3 n0 n1; have HV := Lib.hid hv; clear hv))
  have HE := Lib.hid (num_end (x := false) (u := .slice C ds.length c) M2.out hrow (by first | exact H3.out.trans (hbw.mono H3.out.size) | exact H3.out.drew.trans (hbw.mono H3.out.size) | exact (below_drewN H3.out _).trans (hbw.mono H3.out.size)) (by omega))
  have r0 := HE.out.1
  have r1 := HE.out.2.1
  go_wp2_with fail
  exact bodyPost_ret (v := .agg #[.bool false, .slice C ds.length c]) (by simp [results, Tryd.results16, go_sem, r0, r1]) rfl ⟨⟨C, c, ds, rfl, HE.out.2.2.2.1, hcan, HV.out⟩, HE.out.2.2.2.2⟩

set_option maxHeartbeats 1600000 in
set_option maxRecDepth 100000 in
theorem sum_f_lt (A B : Option Addr) (ca cb : Nat) (a b : List Nat) (w : World) (ha : Row w A ca a) (hb : Row w B cb b) (hla : a.length ≤ 400) (hlb : b.length ≤ 400) (hda : Canon a) (hdb : Canon b) (hlt : val a < val b) :
    Calls Tryd.prog 16 #[.agg #[.bool false, .slice A a.length ca], .agg #[.bool true, .slice B b.length cb]] w fun e w' =>
      (∃ C c ds, e = .returned (.agg #[.bool true, .slice C ds.length c]) ∧ Row w' C c ds ∧ Canon ds ∧ val ds = val b - val a) ∧ Below w.heap.size w w' := by
  have h3 := below3 w (.cells #[.bool false, .slice A a.length ca] 24) (.cells #[.bool true, .slice B b.length cb] 24) (.cells #[.bool false, .slice none 0 0] 24)
  have e0 := heap3_0 w (.cells #[.bool false, .slice A a.length ca] 24) (.cells #[.bool true, .slice B b.length cb] 24) (.cells #[.bool false, .slice none 0 0] 24)
  have e1 := heap3_1 w (.cells #[.bool false, .slice A a.length ca] 24) (.cells #[.bool true, .slice B b.length cb] 24) (.cells #[.bool false, .slice none 0 0] 24)
  have e2 := heap3_2 w (.cells #[.bool false, .slice A a.length ca] 24) (.cells #[.bool true, .slice B b.length cb] 24) (.cells #[.bool false, .slice none 0 0] 24)
  have H3 := Lib.hid h3
  have E0 := Lib.hid e0
  have E1 := Lib.hid e1
  have E2 := Lib.hid e2
  clear h3 e0 e1 e2
  have hcm : ∃ k : Int, Hid (cmpN (val a) (val b) = k) ∧ k < 0 ∧ -1 ≤ k := ⟨-1, cmpN_lt hlt, by omega, by omega⟩
  obtain ⟨k, HK, hk1, hk2⟩ := hcm
  have hlen : a.length ≤ b.length := by
    rcases Nat.lt_or_ge a.length b.length with h | h
    · omega
    · rcases Nat.lt_or_ge b.length a.length with h2 | h2
      · have := len_lt hdb.1 hda h2; omega
      · exact h2
  go_enter Tryd.func16, Tryd.ntmps16
  go_wp2_with fail
  generalize (((w.alloc (.cells #[.bool false, .slice A a.length ca] 24)).alloc (.cells #[.bool true, .slice B b.length cb] 24)).alloc (.cells #[.bool false, .slice none 0 0] 24)) = W at *
  have k0 := blk_cell E0.out 0
  have k1 := blk_cell E0.out 1
  have k2 := blk_cell E1.out 1
  have k3 := blk_cell E1.out 0
  simp at k0 k1 k2 k3
  have ha1 := ha.below H3.out
  have hb1 := hb.below H3.out
  refine (cmp_any A B ca cb a b _ ha1 hb1 (by omega) (by omega) hda hdb).mono ?_
  rintro e w' ⟨rfl, n, rfl⟩
  rw [HK.out]
  go_wp2_with fail
  go_region_held3 (fun w' => w'.cell? ⟨w.heap.size, 0, none⟩ = some (.bool false) ∧ w'.cell? ⟨w.heap.size, 1, none⟩ = some (.slice A a.length ca) ∧ w'.cell? ⟨w.heap.size + 1, 1, none⟩ = some (.slice B b.length cb) ∧ w'.cell? ⟨w.heap.size + 1, 0, none⟩ = some (.bool true))
    (((repeat' apply And.intro) <;> first | (go_keep; done) | (rw [World.cell?_setCell_other _ _ _ _ (by simp <;> omega), World.cell?_setCell_other _ _ _ _ (by simp <;> omega)]; assumption)))
    (first | (go_at_call 35; refine (minus_any B A cb ca b a _ (by exact hb1) (by exact ha1) (by omega) hlen hdb.1 hda.1 (by omega)).mono ?_; rintro e w1 ⟨⟨C, c, ds, rfl, hrow, hcan, hv⟩, hbw⟩; have m0 := blk_cell (bcell hbw (by exact E0.out)) 0; have m1 := blk_cell (bcell hbw (by exact E0.out)) 1; have m2 := blk_cell (bcell hbw (by exact E1.out)) 1; have m3 := blk_cell (bcell hbw (by exact E1.out)) 0; have M2 := Lib.hid (bcell hbw (by exact E2.out)); have n0 := blk_cell M2.out 0; have n1 := blk_cell M2.out 1; have f0 := blk_frozen M2.out 0; have f1 := blk_frozen M2.out 1; simp at m0 m1 m2 m3 n0 n1; have HV := Lib.hid hv; clear hv))
  have HE := Lib.hid (num_end (x := true) (u := .slice C ds.length c) M2.out hrow (by first | exact H3.out.trans (hbw.mono H3.out.size) | exact H3.out.drew.trans (hbw.mono H3.out.size) | exact (below_drewN H3.out _).trans (hbw.mono H3.out.size)) (by omega))
  have r0 := HE.out.1
  have r1 := HE.out.2.1
  go_wp2_with fail
  exact bodyPost_ret (v := .agg #[.bool true, .slice C ds.length c]) (by simp [results, Tryd.results16, go_sem, r0, r1]) rfl ⟨⟨C, c, ds, rfl, HE.out.2.2.2.1, hcan, HV.out⟩, HE.out.2.2.2.2⟩

theorem val_fits {a : List Nat} {n : Nat} (h : Canon a) (hv : val a < 10 ^ n) : a.length ≤ n := canon_len h n hv

/-- The sum of two numbers: its whole number, and its sign. -/
theorem sum_any (A B : Option Addr) (ca cb : Nat) (a b : List Nat) (x y : Bool) (w : World) (ha : Row w A ca a) (hb : Row w B cb b) (hla : a.length ≤ 400) (hlb : b.length ≤ 400) (hda : Canon a) (hdb : Canon b) :
    Calls Tryd.prog 16 #[.agg #[.bool x, .slice A a.length ca], .agg #[.bool y, .slice B b.length cb]] w fun e w' =>
      (∃ C c ds, e = .returned (.agg #[.bool (sumSign x y (val a) (val b)), .slice C ds.length c]) ∧ Row w' C c ds ∧ Canon ds ∧
        sgn (sumSign x y (val a) (val b)) (val ds) = sgn x (val a) + sgn y (val b) ∧ val ds ≤ val a + val b) ∧ Below w.heap.size w w' := by
  by_cases hxy : x = y
  · subst hxy
    have hs : sumSign x x (val a) (val b) = x := if_pos rfl
    rw [hs]
    refine (sum_same A B ca cb a b x w ha hb hla hlb hda hdb).mono ?_
    rintro e w' ⟨⟨C, c, ds, rfl, hr, hc, hv⟩, hbl⟩
    exact ⟨⟨C, c, ds, rfl, hr, hc, by rw [hv]; unfold sgn; split <;> omega, by omega⟩, hbl⟩
  · by_cases hle : val b ≤ val a
    · have hs : sumSign x y (val a) (val b) = x := by unfold sumSign; rw [if_neg hxy, if_pos hle]
      rw [hs]
      cases x <;> cases y
      · exact absurd rfl hxy
      · refine (sum_f_ge A B ca cb a b w ha hb hla hlb hda hdb hle).mono ?_
        rintro e w' ⟨⟨C, c, ds, rfl, hr, hc, hv⟩, hbl⟩
        exact ⟨⟨C, c, ds, rfl, hr, hc, by rw [hv, sgn_f, sgn_f, sgn_t]; omega, by omega⟩, hbl⟩
      · refine (sum_t_ge A B ca cb a b w ha hb hla hlb hda hdb hle).mono ?_
        rintro e w' ⟨⟨C, c, ds, rfl, hr, hc, hv⟩, hbl⟩
        exact ⟨⟨C, c, ds, rfl, hr, hc, by rw [hv, sgn_t, sgn_t, sgn_f]; omega, by omega⟩, hbl⟩
      · exact absurd rfl hxy
    · have hs : sumSign x y (val a) (val b) = y := by unfold sumSign; rw [if_neg hxy, if_neg hle]
      rw [hs]
      cases x <;> cases y
      · exact absurd rfl hxy
      · refine (sum_f_lt A B ca cb a b w ha hb hla hlb hda hdb (by omega)).mono ?_
        rintro e w' ⟨⟨C, c, ds, rfl, hr, hc, hv⟩, hbl⟩
        exact ⟨⟨C, c, ds, rfl, hr, hc, by rw [hv, sgn_f, sgn_t, sgn_t]; omega, by omega⟩, hbl⟩
      · refine (sum_t_lt A B ca cb a b w ha hb hla hlb hda hdb (by omega)).mono ?_
        rintro e w' ⟨⟨C, c, ds, rfl, hr, hc, hv⟩, hbl⟩
        exact ⟨⟨C, c, ds, rfl, hr, hc, by rw [hv, sgn_t, sgn_f, sgn_f]; omega, by omega⟩, hbl⟩
      · exact absurd rfl hxy

end Go.Proofs.YtfjoahbboglgfaaDoor
