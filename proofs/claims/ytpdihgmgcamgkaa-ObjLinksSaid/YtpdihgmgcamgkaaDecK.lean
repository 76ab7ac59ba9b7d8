/- Decode, amid it: the blocks that it lays. -/
import Derived.Test.YtpdihgmgcamgkaaTakePart
import Derived.Test.YtpdihgmgcamgkaaMine
set_option linter.unusedSimpArgs false
set_option maxRecDepth 20000
namespace Go.Proofs.Ytpdihgmgcamgkaa
open Go.RowKit Go.Shelf

/-- Rules stay where their blocks do. -/
theorem Rls.gen {W W' : World} {q : Option Addr} {k : Nat} {L : List Rl} (h : Rls W q k L) (hf : 0 < k → ∀ b o x y z, W.cell? ⟨b, o, none⟩ = some (.func x y z) → W'.cell? ⟨b, o, none⟩ = W.cell? ⟨b, o, none⟩)
    (hK : 0 < k → ∀ B K n, 0 < n → W.cell? ⟨B, 0, none⟩ = some (.slice (some ⟨K, 0, none⟩) n n) → W.cell? ⟨K, 0, none⟩ = some (.int .i64 8) → W'.cell? ⟨B, 0, none⟩ = W.cell? ⟨B, 0, none⟩ ∧ ∀ o, W'.cell? ⟨K, o, none⟩ = W.cell? ⟨K, o, none⟩) : Rls W' q k L := ⟨h.1, fun hn => by
  obtain ⟨b, o, e2, hc⟩ := h.2 hn
  refine ⟨b, o, e2, fun i hi => ?_⟩
  obtain ⟨u, h1, h2⟩ := hc i hi
  generalize L.getD i .any = r at h2 ⊢
  have hvf : ∃ f x y, u = .func f x y := by cases h2 <;> exact ⟨_, _, _, rfl⟩
  obtain ⟨f, x, y, rfl⟩ := hvf
  refine ⟨_, (hf hn _ _ _ _ _ h1).trans h1, ?_⟩
  clear h1
  cases h2 with
  | any => exact .any
  | tag => exact .tag
  | ref B K h h0 =>
    obtain ⟨a1, a2⟩ := hK hn B K 1 (by omega) h h0
    exact .ref B K (a1.trans h) ((a2 0).trans h0)
  | refNil B K h h0 h1 =>
    obtain ⟨a1, a2⟩ := hK hn B K 2 (by omega) h h0
    exact .refNil B K (a1.trans h) ((a2 0).trans h0) ((a2 1).trans h1)⟩
/-- Rules lie apart from a reader and from a record's box. -/
theorem Rls.apart {Wn W : World} {g d b5 B : Nat} {T : List Nat} {f kind : Int} {v : Value} {Bs : ByteArray} {t : TypeId} {q : Option Addr} {k : Nat} {L : List Rl} (h : Rls Wn q k L) (hR : Rd Wn g d T f)
    (hx : Wn.heap[b5]? = some (.cells #[.int .i64 kind, v, .string Bs] t (0, 0))) (hv : v = .slice none 0 0) (hk : L = [] ∨ kind ≠ 8) (hB : Wn.heap.size ≤ B) (ho : ∀ b, b < B → b ≠ g → b ≠ b5 → W.heap[b]? = Wn.heap[b]?) : Rls W q k L := by
  subst hv
  have hcell : ∀ b o u, Wn.cell? ⟨b, o, none⟩ = some u → b ≠ g → b ≠ b5 → ∀ o', W.cell? ⟨b, o', none⟩ = Wn.cell? ⟨b, o', none⟩ := fun b o u hc h1 h2 o' => World.cell?_of_block (w := Wn) (ho b (by have := World.block_lt_of_cell? Wn _ hc; simp at this; omega) h1 h2)
  refine h.gen (fun _ b o x y z hc => hcell b o _ hc (hR.ne_func hc) ?_ o) (fun hn B K n hn0 h1 h8 => ⟨hcell B 0 _ h1 (hR.ne_slice hn0 h1 h8) ?_ 0, fun o => hcell K 0 _ h8 (hR.ne_int h8) ?_ o⟩)
  · rintro rfl
    rw [cell_of_row _ _ o _ _ _ hx] at hc
    match o, hc with
    | 0, hc => simp at hc
    | 1, hc => simp at hc
    | 2, hc => simp at hc
    | o + 3, hc => simp at hc
  · rintro rfl
    rw [cell_of_row _ _ 0 _ _ _ hx] at h1
    simp at h1
  · rintro rfl
    rw [cell_of_row _ _ 0 _ _ _ hx] at h8
    simp at h8
    refine (hk.resolve_left (fun e => ?_)) h8
    rw [← h.1, e] at hn
    simp at hn
/-- The reader, the result's box, the record's box, what its kind asks for. -/
structure Dk (w Wn W : World) (g d : Nat) (T : List Nat) (f : Int) (b5 b6 : Nat) (N : Nd) (q : Option Addr) (k c : Nat) (kind : Int) (v : Value) (i : Nat) (l : List Pt) (Bs : ByteArray) : Prop where
  rd : Rd W g d T f
  below : Below w.heap.size w W
  x2 : W.heap[w.heap.size]? = some (.cells #[.int .i64 0, .slice none 0 0, .string ⟨#[]⟩] 33 (0, 0))
  x5 : W.heap[b5]? = some (.cells #[.int .i64 kind, v, .string Bs] 33 (0, 0))
  x6 : W.heap[b6]? = some (.cells #[.int .i64 N.least, .int .i64 N.most, .slice q k c, .int .i64 N.bytes, .int .u8 (N.high : Int)] 63 (0, 0))
  sn : ∀ b, b < b6 → b ≠ g → b ≠ b5 → W.heap[b]? = Wn.heap[b]?
  row : W.ownsRow (b6 + 1) 54 3 v i (pflat (l.take i))
  n1 : w.heap.size < g
  n2 : g < b5
  n3 : b5 < b6
  nd : d < b5
  n0 : w.heap.size < d
section
variable {w Wn W W' : World} {g d : Nat} {T T' : List Nat} {f f' : Int} {b5 b6 : Nat} {N : Nd} {q : Option Addr} {k c : Nat} {kind : Int} {v : Value} {i : Nat} {l : List Pt} {Bs S : ByteArray}
theorem Dk.step (h : Dk w Wn W g d T f b5 b6 N q k c kind v i l Bs) (hb : Below W.heap.size W W') : Dk w Wn W' g d T f b5 b6 N q k c kind v i l Bs :=
  ⟨h.rd.below hb, h.below.trans (hb.mono h.below.size), (hb.block _ (lt_of_block h.x2)).trans h.x2, (hb.block _ (lt_of_block h.x5)).trans h.x5, (hb.block _ (lt_of_block h.x6)).trans h.x6,
   fun b h1 h2 h3 => (hb.block b (by have := lt_of_block h.x6; omega)).trans (h.sn b h1 h2 h3), own_below h.row hb, h.n1, h.n2, h.n3, h.nd, h.n0⟩
theorem Dk.went (h : Dk w Wn W g d T f b5 b6 N q k c kind v i l Bs) (hr' : Rd W' g d T' f') (ho : Only g W W') : Dk w Wn W' g d T' f' b5 b6 N q k c kind v i l Bs := by
  have n1 := h.n1
  have n2 := h.n2
  have n3 := h.n3
  have l6 := lt_of_block h.x6
  refine ⟨hr', ho.below h.below h.below.size (by omega), ho.block_ne h.x2 (by omega), ho.block_ne h.x5 (by omega), ho.block_ne h.x6 (by omega), fun b h1 h2 h3 => (ho.block b (by omega) h2).trans (h.sn b h1 h2 h3), own_other h.row (fun b hb => ?_), n1, n2, n3, h.nd, h.n0⟩
  have := h.row.lt b hb
  exact ho.block b this.2 (by omega)
/-- Block b5 is changed, and what lies above b6. -/
theorem Dk.put (h : Dk w Wn W g d T f b5 b6 N q k c kind v i l Bs) {v' : Value} {i' : Nat} {Bs' : ByteArray} (hB : Below w.heap.size W W') (ho : ∀ b, b ≤ b6 → b ≠ b5 → W'.heap[b]? = W.heap[b]?)
    (hx : W'.heap[b5]? = some (.cells #[.int .i64 kind, v', .string Bs'] 33 (0, 0))) (hrow : W'.ownsRow (b6 + 1) 54 3 v' i' (pflat (l.take i'))) : Dk w Wn W' g d T f b5 b6 N q k c kind v' i' l Bs' := by
  have n1 := h.n1
  have n2 := h.n2
  have n3 := h.n3
  have nd := h.nd
  have n0 := h.n0
  obtain ⟨p, cc, r0, hh, hBy, r1, r2, r3, r4⟩ := h.rd
  refine ⟨⟨p, cc, r0, (ho g (by omega) (by omega)).trans hh, ⟨hBy.len, hBy.dig, fun hn => ?_⟩, r1, r2, r3, r4⟩, h.below.trans hB, (ho _ (by omega) (by omega)).trans h.x2, hx, (ho b6 (Nat.le_refl _) (by omega)).trans h.x6,
    fun b h1 h2 h3 => (ho b (by omega) h3).trans (h.sn b h1 h2 h3), hrow, n1, n2, n3, nd, n0⟩
  obtain ⟨b, o, e, hc⟩ := hBy.inn hn
  obtain ⟨o', e'⟩ := r3 _ e
  cases e'
  exact ⟨_, _, e, fun j hj => (World.cell?_of_block (w := W) (ho d (by omega) (by omega))).trans (hc j hj)⟩
theorem Dk.setS (h : Dk w Wn W g d T f b5 b6 N q k c kind v i l Bs) : Dk w Wn (W.setCell ⟨b5, 2, none⟩ (.string S)) g d T f b5 b6 N q k c kind v i l S := by
  have n1 := h.n1
  have n2 := h.n2
  have n3 := h.n3
  exact h.put ((Below.refl w.heap.size W).setCell (by show w.heap.size ≤ b5; omega) _) (fun b _ h2 => Below.heap_setCell _ _ _ _ h2) (heap_setCell_same _ _ 2 _ _ _ h.x5)
    (own_other h.row (fun b hb => Below.heap_setCell _ _ _ _ (by have := (h.row.lt b hb).1; show b ≠ b5; omega)))
/-- A part more. -/
theorem Dk.snoc {W3 : World} {v' : Value} {p : Pt} (h : Dk w Wn W g d T f b5 b6 N q k c kind v i l Bs) (hi : i < l.length) (hp : l.getD i default = p) (ob : Obj)
    (hown : W3.ownsRow (b6 + 1) 54 3 v' (i + 1) (pflat (l.take i) ++ [.int .i64 p.k, .int .i64 p.n, .string p.s])) (hg : (W.alloc ob).grownBy W3 v.ownBlock) :
    W3.heap[b5]? = some (.cells #[.int .i64 kind, v, .string Bs] 33 (0, 0)) ∧ Dk w Wn (W3.setCell ⟨b5, 1, none⟩ v') g d T f b5 b6 N q k c kind v' (i + 1) l Bs := by
  have m1 := h.n1
  have m2 := h.n2
  have m3 := h.n3
  have l6 := lt_of_block h.x6
  have hlt : ∀ b, b ≤ b6 → W3.heap[b]? = W.heap[b]? := fun b h2 =>
    (hg.block b (by simp; omega) (fun e => by have := (h.row.lt b e.symm).1; omega)).trans (Below.heap_alloc W ob b (by omega))
  have e5 := (hlt b5 (by omega)).trans h.x5
  have ws := h.below.size
  refine ⟨e5, h.put ?_ (fun b h1 h2 => (Below.heap_setCell _ _ _ _ h2).trans (hlt b h1)) (heap_setCell_same _ _ 1 _ _ _ e5) ?_⟩
  · exact ((((Below.refl w.heap.size W).alloc ws ob).grown hg (by simp; omega) (fun j e => by have := (h.row.lt j e).1; omega))).setCell (by show w.heap.size ≤ b5; omega) _
  · rw [take_pt l i hi, hp, pflat_append, pflat_one]
    exact own_other hown (fun b hb => Below.heap_setCell _ _ _ _ (by have := (hown.lt b hb).1; show b ≠ b5; omega))
/-- The return. -/
theorem Dk.ret (h : Dk w Wn W g d T f b5 b6 N q k c kind v i l Bs) (k2 : Int) (q2 : Option Addr) (n2 c2 : Nat) (s2 : ByteArray) (E0 : Int) (A : Array Value) (Q : Ending → World → Prop)
    (h2 : A[2]? = some (.pointer (some ⟨w.heap.size, 0, none⟩))) (h3 : A[3]? = some (.int .i64 E0))
    (hQ : ∀ V, Below w.heap.size w V → (∀ b, b ≠ w.heap.size → V.heap[b]? = W.heap[b]?) → Q (.returned (.tuple #[.agg #[.int .i64 k2, .slice q2 n2 c2, .string s2], .int .i64 E0])) V) :
    bodyPost Try.prog Try.f13 Q Exit.ret ⟨A, []⟩ (((W.setCell ⟨w.heap.size, 0, none⟩ (.int .i64 k2)).setCell ⟨w.heap.size, 1, none⟩ (.slice q2 n2 c2)).setCell ⟨w.heap.size, 2, none⟩ (.string s2)) := by
  have hF := three_set W w.heap.size _ _ _ _ (.int .i64 k2) (.slice q2 n2 c2) (.string s2) h.x2
  have hB : Below w.heap.size w (((W.setCell ⟨w.heap.size, 0, none⟩ (.int .i64 k2)).setCell ⟨w.heap.size, 1, none⟩ (.slice q2 n2 c2)).setCell ⟨w.heap.size, 2, none⟩ (.string s2)) := ((h.below.setCell (Nat.le_refl _) _).setCell (Nat.le_refl _) _).setCell (Nat.le_refl _) _
  have hO : ∀ b, b ≠ w.heap.size → (((W.setCell ⟨w.heap.size, 0, none⟩ (.int .i64 k2)).setCell ⟨w.heap.size, 1, none⟩ (.slice q2 n2 c2)).setCell ⟨w.heap.size, 2, none⟩ (.string s2)).heap[b]? = W.heap[b]? := fun b hb => by
    rw [Below.heap_setCell _ _ _ _ hb, Below.heap_setCell _ _ _ _ hb, Below.heap_setCell _ _ _ _ hb]
  generalize (((W.setCell ⟨w.heap.size, 0, none⟩ (.int .i64 k2)).setCell ⟨w.heap.size, 1, none⟩ (.slice q2 n2 c2)).setCell ⟨w.heap.size, 2, none⟩ (.string s2)) = V at *
  have z0 := cell_of_row _ _ 0 _ _ _ hF
  have z1 := cell_of_row _ _ 1 _ _ _ hF
  have z2 := cell_of_row _ _ 2 _ _ _ hF
  simp at z0 z1 z2
  exact bodyPost_ret (v := .tuple #[.agg #[.int .i64 k2, .slice q2 n2 c2, .string s2], .int .i64 E0]) (by simp [results, Try.results13, go_sem, h2, h3, z0, z1, z2]) rfl (hQ V hB hO)
end
end Go.Proofs.Ytpdihgmgcamgkaa
