/- Plain facts on the digits of a number to any base, the lowest first, and on their bytes. -/
namespace Go.Proofs.YtfjoahbboglgfaaDoor

/-- The digits of u to the base b, the lowest first, one or more (f: how many at most). -/
def bd (b : Nat) : Nat → Nat → List Nat
  | 0, _ => [0]
  | f + 1, u => if u < b then [u] else u % b :: bd b f (u / b)
/-- A digit's byte. -/
def ch (d : Nat) : UInt8 := if d < 10 then UInt8.ofNat (48 + d) else UInt8.ofNat (87 + d)
/-- A number's text. -/
def numText (b : Nat) (a : Int) : List UInt8 := (if a < 0 then [45] else []) ++ (bd b 64 a.natAbs).reverse.map ch

theorem bd_big {b f u : Nat} (h : b ≤ u) : bd b (f + 1) u = u % b :: bd b f (u / b) := by rw [bd, if_neg (by omega)]
theorem bd_small {b f u : Nat} (h : u < b) (hf : u < 2 ^ f) : bd b f u = [u] := by
  rcases f with _ | f
  · have : u = 0 := by simpa using hf
    subst this; rfl
  · rw [bd, if_pos h]
theorem half {b f u : Nat} (hb : 2 ≤ b) (hu : u < 2 ^ (f + 1)) : u / b < 2 ^ f := by
  have h1 : u / b ≤ u / 2 := Nat.div_le_div_left hb (by omega)
  rw [Nat.pow_succ] at hu
  omega
theorem fuel_pos {b f u : Nat} (hb : 2 ≤ b) (h : b ≤ u) (hu : u < 2 ^ f) : ∃ g, f = g + 1 ∧ g ≠ 0 := by
  rcases f with _ | f
  · simp at hu; omega
  · refine ⟨f, rfl, ?_⟩
    rintro rfl
    simp at hu; omega

/-- What the head of a loop that takes digits off knows. -/
structure Digs (b u v f : Nat) (ds : List Nat) : Prop where
  eq : bd b 64 u = ds ++ bd b f v
  fuel : ds.length + f = 64
  lt : v < 2 ^ f
  dig : ∀ d ∈ ds, d < b
  pos : f ≠ 0
theorem Digs.start {b u : Nat} (h : u < 2 ^ 64) : Digs b u u 64 [] := ⟨rfl, rfl, h, by simp, by decide⟩
theorem Digs.next {b u v f : Nat} {ds : List Nat} (h : Digs b u v f ds) (hb : 2 ≤ b) (hv : b ≤ v) : ∃ g, f = g + 1 ∧ g ≠ 0 ∧ Digs b u (v / b) g (ds ++ [v % b]) := by
  obtain ⟨g, rfl, hg⟩ := fuel_pos hb hv h.lt
  refine ⟨g, rfl, hg, ⟨?_, ?_, half hb h.lt, ?_, hg⟩⟩
  · rw [h.eq, bd_big hv]; simp
  · have := h.fuel; simp; omega
  · intro d hd
    rcases List.mem_append.1 hd with h1 | h1
    · exact h.dig d h1
    · have : d = v % b := by simpa using h1
      rw [this]; exact Nat.mod_lt _ (by omega)
theorem Digs.done {b u v f : Nat} {ds : List Nat} (h : Digs b u v f ds) (hv : v < b) : bd b 64 u = ds ++ [v] := by
  rw [h.eq, bd_small hv h.lt]
theorem Digs.room {b u v f : Nat} {ds : List Nat} (h : Digs b u v f ds) (hb : 2 ≤ b) (hv : b ≤ v) : ds.length + 1 ≤ 63 := by
  obtain ⟨g, hg, h0⟩ := fuel_pos hb hv h.lt
  have := h.fuel
  omega
theorem Digs.room0 {b u v f : Nat} {ds : List Nat} (h : Digs b u v f ds) : ds.length ≤ 63 := by have := h.fuel; have := h.pos; omega

end Go.Proofs.YtfjoahbboglgfaaDoor
