/- Plain facts on digits and texts of numbers. -/
namespace Go.Proofs.YtjpbbooeihdnfaaDoor

/-- The digits of u to the base b, the lowest first, one or more (f: how many at most). -/
def bd (b : Nat) : Nat → Nat → List Nat
  | 0, _ => [0]
  | f + 1, u => if u < b then [u] else u % b :: bd b f (u / b)
/-- A digit's byte. -/
def ch (d : Nat) : UInt8 := if d < 10 then UInt8.ofNat (48 + d) else UInt8.ofNat (87 + d)
/-- A number's text. -/
def numText (b : Nat) (a : Int) : List UInt8 := (if a < 0 then [45] else []) ++ (bd b 64 a.natAbs).reverse.map ch

theorem bd_big {b f u : Nat} (h : b ≤ u) : bd b (f + 1) u = u % b :: bd b f (u / b) := by rw [bd, if_neg (by omega)]
theorem bd_small {b f u : Nat} (h : u < b) (hf : u < 2 ^ f) : bd b f u = [u] := by
  rcases f with _ | f
  · have : u = 0 := by simpa using hf
    subst this; rfl
  · rw [bd, if_pos h]
theorem half {b f u : Nat} (hb : 2 ≤ b) (hu : u < 2 ^ (f + 1)) : u / b < 2 ^ f := by
  have h1 : u / b ≤ u / 2 := Nat.div_le_div_left hb (by omega)
  rw [Nat.pow_succ] at hu
  omega
theorem fuel_pos {b f u : Nat} (hb : 2 ≤ b) (h : b ≤ u) (hu : u < 2 ^ f) : ∃ g, f = g + 1 ∧ g ≠ 0 := by
  rcases f with _ | f
  · simp at hu; omega
  · refine ⟨f, rfl, ?_⟩
    rintro rfl
    simp at hu; omega

/-- What the head of a loop that takes digits off knows. -/
structure Digs (b u v f : Nat) (ds : List Nat) : Prop where
  eq : bd b 64 u = ds ++ bd b f v
  fuel : ds.length + f = 64
  lt : v < 2 ^ f
  dig : ∀ d ∈ ds, d < b
  pos : f ≠ 0
theorem Digs.start {b u : Nat} (h : u < 2 ^ 64) : Digs b u u 64 [] := ⟨rfl, rfl, h, by simp, by decide⟩
theorem Digs.next {b u v f : Nat} {ds : List Nat} (h : Digs b u v f ds) (hb : 2 ≤ b) (hv : b ≤ v) : ∃ g, f = g + 1 ∧ g ≠ 0 ∧ Digs b u (v / b) g (ds ++ [v % b]) := by
  obtain ⟨g, rfl, hg⟩ := fuel_pos hb hv h.lt
  refine ⟨g, rfl, hg, ⟨?_, ?_, half hb h.lt, ?_, hg⟩⟩
  · rw [h.eq, bd_big hv]; simp
  · have := h.fuel; simp; omega
  · intro d hd
    rcases List.mem_append.1 hd with h1 | h1
    · exact h.dig d h1
    · have : d = v % b := by simpa using h1
      rw [this]; exact Nat.mod_lt _ (by omega)
theorem Digs.done {b u v f : Nat} {ds : List Nat} (h : Digs b u v f ds) (hv : v < b) : bd b 64 u = ds ++ [v] := by
  rw [h.eq, bd_small hv h.lt]
theorem Digs.room {b u v f : Nat} {ds : List Nat} (h : Digs b u v f ds) (hb : 2 ≤ b) (hv : b ≤ v) : ds.length + 1 ≤ 63 := by
  obtain ⟨g, hg, h0⟩ := fuel_pos hb hv h.lt
  have := h.fuel
  omega
theorem Digs.room0 {b u v f : Nat} {ds : List Nat} (h : Digs b u v f ds) : ds.length ≤ 63 := by have := h.fuel; have := h.pos; omega


/-- What a byte stands for; 99: it is no digit. -/
def dgN (c : Nat) : Nat := if 48 ≤ c ∧ c ≤ 57 then c - 48 else if 97 ≤ c ∧ c ≤ 102 then c - 87 else if 65 ≤ c ∧ c ≤ 70 then c - 55 else 99
def dgC (c : UInt8) : Nat := dgN c.toNat
def chG (d : Nat) : UInt8 := if d < 10 then UInt8.ofNat (48 + d) else UInt8.ofNat (55 + d)
theorem dg_all : ∀ c, c < 256 → ∀ k, k < 16 → (dgN c = k ↔ (c = (ch k).toNat ∨ c = (chG k).toNat)) := by decide +kernel
theorem dg_ch : ∀ k, k < 16 → dgN (ch k).toNat = k := by decide +kernel
theorem ch_not : ∀ k, k < 16 → (ch k).toNat ≠ 45 ∧ (ch k).toNat ≠ 43 := by decide +kernel

/-- The value of digits' bytes, the highest first. -/
def valT (b : Nat) (l : List UInt8) : Nat := l.foldl (fun v c => v * b + dgC c) 0
def okT (b : Nat) (l : List UInt8) : Bool := l.all fun c => decide (dgC c < b)
theorem valT_snoc (b : Nat) (l : List UInt8) (c : UInt8) : valT b (l ++ [c]) = valT b l * b + dgC c := by unfold valT; rw [List.foldl_append]; rfl
theorem okT_snoc (b : Nat) (l : List UInt8) (c : UInt8) : okT b (l ++ [c]) = (okT b l && decide (dgC c < b)) := by unfold okT; simp

/-- A text's sign and what is behind it. -/
def cutG : List UInt8 → Int
  | 45 :: _ => -1
  | _ => 1
def cutR : List UInt8 → List UInt8
  | 45 :: t => t
  | 43 :: t => t
  | l => l

/-- The value of a number's own digits. -/
theorem valT_digits (b : Nat) (hb : b ≤ 16) : ∀ (f u : Nat), u < 2 ^ f → 2 ≤ b → okT b ((bd b f u).reverse.map ch) = true ∧ valT b ((bd b f u).reverse.map ch) = u
  | 0, u, h, h2 => by
    have : u = 0 := by simpa using h
    subst this
    have h0 : dgC (ch 0) = 0 := by decide
    refine ⟨?_, ?_⟩
    · simp [bd, okT, h0]; omega
    · simp [bd, valT, h0]
  | f + 1, u, h, h2 => by
    by_cases hu : u < b
    · rw [bd_small hu h]
      have hc : dgC (ch u) = u := dg_ch u (by omega)
      simp [okT, valT, hc, hu]
    · obtain ⟨h3, h4⟩ := valT_digits b hb f (u / b) (half h2 h) h2
      have hm : u % b < b := Nat.mod_lt _ (by omega)
      have hc : dgC (ch (u % b)) = u % b := dg_ch _ (by omega)
      rw [bd_big (by omega), List.reverse_cons, List.map_append, List.map_cons, List.map_nil, valT_snoc, okT_snoc, h3, h4, hc]
      refine ⟨by simpa using hm, ?_⟩
      rw [Nat.mul_comm]
      exact Nat.div_add_mod u b

theorem bd_ne (b f u : Nat) : bd b f u ≠ [] := by
  rcases f with _ | f
  · simp [bd]
  · rw [bd]; split <;> simp
theorem bd_dig (b : Nat) (hb : 2 ≤ b) : ∀ (f u : Nat), ∀ d ∈ bd b f u, d < b
  | 0, u, d, h => by
    have : d = 0 := by simpa [bd] using h
    omega
  | f + 1, u, d, h => by
    rw [bd] at h
    split at h
    · have : d = u := by simpa using h
      omega
    · rcases List.mem_cons.1 h with rfl | h1
      · exact Nat.mod_lt _ (by omega)
      · exact bd_dig b hb f _ d h1
theorem bd_len (b : Nat) : ∀ (f u : Nat), (bd b f u).length ≤ f + 1
  | 0, u => by simp [bd]
  | f + 1, u => by
    rw [bd]
    split
    · simp
    · have := bd_len b f (u / b); simp; omega
end Go.Proofs.YtjpbbooeihdnfaaDoor
