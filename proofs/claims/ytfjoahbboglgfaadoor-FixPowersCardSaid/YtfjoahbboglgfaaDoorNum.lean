/- Plain facts on rows of decimal digits, the lowest first: what a row stands for, and how sums, differences and products of rows are reckoned digit by digit. -/
namespace Go.Proofs.YtfjoahbboglgfaaDoor

/-- What a row of digits stands for. -/
def val : List Nat → Nat
  | [] => 0
  | d :: ds => d + 10 * val ds

def Dig (ds : List Nat) : Prop := ∀ d ∈ ds, d < 10
def Canon (ds : List Nat) : Prop := Dig ds ∧ ds.getLast? ≠ some 0

theorem Dig.nil : Dig [] := by intro d h; cases h
theorem Canon.nil : Canon [] := ⟨Dig.nil, by simp⟩
theorem Dig.append {a b : List Nat} (ha : Dig a) (hb : Dig b) : Dig (a ++ b) := by
  intro d hd
  rcases List.mem_append.1 hd with h | h
  · exact ha d h
  · exact hb d h
theorem Dig.one {d : Nat} (h : d < 10) : Dig [d] := by
  intro e he
  have : e = d := by simpa using he
  omega
theorem Dig.take {a : List Nat} (h : Dig a) (k : Nat) : Dig (a.take k) := fun d hd => h d (List.mem_of_mem_take hd)
theorem Dig.drop {a : List Nat} (h : Dig a) (k : Nat) : Dig (a.drop k) := fun d hd => h d (List.mem_of_mem_drop hd)
theorem Dig.getD {a : List Nat} (h : Dig a) (k : Nat) : a.getD k 0 < 10 := by
  rw [List.getD_eq_getElem?_getD]
  rcases Nat.lt_or_ge k a.length with hk | hk
  · rw [List.getElem?_eq_getElem hk]; exact h _ (List.getElem_mem hk)
  · rw [List.getElem?_eq_none hk]; decide

theorem val_append (a b : List Nat) : val (a ++ b) = val a + 10 ^ a.length * val b := by
  induction a with
  | nil => simp [val]
  | cons d ds ih =>
    simp only [List.cons_append, val, ih, List.length_cons, Nat.pow_succ]
    have : 10 * (10 ^ ds.length * val b) = 10 ^ ds.length * 10 * val b := by
      rw [Nat.mul_comm (10 ^ ds.length) 10, Nat.mul_assoc]
    omega

theorem val_snoc (a : List Nat) (d : Nat) : val (a ++ [d]) = val a + 10 ^ a.length * d := by
  rw [val_append]; simp [val]

theorem val_lt {a : List Nat} (h : Dig a) : val a < 10 ^ a.length := by
  induction a with
  | nil => simp [val]
  | cons d ds ih =>
    have h1 := h d (by simp)
    have h2 := ih (fun e he => h e (by simp [he]))
    simp only [val, List.length_cons, Nat.pow_succ]
    omega

theorem take_succ_getD (a : List Nat) (k : Nat) (h : k < a.length) : a.take (k + 1) = a.take k ++ [a.getD k 0] := by
  rw [List.take_succ_eq_append_getElem h, List.getD_eq_getElem?_getD, List.getElem?_eq_getElem h]; rfl

theorem val_take_succ (a : List Nat) (k : Nat) : val (a.take (k + 1)) = val (a.take k) + 10 ^ k * a.getD k 0 := by
  rcases Nat.lt_or_ge k a.length with h | h
  · rw [take_succ_getD a k h, val_snoc, List.length_take, Nat.min_eq_left (by omega)]
  · rw [List.take_of_length_le (by omega), List.take_of_length_le h, List.getD_eq_getElem?_getD, List.getElem?_eq_none h]; simp

theorem val_split (a : List Nat) (k : Nat) (h : k ≤ a.length) : val a = val (a.take k) + 10 ^ k * val (a.drop k) := by
  have := val_append (a.take k) (a.drop k)
  rw [List.take_append_drop, List.length_take, Nat.min_eq_left h] at this
  exact this

theorem val_drop (a : List Nat) (k : Nat) (h : k < a.length) : val (a.drop k) = a.getD k 0 + 10 * val (a.drop (k + 1)) := by
  rw [List.drop_eq_getElem_cons h, List.getD_eq_getElem?_getD, List.getElem?_eq_getElem h]; rfl

theorem canon_low {a : List Nat} (h : Canon a) (hne : a ≠ []) : 10 ^ (a.length - 1) ≤ val a := by
  have hl := List.dropLast_concat_getLast hne
  have h0 : a.getLast hne ≠ 0 := by
    intro e; exact h.2 (by rw [List.getLast?_eq_some_getLast hne, e])
  have hv := val_snoc a.dropLast (a.getLast hne)
  rw [hl, List.length_dropLast] at hv
  rw [hv]
  have : 10 ^ (a.length - 1) * 1 ≤ 10 ^ (a.length - 1) * a.getLast hne := Nat.mul_le_mul_left _ (by omega)
  omega

theorem canon_len {a : List Nat} (h : Canon a) (k : Nat) (hv : val a < 10 ^ k) : a.length ≤ k := by
  rcases Nat.lt_or_ge k a.length with hk | hk
  · have hne : a ≠ [] := by intro e; subst e; simp at hk
    have h1 := canon_low h hne
    have h2 : 10 ^ k ≤ 10 ^ (a.length - 1) := Nat.pow_le_pow_right (by omega) (by omega)
    omega
  · exact hk

theorem canon_zero {a : List Nat} (h : Canon a) : val a = 0 ↔ a = [] := by
  constructor
  · intro hv
    have := canon_len h 0 (by omega)
    exact List.eq_nil_of_length_eq_zero (by omega)
  · rintro rfl; rfl

theorem len_lt {a b : List Nat} (ha : Dig a) (hb : Canon b) (h : a.length < b.length) : val a < val b := by
  have hne : b ≠ [] := by intro e; subst e; simp at h
  have h1 := val_lt ha
  have h2 := canon_low hb hne
  have h3 : 10 ^ a.length ≤ 10 ^ (b.length - 1) := Nat.pow_le_pow_right (by omega) (by omega)
  omega

/-- Two rows of one length whose upper parts agree, and which differ at one digit. -/
theorem digit_lt {a b : List Nat} (ha : Dig a) (_hb : Dig b) (hl : a.length = b.length) {i : Nat} (hi : i < a.length)
    (htop : val (a.drop (i + 1)) = val (b.drop (i + 1))) (hd : a.getD i 0 < b.getD i 0) : val a < val b := by
  have h1 := val_split a i (by omega)
  have h2 := val_split b i (by omega)
  rw [val_drop a i hi, htop] at h1
  rw [val_drop b i (by omega)] at h2
  have h3 : val (a.take i) < 10 ^ i := by
    have := val_lt (ha.take i); rwa [List.length_take, Nat.min_eq_left (by omega)] at this
  have h4 : 10 ^ i * (a.getD i 0 + 10 * val (b.drop (i + 1)) + 1) ≤ 10 ^ i * (b.getD i 0 + 10 * val (b.drop (i + 1))) := Nat.mul_le_mul_left _ (by omega)
  rw [Nat.mul_add, Nat.mul_one] at h4
  omega

theorem val_drop_eq {a b : List Nat} (hl : a.length = b.length) {i : Nat} (hi : i < a.length)
    (htop : val (a.drop (i + 1)) = val (b.drop (i + 1))) (hd : a.getD i 0 = b.getD i 0) : val (a.drop i) = val (b.drop i) := by
  rw [val_drop a i hi, val_drop b i (by omega), htop, hd]

/-- One round of a sum. -/
theorem plus_round {a b out : List Nat} {i c : Nat} (_ha : Dig a) (_hb : Dig b) (hl : out.length = i)
    (h : val out + 10 ^ i * c = val (a.take i) + val (b.take i)) :
    val (out ++ [(a.getD i 0 + b.getD i 0 + c) % 10]) + 10 ^ (i + 1) * ((a.getD i 0 + b.getD i 0 + c) / 10) = val (a.take (i + 1)) + val (b.take (i + 1)) := by
  rw [val_snoc, hl, val_take_succ, val_take_succ, Nat.pow_succ]
  generalize a.getD i 0 = x at *
  generalize b.getD i 0 = y at *
  have e : x + y + c = (x + y + c) % 10 + 10 * ((x + y + c) / 10) := (Nat.mod_add_div _ _).symm
  have e2 : 10 ^ i * (x + y + c) = 10 ^ i * ((x + y + c) % 10) + 10 ^ i * 10 * ((x + y + c) / 10) := by
    conv => lhs; rw [e]
    rw [Nat.mul_add, Nat.mul_assoc]
  rw [Nat.mul_add, Nat.mul_add] at e2
  omega

theorem plus_end {a b out : List Nat} {i : Nat} (ha : a.length ≤ i) (hb : b.length ≤ i) (h : val out + 10 ^ i * 0 = val (a.take i) + val (b.take i)) : val out = val a + val b := by
  rw [List.take_of_length_le ha, List.take_of_length_le hb] at h
  omega

/-- One round of a difference. -/
theorem minus_round {a b out : List Nat} {i c e c' : Nat} (hl : out.length = i)
    (h : val out + val (b.take i) = val (a.take i) + 10 ^ i * c) (he : e + b.getD i 0 + c = a.getD i 0 + 10 * c') :
    val (out ++ [e]) + val (b.take (i + 1)) = val (a.take (i + 1)) + 10 ^ (i + 1) * c' := by
  rw [val_snoc, hl, val_take_succ, val_take_succ, Nat.pow_succ]
  generalize a.getD i 0 = x at *
  generalize b.getD i 0 = y at *
  have e2 : 10 ^ i * (e + y + c) = 10 ^ i * (x + 10 * c') := by rw [he]
  rw [Nat.mul_add, Nat.mul_add, Nat.mul_add, ← Nat.mul_assoc] at e2
  omega

theorem minus_end {a b out : List Nat} {c : Nat} (hd : Dig out) (hl : out.length = a.length) (hb : b.length ≤ a.length) (hle : val b ≤ val a)
    (h : val out + val (b.take a.length) = val (a.take a.length) + 10 ^ a.length * c) : val out = val a - val b := by
  rw [List.take_of_length_le hb, List.take_of_length_le (Nat.le_refl _)] at h
  have h1 := val_lt hd
  rw [hl] at h1
  rcases Nat.eq_zero_or_pos c with hc | hc
  · subst hc; omega
  · have : 10 ^ a.length * 1 ≤ 10 ^ a.length * c := Nat.mul_le_mul_left _ hc
    omega

/-- A zero at the high end stands for nothing. -/
theorem trim_round {a : List Nat} {k : Nat} (h : a.getD k 0 = 0) : val (a.take k) = val (a.take (k + 1)) := by
  rw [val_take_succ, h]; simp

theorem trim_end {a : List Nat} {k : Nat} (hd : Dig a) (hk : k ≤ a.length) (h : ∀ j, k = j + 1 → a.getD j 0 ≠ 0) : Canon (a.take k) := by
  refine ⟨hd.take k, ?_⟩
  rcases k with _ | j
  · simp
  · rw [take_succ_getD a j (by omega)]
    simpa using h j rfl

theorem val_cons_zero (a : List Nat) : val (0 :: a) = 10 * val a := by simp [val]

end Go.Proofs.YtfjoahbboglgfaaDoor
