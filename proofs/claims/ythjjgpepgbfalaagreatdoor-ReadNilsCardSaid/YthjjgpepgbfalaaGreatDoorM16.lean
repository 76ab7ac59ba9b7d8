/- Texts RdK to RdE of this seat, laid into one. -/
import Derived.Shelf.Abstract
import Derived.Test.YthjjgpepgbfalaaGreatDoorM03
import Derived.Test.YthjjgpepgbfalaaGreatDoorM09
import Derived.Test.YthjjgpepgbfalaaGreatDoorM14
import Derived.Test.YthjjgpepgbfalaaGreatDoorM15
set_option linter.unusedVariables false
set_option linter.unusedSimpArgs false
set_option linter.constructorNameAsVariable false
section
/-! Tokens that were scanned: their sizes and places. -/
set_option linter.unusedVariables false
set_option linter.unusedSimpArgs false
namespace Go.Proofs.YthjjgpepgbfalaaGreatDoor.Lx

theorem unq_le : ∀ (f : Nat) (l : List UInt8) (i : Nat) (s : List UInt8), unq f l i = .ok s → s.length ≤ l.length
  | 0, l, i, s, h => by injection h with h; subst h; simp
  | f + 1, [], i, s, h => by injection h with h; subst h; simp
  | f + 1, c :: t, i, s, h => by
    have h1 : (if (if c = 92 then esc (c :: t) else (c.toNat, 1)).2 = 0 ∨ 128 ≤ (if c = 92 then esc (c :: t) else (c.toNat, 1)).1 then .error i else
      match unq f ((c :: t).drop (if c = 92 then esc (c :: t) else (c.toNat, 1)).2) (i + (if c = 92 then esc (c :: t) else (c.toNat, 1)).2) with
      | .ok l => .ok (UInt8.ofNat (if c = 92 then esc (c :: t) else (c.toNat, 1)).1 :: l)
      | .error j => .error j) = (Except.ok s : Except Nat (List UInt8)) := h
    clear h
    generalize (if c = 92 then esc (c :: t) else (c.toNat, 1)) = r at h1
    by_cases hb : r.2 = 0 ∨ 128 ≤ r.1
    · rw [if_pos hb] at h1; cases h1
    · rw [if_neg hb] at h1
      cases hu : unq f ((c :: t).drop r.2) (i + r.2) with
      | error j => rw [hu] at h1; cases h1
      | ok s' =>
        rw [hu] at h1
        injection h1 with h1
        subst h1
        have ih := unq_le f _ _ _ hu
        have h0 : r.2 ≠ 0 := fun e => hb (.inl e)
        rw [List.length_drop] at ih
        simp at ih ⊢
        omega
theorem word_s (W : List UInt8) : (wordM W).1.s.length ≤ W.length := by
  unfold wordM
  split
  · simp
  · split
    · simp
    · split
      · simp
      · split
        · simp
        · split
          · simp
          · split <;> simp
theorem step_s {L : List UInt8} {t : Tk} {m : Nat} {b : Bool} (h : stepM L = .tok t m b) : t.s.length ≤ L.length := by
  cases hq : L with
  | nil => rw [hq] at h; cases h
  | cons c A =>
    have hp : ∀ k, passM L k ≠ .tok t m b := fun k e => by
      unfold passM at e
      split at e
      · cases e
      · split at e <;> cases e
    rw [← hq]
    unfold stepM at h
    rw [hq] at h
    simp only at h
    rw [← hq] at h
    split at h
    · exact absurd h (hp _)
    · split at h
      · exact absurd h (hp _)
      · split at h
        · exact absurd h (hp _)
        · split at h
          · unfold quotM at h
            split at h
            · cases h
            · cases hu : unq (qsz L) ((L.take (qsz L - 1)).drop 1) 0 with
              | error j => rw [hu] at h; cases h
              | ok s =>
                rw [hu] at h
                injection h with h1
                subst h1
                have := unq_le _ _ _ _ hu
                rw [List.length_drop, List.length_take] at this
                show s.length ≤ _
                omega
          · cases hm : markO L with
            | some k =>
              rw [hm] at h
              injection h with h1
              subst h1; simp
            | none =>
              rw [hm] at h
              simp only at h
              cases hl : labO L with
              | some q =>
                obtain ⟨k, n, z⟩ := q
                rw [hl] at h
                injection h with h1
                subst h1; simp
              | none =>
                rw [hl] at h
                simp only at h
                unfold wrdM at h
                split at h
                · cases h
                · split at h
                  · cases h
                  · injection h with h1
                    subst h1
                    have := word_s (L.take (wsz L))
                    rw [List.length_take] at this
                    omega
theorem scan_s : ∀ (f : Nat) (L : List UInt8) (a : Nat) (tight : Bool) (l0 l : List (Tk × Nat)) (n : Nat) (e : Int), (∀ x ∈ l0, x.1.s.length ≤ L.length) → scanM L f a tight l0 = (some l, n, e) → ∀ x ∈ l, x.1.s.length ≤ L.length := by
  intro f
  induction f with
  | zero => intro L a tight l0 l n e h0 h; injection h with h1 _; injection h1 with h1; subst h1; exact h0
  | succ f ih =>
    intro L a tight l0 l n e h0 h
    by_cases hlt : a < L.length
    · rw [scanM_succ _ _ _ _ _ hlt] at h
      generalize (!tight || parts (L.getD a 0)) = ap at h
      cases hst : stepM (L.drop a) with
      | err i y =>
        rw [hst] at h
        cases ap with
        | true => rw [s_err] at h; cases h
        | false =>
          by_cases hi : 0 < i
          · rw [s_err1 _ _ _ _ _ _ hi] at h; cases h
          · rw [s_err2 _ _ _ _ _ _ hi] at h; cases h
      | pass m =>
        rw [hst] at h
        cases ap with
        | true => rw [s_pass] at h; exact ih _ _ _ _ _ _ _ h0 h
        | false => rw [s_pass0] at h; cases h
      | tok t m b =>
        rw [hst] at h
        cases ap with
        | true =>
          rw [s_tok] at h
          refine ih _ _ _ _ _ _ _ (fun x hx => ?_) h
          rcases List.mem_append.1 hx with hx | hx
          · exact h0 x hx
          · rw [List.mem_singleton.1 hx]
            have := step_s hst
            rw [List.length_drop] at this
            show t.s.length ≤ _; omega
        | false => rw [s_tok0] at h; cases h
    · rw [scan_end _ _ _ _ _ (by omega)] at h; injection h with h1 _; injection h1 with h1; subst h1; exact h0
theorem scanT_s {L : List UInt8} {l : List (Tk × Nat)} {n : Nat} {e : Int} (h : scanT L = (some l, n, e)) : L.length ≤ 4096 ∧ ∀ x ∈ l, x.1.s.length ≤ L.length := by
  unfold scanT at h
  split at h
  · cases h
  · exact ⟨by omega, scan_s _ _ _ _ _ _ _ _ (fun x hx => by cases hx) h⟩
theorem Rise.mem {n : Nat} : ∀ {l : List (Tk × Nat)} {a : Nat}, Rise a n l → ∀ x ∈ l, x.2 < n
  | [], _, _, x, hx => by cases hx
  | (t, p) :: l, a, ⟨h1, h2, h3⟩, x, hx => by
    rcases List.mem_cons.1 hx with rfl | hx
    · exact h2
    · exact Rise.mem h3 x hx
theorem Rise.len {n : Nat} : ∀ {l : List (Tk × Nat)} {a : Nat}, Rise a n l → a ≤ n → a + l.length ≤ n
  | [], _, _, h => by simpa using h
  | (t, p) :: l, a, ⟨h1, h2, h3⟩, h => by
    have := Rise.len h3 (by omega)
    simp; omega
theorem gd_ok {t : Tk} (h : Gd t) : t.k ≤ 16 ∧ I64 t.n := by
  cases h with
  | mark k h => exact ⟨by show k ≤ 16; omega, (by unfold I64; decide : I64 0)⟩
  | dot => exact ⟨by show 9 ≤ 16; decide, (by unfold I64; decide : I64 0)⟩
  | int n h => exact ⟨by show 10 ≤ 16; decide, h⟩
  | bool b h => exact ⟨by show 11 ≤ 16; decide, by show I64 b; unfold I64; omega⟩
  | char n h => exact ⟨by show 12 ≤ 16; decide, by show I64 (n : Int); unfold I64; omega⟩
  | str s h => exact ⟨by show 13 ≤ 16; decide, (by unfold I64; decide : I64 0)⟩
  | sym s h => exact ⟨by show 14 ≤ 16; decide, (by unfold I64; decide : I64 0)⟩
  | lab n h => exact ⟨by show 15 ≤ 16; decide, by show I64 (n : Int); unfold I64; omega⟩
  | again n h => exact ⟨by show 16 ≤ 16; decide, by show I64 (n : Int); unfold I64; omega⟩
end Go.Proofs.YthjjgpepgbfalaaGreatDoor.Lx
namespace Go.Proofs.YthjjgpepgbfalaaGreatDoor
/-- Tokens that were scanned. -/
theorem scan_toks {L : List UInt8} {l : List (Lx.Tk × Nat)} {n : Nat} {e : Int} (h : Lx.scanT L = (some l, n, e)) : L.length ≤ 4096 ∧ l.length ≤ L.length ∧ ∀ x ∈ l, TkOk x.1 ∧ x.2 ≤ 100000 := by
  obtain ⟨h1, h2⟩ := Lx.scanT_s h
  obtain ⟨h3, -⟩ := Lx.scanT_ok h
  have h4 := h3.len (Nat.zero_le _)
  refine ⟨h1, by omega, fun x hx => ⟨⟨(Lx.gd_ok (Lx.scanT_gd h x hx)).1, (Lx.gd_ok (Lx.scanT_gd h x hx)).2, by have := h2 x hx; omega⟩, by have := h3.mem x hx; omega⟩⟩
end Go.Proofs.YthjjgpepgbfalaaGreatDoor
end
section
/-! parse. -/
set_option maxRecDepth 20000
set_option linter.unusedSimpArgs false
set_option linter.unusedVariables false
namespace Go.Proofs.YthjjgpepgbfalaaGreatDoor
open Go.RowKit

def ps0 (l : List (Lx.Tk × Nat)) : Ps := ⟨l, fun _ => none, 0, 0, [nd0]⟩
/-- The nodes of a text; or the first fault, and where that is. -/
def parseT (L : List UInt8) : Option (List Nd) × Nat × Int := match Lx.scanT L with
  | (none, n, x) => (none, n, x)
  | (some l, _, _) => match topM L.length (5 * l.length + 3) (ps0 l) with
    | none => (none, 0, 0)
    | some σ => if σ.e ≠ 0 then (none, σ.pl, σ.e) else (some σ.A, L.length, 0)
/-- What parse tells. -/
def ParseR (w w' : World) (r : Option (List Nd) × Nat × Int) (e : Ending) : Prop := Below w.heap.size w w' ∧ match r with
  | (some A, n, _) => ∃ b S V, e = .returned (.tuple #[.pointer (some ⟨b, 0, none⟩), .int .i64 (n : Int), .int .i64 0]) ∧ S 0 = b ∧ Nds w' S V A ∧ 0 < A.length ∧ A.length ≤ 20000 ∧ ∀ k, footN S V A.length k → w.heap.size ≤ k
  | (none, n, x) => e = .returned (.tuple #[.pointer none, .int .i64 (n : Int), .int .i64 x]) ∧ x ≠ 0
theorem topM_some {sz f : Nat} {σ σr : Ps} (h : topM sz f σ = some σr) : ∃ g b σ1, f = g + 1 ∧ skipsM sz g 0 σ = some (b, σ1) ∧ (b = false → σr = σ1) ∧ (b = true → (σ1.ts = [] ∧ σr = σ1) ∨ (σ1.ts ≠ [] ∧ ∃ b2 σ2, datumM sz g 0 0 σ1 = some (b2, σ2) ∧ (b2 = false → σr = σ2) ∧ (b2 = true → topM sz g σ2 = some σr))) := by
  cases f with
  | zero => rw [topM] at h; cases h
  | succ f =>
    rw [topM] at h
    cases hS : skipsM sz f 0 σ with
    | none => rw [hS] at h; cases h
    | some q =>
      obtain ⟨b, σ1⟩ := q
      rw [hS] at h
      refine ⟨f, b, σ1, rfl, hS, fun e => ?_, fun e => ?_⟩
      · subst e; exact (Option.some.inj h).symm
      · subst e
        have h1 : (if σ1.ts = [] then some σ1 else match datumM sz f 0 0 σ1 with
          | none => none
          | some (false, σ2) => some σ2
          | some (true, σ2) => topM sz f σ2) = some σr := h
        by_cases hn : σ1.ts = []
        · rw [if_pos hn] at h1
          exact .inl ⟨hn, (Option.some.inj h1).symm⟩
        · rw [if_neg hn] at h1
          refine .inr ⟨hn, ?_⟩
          cases hD : datumM sz f 0 0 σ1 with
          | none => rw [hD] at h1; cases h1
          | some q2 =>
            obtain ⟨b2, σ2⟩ := q2
            rw [hD] at h1
            refine ⟨b2, σ2, rfl, fun e => ?_, fun e => ?_⟩
            · subst e; exact (Option.some.inj h1).symm
            · subst e; exact h1
/-- Amid parse: with so many steps left. -/
def TpJ (p sz tb f : Nat) (S : Nat → Nat) (V : Nat → Value) (lb n : Nat) (w : World) (σr : Ps) (wr : World) (g : Nat) : Prop := g ≤ f ∧ ∃ σ1, MidX p sz tb 0 S V lb n w σ1 wr ∧ topM sz g σ1 = some σr
theorem tkL_get : ∀ (l : List (Lx.Tk × Nat)) (i : Nat), i < l.length → (Lx.tkL l)[i * 4]? = some (.int .i64 ((l.getD i tk0).1.k : Int)) ∧ (Lx.tkL l)[i * 4 + 1]? = some (.int .i64 (l.getD i tk0).1.n) ∧ (Lx.tkL l)[i * 4 + 2]? = some (.string ⟨(l.getD i tk0).1.s.toArray⟩) ∧ (Lx.tkL l)[i * 4 + 3]? = some (.int .i64 ((l.getD i tk0).2 : Int))
  | [], i, h => by simp at h
  | (t, a) :: l, 0, h => ⟨rfl, rfl, rfl, rfl⟩
  | (t, a) :: l, i + 1, h => by
    have ih := tkL_get l i (by simpa using h)
    have e : ∀ j, (Lx.tkL ((t, a) :: l))[(i + 1) * 4 + j]? = (Lx.tkL l)[i * 4 + j]? := fun j => by
      show ((Lx.tkC t (a : Int)).toList ++ Lx.tkL l)[(i + 1) * 4 + j]? = _
      rw [List.getElem?_append_right (by simp [Lx.tkC]; omega)]
      congr 1
      simp [Lx.tkC]; omega
    have e0 := e 0
    rw [Nat.add_zero, Nat.add_zero] at e0
    rw [e0, e 1, e 2, e 3]
    exact ih
theorem pass_fault {L : List UInt8} {n i : Nat} {e : Int} (h : Lx.passM L n = .err i e) : e ≠ 0 := by
  unfold Lx.passM at h
  split at h
  · injection h with _ h; omega
  · split at h
    · injection h with _ h; omega
    · cases h
theorem step_fault {L : List UInt8} {i : Nat} {e : Int} (h : Lx.stepM L = .err i e) : e ≠ 0 := by
  unfold Lx.stepM at h
  split at h
  · injection h with _ h; omega
  · split at h
    · exact pass_fault h
    · split at h
      · exact pass_fault h
      · split at h
        · exact pass_fault h
        · split at h
          · unfold Lx.quotM at h
            split at h
            · injection h with _ h; omega
            · split at h
              · injection h with _ h; omega
              · cases h
          · split at h
            · cases h
            · split at h
              · cases h
              · unfold Lx.wrdM at h
                split at h
                · rename_i hne
                  injection h with _ h
                  rw [← h]; exact hne
                · split at h
                  · injection h with _ h; omega
                  · cases h
theorem scanM_fault : ∀ (f : Nat) (L : List UInt8) (a : Nat) (tight : Bool) (l0 : List (Lx.Tk × Nat)) (n : Nat) (e : Int), Lx.scanM L f a tight l0 = (none, n, e) → e ≠ 0 := by
  intro f
  induction f with
  | zero => intro L a tight l0 n e h; cases h
  | succ f ih =>
    intro L a tight l0 n e h
    by_cases hlt : a < L.length
    · rw [Lx.scanM_succ _ _ _ _ _ hlt] at h
      generalize (!tight || Lx.parts (L.getD a 0)) = ap at h
      cases hst : Lx.stepM (L.drop a) with
      | err i y =>
        rw [hst] at h
        cases ap with
        | true =>
          rw [Lx.s_err] at h
          injection h with _ h
          injection h with _ h
          rw [← h]; exact step_fault hst
        | false =>
          by_cases hi : 0 < i
          · rw [Lx.s_err1 _ _ _ _ _ _ hi] at h
            injection h with _ h
            injection h with _ h
            omega
          · rw [Lx.s_err2 _ _ _ _ _ _ hi] at h
            injection h with _ h
            injection h with _ h
            rw [← h]; exact step_fault hst
      | pass m =>
        rw [hst] at h
        cases ap with
        | true => rw [Lx.s_pass] at h; exact ih _ _ _ _ _ _ h
        | false =>
          rw [Lx.s_pass0] at h
          injection h with _ h
          injection h with _ h
          omega
      | tok t m b =>
        rw [hst] at h
        cases ap with
        | true => rw [Lx.s_tok] at h; exact ih _ _ _ _ _ _ h
        | false =>
          rw [Lx.s_tok0] at h
          injection h with _ h
          injection h with _ h
          omega
    · rw [Lx.scan_end _ _ _ _ _ (by omega)] at h; cases h
theorem scan_fault {L : List UInt8} {n : Nat} {x : Int} (h : Lx.scanT L = (none, n, x)) : x ≠ 0 := by
  unfold Lx.scanT at h
  split at h
  · injection h with _ h
    injection h with _ h
    omega
  · exact scanM_fault _ _ _ _ _ _ _ h
/-- What the tokens' row is for the parser. -/
theorem toks_own {w : World} {B : Nat} {v : Value} {l : List (Lx.Tk × Nat)} (h : w.ownsRow B 71 4 v l.length (Lx.tkL l)) : ∃ tb, Toks w tb v l := by
  rcases h.2 with ⟨hv, h0⟩ | ⟨g, cap, cur, hv, hB, hg, hr⟩
  · obtain rfl := List.eq_nil_of_length_eq_zero h0
    exact ⟨0, none, 0, hv, Nat.le_refl _, fun e => absurd rfl e⟩
  · subst hv
    have hc : ∀ k, k < l.length * 4 → w.cell? ⟨g, k, none⟩ = (Lx.tkL l)[k]? := fun k hk => h.cellAt k hk
    refine ⟨g, some ⟨g, 0, none⟩, cap, rfl, own_cap h, fun _ => ⟨⟨_, _, hg⟩, 0, rfl, fun i hi => ?_⟩⟩
    obtain ⟨e0, e1, e2, e3⟩ := tkL_get l i hi
    rw [Nat.zero_add]
    exact ⟨(hc _ (by omega)).trans e0, (hc _ (by omega)).trans e1, (hc _ (by omega)).trans e2, (hc _ (by omega)).trans e3⟩
theorem MidX.toks {p sz tb dp lb n : Nat} {S : Nat → Nat} {V : Nat → Value} {w w1 : World} {σ1 : Ps} (hm : MidX p sz tb dp S V lb n w σ1 w1) : (∃ q c, w1.cell? ⟨p, 0, none⟩ = some (.slice q σ1.ts.length c)) ∧ σ1.ts.length ≤ 20000 ∧ w1.cell? ⟨p, 4, none⟩ = some (.int .i64 (σ1.pl : Int)) ∧ w1.cell? ⟨p, 5, none⟩ = some (.int .i64 σ1.e) := by
  obtain ⟨S1, V1, lb1, hm⟩ := hm
  obtain ⟨v, ⟨q, c, e, -⟩, ⟨c0, -⟩, ⟨-, c4, c5⟩, -⟩ := hm.pm.cells
  have := hm.pm.room
  rw [e] at c0
  exact ⟨⟨q, c, c0⟩, by omega, c4, c5⟩
/-- The parser as it begins. -/
theorem pm_start {w1 : World} {v : Value} {tb sz : Nat} {l : List (Lx.Tk × Nat)} (hv : Toks w1 tb v l) (hl : l.length ≤ 5000) (hs : sz ≤ 5000) (hk : ∀ x ∈ l, TkOk x.1 ∧ x.2 ≤ 100000) :
    Pm (((w1.alloc (.map #[] 0)).alloc (.cells #[v, .int .i64 (sz : Int), .map (some w1.heap.size), .int .i64 0, .int .i64 0, .int .i64 0] 111)).alloc (.cells #[.int .i64 0, .int .i64 0, .string ⟨#[]⟩, .int .i64 0, .slice none 0 0, .bool false, .pointer none, .int .i64 0, .int .i64 0] 74))
      (w1.heap.size + 1) sz tb 0 (fun _ => w1.heap.size + 2) (fun _ => .slice none 0 0) w1.heap.size (ps0 l) := by
  have hm : GMap 3 I64 intV (ptrN (fun _ => w1.heap.size + 2)) (w1.alloc (.map #[] 0)) w1.heap.size 0 (fun _ => none) := GMap.made w1
  have hb2 := alloc_below (w1.alloc (.map #[] 0)) (.cells #[v, .int .i64 (sz : Int), .map (some w1.heap.size), .int .i64 0, .int .i64 0, .int .i64 0] 111)
  have hp := heap_alloc_new (w1.alloc (.map #[] 0)) (.cells #[v, .int .i64 (sz : Int), .map (some w1.heap.size), .int .i64 0, .int .i64 0, .int .i64 0] 111)
  rw [World.size_alloc] at hp
  have hs2 : ((w1.alloc (.map #[] 0)).alloc (.cells #[v, .int .i64 (sz : Int), .map (some w1.heap.size), .int .i64 0, .int .i64 0, .int .i64 0] 111)).heap.size = w1.heap.size + 2 := by simp
  have hv2 := (hv.below (alloc_below w1 (.map #[] 0))).below hb2
  have hm2 := hm.below hb2
  generalize (w1.alloc (.map #[] 0)).alloc (.cells #[v, .int .i64 (sz : Int), .map (some w1.heap.size), .int .i64 0, .int .i64 0, .int .i64 0] 111) = w2 at *
  have hb3 := alloc_below w2 (.cells #[.int .i64 0, .int .i64 0, .string ⟨#[]⟩, .int .i64 0, .slice none 0 0, .bool false, .pointer none, .int .i64 0, .int .i64 0] 74)
  have hn := heap_alloc_new w2 (.cells #[.int .i64 0, .int .i64 0, .string ⟨#[]⟩, .int .i64 0, .slice none 0 0, .bool false, .pointer none, .int .i64 0, .int .i64 0] 74)
  rw [hs2] at hn
  have hp3 := (hb3.block _ (lt_of_block hp)).trans hp
  have h1 : (ps0 l).A = [nd0] := rfl
  have hnd : ∀ i, i < 1 → ndAt [nd0] i = nd0 := fun i hi => by
    obtain rfl : i = 0 := by omega
    rfl
  refine ⟨⟨v, hp3, hv2.below hb3⟩, (hm2.below hb3).more (Nat.zero_le _), ?_, fun x j hj => (by cases hj), hk, Nat.zero_le _, ?_, by omega, Nat.zero_le _⟩
  · rw [h1]
    refine ⟨fun i hi => ?_, fun i hi => ?_, fun i j hi hj _ => ?_, fun i j k hi hj e => ?_, fun i hi => ?_, fun i hi => ?_, fun i hi => ?_⟩
    · rw [hnd i hi, ndC0]; exact hn
    · rw [hnd i hi]; exact World.ownsRow_nil _ _ _ _
    · simp at hi hj; omega
    · simp [Value.ownBlock] at e
    · rw [hnd i hi]
      refine ⟨fun j hj => ?_, fun j hj => ?_⟩
      · cases hj
      · cases hj
    · rw [hnd i hi]; exact Nat.zero_le _
    · rw [hnd i hi]; exact ⟨TkOk.zero, Nat.zero_le _, (by unfold I64; decide : I64 0), (by unfold I64; decide : I64 0)⟩
  · show 1 + 2 * l.length ≤ 20000
    omega
/-- Behind the loop. -/
theorem parse_end {w w1 w4 wr : World} {sz tb : Nat} {σr : Ps} (hb1 : Below w.heap.size w w4) (h4 : w.heap.size ≤ w1.heap.size) (hm : MidX (w1.heap.size + 1) sz tb 0 (fun _ => w1.heap.size + 2) (fun _ => .slice none 0 0) w1.heap.size 1 w4 σr wr) (hsz : w1.heap.size + 3 ≤ w4.heap.size) :
    Below w.heap.size w wr ∧ ∃ b S V, b = w1.heap.size + 2 ∧ S 0 = b ∧ Nds wr S V σr.A ∧ 0 < σr.A.length ∧ σr.A.length ≤ 20000 ∧ ∀ k, footN S V σr.A.length k → w.heap.size ≤ k := by
  obtain ⟨S1, V1, lb1, hm⟩ := hm
  have hF : ∀ k, footM (w1.heap.size + 1) (fun _ => w1.heap.size + 2) (fun _ => .slice none 0 0) w1.heap.size 1 k → w.heap.size ≤ k := by
    rintro k (e | e | ⟨i, hi, e | e⟩)
    · omega
    · omega
    · have : k = w1.heap.size + 2 := e
      omega
    · simp [Value.ownBlock] at e
  have hroom := hm.pm.room
  have hl := hm.len
  refine ⟨hm.chp.below hb1 hb1.size hF, w1.heap.size + 2, S1, V1, rfl, hm.sx 0 (by omega), hm.pm.nds, by omega, by omega, fun k hk => hm.chp.high hb1.size hF k (.inr (.inr hk))⟩
theorem buildPs (q : Option Addr) (n c m : Nat) (x : Int) (w : World) : (Instr.build 111 #[(0, .slice q n c), (1, .int .i64 x), (2, .map (some m))]).run Tryz.prog w = .ok (.agg #[.slice q n c, .int .i64 x, .map (some m), .int .i64 0, .int .i64 0, .int .i64 0]) w := run_build w _ _ _ (by kernel_rfl)
set_option maxHeartbeats 6400000 in
theorem parse_any (T : ByteArray) (w : World) (hE : Lx.Env w) (hS : T.size ≤ 9223372036854775807) : Calls Tryz.prog 24 #[.string T] w fun e w' => ParseR w w' (parseT (Lx.tl T)) e := by
  have HSC := Lib.hid (Lx.scan_any T w hE hS)
  obtain ⟨R, hR⟩ : ∃ R, parseT (Lx.tl T) = R := ⟨_, rfl⟩
  rw [hR]
  unfold parseT at hR
  have htl : (Lx.tl T).length = T.size := Lx.tl_len T
  rw [htl] at hR
  cases hs : Lx.scanT (Lx.tl T) with
  | mk o q =>
    obtain ⟨n, x⟩ := q
    rw [hs] at hR HSC
    cases o with
    | none =>
      have hR2 : (none, n, x) = R := hR
      subst hR2
      have hx : x ≠ 0 := scan_fault hs
      have hbx : (x != 0) = true := by simpa using hx
      have HX := Lib.hid hx
      have HSN : Hid (Calls Tryz.prog 41 #[.string T] w fun e w' => e = .returned (.tuple #[.slice none 0 0, .int .i64 (n : Int), .int .i64 x]) ∧ Below w.heap.size w w') := Lib.hid (HSC.out.mono fun e w' h => ⟨h.2, h.1⟩)
      clear hR hs hE hS htl hx HSC
      go_enter Tryz.func24, Tryz.ntmps24
      go_wp2_with (go_at_call 41; with_reducible refine HSN.out.mono ?_; rintro e w1 ⟨rfl, hb1⟩)
      go_ret3
      exact ⟨hb1, rfl, HX.out⟩
    | some l =>
      obtain ⟨hL, hll, hk⟩ := scan_toks hs
      rw [htl] at hL hll
      obtain ⟨σr, hT, -⟩ := enoughTop T.size (5 * l.length + 3) (ps0 l) (Nat.le_refl _)
      have hR2 : (match topM T.size (5 * l.length + 3) (ps0 l) with
        | none => (none, 0, 0)
        | some σ => if σ.e ≠ 0 then (none, σ.pl, σ.e) else (some σ.A, T.size, 0)) = R := hR
      rw [hT] at hR2
      have hR3 : (if σr.e ≠ 0 then (none, σr.pl, σr.e) else (some σr.A, T.size, 0)) = R := hR2
      have HK := Lib.hid hk
      have HT := Lib.hid hT
      have HLL := Lib.hid (show l.length ≤ 5000 by omega)
      have HTS := Lib.hid (show T.size ≤ 5000 by omega)
      have HR := Lib.hid hR3
      have hTI : (T.size : Int) ≤ 5000 := by omega
      have hmm := @run_makeMap Tryz.prog
      have HSS : Hid (Calls Tryz.prog 41 #[.string T] w fun e w' => ∃ v, e = .returned (.tuple #[v, .int .i64 (n : Int), .int .i64 0]) ∧ Hid (w'.ownsRow w.heap.size 71 4 v l.length (Lx.tkL l) ∧ Below w.heap.size w w')) := Lib.hid (HSC.out.mono fun e w' h => by obtain ⟨v, h1, h2⟩ := h.2; exact ⟨v, h1, h2, h.1⟩)
      clear hR hR2 hR3 hs hE hS htl hk hT hll hL HSC
      go_enter Tryz.func24, Tryz.ntmps24
      go_upto_region 4 with (go_at_call 41; with_reducible refine HSS.out.mono ?_; rintro e w1 ⟨v, rfl, HV⟩)
      obtain ⟨hv, hb1⟩ := HV.out
      obtain ⟨q0, c0, rfl⟩ := own_form hv
      have hbp := fun m w => buildPs q0 l.length c0 m (T.size : Int) w
      obtain ⟨tb, htk⟩ := toks_own hv
      have HPM := Lib.hid (pm_start htk HLL.out HTS.out HK.out)
      have HBC : Hid (Below w.heap.size w (((w1.alloc (.map #[] 0)).alloc (.cells #[.slice q0 l.length c0, .int .i64 (T.size : Int), .map (some w1.heap.size), .int .i64 0, .int .i64 0, .int .i64 0] 111)).alloc (.cells #[.int .i64 0, .int .i64 0, .string ⟨#[]⟩, .int .i64 0, .slice none 0 0, .bool false, .pointer none, .int .i64 0, .int .i64 0] 74))) := Lib.hid (((hb1.alloc hb1.size _).alloc (by simp; exact Nat.le_succ_of_le hb1.size) _).alloc (by simp; have := hb1.size; omega) _)
      have HSZ : Hid (w1.heap.size + 3 ≤ (((w1.alloc (.map #[] 0)).alloc (.cells #[.slice q0 l.length c0, .int .i64 (T.size : Int), .map (some w1.heap.size), .int .i64 0, .int .i64 0, .int .i64 0] 111)).alloc (.cells #[.int .i64 0, .int .i64 0, .string ⟨#[]⟩, .int .i64 0, .slice none 0 0, .bool false, .pointer none, .int .i64 0, .int .i64 0] 74)).heap.size) := Lib.hid (by simp)
      have HS1 : Hid (w.heap.size ≤ w1.heap.size) := Lib.hid hb1.size
      clear hv hb1 htk HV HSS HK
      obtain ⟨W4, hW4⟩ : ∃ W4, ((w1.alloc (.map #[] 0)).alloc (.cells #[.slice q0 l.length c0, .int .i64 (T.size : Int), .map (some w1.heap.size), .int .i64 0, .int .i64 0, .int .i64 0] 111)).alloc (.cells #[.int .i64 0, .int .i64 0, .string ⟨#[]⟩, .int .i64 0, .slice none 0 0, .bool false, .pointer none, .int .i64 0, .int .i64 0] 74) = W4 := ⟨_, rfl⟩
      rw [hW4] at HPM HBC HSZ
      have HJ0 : Hid (TpJ (w1.heap.size + 1) T.size tb (5 * l.length + 3) (fun _ => w1.heap.size + 2) (fun _ => .slice none 0 0) w1.heap.size 1 W4 σr W4 (5 * l.length + 3)) := Lib.hid ⟨Nat.le_refl _, ps0 l, ⟨_, _, _, Mid.refl HPM.out⟩, HT.out⟩
      generalize 5 * l.length + 3 = f0 at *
      have HEND : Hid (∀ wr, MidX (w1.heap.size + 1) T.size tb 0 (fun _ => w1.heap.size + 2) (fun _ => .slice none 0 0) w1.heap.size 1 W4 σr wr → Below w.heap.size w wr ∧ ∃ b S V, b = w1.heap.size + 2 ∧ S 0 = b ∧ Nds wr S V σr.A ∧ 0 < σr.A.length ∧ σr.A.length ≤ 20000 ∧ ∀ k, footN S V σr.A.length k → w.heap.size ≤ k) := Lib.hid fun wr hm => parse_end (w1 := w1) HBC.out HS1.out hm HSZ.out
      have HPA := Lib.hid (fun g => parser_all (p := w1.heap.size + 1) (sz := T.size) (tb := tb) g)
      clear HT HLL HTS
      go_wp2_with fail
      go_loopw [] (fun wr => ∃ g : Nat, Hid (TpJ (w1.heap.size + 1) T.size tb f0 (fun _ => w1.heap.size + 2) (fun _ => .slice none 0 0) w1.heap.size 1 W4 σr wr g)) (fun wr => leastN (fun g => Hid (TpJ (w1.heap.size + 1) T.size tb f0 (fun _ => w1.heap.size + 2) (fun _ => .slice none 0 0) w1.heap.size 1 W4 σr wr g)))
      case atStart => exact ⟨_, HJ0⟩
      case round =>
        have HL := leastN_is hrel
        obtain ⟨G, hG⟩ : ∃ G, leastN (fun g => Hid (TpJ (w1.heap.size + 1) T.size tb f0 (fun _ => w1.heap.size + 2) (fun _ => .slice none 0 0) w1.heap.size 1 W4 σr wr g)) = G := ⟨_, rfl⟩
        rw [hG] at HL
        have HGG := Lib.hid hG
        clear hrel HJ0 hG hW4
        obtain ⟨hg, σ0, hm, hM⟩ := HL.out
        obtain ⟨g, b, σ1, rfl, hS, hb0, hb1⟩ := topM_some hM
        have HSK := Lib.hid ((HPA.out g).1.mid hm hS)
        have HGF : Hid (g ≤ f0) := Lib.hid (by omega)
        clear hM hm hg hS HL
        cases b with
        | false =>
          have hr := hb0 rfl
          subst hr
          clear hb0 hb1
          have hnl : True := trivial
          go_upto_region 7 with (go_at_call 42; with_reducible refine HSK.out.mono ?_; rintro e w2 ⟨rfl, h2⟩)
          obtain ⟨-, -, t4, t5⟩ := h2.toks
          by_cases he : σr.e = 0
          · have hR := HR.out
            rw [if_neg (by simpa using he)] at hR
            subst hR
            rw [he] at t5
            have HX := Lib.hid (HEND.out _ h2)
            clear he t4
            go_wp2_with fail
            go_ret3
            obtain ⟨hb, b0, S0, V0, rfl, h0⟩ := HX.out
            exact ⟨hb, _, S0, V0, rfl, h0⟩
          · have hR := HR.out
            rw [if_pos he] at hR
            subst hR
            have hbe : (σr.e != 0) = true := by simpa using he
            have HX := Lib.hid (HEND.out _ h2)
            have HE0 := Lib.hid he
            clear he
            go_upto_region 8 with fail
            go_region
            go_wp2_with fail
            go_ret3
            exact ⟨HX.out.1.drew, rfl, HE0.out⟩
        | true =>
          have hc := hb1 rfl
          clear hb0 hb1
          rcases hc with ⟨hn, rfl⟩ | ⟨hn, b2, σ2, hD, e0, e1⟩
          · have hnl : σr.ts.length = 0 := by rw [hn]; rfl
            clear hn
            go_upto_region 7 with (go_at_call 42; with_reducible refine HSK.out.mono ?_; rintro e w2 ⟨rfl, h2⟩; obtain ⟨⟨q, cp, c0⟩, hl, -⟩ := h2.toks; rw [hnl] at c0)
            obtain ⟨-, -, t4, t5⟩ := h2.toks
            by_cases he : σr.e = 0
            · have hR := HR.out
              rw [if_neg (by simpa using he)] at hR
              subst hR
              rw [he] at t5
              have HX := Lib.hid (HEND.out _ h2)
              clear he t4
              go_wp2_with fail
              go_ret3
              obtain ⟨hb, b0, S0, V0, rfl, h0⟩ := HX.out
              exact ⟨hb, _, S0, V0, rfl, h0⟩
            · have hR := HR.out
              rw [if_pos he] at hR
              subst hR
              have hbe : (σr.e != 0) = true := by simpa using he
              have HX := Lib.hid (HEND.out _ h2)
              have HE0 := Lib.hid he
              clear he
              go_upto_region 8 with fail
              go_region
              go_wp2_with fail
              go_ret3
              exact ⟨HX.out.1.drew, rfl, HE0.out⟩
          · have hpos : 0 < σ1.ts.length := List.length_pos_iff.2 hn
            have d1 : decide ((0 : Int) < (σ1.ts.length : Int)) = true := decide_eq_true (by omega)
            have d2 : decide (0 < σ1.ts.length) = true := decide_eq_true hpos
            have HDA := Lib.hid (fun w2 (hm : MidX (w1.heap.size + 1) T.size tb 0 (fun _ => w1.heap.size + 2) (fun _ => .slice none 0 0) w1.heap.size 1 W4 σ1 w2) => (HPA.out g).2.2.1.mid hm (i := 0) (by omega) hD)
            have HTL := Lib.hid (fun w2 (hm : MidX (w1.heap.size + 1) T.size tb 0 (fun _ => w1.heap.size + 2) (fun _ => .slice none 0 0) w1.heap.size 1 W4 σ1 w2) => hm.toks.1)
            generalize σ1.ts.length = N at *
            clear hn hD
            cases b2 with
            | false =>
              have hr := e0 rfl
              subst hr
              clear e0 e1
              go_upto_region 7 with (first
                | (go_at_call 42; with_reducible refine HSK.out.mono ?_; rintro e w2 ⟨rfl, h2⟩; obtain ⟨q, cp, c0⟩ := HTL.out _ h2)
                | (go_at_call 43; with_reducible refine (HDA.out _ h2).mono ?_; rintro e w3 ⟨rfl, h3⟩))
              obtain ⟨-, -, t4, t5⟩ := h3.toks
              by_cases he : σr.e = 0
              · have hR := HR.out
                rw [if_neg (by simpa using he)] at hR
                subst hR
                rw [he] at t5
                have HX := Lib.hid (HEND.out _ h3)
                clear he t4
                go_wp2_with fail
                go_ret3
                obtain ⟨hb, b0, S0, V0, rfl, h0⟩ := HX.out
                exact ⟨hb, _, S0, V0, rfl, h0⟩
              · have hR := HR.out
                rw [if_pos he] at hR
                subst hR
                have hbe : (σr.e != 0) = true := by simpa using he
                have HX := Lib.hid (HEND.out _ h3)
                have HE0 := Lib.hid he
                clear he
                go_upto_region 8 with fail
                go_region
                go_wp2_with fail
                go_ret3
                exact ⟨HX.out.1.drew, rfl, HE0.out⟩
            | true =>
              have HBT := Lib.hid (e1 rfl)
              clear e0 e1
              go_wp2_with (first
                | (go_at_call 42; with_reducible refine HSK.out.mono ?_; rintro e w2 ⟨rfl, h2⟩; obtain ⟨q, cp, c0⟩ := HTL.out _ h2)
                | (go_at_call 43; with_reducible refine (HDA.out _ h2).mono ?_; rintro e w3 ⟨rfl, h3⟩))
              have HJ3 : Hid (TpJ (w1.heap.size + 1) T.size tb f0 (fun _ => w1.heap.size + 2) (fun _ => .slice none 0 0) w1.heap.size 1 W4 σr w3 g) := Lib.hid ⟨HGF.out, σ2, h3, HBT.out⟩
              go_roundw
              case rel => exact ⟨g, HJ3⟩
              case measure =>
                have h1 := leastN_le (Q := fun g => Hid (TpJ (w1.heap.size + 1) T.size tb f0 (fun _ => w1.heap.size + 2) (fun _ => .slice none 0 0) w1.heap.size 1 W4 σr w3 g)) (m := g) HJ3
                have h2 := HGG.out
                omega
end Go.Proofs.YthjjgpepgbfalaaGreatDoor
end
section
/-! each: all nodes that lie in one, in order. -/
set_option maxRecDepth 20000
set_option linter.unusedSimpArgs false
set_option linter.unusedVariables false
namespace Go.Proofs.YthjjgpepgbfalaaGreatDoor
open Go.RowKit Go.Shelf

/-- The nodes that lie in a node, each behind those ahead, with what lies in it behind it. -/
def preF (A : List Nd) : Nat → Nat → List Nat
  | 0, _ => []
  | f + 1, i => (ndAt A i).is.flatMap fun j => j :: preF A f j
theorem preF_fuel {A : List Nd} (h : Ord A) : ∀ (f g i : Nat), i < A.length → A.length ≤ i + f → A.length ≤ i + g → preF A f i = preF A g i
  | 0, _, i, hi, hf, _ => by omega
  | _, 0, i, hi, _, hg => by omega
  | f + 1, g + 1, i, hi, hf, hg => by
    unfold preF
    have key : ∀ (l : List Nat), (∀ j ∈ l, i < j ∧ j < A.length) → l.flatMap (fun j => j :: preF A f j) = l.flatMap (fun j => j :: preF A g j) := by
      intro l
      induction l with
      | nil => intro _; rfl
      | cons a l ih =>
        intro hl
        have ha := hl a (List.mem_cons_self ..)
        rw [List.flatMap_cons, List.flatMap_cons, ih fun j hj => hl j (List.mem_cons_of_mem _ hj), preF_fuel h f g a ha.2 (by omega) (by omega)]
    exact key _ (h i hi).1
def pre (A : List Nd) (i : Nat) : List Nat := preF A (A.length + 1) i
theorem pre_step {A : List Nd} (h : Ord A) {i : Nat} (hi : i < A.length) : pre A i = (ndAt A i).is.flatMap fun j => j :: pre A j := by
  unfold pre
  rw [preF]
  have key : ∀ (l : List Nat), (∀ j ∈ l, i < j ∧ j < A.length) → l.flatMap (fun j => j :: preF A A.length j) = l.flatMap (fun j => j :: preF A (A.length + 1) j) := by
    intro l
    induction l with
    | nil => intro _; rfl
    | cons a l ih =>
      intro hl
      have ha := hl a (List.mem_cons_self ..)
      rw [List.flatMap_cons, List.flatMap_cons, ih fun j hj => hl j (List.mem_cons_of_mem _ hj), preF_fuel h A.length (A.length + 1) a ha.2 (by omega) (by omega)]
  exact key _ (h i hi).1
theorem pre_lt {A : List Nd} (h : Ord A) : ∀ (n i : Nat), i < A.length → A.length ≤ i + n → ∀ j ∈ pre A i, i < j ∧ j < A.length
  | 0, i, hi, hn, _, _ => by omega
  | n + 1, i, hi, hn, j, hj => by
    rw [pre_step h hi] at hj
    obtain ⟨a, ha, hj⟩ := List.mem_flatMap.1 hj
    have h1 := (h i hi).1 a ha
    rcases List.mem_cons.1 hj with rfl | hj
    · exact h1
    · have := pre_lt h n a h1.2 (by omega) j hj
      omega
/-- What each leans on: the nodes' rows. -/
def Shp (W : World) (S : Nat → Nat) (V : Nat → Value) (A : List Nd) : Prop := ∀ i, i < A.length → W.cell? ⟨S i, 4, none⟩ = some (V i) ∧ (∃ q c, V i = .slice q (ndAt A i).is.length c) ∧ (ndAt A i).is.length ≤ 100000 ∧
  ∀ (j n : Nat), (ndAt A i).is[j]? = some n → ∃ b c, V i = .slice (some ⟨b, 0, none⟩) (ndAt A i).is.length c ∧ W.cell? ⟨b, j, none⟩ = some (ptrN S n)
theorem Nds.shp {w : World} {S : Nat → Nat} {V : Nat → Value} {A B : List Nd} (h : Nds w S V B) (hl : B.length = A.length) (hs : ∀ i, i < A.length → (ndAt B i).is = (ndAt A i).is) (hb : A.length ≤ 100000) : Shp w S V A := by
  intro i hi
  have hi2 : i < B.length := by omega
  obtain ⟨-, ⟨c4, -⟩, -⟩ := h.cells hi2
  have h1 := h.form hi2
  have h2 := h.len i hi2
  rw [hs i hi] at h1 h2
  refine ⟨c4, h1, by omega, fun j n hn => ?_⟩
  have h3 := h.at' hi2 (j := j) (n := n) (by rw [hs i hi]; exact hn)
  rw [hs i hi] at h3
  exact h3
theorem flat_take {A : List Nd} {l : List Nat} {m j : Nat} (h : l[m]? = some j) : (l.take (m + 1)).flatMap (fun j => j :: pre A j) = (l.take m).flatMap (fun j => j :: pre A j) ++ (j :: pre A j) := by
  rw [List.take_add_one, h, List.flatMap_append]
  simp
section
variable {fid : Nat} {caps : Array Value} {A : List Nd} {S : Nat → Nat} {V : Nat → Value} {J : List Nat → World → Prop} {L : List Nat}
set_option maxHeartbeats 3200000 in
theorem each_any (eg : ∀ args w, (callFunc fid args).run Tryz.prog w = .ok (.enter fid args) w) (hord : Ord A) (hsh : ∀ d W, J d W → Shp W S V A)
    (hdo : ∀ d i r W, d ++ i :: r = L → J d W → Calls Tryz.prog fid (#[.pointer (some ⟨S i, 0, none⟩)] ++ caps) W fun e W' => e = .returned (.tuple #[]) ∧ J (d ++ [i]) W') :
    ∀ (n i : Nat), i < A.length → A.length ≤ i + n → ∀ (d r : List Nat), d ++ (pre A i ++ r) = L → ∀ W, J d W →
      Calls Tryz.prog 29 #[.pointer (some ⟨S i, 0, none⟩), .func (.func fid) #[] caps] W fun e W' => e = .returned (.tuple #[]) ∧ J (d ++ pre A i) W'
  | 0, i, hi, hn => by omega
  | n + 1, i, hi, hn => by
    intro d r hL W hJ
    have IH := Lib.hid (fun j (h1 : i < j) (h2 : j < A.length) => each_any eg hord hsh hdo n j h2 (by omega))
    have HDO := Lib.hid hdo
    obtain ⟨c4, ⟨q, cp, hv⟩, hlen, -⟩ := hsh d W hJ i hi
    have HSH := Lib.hid (fun d W (h : J d W) => hsh d W h i hi)
    have hpre := pre_step hord hi
    have HO := Lib.hid (hord i hi).1
    have HL : Hid (d ++ ((ndAt A i).is.flatMap (fun j => j :: pre A j) ++ r) = L) := Lib.hid (by rw [← hpre]; exact hL)
    have HE : Hid (∀ W', J (d ++ ((ndAt A i).is.take (ndAt A i).is.length).flatMap (fun j => j :: pre A j)) W' → J (d ++ pre A i) W') := Lib.hid fun W' h => by
      rw [List.take_length] at h
      rw [hpre]; exact h
    have HJ0 : Hid (J (d ++ ((ndAt A i).is.take 0).flatMap (fun j => j :: pre A j)) W) := Lib.hid (by simpa using hJ)
    have HV := Lib.hid hv
    rw [hv] at c4
    obtain ⟨l, hl⟩ : ∃ l, (ndAt A i).is = l := ⟨_, rfl⟩
    rw [hl] at c4 hlen HO HL HE HJ0 HV HSH
    have hlI : (l.length : Int) ≤ 100000 := by omega
    clear hsh hdo hJ hv hpre hl hL hi hn
    obtain ⟨N, hN⟩ : ∃ N, l.length = N := ⟨_, rfl⟩
    rw [hN] at c4 hlen hlI HE HV HSH
    have HN := Lib.hid hN
    clear hN
    go_enter Tryz.func29, Tryz.ntmps29
    go_wp2_with fail
    go_loopw [11] (fun iv wr => ∃ m : Nat, m ≤ N ∧ iv = .int .i64 (m : Int) ∧ Hid (J (d ++ (l.take m).flatMap (fun j => j :: pre A j)) wr)) (fun iv _ => N - (RowKit.intOf iv).toNat)
    case atStart => exact ⟨0, by omega, by go_num, HJ0⟩
    case round =>
      obtain ⟨m, hm, rfl, HJ⟩ := hrel
      clear HJ0
      by_cases hlt : m < N
      · have hd1 : decide ((m : Int) < (N : Int)) = true := decide_eq_true (by omega)
        have hd2 : decide (m < N) = true := decide_eq_true hlt
        have hmI : (m : Int) < (N : Int) := by omega
        obtain ⟨j, hj⟩ : ∃ j, l[m]? = some j := ⟨l[m]'(by rw [HN.out]; exact hlt), List.getElem?_eq_getElem (by rw [HN.out]; exact hlt)⟩
        obtain ⟨-, -, -, hat⟩ := HSH.out _ _ HJ.out
        obtain ⟨b, c, e1, x0⟩ := hat m j hj
        rw [HV.out] at e1
        cases e1
        have hjm := List.mem_of_getElem? hj
        have hj2 := HO.out j hjm
        have hsplit : d ++ (l.take m).flatMap (fun j => j :: pre A j) ++ (j :: (pre A j ++ ((l.drop (m + 1)).flatMap (fun j => j :: pre A j) ++ r))) = L := by
          rw [← HL.out]
          have : l = l.take m ++ j :: l.drop (m + 1) := by
            rw [← List.take_append_drop m l]
            have h2 : (l.take m ++ l.drop m).take m = l.take m := by rw [List.take_append_drop]
            rw [h2]
            congr 1
            rw [List.take_append_drop]
            exact List.drop_eq_getElem_cons (by rw [HN.out]; exact hlt) |>.trans (by rw [List.getElem?_eq_getElem (by rw [HN.out]; exact hlt)] at hj; rw [Option.some.inj hj])
          conv => rhs; rw [this, List.flatMap_append, List.flatMap_cons]
          simp [List.append_assoc]
        have HCD := Lib.hid (HDO.out _ j _ wr hsplit HJ.out)
        have HCE := Lib.hid (fun W' (h : J (d ++ (l.take m).flatMap (fun j => j :: pre A j) ++ [j]) W') => show Calls Tryz.prog 29 #[.pointer (some ⟨S j, 0, none⟩), .func (.func fid) #[] caps] W' fun e W2 => e = .returned (.tuple #[]) ∧ J (d ++ (l.take (m + 1)).flatMap (fun j => j :: pre A j)) W2 by
          have h1 := IH.out j hj2.1 hj2.2 (d ++ (l.take m).flatMap (fun j => j :: pre A j) ++ [j]) ((l.drop (m + 1)).flatMap (fun j => j :: pre A j) ++ r) (by rw [← hsplit]; simp [List.append_assoc]) W' h
          rw [flat_take hj]
          simpa [List.append_assoc] using h1)
        unfold ptrN at x0
        clear hat hj hjm hj2 hsplit
        go_wp2_with (first
          | (go_at_call 29; with_reducible refine (HCE.out _ h1).mono ?_; rintro e w2 ⟨rfl, h2⟩)
          | (go_at_fn fid; refine HCD.out.mono ?_; rintro e w1 ⟨rfl, h1⟩))
        go_roundw
        case rel => exact ⟨m + 1, by omega, by go_num, Lib.hid h2⟩
        case measure => simp [RowKit.intOf]; omega
      · obtain rfl : m = N := by omega
        have hd1 : decide ((m : Int) < (m : Int)) = false := decide_eq_false (by omega)
        have hd2 : decide (m < m) = false := decide_eq_false (by omega)
        have HX := Lib.hid (HE.out wr HJ.out)
        go_wp2_with fail
        go_end0
        exact ⟨rfl, HX.out⟩
end
end Go.Proofs.YthjjgpepgbfalaaGreatDoor
end
