/- What values reach, as a model. -/
import Derived.Test.YtekmboolfjicbaaRnV
import Derived.Test.YtekmboolfjicbaaHAsk2
namespace Go.Proofs.Ytekmboolfjicbaa
open Go.RowKit

/-- One value come to. -/
def comeT (L : Pls) (T : List (Int × Int)) (v : Int × Int) : List (Int × Int) := if hasP L v = true then addK T v else T
theorem comeT_yes {L : Pls} {T : List (Int × Int)} {v : Int × Int} (h : hasP L v = true) : comeT L T v = addK T v := if_pos h
theorem comeT_no {L : Pls} {T : List (Int × Int)} {v : Int × Int} (h : hasP L v = false) : comeT L T v = T := if_neg (by rw [h]; decide)
theorem comeT_mem {L : Pls} {T : List (Int × Int)} {v u : Int × Int} : u ∈ comeT L T v ↔ u ∈ T ∨ (u = v ∧ hasP L v = true) := by
  cases h : hasP L v with
  | true => rw [comeT_yes h, addK_mem]; simp
  | false => rw [comeT_no h]; simp
theorem comeT_pre (L : Pls) (T : List (Int × Int)) (v : Int × Int) : T <+: comeT L T v := by
  cases h : hasP L v with
  | true => rw [comeT_yes h]; exact addK_pre T v
  | false => rw [comeT_no h]; exact List.prefix_refl _
theorem comeT_len (L : Pls) (T : List (Int × Int)) (v : Int × Int) : (comeT L T v).length ≤ T.length + 1 := by
  cases h : hasP L v with
  | true => rw [comeT_yes h]; unfold addK; split <;> simp
  | false => rw [comeT_no h]; omega
/-- Values come to, one behind the other. -/
def comeA (L : Pls) (T : List (Int × Int)) (vs : List (Int × Int)) : List (Int × Int) := vs.foldl (comeT L) T
theorem comeA_nil (L : Pls) (T : List (Int × Int)) : comeA L T [] = T := rfl
theorem comeA_take (L : Pls) (T vs : List (Int × Int)) (k : Nat) (h : k < vs.length) : comeA L T (vs.take (k + 1)) = comeT L (comeA L T (vs.take k)) (vs.getD k (0, 0)) := by
  have e : vs.take (k + 1) = vs.take k ++ [vs.getD k (0, 0)] := by
    rw [List.take_add_one, List.getElem?_eq_getElem h, List.getD_eq_getElem?_getD, List.getElem?_eq_getElem h]; rfl
  unfold comeA
  rw [e, List.foldl_append]; rfl
theorem comeA_mem (L : Pls) (vs T : List (Int × Int)) (u : Int × Int) : u ∈ comeA L T vs ↔ u ∈ T ∨ (u ∈ vs ∧ hasP L u = true) := by
  unfold comeA
  induction vs generalizing T with
  | nil => simp
  | cons v vs ih =>
    rw [List.foldl_cons, ih, comeT_mem, List.mem_cons]
    constructor
    · rintro ((h | ⟨rfl, h⟩) | ⟨h1, h2⟩)
      · exact .inl h
      · exact .inr ⟨.inl rfl, h⟩
      · exact .inr ⟨.inr h1, h2⟩
    · rintro (h | ⟨rfl | h1, h2⟩)
      · exact .inl (.inl h)
      · exact .inl (.inr ⟨rfl, h2⟩)
      · exact .inr ⟨h1, h2⟩
theorem comeA_pre (L : Pls) (vs T : List (Int × Int)) : T <+: comeA L T vs := by
  unfold comeA
  induction vs generalizing T with
  | nil => exact List.prefix_refl _
  | cons v vs ih => exact (comeT_pre L T v).trans (ih _)
/-- What some values reach. -/
inductive Rch (L : Pls) (roots : List (Int × Int)) : Int × Int → Prop
  | root (v : Int × Int) : v ∈ roots → hasP L v = true → Rch L roots v
  | step (u v : Int × Int) : Rch L roots u → v ∈ (obAt L u).vs → hasP L v = true → Rch L roots v
theorem Rch.has {L : Pls} {roots : List (Int × Int)} {v : Int × Int} (h : Rch L roots v) : hasP L v = true := by cases h <;> assumption
theorem Rch.mono {L : Pls} {a b : List (Int × Int)} (hab : ∀ v ∈ a, v ∈ b) {v : Int × Int} (h : Rch L a v) : Rch L b v := by
  induction h with
  | root v h1 h2 => exact .root v (hab v h1) h2
  | step u v _ h1 h2 ih => exact .step u v ih h1 h2
theorem Rch.both {L : Pls} {a b : List (Int × Int)} {v : Int × Int} : Rch L (a ++ b) v ↔ Rch L a v ∨ Rch L b v := by
  constructor
  · intro h
    induction h with
    | root v h1 h2 => exact (List.mem_append.1 h1).elim (fun h => .inl (.root v h h2)) (fun h => .inr (.root v h h2))
    | step u v _ h1 h2 ih => exact ih.elim (fun h => .inl (.step u v h h1 h2)) (fun h => .inr (.step u v h h1 h2))
  · rintro (h | h)
    · exact h.mono fun v hv => List.mem_append.2 (.inl hv)
    · exact h.mono fun v hv => List.mem_append.2 (.inr hv)
theorem Rch.none_ {L : Pls} {v : Int × Int} : ¬ Rch L [] v := by
  intro h
  induction h with
  | root v h _ => cases h
  | step _ _ _ _ _ ih => exact ih
/-- How far the rounds have come: i objects are followed. -/
structure Rds (L : Pls) (roots T : List (Int × Int)) (i : Nat) : Prop where
  rch : ∀ v ∈ T, Rch L roots v
  roots : ∀ v ∈ roots, hasP L v = true → v ∈ T
  clos : ∀ j u, j < i → T[j]? = some u → ∀ v ∈ (obAt L u).vs, hasP L v = true → v ∈ T
  le : i ≤ T.length
theorem Rds.start (L : Pls) (roots : List (Int × Int)) : Rds L roots (comeA L [] roots) 0 :=
  ⟨fun v hv => by
    rcases (comeA_mem L roots [] v).1 hv with h | ⟨h1, h2⟩
    · cases h
    · exact .root v h1 h2, fun v hv hp => (comeA_mem L roots [] v).2 (.inr ⟨hv, hp⟩), fun j u hj => by omega, Nat.zero_le _⟩
theorem Rds.next {L : Pls} {roots T : List (Int × Int)} {i : Nat} (h : Rds L roots T i) {u : Int × Int} (hu : T[i]? = some u) : Rds L roots (comeA L T (obAt L u).vs) (i + 1) := by
  have hpre := comeA_pre L (obAt L u).vs T
  have hi : i < T.length := by
    rcases Nat.lt_or_ge i T.length with h1 | h1
    · exact h1
    · rw [List.getElem?_eq_none h1] at hu; cases hu
  have hget : ∀ j, j < T.length → (comeA L T (obAt L u).vs)[j]? = T[j]? := fun j hj => by
    obtain ⟨S, hS⟩ := hpre
    rw [← hS, List.getElem?_append_left hj]
  refine ⟨fun v hv => ?_, fun v hv hp => hpre.subset (h.roots v hv hp), fun j w hj hw v hv hp => ?_, Nat.le_trans hi hpre.length_le⟩
  · rcases (comeA_mem L _ T v).1 hv with h1 | ⟨h1, h2⟩
    · exact h.rch v h1
    · exact .step u v (h.rch u (List.mem_of_getElem? hu)) h1 h2
  · rw [hget j (by omega)] at hw
    rcases Nat.lt_or_ge j i with h1 | h1
    · exact hpre.subset (h.clos j w h1 hw v hv hp)
    · have : j = i := by omega
      subst this
      rw [hu] at hw; cases hw
      exact (comeA_mem L _ T v).2 (.inr ⟨hv, hp⟩)
theorem Rds.done {L : Pls} {roots T : List (Int × Int)} {i : Nat} (h : Rds L roots T i) (hi : T.length ≤ i) (v : Int × Int) : v ∈ T ↔ Rch L roots v := by
  refine ⟨h.rch v, fun hv => ?_⟩
  induction hv with
  | root v h1 h2 => exact h.roots v h1 h2
  | step u v _ h1 h2 ih =>
    obtain ⟨j, hj, e⟩ := List.getElem_of_mem ih
    exact h.clos j u (by omega) (by rw [List.getElem?_eq_getElem hj, e]) v h1 h2
theorem nodup_len {K : Type} [DecidableEq K] : ∀ (a b : List K), a.Nodup → (∀ x ∈ a, x ∈ b) → a.length ≤ b.length
  | [], b, _, _ => Nat.zero_le _
  | x :: a, b, hn, hs => by
    obtain ⟨h1, h2⟩ := List.nodup_cons.1 hn
    have hx : x ∈ b := hs x (by simp)
    have h3 := nodup_len a (b.erase x) h2 fun y hy => (List.mem_erase_of_ne (fun e : y = x => h1 (by rw [← e]; exact hy))).2 (hs y (by simp [hy]))
    rw [List.length_erase_of_mem hx] at h3
    have := List.length_pos_of_mem hx
    simp; omega
/-- Things that are all there, each once, are no more than the places. -/
theorem has_len {L : Pls} {T : List (Int × Int)} (hn : T.Nodup) (h : ∀ v ∈ T, hasP L v = true) : T.length ≤ L.length := by
  have h1 : (T.map fun v => v.2.toNat).Nodup := by
    unfold List.Nodup
    rw [List.pairwise_map]
    refine hn.imp_of_mem fun {a b} ha hb hab e => hab ?_
    obtain ⟨a1, a2, _⟩ := hasP_iff.1 (h a ha)
    obtain ⟨b1, b2, _⟩ := hasP_iff.1 (h b hb)
    exact Prod.ext (by rw [a1, b1]) (by omega)
  have h2 : (T.map fun v => v.2.toNat) ⊆ List.range L.length := fun x hx => by
    obtain ⟨v, hv, rfl⟩ := List.mem_map.1 hx
    obtain ⟨_, _, c, hc⟩ := hasP_iff.1 (h v hv)
    exact List.mem_range.2 (clAt_some hc)
  have := nodup_len _ _ h1 fun x hx => h2 hx
  simpa using this
end Go.Proofs.Ytekmboolfjicbaa
