/- The chapter's example. -/
import Derived.Test.YtekmboolfjicbaaSCol3
import Derived.Test.YtekmboolfjicbaaLJt
set_option maxRecDepth 20000
set_option linter.unusedSimpArgs false
set_option linter.unusedVariables false
namespace Go.Proofs.Ytekmboolfjicbaa
open Go.RowKit

theorem Hep.live {w : World} {gh : Nat} {F : Nat → Prop} {m : Hm} (h : Hep w gh F m) : Calls Try.prog 20 #[.pointer (some ⟨gh, 0, none⟩)] w fun e w' => e = .returned (.int .i64 (liveN m.L : Int)) ∧ w' = w := by
  obtain ⟨vr, mb, S, hP, _⟩ := h
  have c2 := hP.c2
  generalize liveN m.L = n at *
  clear hP
  go_enter Try.func20, Try.ntmps20
  go_wp2_with fail
  go_ret
  exact ⟨rfl, rfl⟩
/-- The chapter's pairs. -/
def o1 : Ob := ⟨0, [(0, 0), (0, 0)], []⟩
def o2 : Ob := ⟨0, [(0, 0), (8, 0)], []⟩
def m1 : Hm := addM (newM 9) o1
def m2 : Hm := addM m1 o2
def m3 : Hm := addM m2 o1
theorem m1_L : m1.L = [some (newCl o1)] := by
  unfold m1 addM
  rw [if_pos (by decide)]; rfl
theorem m1_lim : m1.lim = 9 := by
  unfold m1 addM
  rw [if_pos (by decide)]; rfl
theorem o2_may : addE m1 o2 = 0 := by
  unfold addE
  rw [m1_L, m1_lim]; decide
theorem m2_L : m2.L = [some (newCl o1), some (newCl o2)] := by
  unfold m2 addM
  rw [if_pos o2_may]
  show putH m1.L (gapH m1.L) _ = _
  rw [m1_L]; rfl
theorem m2_lim : m2.lim = 9 := by
  unfold m2 addM
  rw [if_pos o2_may]; exact m1_lim
theorem o3_may : addE m2 o1 = 0 := by
  unfold addE
  rw [m2_L, m2_lim]; decide
theorem m3_L : m3.L = [some (newCl o1), some (newCl o2), some (newCl o1)] := by
  unfold m3 addM
  rw [if_pos o3_may]
  show putH m2.L (gapH m2.L) _ = _
  rw [m2_L]; rfl
theorem v1_is : addV (newM 9) o1 = (8, 0) := by decide
theorem v2_is : addV m1 o2 = (8, 1) := by
  unfold addV
  rw [if_pos o2_may, m1_L]; rfl
theorem v3_is : addV m2 o1 = (8, 2) := by
  unfold addV
  rw [if_pos o3_may, m2_L]; rfl
theorem m3_at {i : Nat} {c : Cl} (h : clAt m3.L i = some c) : (i = 0 ∧ c = newCl o1) ∨ (i = 1 ∧ c = newCl o2) ∨ (i = 2 ∧ c = newCl o1) := by
  rw [m3_L] at h
  have hi := clAt_some h
  simp at hi
  rcases (show i = 0 ∨ i = 1 ∨ i = 2 by omega) with rfl | rfl | rfl
  · exact .inl ⟨rfl, by cases h; rfl⟩
  · exact .inr (.inl ⟨rfl, by cases h; rfl⟩)
  · exact .inr (.inr ⟨rfl, by cases h; rfl⟩)
theorem m3_here : Here m3.L := fun i c h => by rcases m3_at h with ⟨_, rfl⟩ | ⟨_, rfl⟩ | ⟨_, rfl⟩ <;> rfl
theorem m3_sm : Sm m3.L := fun i c h => by rcases m3_at h with ⟨_, rfl⟩ | ⟨_, rfl⟩ | ⟨_, rfl⟩ <;> exact ⟨by decide, by decide⟩
theorem m3_ft : Ft m3.L := fun i c h => by
  have k : ∀ a b : Int, I64 a → I64 b → FitV [(0, 0), (a, b)] := fun a b ha hb x hx => by
    simp at hx
    rcases hx with rfl | rfl
    · exact ⟨⟨by decide, by decide⟩, ⟨by decide, by decide⟩⟩
    · exact ⟨ha, hb⟩
  rcases m3_at h with ⟨_, rfl⟩ | ⟨_, rfl⟩ | ⟨_, rfl⟩
  · exact k 0 0 ⟨by decide, by decide⟩ ⟨by decide, by decide⟩
  · exact k 8 0 ⟨by decide, by decide⟩ ⟨by decide, by decide⟩
  · exact k 0 0 ⟨by decide, by decide⟩ ⟨by decide, by decide⟩
theorem m3_rch (v : Int × Int) : Rch m3.L [(8, 1)] v ↔ v = (8, 1) ∨ v = (8, 0) := by
  constructor
  · intro h
    induction h with
    | root v h1 h2 => simp at h1; exact .inl h1
    | step u v _ h1 h2 ih =>
      rcases ih with rfl | rfl
      · have e : (obAt m3.L (8, 1)).vs = [(0, 0), (8, 0)] := by rw [m3_L]; rfl
        rw [e] at h1
        simp at h1
        rcases h1 with rfl | rfl
        · rw [m3_L] at h2; exact absurd h2 (by decide)
        · exact .inr rfl
      · have e : (obAt m3.L (8, 0)).vs = [(0, 0), (0, 0)] := by rw [m3_L]; rfl
        rw [e] at h1
        simp at h1
        subst h1
        rw [m3_L] at h2; exact absurd h2 (by decide)
  · have h1 : Rch m3.L [(8, 1)] (8, 1) := .root _ (by simp) (by rw [m3_L]; decide)
    rintro (rfl | rfl)
    · exact h1
    · exact .step (8, 1) (8, 0) h1 (by rw [show (obAt m3.L (8, 1)).vs = [(0, 0), (8, 0)] by rw [m3_L]; rfl]; simp) (by rw [m3_L]; decide)
theorem m3_two {T : List (Int × Int)} (hn : T.Nodup) (hT : ∀ v, v ∈ T ↔ Rch m3.L [(8, 1)] v) : T.length = 2 := by
  have h1 := nodup_len T [(8, 1), (8, 0)] hn fun x hx => by rcases (m3_rch x).1 ((hT x).1 hx) with rfl | rfl <;> simp
  have h2 := nodup_len [(8, 1), (8, 0)] T (by decide) fun x hx => by
    simp at hx
    exact (hT x).2 ((m3_rch x).2 hx)
  simp at h1 h2
  omega
theorem m3_one {T : List (Int × Int)} (hT : ∀ v, v ∈ T ↔ Rch m3.L [(8, 1)] v) : colN T (refsL m3.L m3.L.length) = 1 := by
  have e : refsL m3.L m3.L.length = [(8, 0), (8, 1), (8, 2)] := by rw [m3_L]; rfl
  have a0 : hasK T (8, 0) = true := hasK_yes ((hT _).2 ((m3_rch _).2 (.inr rfl)))
  have a1 : hasK T (8, 1) = true := hasK_yes ((hT _).2 ((m3_rch _).2 (.inl rfl)))
  have a2 : hasK T (8, 2) = false := hasK_no fun h => by rcases (m3_rch _).1 ((hT _).1 h) with h | h <;> simp at h
  rw [e]
  unfold colN
  simp [a0, a1, a2]
theorem m3_live {T : List (Int × Int)} (hT : ∀ v, v ∈ T ↔ Rch m3.L [(8, 1)] v) : liveN (colM T m3 (refsL m3.L m3.L.length)).L = 2 := by
  obtain ⟨h1, h2⟩ := colM_end T m3
  generalize (colM T m3 (refsL m3.L m3.L.length)).L = L at *
  have e3 : m3.L.length = 3 := by rw [m3_L]; rfl
  rw [e3] at h1
  have a0 : (8, ((0 : Nat) : Int)) ∈ T := (hT _).2 ((m3_rch _).2 (.inr rfl))
  have a1 : (8, ((1 : Nat) : Int)) ∈ T := (hT _).2 ((m3_rch _).2 (.inl rfl))
  have a2 : (8, ((2 : Nat) : Int)) ∉ T := fun h => by rcases (m3_rch _).1 ((hT _).1 h) with h | h <;> simp at h
  have b0 := (h2 0).trans (if_pos a0)
  have b1 := (h2 1).trans (if_pos a1)
  have b2 := (h2 2).trans (if_neg a2)
  rw [m3_L] at b0 b1
  match L, h1 with
  | [x, y, z], _ =>
    have c0 : x = some (newCl o1) := b0
    have c1 : y = some (newCl o2) := b1
    have c2 : z = none := b2
    subst c0 c1 c2
    rfl
end Go.Proofs.Ytekmboolfjicbaa
