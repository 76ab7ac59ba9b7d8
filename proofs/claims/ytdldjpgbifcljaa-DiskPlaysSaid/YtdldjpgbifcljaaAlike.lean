/- The law's 'alike': a disk and the document's, that are the same, are told to be. -/
import Derived.Test.YtdldjpgbifcljaaPlayed
import Derived.Test.YtdldjpgbifcljaaCloneD
import Derived.Deep.QuietTactic
import Derived.BigQuiet
namespace Go.Proofs.Ytdldjpgbifcljaa
open Go.RowKit

theorem ats_get (l : List Wr) (k : Nat) (h : k < l.length) : (ats l)[k]? = some (.int .i64 ((wr l k).1 : Int)) := by
  have e : wr l k = l[k] := by unfold wr; rw [List.getD_eq_getElem?_getD, List.getElem?_eq_getElem h]; rfl
  unfold ats
  rw [List.getElem?_map, List.getElem?_eq_getElem h, e]; rfl
theorem below_drewN {n : Nat} {w w' : World} (h : Below n w w') (k : Nat) : Below n w (w'.drewN k) := by
  induction k with
  | zero => exact h
  | succ k ih => exact ih.drew
theorem Dk.drewN {w : World} {g : Nat} {F : List Nat} {m : Dsk} (h : Dk w g F m) (n : Nat) : Dk (w.drewN n) g F m := h.below (by
  induction n with
  | zero => exact Below.refl _ _
  | succ n ih => exact ih.drew)
set_option maxRecDepth 100000 in
set_option maxHeartbeats 3200000 in
theorem alike_any {w : World} {g : Nat} {F : List Nat} {m : Dsk} {x : Value} (hD : Dk w g F m) (hR : Ref w x m) (hr : m.row.length ≤ 1099511627776) (ho : m.out.length ≤ 1099511627776) :
    Calls Try.prog 14 #[.pointer (some ⟨g, 0, none⟩), x] w fun e w' => e = .returned (.bool true) ∧ Below w.heap.size w w' := by
  obtain ⟨vL, vR, rfl, h⟩ := hR
  obtain ⟨⟨q1, c1, rfl⟩, q2, c2, rfl⟩ := h.forms
  change Calls _ _ #[_, .agg #[.slice q1 m.out.length c1, .slice q2 m.row.length c2, .int .i64 m.fuse, .bool m.down, .int .i64 (m.done : Int)]] _ _
  have HB0 : Hid (Below w.heap.size w (w.alloc (.cells #[.slice q1 m.out.length c1, .slice q2 m.row.length c2, .int .i64 m.fuse, .bool m.down, .int .i64 (m.done : Int)] 33))) := Lib.hid ((Below.refl _ _).alloc (Nat.le_refl _) _)
  have HX0 : Hid (Box5 (w.alloc (.cells #[.slice q1 m.out.length c1, .slice q2 m.row.length c2, .int .i64 m.fuse, .bool m.down, .int .i64 (m.done : Int)] 33)) w.heap.size (.slice q1 m.out.length c1) (.slice q2 m.row.length c2) (.int .i64 m.fuse) (.bool m.down) (.int .i64 (m.done : Int))) := Lib.hid ⟨heap_alloc_new w _⟩
  have HD := Lib.hid hD
  have HR := Lib.hid h
  clear hD h
  go_enter Try.func14, Try.ntmps14
  go_upto_region 1 with fail
  generalize w.alloc (.cells #[.slice q1 m.out.length c1, .slice q2 m.row.length c2, .int .i64 m.fuse, .bool m.down, .int .i64 (m.done : Int)] 33) = w1 at *
  go_wp2_with fail
  refine ((HD.out.below HB0.out).waiting hr).mono ?_
  rintro e w2 ⟨⟨q3, c3, rfl, hO⟩, hb⟩
  have HB := Lib.hid (HB0.out.trans (hb.mono HB0.out.size))
  have HD2 := Lib.hid (HD.out.below HB.out)
  have HR2 := Lib.hid (HR.out.below HB.out)
  have hX := HX0.out.below hb
  have x0 := hX.c0
  have x1 := hX.c1
  have x3 := hX.c3
  have x4 := hX.c4
  have HO := Lib.hid hO
  have HROW : Hid (∀ k, k < m.row.length → ∃ b d, q3 = some ⟨b, 0, none⟩ ∧ q2 = some ⟨d, 0, none⟩ ∧ w2.cell? ⟨b, k, none⟩ = some (.int .i64 ((wr m.row k).1 : Int)) ∧ w2.cell? ⟨d, k * 2, none⟩ = some (.int .i64 ((wr m.row k).1 : Int))) := Lib.hid (fun k hk => by
    obtain ⟨b, d, e1, _⟩ := HO.out.form (by omega)
    obtain ⟨b2, d2, e2, _⟩ := HR2.out.r.form (by omega)
    have ho := HO.out
    have hr2 := HR2.out.r
    simp only [Value.slice.injEq] at e1 e2
    obtain ⟨rfl, _, rfl⟩ := e1
    obtain ⟨rfl, _, rfl⟩ := e2
    have h1 := ho.cellAt k (by omega)
    have h2 := hr2.cellAt (k * 2) (by omega)
    rw [ats_get _ _ hk] at h1
    rw [(wrs_get _ k hk).1] at h2
    exact ⟨b, b2, rfl, rfl, h1, h2⟩)
  have HOUT : Hid (∀ k, k < m.out.length → ∃ d, q1 = some ⟨d, 0, none⟩ ∧ w2.cell? ⟨d, k, none⟩ = some (.string (strB (sec m.out k))) ∧ outS m (k : Int) = sec m.out k) := Lib.hid (fun k hk => by
    obtain ⟨b2, d2, e2, _⟩ := HR2.out.l.form (by omega)
    have hr2 := HR2.out.l
    simp only [Value.slice.injEq] at e2
    obtain ⟨rfl, _, rfl⟩ := e2
    have h2 := hr2.cellAt k (by omega)
    rw [strs_get _ _ hk] at h2
    exact ⟨b2, rfl, h2, by unfold outS; rw [has_true (by omega) (by omega), if_pos rfl]; rfl⟩)
  clear hX hO hb HO HR2 HR HX0 HD HB0
  have hd1 : (m.down == m.down) = true := by cases m.down <;> rfl
  go_upto_region 2 with fail
  go_quiet (first
    | (go_at_call 18; exact Calls.quiet_of_same (((HD2.out.drewN _).down).mono fun _ _ h => ⟨h.1, h.2.symm⟩))
    | (go_at_call 27; exact Calls.quiet_of_same (((HD2.out.drewN _).done).mono fun _ _ h => ⟨h.1, h.2.symm⟩))
    | (go_at_call 11; exact Calls.quiet_of_same (((HD2.out.drewN _).sectors m.out.length (Lib.hid rfl)).mono fun _ _ h => ⟨h.1, h.2.symm⟩)))
  generalize hno : m.out.length = no at *
  generalize hnn : m.row.length = n at *
  go_wp2_with fail
  go_loopw [6] (fun iv wq => ∃ k j : Nat, k ≤ n ∧ iv = .int .i64 (k : Int) ∧ wq = w2.drewN j) (fun iv _ => n - (intOf iv).toNat)
  case atStart => exact ⟨0, _, by omega, by go_num, rfl⟩
  case round =>
    obtain ⟨k, j, hk, rfl, rfl⟩ := hrel
    by_cases hlt : k < n
    · obtain ⟨b, d, rfl, rfl, h1, h2⟩ := HROW.out k hlt
      generalize (Go.Proofs.Ytdldjpgbifcljaa.wr m.row k).1 = z at *
      have bi : (0 : Int) ≤ (k : Int) := by omega
      have bi2 : (k : Int) < (n : Int) := by omega
      have hz : ((z : Int) == (z : Int)) = true := by simp
      go_wp2_with fail
      go_quiet (fail)
      go_wp2_with fail
      go_roundw
      case rel => exact ⟨k + 1, _, by omega, by go_num, rfl⟩
      case measure => simp [intOf]; omega
    · obtain rfl : k = n := by omega
      clear HROW
      go_wp2_with fail
      have x0W := x0
      clear x0 x1 x3 x4
      go_loopw [7] (fun iv wq => ∃ k : Nat, k ≤ no ∧ iv = .int .i64 (k : Int) ∧ Hid (∃ j, wq = w2.drewN j)) (fun iv _ => no - (intOf iv).toNat)
      case atStart => exact ⟨0, by omega, by go_num, Lib.hid ⟨_, rfl⟩⟩
      case round =>
        obtain ⟨i, hi, rfl, hr⟩ := hrel
        have HQ : Hid ((∀ a, wr.cell? a = w2.cell? a) ∧ Dk wr g F m ∧ ∀ n, ∃ j, wr.drewN n = w2.drewN j) := Lib.hid (by
          obtain ⟨j, rfl⟩ := hr.out
          exact ⟨fun a => rfl, HD2.out.drewN j, fun n => ⟨j + n, by unfold World.drewN; simp only [Nat.add_assoc]⟩⟩)
        have HBW : Hid (Below w.heap.size w wr) := Lib.hid (by
          obtain ⟨j, rfl⟩ := hr.out
          exact below_drewN HB.out j)
        clear hr
        have x0 := (HQ.out.1 _).trans x0W
        have HNX := Lib.hid HQ.out.2.2
        by_cases hlt : i < no
        · obtain ⟨d, rfl, h2W, ho⟩ := HOUT.out i hlt
          have h2 := (HQ.out.1 _).trans h2W
          have HCO : Hid (∀ nq, Calls Try.prog 25 #[.pointer (some ⟨g, 0, none⟩), .int .i64 (i : Int)] (wr.drewN nq) fun e w' => e = .returned (.string (strB (sec m.out i))) ∧ wr.drewN nq = w') := Lib.hid (fun nq => by have := (HQ.out.2.1.drewN nq).out_ (i : Int); rw [ho] at this; exact this)
          clear ho h2W
          generalize strB (sec m.out i) = S at *
          have hS : (S.data.toList == S.data.toList) = true := by simp
          have bi : (0 : Int) ≤ (i : Int) := by omega
          have bi2 : (i : Int) < (no : Int) := by omega
          go_wp2_with fail
          go_quiet ((go_at_call 25; exact Calls.quiet_of_same ((HCO.out _).mono fun _ _ h => ⟨h.1, h.2.symm⟩)))
          go_wp2_with fail
          go_roundw
          case rel => exact ⟨i + 1, by omega, by go_num, Lib.hid (HNX.out _)⟩
          case measure => simp [intOf]; omega
        · obtain rfl : i = no := by omega
          go_wp2_with fail
          go_ret
          exact ⟨rfl, HBW.out⟩
end Go.Proofs.Ytdldjpgbifcljaa
