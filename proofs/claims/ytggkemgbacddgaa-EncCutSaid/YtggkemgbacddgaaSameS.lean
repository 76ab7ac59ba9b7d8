/- The law's 'same' where the thing is sized bytes. -/
import Derived.Test.YtggkemgbacddgaaSame
namespace Go.Proofs.Ytggkemgbacddgaa
open Go.RowKit

/-- Bytes that a reader's block does not hold. -/
def Far (g : Nat) (p : Option Addr) (n : Nat) : Prop := 0 < n → ∀ b o, p = some ⟨b, o, none⟩ → b ≠ g
theorem conv_all {w w' : World} {g : Nat} {p : Option Addr} {m c : Nat} {ds : List Nat} {S : ByteArray} (hB : Bys w p m ds) (hp : Far g p m) (hS : Hid (strB ds = S)) (ho : Only g w w') : (convert 22 9 (.slice p m c)).run Try.prog w' = .ok (.string S) w' := by
  rw [← hS.out]; exact (ho.bys hB hp).conv c

set_option maxHeartbeats 1600000 in
theorem same_sized (g d k : Nat) (kind N : Int) (p : Option Addr) (m c : Nat) (bs ds rest : List Nat) (w : World) (HR : Hid (Rd w g d bs 0)) (hl : bs.length ≤ 1099511627776) (HB : Hid (bs = numB ds.length ++ (ds ++ rest))) (hm : ds.length ≤ 300) (hk0 : (kind == 0) = false) (hk1 : (kind == 1) = false)
    (HD : Hid (Bys w p m ds)) (HF : Hid (Far g p m)) (HK : Hid ((numB ds.length).length = k)) :
    Calls Try.prog 15 #[.pointer (some ⟨g, 0, none⟩), .agg #[.int .i64 kind, .int .i64 N, .slice p m c]] w fun e w' => e = .returned (.bool true) ∧ Went w w' g d rest 0 := by
  obtain ⟨v, hv⟩ : ∃ v, v = Value.slice p m c := ⟨_, rfl⟩
  rw [← hv]
  have hg := HR.out.lt
  have HA := Lib.hid (Box3.new w kind N v)
  have HW : Hid (Below w.heap.size w (w.alloc (.cells #[.int .i64 kind, .int .i64 N, v] 36))) := Lib.hid ((Below.refl _ _).alloc (Nat.le_refl _) _)
  have HR1 := Lib.hid (HR.out.below HW.out)
  have HO := Lib.hid (Only.of_below (g := g) HW.out)
  have m0 := HA.out.c0
  have m1 := HA.out.c1
  have m2 := HA.out.c2
  obtain ⟨S, HS⟩ : ∃ S, Hid (strB ds = S) := ⟨_, Lib.hid rfl⟩
  have HCV : Hid (∀ W, Only g w W → (convert 22 9 v).run Try.prog W = .ok (.string S) W) := Lib.hid (fun W ho => by rw [hv]; exact conv_all HD.out HF.out HS ho)
  have hc0 := HCV.out _ HO.out
  have hc1 := HCV.out _ (HO.out.trans (Only.drew_ _ _))
  clear hv
  go_enter Try.func15, Try.ntmps15
  go_wp2_with fail
  go_region_with (go_at_call 27; refine (sized_hit g d k bs ds rest _ (by exact Lib.hid HR1.out.drew_) hl HB hm HK).mono ?_; rintro e w1 ⟨⟨u, rfl, p2, c2, hu, hB2⟩, hwent⟩; have HWE := Lib.hid hwent; have m2 := (HA.out.only ((Only.drew_ _ _).trans hwent.only) (Nat.ne_of_gt hg)).c2; have hc2 := HCV.out _ ((HO.out.trans (Only.drew_ _ _)).trans hwent.only); have hc3 : (convert 22 9 u).run Try.prog w1 = .ok (.string S) w1 := (by rw [hu, ← HS.out]; exact hB2.conv c2); clear hwent hB2 hu)
  all_goals go_wp2_with fail
  all_goals go_ret
  all_goals exact ⟨rfl, HWE.out.rd, (HO.out.trans (Only.drew_ _ _)).trans HWE.out.only⟩

set_option maxHeartbeats 1600000 in
theorem same_sized_none (g d : Nat) (kind N : Int) (p : Option Addr) (m c : Nat) (bs ds : List Nat) (w : World) (HR : Hid (Rd w g d bs 0)) (hk0 : (kind == 0) = false) (hk1 : (kind == 1) = false)
    (HD : Hid (Bys w p m ds)) (HF : Hid (Far g p m)) (HC : Hid (∀ W, Rd W g d bs 0 → Calls Try.prog 27 #[.pointer (some ⟨g, 0, none⟩), .int .i64 300] W fun e w' => e = .returned (.slice none 0 0) ∧ Went W w' g d bs 3)) :
    Calls Try.prog 15 #[.pointer (some ⟨g, 0, none⟩), .agg #[.int .i64 kind, .int .i64 N, .slice p m c]] w fun e w' => (∃ z, e = .returned (.bool z)) ∧ Went w w' g d bs 3 := by
  obtain ⟨v, hv⟩ : ∃ v, v = Value.slice p m c := ⟨_, rfl⟩
  rw [← hv]
  have hg := HR.out.lt
  have HA := Lib.hid (Box3.new w kind N v)
  have HW : Hid (Below w.heap.size w (w.alloc (.cells #[.int .i64 kind, .int .i64 N, v] 36))) := Lib.hid ((Below.refl _ _).alloc (Nat.le_refl _) _)
  have HR1 := Lib.hid (HR.out.below HW.out)
  have HO := Lib.hid (Only.of_below (g := g) HW.out)
  have m0 := HA.out.c0
  have m1 := HA.out.c1
  have m2 := HA.out.c2
  obtain ⟨S, HS⟩ : ∃ S, Hid (strB ds = S) := ⟨_, Lib.hid rfl⟩
  have HCV : Hid (∀ W, Only g w W → (convert 22 9 v).run Try.prog W = .ok (.string S) W) := Lib.hid (fun W ho => by rw [hv]; exact conv_all HD.out HF.out HS ho)
  have hc0 := HCV.out _ HO.out
  have hc1 := HCV.out _ (HO.out.trans (Only.drew_ _ _))
  have hc3 : ∀ W, (convert 22 9 (.slice none 0 0)).run Try.prog W = .ok (.string ⟨#[]⟩) W := fun W => (Bys.zero W none).conv 0
  clear hv
  go_enter Try.func15, Try.ntmps15
  go_wp2_with fail
  go_region_with (go_at_call 27; refine (HC.out _ HR1.out.drew_).mono ?_; rintro e w1 ⟨rfl, hwent⟩; have HWE := Lib.hid hwent; have m2 := (HA.out.only ((Only.drew_ _ _).trans hwent.only) (Nat.ne_of_gt hg)).c2; have hc2 := HCV.out _ ((HO.out.trans (Only.drew_ _ _)).trans hwent.only); clear hwent)
  all_goals go_wp2_with fail
  all_goals go_ret
  all_goals exact ⟨⟨_, rfl⟩, HWE.out.rd, (HO.out.trans (Only.drew_ _ _)).trans HWE.out.only⟩
end Go.Proofs.Ytggkemgbacddgaa
