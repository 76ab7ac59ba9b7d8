/- The chapter's example. -/
import Derived.Test.YtldkmkgkllgckaaDoorPBytes
set_option linter.unusedSimpArgs false
namespace Go.Proofs.YtldkmkgkllgckaaDoor
open Go.RowKit

def ab : ByteArray := ⟨#[97, 98]⟩
theorem ab_add : addL [] ab = [some ab] ∧ addN [] ab = 0 ∧ addE [] ab = 0 ∧ room [some ab] = 480 := by decide +kernel
theorem ab_bytes : (bytesS [some ab]).extract 0 5 = ⟨#[1, 0, 3, 97, 98]⟩ := by
  apply ByteArray.ext
  decide +kernel
set_option maxRecDepth 20000 in
set_option maxHeartbeats 800000 in
theorem lives_any (w : World) : Calls Tryd.prog 5 #[] w fun e w' => e = .returned (.bool true) ∧ Below w.heap.size w w' := by
  have HNew := Lib.hid (new_any w)
  obtain ⟨S, HS⟩ : ∃ S, Hid (S = bytesS [some ab]) := ⟨_, Lib.hid rfl⟩
  have hsz : S.size = 512 := by rw [HS.out, bytesS_size (by have := Okp.nil_.add ab; rwa [ab_add.1] at this)]
  have hx : S.extract 0 5 = ⟨#[1, 0, 3, 97, 98]⟩ := by rw [HS.out]; exact ab_bytes
  have hz1 : ((S.size : Int) == 512) = true := by rw [hsz]; rfl
  have hz2 : 5 ≤ S.size := by omega
  go_enter Tryd.func5, Tryd.ntmps5
  go_wp2_with fail
  refine HNew.out.mono ?_
  rintro e w1 ⟨g, F, rfl, hP, hF, hg, hb⟩
  obtain ⟨v, hP0, rfl⟩ := hP
  have HA := Lib.hid (add_any hP0 ab (by decide))
  rw [ab_add.1, ab_add.2.1, ab_add.2.2.1] at HA
  have HB := Lib.hid hb
  have HF := Lib.hid hF
  have HT := Lib.hid hP0.typed
  clear hP0 hF hb
  go_wp2_with fail
  refine HA.out.mono ?_
  rintro e w2 ⟨rfl, F2, ⟨v2, hP2, rfl⟩, hc⟩
  have HB2 : Hid (Below w.heap.size w w2) := Lib.hid (hc.below HB.out HB.out.size HF.out)
  have HBY := Lib.hid (bytes_any hP2)
  rw [← HS.out] at HBY
  have HR : Hid (∀ w3, Below w2.heap.size w2 w3 → Calls Tryd.prog 18 #[.pointer (some ⟨g, 0, none⟩)] w3 fun e w' => e = .returned (.int .i64 480) ∧ Below w3.heap.size w3 w') := Lib.hid (fun w3 hb => by have := room_any (hP2.below hb); rwa [ab_add.2.2.2] at this)
  clear hP2 hc
  go_wp2_with fail
  refine HBY.out.mono ?_
  rintro e w3 ⟨rfl, hb⟩
  have HB3 := Lib.hid hb
  clear hb
  go_wp2_with (go_at_call 18; refine (HR.out _ HB3.out).mono ?_; rintro e w4 ⟨rfl, hb⟩)
  go_ret
  exact ⟨rfl, HB2.out.trans ((HB3.out.trans (hb.mono HB3.out.size)).mono HB2.out.size)⟩
end Go.Proofs.YtldkmkgkllgckaaDoor
