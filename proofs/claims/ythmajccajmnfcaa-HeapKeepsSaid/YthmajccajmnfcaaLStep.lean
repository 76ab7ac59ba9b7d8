/- A step of the law. -/
import Derived.Test.YthmajccajmnfcaaLStep1
import Derived.Test.YthmajccajmnfcaaLStep2
import Derived.Test.YthmajccajmnfcaaLStep3
import Derived.Test.YthmajccajmnfcaaLStep4
set_option maxRecDepth 20000
set_option linter.unusedSimpArgs false
namespace Go.Proofs.Ythmajccajmnfcaa
open Go.RowKit

theorem step_any {w : World} {g : Nat} {F X : Nat → Prop} {m : Hm} {vl : Value} {L : Pls} {lim : Int} (h : Jt w g F X m vl L lim) (x : Opv) (ho : ObV w x.q x.n x.p x.d x.o) (hq : x.q = none → x.c = 0) (hp : x.p = none → x.e = 0) (hn : x.n ≤ 300) (hd : x.d ≤ 5000) (hv : I64 x.v.2) (hx : I64 x.x.2) (hb : x.b < 256) :
    Calls Try.prog 30 #[.pointer (some ⟨g, 0, none⟩), .agg #[vl, .int .i64 lim], .agg (opA x.kind x.i x.v.1 x.v.2 x.x.1 x.x.2 x.b x.o.k x.q x.n x.c x.p x.d x.e)] w fun ex w' => StepR w w' g F X lim ex := by
  by_cases k0 : x.kind = 0
  · rw [k0]; exact step0 h _ _ _ _ _ _ x.o _ _ _ _ _ _ ho hq hp hn hd
  by_cases k1 : x.kind = 1
  · rw [k1]; exact step1 h _ _ _ _ _ _ _ _ _ _ _ _ _ hv hx hb
  by_cases k2 : x.kind = 2
  · rw [k2]; exact step2 h _ _ _ _ _ _ _ _ _ _ _ _ _ hv hx hb
  by_cases k3 : x.kind = 3
  · rw [k3]; exact step3 h _ _ _ _ _ _ _ _ _ _ _ _ _ hv hx hb
  exact step4 h _ _ _ _ _ _ _ _ _ _ _ _ _ _ hv k0 k1 k2 k3
end Go.Proofs.Ythmajccajmnfcaa
