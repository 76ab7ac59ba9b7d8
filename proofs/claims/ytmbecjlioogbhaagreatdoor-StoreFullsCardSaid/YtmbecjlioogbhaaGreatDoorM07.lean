/- Texts Placed to Burn of this seat, laid into one. -/
import Derived.Deep.CutBlock
import Derived.Deep.DeepCutAuto
import Derived.Deep.QuietTactic
import Derived.BigQuiet
import Derived.Test.YtmbecjlioogbhaaGreatDoorM02
import Derived.Test.YtmbecjlioogbhaaGreatDoorM06
set_option linter.unusedVariables false
set_option linter.unusedSimpArgs false
set_option linter.constructorNameAsVariable false
namespace Go.Proofs.YtmbecjlioogbhaaGreatDoor
section
set_option maxRecDepth 20000
open Go.RowKit
set_option maxHeartbeats 400000 in
theorem wo_55 (w:World):Calls Tryz.prog 165 #[.int .i64 5,.int .i64 5] w fun x w'=>x = .returned (.int .i64 5)∧w=w':=by
 go_enter Tryz.func165,Tryz.ntmps165
 go_wp2_with fail
 go_ret
 exact⟨rfl,rfl⟩
set_option maxHeartbeats 400000 in
theorem wo_54 (w:World):Calls Tryz.prog 165 #[.int .i64 5,.int .i64 4] w fun x w'=>x = .returned (.int .i64 5)∧w=w':=by
 go_enter Tryz.func165,Tryz.ntmps165
 go_wp2_with fail
 go_ret
 exact⟨rfl,rfl⟩
set_option maxHeartbeats 400000 in
theorem wo_5o (f:Int) (w:World) (kf5:(f == 5)=false) (kf4:(f == 4)=false):Calls Tryz.prog 165 #[.int .i64 5,.int .i64 f] w fun x w'=>x = .returned (.int .i64 13)∧w=w':=by
 go_enter Tryz.func165,Tryz.ntmps165
 go_wp2_with fail
 go_ret
 exact⟨rfl,rfl⟩
set_option maxHeartbeats 400000 in
theorem wo_45 (w:World):Calls Tryz.prog 165 #[.int .i64 4,.int .i64 5] w fun x w'=>x = .returned (.int .i64 5)∧w=w':=by
 go_enter Tryz.func165,Tryz.ntmps165
 go_wp2_with fail
 go_ret
 exact⟨rfl,rfl⟩
set_option maxHeartbeats 400000 in
theorem wo_44 (w:World):Calls Tryz.prog 165 #[.int .i64 4,.int .i64 4] w fun x w'=>x = .returned (.int .i64 13)∧w=w':=by
 go_enter Tryz.func165,Tryz.ntmps165
 go_wp2_with fail
 go_ret
 exact⟨rfl,rfl⟩
set_option maxHeartbeats 400000 in
theorem wo_4o (f:Int) (w:World) (kf5:(f == 5)=false) (_kf4:(f == 4)=false):Calls Tryz.prog 165 #[.int .i64 4,.int .i64 f] w fun x w'=>x = .returned (.int .i64 13)∧w=w':=by
 go_enter Tryz.func165,Tryz.ntmps165
 go_wp2_with fail
 go_ret
 exact⟨rfl,rfl⟩
set_option maxHeartbeats 400000 in
theorem wo_o5 (e:Int) (w:World) (ke5:(e == 5)=false) (ke4:(e == 4)=false):Calls Tryz.prog 165 #[.int .i64 e,.int .i64 5] w fun x w'=>x = .returned (.int .i64 13)∧w=w':=by
 go_enter Tryz.func165,Tryz.ntmps165
 go_wp2_with fail
 go_ret
 exact⟨rfl,rfl⟩
set_option maxHeartbeats 400000 in
theorem wo_o4 (e:Int) (w:World) (ke5:(e == 5)=false) (ke4:(e == 4)=false):Calls Tryz.prog 165 #[.int .i64 e,.int .i64 4] w fun x w'=>x = .returned (.int .i64 13)∧w=w':=by
 go_enter Tryz.func165,Tryz.ntmps165
 go_wp2_with fail
 go_ret
 exact⟨rfl,rfl⟩
set_option maxHeartbeats 400000 in
theorem wo_oo (e:Int) (f:Int) (w:World) (ke5:(e == 5)=false) (ke4:(e == 4)=false) (_kf5:(f == 5)=false) (_kf4:(f == 4)=false):Calls Tryz.prog 165 #[.int .i64 e,.int .i64 f] w fun x w'=>x = .returned (.int .i64 13)∧w=w':=by
 go_enter Tryz.func165,Tryz.ntmps165
 go_wp2_with fail
 go_ret
 exact⟨rfl,rfl⟩
theorem without_any (e f:Int) (w:World):Calls Tryz.prog 165 #[.int .i64 e,.int .i64 f] w fun x w'=>x = .returned (.int .i64 (withE e f))∧w=w':=by
 by_cases he5:e=5
 ·by_cases hf5:f=5
  ·have HE:Hid (withE e f=5):=Lib.hid (by unfold withE;simp [he5,hf5])
   rw [HE.out]
   clear HE
   subst he5
   subst hf5
   exact wo_55 w
  ·by_cases hf4:f=4
   ·have HE:Hid (withE e f=5):=Lib.hid (by unfold withE;simp [he5,hf4])
    rw [HE.out]
    clear HE
    subst he5
    subst hf4
    exact wo_54 w
   ·have HE:Hid (withE e f=13):=Lib.hid (by unfold withE;simp [he5,hf5,hf4])
    rw [HE.out]
    clear HE
    subst he5
    have kf5:(f == 5)=false:=by rw [beq_eq_false_iff_ne];exact hf5
    have kf4:(f == 4)=false:=by rw [beq_eq_false_iff_ne];exact hf4
    exact wo_5o f w kf5 kf4
 ·by_cases he4:e=4
  ·by_cases hf5:f=5
   ·have HE:Hid (withE e f=5):=Lib.hid (by unfold withE;simp [he4,hf5])
    rw [HE.out]
    clear HE
    subst he4
    subst hf5
    exact wo_45 w
   ·by_cases hf4:f=4
    ·have HE:Hid (withE e f=13):=Lib.hid (by unfold withE;simp [he4,hf4])
     rw [HE.out]
     clear HE
     subst he4
     subst hf4
     exact wo_44 w
    ·have HE:Hid (withE e f=13):=Lib.hid (by unfold withE;simp [he4,hf5,hf4])
     rw [HE.out]
     clear HE
     subst he4
     have kf5:(f == 5)=false:=by rw [beq_eq_false_iff_ne];exact hf5
     have kf4:(f == 4)=false:=by rw [beq_eq_false_iff_ne];exact hf4
     exact wo_4o f w kf5 kf4
  ·by_cases hf5:f=5
   ·have HE:Hid (withE e f=13):=Lib.hid (by unfold withE;simp [he5,he4,hf5])
    rw [HE.out]
    clear HE
    have ke5:(e == 5)=false:=by rw [beq_eq_false_iff_ne];exact he5
    have ke4:(e == 4)=false:=by rw [beq_eq_false_iff_ne];exact he4
    subst hf5
    exact wo_o5 e w ke5 ke4
   ·by_cases hf4:f=4
    ·have HE:Hid (withE e f=13):=Lib.hid (by unfold withE;simp [he5,he4,hf4])
     rw [HE.out]
     clear HE
     have ke5:(e == 5)=false:=by rw [beq_eq_false_iff_ne];exact he5
     have ke4:(e == 4)=false:=by rw [beq_eq_false_iff_ne];exact he4
     subst hf4
     exact wo_o4 e w ke5 ke4
    ·have HE:Hid (withE e f=13):=Lib.hid (by unfold withE;simp [he5,he4,hf5,hf4])
     rw [HE.out]
     clear HE
     have ke5:(e == 5)=false:=by rw [beq_eq_false_iff_ne];exact he5
     have ke4:(e == 4)=false:=by rw [beq_eq_false_iff_ne];exact he4
     have kf5:(f == 5)=false:=by rw [beq_eq_false_iff_ne];exact hf5
     have kf4:(f == 4)=false:=by rw [beq_eq_false_iff_ne];exact hf4
     exact wo_oo e f w ke5 ke4 kf5 kf4
set_option maxHeartbeats 800000 in
theorem placed_any (S:ByteArray) (s:List Nat) (k:Int) (w:World) (hS:IsS S s) :
  Calls Tryz.prog 164 #[.string S,.int .i64 k] w fun e w'=>e = .returned (.tuple #[(plR s k).val,.int .i64 (plE s k)])∧Below w.heap.size w w':=by
 have HD:=Lib.hid (fun w=>decode_any S s w hS)
 have HPR:Hid (plR s k=if decE s=0∧place (decR s).ep≠k then Rt.none_ else decR s):=Lib.hid rfl
 have HPE:Hid (plE s k=if decE s=0∧place (decR s).ep≠k then 13 else decE s):=Lib.hid rfl
 rw [HPR.out,HPE.out]
 clear hS HPR HPE
 generalize decR s=r at *
 generalize decE s=E at *
 have HPL:=Lib.hid (fun w=>place_any r.ep w)
 obtain⟨XR,hXR⟩:∃XR,(if E=0∧place r.ep≠k then Rt.none_ else r)=XR:=⟨_,rfl⟩
 obtain⟨XE,hXE⟩:∃XE:Int,(if E=0∧place r.ep≠k then 13 else E)=XE:=⟨_,rfl⟩
 rw [hXR,hXE]
 generalize hP:place r.ep=P at *
 clear hP
 unfold Rt.val at *
 have HXR:=Lib.hid hXR
 have HXE:=Lib.hid hXE
 clear hXR hXE
 go_enter Tryz.func164,Tryz.ntmps164
 go_wp2_with fail
 have HBX:Hid (RtAt (w.alloc (.cells #[.int .i64 0,.int .i64 0,.int .i64 0,.int .i64 0] 93)) w.heap.size 93 Rt.none_):=Lib.hid (RtAt.new w Rt.none_ 93)
 have HB2:Hid (Below w.heap.size w (w.alloc (.cells #[.int .i64 0,.int .i64 0,.int .i64 0,.int .i64 0] 93))):=Lib.hid ((Below.refl _ _).alloc (Nat.le_refl _) _)
 refine(HD.out _).mono ?_
 rintro e w3 ⟨rfl,hb⟩
 have HBX3:=Lib.hid (HBX.out.below hb)
 have HB3:=Lib.hid (HB2.out.trans (Below.mono hb (by simp)))
 clear hb HBX HB2 HD
 have hb4:Below w3.heap.size w3 (w3.alloc (.cells #[.int .i64 r.ep,.int .i64 r.pg,.int .i64 r.dr,.int .i64 r.wd] 93)):=(Below.refl _ _).alloc (Nat.le_refl _) _
 have HR4:=Lib.hid (RtAt.new w3 r 93)
 have HBX4:=Lib.hid (HBX3.out.below hb4)
 have HB4:=Lib.hid (HB3.out.trans (Below.mono hb4 HB3.out.size))
 have hne:w.heap.size≠w3.heap.size:=by have:=HBX3.out.lt;omega
 clear hb4 HBX3 HB3
 go_upto_region 2 with fail
 generalize w3.alloc (.cells #[.int .i64 r.ep,.int .i64 r.pg,.int .i64 r.dr,.int .i64 r.wd] 93)=w4 at *
 generalize w3.heap.size=q at *
 have b0:=HBX4.out.c0
 have b1:=HBX4.out.c1
 have b2:=HBX4.out.c2
 have b3:=HBX4.out.c3
 have bf:=HBX4.out.fz
 have r0:=HR4.out.c0
 have r1:=HR4.out.c1
 have r2:=HR4.out.c2
 have r3:=HR4.out.c3
 by_cases hE:E=0
 ·subst hE
  by_cases hP:P=k
  ·have hd:(P != k)=false:=by simp [hP]
   have hxe:XE=0:=by rw [←HXE.out,if_neg (fun h=>h.2 hP)]
   have hxr:XR=r:=by rw [←HXR.out,if_neg (fun h=>h.2 hP)]
   subst hxe hxr
   clear hP HXE HXR
   go_wp2_with (go_at_call 187;refine(HPL.out _).mono ?_;rintro e w7 ⟨rfl,rfl⟩)
   exact bodyPost_ret (v:=.tuple #[.agg #[.int .i64 XR.ep,.int .i64 XR.pg,.int .i64 XR.dr,.int .i64 XR.wd],.int .i64 0]) (by simp [results,Tryz.results164,go_sem,b0,b1,b2,b3]) rfl ⟨rfl,(((HB4.out.setCell (Nat.le_refl _) _).setCell (Nat.le_refl _) _).setCell (Nat.le_refl _) _).setCell (Nat.le_refl _) _⟩
  ·have hd:(P != k)=true:=by simp [hP]
   have hxe:XE=13:=by rw [←HXE.out,if_pos ⟨rfl,hP⟩]
   have hxr:XR=Rt.none_:=by rw [←HXR.out,if_pos ⟨rfl,hP⟩]
   subst hxe hxr
   clear hP HXE HXR
   go_wp2_with (go_at_call 187;refine(HPL.out _).mono ?_;rintro e w7 ⟨rfl,rfl⟩)
   exact bodyPost_ret (v:=.tuple #[.agg #[.int .i64 0,.int .i64 0,.int .i64 0,.int .i64 0],.int .i64 13]) (by simp [results,Tryz.results164,go_sem,b0,b1,b2,b3]) rfl ⟨rfl,(((HB4.out.setCell (Nat.le_refl _) _).setCell (Nat.le_refl _) _).setCell (Nat.le_refl _) _).setCell (Nat.le_refl _) _⟩
 ·have hd:(E == 0)=false:=by simp [hE]
  have hxe:XE=E:=by rw [←HXE.out,if_neg (fun h=>hE h.1)]
  have hxr:XR=r:=by rw [←HXR.out,if_neg (fun h=>hE h.1)]
  subst hxe hxr
  clear hE HXE HXR
  go_wp2_with fail
  exact bodyPost_ret (v:=.tuple #[.agg #[.int .i64 XR.ep,.int .i64 XR.pg,.int .i64 XR.dr,.int .i64 XR.wd],.int .i64 XE]) (by simp [results,Tryz.results164,go_sem,b0,b1,b2,b3]) rfl ⟨rfl,(((HB4.out.setCell (Nat.le_refl _) _).setCell (Nat.le_refl _) _).setCell (Nat.le_refl _) _).setCell (Nat.le_refl _) _⟩
end
section
set_option maxRecDepth 20000
open Go.RowKit
def set4 (w:World) (q:Nat) (r:Rt):World:=(((w.setCell ⟨q,0,none⟩ (.int .i64 r.ep)).setCell ⟨q,1,none⟩ (.int .i64 r.pg)).setCell ⟨q,2,none⟩ (.int .i64 r.dr)).setCell ⟨q,3,none⟩ (.int .i64 r.wd)
theorem RtAt.set4 {w:World} {q t:Nat} {r0:Rt} (h:RtAt w q t r0) (r:Rt):RtAt (set4 w q r) q t r:=by
 have h1:=heap_setCell_same w q 0 _ _ (.int .i64 r.ep) h
 have h2:=heap_setCell_same _ q 1 _ _ (.int .i64 r.pg) h1
 have h3:=heap_setCell_same _ q 2 _ _ (.int .i64 r.dr) h2
 exact heap_setCell_same _ q 3 _ _ (.int .i64 r.wd) h3
theorem RtAt.set4_other {w:World} {b q t:Nat} {r0:Rt} (h:RtAt w b t r0) (r:Rt) (hq:q≠b):RtAt (Go.Proofs.YtmbecjlioogbhaaGreatDoor.set4 w q r) b t r0:=by
 refine(heap_setCell_other _ ⟨q,3,none⟩ b _ (Ne.symm hq)).trans ?_
 refine(heap_setCell_other _ ⟨q,2,none⟩ b _ (Ne.symm hq)).trans ?_
 refine(heap_setCell_other _ ⟨q,1,none⟩ b _ (Ne.symm hq)).trans ?_
 exact(heap_setCell_other _ ⟨q,0,none⟩ b _ (Ne.symm hq)).trans h
theorem below_set4 {B:Nat} {w0 w:World} (h:Below B w0 w) {q:Nat} (hq:B≤q) (r:Rt):Below B w0 (set4 w q r):=
 (((h.setCell hq _).setCell hq _).setCell hq _).setCell hq _
structure NB (w wr:World) (t q7 q9:Nat) (x y:Rt):Prop where
 b4:RtAt wr w.heap.size t Rt.none_
 b5:RtAt wr (w.heap.size+1) t Rt.none_
 b7:RtAt wr q7 t x
 b9:RtAt wr q9 t y
 below:Below w.heap.size w wr
 l7:w.heap.size+1<q7
 l9:q7<q9
theorem NB.swap {w wr:World} {t q7 q9:Nat} {x y:Rt} (h:NB w wr t q7 q9 x y):NB w (set4 (set4 wr q7 y) q9 x) t q7 q9 y x:=by
 have l7:=h.l7
 have l9:=h.l9
 exact⟨(h.b4.set4_other _ (by omega)).set4_other _ (by omega),(h.b5.set4_other _ (by omega)).set4_other _ (by omega),(h.b7.set4 y).set4_other _ (by omega),(h.b9.set4_other _ (by omega)).set4 x,below_set4 (below_set4 h.below (by omega) _) (by omega) _,h.l7,h.l9⟩
theorem NB.drop9 {w wr:World} {t q7 q9:Nat} {x y:Rt} (h:NB w wr t q7 q9 x y) (z:Rt):NB w (set4 wr q9 z) t q7 q9 x z:=by
 have l7:=h.l7
 have l9:=h.l9
 exact⟨h.b4.set4_other _ (by omega),h.b5.set4_other _ (by omega),h.b7.set4_other _ (by omega),h.b9.set4 z,below_set4 h.below (by omega) _,h.l7,h.l9⟩
theorem NB.make {w w3 w5:World} {t:Nat} {x y:Rt}
  (hb:Below ((w.alloc (.cells #[.int .i64 0,.int .i64 0,.int .i64 0,.int .i64 0] t)).alloc (.cells #[.int .i64 0,.int .i64 0,.int .i64 0,.int .i64 0] t)).heap.size ((w.alloc (.cells #[.int .i64 0,.int .i64 0,.int .i64 0,.int .i64 0] t)).alloc (.cells #[.int .i64 0,.int .i64 0,.int .i64 0,.int .i64 0] t)) w3)
  (hb2:Below (w3.alloc (.cells #[.int .i64 x.ep,.int .i64 x.pg,.int .i64 x.dr,.int .i64 x.wd] t)).heap.size (w3.alloc (.cells #[.int .i64 x.ep,.int .i64 x.pg,.int .i64 x.dr,.int .i64 x.wd] t)) w5) :
  NB w (w5.alloc (.cells #[.int .i64 y.ep,.int .i64 y.pg,.int .i64 y.dr,.int .i64 y.wd] t)) t w3.heap.size w5.heap.size x y:=by
 have h4:RtAt ((w.alloc (.cells #[.int .i64 0,.int .i64 0,.int .i64 0,.int .i64 0] t)).alloc (.cells #[.int .i64 0,.int .i64 0,.int .i64 0,.int .i64 0] t)) w.heap.size t Rt.none_:=heap_alloc2_old w _ _
 have h5:RtAt ((w.alloc (.cells #[.int .i64 0,.int .i64 0,.int .i64 0,.int .i64 0] t)).alloc (.cells #[.int .i64 0,.int .i64 0,.int .i64 0,.int .i64 0] t)) (w.heap.size+1) t Rt.none_:=heap_alloc2_new w _ _
 have hB0:Below w.heap.size w ((w.alloc (.cells #[.int .i64 0,.int .i64 0,.int .i64 0,.int .i64 0] t)).alloc (.cells #[.int .i64 0,.int .i64 0,.int .i64 0,.int .i64 0] t)):=((Below.refl _ _).alloc (Nat.le_refl _) _).alloc (by simp) _
 have a1:∀(u:World) (o:Obj),Below u.heap.size u (u.alloc o):=fun u o=>(Below.refl _ _).alloc (Nat.le_refl _) _
 have s3:=hb.size
 have s5:=hb2.size
 simp at s3 s5
 have hB3:=hB0.trans (Below.mono hb (by simp;omega))
 have hB4:=hB3.trans (Below.mono (a1 w3 (.cells #[.int .i64 x.ep,.int .i64 x.pg,.int .i64 x.dr,.int .i64 x.wd] t)) hB3.size)
 have hB5:=hB4.trans (Below.mono hb2 hB4.size)
 exact⟨(((h4.below hb).below (a1 _ _)).below hb2).below (a1 _ _),(((h5.below hb).below (a1 _ _)).below hb2).below (a1 _ _),((RtAt.new w3 x t).below hb2).below (a1 _ _),RtAt.new w5 y t,hB5.trans (Below.mono (a1 _ _) hB5.size),by omega,by omega⟩
section
variable (A B:ByteArray) (w:World)
set_option maxHeartbeats 800000 in
theorem newest_w0 (x y:Rt) (f:Int)
  (HA:Hid (∀w,Calls Tryz.prog 164 #[.string A,.int .i64 0] w fun e' w'=>e' = .returned (.tuple #[x.val,.int .i64 1])∧Below w.heap.size w w'))
  (HB:Hid (∀w,Calls Tryz.prog 164 #[.string B,.int .i64 4] w fun e' w'=>e' = .returned (.tuple #[y.val,.int .i64 f])∧Below w.heap.size w w')) :
  Calls Tryz.prog 128 #[.string A,.string B] w fun e' w'=>e' = .returned (.tuple #[Rt.none_.val,Rt.none_.val,.int .i64 1])∧Below w.heap.size w w':=by
 unfold Rt.val at *
 go_enter Tryz.func128,Tryz.ntmps128
 go_wp2_with fail
 refine(HA.out _).mono ?_
 rintro e' w3 ⟨rfl,hb⟩
 go_wp2_with fail
 refine(HB.out _).mono ?_
 rintro e' w5 ⟨rfl,hb2⟩
 have HN:Hid (NB w (w5.alloc (.cells #[.int .i64 y.ep,.int .i64 y.pg,.int .i64 y.dr,.int .i64 y.wd] 93)) 93 w3.heap.size w5.heap.size x y):=Lib.hid (NB.make hb hb2)
 go_upto_region 3 with fail
 clear hb hb2 HA HB
 generalize w5.alloc (.cells #[.int .i64 y.ep,.int .i64 y.pg,.int .i64 y.dr,.int .i64 y.wd] 93)=w6 at *
 generalize w3.heap.size=q7 at *
 generalize w5.heap.size=q9 at *
 have k40:=HN.out.b4.c0
 have k41:=HN.out.b4.c1
 have k42:=HN.out.b4.c2
 have k43:=HN.out.b4.c3
 have k50:=HN.out.b5.c0
 have k51:=HN.out.b5.c1
 have k52:=HN.out.b5.c2
 have k53:=HN.out.b5.c3
 have f4:=HN.out.b4.fz
 have f5:=HN.out.b5.fz
 go_wp2_with fail
 have l7:=HN.out.l7
 exact bodyPost_ret (v:=.tuple #[.agg #[.int .i64 0,.int .i64 0,.int .i64 0,.int .i64 0],.agg #[.int .i64 0,.int .i64 0,.int .i64 0,.int .i64 0],.int .i64 1]) (by simp [results,Tryz.results128,go_sem,k40,k41,k42,k43,k50,k51,k52,k53]) rfl ⟨rfl,by
  repeat' refine Below.setCell ?_ (by first | exact Nat.le_refl _ | exact Nat.le_succ _) _
  first | exact HN.out.below | exact HN.out.below.drew⟩
set_option maxHeartbeats 800000 in
theorem newest_w1 (x y:Rt) (e:Int)
  (HA:Hid (∀w,Calls Tryz.prog 164 #[.string A,.int .i64 0] w fun e' w'=>e' = .returned (.tuple #[x.val,.int .i64 e])∧Below w.heap.size w w'))
  (HB:Hid (∀w,Calls Tryz.prog 164 #[.string B,.int .i64 4] w fun e' w'=>e' = .returned (.tuple #[y.val,.int .i64 1])∧Below w.heap.size w w')) (h1:(e == 1)=false) :
  Calls Tryz.prog 128 #[.string A,.string B] w fun e' w'=>e' = .returned (.tuple #[Rt.none_.val,Rt.none_.val,.int .i64 1])∧Below w.heap.size w w':=by
 unfold Rt.val at *
 go_enter Tryz.func128,Tryz.ntmps128
 go_wp2_with fail
 refine(HA.out _).mono ?_
 rintro e' w3 ⟨rfl,hb⟩
 go_wp2_with fail
 refine(HB.out _).mono ?_
 rintro e' w5 ⟨rfl,hb2⟩
 have HN:Hid (NB w (w5.alloc (.cells #[.int .i64 y.ep,.int .i64 y.pg,.int .i64 y.dr,.int .i64 y.wd] 93)) 93 w3.heap.size w5.heap.size x y):=Lib.hid (NB.make hb hb2)
 go_upto_region 3 with fail
 clear hb hb2 HA HB
 generalize w5.alloc (.cells #[.int .i64 y.ep,.int .i64 y.pg,.int .i64 y.dr,.int .i64 y.wd] 93)=w6 at *
 generalize w3.heap.size=q7 at *
 generalize w5.heap.size=q9 at *
 have k40:=HN.out.b4.c0
 have k41:=HN.out.b4.c1
 have k42:=HN.out.b4.c2
 have k43:=HN.out.b4.c3
 have k50:=HN.out.b5.c0
 have k51:=HN.out.b5.c1
 have k52:=HN.out.b5.c2
 have k53:=HN.out.b5.c3
 have f4:=HN.out.b4.fz
 have f5:=HN.out.b5.fz
 go_wp2_with fail
 have l7:=HN.out.l7
 exact bodyPost_ret (v:=.tuple #[.agg #[.int .i64 0,.int .i64 0,.int .i64 0,.int .i64 0],.agg #[.int .i64 0,.int .i64 0,.int .i64 0,.int .i64 0],.int .i64 1]) (by simp [results,Tryz.results128,go_sem,k40,k41,k42,k43,k50,k51,k52,k53]) rfl ⟨rfl,by
  repeat' refine Below.setCell ?_ (by first | exact Nat.le_refl _ | exact Nat.le_succ _) _
  first | exact HN.out.below | exact HN.out.below.drew⟩
set_option maxHeartbeats 800000 in
theorem newest_w2 (e f:Int)
  (HA:Hid (∀w,Calls Tryz.prog 164 #[.string A,.int .i64 0] w fun e' w'=>e' = .returned (.tuple #[Rt.none_.val,.int .i64 e])∧Below w.heap.size w w'))
  (HB:Hid (∀w,Calls Tryz.prog 164 #[.string B,.int .i64 4] w fun e' w'=>e' = .returned (.tuple #[Rt.none_.val,.int .i64 f])∧Below w.heap.size w w')) (h1:(e == 1)=false) (h2:(f == 1)=false) :
  Calls Tryz.prog 128 #[.string A,.string B] w fun e' w'=>e' = .returned (.tuple #[Rt.none_.val,Rt.none_.val,.int .i64 (withE e f)])∧Below w.heap.size w w':=by
 have HW:=Lib.hid (fun w=>without_any e f w)
 generalize withE e f=V at *
 unfold Rt.val at *
 go_enter Tryz.func128,Tryz.ntmps128
 go_wp2_with fail
 refine(HA.out _).mono ?_
 rintro e' w3 ⟨rfl,hb⟩
 go_wp2_with fail
 refine(HB.out _).mono ?_
 rintro e' w5 ⟨rfl,hb2⟩
 have HN:Hid (NB w (w5.alloc (.cells #[.int .i64 Rt.none_.ep,.int .i64 Rt.none_.pg,.int .i64 Rt.none_.dr,.int .i64 Rt.none_.wd] 93)) 93 w3.heap.size w5.heap.size Rt.none_ Rt.none_):=Lib.hid (NB.make hb hb2)
 go_upto_region 3 with fail
 clear hb hb2 HA HB
 generalize w5.alloc (.cells #[.int .i64 Rt.none_.ep,.int .i64 Rt.none_.pg,.int .i64 Rt.none_.dr,.int .i64 Rt.none_.wd] 93)=w6 at *
 generalize w3.heap.size=q7 at *
 generalize w5.heap.size=q9 at *
 have k70:w6.cell? ⟨q7,0,none⟩=some (.int .i64 0):=HN.out.b7.c0
 have k71:w6.cell? ⟨q7,1,none⟩=some (.int .i64 0):=HN.out.b7.c1
 have k72:w6.cell? ⟨q7,2,none⟩=some (.int .i64 0):=HN.out.b7.c2
 have k73:w6.cell? ⟨q7,3,none⟩=some (.int .i64 0):=HN.out.b7.c3
 have k90:w6.cell? ⟨q9,0,none⟩=some (.int .i64 0):=HN.out.b9.c0
 have k40:=HN.out.b4.c0
 have k41:=HN.out.b4.c1
 have k42:=HN.out.b4.c2
 have k43:=HN.out.b4.c3
 have k50:=HN.out.b5.c0
 have k51:=HN.out.b5.c1
 have k52:=HN.out.b5.c2
 have k53:=HN.out.b5.c3
 have f4:=HN.out.b4.fz
 have f5:=HN.out.b5.fz
 go_wp2_with (go_at_call 165;refine(HW.out _).mono ?_;rintro e w7 ⟨rfl,rfl⟩)
 have l7:=HN.out.l7
 exact bodyPost_ret (v:=.tuple #[.agg #[.int .i64 0,.int .i64 0,.int .i64 0,.int .i64 0],.agg #[.int .i64 0,.int .i64 0,.int .i64 0,.int .i64 0],.int .i64 V]) (by simp [results,Tryz.results128,go_sem,k40,k41,k42,k43,k50,k51,k52,k53]) rfl ⟨rfl,by
  repeat' refine Below.setCell ?_ (by first | exact Nat.le_refl _ | exact Nat.le_succ _) _
  first | exact HN.out.below | exact HN.out.below.drew⟩
set_option maxHeartbeats 1600000 in
theorem newest_w3k (x y:Rt) (e f:Int)
  (HA:Hid (∀w,Calls Tryz.prog 164 #[.string A,.int .i64 0] w fun e' w'=>e' = .returned (.tuple #[x.val,.int .i64 e])∧Below w.heap.size w w'))
  (HB:Hid (∀w,Calls Tryz.prog 164 #[.string B,.int .i64 4] w fun e' w'=>e' = .returned (.tuple #[y.val,.int .i64 f])∧Below w.heap.size w w')) (h1:(e == 1)=false) (h2:(f == 1)=false) (h3:¬ x.ep<y.ep) (h4:¬ x.ep=0) (h5:0≤x.ep) (h6:x.ep≤4611686018427387904) (h7:(y.ep != x.ep - 1)=false) :
  Calls Tryz.prog 128 #[.string A,.string B] w fun e' w'=>e' = .returned (.tuple #[x.val,y.val,.int .i64 0])∧Below w.heap.size w w':=by
 unfold Rt.val at *
 go_enter Tryz.func128,Tryz.ntmps128
 go_wp2_with fail
 refine(HA.out _).mono ?_
 rintro e' w3 ⟨rfl,hb⟩
 go_wp2_with fail
 refine(HB.out _).mono ?_
 rintro e' w5 ⟨rfl,hb2⟩
 have HN:Hid (NB w (w5.alloc (.cells #[.int .i64 y.ep,.int .i64 y.pg,.int .i64 y.dr,.int .i64 y.wd] 93)) 93 w3.heap.size w5.heap.size x y):=Lib.hid (NB.make hb hb2)
 go_upto_region 3 with fail
 clear hb hb2 HA HB
 generalize w5.alloc (.cells #[.int .i64 y.ep,.int .i64 y.pg,.int .i64 y.dr,.int .i64 y.wd] 93)=w6 at *
 generalize w3.heap.size=q7 at *
 generalize w5.heap.size=q9 at *
 have HM:=HN
 clear HN
 have k70:=HM.out.b7.c0
 have k71:=HM.out.b7.c1
 have k72:=HM.out.b7.c2
 have k73:=HM.out.b7.c3
 have k90:=HM.out.b9.c0
 have k91:=HM.out.b9.c1
 have k92:=HM.out.b9.c2
 have k93:=HM.out.b9.c3
 have f7:=HM.out.b7.fz
 have f9:=HM.out.b9.fz
 have l9:q7≠q9:=Nat.ne_of_lt HM.out.l9
 go_upto_region 11 with fail
 have k40:=HM.out.b4.c0
 have k41:=HM.out.b4.c1
 have k42:=HM.out.b4.c2
 have k43:=HM.out.b4.c3
 have k50:=HM.out.b5.c0
 have k51:=HM.out.b5.c1
 have k52:=HM.out.b5.c2
 have k53:=HM.out.b5.c3
 have f4:=HM.out.b4.fz
 have f5:=HM.out.b5.fz
 have l7:=HM.out.l7
 have l8:=HM.out.l9
 have n47:q7≠w.heap.size:=by omega
 have n57:q7≠w.heap.size+1:=by omega
 have n49:q9≠w.heap.size:=by omega
 have n59:q9≠w.heap.size+1:=by omega
 have HF:Hid (Below w.heap.size w (set4 (set4 w6 w.heap.size x) (w.heap.size+1) y)):=Lib.hid (below_set4 (below_set4 HM.out.below (Nat.le_refl _) _) (Nat.le_succ _) _)
 unfold set4 at HF
 clear HM h1 h2 h4 h5 h6 h7
 go_region_with (fail)
 all_goals
  go_wp2_with fail
  exact bodyPost_ret (v:=.tuple #[.agg #[.int .i64 x.ep,.int .i64 x.pg,.int .i64 x.dr,.int .i64 x.wd],.agg #[.int .i64 y.ep,.int .i64 y.pg,.int .i64 y.dr,.int .i64 y.wd],.int .i64 0]) (by simp [results,Tryz.results128,go_sem,k40,k41,k42,k43,k50,k51,k52,k53]) rfl ⟨rfl,by first | exact HF.out.drew | exact HF.out⟩
set_option maxHeartbeats 1600000 in
theorem newest_w3d (x y:Rt) (e f:Int)
  (HA:Hid (∀w,Calls Tryz.prog 164 #[.string A,.int .i64 0] w fun e' w'=>e' = .returned (.tuple #[x.val,.int .i64 e])∧Below w.heap.size w w'))
  (HB:Hid (∀w,Calls Tryz.prog 164 #[.string B,.int .i64 4] w fun e' w'=>e' = .returned (.tuple #[y.val,.int .i64 f])∧Below w.heap.size w w')) (h1:(e == 1)=false) (h2:(f == 1)=false) (h3:¬ x.ep<y.ep) (h4:¬ x.ep=0) (h5:0≤x.ep) (h6:x.ep≤4611686018427387904) (h7:(y.ep != x.ep - 1)=true) :
  Calls Tryz.prog 128 #[.string A,.string B] w fun e' w'=>e' = .returned (.tuple #[x.val,Rt.none_.val,.int .i64 0])∧Below w.heap.size w w':=by
 unfold Rt.val at *
 go_enter Tryz.func128,Tryz.ntmps128
 go_wp2_with fail
 refine(HA.out _).mono ?_
 rintro e' w3 ⟨rfl,hb⟩
 go_wp2_with fail
 refine(HB.out _).mono ?_
 rintro e' w5 ⟨rfl,hb2⟩
 have HN:Hid (NB w (w5.alloc (.cells #[.int .i64 y.ep,.int .i64 y.pg,.int .i64 y.dr,.int .i64 y.wd] 93)) 93 w3.heap.size w5.heap.size x y):=Lib.hid (NB.make hb hb2)
 go_upto_region 3 with fail
 clear hb hb2 HA HB
 generalize w5.alloc (.cells #[.int .i64 y.ep,.int .i64 y.pg,.int .i64 y.dr,.int .i64 y.wd] 93)=w6 at *
 generalize w3.heap.size=q7 at *
 generalize w5.heap.size=q9 at *
 have HM:=HN
 clear HN
 have k70:=HM.out.b7.c0
 have k71:=HM.out.b7.c1
 have k72:=HM.out.b7.c2
 have k73:=HM.out.b7.c3
 have k90:=HM.out.b9.c0
 have k91:=HM.out.b9.c1
 have k92:=HM.out.b9.c2
 have k93:=HM.out.b9.c3
 have f7:=HM.out.b7.fz
 have f9:=HM.out.b9.fz
 have l9:q7≠q9:=Nat.ne_of_lt HM.out.l9
 go_upto_region 11 with fail
 have HQ:=Lib.hid (HM.out.drop9 Rt.none_)
 unfold set4 at HQ
 clear k70 k71 k72 k73 k90 k91 k92 k93 f7 f9 HM
 change Code.wp _ _ _ _ ((((World.setCell _ _ (.int .i64 Rt.none_.ep)).setCell _ (.int .i64 Rt.none_.pg)).setCell _ (.int .i64 Rt.none_.dr)).setCell _ (.int .i64 Rt.none_.wd))
 generalize World.setCell _ _ (.int .i64 Rt.none_.wd)=w8 at *
 have k70:=HQ.out.b7.c0
 have k71:=HQ.out.b7.c1
 have k72:=HQ.out.b7.c2
 have k73:=HQ.out.b7.c3
 have k90:w8.cell? ⟨q9,0,none⟩=some (.int .i64 0):=HQ.out.b9.c0
 have k91:w8.cell? ⟨q9,1,none⟩=some (.int .i64 0):=HQ.out.b9.c1
 have k92:w8.cell? ⟨q9,2,none⟩=some (.int .i64 0):=HQ.out.b9.c2
 have k93:w8.cell? ⟨q9,3,none⟩=some (.int .i64 0):=HQ.out.b9.c3
 have f7:=HQ.out.b7.fz
 have f9:=HQ.out.b9.fz
 have k40:=HQ.out.b4.c0
 have k41:=HQ.out.b4.c1
 have k42:=HQ.out.b4.c2
 have k43:=HQ.out.b4.c3
 have k50:=HQ.out.b5.c0
 have k51:=HQ.out.b5.c1
 have k52:=HQ.out.b5.c2
 have k53:=HQ.out.b5.c3
 have f4:=HQ.out.b4.fz
 have f5:=HQ.out.b5.fz
 have l7:=HQ.out.l7
 have l8:=HQ.out.l9
 have n47:q7≠w.heap.size:=by omega
 have n57:q7≠w.heap.size+1:=by omega
 have n49:q9≠w.heap.size:=by omega
 have n59:q9≠w.heap.size+1:=by omega
 have HF:Hid (Below w.heap.size w (set4 (set4 w8 w.heap.size x) (w.heap.size+1) Rt.none_)):=Lib.hid (below_set4 (below_set4 HQ.out.below (Nat.le_refl _) _) (Nat.le_succ _) _)
 unfold set4 Rt.none_ at HF
 clear HQ h1 h2 h4 h5 h6 h7
 go_region_with (fail)
 all_goals
  go_wp2_with fail
  exact bodyPost_ret (v:=.tuple #[.agg #[.int .i64 x.ep,.int .i64 x.pg,.int .i64 x.dr,.int .i64 x.wd],.agg #[.int .i64 0,.int .i64 0,.int .i64 0,.int .i64 0],.int .i64 0]) (by simp [results,Tryz.results128,go_sem,k40,k41,k42,k43,k50,k51,k52,k53]) rfl ⟨rfl,by first | exact HF.out.drew | exact HF.out⟩
set_option maxHeartbeats 1600000 in
theorem newest_w4k (x y:Rt) (e f:Int)
  (HA:Hid (∀w,Calls Tryz.prog 164 #[.string A,.int .i64 0] w fun e' w'=>e' = .returned (.tuple #[x.val,.int .i64 e])∧Below w.heap.size w w'))
  (HB:Hid (∀w,Calls Tryz.prog 164 #[.string B,.int .i64 4] w fun e' w'=>e' = .returned (.tuple #[y.val,.int .i64 f])∧Below w.heap.size w w')) (h1:(e == 1)=false) (h2:(f == 1)=false) (h3:x.ep<y.ep) (h4:¬ y.ep=0) (h5:0≤y.ep) (h6:y.ep≤4611686018427387904) (h7:(x.ep != y.ep - 1)=false) :
  Calls Tryz.prog 128 #[.string A,.string B] w fun e' w'=>e' = .returned (.tuple #[y.val,x.val,.int .i64 0])∧Below w.heap.size w w':=by
 unfold Rt.val at *
 go_enter Tryz.func128,Tryz.ntmps128
 go_wp2_with fail
 refine(HA.out _).mono ?_
 rintro e' w3 ⟨rfl,hb⟩
 go_wp2_with fail
 refine(HB.out _).mono ?_
 rintro e' w5 ⟨rfl,hb2⟩
 have HN:Hid (NB w (w5.alloc (.cells #[.int .i64 y.ep,.int .i64 y.pg,.int .i64 y.dr,.int .i64 y.wd] 93)) 93 w3.heap.size w5.heap.size x y):=Lib.hid (NB.make hb hb2)
 go_upto_region 3 with fail
 clear hb hb2 HA HB
 generalize w5.alloc (.cells #[.int .i64 y.ep,.int .i64 y.pg,.int .i64 y.dr,.int .i64 y.wd] 93)=w6 at *
 generalize w3.heap.size=q7 at *
 generalize w5.heap.size=q9 at *
 have k70:=HN.out.b7.c0
 have k71:=HN.out.b7.c1
 have k72:=HN.out.b7.c2
 have k73:=HN.out.b7.c3
 have k90:=HN.out.b9.c0
 have k91:=HN.out.b9.c1
 have k92:=HN.out.b9.c2
 have k93:=HN.out.b9.c3
 have f7:=HN.out.b7.fz
 have f9:=HN.out.b9.fz
 have l9:q7≠q9:=Nat.ne_of_lt HN.out.l9
 go_upto_region 7 with fail
 have HM:=Lib.hid HN.out.swap
 unfold set4 at HM
 clear k70 k71 k72 k73 k90 k91 k92 k93 f7 f9 HN h3
 generalize World.setCell _ _ _=w7 at *
 have k70:=HM.out.b7.c0
 have k71:=HM.out.b7.c1
 have k72:=HM.out.b7.c2
 have k73:=HM.out.b7.c3
 have k90:=HM.out.b9.c0
 have k91:=HM.out.b9.c1
 have k92:=HM.out.b9.c2
 have k93:=HM.out.b9.c3
 have f7:=HM.out.b7.fz
 have f9:=HM.out.b9.fz
 have l9:q7≠q9:=Nat.ne_of_lt HM.out.l9
 go_upto_region 11 with fail
 have k40:=HM.out.b4.c0
 have k41:=HM.out.b4.c1
 have k42:=HM.out.b4.c2
 have k43:=HM.out.b4.c3
 have k50:=HM.out.b5.c0
 have k51:=HM.out.b5.c1
 have k52:=HM.out.b5.c2
 have k53:=HM.out.b5.c3
 have f4:=HM.out.b4.fz
 have f5:=HM.out.b5.fz
 have l7:=HM.out.l7
 have l8:=HM.out.l9
 have n47:q7≠w.heap.size:=by omega
 have n57:q7≠w.heap.size+1:=by omega
 have n49:q9≠w.heap.size:=by omega
 have n59:q9≠w.heap.size+1:=by omega
 have HF:Hid (Below w.heap.size w (set4 (set4 w7 w.heap.size y) (w.heap.size+1) x)):=Lib.hid (below_set4 (below_set4 HM.out.below (Nat.le_refl _) _) (Nat.le_succ _) _)
 unfold set4 at HF
 clear HM h1 h2 h4 h5 h6 h7
 go_region_with (fail)
 all_goals
  go_wp2_with fail
  exact bodyPost_ret (v:=.tuple #[.agg #[.int .i64 y.ep,.int .i64 y.pg,.int .i64 y.dr,.int .i64 y.wd],.agg #[.int .i64 x.ep,.int .i64 x.pg,.int .i64 x.dr,.int .i64 x.wd],.int .i64 0]) (by simp [results,Tryz.results128,go_sem,k40,k41,k42,k43,k50,k51,k52,k53]) rfl ⟨rfl,by first | exact HF.out.drew | exact HF.out⟩
set_option maxHeartbeats 1600000 in
theorem newest_w4d (x y:Rt) (e f:Int)
  (HA:Hid (∀w,Calls Tryz.prog 164 #[.string A,.int .i64 0] w fun e' w'=>e' = .returned (.tuple #[x.val,.int .i64 e])∧Below w.heap.size w w'))
  (HB:Hid (∀w,Calls Tryz.prog 164 #[.string B,.int .i64 4] w fun e' w'=>e' = .returned (.tuple #[y.val,.int .i64 f])∧Below w.heap.size w w')) (h1:(e == 1)=false) (h2:(f == 1)=false) (h3:x.ep<y.ep) (h4:¬ y.ep=0) (h5:0≤y.ep) (h6:y.ep≤4611686018427387904) (h7:(x.ep != y.ep - 1)=true) :
  Calls Tryz.prog 128 #[.string A,.string B] w fun e' w'=>e' = .returned (.tuple #[y.val,Rt.none_.val,.int .i64 0])∧Below w.heap.size w w':=by
 unfold Rt.val at *
 go_enter Tryz.func128,Tryz.ntmps128
 go_wp2_with fail
 refine(HA.out _).mono ?_
 rintro e' w3 ⟨rfl,hb⟩
 go_wp2_with fail
 refine(HB.out _).mono ?_
 rintro e' w5 ⟨rfl,hb2⟩
 have HN:Hid (NB w (w5.alloc (.cells #[.int .i64 y.ep,.int .i64 y.pg,.int .i64 y.dr,.int .i64 y.wd] 93)) 93 w3.heap.size w5.heap.size x y):=Lib.hid (NB.make hb hb2)
 go_upto_region 3 with fail
 clear hb hb2 HA HB
 generalize w5.alloc (.cells #[.int .i64 y.ep,.int .i64 y.pg,.int .i64 y.dr,.int .i64 y.wd] 93)=w6 at *
 generalize w3.heap.size=q7 at *
 generalize w5.heap.size=q9 at *
 have k70:=HN.out.b7.c0
 have k71:=HN.out.b7.c1
 have k72:=HN.out.b7.c2
 have k73:=HN.out.b7.c3
 have k90:=HN.out.b9.c0
 have k91:=HN.out.b9.c1
 have k92:=HN.out.b9.c2
 have k93:=HN.out.b9.c3
 have f7:=HN.out.b7.fz
 have f9:=HN.out.b9.fz
 have l9:q7≠q9:=Nat.ne_of_lt HN.out.l9
 go_upto_region 7 with fail
 have HM:=Lib.hid HN.out.swap
 unfold set4 at HM
 clear k70 k71 k72 k73 k90 k91 k92 k93 f7 f9 HN h3
 generalize World.setCell _ _ _=w7 at *
 have k70:=HM.out.b7.c0
 have k71:=HM.out.b7.c1
 have k72:=HM.out.b7.c2
 have k73:=HM.out.b7.c3
 have k90:=HM.out.b9.c0
 have k91:=HM.out.b9.c1
 have k92:=HM.out.b9.c2
 have k93:=HM.out.b9.c3
 have f7:=HM.out.b7.fz
 have f9:=HM.out.b9.fz
 have l9:q7≠q9:=Nat.ne_of_lt HM.out.l9
 go_upto_region 11 with fail
 have HQ:=Lib.hid (HM.out.drop9 Rt.none_)
 unfold set4 at HQ
 clear k70 k71 k72 k73 k90 k91 k92 k93 f7 f9 HM
 change Code.wp _ _ _ _ ((((World.setCell _ _ (.int .i64 Rt.none_.ep)).setCell _ (.int .i64 Rt.none_.pg)).setCell _ (.int .i64 Rt.none_.dr)).setCell _ (.int .i64 Rt.none_.wd))
 generalize World.setCell _ _ (.int .i64 Rt.none_.wd)=w8 at *
 have k70:=HQ.out.b7.c0
 have k71:=HQ.out.b7.c1
 have k72:=HQ.out.b7.c2
 have k73:=HQ.out.b7.c3
 have k90:w8.cell? ⟨q9,0,none⟩=some (.int .i64 0):=HQ.out.b9.c0
 have k91:w8.cell? ⟨q9,1,none⟩=some (.int .i64 0):=HQ.out.b9.c1
 have k92:w8.cell? ⟨q9,2,none⟩=some (.int .i64 0):=HQ.out.b9.c2
 have k93:w8.cell? ⟨q9,3,none⟩=some (.int .i64 0):=HQ.out.b9.c3
 have f7:=HQ.out.b7.fz
 have f9:=HQ.out.b9.fz
 have k40:=HQ.out.b4.c0
 have k41:=HQ.out.b4.c1
 have k42:=HQ.out.b4.c2
 have k43:=HQ.out.b4.c3
 have k50:=HQ.out.b5.c0
 have k51:=HQ.out.b5.c1
 have k52:=HQ.out.b5.c2
 have k53:=HQ.out.b5.c3
 have f4:=HQ.out.b4.fz
 have f5:=HQ.out.b5.fz
 have l7:=HQ.out.l7
 have l8:=HQ.out.l9
 have n47:q7≠w.heap.size:=by omega
 have n57:q7≠w.heap.size+1:=by omega
 have n49:q9≠w.heap.size:=by omega
 have n59:q9≠w.heap.size+1:=by omega
 have HF:Hid (Below w.heap.size w (set4 (set4 w8 w.heap.size y) (w.heap.size+1) Rt.none_)):=Lib.hid (below_set4 (below_set4 HQ.out.below (Nat.le_refl _) _) (Nat.le_succ _) _)
 unfold set4 Rt.none_ at HF
 clear HQ h1 h2 h4 h5 h6 h7
 go_region_with (fail)
 all_goals
  go_wp2_with fail
  exact bodyPost_ret (v:=.tuple #[.agg #[.int .i64 y.ep,.int .i64 y.pg,.int .i64 y.dr,.int .i64 y.wd],.agg #[.int .i64 0,.int .i64 0,.int .i64 0,.int .i64 0],.int .i64 0]) (by simp [results,Tryz.results128,go_sem,k40,k41,k42,k43,k50,k51,k52,k53]) rfl ⟨rfl,by first | exact HF.out.drew | exact HF.out⟩
theorem nw_bad {a b:List Nat} (h:plE a 0=1∨plE b 4=1):nwE a b=1∧nwA a b=Rt.none_∧nwB a b=Rt.none_:=by
 have hE:nwE a b=1:=by unfold nwE;rw [if_pos h]
 exact⟨hE,by unfold nwA;rw [if_neg (by rw [hE];omega)],by unfold nwB;rw [if_neg (by rw [hE];omega)]⟩
theorem withE_ne (e f:Int):withE e f≠0:=by unfold withE;split <;> omega
theorem nw_none {a b:List Nat} (h1:plE a 0≠1) (h2:plE b 4≠1) (h3:plE a 0≠0) (h4:plE b 4≠0):nwE a b=withE (plE a 0) (plE b 4)∧nwA a b=Rt.none_∧nwB a b=Rt.none_:=by
 have hE:nwE a b=withE (plE a 0) (plE b 4):=by unfold nwE;rw [if_neg (fun h=>h.elim h1 h2),if_neg (fun h=>h.elim h3 h4)]
 have hw:=withE_ne (plE a 0) (plE b 4)
 exact⟨hE,by unfold nwA;rw [if_neg (by rw [hE];exact hw)],by unfold nwB;rw [if_neg (by rw [hE];exact hw)]⟩
theorem nw_some {a b:List Nat} (h1:plE a 0≠1) (h2:plE b 4≠1) (h3:plE a 0=0∨plE b 4=0) :
  nwE a b=0∧nwA a b=(if first_ a b then plR a 0 else plR b 4)∧nwB a b=(if first_ a b then pre (plR a 0) (plR b 4) else pre (plR b 4) (plR a 0)):=by
 have hE:nwE a b=0:=by unfold nwE;rw [if_neg (fun h=>h.elim h1 h2),if_pos h3]
 exact⟨hE,by unfold nwA;rw [if_pos hE],by unfold nwB;rw [if_pos hE]⟩
theorem nw_pick {a b:List Nat} (_h1:plE a 0≠1) (_h2:plE b 4≠1) (h3:plE a 0=0∨plE b 4=0) :
  (first_ a b∧¬ (plR a 0).ep<(plR b 4).ep∧Mays (plR a 0)∧0≤(plR b 4).ep)∨(¬ first_ a b∧(plR a 0).ep<(plR b 4).ep∧Mays (plR b 4)∧0≤(plR a 0).ep):=by
 by_cases ha:plE a 0=0
 ·have hm:=(pl_ok ha).2.2.2
  have e0:=hm.e0
  by_cases hb:plE b 4=0
  ·have hm2:=(pl_ok hb).2.2.2
   have e2:=hm2.e0
   have p1:=pl_even ha
   have p2:=pl_odd hb
   by_cases hl:(plR b 4).ep<(plR a 0).ep
   ·exact .inl ⟨⟨ha,.inr hl⟩,by omega,hm,by omega⟩
   ·exact .inr ⟨fun h=>h.2.elim (fun h=>h hb) hl,by omega,hm2,by omega⟩
  ·have hn:=pl_no hb
   refine .inl ⟨⟨ha,.inl hb⟩,?_,hm,?_⟩
   ·rw [hn];show ¬ _<(0:Int);omega
   ·rw [hn];exact Int.le_refl 0
 ·have hb:=h3.resolve_left ha
  have hm:=(pl_ok hb).2.2.2
  have e0:=hm.e0
  have hn:=pl_no ha
  refine .inr ⟨fun h=>ha h.1,?_,hm,?_⟩
  ·rw [hn];show (0:Int)<_;omega
  ·rw [hn];exact Int.le_refl 0
theorem newest_any (a b:List Nat) (hA:IsS A a) (hB:IsS B b) :
  Calls Tryz.prog 128 #[.string A,.string B] w fun e' w'=>e' = .returned (.tuple #[(nwA a b).val,(nwB a b).val,.int .i64 (nwE a b)])∧Below w.heap.size w w':=by
 have HA:=Lib.hid (fun w=>placed_any A a 0 w hA)
 have HB:=Lib.hid (fun w=>placed_any B b 4 w hB)
 by_cases h1:plE a 0=1
 ·obtain⟨r1,r2,r3⟩:=nw_bad (b:=b) (Or.inl h1)
  rw [r1,r2,r3]
  rw [h1] at HA
  exact newest_w0 A B w _ _ _ HA HB
 ·have k1:(plE a 0 == 1)=false:=by rw [beq_eq_false_iff_ne];exact h1
  by_cases h2:plE b 4=1
  ·obtain⟨r1,r2,r3⟩:=nw_bad (a:=a) (Or.inr h2)
   rw [r1,r2,r3]
   rw [h2] at HB
   exact newest_w1 A B w _ _ _ HA HB k1
  ·have k2:(plE b 4 == 1)=false:=by rw [beq_eq_false_iff_ne];exact h2
   by_cases h3:plE a 0=0∨plE b 4=0
   ·obtain⟨r1,r2,r3⟩:=nw_some h1 h2 h3
    rw [r1,r2,r3]
    rcases nw_pick h1 h2 h3 with ⟨hf,hl,hm,_⟩ | ⟨hf,hl,hm,_⟩
    ·rw [if_pos hf,if_pos hf]
     have e0:=hm.e0
     by_cases hk:(plR b 4).ep=(plR a 0).ep - 1
     ·rw [show pre (plR a 0) (plR b 4)=plR b 4 by unfold pre;rw [if_pos hk]]
      exact newest_w3k A B w _ _ _ _ HA HB k1 k2 hl (by omega) (by omega) hm.e1 (by simp [hk])
     ·rw [show pre (plR a 0) (plR b 4)=Rt.none_ by unfold pre;rw [if_neg hk]]
      exact newest_w3d A B w _ _ _ _ HA HB k1 k2 hl (by omega) (by omega) hm.e1 (by simp [hk])
    ·rw [if_neg hf,if_neg hf]
     have e0:=hm.e0
     by_cases hk:(plR a 0).ep=(plR b 4).ep - 1
     ·rw [show pre (plR b 4) (plR a 0)=plR a 0 by unfold pre;rw [if_pos hk]]
      exact newest_w4k A B w _ _ _ _ HA HB k1 k2 hl (by omega) (by omega) hm.e1 (by simp [hk])
     ·rw [show pre (plR b 4) (plR a 0)=Rt.none_ by unfold pre;rw [if_neg hk]]
      exact newest_w4d A B w _ _ _ _ HA HB k1 k2 hl (by omega) (by omega) hm.e1 (by simp [hk])
   ·have h3a:plE a 0≠0:=fun h=>h3 (.inl h)
    have h3b:plE b 4≠0:=fun h=>h3 (.inr h)
    obtain⟨r1,r2,r3⟩:=nw_none h1 h2 h3a h3b
    rw [r1,r2,r3]
    rw [pl_no h3a] at HA
    rw [pl_no h3b] at HB
    exact newest_w2 A B w _ _ HA HB k1 k2
end
end
section
open Go.RowKit
section
variable {w:World} {g bO cO bL cL:Nat} {vW:Value} {os ls:List Value} {ws:List Vw} {m:Dsk}
theorem Dk0.c0 (h:Dk0 w g bO cO bL cL vW os ls ws m):w.cell? ⟨g,0,none⟩=some (.slice (some ⟨bO,0,none⟩) m.out.length cO):=by rw [cell_of_row w g 0 _ _ _ h.hd];rfl
theorem Dk0.c1 (h:Dk0 w g bO cO bL cL vW os ls ws m):w.cell? ⟨g,1,none⟩=some (.slice (some ⟨bL,0,none⟩) m.out.length cL):=by rw [cell_of_row w g 1 _ _ _ h.hd];rfl
theorem Dk0.c2 (h:Dk0 w g bO cO bL cL vW os ls ws m):w.cell? ⟨g,2,none⟩=some vW:=by rw [cell_of_row w g 2 _ _ _ h.hd];rfl
theorem Dk0.c3 (h:Dk0 w g bO cO bL cL vW os ls ws m):w.cell? ⟨g,3,none⟩=some (.int .i64 m.fuse):=by rw [cell_of_row w g 3 _ _ _ h.hd];rfl
theorem Dk0.c4 (h:Dk0 w g bO cO bL cL vW os ls ws m):w.cell? ⟨g,4,none⟩=some (.bool m.down):=by rw [cell_of_row w g 4 _ _ _ h.hd];rfl
theorem Dk0.c5 (h:Dk0 w g bO cO bL cL vW os ls ws m):w.cell? ⟨g,5,none⟩=some (.int .i64 (m.done:Int)):=by rw [cell_of_row w g 5 _ _ _ h.hd];rfl
theorem Dk0.fz (h:Dk0 w g bO cO bL cL vW os ls ws m) (i:Nat):w.frozen? ⟨g,i,none⟩=false:=frozen_of_row w g i _ _ h.hd
theorem Dk0.lt (h:Dk0 w g bO cO bL cL vW os ls ws m):g<w.heap.size:=lt_of_block h.hd
theorem ne_of_ty {a b:Nat} {cs ds:Array Value} {t u:Nat} {fr fs:Nat × Nat} (h:w.heap[a]?=some (.cells cs t fr)) (k:w.heap[b]?=some (.cells ds u fs)) (ht:t≠u):a≠b:=by
 rintro rfl
 rw [h] at k
 cases k
 exact ht rfl
theorem Dk0.ne_gO (h:Dk0 w g bO cO bL cL vW os ls ws m):g≠bO:=by obtain⟨cur,hc⟩:=own_head h.ro rfl;exact ne_of_ty h.hd hc (by decide)
theorem Dk0.ne_gL (h:Dk0 w g bO cO bL cL vW os ls ws m):g≠bL:=by obtain⟨cur,hc⟩:=own_head h.rl rfl;exact ne_of_ty h.hd hc (by decide)
theorem Dk0.ne_gW (h:Dk0 w g bO cO bL cL vW os ls ws m):∀k,vW.ownBlock=some k→g≠k:=fun k hk=>by obtain⟨cur,hc⟩:=own_head h.rw_ hk;exact ne_of_ty h.hd hc (by decide)
theorem Dk0.ne_OW (h:Dk0 w g bO cO bL cL vW os ls ws m):∀k,vW.ownBlock=some k→bO≠k:=fun k hk=>by obtain⟨cur,hc⟩:=own_head h.rw_ hk;obtain⟨cur2,hc2⟩:=own_head h.ro rfl;exact ne_of_ty hc2 hc (by decide)
theorem Dk0.ne_LW (h:Dk0 w g bO cO bL cL vW os ls ws m):∀k,vW.ownBlock=some k→bL≠k:=fun k hk=>by obtain⟨cur,hc⟩:=own_head h.rw_ hk;obtain⟨cur2,hc2⟩:=own_head h.rl rfl;exact ne_of_ty hc2 hc (by decide)
theorem Dk0.typedG (h:Dk0 w g bO cO bL cL vW os ls ws m):Typed w [g]:=fun k hk=>by obtain rfl:=List.mem_singleton.1 hk;exact⟨_,_,_,h.hd,.inl rfl⟩
theorem Dk0.rest (h:Dk0 w g bO cO bL cL vW os ls ws m) {w':World} {F':List Nat} (hc:Chg [g] F' w w') :
  w'.ownsRow 0 71 1 (.slice (some ⟨bO,0,none⟩) m.out.length cO) m.out.length os∧w'.ownsRow 0 71 1 (.slice (some ⟨bL,0,none⟩) m.out.length cL) m.out.length ls∧w'.ownsRow 0 151 2 vW m.row.length (flat ws) ∧
  Secs w' os m.out∧Secs w' ls m.last∧Vws w' ws m.row:=by
 have hs:∀k,k≠g→k<w.heap.size→w'.heap[k]?=w.heap[k]?:=fun k hk hl=>hc.block k hl (by simp [hk])
 refine⟨own_other h.ro (fun k hk=>?_),own_other h.rl (fun k hk=>?_),own_other h.rw_ (fun k hk=>?_),h.so.chg hc h.typedG,h.sl.chg hc h.typedG,h.sw.chg hc h.typedG⟩
 ·obtain⟨cur,hc2⟩:=own_head h.ro hk;cases hk;exact hs _ (Ne.symm h.ne_gO) (lt_of_block hc2)
 ·obtain⟨cur,hc2⟩:=own_head h.rl hk;cases hk;exact hs _ (Ne.symm h.ne_gL) (lt_of_block hc2)
 ·obtain⟨cur,hc2⟩:=own_head h.rw_ hk;exact hs _ (Ne.symm (h.ne_gW _ hk)) (lt_of_block hc2)
theorem Dk0.setFuse (h:Dk0 w g bO cO bL cL vW os ls ws m) (f:Int) (h0:-1≤f) (h1:f≤9223372036854775807):Dk0 (w.setCell ⟨g,3,none⟩ (.int .i64 f)) g bO cO bL cL vW os ls ws { m with fuse:=f }:=by
 obtain⟨r1,r2,r3,r4,r5,r6⟩:=h.rest (Chg.setCell (F:=[g]) (g:=g) (i:=3) (by simp) (.int .i64 f) w)
 exact⟨heap_setCell_same w g 3 _ _ _ h.hd,r1,r2,r3,r4,r5,r6,h.nil_,h.ne,⟨h.ok.out,h.ok.row,h0,h1⟩⟩
theorem Dk0.setDown (h:Dk0 w g bO cO bL cL vW os ls ws m) (b:Bool):Dk0 (w.setCell ⟨g,4,none⟩ (.bool b)) g bO cO bL cL vW os ls ws { m with down:=b }:=by
 obtain⟨r1,r2,r3,r4,r5,r6⟩:=h.rest (Chg.setCell (F:=[g]) (g:=g) (i:=4) (by simp) (.bool b) w)
 exact⟨heap_setCell_same w g 4 _ _ _ h.hd,r1,r2,r3,r4,r5,r6,h.nil_,h.ne,⟨h.ok.out,h.ok.row,h.ok.fuse0,h.ok.fuse1⟩⟩
theorem Dk0.setDone (h:Dk0 w g bO cO bL cL vW os ls ws m) (n:Nat):Dk0 (w.setCell ⟨g,5,none⟩ (.int .i64 (n:Int))) g bO cO bL cL vW os ls ws { m with done:=n }:=by
 obtain⟨r1,r2,r3,r4,r5,r6⟩:=h.rest (Chg.setCell (F:=[g]) (g:=g) (i:=5) (by simp) (.int .i64 (n:Int)) w)
 exact⟨heap_setCell_same w g 5 _ _ _ h.hd,r1,r2,r3,r4,r5,r6,h.nil_,h.ne,⟨h.ok.out,h.ok.row,h.ok.fuse0,h.ok.fuse1⟩⟩
theorem Dk0.chgG (i:Nat) (v:Value) (w:World):Chg (foot g bO bL vW) (foot g bO bL vW) w (w.setCell ⟨g,i,none⟩ v):=Chg.setCell (by simp [foot]) v w
theorem Dk0.went (h:Dk0 w g bO cO bL cL vW os ls ws m):Dk w g (foot g bO bL vW) m:=⟨_,_,_,_,_,_,_,_,h,rfl⟩
end
end
section
set_option maxRecDepth 20000
open Go.RowKit
section
variable {w:World} {g bO cO bL cL:Nat} {vW:Value} {os ls:List Value} {ws:List Vw} {m:Dsk}
set_option maxHeartbeats 400000 in
theorem ready_up (h:Dk0 w g bO cO bL cL vW os ls ws m) (hd:m.down=false) :
  Calls Tryz.prog 184 #[.pointer (some ⟨g,0,none⟩)] w fun e w'=>e = .returned (.int .i64 0)∧w=w':=by
 have hc:=h.c4
 rw [hd] at hc
 clear h hd
 go_enter Tryz.func184,Tryz.ntmps184
 go_wp2_with fail
 go_ret
 exact⟨rfl,rfl⟩
set_option maxHeartbeats 400000 in
theorem ready_down (h:Dk0 w g bO cO bL cL vW os ls ws m) (hd:m.down=true) :
  Calls Tryz.prog 184 #[.pointer (some ⟨g,0,none⟩)] w fun e w'=>e = .returned (.int .i64 9)∧w=w':=by
 have hc:=h.c4
 rw [hd] at hc
 clear h hd
 go_enter Tryz.func184,Tryz.ntmps184
 go_wp2_with fail
 go_ret
 exact⟨rfl,rfl⟩
set_option maxHeartbeats 400000 in
theorem sectors_any (h:Dk0 w g bO cO bL cL vW os ls ws m) (n:Nat) (hn:Hid (m.out.length=n)) :
  Calls Tryz.prog 126 #[.pointer (some ⟨g,0,none⟩)] w fun e w'=>e = .returned (.int .i64 (n:Int))∧w=w':=by
 have hc:=h.c0
 rw [hn.out] at hc
 clear h hn
 go_enter Tryz.func126,Tryz.ntmps126
 go_wp2_with fail
 go_ret
 exact⟨rfl,rfl⟩
set_option maxHeartbeats 400000 in
theorem has_low_ (v:Value) (i:Int) (w:World) (hi:i<0) :
  Calls Tryz.prog 201 #[v,.int .i64 i] w fun e w'=>e = .returned (.bool false)∧w=w':=by
 have hd:decide ((0:Int)≤i)=false:=decide_eq_false (by omega)
 go_enter Tryz.func201,Tryz.ntmps201
 go_wp2_with fail
 go_ret
 exact⟨rfl,rfl⟩
set_option maxHeartbeats 400000 in
theorem has_any (h:Dk0 w g bO cO bL cL vW os ls ws m) (i:Int) :
  Calls Tryz.prog 201 #[.pointer (some ⟨g,0,none⟩),.int .i64 i] w fun e w'=>e = .returned (.bool (m.has i))∧w=w':=by
 by_cases hi:i<0
 ·rw [has_low hi];exact has_low_ _ i w hi
 ·obtain⟨n,hn⟩:∃n,Hid (m.out.length=n):=⟨_,Lib.hid rfl⟩
  have hs:=sectors_any h n hn
  have HH:Hid (m.has i=decide (i<(n:Int))):=Lib.hid (by unfold Dsk.has;rw [hn.out];simp;omega)
  rw [HH.out]
  clear HH h hn
  have HS:=Lib.hid hs
  clear hs
  have h0:0≤i:=by omega
  go_enter Tryz.func201,Tryz.ntmps201
  go_wp2_with (go_at_call 126;refine HS.out.mono ?_;rintro e w' ⟨rfl,rfl⟩)
  go_ret
  exact⟨rfl,rfl⟩
set_option maxHeartbeats 400000 in
theorem reach_any (h:Dk0 w g bO cO bL cL vW os ls ws m) (i:Int) :
  Calls Tryz.prog 163 #[.pointer (some ⟨g,0,none⟩),.int .i64 i] w fun e w'=>e = .returned (.int .i64 (readE m i))∧w=w':=by
 by_cases hd:m.down=true
 ·have HR:=Lib.hid (ready_down h hd)
  have HE:Hid (readE m i=9):=Lib.hid (by unfold readE;rw [if_pos hd])
  rw [HE.out]
  clear h hd HE
  go_enter Tryz.func163,Tryz.ntmps163
  go_wp2_with (go_at_call 184;refine HR.out.mono ?_;rintro e w' ⟨rfl,rfl⟩)
  go_ret
  exact⟨rfl,rfl⟩
 ·have hd0:m.down=false:=by simpa using hd
  have HR:=Lib.hid (ready_up h hd0)
  have HH:=Lib.hid (has_any h i)
  by_cases hh:m.has i=true
  ·have HE:Hid (readE m i=0):=Lib.hid (by unfold readE;rw [if_neg hd,if_neg (by simp [hh])])
   rw [HE.out]
   rw [hh] at HH
   clear h hd hd0 HE hh
   go_enter Tryz.func163,Tryz.ntmps163
   go_wp2_with (first | (go_at_call 184;refine HR.out.mono ?_;rintro e w' ⟨rfl,rfl⟩) | (go_at_call 201;refine HH.out.mono ?_;rintro e w' ⟨rfl,rfl⟩))
   go_ret
   exact⟨rfl,rfl⟩
  ·have hh0:m.has i=false:=by simpa using hh
   have HE:Hid (readE m i=7):=Lib.hid (by unfold readE;rw [if_neg hd,if_pos hh0])
   rw [HE.out]
   rw [hh0] at HH
   clear h hd hd0 HE hh hh0
   go_enter Tryz.func163,Tryz.ntmps163
   go_wp2_with (first | (go_at_call 184;refine HR.out.mono ?_;rintro e w' ⟨rfl,rfl⟩) | (go_at_call 201;refine HH.out.mono ?_;rintro e w' ⟨rfl,rfl⟩))
   go_ret
   exact⟨rfl,rfl⟩
end
end
section
set_option maxRecDepth 20000
open Go.RowKit
def Stays (g bO cO bL cL:Nat) (vW:Value) (os ls:List Value) (ws:List Vw) (m:Dsk) (w w':World):Prop:=
 Dk0 w' g bO cO bL cL vW os ls ws m∧Chg (foot g bO bL vW) (foot g bO bL vW) w w'
section
variable {w:World} {g bO cO bL cL:Nat} {vW:Value} {os ls:List Value} {ws:List Vw} {m:Dsk}
theorem Stays.refl (h:Dk0 w g bO cO bL cL vW os ls ws m):Stays g bO cO bL cL vW os ls ws m w w:=⟨h,Chg.refl _ _⟩
def burnE (m:Dsk):Int:=if m.fuse=0 then 9 else 0
def burnM (m:Dsk):Dsk:=if m.fuse=0 then burnt m else burns m
set_option maxHeartbeats 400000 in
theorem burn_any (h:Dk0 w g bO cO bL cL vW os ls ws m) (hn:m.done≤4611686018427387904) :
  Calls Tryz.prog 185 #[.pointer (some ⟨g,0,none⟩)] w fun e w'=>e = .returned (.int .i64 (burnE m))∧Stays g bO cO bL cL vW os ls ws (burnM m) w w':=by
 have hf:=h.fz
 have hc3:=h.c3
 have hc5:=h.c5
 have h0:=h.ok.fuse0
 have h1:=h.ok.fuse1
 by_cases hz:m.fuse=0
 ·have HE:Hid (burnE m=9):=Lib.hid (by unfold burnE;rw [if_pos hz])
  have HM:Hid (Stays g bO cO bL cL vW os ls ws (burnM m) w (w.setCell ⟨g,4,none⟩ (.bool true))):=Lib.hid (by
   unfold burnM;rw [if_pos hz];exact⟨h.setDown true,Dk0.chgG _ _ _⟩)
  have hc4:=h.c4
  have f4:=hf 4
  rw [HE.out]
  rw [hz] at hc3
  clear hz h hf hc5 HE
  go_enter Tryz.func185,Tryz.ntmps185
  go_wp2_with fail
  go_ret
  exact⟨rfl,HM.out⟩
 ·have HE:Hid (burnE m=0):=Lib.hid (by unfold burnE;rw [if_neg hz])
  have f3:=hf 3
  have f5:=hf 5
  rw [HE.out]
  by_cases h2:m.fuse = -1
  ·have HM:Hid (Stays g bO cO bL cL vW os ls ws (burnM m) w (w.setCell ⟨g,5,none⟩ (.int .i64 ((m.done:Int)+1)))):=Lib.hid (by
    unfold burnM burns;rw [if_neg hz,if_pos h2]
    have h3:=h.setDone (m.done+1)
    rw [←h2]
    exact⟨h3,Dk0.chgG _ _ _⟩)
   rw [h2] at hc3
   clear hz h hf h2 HE
   generalize m.done=dn at *
   go_enter Tryz.func185,Tryz.ntmps185
   go_wp2_with fail
   go_ret
   exact⟨rfl,HM.out⟩
  ·have HM:Hid (Stays g bO cO bL cL vW os ls ws (burnM m) w ((w.setCell ⟨g,3,none⟩ (.int .i64 (m.fuse - 1))).setCell ⟨g,5,none⟩ (.int .i64 ((m.done:Int)+1)))):=Lib.hid (by
    unfold burnM burns;rw [if_neg hz,if_neg h2]
    exact⟨(h.setFuse (m.fuse - 1) (by omega) (by omega)).setDone (m.done+1),(Dk0.chgG _ _ _).trans (Dk0.chgG _ _ _)⟩)
   have hd1:(m.fuse == 0)=false:=by simpa using hz
   have hd2:(m.fuse != -1)=true:=by simpa using h2
   have h3:1≤m.fuse:=by omega
   clear hz h hf h2 HE h0
   generalize m.done=dn at *
   generalize m.fuse=fu at *
   go_enter Tryz.func185,Tryz.ntmps185
   go_wp2_with fail
   go_ret
   exact⟨rfl,HM.out⟩
end
end
end Go.Proofs.YtmbecjlioogbhaaGreatDoor
