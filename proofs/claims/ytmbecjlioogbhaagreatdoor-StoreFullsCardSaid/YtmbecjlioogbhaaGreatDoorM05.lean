/- Texts TEnc to Only of this seat, laid into one. -/
import Derived.Laws.CopyOwn
import Derived.Lib.SlBytesConst
import Derived.RangeFuncNested
import Derived.RangeFuncBound
import Derived.RangeFuncCalls
import Derived.RangeFuncLeaves
import Derived.RangeFuncBox
import Derived.Shelf.Abstract
import Derived.Shelf.RegionOpen
import Derived.WalkKit
import Derived.OwnWalkIn
import Derived.TacticsInMore
import Derived.LoopNIn
import Derived.LoopIn
import Derived.Test.YtmbecjlioogbhaaGreatDoorProg
import Derived.WalkSpells
import Derived.WalkLawsBesides
import Derived.Laws.BitsAllLaws
import Derived.Lib.Hide
import Derived.Outline
import Derived.Laws.OwnMore
import Derived.OwnWalk
import Derived.Test.YtmbecjlioogbhaaGreatDoorM00
import Derived.Test.YtmbecjlioogbhaaGreatDoorM02
import Derived.Test.YtmbecjlioogbhaaGreatDoorM03
import Derived.Test.YtmbecjlioogbhaaGreatDoorM04
set_option linter.unusedVariables false
set_option linter.unusedSimpArgs false
set_option linter.constructorNameAsVariable false
namespace Go.Proofs.YtmbecjlioogbhaaGreatDoor
section
set_option maxRecDepth 20000
namespace Tb
open Go.Proofs.YtmbecjlioogbhaaGreatDoor.Bi
open Go.RowKit
theorem spl1 (A:List Nat) (h:A.length=16):splice (u8s (List.replicate 512 0)) 0 (u8s A)=u8s (A++List.replicate 496 0):=by
 unfold splice
 rw [List.take_zero,List.nil_append,u8s_len,h,Nat.zero_add,u8s_drop,←u8s_append,List.drop_replicate]
theorem spl2 (A R:List Nat) (h:A.length=16) (hr:R.length=64):splice (u8s (A++List.replicate 496 0)) 16 (u8s R)=u8s (A++R++List.replicate 432 0):=by
 unfold splice
 rw [u8s_take,List.take_append_of_le_length (by omega),List.take_of_length_le (by omega),u8s_len,hr,u8s_drop,List.drop_append,List.drop_of_length_le (by omega),List.nil_append,h,List.drop_replicate,←u8s_append,←u8s_append,List.append_assoc]
theorem run_index48 (cs:Array Value) (k:Nat) (v:Value) (w:World) (hk:k<4) (hv:cs[k]?=some v):(Instr.index 94 (.agg cs) (.int .i64 (k:Int))).run Tryz.prog w = .ok v w:=by
 have hu:=Tryz.underlying94
 have hp:=run_part3 cs k v w hv
 obtain⟨i0,hi,hz0,hz1,hz2⟩:=info_parts Tryz.info3
 have hs:(sizeOf 3).run Tryz.prog w = .ok 1 w:=by simp [sizeOf,typeInfo,hi,hz1]
 have ha:(asIntOf (.int .i64 (k:Int))).run Tryz.prog w = .ok (.i64,(k:Int)) w:=by simp [asIntOf]
 have hc:(0:Int)≤(k:Int)∧(k:Int)<((4:Nat):Int):=⟨by omega,by omega⟩
 unfold Instr.index
 simp only [Sem.run_bind,ha,Result.andThen_ok,run_underlying hu w,if_pos hc,hs,Int.toNat_natCast,hp]
theorem wpList_index48 {ops:Array Oper} {rest:List Oper} {o:Oper} {a:Act} {w:World} {Q:Exit→Act→World→Prop} (hgd:o.guard=none) (x y:Operand) (ho:o.op = .index 94 x y)
  (cs:Array Value) (k:Nat) (v:Value) (hx:a.eval x = .agg cs) (hy:a.eval y = .int .i64 (k:Int)) (hk:k<4) (hv:cs[k]?=some v) (h:wpList Tryz.prog ops Q rest (a.put o.dst v) w):wpList Tryz.prog ops Q (o :: rest) a w:=
 wpList_plain hgd fun _ hK=>by
  unfold Oper.wp execOp
  simp only [ho,hx,hy,Sem.run_bind,run_index48 cs k v w hk hv,Result.andThen_ok,Sem.run_pure]
  exact hK _ _ h
def okN (x y z u:Int):Nat→Bool
 | 0=>mayI x
 | 1=>mayI y
 | 2=>mayI z
 | 3=>mayI u
 | _=>true
theorem okN_all {x y z u:Int} (h:∀j,j<4→okN x y z u j=true):okL x y z u=true:=by
 have h0:=h 0 (by omega);have h1:=h 1 (by omega);have h2:=h 2 (by omega);have h3:=h 3 (by omega)
 have g0:mayI x=true:=h0
 have g1:mayI y=true:=h1
 have g2:mayI z=true:=h2
 have g3:mayI u=true:=h3
 unfold okL
 rw [g0,g1,g2,g3];rfl
set_option maxRecDepth 100000 in
set_option maxHeartbeats 1600000 in
theorem enc_any (x y z u:Int) (gs bs:Nat) (f:Nat→Bool) (w:World) (hS:Sat w gs bs 512 f) :
  Calls Tryz.prog 143 #[.agg #[.int .i64 x,.int .i64 y,.int .i64 z,.int .i64 u,.pointer (some ⟨gs,0,none⟩)]] w fun e w'=>
   ((okL x y z u=true∧∃p c,e = .returned (.tuple #[.slice p 512 c,.int .i64 0])∧Bys w' p 512 (dirB x y z u f)∧512≤c∧c≤9223372036854775807)∨(okL x y z u=false∧e = .returned (.tuple #[.slice none 0 0,.int .i64 1])))∧Below w.heap.size w w':=by
 have HB0:Hid (Below w.heap.size w (w.alloc (.cells #[.int .i64 x,.int .i64 y,.int .i64 z,.int .i64 u,.pointer (some ⟨gs,0,none⟩)] 199))):=Lib.hid ((Below.refl _ _).alloc (Nat.le_refl _) _)
 have HDB:=heap_alloc_new w (.cells #[.int .i64 x,.int .i64 y,.int .i64 z,.int .i64 u,.pointer (some ⟨gs,0,none⟩)] 199)
 have HD:=Lib.hid HDB
 have HSZ:Hid ((w.alloc (.cells #[.int .i64 x,.int .i64 y,.int .i64 z,.int .i64 u,.pointer (some ⟨gs,0,none⟩)] 199)).heap.size=w.heap.size+1):=Lib.hid (by simp)
 have k0:(w.alloc (.cells #[.int .i64 x,.int .i64 y,.int .i64 z,.int .i64 u,.pointer (some ⟨gs,0,none⟩)] 199)).cell? ⟨w.heap.size,0,none⟩=some (.int .i64 x):=by rw [cell_of_row _ _ _ _ _ _ HDB];rfl
 have k1:(w.alloc (.cells #[.int .i64 x,.int .i64 y,.int .i64 z,.int .i64 u,.pointer (some ⟨gs,0,none⟩)] 199)).cell? ⟨w.heap.size,1,none⟩=some (.int .i64 y):=by rw [cell_of_row _ _ _ _ _ _ HDB];rfl
 have k2:(w.alloc (.cells #[.int .i64 x,.int .i64 y,.int .i64 z,.int .i64 u,.pointer (some ⟨gs,0,none⟩)] 199)).cell? ⟨w.heap.size,2,none⟩=some (.int .i64 z):=by rw [cell_of_row _ _ _ _ _ _ HDB];rfl
 have k3:(w.alloc (.cells #[.int .i64 x,.int .i64 y,.int .i64 z,.int .i64 u,.pointer (some ⟨gs,0,none⟩)] 199)).cell? ⟨w.heap.size,3,none⟩=some (.int .i64 u):=by rw [cell_of_row _ _ _ _ _ _ HDB];rfl
 have k4:(w.alloc (.cells #[.int .i64 x,.int .i64 y,.int .i64 z,.int .i64 u,.pointer (some ⟨gs,0,none⟩)] 199)).cell? ⟨w.heap.size,4,none⟩=some (.pointer (some ⟨gs,0,none⟩)):=by rw [cell_of_row _ _ _ _ _ _ HDB];rfl
 have HS:=Lib.hid (hS.below HB0.out)
 have HSize:=Lib.hid (size_any HS.out)
 clear hS HDB
 go_enter Tryz.func143,Tryz.ntmps143
 go_upto_region 1 with fail
 generalize w.alloc _=W at *
 go_wp2_with (go_at_call 180;refine HSize.out.mono ?_;rintro e w7 ⟨rfl,rfl⟩)
 go_loop [13] (fun iv=>∃i:Nat,i≤4∧iv = .int .i64 (i:Int)∧∀j,j<i→okN x y z u j=true) (fun iv=>4 - (RowKit.intOf iv).toNat)
 case atStart=>exact⟨0,by omega,by go_num,fun j hj=>absurd hj (Nat.not_lt_zero j)⟩
 case round=>
  obtain⟨i,hi,rfl,hok⟩:=hrel
  rcases (show i=0∨i=1∨i=2∨i=3∨i=4 by omega) with rfl | rfl | rfl | rfl | rfl
  ·have hd:decide ((0:Int)<4)=true:=rfl
   cases hm:mayI x with
   | false=>
    have HO:Hid (okL x y z u=false):=Lib.hid (by unfold okL;rw [hm];simp)
    have HMA:=Lib.hid (fun w=>may_any7 x w)
    rw [hm] at HMA
    clear hm hok
    go_wp2_with (first
     | (go_at_call 181;refine(HMA.out _).mono ?_;rintro e w7 ⟨rfl,rfl⟩)
     | (refine wpList_index48 rfl (.tmp 12) (.tmp 13) rfl _ 0 _ rfl rfl (by decide) rfl ?_))
    go_ret2
    exact⟨.inr ⟨HO.out,rfl⟩,HB0.out⟩
   | true=>
    have HMA:=Lib.hid (fun w=>may_any7 x w)
    have HO:Hid (∀j,j<1→okN x y z u j=true):=Lib.hid fun j hj=>by
     by_cases e:j=0
     ·subst e;exact hm
     ·exact hok j (by omega)
    rw [hm] at HMA
    clear hm hok
    go_wp2_with (first
     | (go_at_call 181;refine(HMA.out _).mono ?_;rintro e w7 ⟨rfl,rfl⟩)
     | (refine wpList_index48 rfl (.tmp 12) (.tmp 13) rfl _ 0 _ rfl rfl (by decide) rfl ?_))
    go_round
    case rel=>exact⟨1,by omega,by go_num,HO.out⟩
    case measure=>simp [RowKit.intOf]
  ·have hd:decide ((1:Int)<4)=true:=rfl
   cases hm:mayI y with
   | false=>
    have HO:Hid (okL x y z u=false):=Lib.hid (by unfold okL;rw [hm];simp)
    have HMA:=Lib.hid (fun w=>may_any7 y w)
    rw [hm] at HMA
    clear hm hok
    go_wp2_with (first
     | (go_at_call 181;refine(HMA.out _).mono ?_;rintro e w7 ⟨rfl,rfl⟩)
     | (refine wpList_index48 rfl (.tmp 12) (.tmp 13) rfl _ 1 _ rfl rfl (by decide) rfl ?_))
    go_ret2
    exact⟨.inr ⟨HO.out,rfl⟩,HB0.out⟩
   | true=>
    have HMA:=Lib.hid (fun w=>may_any7 y w)
    have HO:Hid (∀j,j<2→okN x y z u j=true):=Lib.hid fun j hj=>by
     by_cases e:j=1
     ·subst e;exact hm
     ·exact hok j (by omega)
    rw [hm] at HMA
    clear hm hok
    go_wp2_with (first
     | (go_at_call 181;refine(HMA.out _).mono ?_;rintro e w7 ⟨rfl,rfl⟩)
     | (refine wpList_index48 rfl (.tmp 12) (.tmp 13) rfl _ 1 _ rfl rfl (by decide) rfl ?_))
    go_round
    case rel=>exact⟨2,by omega,by go_num,HO.out⟩
    case measure=>simp [RowKit.intOf]
  ·have hd:decide ((2:Int)<4)=true:=rfl
   cases hm:mayI z with
   | false=>
    have HO:Hid (okL x y z u=false):=Lib.hid (by unfold okL;rw [hm];simp)
    have HMA:=Lib.hid (fun w=>may_any7 z w)
    rw [hm] at HMA
    clear hm hok
    go_wp2_with (first
     | (go_at_call 181;refine(HMA.out _).mono ?_;rintro e w7 ⟨rfl,rfl⟩)
     | (refine wpList_index48 rfl (.tmp 12) (.tmp 13) rfl _ 2 _ rfl rfl (by decide) rfl ?_))
    go_ret2
    exact⟨.inr ⟨HO.out,rfl⟩,HB0.out⟩
   | true=>
    have HMA:=Lib.hid (fun w=>may_any7 z w)
    have HO:Hid (∀j,j<3→okN x y z u j=true):=Lib.hid fun j hj=>by
     by_cases e:j=2
     ·subst e;exact hm
     ·exact hok j (by omega)
    rw [hm] at HMA
    clear hm hok
    go_wp2_with (first
     | (go_at_call 181;refine(HMA.out _).mono ?_;rintro e w7 ⟨rfl,rfl⟩)
     | (refine wpList_index48 rfl (.tmp 12) (.tmp 13) rfl _ 2 _ rfl rfl (by decide) rfl ?_))
    go_round
    case rel=>exact⟨3,by omega,by go_num,HO.out⟩
    case measure=>simp [RowKit.intOf]
  ·have hd:decide ((3:Int)<4)=true:=rfl
   cases hm:mayI u with
   | false=>
    have HO:Hid (okL x y z u=false):=Lib.hid (by unfold okL;rw [hm];simp)
    have HMA:=Lib.hid (fun w=>may_any7 u w)
    rw [hm] at HMA
    clear hm hok
    go_wp2_with (first
     | (go_at_call 181;refine(HMA.out _).mono ?_;rintro e w7 ⟨rfl,rfl⟩)
     | (refine wpList_index48 rfl (.tmp 12) (.tmp 13) rfl _ 3 _ rfl rfl (by decide) rfl ?_))
    go_ret2
    exact⟨.inr ⟨HO.out,rfl⟩,HB0.out⟩
   | true=>
    have HMA:=Lib.hid (fun w=>may_any7 u w)
    have HO:Hid (∀j,j<4→okN x y z u j=true):=Lib.hid fun j hj=>by
     by_cases e:j=3
     ·subst e;exact hm
     ·exact hok j (by omega)
    rw [hm] at HMA
    clear hm hok
    go_wp2_with (first
     | (go_at_call 181;refine(HMA.out _).mono ?_;rintro e w7 ⟨rfl,rfl⟩)
     | (refine wpList_index48 rfl (.tmp 12) (.tmp 13) rfl _ 3 _ rfl rfl (by decide) rfl ?_))
    go_round
    case rel=>exact⟨4,by omega,by go_num,HO.out⟩
    case measure=>simp [RowKit.intOf]
  ·have HO:=Lib.hid (okN_all hok)
   clear hok hi
   have hd:decide ((4:Int)<4)=false:=rfl
   have HLV:=Lib.hid (lvF_lt HO.out)
   obtain⟨Z0,HZ0⟩:∃Z0,Hid (Z0=List.replicate 512 0):=⟨_,Lib.hid rfl⟩
   obtain⟨hx,hy,hzz,hu⟩:=okL_nat HO.out
   obtain⟨i0,hi,hz0,hz1,hz2⟩:=info_parts Tryz.info5
   have hmk:∀w:World,(Instr.makeSlice 71 (.int .i64 512) (.int .i64 512)).run Tryz.prog w = .ok (.slice (some ⟨w.heap.size,0,none⟩) 512 512) (w.alloc (.cells (u8s Z0).toArray 5)):=fun w=>by
    have h:=run_make (P:=Tryz.prog) w 71 5 i0 _ Tryz.underlying71 hi hz0 .i64 .i64 ((512:Nat):Int) ((512:Nat):Int) (by omega) (by omega) (by rw [hz2];omega) (by omega)
    rw [hz1,Int.toNat_natCast,Nat.mul_one] at h
    rw [HZ0.out,←zeros_of 512,Array.toArray_toList]
    exact h
   have hl0:(Tryz.prog.info? 5).map (·.size)=some 1:=by kernel_rfl
   have HP:=Lib.hid hl0
   have HW1:Hid (Below W.heap.size W (W.alloc (.cells (u8s Z0).toArray 5))):=Lib.hid ((Below.refl _ _).alloc (Nat.le_refl _) _)
   have HH1:Hid ((W.alloc (.cells (u8s Z0).toArray 5)).heap[W.heap.size]?=some (.cells (u8s Z0).toArray 5 (0,0))):=Lib.hid (heap_alloc_new W _)
   have HDW:Hid (w.heap.size<W.heap.size):=Lib.hid (by rw [HSZ.out];omega)
   have HLay:=Lib.hid (lay_any w.heap.size 0 4 4 (lvF x y z u) (W.alloc (.cells (u8s Z0).toArray 5)) (by omega) HLV.out (fun j hj=>by
    have e:∀t:Int,0≤t→((t.toNat:Nat):Int)=t:=fun t ht=>Int.toNat_of_nonneg ht
    rw [Nat.zero_add]
    refine(HW1.out.cell (p:=⟨w.heap.size,j,none⟩) HDW.out).trans ?_
    rcases (show j=0∨j=1∨j=2∨j=3 by omega) with rfl | rfl | rfl | rfl
    ·rw [k0];show some (Value.int .i64 x)=some (.int .i64 ((x.toNat:Nat):Int));rw [e x hx.1]
    ·rw [k1];show some (Value.int .i64 y)=some (.int .i64 ((y.toNat:Nat):Int));rw [e y hy.1]
    ·rw [k2];show some (Value.int .i64 z)=some (.int .i64 ((z.toNat:Nat):Int));rw [e z hzz.1]
    ·rw [k3];show some (Value.int .i64 u)=some (.int .i64 ((u.toNat:Nat):Int));rw [e u hu.1]))
   have HK4:=Lib.hid k4
   clear hi hz0 hz1 hz2 hl0 hx hy hzz hu k0 k1 k2 k3 k4 HD HSize HSZ
   go_upto_region 10 with fail
   generalize W.alloc _=W1 at *
   have HB2:Hid (Below w.heap.size w W1):=Lib.hid (HB0.out.trans (HW1.out.mono HB0.out.size))
   have HL16:Hid ((u8s (fours (lvF x y z u) 4)).length=16):=Lib.hid (by rw [u8s_len,fours_len])
   have HL512:Hid ((u8s Z0).length=512):=Lib.hid (by rw [HZ0.out,u8s_len,List.length_replicate])
   go_upto_region 11 with (first
    | (go_at_call 176;refine HLay.out.mono ?_;rintro e w2 ⟨⟨p1,c1,rfl,hB1,hc1,hd1⟩,hb2⟩)
    | (refine wpList_copy_splice (w:=w2) rfl (.tmp 21) (.tmp 24) 71 71 rfl 5 Tryz.underlying71 HP.out (some ⟨W.heap.size,0,none⟩) p1 512 512 (4*4) c1 rfl rfl W.heap.size 0 (u8s Z0) 5 ((hb2.block W.heap.size (lt_of_block HH1.out)).trans HH1.out) (u8s (fours (lvF x y z u) 4)) (by rw [HL16.out];rfl)
        (fun h=>⟨rfl,hB1.cells (by omega)⟩) (by rw [HL16.out,HL512.out];omega) (u8s_one _) W.heap.size w2 (Below.refl _ _) (Nat.le_refl _) ?_;intro w3 hh3 hb3))
   have HW3:Hid (Below W.heap.size W w3):=Lib.hid ((HW1.out.trans (hb2.mono HW1.out.size)).trans hb3)
   have HH3:Hid (w3.heap[W.heap.size]?=some (.cells (u8s (fours (lvF x y z u) 4++List.replicate 496 0)).toArray 5 (0,0))):=Lib.hid (by
    have h:=hh3.out
    rwa [HZ0.out,spl1 _ (fours_len _ _)] at h)
   have HC3:Hid (w3.cell? ⟨w.heap.size,4,none⟩=some (.pointer (some ⟨gs,0,none⟩))):=Lib.hid ((HW3.out.cell (p:=⟨w.heap.size,4,none⟩) HDW.out).trans HK4.out)
   have HS3:=Lib.hid (HS.out.below HW3.out)
   have HBt:Hid (∀w',Sat w' gs bs 512 f→Calls Tryz.prog 182 #[.pointer (some ⟨gs,0,none⟩)] w' fun e w''=>(∃p c,e = .returned (.slice p 64 c)∧Bys w'' p 64 (rowF f 64))∧Below w'.heap.size w' w''):=Lib.hid fun w' h=>bytes_any h
   have HL3:Hid ((u8s (fours (lvF x y z u) 4++List.replicate 496 0)).length=512):=Lib.hid (by rw [u8s_len,List.length_append,fours_len,List.length_replicate])
   have HL64:Hid ((u8s (rowF f 64)).length=64):=Lib.hid (by rw [u8s_len,rowF_len])
   clear hh3 hb3 hb2 hB1 hc1 hd1 HLay hmk
   have HCU:Hid (splice (u8s (fours (lvF x y z u) 4++List.replicate 496 0)) 16 (u8s (rowF f 64))=u8s (dirB x y z u f)):=Lib.hid (spl2 _ _ (fours_len _ _) (rowF_len _ _))
   generalize u8s (fours (lvF x y z u) 4++List.replicate 496 0)=CU at *
   refine wp_region_held_drew (S:=fun w'=>w'.cell? ⟨w.heap.size,4,none⟩=some (.pointer (some ⟨gs,0,none⟩))) (by kernel_rfl) HC3.out (fun hS=>?_)
   try simp only [List.getElem_toArray,List.getElem_cons_succ,List.getElem_cons_zero,Act.put,List.setIfInBounds_toArray,List.set_cons_succ,List.set_cons_zero]
   refine wpAnyH_take (i:=0) (v:=.slice (some ⟨W.heap.size,0,none⟩) 512 512) rfl (by kernel_rfl) (by kernel_rfl) (by kernel_rfl) (fun _ _ _ h=>h) (Or.inl ⟨by rfl,fun w' hw=>by go_simp⟩) hS ?_
   try simp only [List.getElem_toArray,List.getElem_cons_succ,List.getElem_cons_zero,Act.put,List.setIfInBounds_toArray,List.set_cons_succ,List.set_cons_zero]
   refine wpAnyH_take (i:=1) (v:=.slice (some ⟨W.heap.size,16,none⟩) 496 496) rfl (by kernel_rfl) (by kernel_rfl) (by kernel_rfl) (fun _ _ _ h=>h) (Or.inl ⟨by rfl,fun w' hw=>by go_simp⟩) hS ?_
   try simp only [List.getElem_toArray,List.getElem_cons_succ,List.getElem_cons_zero,Act.put,List.setIfInBounds_toArray,List.set_cons_succ,List.set_cons_zero]
   refine wpAnyH_take (i:=2) (v:=.pointer (some ⟨w.heap.size,4,none⟩)) rfl (by kernel_rfl) (by kernel_rfl) (by kernel_rfl) (fun _ _ _ h=>h) (Or.inl ⟨by rfl,fun w' hw=>by go_simp⟩) hS ?_
   try simp only [List.getElem_toArray,List.getElem_cons_succ,List.getElem_cons_zero,Act.put,List.setIfInBounds_toArray,List.set_cons_succ,List.set_cons_zero]
   refine wpAnyH_take (i:=3) (v:=.pointer (some ⟨gs,0,none⟩)) rfl (by kernel_rfl) (by kernel_rfl) (by kernel_rfl) (fun _ _ _ h=>h) (Or.inl ⟨by rfl,fun w' hw=>by go_simp⟩) hS ?_
   try simp only [List.getElem_toArray,List.getElem_cons_succ,List.getElem_cons_zero,Act.put,List.setIfInBounds_toArray,List.set_cons_succ,List.set_cons_zero]
   refine wpAnyH_ready (rs:=[4]) (by kernel_rfl) (by simp) ?_
   refine AllReadyH.cons rfl (fun K hK=>?_) AllReadyH.nil
   rw [if_pos (by rfl)]
   try simp only [List.getElem_toArray,List.getElem_cons_succ,List.getElem_cons_zero,Act.put,List.setIfInBounds_toArray,List.set_cons_succ,List.set_cons_zero]
   go_simp
   go_at_call 182
   refine(HBt.out _ HS3.out.drew).mono ?_
   rintro e w5 ⟨⟨p2,c2,rfl,hB2⟩,hb5⟩
   refine hK.out _ _ ((hb5.cell (p:=⟨w.heap.size,4,none⟩) (World.block_lt_of_cell? w3 _ HC3.out)).trans hS) (fun hS5=>?_)
   clear hK K
   refine wpAnyH_ready (rs:=[5]) (by kernel_rfl) (by simp) ?_
   refine AllReadyH.cons rfl (fun K hK=>?_) AllReadyH.nil
   refine step_copy_splice rfl (.tmp 27) (.tmp 30) 71 71 rfl 5 Tryz.underlying71 HP.out (some ⟨W.heap.size,16,none⟩) p2 496 496 64 c2 rfl rfl W.heap.size 16 CU 5 ((hb5.block W.heap.size (lt_of_block HH3.out)).trans HH3.out) (u8s (rowF f 64)) (by rw [HL64.out];rfl)
    (fun h=>⟨rfl,hB2.cells (by omega)⟩) (by rw [HL64.out,HL3.out];omega) (u8s_one _) W.heap.size w5 (Below.refl _ _) (Nat.le_refl _) ?_
   intro w6 hh6 hb6
   have HH6:=Lib.hid hh6.out
   rw [HCU.out] at HH6
   refine hK.out _ _ ((hb6.cell (p:=⟨w.heap.size,4,none⟩) HDW.out).trans hS5) (fun _=>?_)
   clear hK K hh6
   refine wpAnyH_done (by kernel_rfl) ?_ _
   have HBF:Hid (Below w.heap.size w w6):=Lib.hid ((((HB0.out.trans (HW3.out.mono HB0.out.size)).drew).trans (hb5.mono (by have:=HB0.out.size;have:=HW3.out.size;show w.heap.size≤w3.heap.size;omega))).trans (hb6.mono (by have:=HDW.out;omega)))
   clear hb5 hb6 hB2
   go_wp2_with fail
   go_ret2
   refine⟨.inl ⟨HO.out,_,_,rfl,⟨dirB_len _ _ _ _ _,dirB_dig HO.out f,fun _=>⟨W.heap.size,0,rfl,fun j hj=>?_⟩⟩,by omega,by omega⟩,HBF.out⟩
   rw [cell_of_row _ _ _ _ _ _ HH6.out,Nat.zero_add,←Array.getElem?_toList]
   exact u8s_get _ _ (by rw [dirB_len];exact hj)
end Tb
end
section
set_option maxRecDepth 20000
open Go.RowKit
def spsB (sp:Nat→Nat):Nat→List Nat
 | 0=>[]
 | n+1=>spsB sp n++be 4 (sp n)
theorem spsB_len (sp:Nat→Nat):∀n,(spsB sp n).length=4*n
 | 0=>rfl
 | n+1=>by show (spsB sp n++be 4 (sp n)).length=_;rw [List.length_append,spsB_len sp n,be_len];omega
theorem spsB_dig (sp:Nat→Nat):∀n,∀x∈spsB sp n,x<256
 | 0,x,h=>by cases h
 | n+1,x,h=>(List.mem_append.1 h).elim (spsB_dig sp n x) (be_dig _ _ x)
def partL (pg:Nat) (sp:Nat→Nat):List Value:=.int .i64 (pg:Int) :: Tb.ints sp 0 128
theorem partL_len (pg:Nat) (sp:Nat→Nat):(partL pg sp).length=129:=by unfold partL;rw [List.length_cons,Tb.ints_len]
theorem run_partS (xs:Array Value) (i:Nat) (v:Value) (w:World) (h:xs[i]?=some v):(part 79 xs (i*1)).run Tryz.prog w = .ok v w:=by
 have hu:=Tryz.underlying79
 unfold part
 simp [isAgg,Sem.run_bind,run_underlying hu w,h]
theorem run_index128 (cs:Array Value) (k:Nat) (v:Value) (w:World) (hk:k<128) (hv:cs[k]?=some v):(Instr.index 80 (.agg cs) (.int .i64 (k:Int))).run Tryz.prog w = .ok v w:=by
 have hu:=Tryz.underlying80
 have hp:=run_partS cs k v w hv
 obtain⟨i0,hi,hz0,hz1,hz2⟩:=info_parts (show (Tryz.prog.info? 79).map (fun i=>(i.zero,i.size,i.bytes))=some (some (.int .i64 0),1,8) by kernel_rfl)
 have hs:(sizeOf 79).run Tryz.prog w = .ok 1 w:=by simp [sizeOf,typeInfo,hi,hz1]
 have ha:(asIntOf (.int .i64 (k:Int))).run Tryz.prog w = .ok (.i64,(k:Int)) w:=by simp [asIntOf]
 have hc:(0:Int)≤(k:Int)∧(k:Int)<((128:Nat):Int):=⟨by omega,by omega⟩
 unfold Instr.index
 simp only [Sem.run_bind,ha,Result.andThen_ok,run_underlying hu w,if_pos hc,hs,Int.toNat_natCast,hp]
theorem wpList_index128 {ops:Array Oper} {rest:List Oper} {o:Oper} {a:Act} {w:World} {Q:Exit→Act→World→Prop} (hgd:o.guard=none) (x y:Operand) (ho:o.op = .index 80 x y)
  (cs:Array Value) (k:Nat) (v:Value) (hx:a.eval x = .agg cs) (hy:a.eval y = .int .i64 (k:Int)) (hk:k<128) (hv:cs[k]?=some v) (h:wpList Tryz.prog ops Q rest (a.put o.dst v) w):wpList Tryz.prog ops Q (o :: rest) a w:=
 wpList_plain hgd fun _ hK=>by
  unfold Oper.wp execOp
  simp only [ho,hx,hy,Sem.run_bind,run_index128 cs k v w hk hv,Result.andThen_ok,Sem.run_pure]
  exact hK _ _ h
theorem size128:(Tryz.prog.info? 80).map (·.size)=some 128:=by kernel_rfl
set_option maxHeartbeats 1600000 in
theorem partText_any (pg:Nat) (sp:Nat→Nat) (w:World) (hsp:∀j,j<128→sp j≤1099511627776) :
  Calls Tryz.prog 114 #[.agg (partL pg sp).toArray] w fun e w'=>e = .returned (.string (strB (pageT (spsB sp 128))))∧Below w.heap.size w w':=by
 have HB0:=Lib.hid (alloc_below w (.cells (partL pg sp).toArray 82))
 have HR:Hid ((w.alloc (.cells (partL pg sp).toArray 82)).rangeAt w.heap.size 1 (Tb.ints sp 0 128)):=Lib.hid fun j v hv=>by
  rw [cell_of_row _ _ _ _ _ _ (heap_alloc_new w _)]
  rw [List.getElem?_toArray]
  unfold partL
  rw [Nat.add_comm,List.getElem?_cons_succ]
  exact hv
 have HS:Hid ((Tryz.prog.info? 80).map (·.size)=some (Tb.ints sp 0 128).length):=Lib.hid (by rw [size128,Tb.ints_len])
 have HIX:Hid (∀j,j<128→(Tb.ints sp 0 128).toArray[j]?=some (.int .i64 ((sp j:Nat):Int))):=Lib.hid fun j hj=>by
  rw [List.getElem?_toArray,Tb.ints_get sp 0 128 j hj,Nat.zero_add]
 have HSP:=Lib.hid hsp
 clear hsp
 generalize (partL pg sp).toArray=Z at *
 go_enter Tryz.func114,Tryz.ntmps114
 go_upto_region 1 with fail
 have HBX:=Lib.hid HB0.out.size
 generalize w.alloc (.cells Z 82)=W at *
 generalize Tb.ints sp 0 128=L at *
 go_upto_region 3 with (refine wpList_load_mid rfl 80 (.tmp 6) rfl w.heap.size 1 rfl L _ HR.out Tryz.underlying80 rfl HS.out ?_)
 go_loopw [3,8] (fun bv iv wr=>∃i:Nat,i≤128∧iv = .int .i64 (i:Int)∧Hid (Bo W.heap.size wr bv (spsB sp i)∧Below W.heap.size W wr)) (fun _ iv _=>128 - (RowKit.intOf iv).toNat)
 case atStart=>exact⟨0,by omega,by go_num,Lib.hid ⟨⟨none,0,rfl,World.ownsRow_nil _ _ _ _⟩,Below.refl _ _⟩⟩
 case round=>
  obtain⟨i,hi,rfl,hr⟩:=hrel
  by_cases hlt:i<128
  ·have hd:decide ((i:Int)<128)=true:=decide_eq_true (by omega)
   have hiI:(i:Int)≤127:=by omega
   have hz:=HIX.out i hlt
   have HP:=Lib.hid (putS_any W.heap.size wr u3 (spsB sp i) (sp i) 4 hr.out.2.size hr.out.1 (HSP.out i hlt) (by omega) (by rw [spsB_len];omega))
   rw [show ((4:Nat):Int)=4 from rfl] at HP
   have HI:=Lib.hid hlt
   go_wp2_with (first
    | (refine wpList_index128 rfl (.tmp 7) (.tmp 8) rfl _ i _ rfl rfl HI.out hz ?_)
    | (go_at_call 119;with_reducible refine HP.out.mono ?_;rintro e w4 ⟨v4,rfl,hv4,hb4⟩))
   have HR4:Hid (Bo W.heap.size w4 v4 (spsB sp (i+1))∧Below W.heap.size W w4):=Lib.hid ⟨hv4,hr.out.2.trans hb4⟩
   go_roundw
   case rel=>exact⟨i+1,HI.out,by go_num,HR4⟩
   case measure=>have:=HI.out;simp [RowKit.intOf];omega
  ·obtain rfl:i=128:=by omega
   have hd:decide (((128:Nat):Int)<128)=false:=by decide
   obtain⟨⟨p,c,e,ho⟩,hb⟩:=hr.out
   have HPT:=Lib.hid (pageText_any p _ c (spsB sp 128) wr (by rw [spsB_len];omega) (Bys.own ho (spsB_dig sp 128)))
   have HB:=Lib.hid hb
   subst e
   clear hr ho hb HIX HR
   generalize (spsB sp 128).length=N at *
   go_wp2_with (go_at_call 120;with_reducible refine HPT.out.mono ?_;rintro e w5 ⟨rfl,hb5⟩)
   go_ret
   exact⟨rfl,HB0.out.trans ((Below.more HB.out hb5 HB.out.size).mono HBX.out)⟩
end
section
set_option maxRecDepth 20000
open Go.RowKit
def twoB (f:Nat→Nat):Nat→List Nat
 | 0=>[]
 | n+1=>twoB f n++be 2 (f n)
theorem twoB_len (f:Nat→Nat):∀n,(twoB f n).length=2*n
 | 0=>rfl
 | n+1=>by show (twoB f n++be 2 (f n)).length=_;rw [List.length_append,twoB_len f n,be_len];omega
theorem twoB_dig (f:Nat→Nat):∀n,∀x∈twoB f n,x<256
 | 0,x,h=>by cases h
 | n+1,x,h=>(List.mem_append.1 h).elim (twoB_dig f n x) (be_dig _ _ x)
theorem twoB_congr {f g:Nat→Nat}:∀ {n},(∀i,i<n→f i=g i)→twoB f n=twoB g n
 | 0,_=>rfl
 | n+1,h=>by show twoB f n++be 2 (f n)=twoB g n++be 2 (g n);rw [twoB_congr (fun i hi=>h i (by omega)),h n (by omega)]
def headB (n:Nat) (f:Nat→Nat):List Nat:=[72,79,66,74]++[n % 256]++twoB f n
theorem headB_len (n:Nat) (f:Nat→Nat):(headB n f).length=5+2*n:=by unfold headB;rw [List.length_append,twoB_len];rfl
theorem headB_dig (n:Nat) (f:Nat→Nat):∀x∈headB n f,x<256:=fun x hx=>by
 rcases List.mem_append.1 hx with h | h
 ·simp at h
  rcases h with rfl | rfl | rfl | rfl | rfl <;> omega
 ·exact twoB_dig f n x h
def PtsR (w:World) (q:Option Addr) (n:Nat) (P:Nat→Nat × (Nat→Nat)):Prop:=∀i,i<n→∃b,q=some ⟨b,0,none⟩∧b<w.heap.size∧w.rangeAt b (i*129) (partL (P i).1 (P i).2)
theorem range_block {w w':World} {b o:Nat} {cs:List Value} (h:w.rangeAt b o cs) (hb:w'.heap[b]?=w.heap[b]?):w'.rangeAt b o cs:=fun j v hv=>(World.cell?_of_block hb).trans (h j v hv)
theorem PtsR.below {w w':World} {q:Option Addr} {n:Nat} {P:Nat→Nat × (Nat→Nat)} (h:PtsR w q n P) (hb:Below w.heap.size w w'):PtsR w' q n P:=fun i hi=>by
 obtain⟨b,e,hl,hr⟩:=h i hi
 exact⟨b,e,Nat.lt_of_lt_of_le hl hb.size,range_block hr (hb.block b hl)⟩
theorem sizePart:(Tryz.prog.info? 82).map (·.size)=some 129:=by kernel_rfl
theorem infoPart:(Tryz.prog.info? 82).map (fun i=>(i.zero,i.size))=some (some (.agg (partL 0 fun _=>0).toArray),129):=by kernel_rfl
theorem partL_one (pg:Nat) (sp:Nat→Nat):∀v∈partL pg sp,v.oneCell'=true:=fun v hv=>by
 unfold partL at hv
 rcases List.mem_cons.1 hv with rfl | h
 ·rfl
 ·exact Tb.ints_one sp 0 128 v h
theorem below_rowY {B g:Nat} {w0 w:World} (hb:Below B w0 w) (hBg:B≤g) (cs:Array Value):Below B w0 (w.setRow g cs):=
 hb.trans ⟨rfl,rfl,rfl,by simp [World.setRow],fun k hk=>setRow_other w g k cs (by omega)⟩
set_option maxHeartbeats 3200000 in
theorem headText_any (q:Option Addr) (n c:Nat) (P:Nat→Nat × (Nat→Nat)) (w:World) (hn:n≤64) (hq:PtsR w q n P) (hp:∀i,i<n→(P i).1≤1099511627776) :
  Calls Tryz.prog 63 #[.slice q n c] w fun e w'=>e = .returned (.string (strB (pageT (headB n fun i=>(P i).1))))∧Below w.heap.size w w':=by
 obtain⟨i0,hi,hz0,hz1,hz2⟩:=info_parts Tryz.info5
 have HI:=Lib.hid hi
 have HZ0:=Lib.hid hz0
 have HZ1:=Lib.hid hz1
 have HZ2:=Lib.hid hz2
 obtain⟨hz,hiP⟩:=zero_of_info (P:=Tryz.prog) infoPart
 have HPQ:=Lib.hid hq
 have HPP:=Lib.hid hp
 clear hi hz0 hz1 hz2 hiP hq hp
 have hnI:(n:Int)≤64:=by omega
 obtain⟨W1,hW1⟩:∃W1,(w.alloc (.cells #[.int .u8 72,.int .u8 79,.int .u8 66,.int .u8 74] 5 (4,5))).alloc (.cells #[.int .u8 (n:Int)] 5)=W1:=⟨_,rfl⟩
 have HL0:Hid (W1.heap[w.heap.size]?=some (.cells #[.int .u8 72,.int .u8 79,.int .u8 66,.int .u8 74] 5 (4,5))):=Lib.hid (by rw [←hW1];exact((alloc_below _ _).block w.heap.size (by simp)).trans (heap_alloc_new _ _))
 have HL1:Hid (W1.heap[w.heap.size+1]?=some (.cells #[.int .u8 (n:Int)] 5)):=Lib.hid (by rw [←hW1];have h:=heap_alloc_new (w.alloc (.cells #[.int .u8 72,.int .u8 79,.int .u8 66,.int .u8 74] 5 (4,5))) (.cells #[.int .u8 (n:Int)] 5);rw [show (w.alloc (.cells #[.int .u8 72,.int .u8 79,.int .u8 66,.int .u8 74] 5 (4,5))).heap.size=w.heap.size+1 by simp] at h;exact h)
 have HB0:Hid (Below w.heap.size w W1):=Lib.hid (by rw [←hW1];exact((Below.refl _ _).alloc (Nat.le_refl _) _).alloc (by simp) _)
 have HC0:Hid (∀b,(some ⟨w.heap.size,0,none⟩:Option Addr)=some b→∀(j:Nat) (u:Value),[Value.int .u8 72,.int .u8 79,.int .u8 66,.int .u8 74][j]?=some u→W1.cell? (b.add j)=some u):=Lib.hid fun b hb j u hu=>by
  cases hb
  rw [Addr.add_lit,cell_of_row _ _ _ _ _ _ HL0.out,Nat.zero_add,←hu,←List.getElem?_toArray]
 have HC1:Hid (∀(j:Nat) (u:Value),[Value.int .u8 (n:Int)][j]?=some u→W1.cell? ((⟨w.heap.size+1,0,none⟩:Addr).add j)=some u):=Lib.hid fun j u hu=>by
  rw [Addr.add_lit,cell_of_row _ _ _ _ _ _ HL1.out,Nat.zero_add,←hu,←List.getElem?_toArray]
 have hwr:IntKind.u8.wrap (n:Int)=(n:Int):=by rw [IntKind.wrap_u8];omega
 have hzs:(partL 0 fun _=>0).toArray.size=129:=by rw [List.size_toArray,partL_len]
 generalize (partL 0 fun _=>0).toArray=Z at *
 go_enter Tryz.func63,Tryz.ntmps63
 have hcv:=fun (w:World) (C:Array Value) (n c:Nat)=>Lib.run_convert_bytes_const (P:=Tryz.prog) w 71 5 C n c Tryz.underlying71 Tryz.underlying5
 have m1:(Value.int .u8 0).cells.size=1:=rfl
 have m2:[Value.int .u8 72,.int .u8 79,.int .u8 66,.int .u8 74].length=4*1:=rfl
 have m3:[Value.int .u8 (n:Int)].length=1*1:=rfl
 have m4:(4:Nat)<4+1:=by decide
 have m5:4+1≤maxLen:=by decide
 have m6:(4+1)*1≤140737488355328:=by decide
 have m7:∀u∈[Value.int .u8 (n:Int)],u.oneCell'=true:=fun u hu=>by cases List.mem_singleton.1 hu;rfl
 have m8:(some ⟨w.heap.size,0,none⟩:Option Addr)=none→4=0∧4=0:=fun h=>nomatch h
 go_upto_region 3 with (with_reducible refine wpList_append_grows (w:=W1) rfl (.tmp 7) (.tmp 11) 71 rfl 5 i0 (.int .u8 0) 1 1 Tryz.underlying71 HI.out HZ0.out HZ1.out HZ2.out m1 (by decide) (some ⟨w.heap.size,0,none⟩) 4 4 [.int .u8 72,.int .u8 79,.int .u8 66,.int .u8 74] rfl m8 m2 HC0.out ⟨w.heap.size+1,0,none⟩ 1 1 [.int .u8 (n:Int)] rfl m3 HC1.out m7 m4 m5 m6 ?_;intro v2 w2 hr2 hg2)
 have HBW:Hid (W1.heap.size≤w2.heap.size):=Lib.hid hg2.size
 have HS0:Hid (Bo W1.heap.size w2 v2 ([72,79,66,74]++[n % 256]++twoB (fun i=>(P i).1) 0)∧Below W1.heap.size W1 w2):=Lib.hid (by
  obtain⟨p4,c4,e4⟩:=Sl.own_form hr2
  subst e4
  refine⟨⟨p4,c4,rfl,?_⟩,(Below.refl W1.heap.size W1).grown hg2 (Nat.le_refl _) (fun k e=>nomatch e)⟩
  have hn2:((n % 256:Nat):Int)=(n:Int):=by omega
  show w2.ownsRow _ 5 1 _ _ [.int .u8 72,.int .u8 79,.int .u8 66,.int .u8 74,.int .u8 ((n % 256:Nat):Int)]
  rw [hn2]
  exact hr2)
 have HZS:Hid (Z.size=129):=Lib.hid hzs
 have hb1:=HB0.out.size
 clear hr2 hg2 HL0 HL1 HC0 HC1 hW1 m1 m2 m3 m4 m5 m6 m7 m8 hwr hcv
 have HN:=Lib.hid hn
 go_loopw [3,15] (fun bv iv wr=>∃i:Nat,i≤n∧iv = .int .i64 (i:Int)∧Hid (Bo W1.heap.size wr bv ([72,79,66,74]++[n % 256]++twoB (fun i=>(P i).1) i)∧Below W1.heap.size W1 wr)) (fun _ iv _=>n - (RowKit.intOf iv).toNat)
 case atStart=>exact⟨0,by omega,by go_num,HS0⟩
 case round=>
  obtain⟨i,hi,rfl,hr⟩:=hrel
  by_cases hlt:i<n
  ·have hd:decide ((i:Int)<(n:Int))=true:=decide_eq_true (by omega)
   have hiI:(i:Int)<(n:Int):=by omega
   have hi6:(i:Int)≤63:=by omega
   have HI2:=Lib.hid hlt
   have HBR:Hid (Below w.heap.size w wr):=Lib.hid (HB0.out.trans (hr.out.2.mono hb1))
   obtain⟨b,e,hl,hra⟩:=(HPQ.out.below HBR.out) i hlt
   subst e
   have HRA:=Lib.hid hra
   have HSR:Hid ((Tryz.prog.info? 82).map (·.size)=some (partL (P i).1 (P i).2).length):=Lib.hid (by rw [sizePart,partL_len])
   have HSA:Hid ((Tryz.prog.info? 82).map (·.size)=some (partL (P i).1 (P i).2).toArray.size):=Lib.hid (by rw [sizePart,List.size_toArray,partL_len])
   have HNW:Hid ((wr.alloc (.cells Z 82)).heap[wr.heap.size]?=some (.cells Z 82 (0,0))):=Lib.hid (heap_alloc_new _ _)
   have HOL:Hid (Z.size=(partL (P i).1 (P i).2).toArray.size):=Lib.hid (by rw [HZS.out,List.size_toArray,partL_len])
   have HON:Hid ((partL (P i).1 (P i).2).toArray.all (·.oneCell')=true):=Lib.hid (by rw [Array.all_eq_true_iff_forall_mem];intro x hx;exact partL_one _ _ x (by simpa using hx))
   obtain⟨W5,hW5⟩:∃W5,(wr.alloc (.cells Z 82)).setRow wr.heap.size (partL (P i).1 (P i).2).toArray=W5:=⟨_,rfl⟩
   have HB5:Hid (Below wr.heap.size wr W5):=Lib.hid (by rw [←hW5];exact below_rowY (alloc_below wr _) (Nat.le_refl _) _)
   have hc5:W5.cell? ⟨wr.heap.size,0,none⟩=some (.int .i64 (((P i).1:Nat):Int)):=by
    rw [←hW5,cell_of_row _ _ _ _ _ _ (setRow_heap (wr.alloc (.cells Z 82)) wr.heap.size _ _ _ _ HNW.out)]
    rfl
   have HP:=Lib.hid (putS_any W1.heap.size W5 u3 ([72,79,66,74]++[n % 256]++twoB (fun i=>(P i).1) i) (P i).1 2 (Nat.le_trans hr.out.2.size HB5.out.size) (hr.out.1.below HB5.out) (HPP.out i hlt) (by omega) (by rw [List.length_append,twoB_len];simp;omega))
   rw [show ((2:Nat):Int)=2 from rfl] at HP
   go_wp2_with (first
    | (refine wpList_load_mid rfl 82 (.tmp 17) rfl b (i*129) rfl (partL (P i).1 (P i).2) _ HRA.out Tryz.underlying82 rfl HSR.out ?_)
    | (refine wpList_store_row rfl 82 (.tmp 5) (.tmp 18) rfl wr.heap.size (partL (P i).1 (P i).2).toArray rfl rfl 82 Z HNW.out HSA.out HOL.out HON.out ?_;rw [hW5])
    | (go_at_call 119;with_reducible refine HP.out.mono ?_;rintro e w4 ⟨v4,rfl,hv4,hb4⟩))
   have HR4:Hid (Bo W1.heap.size w4 v4 ([72,79,66,74]++[n % 256]++twoB (fun i=>(P i).1) (i+1))∧Below W1.heap.size W1 w4):=Lib.hid ⟨by
    show Bo _ _ _ (_++(twoB _ i++be 2 _))
    rw [←List.append_assoc]
    exact hv4,hr.out.2.trans ((HB5.out.mono hr.out.2.size).trans hb4)⟩
   go_roundw
   case rel=>exact⟨i+1,HI2.out,by go_num,HR4⟩
   case measure=>have:=HI2.out;simp [RowKit.intOf];omega
  ·obtain rfl:i=n:=by omega
   have hd:decide ((i:Int)<(i:Int))=false:=decide_eq_false (by omega)
   obtain⟨⟨p,c,e,ho⟩,hb⟩:=hr.out
   have hlen:([72,79,66,74]++[i % 256]++twoB (fun i=>(P i).1) i).length=5+2*i:=headB_len i _
   have HPT:=Lib.hid (pageText_any p _ c (headB i fun i=>(P i).1) wr (by rw [hlen];omega) (Bys.own ho (headB_dig i _)))
   have HB:=Lib.hid hb
   subst e
   clear hr ho hb
   rw [hlen] at *
   go_wp2_with (go_at_call 120;with_reducible refine HPT.out.mono ?_;rintro e w5 ⟨rfl,hb5⟩)
   go_ret
   exact⟨rfl,HB0.out.trans ((Below.more HB.out hb5 HB.out.size).mono hb1)⟩
end
section
set_option maxRecDepth 20000
open Go.RowKit
def cutV (s:List Nat) (k i:Nat):Nat:=val ((s.drop (i*k)).take k)
theorem IsS.cutS {S:ByteArray} {s:List Nat} (h:IsS S s) (o k L:Nat) (_:s.length=L) (hk:o+k≤L):IsS ((S.extract o L).extract 0 k) ((s.drop o).take k):=by
 have h1:=(h.ext o L).ext 0 k
 rw [List.drop_zero,Nat.sub_zero,List.take_take,Nat.min_eq_left (by omega)] at h1
 exact h1
end
section
namespace Bi
def sp (j:Nat):Fin 2049:=⟨j % 2049,Nat.mod_lt _ (by decide)⟩
abbrev Run:=Fin 2049 × Fin 2049
def runsF (f:Nat→Bool) (n:Nat):Nat→Nat→List Run
 | 0,_=>[]
 | k+1,s=>match nxt f n s with
  | none=>[]
  | some j=>(sp j,sp (endF f n j - j)) :: runsF f n k (endF f n j)
def runs (f:Nat→Bool) (n:Nat):List Run:=runsF f n (n+1) 0
def mems (f:Nat→Bool) (s:Nat):List Nat:=(List.range s).filter f
theorem mems_skip {f:Nat→Bool} {i j:Nat} (hij:i≤j) (h:∀x,i≤x→x<j→f x=false):mems f j=mems f i:=by
 induction j with
 | zero=>
      have:i=0:=by omega
      subst this;rfl
 | succ j ih=>
  by_cases e:i=j+1
  ·subst e;rfl
  ·unfold mems
   rw [List.range_succ,List.filter_append]
   have hj:=h j (by omega) (by omega)
   rw [show List.filter f [j]=[] by simp [hj],List.append_nil]
   exact ih (by omega) (fun x hx hy=>h x hx (by omega))
theorem mems_hit {f:Nat→Bool} {j:Nat} (h:f j=true):mems f (j+1)=mems f j++[j]:=by
 unfold mems
 rw [List.range_succ,List.filter_append,show List.filter f [j]=[j] by simp [h]]
theorem mems_cnt (f:Nat→Bool) (s:Nat):(mems f s).length=cnt f s:=by
 induction s with
 | zero=>rfl
 | succ s ih=>
  cases h:f s with
  | true=>rw [mems_hit h,List.length_append,ih];show _=cnt f s+(f s).toNat;rw [h];rfl
  | false=>rw [mems_skip (Nat.le_succ s) (fun x hx hy=>by
                                                        have:x=s:=by omega
                                                        subst this;exact h),ih];show _=cnt f s+(f s).toNat;rw [h];rfl
end Bi
end
section
set_option maxRecDepth 20000
namespace Bi
open Go.RowKit Go.Shelf
attribute [local go_sem] Oper.semAt_some
def Three (x y z:Nat) (A B:World):Prop:=B.heap[x]?=A.heap[x]?∧B.heap[y]?=A.heap[y]?∧B.heap[z]?=A.heap[z]?
theorem Three.trans {x y z:Nat} {A B C:World} (h:Three x y z A B) (k:Three x y z B C):Three x y z A C:=⟨k.1.trans h.1,k.2.1.trans h.2.1,k.2.2.trans h.2.2⟩
theorem Three.of_below {n₀ x y z:Nat} {A B:World} (h:Below n₀ A B) (hx:x<n₀) (hy:y<n₀) (hz:z<n₀):Three x y z A B:=⟨h.block x hx,h.block y hy,h.block z hz⟩
theorem Three.sat {x g b n:Nat} {f:Nat→Bool} {A B:World} (h:Three x g b A B) (hS:Sat A g b n f):Sat B g b n f:=hS.same h.2.1 h.2.2
end Bi
end
section
set_option maxRecDepth 20000
namespace Bi
open Go.RowKit Go.Shelf
attribute [local go_sem] Oper.semAt_some
end Bi
end
section
set_option maxRecDepth 20000
open Go.RowKit
def Eaten (k R V:Nat):Prop:=R<4294967296∧stps (8 - k) R=V
theorem eaten_put {k R V R2:Nat} (h:Eaten k R V) (hk:k<8) (h2:stp R=R2):Eaten (k+1) R2 V:=by
 obtain⟨hl,he⟩:=h
 subst h2
 refine⟨stp_lt hl,?_⟩
 rw [←he,show 8 - k=(8 - (k+1))+1 by omega];rfl
set_option maxHeartbeats 400000 in
theorem take_any (r c:Nat) (w:World) (hr:r<4294967296) (hc:c<256) :
  Calls Tryz.prog 260 #[.int .u32 r,.int .u8 c] w fun e w'=>e = .returned (.int .u32 (eat r c:Nat))∧w=w':=by
 have hx:=u32_xor_nat r c hr (by omega)
 have hw:IntKind.u32.wrap (c:Int)=c:=by rw [IntKind.wrap_u32];omega
 obtain⟨V,HV⟩:∃V,Hid (eat r c=V):=⟨_,rfl⟩
 rw [HV.out]
 have H0:Hid (Eaten 0 (r ^^^ c) V):=Lib.hid ⟨xor_lt hr (by omega),HV.out⟩
 go_enter Tryz.func260,Tryz.ntmps260
 go_wp2
 clear hx hw
 generalize r ^^^ c=R0 at *
 go_loop [0,10] (fun rv iv=>∃k R:Nat,k≤8∧iv = .int .i64 (k:Int)∧rv = .int .u32 (R:Int)∧Eaten k R V) (fun _ i=>8 - (RowKit.intOf i).toNat)
 case atStart=>exact⟨0,R0,by omega,rfl,rfl,H0.out⟩
 case round=>
  obtain⟨k,R,hk,rfl,rfl,hR⟩:=hrel
  have hl:=hR.1
  have HR:=Lib.hid hR
  clear hR H0
  by_cases hlt:k<8
  ·have hand:bits .and .u32 (R:Int) 1=((R % 2:Nat):Int):=by
    have h:=u32_and_nat R 1 hl (by omega)
    rw [Nat.and_one_is_mod] at h;exact h
   by_cases ho:R % 2=1
   ·have hb:(bits .and .u32 (R:Int) 1 == 1)=true:=by rw [hand,ho];rfl
    have hxp:bits .xor .u32 ((R:Int) / 2) 3988292384=((R / 2 ^^^ 3988292384:Nat):Int):=u32_xor_nat (R / 2) 3988292384 (by omega) (by omega)
    have HS:Hid (stp R=R / 2 ^^^ 3988292384):=Lib.hid (if_pos ho)
    clear ho hand
    go_wp2
    go_round
    case rel=>exact⟨k+1,R / 2 ^^^ 3988292384,by omega,by go_num,rfl,eaten_put HR.out hlt HS.out⟩
    case measure=>simp [RowKit.intOf];omega
   ·have hb:(bits .and .u32 (R:Int) 1 == 1)=false:=by rw [hand,show R % 2=0 by omega];rfl
    have HS:Hid (stp R=R / 2):=Lib.hid (if_neg ho)
    clear ho hand
    go_wp2
    go_round
    case rel=>exact⟨k+1,R / 2,by omega,by go_num,by go_num,eaten_put HR.out hlt HS.out⟩
    case measure=>simp [RowKit.intOf];omega
  ·obtain rfl:k=8:=by omega
   obtain rfl:R=V:=HR.out.2
   clear HV HR
   go_wp2
   go_ret
   exact⟨rfl,rfl⟩
theorem eats_snoc (R:Nat) (bs:List Nat) (k:Nat) (h:k<bs.length):eats R (bs.take (k+1))=eat (eats R (bs.take k)) (bs.getD k 0):=by
 rw [take_succ_getD bs k h,eats_append];rfl
theorem max_u32:IntKind.u32.max=((full:Nat):Int):=by decide
theorem ret_u32 {a b:Nat} (h:a=b):Ending.returned (.int .u32 (a:Int)) = .returned (.int .u32 (b:Int)):=by rw [h]
set_option maxHeartbeats 400000 in
theorem more_zero (s:Nat) (p:Option Addr) (c:Nat) (w:World) (hs:s<4294967296) :
  Calls Tryz.prog 253 #[.int .u32 s,.slice p 0 c] w fun e w'=>e = .returned (.int .u32 (s:Nat))∧w=w':=by
 have hx:bits .xor .u32 IntKind.u32.max (s:Int)=((full ^^^ s:Nat):Int):=by rw [max_u32];exact u32_xor_nat full s (by decide) hs
 have hR:full ^^^ s<4294967296:=xor_lt (by decide) hs
 have hy:bits .xor .u32 IntKind.u32.max ((full ^^^ s:Nat):Int)=(s:Int):=by rw [max_u32,u32_xor_nat full _ (by decide) hR,←Nat.xor_assoc,Nat.xor_self,Nat.zero_xor]
 generalize full ^^^ s=R0 at *
 go_enter Tryz.func253,Tryz.ntmps253
 go_wp2_with fail
 clear hx
 go_loop [5,12] (fun rv iv=>iv = .int .i64 0∧rv = .int .u32 (R0:Int)) (fun _ _=>0)
 case atStart=>exact⟨by go_num,rfl⟩
 case round=>
  obtain⟨rfl,rfl⟩:=hrel
  go_wp2_with fail
  go_ret
  exact⟨rfl,rfl⟩
set_option maxHeartbeats 400000 in
theorem more_pos (s:Nat) (b o n c:Nat) (bs:List Nat) (w:World) (hs:s<4294967296) (hm:n≤9223372036854775807) (hB:Bys w (some ⟨b,o,none⟩) n bs) (hc:∀i,i<n→w.cell? ⟨b,o+i,none⟩=some (.int .u8 ((bs.getD i 0:Nat):Int))) :
  Calls Tryz.prog 253 #[.int .u32 s,.slice (some ⟨b,o,none⟩) n c] w fun e w'=>e = .returned (.int .u32 (more s bs:Nat))∧w=w':=by
 have hx:bits .xor .u32 IntKind.u32.max (s:Int)=((full ^^^ s:Nat):Int):=by rw [max_u32];exact u32_xor_nat full s (by decide) hs
 have hR:full ^^^ s<4294967296:=xor_lt (by decide) hs
 obtain⟨V,HV⟩:∃V,Hid (more s bs=V):=⟨_,rfl⟩
 rw [HV.out]
 unfold more at HV
 generalize full ^^^ s=R0 at *
 have HB:=Lib.hid hB
 have HC:=Lib.hid hc
 clear hB hc
 go_enter Tryz.func253,Tryz.ntmps253
 go_wp2_with fail
 clear hx
 go_loop [5,12] (fun rv iv=>∃k R:Nat,k≤n∧iv = .int .i64 (k:Int)∧rv = .int .u32 (R:Int)∧R<4294967296∧eats R0 (bs.take k)=R) (fun _ i=>n - (RowKit.intOf i).toNat)
 case atStart=>exact⟨0,R0,by omega,by go_num,rfl,hR,rfl⟩
 case round=>
  obtain⟨k,R,hk,rfl,rfl,hR1,hR2⟩:=hrel
  have HR:=Lib.hid hR2
  clear hR2
  by_cases hlt:k<n
  ·have hcell:=HC.out k hlt
   have hx:=HB.out.getD k
   have HS:=Lib.hid (eats_snoc R0 bs k (by rw [HB.out.len];exact hlt))
   generalize bs.getD k 0=x at *
   go_wp2_with (go_at_call 260;refine(take_any R x _ hR1 hx).mono ?_;rintro e w' ⟨rfl,rfl⟩)
   go_round
   case rel=>exact⟨k+1,eat R x,by omega,by go_num,rfl,eat_lt hR1 hx,by rw [HS.out,HR.out]⟩
   case measure=>simp [RowKit.intOf];omega
  ·have HE:Hid (full ^^^ R=V):=by
    rw [←HV.out,←HR.out,List.take_of_length_le (by rw [HB.out.len];omega)];exact Lib.hid rfl
   have hy:bits .xor .u32 IntKind.u32.max (R:Int)=((full ^^^ R:Nat):Int):=by rw [max_u32];exact u32_xor_nat full R (by decide) hR1
   generalize full ^^^ R=X at *
   go_wp2_with fail
   go_ret
   exact⟨ret_u32 HE.out,rfl⟩
theorem more_any (s:Nat) (p:Option Addr) (n c:Nat) (bs:List Nat) (w:World) (hs:s<4294967296) (hm:n≤9223372036854775807) (hB:Bys w p n bs) :
  Calls Tryz.prog 253 #[.int .u32 s,.slice p n c] w fun e w'=>e = .returned (.int .u32 (more s bs:Nat))∧w=w':=by
 rcases Nat.eq_zero_or_pos n with h | h
 ·subst h
  rw [hB.nil_,more_nil]
  exact more_zero s p c w hs
 ·obtain⟨b,o,rfl,hc⟩:=hB.at h
  exact more_pos s b o n c bs w hs hm hB hc
set_option maxHeartbeats 400000 in
theorem sum_any (p:Option Addr) (n c:Nat) (bs:List Nat) (w:World) (hm:n≤9223372036854775807) (hB:Bys w p n bs) :
  Calls Tryz.prog 238 #[.slice p n c] w fun e w'=>e = .returned (.int .u32 (more 0 bs:Nat))∧w=w':=by
 have HB:=Lib.hid hB
 clear hB
 go_enter Tryz.func238,Tryz.ntmps238
 go_wp2_with (go_at_call 253;refine(more_any 0 p n c bs _ (by omega) hm HB.out).mono ?_;rintro e w' ⟨rfl,rfl⟩)
 go_ret
 exact⟨rfl,rfl⟩
end
section
set_option maxRecDepth 20000
open Go.RowKit
def TailSt (B g s k:Nat) (w wr:World):Prop:=wr.ownsRow B 5 1 (.slice (some ⟨g,0,none⟩) 4 4) 4 (u8s ((tailOf s).take k++List.replicate (4 - k) 0))∧Below B w wr
theorem tail_put {B g s k:Nat} {w wr:World} (h:TailSt B g s k w wr) (hg:B≤g) (x:Nat) (hx:(((tailOf s).take k++List.replicate (4 - k) 0).set k x)=(tailOf s).take (k+1)++List.replicate (4 - (k+1)) 0) :
  TailSt B g s (k+1) w (wr.setCell ⟨g,k,none⟩ (.int .u8 (x:Int))):=by
 refine⟨?_,h.2.setCell hg _⟩
 have h2:=h.1.stored k (.int .u8 (x:Int))
 rw [←hx]
 have e:u8s (((tailOf s).take k++List.replicate (4 - k) 0).set k x)=(u8s ((tailOf s).take k++List.replicate (4 - k) 0)).set k (.int .u8 (x:Int)):=by
  unfold u8s;rw [List.map_set]
 rw [e];exact h2.1
set_option maxHeartbeats 400000 in
theorem tail_any (s:Nat) (w:World) (hs:s<4294967296) :
  Calls Tryz.prog 237 #[.int .u32 s] w fun e w'=>(∃g,e = .returned (.slice (some ⟨g,0,none⟩) 4 4)∧Bys w' (some ⟨g,0,none⟩) 4 (tailOf s))∧Below w.heap.size w w':=by
 have hmk:∀w:World,(Instr.makeSlice 71 (.int .i64 4) (.int .i64 4)).run Tryz.prog w = .ok (.slice (some ⟨w.heap.size,0,none⟩) 4 4) (w.alloc (.cells #[.int .u8 0,.int .u8 0,.int .u8 0,.int .u8 0] 5)):=fun w=>by
  obtain⟨i0,hi,hz0,hz1,hz2⟩:=info_parts Tryz.info5
  have h:=run_make (P:=Tryz.prog) w 71 5 i0 _ Tryz.underlying71 hi hz0 .i64 .i64 4 4 (by omega) (by omega) (by rw [hz2];decide) (by omega)
  rw [hz1,show madeCells (Value.int IntKind.u8 0).cells (Int.toNat 4*1)=#[.int .u8 0,.int .u8 0,.int .u8 0,.int .u8 0] by kernel_rfl] at h
  exact h
 have H0:Hid (TailSt w.heap.size w.heap.size s 0 w (w.alloc (.cells #[.int .u8 0,.int .u8 0,.int .u8 0,.int .u8 0] 5))):=
  Lib.hid ⟨World.ownsRow_lit w _ 4 (Nat.le_refl _) (by decide) rfl,(Below.refl _ _).alloc (Nat.le_refl _) _⟩
 have HG:=Lib.hid (Nat.le_refl w.heap.size)
 go_enter Tryz.func237,Tryz.ntmps237
 go_wp2_with fail
 clear hmk
 generalize (w.alloc (.cells #[.int .u8 0,.int .u8 0,.int .u8 0,.int .u8 0] 5))=W at *
 go_loopw [4,6] (fun _ iv wr=>∃k:Nat,k≤4∧iv = .int .i64 (k:Int)∧TailSt w.heap.size w.heap.size s k w wr) (fun _ i _=>4 - (RowKit.intOf i).toNat)
 case atStart=>exact⟨0,by omega,by go_num,H0.out⟩
 case round=>
  obtain⟨k,hk,rfl,hT⟩:=hrel
  by_cases hlt:k<4
  ·rcases (show k=0∨k=1∨k=2∨k=3 by omega) with rfl | rfl | rfl | rfl
   ·have hc:=(hT.1.cellAt 0 (by omega)).trans (u8s_get _ 0 (by simp [tailOf]))
    have hf:=hT.1.frozenAt 0
    have HT:=Lib.hid hT
    clear hT
    go_wp2_with fail
    go_roundw
    case rel=>exact⟨1,by omega,by go_num,tail_put HT.out (Nat.le_refl _) (s % 256) rfl⟩
    case measure=>simp [RowKit.intOf]
   ·have hc:=(hT.1.cellAt 1 (by omega)).trans (u8s_get _ 1 (by simp [tailOf]))
    have hf:=hT.1.frozenAt 1
    have HT:=Lib.hid hT
    clear hT
    go_wp2_with fail
    go_roundw
    case rel=>exact⟨2,by omega,by go_num,tail_put HT.out (Nat.le_refl _) (s / 256 % 256) rfl⟩
    case measure=>simp [RowKit.intOf]
   ·have hc:=(hT.1.cellAt 2 (by omega)).trans (u8s_get _ 2 (by simp [tailOf]))
    have hf:=hT.1.frozenAt 2
    have HT:=Lib.hid hT
    clear hT
    go_wp2_with fail
    go_roundw
    case rel=>exact⟨3,by omega,by go_num,tail_put HT.out (Nat.le_refl _) (s / 65536 % 256) rfl⟩
    case measure=>simp [RowKit.intOf]
   ·have hc:=(hT.1.cellAt 3 (by omega)).trans (u8s_get _ 3 (by simp [tailOf]))
    have hf:=hT.1.frozenAt 3
    have HT:=Lib.hid hT
    clear hT
    go_wp2_with fail
    go_roundw
    case rel=>exact⟨4,by omega,by go_num,tail_put HT.out (Nat.le_refl _) (s / 16777216) (by simp [tailOf];omega)⟩
    case measure=>simp [RowKit.intOf]
  ·obtain rfl:k=4:=by omega
   have hT2:=hT
   clear hT
   have HE:Hid (Bys wr (some ⟨w.heap.size,0,none⟩) 4 (tailOf s)):=Lib.hid (Bys.of_row hT2.1 (by intro x hx;simp [tailOf] at hx;omega))
   have HB:=Lib.hid hT2.2
   clear hT2
   go_wp2_with fail
   go_ret
   exact⟨⟨_,rfl,HE.out⟩,HB.out⟩
end
section
set_option maxRecDepth 20000
open Go.RowKit
set_option maxHeartbeats 400000 in
theorem seal_any (p:Option Addr) (n c:Nat) (bs:List Nat) (w:World) (hm:n≤140737488351232) (hB:Bys w p n bs) :
  Calls Tryz.prog 211 #[.slice p n c] w fun e w'=>e = .returned (.slice (some ⟨w.heap.size,0,none⟩) (n+4) (n+4))∧w'.ownsRow w.heap.size 5 1 (.slice (some ⟨w.heap.size,0,none⟩) (n+4) (n+4)) (n+4) (u8s (bs++tailOf (more 0 bs)))∧Below w.heap.size w w':=by
 obtain⟨i0,hi,hz0,hz1,hz2⟩:=info_parts Tryz.info5
 obtain⟨C0,HC⟩:∃C0,Hid (madeCells (Value.int IntKind.u8 0).cells (n+4)=C0):=⟨_,rfl⟩
 have HCs:Hid (C0.size=n+4):=by rw [←HC.out];exact Lib.hid (size_madeCells _ _)
 have hmk:∀w:World,(Instr.makeSlice 71 (.int .i64 (n:Int)) (.int .i64 ((n:Int)+4))).run Tryz.prog w = .ok (.slice (some ⟨w.heap.size,0,none⟩) n (n+4)) (w.alloc (.cells C0 5)):=fun w=>by
  have h:=run_make (P:=Tryz.prog) w 71 5 i0 _ Tryz.underlying71 hi hz0 .i64 .i64 n (n+4) (by omega) (by omega) (by rw [hz2];omega) (by omega)
  rw [hz1,show ((n:Int)+4).toNat=n+4 by omega,Int.toNat_natCast,Nat.mul_one,HC.out] at h
  exact h
 have HB:=Lib.hid hB
 have HI:=Lib.hid hi
 have HZ:=Lib.hid hz1
 clear hB hi hz0 hz1 hz2
 have HL:Hid ((u8s bs).length=n):=by rw [u8s_len];exact Lib.hid HB.out.len
 have hl0:(Tryz.prog.info? 5).map (·.size)=some 1:=by kernel_rfl
 have HP:=Lib.hid hl0
 clear hl0
 have K1:Hid ((w.alloc (.cells C0 5)).heap[w.heap.size]?=some (.cells C0.toList.toArray 5 (0,0))):=Lib.hid (by show (w.heap.push _)[w.heap.size]?=_;simp)
 have K2:Hid ((u8s bs).length=n.min n):=Lib.hid (by rw [HL.out];exact(Nat.min_self n).symm)
 have K5:Hid (Below w.heap.size w (w.alloc (.cells C0 5))):=Lib.hid ((Below.refl _ _).alloc (Nat.le_refl _) _)
 have K3:Hid (0<(u8s bs).length→some (⟨w.heap.size,0,none⟩:Addr)=some ⟨w.heap.size,0,none⟩∧∃ad,p=some ad∧∀j v,(u8s bs)[j]?=some v→(w.alloc (.cells C0 5)).cell? (ad.add j)=some v):=
  Lib.hid fun h=>⟨rfl,(HB.out.below K5.out).cells (by rw [HL.out] at h;exact h)⟩
 have K4:Hid (0+(u8s bs).length≤C0.toList.length):=Lib.hid (by rw [HL.out,Array.length_toList,HCs.out];omega)
 go_enter Tryz.func211,Tryz.ntmps211
 go_wp2_with (with_reducible refine wpList_copy_splice (w:=w.alloc (.cells C0 5)) rfl (.tmp 10) (.tmp 11) 71 71 rfl 5 Tryz.underlying71 HP.out (some ⟨w.heap.size,0,none⟩) p n (n+4) n c rfl rfl w.heap.size 0 C0.toList 5 K1.out (u8s bs) K2.out K3.out K4.out (u8s_one bs) w.heap.size w K5.out (Nat.le_refl _) ?_)
 clear hmk
 intro w2 hheap hb2
 have HB2:=Lib.hid hb2
 have HO:Hid (w2.ownsRow w.heap.size 5 1 (.slice (some ⟨w.heap.size,0,none⟩) n (n+4)) n (u8s bs)):=Lib.hid ⟨by rw [HL.out,Nat.mul_one],.inr ⟨w.heap.size,n+4,_,rfl,Nat.le_refl _,hheap.out,by omega,by unfold maxLen;omega,by
   rw [List.size_toArray,length_splice _ _ _ K4.out,Array.length_toList,HCs.out,Nat.mul_one],by
   show List.take (n*1) (splice C0.toList 0 (u8s bs))=u8s bs
   rw [Nat.mul_one]
   unfold splice
   rw [List.take_zero,List.nil_append,List.take_append_of_le_length (by rw [HL.out];exact Nat.le_refl _),List.take_of_length_le (by rw [HL.out];exact Nat.le_refl _)]⟩⟩
 clear hheap hb2 K1 K2 K3 K4 K5
 go_wp2_with fail
 refine(sum_any p n c bs _ (by omega) (HB.out.below HB2.out)).mono ?_
 rintro e w3 ⟨rfl,rfl⟩
 have hs:=more_lt (s:=0) (by decide) HB.out.dig
 generalize hS:more 0 bs=S at *
 have HS:=Lib.hid hS
 clear hS
 go_wp2_with fail
 refine(tail_any S _ hs).mono ?_
 rintro e w3 ⟨⟨g,rfl,hT⟩,hb3⟩
 have HO3:=Lib.hid (own_below HO.out hb3)
 have HB3:=Lib.hid (HB2.out.trans (hb3.mono HB2.out.size))
 have K7:Hid (∀j u,(u8s (tailOf S))[j]?=some u→w3.cell? ((⟨g,0,none⟩:Addr).add j)=some u):=Lib.hid (by
  obtain⟨ad,e,h⟩:=hT.cells (by omega)
  cases e
  exact h)
 have KL:Hid ((u8s (tailOf S)).length=4*1):=Lib.hid (by rw [u8s_len];rfl)
 clear hT hb3
 go_wp2_with (with_reducible refine wpList_append_fits w3 rfl (.tmp 13) (.tmp 16) 71 rfl w.heap.size 5 i0 1 Tryz.underlying71 HI.out HZ.out w.heap.size n (n+4) (u8s bs) rfl HO3.out ⟨g,0,none⟩ 4 4 (u8s (tailOf S)) rfl KL.out K7.out (u8s_one _) (Nat.le_refl _) ?_)
 intro w4 hown hgrow
 have HO4:=Lib.hid hown
 have HB4:=Lib.hid (HB3.out.grown hgrow HB3.out.size (fun k e=>by cases e;exact Nat.le_refl _))
 clear hown hgrow
 go_wp2_with fail
 go_ret
 exact⟨rfl,by rw [u8s_append,HS.out];exact HO4.out,HB4.out⟩
end
section
open Go.RowKit
theorem RtAt.only {w w':World} {b t g:Nat} {r:Rt} (h:RtAt w b t r) (ho:Only g w w') (hg:b≠g):RtAt w' b t r:=(ho.block b h.lt hg).trans h
end
end Go.Proofs.YtmbecjlioogbhaaGreatDoor
