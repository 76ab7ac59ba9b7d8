/- Texts YData to Door of this seat, laid into one. -/
import Derived.Deep.Cut
import Derived.Test.YtmbecjlioogbhaaGreatDoorRows
import Derived.Deep.Grids
import Derived.Deep.Slices
import Derived.ProofKit
import Derived.OpenShut
import Derived.ChangeSame
import Derived.SizedLaws
import Derived.Carry
import Derived.Lay
import Derived.LaidOnce
import Derived.LaidHandle
import Derived.Test.YtmbecjlioogbhaaGreatDoorM05
import Derived.Test.YtmbecjlioogbhaaGreatDoorM14
import Derived.Test.YtmbecjlioogbhaaGreatDoorM29
set_option linter.unusedVariables false
set_option linter.unusedSimpArgs false
set_option linter.constructorNameAsVariable false
namespace Go.Proofs.YtmbecjlioogbhaaGreatDoor
section
set_option maxRecDepth 20000
open Go.RowKit
def dataL (f n:Nat):List Nat:=(List.range n).map fun i=>(f+i / 7) % 256
theorem dataL_len (f n:Nat):(dataL f n).length=n:=by simp [dataL]
theorem dataL_snoc (f n:Nat):dataL f (n+1)=dataL f n++[(f+n / 7) % 256]:=by simp [dataL,List.range_succ]
theorem dataL_dig (f n:Nat):∀x∈dataL f n,x<256:=by
 intro x hx
 obtain⟨i,_,rfl⟩:=List.mem_map.1 hx
 exact Nat.mod_lt _ (by decide)
def DataSt (f n i:Nat) (w wr:World):Prop:=wr.ownsRow w.heap.size 5 1 (.slice (some ⟨w.heap.size,0,none⟩) n n) n (u8s (dataL f i++List.replicate (n - i) 0))∧Below w.heap.size w wr
theorem data_put {f n i:Nat} {w wr:World} (h:DataSt f n i w wr) (hi:i<n):DataSt f n (i+1) w (wr.setCell ⟨w.heap.size,i,none⟩ (.int .u8 (((f+i / 7) % 256:Nat):Int))):=by
 refine⟨?_,h.2.setCell (Nat.le_refl _) _⟩
 have h2:=h.1.stored i (.int .u8 (((f+i / 7) % 256:Nat):Int))
 have e:dataL f (i+1)++List.replicate (n - (i+1)) 0=(dataL f i++List.replicate (n - i) 0).set i ((f+i / 7) % 256):=by
  rw [dataL_snoc,List.set_append_right _ _ (by rw [dataL_len];omega),dataL_len,Nat.sub_self,show n - i=(n - (i+1))+1 by omega,List.replicate_succ,List.set_cons_zero,List.append_assoc];rfl
 rw [e]
 have e2:u8s ((dataL f i++List.replicate (n - i) 0).set i ((f+i / 7) % 256))=(u8s (dataL f i++List.replicate (n - i) 0)).set i (.int .u8 (((f+i / 7) % 256:Nat):Int)):=by
  unfold u8s;rw [List.map_set]
 rw [e2];exact h2.1
theorem data_get (f n i:Nat) (hi:i<n):(u8s (dataL f i++List.replicate (n - i) 0))[i]?=some (.int .u8 0):=by
 have h:(dataL f i++List.replicate (n - i) 0)[i]?=some 0:=by
  rw [List.getElem?_append_right (by rw [dataL_len];omega),dataL_len,Nat.sub_self,List.getElem?_replicate]
  rw [if_pos (by omega)]
 unfold u8s
 rw [List.getElem?_map,h];rfl
theorem made_u8 (n:Nat):(madeCells (Value.int IntKind.u8 0).cells n).toList=u8s (List.replicate n 0):=
 (toList_madeCells_one _ n).trans (by unfold u8s;rw [List.map_replicate];rfl)
set_option maxHeartbeats 1600000 in
theorem data_any (n f:Nat) (hn:n≤20000) (hf:f<256) (w:World) :
  Calls Tryz.prog 58 #[.int .i64 (n:Int),.int .u8 (f:Int)] w fun e w'=>e = .returned (.string (strB (dataL f n)))∧Below w.heap.size w w':=by
 obtain⟨C0,hC0⟩:∃C0:Array Value,C0=madeCells (Value.int IntKind.u8 0).cells (Int.toNat (n:Int)*1):=⟨_,rfl⟩
 have hmk:∀w:World,(Instr.makeSlice 71 (.int .i64 (n:Int)) (.int .i64 (n:Int))).run Tryz.prog w = .ok (.slice (some ⟨w.heap.size,0,none⟩) n n) (w.alloc (.cells C0 5)):=fun w=>by
  obtain⟨i0,hi,hz0,hz1,hz2⟩:=info_parts Tryz.info5
  have h:=run_make (P:=Tryz.prog) w 71 5 i0 _ Tryz.underlying71 hi hz0 .i64 .i64 (n:Int) (n:Int) (by omega) (by omega) (by rw [hz2];simp;omega) (by omega)
  rw [hz1,←hC0] at h
  exact h
 have HC:Hid (C0.toList=u8s (List.replicate n 0)):=Lib.hid (by rw [hC0,Int.toNat_natCast,Nat.mul_one];exact made_u8 n)
 have HD0:Hid (DataSt f n 0 w (w.alloc (.cells C0 5))):=Lib.hid ⟨⟨by simp [u8s,dataL],.inr ⟨w.heap.size,n,C0,rfl,Nat.le_refl _,heap_alloc_new w _,Nat.le_refl _,by unfold maxLen;omega,by
  have:=congrArg List.length HC.out
  simp [u8s] at this
  omega,by
  rw [HC.out]
  rw [List.take_of_length_le (by simp [u8s])]
  simp [dataL]⟩⟩,(Below.refl _ _).alloc (Nat.le_refl _) _⟩
 clear hC0
 go_enter Tryz.func58,Tryz.ntmps58
 go_wp2_with fail
 clear hmk
 generalize w.alloc (.cells C0 5)=W0 at *
 go_loopw [6] (fun iv wx=>∃k:Nat,k≤n∧iv = .int .i64 (k:Int)∧Hid (DataSt f n k w wx)) (fun iv _=>n - (RowKit.intOf iv).toNat)
 case atStart=>exact⟨0,by omega,by go_num,HD0⟩
 case round=>
  obtain⟨k,hk,rfl,HT⟩:=hrel
  clear HD0
  by_cases hlt:k<n
  ·have hc:=(HT.out.1.cellAt k (by omega)).trans (data_get f n k hlt)
   have hf2:=HT.out.1.frozenAt k
   have hin:(k:Int)<(n:Int):=by omega
   have hk5:(k:Int)≤20000:=by omega
   have HLT:Hid (k+1≤n):=Lib.hid hlt
   have HPT:=Lib.hid (data_put HT.out hlt)
   have hval:((f:Int)+(k:Int) / 7) % 256=(((f+k / 7) % 256:Nat):Int):=by omega
   have HVV:=Lib.hid hval
   clear hval
   go_wp2_with fail
   go_roundw
   case rel=>exact⟨k+1,HLT.out,by go_num,by rw [HVV.out];exact HPT⟩
   case measure=>simp [RowKit.intOf];omega
  ·obtain rfl:k=n:=by omega
   have HB:=Lib.hid HT.out.2
   have hby:Bys wr (some ⟨w.heap.size,0,none⟩) k (dataL f k):=Bys.own (by
    have h:=HT.out.1
    rw [Nat.sub_self,List.replicate_zero,List.append_nil] at h
    exact h) (dataL_dig f k)
   have hcv:=hby.conv k
   clear hby HT
   go_wp2_with fail
   go_ret
   exact⟨rfl,HB.out⟩
def dataN (l:Int):Nat:=(max 0 (min l 16400)).toNat
set_option maxHeartbeats 1600000 in
theorem lawData_any (a b l:Int) (f:Nat) (hf:f<256) (w:World) :
  Calls Tryz.prog 25 #[.agg #[.int .i64 a,.int .i64 b,.int .i64 l,.int .u8 (f:Int)]] w fun e w'=>e = .returned (.string (strB (dataL f (dataN l))))∧Below w.heap.size w w':=by
 have hN:max 0 (min l 16400)=((dataN l:Nat):Int):=by unfold dataN;omega
 have hN2:dataN l≤20000:=by unfold dataN;omega
 have HNN:=Lib.hid hN
 have HB:Hid (Below w.heap.size w (w.alloc (.cells #[.int .i64 a,.int .i64 b,.int .i64 l,.int .u8 (f:Int)] 55))):=Lib.hid ((Below.refl _ _).alloc (Nat.le_refl _) _)
 have HD:Hid (∀u (x:Int),x=max 0 (min l 16400)→Calls Tryz.prog 58 #[.int .i64 x,.int .u8 (f:Int)] u fun e w'=>e = .returned (.string (strB (dataL f (dataN l))))∧Below u.heap.size u w'):=Lib.hid fun u x hx=>by
  rw [hx,hN];exact data_any _ f hN2 hf u
 clear hN hN2
 go_enter Tryz.func25,Tryz.ntmps25
 go_upto_region 1 with fail
 have hx:=heap_alloc_new w (.cells #[.int .i64 a,.int .i64 b,.int .i64 l,.int .u8 (f:Int)] 55)
 generalize w.alloc (.cells #[.int .i64 a,.int .i64 b,.int .i64 l,.int .u8 (f:Int)] 55)=W1 at *
 have x2:=cell_of_row _ _ 2 _ _ _ hx
 have x3:=cell_of_row _ _ 3 _ _ _ hx
 simp at x2 x3
 go_wp2_with (go_at_call 58;refine(HD.out _ _ (by omega)).mono ?_;rintro e w2 ⟨rfl,hb⟩;have HB2:=Lib.hid hb;clear hb)
 all_goals first
  | (go_ret;exact⟨rfl,HB.out.trans (HB2.out.mono HB.out.size)⟩)
  | (refine(HD.out _ _ (by omega)).mono ?_;rintro e w2 ⟨rfl,hb⟩;have HB2:=Lib.hid hb;clear hb;go_wp2_with fail;go_ret;exact⟨rfl,HB.out.trans (HB2.out.mono HB.out.size)⟩)
end
section
set_option maxRecDepth 20000
open Go.RowKit
section
variable {w w':World} {d sg pg k g mb:Nat} {D G:List Nat} {m:Dsk} {s:Sp} {y:Xv} {F:Nat→Nat}
set_option maxHeartbeats 3200000 in
theorem Sto.add0 (h:Sto w d sg D G m s pg y k g mb (.slice none 0 0) 0 F) (hr:Rms w mb (fun _=>none)) (hmG:mb∉G) (hmD:mb∉D) (hh:y.now 0=head0) (l1 l2:Nat) (hl1:gapF (nn y.now) 512 0=some l1) (hl2:gapF (nn (partY y F l1).now) 512 0=some l2) (hcn:Bi.cnt (nn y.now) 512≤500) (S:ByteArray) (ds:List Nat) (hS:IsS S ds) (hd:ds.length≤479) :
  Calls Tryz.prog 24 #[.pointer (some ⟨g,0,none⟩),.string S] w fun e w'=>e = .returned (.tuple #[.int .i64 1,.int .i64 0])∧∃s' y' v' F',Sto w' d sg D G m s' pg y' k g mb v' 1 F'∧(∀q,nn y'.now q=true↔nn y.now q=true∨q=0∨q=l1∨q=l2)∧(∀b,b<w.heap.size→b∉G→b≠g→b≠mb→w'.heap[b]?=w.heap[b]?)∧w'.os=w.os∧w'.tape=w.tape∧w'.output=w.output∧w.heap.size≤w'.heap.size:=by
 have h0:thX y.now 0=true:=by
  rw [show (0:Int)=((0:Nat):Int) from rfl,th_nat (by omega)]
  unfold nn
  rw [hh];rfl
 have hsz:=hS.size
 have HRF:=Lib.hid h.st.refusal
 have hba:=h.st.bare
 rw [show bareN F 0=0 from by have:=bare_all (F:=F) (n:=0) (fun j hj=>by omega);simpa using this,show (((0:Nat):Int)+1)=1 from rfl] at hba
 have HBA:=Lib.hid hba
 have HRO:Hid (∀w1,Below w.heap.size w w1→Calls Tryz.prog 52 #[.pointer (some ⟨g,0,none⟩),.int .i64 (S.size:Int)] w1 fun e w'=>e = .returned (.int .i64 (-1))∧Below w1.heap.size w1 w'):=Lib.hid fun w1 hb=>(h.below hb).st.roomy0 (hr.below hb) _
 have HLK:Hid (∀w1,Below w.heap.size w w1→Calls Tryz.prog 53 #[.pointer (some ⟨g,0,none⟩),.int .i64 1,.int .i64 (-1),.int .i64 (S.size:Int)] w1 fun e w'=>e = .returned (.bool false)∧Below w1.heap.size w1 w'):=Lib.hid fun w1 hb=>by
  have hl:=(h.below hb).lacks 1 (-1) S.size (by omega)
  have e1:needP 0 1 (-1) S.size=2:=by unfold needP pagesForN;rw [if_pos (by omega)];rfl
  rw [e1,show decide ((512:Int) - (Bi.cnt (nn y.now) 512:Nat)<((2:Nat):Int))=false from decide_eq_false (by omega)] at hl
  exact hl
 have HDK:Hid (∀w1,Below w.heap.size w w1→Calls Tryz.prog 54 #[.pointer (some ⟨g,0,none⟩)] w1 fun e w'=>∃mb2,e = .returned (.agg #[.pointer (some ⟨g,0,none⟩),.map (some mb2)])∧Dms w' mb2 (fun _=>none)∧w1.heap.size≤mb2∧Below w1.heap.size w1 w'):=Lib.hid fun w1 _=>desk_any g w1
 have HSU:Hid (∀w1 mb2,Below w.heap.size w w1→Calls Tryz.prog 55 #[.agg #[.pointer (some ⟨g,0,none⟩),.map (some mb2)],.int .i64 1,.int .i64 (-1)] w1 fun e w'=>e = .returned (.int .i64 0)∧Below w1.heap.size w1 w'):=Lib.hid fun w1 mb2 hb=>(h.below hb).deskSure0 hh mb2
 have hGL:=kin_lt h.sp.kinG
 have hDL:=kin_lt h.sp.kinF
 have hl25:l2<512:=by have:=(gapF_lt hl2).1;omega
 have HLY:Hid (∀w1 mb2,Below w.heap.size w w1→Dms w1 mb2 (fun _=>none)→w.heap.size≤mb2→Calls Tryz.prog 56 #[.agg #[.pointer (some ⟨g,0,none⟩),.map (some mb2)],.int .i64 1,.int .i64 (-1),.string S] w1 fun e w'=>e = .returned (.tuple #[]) ∧
   ((∀b cs,w1.heap[b]?=some (.cells cs 106 (0,0))→w.heap.size≤b→w'.heap[b]?=w1.heap[b]?)∧Hid (Calls Tryz.prog 57 #[.agg #[.pointer (some ⟨g,0,none⟩),.map (some mb2)]] w' fun e w2=>e = .returned (.tuple #[])∧∃s' y' v' F',Sto w2 d sg D G m s' pg y' k g mb v' 1 F'∧(∀q,nn y'.now q=true↔nn y.now q=true∨q=0∨q=l1∨q=l2)∧(∀b,b<w.heap.size→b∉G→b≠g→b≠mb→w2.heap[b]?=w.heap[b]?)∧w2.os=w.os∧w2.tape=w.tape∧w2.output=w.output∧w.heap.size≤w2.heap.size))):=Lib.hid fun w1 mb2 hb hm hm2=>by
  have hmb:=hr.lt
  refine((h.below hb).lay0 hm (fun e=>by have:=hGL mb2 e;omega) (fun e=>by have:=hDL mb2 e;omega) l1 l2 hl1 h0 hl2 S ds hS hd).mono ?_
  rintro e w2 ⟨rfl,s',y',v',F',gp,vp,hs,hdm,hpg,hft,hnn,hfr,ho1,ho2,ho3,hz3⟩
  refine⟨rfl,fun b cs hbx hbw=>hfr b _ hbx (fun e=>by have:=hGL b e;omega) (fun e=>by have:=h.st.lt;omega) (fun e=>?_),Lib.hid ?_⟩
  ·obtain⟨es,c,hb3⟩:=hm.isMap
   rw [←e,hbx] at hb3;cases hb3
  have hth:thX y'.now (l2:Int)=true:=by rw [th_nat hl25];exact(hnn l2).2 (.inr (.inr (.inr rfl)))
  have hr1:=hr.below hb
  obtain⟨es,c,hmp⟩:=hr1.isMap
  have hmg:mb≠g:=fun e=>by
   rw [e,(h.below hb).st.row] at hmp;cases hmp
  have hr2:=hr1.same (hfr mb _ hmp hmG hmg (by omega))
  refine(hs.clear0 hdm hpg hl25 hth ⟨_,hr2⟩ hmG hmD (fun e=>by have:=hGL mb2 e;omega) (fun j hj=>(hft j hj).1) ?_).mono ?_
  ·rw [strB_size]
   unfold recB
   rw [if_pos rfl]
   simp
   omega
  ·rintro e w3 ⟨rfl,s3,h3,hc3⟩
   refine⟨rfl,s3,_,v',F',h3,fun q=>?_,fun b hb1 hbG hbg hbm=>?_,hc3.os.trans (ho1.trans hb.os),hc3.tape.trans (ho2.trans hb.tape),hc3.output.trans (ho3.trans hb.output),by have:=hc3.size;have:=hb.size;omega⟩
   rotate_left
   ·have hbs:=hb.size
    have q1:=hb.block b hb1
    obtain⟨ob,hob⟩:∃ob,w1.heap[b]?=some ob:=⟨w1.heap[b],Array.getElem?_eq_getElem (by omega)⟩
    have q2:=hfr b _ hob hbG hbg (by omega)
    exact(hc3.block b (by omega) (fun e=>(List.mem_cons.1 e).elim hbm hbG)).trans (q2.trans q1)
   show (!(if q=l2 then Sl.bytesM [some (strB (recB ds []))] else y'.now q).isEmpty)=true↔_
   by_cases e:q=l2
   ·rw [if_pos e]
    refine⟨fun _=>.inr (.inr (.inr e)),fun _=>?_⟩
    have hl:=Sl.bytesM_len hpg.ok
    cases hz:Sl.bytesM [some (strB (recB ds []))] with
    | nil=>rw [hz] at hl;cases hl
    | cons a b=>rfl
   ·rw [if_neg e];exact hnn q
 have hszI:(S.size:Int)≤479:=by omega
 have d1:decide ((16384:Int)<(S.size:Int))=false:=decide_eq_false (by omega)
 have d2:decide (16384<S.size)=false:=decide_eq_false (by omega)
 clear h hr hmG hmD hh hl1 hl2 hcn hS hd h0 hsz hba hGL hDL hl25
 go_enter Tryz.func24,Tryz.ntmps24
 go_upto_region 9 with (first
  | (go_at_call 42;with_reducible refine HRF.out.mono ?_;rintro e w1 ⟨rfl,rfl⟩)
  | (go_at_call 51;with_reducible refine HBA.out.mono ?_;rintro e w2 ⟨rfl,hb2⟩;have HB2:=Lib.hid hb2;clear hb2)
  | (go_at_call 52;with_reducible refine(HRO.out _ HB2.out).mono ?_;rintro e w3 ⟨rfl,hb3⟩;have HB3:=Lib.hid (HB2.out.trans (hb3.mono HB2.out.size));clear hb3)
  | (go_at_call 53;with_reducible refine(HLK.out _ HB3.out).mono ?_;rintro e w4 ⟨rfl,hb4⟩;have HB4:=Lib.hid (HB3.out.trans (hb4.mono HB3.out.size));clear hb4))
 go_upto_region 10 with (go_at_call 54;with_reducible refine(HDK.out _ HB4.out).mono ?_;rintro e w5 ⟨mb2,rfl,hm5,hm2,hb5⟩;have HB5:=Lib.hid (HB4.out.trans (hb5.mono HB4.out.size));have HM5:=Lib.hid hm5;have HM2:Hid (w.heap.size≤mb2):=Lib.hid (by have:=HB4.out.size;omega);clear hm5 hm2 hb5)
 have hb6:Below w5.heap.size w5 (w5.alloc (.cells #[.pointer (some ⟨g,0,none⟩),.map (some mb2)] 106)):=(Below.refl _ _).alloc (Nat.le_refl _) _
 have HB6:=Lib.hid (HB5.out.trans (hb6.mono HB5.out.size))
 have HM6:=Lib.hid (HM5.out.below hb6)
 have HX6:=Lib.hid (heap_alloc_new w5 (.cells #[.pointer (some ⟨g,0,none⟩),.map (some mb2)] 106))
 have HZ5:=Lib.hid HB5.out.size
 clear hb6 HM5
 generalize w5.alloc (.cells #[.pointer (some ⟨g,0,none⟩),.map (some mb2)] 106)=w6 at *
 have a0:=cell_of_row _ _ 0 _ _ _ HX6.out
 have a1:=cell_of_row _ _ 1 _ _ _ HX6.out
 simp at a0 a1
 go_upto_region 13 with (go_at_call 55;with_reducible refine(HSU.out _ mb2 HB6.out).mono ?_;rintro e w7 ⟨rfl,hb7⟩;have HB7:=Lib.hid (HB6.out.trans (hb7.mono HB6.out.size));have HM7:=Lib.hid (HM6.out.below hb7);have HX7:=Lib.hid ((hb7.block _ (lt_of_block HX6.out)).trans HX6.out);have a0:=cell_of_row _ _ 0 _ _ _ HX7.out;have a1:=cell_of_row _ _ 1 _ _ _ HX7.out;simp at a0 a1;clear hb7)
 go_upto_region 14 with (go_at_call 56;with_reducible refine(HLY.out _ mb2 HB7.out HM7.out HM2.out).mono ?_;rintro e w8 ⟨rfl,hfr8,HC8⟩;have hx8:=(hfr8 _ _ HX7.out HZ5.out).trans HX7.out;have a0:=cell_of_row _ _ 0 _ _ _ hx8;have a1:=cell_of_row _ _ 1 _ _ _ hx8;simp at a0 a1)
 go_wp2_with (go_at_call 57;with_reducible refine HC8.out.mono ?_;rintro e w9 ⟨rfl,HE9⟩;have HE:=Lib.hid HE9;clear HE9)
 go_ret2
 exact⟨rfl,HE.out⟩
end
end
section
set_option maxRecDepth 20000
open Go.RowKit
abbrev yF:Xv:=(Xv.new.put 0 head0).commit 0
theorem yF_nn (q:Nat):nn yF.now q=decide (q=0):=by
 show (!(if q=0 then head0 else []).isEmpty)=_
 by_cases e:q=0
 ·rw [if_pos e,decide_eq_true e];rfl
 ·rw [if_neg e,decide_eq_false e];rfl
theorem gap_skip {f:Nat→Bool} {k i:Nat} (h:f i=true):gapF f (k+1) i=gapF f k (i+1):=by
 show (if f i then gapF f k (i+1) else some i)=_
 rw [h];rfl
theorem gap_here {f:Nat→Bool} {k i:Nat} (h:f i=false):gapF f (k+1) i=some i:=by
 show (if f i then gapF f k (i+1) else some i)=_
 rw [h];rfl
theorem yF_gap1:gapF (nn yF.now) 512 0=some 1:=by
 rw [show (512:Nat)=510+1+1 from rfl,gap_skip (by rw [yF_nn];rfl),gap_here (by rw [yF_nn];rfl)]
theorem yF_nn2 (F:Nat→Nat) (q:Nat):nn (partY yF F 1).now q=decide (q=0∨q=1):=by
 have hz1:zpart.isEmpty=false:=by
  cases hz:zpart with
  | nil=>have:=zpart_ok.1;rw [hz] at this;cases this
  | cons a b=>rfl
 show (!(if q=0 then pageT (headB 1 fun i=>grewF F 0 1 (i*129)) else if q=1 then zpart else if q=0 then head0 else []).isEmpty)=_
 by_cases e:q=0
 ·rw [if_pos e,decide_eq_true (.inl e)];unfold pageT headB;rfl
 ·rw [if_neg e]
  by_cases e1:q=1
  ·rw [if_pos e1,hz1,decide_eq_true (.inr e1)];rfl
  ·rw [if_neg e1,if_neg e,decide_eq_false (fun h=>h.elim e e1)];rfl
theorem yF_gap2 (F:Nat→Nat):gapF (nn (partY yF F 1).now) 512 0=some 2:=by
 rw [show (512:Nat)=509+1+1+1 from rfl,gap_skip (by rw [yF_nn2];rfl),gap_skip (by rw [yF_nn2];rfl),gap_here (by rw [yF_nn2];rfl)]
theorem cnt_three {f:Nat→Bool} (h:∀q,f q=true↔q=0∨q=1∨q=2):Bi.cnt f 512=3:=by
 have h3:=Bi.cnt_skip (f:=f) (i:=3) (j:=512) (by omega) (fun x hx _=>by
  cases e:f x with
  | false=>rfl
  | true=>have:=(h x).1 e;omega)
 rw [h3]
 show 0+(f 0).toNat+(f 1).toNat+(f 2).toNat=3
 rw [(h 0).2 (.inl rfl),(h 1).2 (.inr (.inl rfl)),(h 2).2 (.inr (.inr rfl))]
 rfl
set_option maxHeartbeats 3200000 in
theorem lives_any (w:World):Calls Tryz.prog 14 #[] w fun e w'=>e = .returned (.bool true)∧Below w.heap.size w w':=by
 have hf:=fresh_any 32 (by decide) (by decide) w
 rw [show ((32:Nat):Int)=32 from rfl] at hf
 have HF:=Lib.hid (hf.mono (R':=fun e w'=>∃d g,e = .returned (.tuple #[.pointer (some ⟨d,0,none⟩),.pointer (some ⟨g,0,none⟩)])∧Hid (Calls Tryz.prog 24 #[.pointer (some ⟨g,0,none⟩),.string ⟨#[120]⟩] w' fun e w2=>e = .returned (.tuple #[.int .i64 1,.int .i64 0])∧∃sg,w2.cell? ⟨g,0,none⟩=some (.pointer (some ⟨sg,0,none⟩))∧Hid (Below w.heap.size w w2)∧Hid (Calls Tryz.prog 23 #[.pointer (some ⟨sg,0,none⟩)] w2 fun e w3=>e = .returned (.int .i64 3)∧Below w2.heap.size w2 w3))) (by
  rintro e w' ⟨d,g,sg,D,G,m,s,mb,rfl,hs,hr,hbw,hG,hD,hDG,hgl,hml⟩
  refine⟨d,g,rfl,Lib.hid ((hs.add0 hr hG hD rfl 1 2 yF_gap1 (yF_gap2 _) ?_ ⟨#[120]⟩ [120] ⟨rfl,by decide⟩ (by decide)).mono ?_)⟩
  ·have:=cnt_lone (f:=nn yF.now) (x:=0) (fun p hp=>by rw [yF_nn] at hp;exact of_decide_eq_true hp) 512
   have h2:(decide (0<512)).toNat=1:=rfl
   rw [h2] at this
   exact Nat.le_trans this (by decide)
  ·rintro e w2 ⟨rfl,s',y',v',F',hs2,hn,hbk,ho,ht,hp,hz⟩
   refine⟨rfl,sg,hs2.st.c0,Lib.hid (hbw.trans ⟨ho,ht,hp,hz,fun j hj=>hbk j (by have:=hbw.size;omega) (fun e=>by have:=hDG j (List.mem_append.2 (.inr e));omega) (by omega) (by omega)⟩),Lib.hid ((len_z hs2.sp).mono ?_)⟩
   rintro e w3 ⟨rfl,hb3⟩
   rw [cnt_three (f:=nn y'.now) fun q=>by rw [hn q,yF_nn q,decide_eq_true_iff];omega]
   exact⟨rfl,hb3⟩))
 clear hf
 go_enter Tryz.func14,Tryz.ntmps14
 go_upto_region 2 with (go_at_call 20;with_reducible refine HF.out.mono ?_;rintro e w1 ⟨d,g,rfl,HA⟩)
 go_upto_region 3 with (go_at_call 24;with_reducible refine HA.out.mono ?_;rintro e w2 ⟨rfl,sg,c0,HB2,HL⟩)
 have HSP:Hid (Calls Tryz.prog 21 #[.pointer (some ⟨g,0,none⟩)] w2 fun e w'=>e = .returned (.pointer (some ⟨sg,0,none⟩))∧w2=w'):=Lib.hid (by
  clear HF HA HL
  go_enter Tryz.func21,Tryz.ntmps21
  go_wp2_with fail
  go_ret
  exact⟨rfl,rfl⟩)
 go_wp2_with (first
  | (go_at_call 21;with_reducible refine HSP.out.mono ?_;rintro e w3 ⟨rfl,rfl⟩)
  | (go_at_call 23;with_reducible refine HL.out.mono ?_;rintro e w4 ⟨rfl,hb4⟩;have HB4:=Lib.hid (HB2.out.trans (hb4.mono HB2.out.size));clear hb4))
 go_ret
 exact⟨rfl,HB4.out⟩
end
section
set_option maxRecDepth 20000
open Go.RowKit
def IntsF (w:World) (q:Option Addr) (n:Nat) (f:Nat→Int):Prop:=0<n→∃b o,q=some ⟨b,o,none⟩∧b<w.heap.size∧∀i,i<n→w.cell? ⟨b,o+i,none⟩=some (.int .i64 (f i))
def Fst (w wr:World) (d sg:Nat) (D G:List Nat) (m:Dsk) (g mb:Nat):Prop:=(∃y s U,Stw wr d sg D G m s 16 y 1 g mb (.slice none 0 0) 0 (fun _=>0) (fun _=>none) (fun _=>none) U)∧Below w.heap.size w wr
structure Snd (w wr:World) (B d sg:Nat) (D G:List Nat) (m:Dsk) (g mb:Nat) (L:List (List Nat)) (p:Option Addr) (N c:Nat):Prop where
 st:∃y s v n F q T U,Stw wr d sg D G m s 16 y 1 g mb v n F q T U∧Rowed T L∧∀b,v.ownBlock=some b→w.heap.size≤b
 row:wr.ownsRow B 59 2 (.slice p N c) N (flatT L)
 len:N=L.length
 bl:Below w.heap.size w wr
 bB:B≤wr.heap.size
 wB:w.heap.size≤B
def Lo (w:World) (B:Nat) (D G:List Nat) (g mb:Nat):Prop:=(∀j∈D++G,w.heap.size≤j∧j<B)∧w.heap.size≤g∧g<B∧w.heap.size≤mb∧mb<B
structure Thd (w wr u w':World) (B d sg:Nat) (D G:List Nat) (m:Dsk) (g mb:Nat) (L L':List (List Nat)) (p:Option Addr) (N c:Nat):Prop where
 st:∃y s v n F q T U,Stw w' d sg D G m s 16 y 1 g mb v n F q T U∧Rowed T L'∧∀b,v.ownBlock=some b→w.heap.size≤b
 row:w'.ownsRow B 59 2 (.slice p N c) N (flatT L)
 len:N=L.length
 bl:Below w.heap.size w w'
 bB:B≤w'.heap.size
 wB:w.heap.size≤B
 up:∀b,wr.heap.size≤b→b<u.heap.size→w'.heap[b]?=u.heap[b]?
section
variable {w wr:World} {B d sg:Nat} {D G:List Nat} {m:Dsk} {g mb:Nat} {L L':List (List Nat)} {p:Option Addr} {N c:Nat}
theorem Snd.below {u:World} (h:Snd w wr B d sg D G m g mb L p N c) (hb:Below wr.heap.size wr u):Snd w u B d sg D G m g mb L p N c:=by
 obtain⟨y,s,v,n,F,q,T,U,hs,hr,hv⟩:=h.st
 exact⟨⟨y,s,v,n,F,q,T,U,hs.below hb,hr,hv⟩,own_below h.row hb,h.len,h.bl.trans (hb.mono h.bl.size),Nat.le_trans h.bB hb.size,h.wB⟩
theorem Snd.add {u:World} (h:Snd w wr B d sg D G m g mb L p N c) (hl:Lo w B D G g mb) (hb:Below wr.heap.size wr u) (S:ByteArray) (ds:List Nat) (hS:IsS S ds) (hd:ds.length≤1099511627776) :
  Calls Tryz.prog 24 #[.pointer (some ⟨g,0,none⟩),.string S] u fun e w'=>
   (e = .returned (.tuple #[.int .i64 ((N:Int)+1),.int .i64 0])∧Thd w wr u w' B d sg D G m g mb L (L++[ds]) p N c) ∨
   (∃E:Int,(E=2∨E=8)∧e = .returned (.tuple #[.int .i64 0,.int .i64 E])∧Below u.heap.size u w'):=by
 have h1:=h.below hb
 obtain⟨y,s,v,n,F,q,T,U,hs,hr,hv⟩:=h.st
 refine((hs.below hb).addAny hr S ds hS hd).mono ?_
 rintro e w' (⟨rfl,y',T',hr',⟨⟨s',v',n',F',q',U',hs',hf⟩,hx⟩⟩ | ⟨E,hE,rfl,hb'⟩)
 ·refine .inl ⟨by rw [h.len],?_⟩
  have hz:=hb.size
  have hvl:∀b,v.ownBlock=some b→b<wr.heap.size:=fun b e=>(World.ownsRow.lt hs.st.st.own b e).2
  have hkeep:∀b,b<u.heap.size→(b<w.heap.size∨B≤b)→v.ownBlock≠some b→w'.heap[b]?=u.heap[b]?:=fun b hb1 hb2 hb3=>
   hf.keep b hb1 (fun e=>by have:=hl.1 b (List.mem_append.2 (.inr e));omega) (fun e=>by have:=hl.2.1;have:=hl.2.2.1;omega) (fun e=>by have:=hl.2.2.2.1;have:=hl.2.2.2.2;omega) hb3 (fun e=>by cases e)
  have hbl:=h1.bl
  refine⟨⟨y',s',v',n',F',q',T',U',hs',hr',fun b e=>?_⟩,own_other h1.row fun b e=>?_,h.len,⟨hf.os.trans hbl.os,hf.tape.trans hbl.tape,hf.output.trans hbl.output,Nat.le_trans hbl.size hf.size,fun b hb1=>?_⟩,Nat.le_trans h1.bB hf.size,h.wB,fun b hb1 hb2=>?_⟩
  ·rcases hf.own b e with e2 | e2
   ·exact hv b e2
   ·have:=hbl.size;omega
  ·have hlt:=(World.ownsRow.lt h1.row b e).2
   have hge:B≤b:=own_loN h1.row e
   refine hkeep b hlt (.inr hge) fun e2=>?_
   obtain⟨-,cur,hc⟩:=(hs.below hb).st.own_ne b e2
   obtain⟨cur2,hc2⟩:=own_head h1.row e
   rw [hc] at hc2
   cases hc2
  ·have:=hbl.size
   exact(hkeep b (by omega) (.inl hb1) fun e=>by have:=hv b e;omega).trans (hbl.block b hb1)
  ·have:=h.bB
   exact hkeep b hb2 (.inr (by omega)) fun e=>by have:=hvl b e;omega
 ·exact .inr ⟨E,hE,rfl,hb'⟩
theorem Thd.push {u w' w6 w7:World} {tmp:Obj} {v7:Value} {ds:List Nat} (h:Thd w wr u w' B d sg D G m g mb L (L++[ds]) p N c) (hb:Below w'.heap.size w' w6)
  (hown:w7.ownsRow B 59 2 v7 (N+1) (flatT L++[.bool true,.string (strB ds)])) (hgrow:(w6.alloc tmp).grownBy w7 (Value.slice p N c).ownBlock) :
  ∃p7 c7,v7 = .slice p7 (N+1) c7∧Snd w w7 B d sg D G m g mb (L++[ds]) p7 (N+1) c7:=by
 obtain⟨p7,c7,rfl⟩:=own_form hown
 refine⟨p7,c7,rfl,?_⟩
 obtain⟨y,s,v,n,F,q,T,U,hs,hr,hv⟩:=h.st
 have hz:=hb.size
 have hrow6:=own_below h.row hb
 have hk:∀b,b<w6.heap.size→(Value.slice p N c).ownBlock≠some b→w7.heap[b]?=w6.heap[b]?:=fun b hb1 hb2=>
  (hgrow.block b (by simp;omega) (fun e=>hb2 e.symm)).trans (Below.heap_alloc w6 _ b hb1)
 have hkp:KptT w6 w7:=by
  refine⟨fun b cs t fr hc ht=>hk b (lt_of_block hc) fun e=>?_,fun b es cc hc=>hk b (Array.getElem?_eq_some_iff.1 hc).1 fun e=>?_⟩
  ·obtain⟨cur,h2⟩:=own_head hrow6 e
   rw [hc] at h2;cases h2;exact ht rfl
  ·obtain⟨cur,h2⟩:=own_head hrow6 e
   rw [hc] at h2;cases h2
 have hbl:=h.bl
 have hsz:w6.heap.size≤w7.heap.size:=Nat.le_trans (by simp) hgrow.size
 refine⟨⟨y,s,v,n,F,q,T,U,(hs.below hb).kptT hkp,hr,hv⟩,by rw [flatT_snoc];exact hown,by rw [List.length_append,h.len];rfl,⟨hgrow.os.trans (hb.os.trans hbl.os),hgrow.tape.trans (hb.tape.trans hbl.tape),hgrow.output.trans (hb.output.trans hbl.output),by have:=hbl.size;omega,fun b hb1=>?_⟩,by have:=h.bB;omega,h.wB⟩
 have:=hbl.size
 exact(hk b (by omega) fun e=>by have:=own_loN hrow6 e;have:=h.wB;omega).trans ((hb.block b (by omega)).trans (hbl.block b hb1))
theorem Snd.same (h:Snd w wr B d sg D G m g mb L p N c) (hN:N≤60):Calls Tryz.prog 12 #[.pointer (some ⟨g,0,none⟩),.slice p N c] wr fun e w'=>e = .returned (.bool true)∧Below wr.heap.size wr w':=by
 obtain⟨y,s,v,n,F,q,T,U,hs,hr,hv⟩:=h.st
 exact hs.same hr h.row h.len (by omega)
end
theorem infoThing12:(Tryz.prog.info? 59).map (fun i=>(i.zero,i.size,i.bytes))=some (some (.agg #[.bool false,.string ⟨#[]⟩]),2,24):=by kernel_rfl
set_option maxHeartbeats 12800000 in
theorem fulls_any (q:Option Addr) (n c:Nat) (f:Nat→Int) (fl:Nat) (hf:fl<256) (w:World) (hn:n≤9223372036854775807) (hz:IntsF w q n f) :
  Calls Tryz.prog 5 #[.slice q n c,.int .u8 (fl:Int)] w fun e w'=>e = .returned (.bool true)∧Below w.heap.size w w':=by
 have hnI:(n:Int)≤9223372036854775807:=by omega
 by_cases h60:60<n
 ·have d1:decide ((60:Int)<(n:Int))=true:=decide_eq_true (by omega)
  have dI:(60:Int)<(n:Int):=by omega
  clear hz h60 hn
  go_enter Tryz.func5,Tryz.ntmps5
  go_wp2_with (go_at_call 14;with_reducible refine(lives_any _).mono ?_;rintro e w1 ⟨rfl,hb⟩;have HB:=Lib.hid hb;clear hb)
  go_ret
  exact⟨rfl,HB.out⟩
 ·have d1:decide ((60:Int)<(n:Int))=false:=decide_eq_false (by omega)
  have dI:(n:Int)≤60:=by omega
  have hfr:=fresh_any 16 (by decide) (by decide) w
  rw [show ((16:Nat):Int)=16 from rfl] at hfr
  have HF:=Lib.hid (hfr.mono (R':=fun e w'=>∃d g sg D G m mb,e = .returned (.tuple #[.pointer (some ⟨d,0,none⟩),.pointer (some ⟨g,0,none⟩)])∧Hid (Fst w w' d sg D G m g mb)∧Hid (Lo w w'.heap.size D G g mb)) (by
   rintro e w' ⟨d,g,sg,D,G,m,s,mb,rfl,hs,hr,hb,hG,hD,hDG,hgl,hml⟩
   exact⟨d,g,sg,D,G,m,mb,rfl,Lib.hid ⟨⟨_,_,_,hs,stm_new,hr,hG,hD⟩,hb⟩,Lib.hid ⟨fun j hj=>⟨hDG j hj,(List.mem_append.1 hj).elim (kin_lt hs.sp.kinF j) (kin_lt hs.sp.kinG j)⟩,hgl,hs.st.lt,hml,hr.lt⟩⟩))
  have HZ:=Lib.hid hz
  have H60:=Lib.hid h60
  have HFL:=Lib.hid hf
  clear hfr hz h60 hn hf
  go_enter Tryz.func5,Tryz.ntmps5
  go_upto_region 7 with (go_at_call 20;with_reducible refine HF.out.mono ?_;rintro e w1 ⟨d,g,sg,D,G,m,mb,rfl,H1,HDG⟩)
  clear HF
  have HWB:Hid (w.heap.size≤w1.heap.size):=Lib.hid H1.out.2.size
  go_loopw [7] (fun iv wr=>∃i:Nat,i≤505∧iv = .int .i64 (i:Int)∧Hid (Fst w wr d sg D G m g mb∧w1.heap.size≤wr.heap.size)) (fun iv _=>505 - (RowKit.intOf iv).toNat)
  case atStart=>exact⟨0,by omega,by go_num,Lib.hid ⟨H1.out,Nat.le_refl _⟩⟩
  case round=>
   obtain⟨i,hi,rfl,HI⟩:=hrel
   clear H1
   by_cases hlt:i<505
   ·have hd:decide ((i:Int)<505)=true:=decide_eq_true (by omega)
    have hiI:(i:Int)<505:=by omega
    have HLT:=Lib.hid hlt
    obtain⟨⟨⟨y,s,U,hs⟩,hb⟩,hz⟩:=HI.out
    have HSP:=Lib.hid hs.space
    have HAL:=Lib.hid (hs.alloc.mono (R':=fun e w'=>∃a b,e = .returned (.tuple #[a,b])∧Hid (Fst w w' d sg D G m g mb∧w1.heap.size≤w'.heap.size)) (by
     rintro e w' ⟨a,b,y',s',U',rfl,h',hc⟩
     have hbs:=hb.size
     exact⟨a,b,rfl,Lib.hid ⟨⟨⟨y',s',U',h'⟩,⟨hc.os.trans hb.os,hc.tape.trans hb.tape,hc.output.trans hb.output,Nat.le_trans hb.size hc.size,fun k hk=>(hc.block k (by omega) (fun e=>by have:=(HDG.out.1 k (List.mem_append.2 (.inr e))).1;omega)).trans (hb.block k hk)⟩⟩,Nat.le_trans hz hc.size⟩⟩))
    clear hs hb hz HI hi hlt
    go_wp2_with (first
     | (go_at_call 21;with_reducible refine HSP.out.mono ?_;rintro e w2 ⟨rfl,rfl⟩)
     | (go_at_call 22;with_reducible refine HAL.out.mono ?_;rintro e w3 ⟨a3,b3,rfl,H3⟩))
    go_roundw
    case rel=>exact⟨i+1,HLT.out,by go_num,H3⟩
    case measure=>have:=HLT.out;simp [RowKit.intOf];omega
   ·obtain rfl:i=505:=by omega
    have hd:decide (((505:Nat):Int)<505)=false:=by decide
    clear hi hlt
    go_upto_region 12 with fail
    have H0:Hid (Snd w wr w1.heap.size d sg D G m g mb [] none 0 0):=Lib.hid (by
     obtain⟨⟨⟨y,s,U,hs⟩,hb⟩,hz⟩:=HI.out
     exact⟨⟨y,s,_,_,_,_,_,_,hs,fun i=>⟨fun ds h=>(by cases h),fun _=>rfl⟩,fun b e=>(by cases e)⟩,World.ownsRow_nil _ _ _ _,rfl,hb,hz,HWB.out⟩)
    clear HI
    simp only [show ((505:Nat):Int)=505 from rfl]
    go_loopw [8,9] (fun rv iv wr=>∃i:Nat,i≤n∧∃L p N c2,N≤i∧rv = .slice p N c2∧iv = .int .i64 (i:Int)∧Hid (Snd w wr w1.heap.size d sg D G m g mb L p N c2)) (fun _ iv _=>n - (RowKit.intOf iv).toNat)
    case atStart=>exact⟨0,by omega,[],none,0,0,by omega,by go_num,by go_num,H0⟩
    case round=>
     obtain⟨i,hi,L,p,N,c2,hN,rfl,rfl,HS⟩:=hrel
     clear H0
     by_cases hlt:i<n
     ·obtain⟨b0,o0,rfl,hbl,hcell⟩:=HZ.out (by omega)
      have y0:=(HS.out.bl.cell (p:=⟨b0,o0+i,none⟩) hbl).trans (hcell i hlt)
      have hd2:decide ((i:Int)<(n:Int))=true:=decide_eq_true (by omega)
      have hd3:decide (i<n)=true:=decide_eq_true hlt
      have hiI:(i:Int)<(n:Int):=by omega
      have HLT:=Lib.hid hlt
      have HNi:=Lib.hid hN
      obtain⟨l,hl⟩:∃l,f i=l:=⟨_,rfl⟩
      rw [hl] at y0
      have hN60:N≤60:=by have:=H60.out;omega
      have HN60:=Lib.hid hN60
      have hNI:(N:Int)≤60:=by omega
      clear hcell hlt hN hi hl
      obtain⟨ds,hds⟩:∃ds,dataL fl (dataN l)=ds:=⟨_,rfl⟩
      have HDT:Hid (∀u,Calls Tryz.prog 25 #[.agg #[.int .i64 0,.int .i64 0,.int .i64 l,.int .u8 (fl:Int)]] u fun e w'=>e = .returned (.string (strB ds))∧Below u.heap.size u w'):=Lib.hid fun u=>by
       rw [←hds];exact lawData_any 0 0 l fl HFL.out u
      have hdig:∀x∈ds,x<256:=by rw [←hds];exact dataL_dig _ _
      have hdl:ds.length≤1099511627776:=by rw [←hds,dataL_len];unfold dataN;omega
      have HAD:Hid (∀u,Below wr.heap.size wr u→Calls Tryz.prog 24 #[.pointer (some ⟨g,0,none⟩),.string (strB ds)] u fun e w'=>∃a E:Int,e = .returned (.tuple #[.int .i64 a,.int .i64 E])∧Hid ((a=(N:Int)+1∧E=0∧Thd w wr u w' w1.heap.size d sg D G m g mb L (L++[ds]) p N c2)∨(a=0∧(E=2∨E=8)∧Below u.heap.size u w'))):=Lib.hid fun u hb=>
       (HS.out.add HDG.out hb (strB ds) ds ⟨rfl,hdig⟩ hdl).mono fun e w' hh=>by
         rcases hh with ⟨rfl,h⟩ | ⟨E,hE,rfl,h⟩
         ·exact⟨_,_,rfl,Lib.hid (.inl ⟨rfl,rfl,h⟩)⟩
         ·exact⟨_,_,rfl,Lib.hid (.inr ⟨rfl,hE,h⟩)⟩
      obtain⟨C,HSL⟩:∃C:Int,Hid (∀u,Below wr.heap.size wr u→Calls Tryz.prog 21 #[.pointer (some ⟨g,0,none⟩)] u (fun e w'=>e = .returned (.pointer (some ⟨sg,0,none⟩))∧u=w')∧Calls Tryz.prog 23 #[.pointer (some ⟨sg,0,none⟩)] u fun e w'=>e = .returned (.int .i64 C)∧Below u.heap.size u w'):=by
       obtain⟨y,s,v,n',F,q,T,U,hs,hr,hv⟩:=HS.out.st
       exact⟨_,Lib.hid fun u hb=>⟨(hs.below hb).space,len_z (hs.below hb).st.sp⟩⟩
      clear hdig hdl hds
      go_upto_region 15 with fail
      have HX1:=Lib.hid (heap_alloc_new wr (.cells #[.int .i64 0,.int .i64 0,.int .i64 l,.int .u8 (fl:Int)] 55))
      have HB1:=Lib.hid (alloc_below wr (.cells #[.int .i64 0,.int .i64 0,.int .i64 l,.int .u8 (fl:Int)] 55))
      clear y0
      generalize wr.alloc (.cells #[.int .i64 0,.int .i64 0,.int .i64 l,.int .u8 (fl:Int)] 55)=W1 at *
      go_upto_region 16 with (first
       | (go_at_call 21;with_reducible refine(HSL.out _ HB1.out).1.mono ?_;rintro e w2 ⟨rfl,rfl⟩)
       | (go_at_call 23;with_reducible refine(HSL.out _ HB1.out).2.mono ?_;rintro e w3 ⟨rfl,hb3⟩;have HB3:=Lib.hid (HB1.out.trans (hb3.mono HB1.out.size));have HX3:=Lib.hid ((hb3.block _ (lt_of_block HX1.out)).trans HX1.out);clear hb3))
      have x0:=cell_of_row _ _ 0 _ _ _ HX3.out
      have x1:=cell_of_row _ _ 1 _ _ _ HX3.out
      have x2:=cell_of_row _ _ 2 _ _ _ HX3.out
      have x3:=cell_of_row _ _ 3 _ _ _ HX3.out
      simp at x0 x1 x2 x3
      go_upto_region 17 with (first
       | (go_at_call 25;with_reducible refine(HDT.out _).mono ?_;rintro e w4 ⟨rfl,hb4⟩;have HB4:=Lib.hid (HB3.out.trans (hb4.mono HB3.out.size));have HX4:=Lib.hid ((hb4.block _ (lt_of_block HX3.out)).trans HX3.out);clear hb4)
       | (go_at_call 24;with_reducible refine(HAD.out _ HB4.out).mono ?_;rintro e w5 ⟨a5,E5,rfl,HOR⟩))
      clear x0 x1 x2 x3 HX1 HX3 HB1 HB3 HAD
      rcases HOR.out with ⟨rfl,rfl,ht⟩ | ⟨rfl,hE,hb⟩
      ·have HT:=Lib.hid ht
       have HX5:=Lib.hid ((ht.up wr.heap.size (Nat.le_refl _) (lt_of_block HX4.out)).trans HX4.out)
       have x0:=cell_of_row _ _ 0 _ _ _ HX5.out
       have x1:=cell_of_row _ _ 1 _ _ _ HX5.out
       have x2:=cell_of_row _ _ 2 _ _ _ HX5.out
       have x3:=cell_of_row _ _ 3 _ _ _ HX5.out
       simp at x0 x1 x2 x3
       obtain⟨i0,hi0,hz0,hz1,hz2⟩:=info_parts infoThing12
       have HI0:=Lib.hid hi0
       have HZ0:=Lib.hid hz0
       have HZ1:=Lib.hid hz1
       have HZ2:=Lib.hid hz2
       have H63:Hid (N+1≤maxLen):=Lib.hid (by unfold maxLen;omega)
       have HNB:Hid ((N+1)*24≤140737488355328):=Lib.hid (by omega)
       have HON:Hid (∀u∈[Value.bool true,.string (strB ds)],u.oneCell'=true):=Lib.hid (by intro u hu;simp at hu;rcases hu with rfl | rfl <;> rfl)
       have HRW:Hid (∀w6 tmp,Below w5.heap.size w5 w6→(w6.alloc tmp).ownsRow w1.heap.size 59 2 (.slice p N c2) N (flatT L)∧w1.heap.size≤(w6.alloc tmp).heap.size):=Lib.hid fun w6 tmp hb6=>
        ⟨own_below (own_below HT.out.row hb6) (alloc_below w6 tmp),by have:=HT.out.bB;have:=hb6.size;simp;omega⟩
       clear ht hi0 hz0 hz1 hz2 HOR
       go_upto_region 23 with (first
        | (go_at_call 25;with_reducible refine(HDT.out _).mono ?_;rintro e w6 ⟨rfl,hb6⟩;have HB6:=Lib.hid hb6;have HR1:=Lib.hid (HRW.out w6 (.cells #[.bool true,.string (strB ds)] 59) hb6).1;have HR2:=Lib.hid (HRW.out w6 (.cells #[.bool true,.string (strB ds)] 59) hb6).2;clear hb6)
        | (at_builtin;refine wpList_append_own _ rfl (.tmp 60) (.tmp 64) 25 rfl w1.heap.size 59 i0 (.agg #[.bool false,.string ⟨#[]⟩]) 2 24 Tryz.underlying25 HI0.out HZ0.out HZ1.out HZ2.out rfl (by decide) (.slice p N c2) N _ (by rfl) HR1.out ⟨w6.heap.size,0,none⟩ 1 1 [.bool true,.string (strB ds)] (by rfl) rfl (World.news_of_block (heap_alloc_new _ _)) HON.out H63.out HNB.out HR2.out ?_;intro v7 w7 hown hgrow _;obtain⟨p7,c7,rfl,hs7⟩:=HT.out.push HB6.out hown hgrow;have HS7:=Lib.hid hs7;clear hown hgrow hs7))
       clear x0 x1 x2 x3 HR1 HR2 HRW HX5
       have HSM:=Lib.hid (HS7.out.same (by have:=HNi.out;have:=HLT.out;have:=H60.out;omega))
       go_wp2_with (go_at_call 12;with_reducible refine HSM.out.mono ?_;rintro e w8 ⟨rfl,hb8⟩;have HS8:=Lib.hid (HS7.out.below hb8);clear hb8)
       go_roundw
       case rel=>exact⟨i+1,HLT.out,L++[ds],p7,N+1,c7,by have:=HNi.out;omega,by go_num,by go_num,HS8⟩
       case measure=>have:=HLT.out;simp [RowKit.intOf];omega
      ·have hbw:Below wr.heap.size wr w5:=HB4.out.trans (hb.mono HB4.out.size)
       have HB5:=Lib.hid hbw
       have HSM:=Lib.hid fun u (hbu:Below wr.heap.size wr u)=>(HS.out.below hbu).same HN60.out
       clear HOR hb hbw
       rcases hE with rfl | rfl
       ·go_wp2_with (first
         | (go_at_call 21;with_reducible refine(HSL.out _ HB5.out).1.mono ?_;rintro e w6 ⟨rfl,rfl⟩)
         | (go_at_call 23;with_reducible refine(HSL.out _ HB5.out).2.mono ?_;rintro e w7 ⟨rfl,hb7⟩;have HB7:=Lib.hid (HB5.out.trans (hb7.mono HB5.out.size));clear hb7)
         | (go_at_call 12;with_reducible refine(HSM.out _ HB7.out).mono ?_;rintro e w8 ⟨rfl,hb8⟩;have HS8:=Lib.hid (HS.out.below (HB7.out.trans (hb8.mono HB7.out.size)));clear hb8))
        go_roundw
        case rel=>exact⟨i+1,HLT.out,L,p,N,c2,by have:=HNi.out;omega,rfl,by go_num,HS8⟩
        case measure=>have:=HLT.out;simp [RowKit.intOf];omega
       ·go_wp2_with (first
         | (go_at_call 21;with_reducible refine(HSL.out _ HB5.out).1.mono ?_;rintro e w6 ⟨rfl,rfl⟩)
         | (go_at_call 23;with_reducible refine(HSL.out _ HB5.out).2.mono ?_;rintro e w7 ⟨rfl,hb7⟩;have HB7:=Lib.hid (HB5.out.trans (hb7.mono HB5.out.size));clear hb7)
         | (go_at_call 12;with_reducible refine(HSM.out _ HB7.out).mono ?_;rintro e w8 ⟨rfl,hb8⟩;have HS8:=Lib.hid (HS.out.below (HB7.out.trans (hb8.mono HB7.out.size)));clear hb8))
        go_roundw
        case rel=>exact⟨i+1,HLT.out,L,p,N,c2,by have:=HNi.out;omega,rfl,by go_num,HS8⟩
        case measure=>have:=HLT.out;simp [RowKit.intOf];omega
     ·obtain rfl:i=n:=by omega
      have hd2:decide ((i:Int)<(i:Int))=false:=decide_eq_false (by omega)
      have HB0:=Lib.hid HS.out.bl
      have hd3:decide (i<i)=false:=decide_eq_false (by omega)
      go_wp2_with (go_at_call 14;with_reducible refine(lives_any _).mono ?_;rintro e w7 ⟨rfl,hb⟩;have HB:=Lib.hid (HB0.out.trans (hb.mono HB0.out.size));clear hb)
      go_ret
      exact⟨rfl,HB.out⟩
end
section
set_option maxRecDepth 20000
open Go.ChangeShapes Go.WideShapes Go.ChangeAt Go.RowKit
structure Opv where
 kind:Int
 i:Int
 long:Int
 fill:Nat
theorem own:ownKnob Tryz.prog.godebug=none:=by kernel_rfl
theorem laidOut:laidOutB Tryz.prog=true:=by kernel_rfl
theorem cells3:Tryz.prog.cellsOf 3=1:=by kernel_rfl
section
variable {H:Type} {enc:TypeId × Value→H}
theorem law_post {P:Program} {f:Func} {s:ChangeSpec} {apart fresh handsOn:Bool} {W W':World} {args:Array Value} {v:Value} {ds gs:List (DataW H)} {before pa pv:List MemPlace}
  (hW:DataW.Whole enc P f.params.toList s.vars apart W args.toList ds gs before)
  (hres:∀(b:Nat) (sp:Nat→Bool) (hd:Bool),DataW.TrodAll enc P W' b sp hd f.resultTypes.toList (v.resultList f.resultTypes.size) (s.fn H (ds++gs)).results [])
  (hargs:DataW.TrodAll enc P W' 0 (fun b=>decide (b<W.heap.size)) true f.params.toList args.toList (s.fn H (ds++gs)).args pa)
  (hvars:DataW.TrodVars enc P W' (fun b=>decide (b<W.heap.size)) s.vars (s.fn H (ds++gs)).vars pv)
  (hps:before=pa++pv) (hb:Below W.heap.size W W'):s.post enc P f apart fresh handsOn false W args v W':=
 ⟨ds,gs,before,[],pa,pv,hW,hres _ _ _,hargs,hvars,World.keptBut_mono (fun p hp=>⟨hp,.inr (List.mem_append.1 (hps ▸ hp))⟩) (hb.frame (·∈before)),fun h=>by cases h⟩
end
theorem u8_of {n:Int} (h:(Lit.int .u8 n).wf=true):0≤n∧n<256:=by
 simp only [Lit.wf,Bool.and_eq_true,decide_eq_true_eq] at h
 have h1:=h.1
 have h2:=h.2
 simp [IntKind.max,IntKind.min,IntKind.bits,IntKind.signed] at h1 h2
 omega
section
variable {H:Type} {enc:TypeId × Value→H}
instance:Inhabited Opv:=⟨⟨0,0,0,0⟩⟩
end
end
section
set_option maxRecDepth 20000
open Go.ChangeShapes Go.WideShapes Go.ChangeAt Go.RowKit
theorem ints_of {W:World} {a:Addr} {len:Nat} {zs:List Int} (hz:len≤zs.length) (hcell:∀i,i<zs.length→W.cell? (a.add i)=some (.int .i64 (zs.getD i 0))):IntsF W (some a) len fun i=>zs.getD i 0:=by
 intro hn
 obtain⟨b,o,sp⟩:=a
 have hc:∀i,i<len→W.cell? ((⟨b,o,sp⟩:Addr).add i)=some (.int .i64 (zs.getD i 0)):=fun i hi=>hcell i (by omega)
 obtain rfl:sp=none:=by simpa [Addr.add] using World.cell?_spot (hc 0 hn)
 have hc2:∀i,i<len→W.cell? ⟨b,o+i,none⟩=some (.int .i64 (zs.getD i 0)):=fun i hi=>by rw [←Go.WideShapes.add_plain];exact hc i hi
 exact⟨b,o,rfl,World.block_lt_of_cell? W _ (hc2 0 hn),hc2⟩
theorem open_zs {H:Type} {enc:TypeId × Value→H} {W:World} {base:Nat} {v:Value} {d:DataW H} {p:List MemPlace} (hval:Value.okWide Tryz.prog W .any base 47 v) (h:DataW.Trod enc Tryz.prog W 0 (fun _=>true) true 47 v d p) :
  ∃(q:Option Addr) (n c:Nat) (f:Nat→Int),v = .slice q n c∧IntsF W q n f∧n≤9223372036854775807:=by
 obtain⟨a1,len1,cap1,rfl⟩:=okWide_slice Tryz.underlying47 hval
 obtain⟨fuel,hf⟩:=h
 rcases open_ints Tryz.underlying47 Tryz.underlying3 cells3 hf with ⟨hcs,_⟩ | ⟨a,len,cap,zs,hcs,_,hl,hm,hz,_,hcell,hwz⟩
 ·simp [Value.cells] at hcs
  obtain⟨rfl,rfl,rfl⟩:=hcs
  exact⟨none,0,0,fun _=>0,rfl,fun h=>absurd h (Nat.lt_irrefl 0),by omega⟩
 ·simp [Value.cells] at hcs
  obtain⟨rfl,rfl,rfl⟩:=hcs
  exact⟨some a,_,_,_,rfl,ints_of (by rw [hz];split <;> omega) hcell,by unfold maxLen at hm;omega⟩
theorem fulls_walk (q:Option Addr) (n c:Nat) (f:Nat→Int) (y:Nat) (w:World) (hn:n≤9223372036854775807) (hz:IntsF w q n f) (hy:y<256) :
  Calls Tryz.prog 5 #[.slice q n c,.int .u8 (y:Int)] w fun e w'=>e = .returned (.bool true)∧Below w.heap.size w w':=
 fulls_any q n c f y hy w hn hz
end
section
open Go.ChangeShapes Go.WideShapes Go.ChangeAt Go.RowKit
def laid2:List (String × DataW Unit):=[("unicode/utf8.acceptRanges",Rows.laid_unicode_utf8_acceptRanges),("unicode/utf8.first",Rows.laid_unicode_utf8_first)]
end
end Go.Proofs.YtmbecjlioogbhaaGreatDoor
