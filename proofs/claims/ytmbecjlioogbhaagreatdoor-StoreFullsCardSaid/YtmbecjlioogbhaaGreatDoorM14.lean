/- Texts YBare to SGet of this seat, laid into one. -/
import Derived.RangeFuncNested
import Derived.RangeFuncBound
import Derived.RangeFuncCalls
import Derived.RangeFuncLeaves
import Derived.RangeFuncBox
import Derived.Shelf.Abstract
import Derived.Shelf.RegionOpen
import Derived.WalkKit
import Derived.OwnWalkIn
import Derived.TacticsInMore
import Derived.LoopNIn
import Derived.LoopIn
import Derived.Deep.AppendLies
import Derived.Shelf.Strings.Builder1
import Derived.Shelf.Strings.Builder2
import Derived.Shelf.Strings.OnBuilder
import Derived.Test.YtmbecjlioogbhaaGreatDoorProg
import Derived.BigQuiet
import Derived.Deep.QuietTactic
import Derived.Deep.RegionWith
import Derived.Test.YtmbecjlioogbhaaGreatDoorM00
import Derived.Test.YtmbecjlioogbhaaGreatDoorM01
import Derived.Test.YtmbecjlioogbhaaGreatDoorM08
import Derived.Test.YtmbecjlioogbhaaGreatDoorM11
import Derived.Test.YtmbecjlioogbhaaGreatDoorM13
set_option linter.unusedVariables false
set_option linter.unusedSimpArgs false
set_option linter.constructorNameAsVariable false
section
set_option maxRecDepth 20000
namespace Go.Proofs.YtmbecjlioogbhaaGreatDoor
open Go.RowKit
def bareN (F:Nat→Nat) (n:Nat):Nat:=((List.range (n*128)).find? fun k=>spF F k == 0).getD (n*128)
theorem bare_at {F:Nat→Nat} {n k:Nat} (h:∀j,j<k→spF F j≠0) (hk:spF F k=0) (hn:k<n*128):bareN F n=k:=by
 have h1:(List.range (n*128)).find? (fun k=>spF F k == 0)=some k:=by
  rw [List.find?_range_eq_some]
  exact⟨by simp [hk],by simpa using hn,fun j hj=>by simp [h j hj]⟩
 unfold bareN
 rw [h1];rfl
theorem bare_all {F:Nat→Nat} {n:Nat} (h:∀j,j<n*128→spF F j≠0):bareN F n=n*128:=by
 have h1:(List.range (n*128)).find? (fun k=>spF F k == 0)=none:=by
  rw [List.find?_range_eq_none]
  exact fun j hj=>by simp [h j hj]
 unfold bareN
 rw [h1];rfl
theorem spF_at (F:Nat→Nat) (i j:Nat) (hj:j<128):spF F (i*128+j)=F (i*129+1+j):=by
 unfold spF
 rw [show (i*128+j) / 128=i by omega,show (i*128+j) % 128=j by omega]
theorem range_of_cells {w:World} {b N o k:Nat} {F:Nat→Nat} (h:∀j,j<N→w.cell? ⟨b,j,none⟩=some (.int .i64 ((F j:Nat):Int))) (ho:o+k≤N):w.rangeAt b o (Tb.ints F o k):=fun j v hv=>by
 have hj:j<k:=by
  have:=(List.getElem?_eq_some_iff.1 hv).1
  rwa [Tb.ints_len] at this
 rw [Tb.ints_get F o k j hj] at hv
 rw [h (o+j) (by omega)];exact hv
section
variable {w:World} {g sg mb n:Nat} {v:Value} {F:Nat→Nat} {sh:Bool}
set_option maxHeartbeats 3200000 in
theorem Sth.bare (h:Sth w g sg mb v n F sh):Calls Tryz.prog 51 #[.pointer (some ⟨g,0,none⟩)] w fun e w'=>e = .returned (.int .i64 ((bareN F n:Nat)+1:Int))∧Below w.heap.size w w':=by
 have c1:=h.c1
 have hg:=h.lt
 obtain⟨p,c,rfl,hp⟩:=h.own.form
 have h64:n≤64:=h.n64
 have h64I:(n:Int)≤64:=by omega
 obtain⟨hz,-⟩:=zero_of_info (P:=Tryz.prog) infoPart
 have hzs:(partL 0 fun _=>0).toArray.size=129:=by rw [List.size_toArray,partL_len]
 have HP:=Lib.hid hp
 have HC1:=Lib.hid c1
 clear h hp
 generalize (partL 0 fun _=>0).toArray=Z at *
 have HZS:=Lib.hid hzs
 clear hzs
 go_enter Tryz.func51,Tryz.ntmps51
 go_upto_region 2 with fail
 clear c1
 go_loopw [12] (fun iv wr=>∃i:Nat,i≤n∧iv = .int .i64 (i:Int)∧Hid (Below w.heap.size w wr∧∀j,j<i*128→spF F j≠0)) (fun iv _=>n - (RowKit.intOf iv).toNat)
 case atStart=>exact⟨0,by omega,by go_num,Lib.hid ⟨Below.refl _ _,fun j hj=>by omega⟩⟩
 case round=>
  obtain⟨i,hi,rfl,hr⟩:=hrel
  have c1:=(hr.out.1.cell (p:=⟨g,1,none⟩) hg).trans HC1.out
  by_cases hlt:i<n
  ·have hd:decide ((i:Int)<(n:Int))=true:=decide_eq_true (by omega)
   have hiI:(i:Int)<64:=by omega
   have hiI2:(i:Int)<(n:Int):=by omega
   have HI2:=Lib.hid hlt
   obtain⟨b,rfl,hb,hcell⟩:=HP.out (by omega)
   have hcw:∀j,j<n*129→wr.cell? ⟨b,j,none⟩=some (.int .i64 ((F j:Nat):Int)):=fun j hj=>(hr.out.1.cell (p:=⟨b,j,none⟩) hb).trans (hcell j hj)
   have hin:i*129+129≤n*129:=by have:=Nat.mul_le_mul_right 129 (show i+1≤n by omega);omega
   have HRA:=Lib.hid (range_of_cells hcw hin)
   have HSR:Hid ((Tryz.prog.info? 82).map (·.size)=some (Tb.ints F (i*129) 129).length):=Lib.hid (by rw [sizePart,Tb.ints_len])
   have HSA:Hid ((Tryz.prog.info? 82).map (·.size)=some (Tb.ints F (i*129) 129).toArray.size):=Lib.hid (by rw [sizePart,List.size_toArray,Tb.ints_len])
   have HNW:Hid ((wr.alloc (.cells Z 82)).heap[wr.heap.size]?=some (.cells Z 82 (0,0))):=Lib.hid (heap_alloc_new _ _)
   have HOL:Hid (Z.size=(Tb.ints F (i*129) 129).toArray.size):=Lib.hid (by rw [HZS.out,List.size_toArray,Tb.ints_len])
   have HON:Hid ((Tb.ints F (i*129) 129).toArray.all (·.oneCell')=true):=Lib.hid (all_oneCell_toArray (Tb.ints_one F (i*129) 129))
   obtain⟨W5,hW5⟩:∃W5,(wr.alloc (.cells Z 82)).setRow wr.heap.size (Tb.ints F (i*129) 129).toArray=W5:=⟨_,rfl⟩
   have HB5:Hid (Below w.heap.size w W5):=Lib.hid (by rw [←hW5];exact hr.out.1.trans ((below_rowY (alloc_below wr _) (Nat.le_refl _) _).mono hr.out.1.size))
   have HR5:Hid (W5.rangeAt wr.heap.size 1 (Tb.ints F (i*129+1) 128)):=Lib.hid (by
    have hrow:W5.heap[wr.heap.size]?=some (.cells (Tb.ints F (i*129) 129).toArray 82 (0,0)):=by
     rw [←hW5];exact setRow_heap (wr.alloc (.cells Z 82)) wr.heap.size _ _ _ _ HNW.out
    intro j x hx
    have hj:j<128:=by
     have:=(List.getElem?_eq_some_iff.1 hx).1
     rwa [Tb.ints_len] at this
    rw [cell_of_row _ _ _ _ _ _ hrow,List.getElem?_toArray,Tb.ints_get F (i*129) 129 (1+j) (by omega),←hx,Tb.ints_get F (i*129+1) 128 j hj,Nat.add_assoc])
   have HS:Hid ((Tryz.prog.info? 80).map (·.size)=some (Tb.ints F (i*129+1) 128).length):=Lib.hid (by rw [size128,Tb.ints_len])
   have HIX:Hid (∀j,j<128→(Tb.ints F (i*129+1) 128).toArray[j]?=some (.int .i64 ((F (i*129+1+j):Nat):Int))):=Lib.hid fun j hj=>by
    rw [List.getElem?_toArray,Tb.ints_get F _ 128 j hj]
   have HOLD:=Lib.hid hr.out.2
   clear hr hcw hcell hin hi c1
   generalize hX:Tb.ints F (i*129+1) 128=X at *
   clear hX
   generalize hY:Tb.ints F (i*129) 129=Y at *
   clear hY
   go_upto_region 5 with (first
    | (refine wpList_load_mid rfl 82 (.tmp 15) rfl b (i*129) rfl Y _ HRA.out Tryz.underlying82 rfl HSR.out ?_)
    | (refine wpList_store_row rfl 82 (.tmp 4) (.tmp 16) rfl wr.heap.size Y.toArray rfl rfl 82 Z HNW.out HSA.out HOL.out HON.out ?_;rw [hW5])
    | (refine wpList_load_mid rfl 80 (.tmp 17) rfl wr.heap.size 1 rfl X _ HR5.out Tryz.underlying80 rfl HS.out ?_))
   clear hW5
   go_loop [19] (fun jv=>∃j:Nat,j≤128∧jv = .int .i64 (j:Int)∧Hid (∀l,l<j→F (i*129+1+l)≠0)) (fun jv=>128 - (RowKit.intOf jv).toNat)
   case atStart=>exact⟨0,by omega,by go_num,Lib.hid fun l hl=>absurd hl (Nat.not_lt_zero l)⟩
   case round=>
    obtain⟨j,hj,rfl,hf⟩:=hrel
    by_cases hlj:j<128
    ·have hd2:decide ((j:Int)<128)=true:=decide_eq_true (by omega)
     have hjI:(j:Int)<128:=by omega
     have HJ:=Lib.hid hlj
     have hx:=HIX.out j hlj
     obtain⟨x,hxe⟩:∃x,F (i*129+1+j)=x:=⟨_,rfl⟩
     have HX:=Lib.hid hxe
     rw [hxe] at hx
     clear hxe hj hlj
     by_cases x0:x=0
     ·have e0:((x:Int) == 0)=true:=by rw [beq_iff_eq];omega
      have HN:=Lib.hid (numberAt_any i j W5 (by omega) (by omega))
      have HE:Hid (((bareN F n:Nat):Int)+1=(i:Int)*128+(j:Int)+1):=Lib.hid (by
       have:=bare_at (F:=F) (n:=n) (k:=i*128+j) (fun l hl=>by
        by_cases h1:l<i*128
        ·exact HOLD.out l h1
        ·obtain⟨m,rfl⟩:∃m,l=i*128+m:=⟨l - i*128,by omega⟩
         rw [spF_at F i m (by have:=HJ.out;omega)]
         exact hf.out m (by omega)) (by rw [spF_at F i j HJ.out,HX.out,x0]) (by have:=HI2.out;have:=HJ.out;have:=Nat.mul_le_mul_right 128 (show i+1≤n by omega);omega)
       rw [this];omega)
      clear x0
      go_wp2_with (first
       | (refine wpList_index128 rfl (.tmp 18) (.tmp 19) rfl _ j _ rfl rfl HJ.out hx ?_)
       | (go_at_call 38;with_reducible refine HN.out.mono ?_;rintro e w7 ⟨rfl,rfl⟩))
      go_ret
      exact⟨by rw [HE.out];rfl,HB5.out⟩
     ·have e0:((x:Int) == 0)=false:=by rw [beq_eq_false_iff_ne];omega
      have HF2:Hid (∀l,l<j+1→F (i*129+1+l)≠0):=Lib.hid fun l hl=>by
       by_cases h1:l=j
       ·rw [h1,HX.out];exact x0
       ·exact hf.out l (by omega)
      clear x0
      go_wp2_with (refine wpList_index128 rfl (.tmp 18) (.tmp 19) rfl _ j _ rfl rfl HJ.out hx ?_)
      go_round
      case rel=>exact⟨j+1,HJ.out,by go_num,HF2⟩
      case measure=>have:=HJ.out;simp [RowKit.intOf];omega
    ·obtain rfl:j=128:=by omega
     have hd2:decide (((128:Nat):Int)<128)=false:=by decide
     have HO2:Hid (∀l,l<(i+1)*128→spF F l≠0):=Lib.hid fun l hl=>by
      by_cases h1:l<i*128
      ·exact HOLD.out l h1
      ·obtain⟨m,rfl⟩:∃m,l=i*128+m:=⟨l - i*128,by omega⟩
       rw [spF_at F i m (by omega)]
       exact hf.out m (by omega)
     clear hj hlj hf
     go_wp2_with fail
     go_roundw
     case rel=>exact⟨i+1,HI2.out,by go_num,Lib.hid ⟨HB5.out,HO2.out⟩⟩
     case measure=>have:=HI2.out;simp [RowKit.intOf];omega
  ·obtain rfl:i=n:=by omega
   have hd2:decide ((i:Int)<(i:Int))=false:=decide_eq_false (by omega)
   have HE:Hid (((bareN F i:Nat):Int)+1=(i:Int)*128+1):=Lib.hid (by rw [bare_all hr.out.2];omega)
   have HB:=Lib.hid hr.out.1
   clear hr
   go_wp2_with fail
   go_ret
   exact⟨by rw [HE.out];rfl,HB.out⟩
end
end Go.Proofs.YtmbecjlioogbhaaGreatDoor
end
section
set_option maxRecDepth 20000
namespace Go.Proofs.YtmbecjlioogbhaaGreatDoor
open Go.RowKit
end Go.Proofs.YtmbecjlioogbhaaGreatDoor
end
section
namespace Go.Proofs.YtmbecjlioogbhaaGreatDoor
open Go.RowKit
section
variable {F:Fence} {n:Nat} {P:Program}
def SeqJ {α:Type} (F:Fence) (n:Nat) (P:Program) (gf:Nat) (lb:Array Value) (encs:α→Array Value) (Good:Nat→World→Prop) (Item:Nat→α→World→Prop) (End:Nat→World→Prop):Prop:=
 ∀(l:Nat) (J:Nat→World→Prop) (W:World),AbidesFrom W.heap.size J→(∀i W1,J i W1→Good i W1) →
  (∀i x W1,J i W1→Item i x W1→YieldAt F (n - 1) P l (encs x) W1 fun e W'=>e = .returned (.bool true)∧J (i+1) W') →
  J 0 W→CallsIn F n P gf (#[.func (.yield l) #[] #[]]++lb) W fun e W'=>(∃v,e = .returned v)∧∃i,J i W'∧End i W'
theorem wpIn_rangeJ {α:Type} {g:Operand} {ps:Array Tmp} {assign body:Code} {Q:Exit→Act→World→Prop} {a:Act} {w:World}
  (hro:F.round=none) (h1:1≤n) {gf:Nat} {lb:Array Value} (hg:a.eval g = .func (.func gf) #[] lb) (hFg:F.fn gf) (eg:∀args w,(callFunc gf args).run P w = .ok (.enter gf args) w)
  {encs:α→Array Value} {Good:Nat→World→Prop} {Item:Nat→α→World→Prop} {End:Nat→World→Prop} (hseq:SeqJ F (n - 1) P gf lb encs Good Item End) (hps:∀x,(encs x).size=ps.size)
  (I:Nat→World→Prop) (hI:OwnFrom w.heap.size I) (hG:∀i W,I i W→Good i W) (hE:∀i,OwnFrom w.heap.size (fun (_:Unit) W=>End i W)) (h0:I 0 w)
  (Ax:Nat→α→Act→World→Prop) (hAx:∀i x a',OwnFrom w.heap.size (fun (_:Unit) W=>Ax i x a' W))
  (hassign:∀(l i:Nat) (x:α) (W:World) (K:Act→World→Prop),I i W→Item i x W→(∀a' W',KeepsFrom w.heap.size W W'→Ax i x a' W'→K a' W') →
    assign.wpIn (F.inRound l) (n - 1 - 1) P (Exit.then K (fun _ _ _=>False)) { tmps:=(ps.zip (encs x)).foldl (fun t (p,v)=>t.setIfInBounds p v) a.tmps,defers:=[] } W)
  (hbody:∀(l i:Nat) (x:α) (a':Act) (W:World),w.heap.size≤l→Ax i x a' W→body.wpIn (F.inRound l) (n - 1 - 1) P (fun e _ W'=>e = .normal∧KeepsFrom w.heap.size W W'∧I (i+1) W') a' W)
  (hdone:∀(D i:Nat) (W:World),w.heap.size≤D→I i W→End i W→W.heap[D]?=some (.deferred (some []))→Q .normal { a with defers:={ target:=.collected D,args:=#[] } :: a.defers } W) :
  (Code.rangeFunc g ps assign body).wpIn F n P Q a w:=by
 refine wpIn_rangeFunc fun fn hfn=>?_
 rw [hro]
 obtain⟨rec,hrec⟩:∃rec:LoopState→Loop,rec=fun st=>{ state:=st,pending:=none,fn,tmps:=a.tmps,params:=ps,assign,body,defers:=w.heap.size }:=⟨_,rfl⟩
 have hps2:∀st x,(encs x).size=(rec st).params.size:=fun st x=>by rw [hrec];exact hps x
 have hst:∀st,(rec st).state=st:=fun st=>by rw [hrec]
 have hpe:∀st,(rec st).pending=none:=fun st=>by rw [hrec]
 have hup:∀s t,{ rec s with state:=t }=rec t:=fun s t=>by rw [hrec]
 have hup2:∀s t,{ rec s with state:=t,pending:=none }=rec t:=fun s t=>by rw [hrec]
 let W1:=(w.alloc (.deferred (some []))).alloc (.loop (rec .ready))
 have hL1:W1.heap[w.heap.size+1]?=some (.loop (rec .ready)):=by
  have:=World.alloc_heap_new (w.alloc (.deferred (some []))) (.loop (rec .ready));rwa [World.size_alloc] at this
 have hK1:W1.heap[w.heap.size]?=some (.deferred (some [])):=(Below.heap_alloc _ _ _ (by simp)).trans (World.alloc_heap_new w _)
 have hz1:W1.heap.size=w.heap.size+2:=by show ((w.alloc _).alloc _).heap.size=_;simp
 refine⟨w.heap.size+1,[{ target:=.collected w.heap.size,args:=#[] }],W1,{ target:=.fn (.func gf) lb,args:=#[.func (.yield (w.heap.size+1)) #[] #[]] },W1,gf,
  #[.func (.yield (w.heap.size + 1)) #[] #[]] ++ lb, W1, ?_, ?_, ?_, ?_, fun _ => h1, ?_⟩
 ·show _=Result.ok _ ((w.alloc (.deferred (some []))).alloc (.loop (rec .ready)))
  rw [hrec];exact run_enterLoop_outer _ _ _ _ _
 ·simp only [resolve,hg]
  simp [go_sem]
 ·intro f' hf';simp [Target.leads] at hf';subst hf';exact hFg
 ·simp [invoke,go_sem,eg]
 ·refine(hseq (w.heap.size+1) (fun i W=>I i W∧W.heap[w.heap.size+1]?=some (.loop (rec .ready))∧W.heap[w.heap.size]?=some (.deferred (some []))) W1 ?_ (fun i W h=>hG i W h.1) ?_ ⟨hI.alloc _ (hI.alloc _ h0),hL1,hK1⟩).mono ?_
  ·intro i A B row hs hg' hr
   have hr2:∀r,row=some r→w.heap.size≤r∧∃o:Obj,A.heap[r]?=some o∧o.isCells=false:=fun r e=>by
    obtain⟨hB,o,ho,hw⟩:=hr r e
    exact⟨by omega,o,ho,Obj.not_cells_of_walk hw⟩
   have hr3:∀r,row=some r→w.heap.size+2≤r:=fun r e=>by have:=(hr r e).1;omega
   have hk:∀k,k<w.heap.size+2→k<A.heap.size→B.heap[k]?=A.heap[k]?:=fun k hk hA=>hg'.block k hA (fun e=>by have:=hr3 k e.symm;omega)
   exact⟨hI i A B row hs.1 hg' hr2,(hk _ (by omega) (Array.getElem?_eq_some_iff.1 hs.2.1).1).trans hs.2.1,(hk _ (by omega) (Array.getElem?_eq_some_iff.1 hs.2.2).1).trans hs.2.2⟩
  ·rintro i x W ⟨hi,hl,hk⟩ hit
   refine⟨_,_,_,_,run_yield (P:=P) (args:=encs x) hl (hps2 _ x),?_⟩
   have hrt:(rec .ready).fn=fn∧(rec .ready).tmps=a.tmps∧(rec .ready).params=ps∧(rec .ready).assign=assign∧(rec .ready).body=body:=by rw [hrec];exact⟨rfl,rfl,rfl,rfl,rfl⟩
   obtain⟨t1,t2,t3,t4,t5⟩:=hrt
   rw [t1,t2,t3,t4,t5]
   refine roundIn_of_wpIn hfn (hassign _ i x W _ hi hit ?_)
   intro a' Wa hkfa hax
   replace hl:=hkfa.same _ _ (by omega) hl rfl
   replace hk:=hkfa.same _ _ (Nat.le_refl _) hk rfl
   have hlt:w.heap.size+1<Wa.heap.size:=(Array.getElem?_eq_some_iff.1 hl).1
   refine⟨_,run_beginRound hl (hst _),?_⟩
   rw [hup]
   have hl2:(Wa.putObj (w.heap.size+1) (.loop (rec .busy))).heap[w.heap.size+1]?=some (.loop (rec .busy)):=World.putObj_heap_same hlt
   have hk2:(Wa.putObj (w.heap.size+1) (.loop (rec .busy))).heap[w.heap.size]?=some (.deferred (some [])):=(World.putObj_heap_other (by omega)).trans hk
   refine wpIn_mono (hbody _ i x a' _ (by omega) ((hAx i x a').putObj (s:=()) _ hax (by omega) hl rfl)) ?_
   rintro e a3 W3 ⟨rfl,hk3,hi3⟩
   have hl3:=hk3.same _ _ (by omega) hl2 rfl
   have hr:=run_endRound (P:=P) none hl3
   rw [show (if (none:Option Code).isNone=true then LoopState.ready else LoopState.done)=LoopState.ready from rfl,hup2] at hr
   exact⟨_,_,hr,rfl,hI.putObj _ hi3 (by omega) hl3 rfl,World.putObj_heap_same (Array.getElem?_eq_some_iff.1 hl3).1,(World.putObj_heap_other (by omega)).trans (hk3.same _ _ (Nat.le_refl _) hk2 rfl)⟩
  ·rintro e W2 ⟨⟨v,rfl⟩,i,⟨hi,hl,hk⟩,hend⟩
   have hr:=run_endLoop (P:=P) hl (by rw [hst];simp)
   rw [hpe] at hr
   exact⟨none,_,hr,hdone _ i _ (Nat.le_refl _) (hI.putObj _ hi (by omega) hl rfl) ((hE i).putObj (s:=()) _ hend (by omega) hl rfl) ((World.putObj_heap_other (by omega)).trans hk)⟩
end
end Go.Proofs.YtmbecjlioogbhaaGreatDoor
end
section
set_option maxRecDepth 20000
namespace Go.Proofs.YtmbecjlioogbhaaGreatDoor
open Go.RowKit Go.Shelf
attribute [local go_sem] Oper.semAt_some
theorem gen_act {F:Fence} {n:Nat} {P:Program} {c:Code} {Q:Exit→Act→World→Prop} {a:Act} {w:World} (h:∀A:Act,A=a→c.wpIn F n P Q A w):c.wpIn F n P Q a w:=h a rfl
end Go.Proofs.YtmbecjlioogbhaaGreatDoor
end
section
set_option maxRecDepth 20000
namespace Go.Proofs.YtmbecjlioogbhaaGreatDoor
open Go.RowKit
theorem infoInt:(Tryz.prog.info? 3).map (fun i=>(i.zero,i.size,i.bytes))=some (some (.int .i64 0),1,8):=by kernel_rfl
section
variable {w:World} {g bO cO bL cL:Nat} {vW:Value} {os ls:List Value} {ws:List Vw} {m:Dsk}
end
end Go.Proofs.YtmbecjlioogbhaaGreatDoor
end
section
set_option maxRecDepth 20000
namespace Go.Proofs.YtmbecjlioogbhaaGreatDoor
open Go.RowKit Go.Shelf
attribute [local go_sem] Oper.semAt_some
def numsL (F:Nat→Nat):Nat→List Nat
 | 0=>[]
 | k+1=>numsL F k++(if spF F k=0 then [] else [k+1])
theorem numsL_yes {F:Nat→Nat} {k:Nat} (h:spF F k≠0):numsL F (k+1)=numsL F k++[k+1]:=by rw [numsL,if_neg h]
theorem numsL_no {F:Nat→Nat} {k:Nat} (h:spF F k=0):numsL F (k+1)=numsL F k:=by rw [numsL,if_pos h];simp
theorem numsL_len (F:Nat→Nat) (k:Nat):(numsL F k).length≤k:=by
 induction k with
 | zero=>simp [numsL]
 | succ k ih=>rw [numsL,List.length_append];split <;> simp <;> omega
def BoxN (w:World) (lo B:Nat) (T:List Nat):Prop:=∃v,w.heap[B]?=some (.cells #[v] 47 (0,0))∧w.ownsRow lo 3 1 v T.length (Tb.ivs T)
theorem BoxN.below {w w':World} {lo B:Nat} {T:List Nat} (h:BoxN w lo B T) (hb:Below w.heap.size w w'):BoxN w' lo B T:=by
 obtain⟨v,h1,h2⟩:=h
 exact⟨v,(hb.block _ (lt_of_block h1)).trans h1,own_below h2 hb⟩
theorem own_loN {w:World} {base E m n:Nat} {v:Value} {xs:List Value} (h:w.ownsRow base E m v n xs) {b:Nat} (e:v.ownBlock=some b):base≤b:=by
 rcases h.2 with ⟨e2,_⟩ | ⟨g,cap,cur,e2,hb,_⟩
 ·rw [e2] at e;simp [Value.ownBlock] at e
 ·rw [e2] at e;simp [Value.ownBlock] at e;omega
theorem BoxN.grow {w w3 w4:World} {lo B gN cap:Nat} {v:Value} {T:List Nat} {tmp:Obj} {x:Nat} (h1:w.heap[B]?=some (.cells #[v] 47 (0,0))) (h2:w.ownsRow lo 3 1 v T.length (Tb.ivs T)) (hlo:lo≤B) (hb:Below w.heap.size w w3)
  (hown:w4.ownsRow lo 3 1 (.slice (some ⟨gN,0,none⟩) (T.length+1) cap) (T.length+1) (Tb.ivs T++[.int .i64 (x:Int)])) (hgrow:(w3.alloc tmp).grownBy w4 v.ownBlock) (hat:v.ownBlock=some gN∨gN=w3.heap.size+1) :
  w4.cell? ⟨B,0,none⟩=some v∧w4.frozen? ⟨B,0,none⟩=false∧BoxN (w4.setCell ⟨B,0,none⟩ (.slice (some ⟨gN,0,none⟩) (T.length+1) cap)) lo B (T++[x])∧Below lo w (w4.setCell ⟨B,0,none⟩ (.slice (some ⟨gN,0,none⟩) (T.length+1) cap)):=by
 have hB:=lt_of_block h1
 have hz:=hb.size
 have hvB:v.ownBlock≠some B:=fun e=>by
  obtain⟨cur,hc⟩:=own_head h2 e
  rw [h1] at hc;cases hc
 have hblk:∀b,b<w.heap.size→v.ownBlock≠some b→w4.heap[b]?=w.heap[b]?:=fun b hbl he=>
  (hgrow.block b (by simp;omega) (fun e=>he e.symm)).trans ((Below.heap_alloc w3 _ b (by omega)).trans (hb.block b hbl))
 have h4:=(hblk B hB hvB).trans h1
 have hNB:gN≠B:=by
  rcases hat with e | e
  ·intro e2;exact hvB (by rw [e,e2])
  ·omega
 have hsz:w3.heap.size≤w4.heap.size:=Nat.le_trans (by simp) hgrow.size
 refine⟨?_,frozen_of_row _ _ 0 _ _ h4,⟨_,heap_setCell_same w4 B 0 _ _ _ h4,?_⟩,⟨hgrow.os.trans hb.os,hgrow.tape.trans hb.tape,hgrow.output.trans hb.output,by simp;omega,fun b hbl=>?_⟩⟩
 ·rw [cell_of_row _ _ 0 _ _ _ h4];rfl
 ·rw [List.length_append,show Tb.ivs (T++[x])=Tb.ivs T++[.int .i64 (x:Int)] by simp [Tb.ivs]]
  exact own_other hown fun b e=>by
   have e2:gN=b:=by simpa [Value.ownBlock] using e
   exact heap_setCell_other _ _ _ _ (fun e3=>hNB (by rw [e2,e3]))
 ·exact(heap_setCell_other _ _ _ _ (show b≠B by omega)).trans (hblk b (by omega) fun e=>by have:=own_loN h2 e;omega)
section
variable {w:World} {g sg mb n:Nat} {v:Value} {F:Nat→Nat} {sh:Bool}
set_option maxHeartbeats 3200000 in
theorem Sth.all (h:Sth w g sg mb v n F sh):Calls Tryz.prog 9 #[.pointer (some ⟨g,0,none⟩)] w fun e w'=>e = .returned (.func (.func 39) #[] #[.pointer (some ⟨w.heap.size,0,none⟩)])∧BoxN w' w.heap.size w.heap.size (numsL F (n*128))∧Below w.heap.size w w':=by
 have hmf:∀(fn:Fn) (first cap:Array Value) (w:World),(Instr.makeFunc fn first cap).run Tryz.prog w = .ok (.func fn first cap) w:=fun _ _ _ _=>rfl
 have hg:=h.lt
 have hb0:=alloc_below w (.cells #[.slice none 0 0] 47)
 have c1:=(h.below hb0).c1
 obtain⟨p,c,rfl,hp⟩:=h.own.form
 have h64:n≤64:=h.n64
 have h64I:(n:Int)≤64:=by omega
 obtain⟨hz,-⟩:=zero_of_info (P:=Tryz.prog) infoPart
 have hzs:(partL 0 fun _=>0).toArray.size=129:=by rw [List.size_toArray,partL_len]
 have HP:=Lib.hid hp
 have hx:=heap_alloc_new w (.cells #[.slice none 0 0] 47)
 have HJ0:Hid (BoxN (w.alloc (.cells #[.slice none 0 0] 47)) w.heap.size w.heap.size (numsL F (0*128))∧Below w.heap.size w (w.alloc (.cells #[.slice none 0 0] 47))):=Lib.hid ⟨⟨_,hx,World.ownsRow_nil _ _ _ _⟩,hb0⟩
 obtain⟨i0,hi0,hz0,hz1,hz2⟩:=info_parts infoInt
 have HI0:=Lib.hid hi0
 have HZ0:=Lib.hid hz0
 have HZ1:=Lib.hid hz1
 have HZ2:=Lib.hid hz2
 clear h hp hx hb0 hi0 hz0 hz1 hz2
 generalize (partL 0 fun _=>0).toArray=Z at *
 have HZS:=Lib.hid hzs
 clear hzs
 go_enter Tryz.func9,Tryz.ntmps9
 go_upto_region 4 with fail
 clear c1
 go_loopw [15] (fun iv wr=>∃i:Nat,i≤n∧iv = .int .i64 (i:Int)∧Hid (BoxN wr w.heap.size w.heap.size (numsL F (i*128))∧Below w.heap.size w wr)) (fun iv _=>n - (RowKit.intOf iv).toNat)
 case atStart=>exact⟨0,by omega,by go_num,HJ0⟩
 case round=>
  obtain⟨i,hi,rfl,hr⟩:=hrel
  clear HJ0
  by_cases hlt:i<n
  ·have hd:decide ((i:Int)<(n:Int))=true:=decide_eq_true (by omega)
   have hiI:(i:Int)<64:=by omega
   have hiI2:(i:Int)<(n:Int):=by omega
   have HI2:=Lib.hid hlt
   obtain⟨b,rfl,hb,hcell⟩:=HP.out (by omega)
   have hcw:∀j,j<n*129→wr.cell? ⟨b,j,none⟩=some (.int .i64 ((F j:Nat):Int)):=fun j hj=>(hr.out.2.cell (p:=⟨b,j,none⟩) hb).trans (hcell j hj)
   have hin:i*129+129≤n*129:=by have:=Nat.mul_le_mul_right 129 (show i+1≤n by omega);omega
   have HRA:=Lib.hid (range_of_cells hcw hin)
   have HSR:Hid ((Tryz.prog.info? 82).map (·.size)=some (Tb.ints F (i*129) 129).length):=Lib.hid (by rw [sizePart,Tb.ints_len])
   have HSA:Hid ((Tryz.prog.info? 82).map (·.size)=some (Tb.ints F (i*129) 129).toArray.size):=Lib.hid (by rw [sizePart,List.size_toArray,Tb.ints_len])
   have HNW:Hid ((wr.alloc (.cells Z 82)).heap[wr.heap.size]?=some (.cells Z 82 (0,0))):=Lib.hid (heap_alloc_new _ _)
   have HOL:Hid (Z.size=(Tb.ints F (i*129) 129).toArray.size):=Lib.hid (by rw [HZS.out,List.size_toArray,Tb.ints_len])
   have HON:Hid ((Tb.ints F (i*129) 129).toArray.all (·.oneCell')=true):=Lib.hid (all_oneCell_toArray (Tb.ints_one F (i*129) 129))
   obtain⟨W5,hW5⟩:∃W5,(wr.alloc (.cells Z 82)).setRow wr.heap.size (Tb.ints F (i*129) 129).toArray=W5:=⟨_,rfl⟩
   have HJ5:Hid (BoxN W5 w.heap.size w.heap.size (numsL F (i*128+0))∧Below w.heap.size w W5):=Lib.hid (by
    have hb5:Below wr.heap.size wr W5:=by rw [←hW5];exact below_rowY (alloc_below wr _) (Nat.le_refl _) _
    exact⟨hr.out.1.below hb5,hr.out.2.trans (hb5.mono hr.out.2.size)⟩)
   have HR5:Hid (W5.rangeAt wr.heap.size 1 (Tb.ints F (i*129+1) 128)):=Lib.hid (by
    have hrow:W5.heap[wr.heap.size]?=some (.cells (Tb.ints F (i*129) 129).toArray 82 (0,0)):=by
     rw [←hW5];exact setRow_heap (wr.alloc (.cells Z 82)) wr.heap.size _ _ _ _ HNW.out
    intro j x hx
    have hj:j<128:=by
     have:=(List.getElem?_eq_some_iff.1 hx).1
     rwa [Tb.ints_len] at this
    rw [cell_of_row _ _ _ _ _ _ hrow,List.getElem?_toArray,Tb.ints_get F (i*129) 129 (1+j) (by omega),←hx,Tb.ints_get F (i*129+1) 128 j hj,Nat.add_assoc])
   have HS:Hid ((Tryz.prog.info? 80).map (·.size)=some (Tb.ints F (i*129+1) 128).length):=Lib.hid (by rw [size128,Tb.ints_len])
   have HIX:Hid (∀j,j<128→(Tb.ints F (i*129+1) 128).toArray[j]?=some (.int .i64 ((F (i*129+1+j):Nat):Int))):=Lib.hid fun j hj=>by
    rw [List.getElem?_toArray,Tb.ints_get F _ 128 j hj]
   clear hr hcw hcell hin hi
   generalize hX:Tb.ints F (i*129+1) 128=X at *
   clear hX
   generalize hY:Tb.ints F (i*129) 129=Y at *
   clear hY
   go_upto_region 7 with (first
    | (refine wpList_load_mid rfl 82 (.tmp 18) rfl b (i*129) rfl Y _ HRA.out Tryz.underlying82 rfl HSR.out ?_)
    | (refine wpList_store_row rfl 82 (.tmp 5) (.tmp 19) rfl wr.heap.size Y.toArray rfl rfl 82 Z HNW.out HSA.out HOL.out HON.out ?_;rw [hW5])
    | (refine wpList_load_mid rfl 80 (.tmp 20) rfl wr.heap.size 1 rfl X _ HR5.out Tryz.underlying80 rfl HS.out ?_))
   clear hW5
   clear HR5 HRA HNW
   go_loopw [22] (fun jv wq=>∃j:Nat,j≤128∧jv = .int .i64 (j:Int)∧Hid (BoxN wq w.heap.size w.heap.size (numsL F (i*128+j))∧Below w.heap.size w wq)) (fun jv _=>128 - (RowKit.intOf jv).toNat)
   case atStart=>exact⟨0,by omega,by go_num,HJ5⟩
   case round=>
    obtain⟨j,hj,rfl,HJ⟩:=hrel
    clear HJ5
    by_cases hlj:j<128
    ·have hd2:decide ((j:Int)<128)=true:=decide_eq_true (by omega)
     have hjI:(j:Int)<128:=by omega
     have HJ1:=Lib.hid hlj
     have hx:=HIX.out j hlj
     obtain⟨x,hxe⟩:∃x,F (i*129+1+j)=x:=⟨_,rfl⟩
     rw [hxe] at hx
     by_cases x0:x=0
     ·have e0:((x:Int) == 0)=true:=by rw [beq_iff_eq];omega
      have HJ2:Hid (BoxN wr w.heap.size w.heap.size (numsL F (i*128+(j+1)))∧Below w.heap.size w wr):=Lib.hid (by
       rw [←Nat.add_assoc,numsL_no (by rw [spF_at F i j hlj,hxe,x0])];exact HJ.out)
      clear x0 hxe hj hlj HJ
      go_wp2_with (refine wpList_index128 rfl (.tmp 21) (.tmp 22) rfl _ j _ rfl rfl HJ1.out hx ?_)
      go_roundw
      case rel=>exact⟨j+1,HJ1.out,by go_num,HJ2⟩
      case measure=>have:=HJ1.out;simp [RowKit.intOf];omega
     ·have e0:((x:Int) == 0)=false:=by rw [beq_eq_false_iff_ne];omega
      obtain⟨⟨v,h1,h2⟩,hbw⟩:=HJ.out
      have y0:=cell_of_row _ _ 0 _ _ _ h1
      simp at y0
      obtain⟨qv,dv,e⟩:=own_form h2
      subst e
      have hrl:=numsL_len F (i*128+j)
      have hyes:=numsL_yes (F:=F) (k:=i*128+j) (by rw [spF_at F i j hlj,hxe];exact x0)
      have HN:Hid (∀u,Calls Tryz.prog 38 #[.int .i64 (i:Int),.int .i64 (j:Int)] u fun e w'=>e = .returned (.int .i64 ((i*128+j+1:Nat):Int))∧u=w'):=Lib.hid fun u=>(numberAt_any i j u (by omega) (by omega)).mono fun e u' hh=>⟨by rw [hh.1];congr 2,hh.2⟩
      have HGR:Hid (∀w4 gN cap,w4.ownsRow w.heap.size 3 1 (.slice (some ⟨gN,0,none⟩) ((numsL F (i*128+j)).length+1) cap) ((numsL F (i*128+j)).length+1) (Tb.ivs (numsL F (i*128+j))++[.int .i64 ((i*128+j+1:Nat):Int)])→(wr.alloc (.cells #[.int .i64 ((i*128+j+1:Nat):Int)] 3)).grownBy w4 (Value.slice qv (numsL F (i*128+j)).length dv).ownBlock→((Value.slice qv (numsL F (i*128+j)).length dv).ownBlock=some gN∨gN=wr.heap.size+1) →
        w4.cell? ⟨w.heap.size,0,none⟩=some (.slice qv (numsL F (i*128+j)).length dv)∧w4.frozen? ⟨w.heap.size,0,none⟩=false∧(BoxN (w4.setCell ⟨w.heap.size,0,none⟩ (.slice (some ⟨gN,0,none⟩) ((numsL F (i*128+j)).length+1) cap)) w.heap.size w.heap.size (numsL F (i*128+(j+1)))∧Below w.heap.size w (w4.setCell ⟨w.heap.size,0,none⟩ (.slice (some ⟨gN,0,none⟩) ((numsL F (i*128+j)).length+1) cap)))):=Lib.hid fun w4 gN cap hown hgrow hat=>by
       obtain⟨g1,g2,g3,g4⟩:=BoxN.grow (x:=i*128+j+1) h1 h2 (Nat.le_refl _) (Below.refl wr.heap.size wr) hown hgrow hat
       rw [←Nat.add_assoc,hyes]
       exact⟨g1,g2,g3,hbw.trans g4⟩
      have HOWN:Hid (∀W,Below wr.heap.size wr W→W.ownsRow w.heap.size 3 1 (.slice qv (numsL F (i*128+j)).length dv) (numsL F (i*128+j)).length (Tb.ivs (numsL F (i*128+j)))):=Lib.hid fun W hb=>own_below h2 hb
      have HXL:=Lib.hid (lt_of_block h1)
      have HZB:=Lib.hid hbw.size
      have HN0:Hid (0<1):=Lib.hid (by decide)
      have H63:Hid ((numsL F (i*128+j)).length+1≤maxLen):=Lib.hid (by unfold maxLen;omega)
      have HBY:Hid (((numsL F (i*128+j)).length+1)*8≤140737488355328):=Lib.hid (by omega)
      clear h1 h2 hbw x0 hxe hj hlj HJ hrl hyes
      generalize hFL:Tb.ivs (numsL F (i*128+j))=FL at *
      generalize hnn:(numsL F (i*128+j)).length=nn at *
      obtain⟨M,hM⟩:∃M:Nat,i*128+j+1=M:=⟨_,rfl⟩
      rw [hM] at HN HGR
      have HONE:Hid (∀u∈[Value.int .i64 (M:Int)],u.oneCell'=true):=Lib.hid (by intro u hu;simp at hu;rcases hu with rfl;rfl)
      clear hFL hnn hM
      have y0a:(wr.alloc (.cells #[.int .i64 (M:Int)] 3)).cell? ⟨w.heap.size,0,none⟩=some (.slice qv nn dv):=(((Below.refl wr.heap.size wr).alloc (Nat.le_refl _) (.cells #[.int .i64 (M:Int)] 3)).cell (p:=⟨w.heap.size,0,none⟩) HXL.out).trans y0
      go_upto_region 10 with (refine wpList_index128 rfl (.tmp 21) (.tmp 22) rfl _ j _ rfl rfl HJ1.out hx ?_)
      go_region_law (first
       | (go_simp;go_at_call 38;refine(HN.out _).mono ?_;rintro e w7 ⟨rfl,rfl⟩)
       | (refine step_append_lies _ rfl (.tmp 28) (.tmp 32) 47 rfl w.heap.size 3 i0 (.int .i64 0) 1 8 Tryz.underlying47 HI0.out HZ0.out HZ1.out HZ2.out rfl (by decide) (.slice qv nn dv) nn FL (by rfl) (HOWN.out _ (by first | exact((Below.refl _ _).alloc (Nat.le_refl _) _).drew | exact((Below.refl _ _).drew.alloc (Nat.le_refl _) _) | exact((Below.refl _ _).drew.alloc (Nat.le_refl _) _).drew)) ⟨_,0,none⟩ 1 1 [.int .i64 (M:Int)] (by rfl) rfl (World.news_of_block (heap_alloc_new _ _)) HONE.out HN0.out H63.out HBY.out (by have:=HZB.out;simp;omega) _ rfl ?_;intro gN cap w4 hown hgrow hat hlt4;obtain⟨u0,u1,HZ⟩:=HGR.out w4 gN cap hown (by first | exact hgrow | exact⟨hgrow.os,hgrow.tape,hgrow.output,hgrow.size,hgrow.block⟩) (by simpa using hat);have HZF:=Lib.hid HZ;clear HZ hown hgrow hat hlt4))
      all_goals (
       go_wp2_with fail
       go_roundw
       case rel=>exact⟨j+1,HJ1.out,by go_num,HZF⟩
       case measure=>have:=HJ1.out;simp [RowKit.intOf];omega)
    ·obtain rfl:j=128:=by omega
     have hd2:decide (((128:Nat):Int)<128)=false:=by decide
     have HO2:Hid (BoxN wr w.heap.size w.heap.size (numsL F ((i+1)*128))∧Below w.heap.size w wr):=Lib.hid (by rw [Nat.add_mul,Nat.one_mul];exact HJ.out)
     clear hj hlj HJ
     go_wp2_with fail
     go_roundw
     case rel=>exact⟨i+1,HI2.out,by go_num,HO2⟩
     case measure=>have:=HI2.out;simp [RowKit.intOf];omega
  ·obtain rfl:i=n:=by omega
   have hd2:decide ((i:Int)<(i:Int))=false:=decide_eq_false (by omega)
   go_wp2_with fail
   go_ret
   exact⟨rfl,hr.out⟩
end
end Go.Proofs.YtmbecjlioogbhaaGreatDoor
end
section
set_option maxRecDepth 20000
namespace Go.Proofs.YtmbecjlioogbhaaGreatDoor
open Go.RowKit Go.Shelf
attribute [local go_sem] Oper.semAt_some
def GoodN (B:Nat) (v:Value) (T:List Nat) (_i:Nat) (W:World):Prop:=W.cell? ⟨B,0,none⟩=some v∧W.ownsRow 0 3 1 v T.length (Tb.ivs T)
set_option maxRecDepth 100000 in
set_option maxHeartbeats 2000000 in
theorem all_seqN (n:Nat) (hn:1≤n) (B:Nat) (v:Value) (T:List Nat) (hT:T.length≤100000):SeqJ Fence.wide n Tryz.prog 39 #[.pointer (some ⟨B,0,none⟩)] (fun x:Nat=>#[.int .i64 (x:Int)]) (GoodN B v T) (fun i x _=>T[i]?=some x) (fun i _=>T.length≤i):=by
 intro l J W hJ hG hY h0
 have HY:=Lib.hid hY
 have HJ:=Lib.hid hJ
 have HG:=Lib.hid hG
 have H0:=Lib.hid h0
 obtain⟨hc,hr⟩:=hG 0 W h0
 obtain⟨q,d,e⟩:=own_form hr
 subst e
 have HTL:=Lib.hid hT
 clear hY hJ hG h0 hr
 generalize hN:T.length=N at *
 refine callsIn_of_wp Tryz.func39 rfl trivial ?_ rfl
 simp only [Tryz.ntmps39,List.size_toArray,List.length_cons,List.length_nil,Nat.reduceAdd,Nat.reduceSub,Array.replicate_succ,Array.replicate_zero,List.push_toArray,List.append_toArray,List.nil_append,List.cons_append]
 gi_wp2
 gi_loopw [7] (fun i wr=>∃s:Nat,s≤N∧i = .int .i64 (s:Int)∧Hid (J s wr)) (fun i _=>N - (RowKit.intOf i).toNat)
 case atStart=>exact⟨0,by omega,rfl,H0⟩
 case round=>
  obtain⟨s,hs,rfl,HS⟩:=hrel
  clear H0
  by_cases hlt:s<N
  ·have hd:decide ((s:Int)<(N:Int))=true:=decide_eq_true (by omega)
   have hd2:decide (s<N)=true:=decide_eq_true hlt
   have hls:(s:Int)<(N:Int):=by omega
   obtain⟨x,hx⟩:∃x,T[s]?=some x:=⟨T[s],List.getElem?_eq_getElem (by omega)⟩
   obtain⟨hc2,hr2⟩:=HG.out s wr HS.out
   rw [hN] at hr2
   obtain⟨bb,dd,e⟩:=Sl.own_some hr2 (by omega)
   cases e
   have f0:(Tb.ivs T)[s]?=some (.int .i64 (x:Int)):=by unfold Tb.ivs;rw [List.getElem?_map,hx];rfl
   have y0:=hr2.cellAt s (by omega)
   rw [f0] at y0
   have hy0:=HY.out s x wr HS.out hx
   obtain⟨fn,tmps,assign,body,hy,hR⟩:=hy0
   have HR:=Lib.hid hR
   have hz:(s:Int)≤99999:=by have:=HTL.out;omega
   have HLT:Hid (s+1≤N):=Lib.hid (by omega)
   clear hR hr2 hx hlt hc2 f0
   gi_wp2
   refine HR.out.mono ?_
   rintro e W3 ⟨rfl,hJ3⟩
   gi_wp2
   go_roundw
   case rel=>exact⟨s+1,HLT.out,by go_num,Lib.hid hJ3⟩
   case measure=>simp [RowKit.intOf];omega
  ·have hd:decide ((s:Int)<(N:Int))=false:=decide_eq_false (by omega)
   have hd2:decide (s<N)=false:=decide_eq_false hlt
   have HE:Hid (N≤s):=Lib.hid (by omega)
   clear hlt
   gi_wp2
   go_end0
   exact⟨⟨_,rfl⟩,s,HS.out,HE.out⟩
structure LenJ (V:World) (B:Nat) (j:Nat) (W:World):Prop where
 box:W.heap[B]?=some (.cells #[.int .i64 (j:Int)] 3 (0,0))
 stay:∀k,k<V.heap.size→k≠B→W.heap[k]?=V.heap[k]?
 size:V.heap.size≤W.heap.size
 os:W.os=V.os
 tape:W.tape=V.tape
 output:W.output=V.output
theorem LenJ.own {V:World} {B:Nat} (hB:B<V.heap.size):OwnFrom V.heap.size (fun j W=>LenJ V B j W):=by
 rintro j W W' row h hg hr
 exact⟨(hg.block B (lt_of_block h.box) (fun e=>by have:=(hr B e.symm).1;omega)).trans h.box,fun k hk hkB=>(hg.block k (Nat.lt_of_lt_of_le hk h.size) (fun e=>by have:=(hr k e.symm).1;omega)).trans (h.stay k hk hkB),Nat.le_trans h.size hg.size,hg.os.trans h.os,hg.tape.trans h.tape,hg.output.trans h.output⟩
theorem LenJ.step {V W:World} {B j:Nat} (h:LenJ V B j W):LenJ V B (j+1) (W.setCell ⟨B,0,none⟩ (.int .i64 ((j:Int)+1))):=by
 refine⟨?_,fun k hk hkB=>(heap_setCell_other _ _ _ _ hkB).trans (h.stay k hk hkB),by rw [World.size_setCell];exact h.size,h.os,h.tape,h.output⟩
 have:=heap_setCell_same W B 0 _ _ (.int .i64 ((j:Int)+1)) h.box
 rw [this];rfl
section
variable {w:World} {g sg mb n:Nat} {v:Value} {F:Nat→Nat} {sh:Bool}
set_option maxRecDepth 100000 in
set_option maxHeartbeats 3200000 in
theorem Sth.len (h:Sth w g sg mb v n F sh):Calls Tryz.prog 11 #[.pointer (some ⟨g,0,none⟩)] w fun e w'=>e = .returned (.int .i64 ((numsL F (n*128)).length:Int))∧Below w.heap.size w w':=by
 refine(callsIn_wide (n:=5)).1 ?_
 refine callsIn_of_wp_marks Tryz.func11 rfl trivial ?_ rfl
 simp only [Tryz.ntmps11,List.size_toArray,List.length_cons,List.length_nil,Nat.reduceAdd,Nat.reduceSub,Array.replicate_succ,Array.replicate_zero,List.push_toArray,List.append_toArray,List.nil_append,List.cons_append]
 refine wpIn_wide.2 ?_
 have hb0:=alloc_below w (.cells #[.int .i64 0] 3)
 have hx0:=heap_alloc_new w (.cells #[.int .i64 0] 3)
 have HALL:=Lib.hid (h.below hb0).all
 have HX0:=Lib.hid hx0
 have HB0:=Lib.hid hb0
 have hrl:(numsL F (n*128)).length≤8192:=by have:=numsL_len F (n*128);have:=h.n64;omega
 have HRL:=Lib.hid hrl
 have hs1:(w.alloc (.cells #[.int .i64 0] 3)).heap.size=w.heap.size+1:=by simp
 have HS1:=Lib.hid hs1
 clear h hx0 hb0 hrl hs1
 go_wp2_with (go_at_call 9;with_reducible refine HALL.out.mono ?_;rintro e V ⟨rfl,hbox,hbV⟩)
 have HBX:=Lib.hid hbox
 have HBV:=Lib.hid hbV
 clear hbox hbV HALL
 rw [HS1.out] at *
 refine(wpIn_wide (n:=5)).1 (gen_act ?_)
 intro A2 hA2
 generalize hT:numsL F (n*128)=T at *
 obtain⟨v1,hb1,hrow1⟩:=HBX.out
 have HB1:=Lib.hid hb1
 have HR1:=Lib.hid hrow1
 have HV0:Hid (V.heap[w.heap.size]?=some (.cells #[.int .i64 0] 3 (0,0))):=Lib.hid ((HBV.out.block _ (by have:=HS1.out;omega)).trans HX0.out)
 clear hb1 hrow1 HBX
 refine wpIn_rangeJ rfl (by omega) (gf:=39) (lb:=#[.pointer (some ⟨w.heap.size+1,0,none⟩)]) (by rw [hA2];rfl) trivial (enters_of Tryz.func39 (by kernel_rfl) rfl) (all_seqN 4 (by omega) (w.heap.size+1) v1 T (by have:=HRL.out;omega)) (fun _=>rfl)
  (fun j W=>LenJ V w.heap.size j W∧j≤T.length) (fun j W W' row h hg hr=>⟨LenJ.own (lt_of_block HV0.out) j W W' row h.1 hg hr,h.2⟩)
  ?good ?ende ⟨⟨HV0.out,fun _ _ _=>rfl,Nat.le_refl _,rfl,rfl,rfl⟩,Nat.zero_le _⟩
  (fun j x a' W=>a'={ tmps:=#[.pointer (some ⟨g,0,none⟩),undef,.int .i64 0,.pointer (some ⟨w.heap.size,0,none⟩),.pointer (some ⟨g,0,none⟩),.func (.func 39) #[] #[.pointer (some ⟨w.heap.size+1,0,none⟩)],.int .i64 (x:Int),undef,undef,undef],defers:=[] }∧T[j]?=some x∧LenJ V w.heap.size j W)
  ?ax ?assign ?body ?done
 case good=>
  rintro j W ⟨h,-⟩
  refine⟨by rw [cell_of_row _ _ 0 _ _ _ ((h.stay _ (lt_of_block HB1.out) (by omega)).trans HB1.out)];rfl,?_⟩
  have hrow0:=HR1.out
  have hlo:∀b,v1.ownBlock=some b→w.heap.size+1≤b∧b<V.heap.size:=fun b e=>⟨own_loN hrow0 e,(World.ownsRow.lt hrow0 b e).2⟩
  exact own_other (⟨hrow0.1,by rcases hrow0.2 with h2 | ⟨g,cap,cur,e,hb,hg,hr⟩;exact .inl h2;exact .inr ⟨g,cap,cur,e,Nat.zero_le _,hg,hr⟩⟩:V.ownsRow 0 3 1 v1 T.length (Tb.ivs T)) fun b hb=>h.stay b (hlo b hb).2 (by have:=(hlo b hb).1;omega)
 case ende=>exact fun j u W W' row h hg hr=>h
 case ax=>exact fun j x a' u W W' row h hg hr=>⟨h.1,h.2.1,LenJ.own (lt_of_block HV0.out) j W W' row h.2.2 hg hr⟩
 case assign=>
  rintro l j x W K ⟨h,-⟩ hx hKK
  have HKK:=Lib.hid hKK
  have HH:=Lib.hid h
  have HX:=Lib.hid hx
  clear hKK h hx
  subst hA2
  gi_wp2
  exact HKK.out _ _ ((KeepsOthers.refl _).from _) ⟨rfl,HX.out,HH.out⟩
 case body=>
  rintro l j x a' W hl ⟨rfl,hx,h⟩
  have HJ:=Lib.hid h
  have y0:=cell_of_row _ _ 0 _ _ _ h.box
  simp at y0
  have hj:j<T.length:=(List.getElem?_eq_some_iff.1 hx).1
  have hjI:(j:Int)≤8192:=by have:=HRL.out;omega
  have HS:=Lib.hid h.step
  clear hx h
  have z0:=frozen_of_row _ _ 0 _ _ HJ.out.box
  gi_wp2
  exact⟨⟨by rw [World.size_setCell];exact Nat.le_refl _,fun k o hk ho _=>(heap_setCell_other _ _ _ _ (show k≠w.heap.size by have:=lt_of_block HV0.out;omega)).trans ho⟩,HS.out,hj⟩
 case done=>
  rintro D j U hD ⟨hJU,hjl⟩ hend hDD
  obtain rfl:j=T.length:=Nat.le_antisymm hjl hend
  have x0:U.cell? ⟨w.heap.size,0,none⟩=some (.int .i64 (T.length:Int)):=by rw [cell_of_row _ _ 0 _ _ _ hJU.box];rfl
  have HDD:=Lib.hid hDD
  have hz:=lt_of_block HV0.out
  have HFB:Hid (Below w.heap.size w (U.putObj D (.deferred none))):=Lib.hid (((HB0.out.trans (HBV.out.mono (Nat.le_succ _))).trans ⟨hJU.os,hJU.tape,hJU.output,hJU.size,fun k hk=>hJU.stay k (by omega) (by omega)⟩).trans ⟨rfl,rfl,rfl,by simp [World.putObj],fun k hk=>World.putObj_heap_other (by omega)⟩)
  clear hDD hJU hend hjl
  subst hA2
  go_wp2_with fail
  refine⟨by simp,.inl ⟨_,_,rfl,run_takeDeferred HDD.out,?_⟩⟩
  refine⟨.int .i64 (T.length:Int),?_,rfl,HFB.out⟩
  simp [results,Tryz.f11,go_sem]
end
end Go.Proofs.YtmbecjlioogbhaaGreatDoor
end
section
namespace Go.Proofs
open Go.Shelf
def Tryz.lays156_ren:Go.Shelf.Ren:=⟨fun | 156=>233 | 165=>249 | 166=>250 | 169=>251 | 240=>258 | 241=>259 | 276=>265 | 277=>266 | n=>n,fun | 31=>163 | 9=>9 | 3=>3 | 4=>4 | 0=>0 | 20=>20 | 72=>300 | 76=>303 | 70=>298 | 37=>71 | 75=>302 | 127=>309 | 164=>318 | 5=>5 | 80=>167 | n=>n,fun | n=>n⟩
theorem Tryz.lays156:Go.Proofs.Lays.n156 Tryz.prog Tryz.lays156_ren:={
 mixed:=by kernel_rfl
 f156:=Tryz.func233.trans (congrArg some (by kernel_rfl))
 f165:=Tryz.func249.trans (congrArg some (by kernel_rfl))
 f166:=Tryz.func250.trans (congrArg some (by kernel_rfl))
 f169:=Tryz.func251.trans (congrArg some (by kernel_rfl))
 f240:=Tryz.func258.trans (congrArg some (by kernel_rfl))
 f241:=Tryz.func259.trans (congrArg some (by kernel_rfl))
 f276:=Tryz.func265.trans (congrArg some (by kernel_rfl))
 f277:=Tryz.func266.trans (congrArg some (by kernel_rfl))
 t0:=Tryz.underlying0
 a0:=Tryz.isAgg0
 z0:=Tryz.sizeOf0
 v0:=Tryz.zeroValue0
 t3:=Tryz.underlying3
 a3:=Tryz.isAgg3
 z3:=Tryz.sizeOf3
 v3:=Tryz.zeroValue3
 t4:=Tryz.underlying4
 a4:=Tryz.isAgg4
 z4:=Tryz.sizeOf4
 v4:=Tryz.zeroValue4
 t9:=Tryz.underlying9
 a9:=Tryz.isAgg9
 z9:=Tryz.sizeOf9
 v9:=Tryz.zeroValue9
 t20:=Tryz.underlying20
 a20:=Tryz.isAgg20
 z20:=Tryz.sizeOf20
 v20:=Tryz.zeroValue20
 t31:=Tryz.underlying163
 a31:=Tryz.isAgg163
 z31:=Tryz.sizeOf163
 v31:=Tryz.zeroValue163
 t37:=Tryz.underlying71
 a37:=Tryz.isAgg71
 z37:=Tryz.sizeOf71
 v37:=Tryz.zeroValue71
 t70:=Tryz.underlying298
 a70:=Tryz.isAgg298
 z70:=Tryz.sizeOf298
 v70:=Tryz.zeroValue298
 t72:=Tryz.underlying300
 a72:=Tryz.isAgg300
 z72:=Tryz.sizeOf300
 v72:=Tryz.zeroValue300
 t75:=Tryz.underlying302
 a75:=Tryz.isAgg302
 z75:=Tryz.sizeOf302
 v75:=Tryz.zeroValue302
 t76:=Tryz.underlying303
 a76:=Tryz.isAgg303
 z76:=Tryz.sizeOf303
 v76:=Tryz.zeroValue303
 t127:=Tryz.underlying309
 a127:=Tryz.isAgg309
 z127:=Tryz.sizeOf309
 v127:=Tryz.zeroValue309
 t164:=Tryz.underlying318
 a164:=Tryz.isAgg318
 z164:=Tryz.sizeOf318
 v164:=Tryz.zeroValue318 }
theorem Tryz.Builder_Extra_156:Builder.Extra Tryz.prog Tryz.lays156_ren:={
 sizeBuilder:=by kernel_rfl
 liesBuilder:=by kernel_rfl
 t5:=Tryz.underlying5
 a5:=Tryz.isAgg5
 z5:=Tryz.sizeOf5
 v5:=Tryz.zeroValue5
 infoByte:=by kernel_rfl
 cellsByte:=by kernel_rfl
 sizeByte:=by kernel_rfl
 neB5:=by decide }
open Go.RowKit in
theorem Tryz.strings_Join_none (a:Option Addr) (c:Nat) (sep:ByteArray) (w:World) :
  Calls Tryz.prog 233 #[.slice a 0 c,.string sep] w fun e w'=>e = .returned (.string ⟨#[]⟩)∧w'=w:=Any.strings_Join_none Tryz.lays156 Tryz.Builder_Extra_156 a c sep w
open Go.RowKit in
theorem Tryz.strings_Join (bk o c:Nat) (xs:List ByteArray) (sep:ByteArray) (w:World) (hcells:∀(j:Nat) x,xs[j]?=some x→w.cell? ⟨bk,o+j,none⟩=some (.string x)) (hbk:bk<w.heap.size) (hN:xs.length≤140737488355328) (hcap:xs.length≤c) (hlen:(Lib.join (xs.map (·.data.toList)) sep.data.toList).length≤140737488355328) :
  Calls Tryz.prog 233 #[.slice (some ⟨bk,o,none⟩) xs.length c,.string sep] w fun e w'=>e = .returned (.string ⟨(Lib.join (xs.map (·.data.toList)) sep.data.toList).toArray⟩)∧Below w.heap.size w w':=Any.strings_Join Tryz.lays156 Tryz.Builder_Extra_156 bk o c xs sep w hcells hbk hN hcap hlen
end Go.Proofs
end
section
namespace Go.Proofs.YtmbecjlioogbhaaGreatDoor.Sl
open Go.RowKit
section
variable {w:World} {g:Nat} {v:Value} {l:List Sl}
set_option maxHeartbeats 400000 in
theorem len_any (h:Pg0 w g v l):Calls Tryz.prog 111 #[.pointer (some ⟨g,0,none⟩)] w fun e w'=>e = .returned (.int .i64 (l.length:Int))∧w=w':=by
 obtain⟨q,c,rfl⟩:=h.form
 have c0:=h.c0
 have hl:=h.ok.len
 go_enter Tryz.func111,Tryz.ntmps111
 go_wp2_with fail
 go_ret
 exact⟨rfl,rfl⟩
theorem behind_any (n:Nat) (w:World) (hn:n≤1000):Calls Tryz.prog 197 #[.int .i64 (n:Int)] w fun e w'=>e = .returned (.int .i64 (1+(n:Int)*2))∧w=w':=by
 go_enter Tryz.func197,Tryz.ntmps197
 go_wp2_with fail
 go_ret
 exact⟨rfl,rfl⟩
theorem new_any (w:World):Calls Tryz.prog 105 #[] w fun e w'=>∃g F,e = .returned (.pointer (some ⟨g,0,none⟩))∧Pg w' g F []∧(∀k∈F,w.heap.size≤k)∧w.heap.size≤g∧Below w.heap.size w w':=by
 go_enter Tryz.func105,Tryz.ntmps105
 go_wp2_with fail
 go_ret
 refine⟨w.heap.size,_,rfl,⟨.slice none 0 0,⟨heap_alloc_new w _,World.ownsRow_nil _ _ _ _,Okp.nil_⟩,rfl⟩,?_,Nat.le_refl _,(Below.refl _ _).alloc (Nat.le_refl _) _⟩
 intro k hk
 simp [foot,Value.ownBlock] at hk
 omega
set_option maxHeartbeats 800000 in
theorem size_any (o:Sl) (w:World) (ho:sz o≤512):Calls Tryz.prog 157 #[.agg #[.bool o.isSome,.string (recOf o)]] w fun e w'=>e = .returned (.int .i64 (if o.isSome=true then (sz o:Int)+1 else 0))∧Below w.heap.size w w':=by
 cases o with
 | none=>
  go_enter Tryz.func157,Tryz.ntmps157
  go_wp2_with fail
  go_ret
  exact⟨rfl,(Below.refl _ _).alloc (Nat.le_refl _) _⟩
 | some r=>
  have hr:r.size≤512:=ho
  rw [sz_some]
  simp only [recOf,Option.getD_some,Option.isSome_some,if_true]
  go_enter Tryz.func157,Tryz.ntmps157
  go_wp2_with fail
  go_ret
  exact⟨rfl,(Below.refl _ _).alloc (Nat.le_refl _) _⟩
set_option maxHeartbeats 1600000 in
theorem next_any (h:Pg0 w g v l):Calls Tryz.prog 155 #[.pointer (some ⟨g,0,none⟩)] w fun e w'=>e = .returned (.int .i64 (bareI l:Int))∧Below w.heap.size w w':=by
 have HP:=Lib.hid h
 obtain⟨q,c,rfl⟩:=h.form
 have c0:=h.c0
 have hl:=h.ok.len
 have hg:=h.lt
 clear h
 obtain⟨N,HN⟩:∃N,Hid (l.length=N):=⟨_,Lib.hid rfl⟩
 rw [HN.out] at c0 hl
 go_enter Tryz.func155,Tryz.ntmps155
 go_wp2_with fail
 go_loopw [10] (fun iv wr=>∃i:Nat,i≤N∧iv = .int .i64 (i:Int)∧(∀j,j<i→(slot l j).isSome=true)∧Below w.heap.size w wr) (fun iv _=>N - (RowKit.intOf iv).toNat)
 case atStart=>exact⟨0,by omega,by go_num,fun j hj=>absurd hj (Nat.not_lt_zero j),Below.refl _ _⟩
 case round=>
  obtain⟨i,hi,rfl,hj,hb⟩:=hrel
  have c1:=(hb.cell (p:=⟨g,0,none⟩) hg).trans c0
  by_cases hlt:i<N
  ·obtain⟨b,c',e,hc,a1,a2⟩:=HP.out.at (k:=i) (by rw [HN.out];exact hlt)
   rw [HN.out] at e hc
   cases e
   have x1:=(hb.cell (p:=⟨b,i*2,none⟩) (World.block_lt_of_cell? w _ a1)).trans a1
   have x2:=(hb.cell (p:=⟨b,i*2+1,none⟩) (World.block_lt_of_cell? w _ a2)).trans a2
   have HJ:=Lib.hid hj
   have HB:=Lib.hid hb
   clear hj hb a1 a2
   cases hs:(slot l i).isSome with
   | true=>
    rw [hs] at x1
    have HS:=Lib.hid hs
    clear hs
    go_wp2_with fail
    go_roundw
    case rel=>exact⟨i+1,by omega,by go_num,fun j hj=>(Nat.lt_succ_iff_lt_or_eq.1 hj).elim (HJ.out j) (fun e=>by rw [e];exact HS.out),HB.out.alloc HB.out.size _⟩
    case measure=>simp [RowKit.intOf];omega
   | false=>
    rw [hs] at x1
    have HS:=Lib.hid hs
    clear hs
    go_wp2_with fail
    go_ret
    have:=bareI_eq (l:=l) (i:=i) (by rw [HN.out];omega) HJ.out (fun _=>by have:=HS.out;simpa using this)
    rw [this]
    exact⟨rfl,HB.out.alloc HB.out.size _⟩
  ·obtain rfl:i=N:=by omega
   have HJ:=Lib.hid hj
   have HB:=Lib.hid hb
   clear hj hb
   go_wp2_with fail
   go_ret
   have:=bareI_eq (l:=l) (i:=i) (by rw [HN.out];omega) HJ.out (fun h=>by have:=HN.out;omega)
   rw [this]
   exact⟨rfl,HB.out⟩
end
end Go.Proofs.YtmbecjlioogbhaaGreatDoor.Sl
end
section
namespace Go.Proofs.YtmbecjlioogbhaaGreatDoor.Sl
open Go.RowKit
section
variable {w:World} {g:Nat} {v:Value} {l:List Sl}
def getS (l:List Sl) (i:Int):ByteArray:=if fullI l i=true then recOf (slot l i.toNat) else ⟨#[]⟩
theorem getS_nat (l:List Sl) (k:Nat):getS l (k:Int)=recOf (slot l k):=by
 unfold getS
 rw [fullI_nat,Int.toNat_natCast]
 cases e:slot l k with
 | none=>simp [recOf]
 | some r=>simp
set_option maxHeartbeats 800000 in
theorem get_any (h:Pg0 w g v l) (i:Int):Calls Tryz.prog 159 #[.pointer (some ⟨g,0,none⟩),.int .i64 i] w fun e w'=>e = .returned (.tuple #[.string (getS l i),.bool (fullI l i)])∧Below w.heap.size w w':=by
 have HL:=Lib.hid (len_any h)
 by_cases h0:i<0
 ·have hd:decide (i<0)=true:=decide_eq_true h0
  rw [show getS l i=⟨#[]⟩ by unfold getS;rw [if_neg (by unfold fullI;simp;omega)],show fullI l i=false by unfold fullI;simp;omega]
  clear h
  go_enter Tryz.func159,Tryz.ntmps159
  go_wp2_with fail
  go_ret2
  exact⟨rfl,Below.refl _ _⟩
 ·obtain⟨k,rfl⟩:∃k:Nat,i=(k:Int):=⟨i.toNat,by omega⟩
  have hd:decide ((k:Int)<0)=false:=by simp
  rw [getS_nat,fullI_nat]
  by_cases h1:k<l.length
  ·obtain⟨b,c,rfl,hc,a1,a2⟩:=h.at h1
   have c0:=h.c0
   have hn:l.length≤64:=h.ok.len
   have hk:(k:Int)<(l.length:Int):=by omega
   have hd2:decide ((l.length:Int)≤(k:Int))=false:=by simp;omega
   obtain⟨N,HN⟩:∃N,Hid (l.length=N):=⟨_,Lib.hid rfl⟩
   rw [HN.out] at HL c0 hn hk hd2 hc h1
   clear h
   generalize (slot l k).isSome=bb at *
   generalize recOf (slot l k)=rr at *
   go_enter Tryz.func159,Tryz.ntmps159
   go_wp2_with (go_at_call 111;refine HL.out.mono ?_;rintro e w1 ⟨rfl,rfl⟩)
   go_quiet (fail)
   go_wp2_with fail
   go_ret2
   refine⟨rfl,?_⟩
   exact⟨rfl,rfl,rfl,Nat.le_refl _,fun _ _=>rfl⟩
  ·rw [slot_ge (by omega)]
   have hd2:decide ((l.length:Int)≤(k:Int))=true:=by simp;omega
   clear h
   go_enter Tryz.func159,Tryz.ntmps159
   go_wp2_with (go_at_call 111;refine HL.out.mono ?_;rintro e w1 ⟨rfl,rfl⟩)
   go_ret2
   exact⟨rfl,Below.refl _ _⟩
theorem tot_le {l:List Sl} (h:Okp l):tot l≤512:=by have:=h.need;unfold need at this;omega
set_option maxHeartbeats 1600000 in
theorem left_any (h:Pg0 w g v l):Calls Tryz.prog 156 #[.pointer (some ⟨g,0,none⟩)] w fun e w'=>e = .returned (.int .i64 (left l))∧Below w.heap.size w w':=by
 have HP:=Lib.hid h
 obtain⟨q,c,rfl⟩:=h.form
 have c0:=h.c0
 have hl:=h.ok.len
 have ht:=tot_le h.ok
 have hg:=h.lt
 clear h
 obtain⟨N,HN⟩:∃N,Hid (l.length=N):=⟨_,Lib.hid rfl⟩
 rw [HN.out] at c0 hl
 have HB:=Lib.hid (behind_any N · (by omega))
 have HT:Hid (∀i,i≤N→tot (l.take i)≤512):=Lib.hid (fun i _=>Nat.le_trans (tot_take_le l i) ht)
 clear ht
 go_enter Tryz.func156,Tryz.ntmps156
 go_wp2_with (go_at_call 197;refine(HB.out _).mono ?_;rintro e w1 ⟨rfl,rfl⟩)
 go_wp2_with fail
 go_loopw [3,18] (fun sv iv wr=>∃i s:Nat,i≤N∧iv = .int .i64 (i:Int)∧sv = .int .i64 (512 - (1+(N:Int)*2) - (s:Int))∧s≤512∧Hid (tot (l.take i)=s)∧Below w.heap.size w wr) (fun _ iv _=>N - (RowKit.intOf iv).toNat)
 case atStart=>exact⟨0,0,by omega,by go_num,by simp,by omega,Lib.hid rfl,Below.refl _ _⟩
 case round=>
  obtain⟨i,s,hi,rfl,rfl,hs,HS,hb⟩:=hrel
  have c1:=(hb.cell (p:=⟨g,0,none⟩) hg).trans c0
  by_cases hlt:i<N
  ·obtain⟨b,c',e,hc,a1,a2⟩:=HP.out.at (k:=i) (by rw [HN.out];exact hlt)
   rw [HN.out] at e hc
   cases e
   have x1:=(hb.cell (p:=⟨b,i*2,none⟩) (World.block_lt_of_cell? w _ a1)).trans a1
   have x2:=(hb.cell (p:=⟨b,i*2+1,none⟩) (World.block_lt_of_cell? w _ a2)).trans a2
   have HBL:=Lib.hid hb
   have HS2:Hid (tot (l.take (i+1))=s+sz (slot l i)):=Lib.hid (by rw [tot_take_succ (by rw [HN.out];exact hlt),HS.out])
   have hs2:s+(recOf (slot l i)).size≤512:=by have:=HT.out (i+1) (by omega);rw [HS2.out] at this;exact this
   have HSZ:Hid (sz (slot l i)=(recOf (slot l i)).size):=Lib.hid rfl
   rw [HSZ.out] at HS2
   clear hb a1 a2 HSZ
   generalize (slot l i).isSome=bb at *
   generalize recOf (slot l i)=rr at *
   obtain⟨z,HZ⟩:∃z,Hid (rr.size=z):=⟨_,Lib.hid rfl⟩
   rw [HZ.out] at hs2 HS2
   have hz:=HZ.out
   go_wp2_with fail
   go_roundw
   case rel=>exact⟨i+1,s+z,by omega,by go_num,by congr 1;omega,hs2,HS2,HBL.out.alloc HBL.out.size _⟩
   case measure=>simp [RowKit.intOf];omega
  ·obtain rfl:i=N:=by omega
   have HB:=Lib.hid hb
   clear hb
   go_wp2_with fail
   go_ret
   refine⟨?_,HB.out⟩
   have h1:=HS.out
   have h2:=HN.out
   rw [List.take_of_length_le (by omega)] at h1
   have h3:(512 - (1+(i:Int)*2) - (s:Int))=left l:=by unfold left need;omega
   rw [h3]
   rfl
end
end Go.Proofs.YtmbecjlioogbhaaGreatDoor.Sl
end
