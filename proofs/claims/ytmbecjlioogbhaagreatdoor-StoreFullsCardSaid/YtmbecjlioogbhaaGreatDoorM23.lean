/- Texts YAddP to YMdl of this seat, laid into one. -/
import Derived.Maps.AppendAt
import Derived.Great.BuildSlice
import Derived.Deep.RegionLaw
import Derived.Deep.AppendLies
import Derived.Deep.RegionHeld3
import Derived.Test.YtmbecjlioogbhaaGreatDoorM01
import Derived.Test.YtmbecjlioogbhaaGreatDoorM12
import Derived.Test.YtmbecjlioogbhaaGreatDoorM13
import Derived.Test.YtmbecjlioogbhaaGreatDoorM22
set_option linter.unusedVariables false
set_option linter.unusedSimpArgs false
set_option linter.constructorNameAsVariable false
namespace Go.Proofs.YtmbecjlioogbhaaGreatDoor
section
set_option maxRecDepth 20000
open Go.RowKit
def zpart:List Nat:=pageT (spsB (fun _=>0) 128)
theorem zpart_ok:zpart.length=512∧∀x∈zpart,x<256:=⟨pageT_len (by rw [spsB_len];omega),pageT_dig (spsB_dig _ _)⟩
def grewF (F:Nat→Nat) (n l:Nat):Nat→Nat:=fun j=>if j<n*129 then F j else if j=n*129 then l else 0
theorem build_part (w:World):(Instr.build 82 #[]).run Tryz.prog w = .ok (.agg (partL 0 fun _=>0).toArray) w:=run_build w _ _ _ (by kernel_rfl)
theorem step_load_mid {P:Program} {ops:Array Oper} {op:Oper} {a:Act} {w:World} {K:Act→World→Prop} {Q:Exit→Act→World→Prop} {E:Prop} (hgd:op.guard=none) (ty:TypeId) (x:Operand) (ho:op.op = .load ty x)
  (b o:Nat) (hx:a.eval x = .pointer (some ⟨b,o,none⟩)) (cs:List Value) (d:TypeDesc) (hc:w.rangeAt b o cs) (hu:P.underlying ty=some d) (hd:d.isRow=true) (hi:(P.info? ty).map (·.size)=some cs.length)
  (h:K (a.put op.dst (.agg cs.toArray)) w):if Region.wanted op (yielded ops a.tmps)=true then Oper.wp P op a w K Q else E:=by
 have hw:Region.wanted op (yielded ops a.tmps)=true:=by simp [Region.wanted,hgd]
 rw [if_pos hw]
 exact wp_load_mid ty x ho b o hx cs d hc hu hd hi h
theorem step_buildSlice {P:Program} {ops:Array Oper} {o:Oper} {a:Act} {w:World} {K:Act→World→Prop} {Q:Exit→Act→World→Prop} {E:Prop} (hgd:o.guard=none) (t e:TypeId) (len:Nat) (parts:Array (Nat × Operand)) (ho:o.op = .buildSlice t len parts)
  (cells:Array Value) (ie:TypeInfo) (z:Value)
  (hu:P.underlying t=some (.slice e)) (hie:P.info? e=some ie) (hz:ie.zero=some z) (hsmall:¬ len*ie.size > 2 ^ 24) (hpos:¬ len*ie.size=0)
  (hf:Instr.fill (fun i=>some (i*ie.size,ie.size)) ((Array.range (len*ie.size)).map (z.cells[· % z.cells.size]!)) (parts.map fun (i,x)=>(i,a.eval x)).toList=some cells)
  (h:K (a.put o.dst (.slice (some ⟨w.heap.size,0,none⟩) len len)) (w.alloc (.cells cells e))):if Region.wanted o (yielded ops a.tmps)=true then Oper.wp P o a w K Q else E:=by
 have hw:Region.wanted o (yielded ops a.tmps)=true:=by simp [Region.wanted,hgd]
 rw [if_pos hw]
 exact wp_buildSlice t e len parts ho cells ie z hu hie hz hsmall hpos hf h
theorem fill_part (l:Nat) (Z:Value) (hZ:Z = .agg (partL 0 fun _=>0).toArray):Instr.fill (fun i=>some (i*129,129)) ((Array.range (1*129)).map (Z.cells[· % Z.cells.size]!)) [(0,.agg (partL l fun _=>0).toArray)]=some (partL l fun _=>0).toArray:=by
 subst hZ
 kernel_rfl
theorem set_part (l:Nat):(partL 0 fun _=>0).toArray.setIfInBounds 0 (.int .i64 (l:Int))=(partL l fun _=>0).toArray:=by
 unfold partL
 simp
section
variable {w w':World} {d sg pg k g mb n:Nat} {D G:List Nat} {m:Dsk} {s s':Sp} {y y':Xv} {v:Value} {F:Nat→Nat}
theorem ints_app (f:Nat→Nat) (a n:Nat):∀k,Tb.ints f a (n+k)=Tb.ints f a n++Tb.ints f (a+n) k
 | 0=>by rw [Nat.add_zero,show Tb.ints f (a+n) 0=[] from rfl,List.append_nil]
 | k+1=>by rw [←Nat.add_assoc,Tb.ints_snoc,ints_app f a n k,Tb.ints_snoc,List.append_assoc,Nat.add_assoc]
theorem ints_grew (F:Nat→Nat) (n l:Nat):Tb.ints (grewF F n l) 0 ((n+1)*129)=Tb.ints F 0 (n*129)++partL l fun _=>0:=by
 rw [show (n+1)*129=n*129+129 by omega,ints_app,Nat.zero_add]
 congr 1
 ·exact Tb.ints_congr fun j hj=>by unfold grewF;rw [Nat.zero_add,if_pos hj]
 ·rw [←partL_ints]
  have e0:grewF F n l (n*129)=l:=by unfold grewF;rw [if_neg (by omega),if_pos rfl]
  rw [e0]
  congr 1
  funext j
  unfold grewF
  rw [if_neg (by omega),if_neg (by omega)]
theorem Sto.stayB (h:Sto w d sg D G m s pg y k g mb v n F) {K K':List Nat} (hc:Chg K K' w w') (hK:Kin w K) (hD:∀j∈D,j∉K) (hG:∀j∈G,j∉K) (hg:g∉K) (hv:∀b,v.ownBlock=some b→b∉K):Sto w' d sg D G m s pg y k g mb v n F:=
 ⟨h.sp.stay hc hK hD hG,⟨(hc.block g h.st.lt hg).trans h.st.row,own_other h.st.own fun b hb=>hc.block b (World.ownsRow.lt h.st.own b hb).2 (hv b hb),h.st.n64⟩,h.ag,h.av,h.ad,h.avd⟩
theorem Sto.own_ne (h:Sto w d sg D G m s pg y k g mb v n F):∀b,v.ownBlock=some b→b≠g∧∃cur,w.heap[b]?=some (.cells cur 82 (0,0)):=fun b hb=>by
 rcases h.st.own.2 with ⟨e,_⟩ | ⟨g2,cap,cur,e,_,hh,_⟩
 ·rw [e] at hb;cases hb
 ·have:g2=b:=by rw [e] at hb;cases hb;rfl
  subst this
  refine⟨fun e1=>?_,cur,hh⟩
  rw [e1,h.st.row] at hh
  cases hh
theorem Sto.grown (h:Sto w d sg D G m s pg y k g mb v n F) (hn:n<64) {U w9:World} {l g2 cap:Nat} (hU:Below w.heap.size w U)
  (hrow:w9.ownsRow 0 82 129 (.slice (some ⟨g2,0,none⟩) (n+1) cap) (n+1) (Tb.ints F 0 (n*129)++partL l fun _=>0)) (hgr:U.grownBy w9 v.ownBlock) (hor:v.ownBlock=some g2∨g2=U.heap.size) :
  Sto (w9.setCell ⟨g,1,none⟩ (.slice (some ⟨g2,0,none⟩) (n+1) cap)) d sg D G m s pg y k g mb (.slice (some ⟨g2,0,none⟩) (n+1) cap) (n+1) (grewF F n l) ∧
   Chg (g :: v.ownBlock.toList) [g,g2] w (w9.setCell ⟨g,1,none⟩ (.slice (some ⟨g2,0,none⟩) (n+1) cap))∧w9.heap[g]?=w.heap[g]?:=by
 have hgl:=h.st.lt
 have hon:=h.own_ne
 have hGL:=kin_lt h.sp.kinG
 have hDL:=kin_lt h.sp.kinF
 have hUs:=hU.size
 have hng:some g≠v.ownBlock:=fun e=>(hon g e.symm).1 rfl
 have hg9:w9.heap[g]?=w.heap[g]?:=(hgr.block g (by omega) hng).trans (hU.block g hgl)
 have hg2g:g2≠g:=by
  rcases hor with e | e
  ·exact(hon g2 e).1
  ·omega
 have hc:Chg (g :: v.ownBlock.toList) [g,g2] w (w9.setCell ⟨g,1,none⟩ (.slice (some ⟨g2,0,none⟩) (n+1) cap)):=by
  refine⟨hgr.os.trans hU.os,hgr.tape.trans hU.tape,hgr.output.trans hU.output,by have:=hgr.size;simp;omega,fun j hj hnk=>?_,fun j hj=>?_⟩
  ·simp only [List.mem_cons,not_or] at hnk
   refine(heap_setCell_other _ _ _ _ hnk.1).trans ((hgr.block j (by omega) (fun e=>hnk.2 (by rw [←e];simp))).trans (hU.block j hj))
  ·simp only [List.mem_cons,List.not_mem_nil,or_false] at hj
   rcases hj with rfl | rfl
   ·exact .inl (List.mem_cons_self ..)
   ·rcases hor with e | e
    ·exact .inl (by rw [e];simp)
    ·exact .inr (by omega)
 have hK:Kin w (g :: v.ownBlock.toList):=fun j hj=>by
  rcases List.mem_cons.1 hj with rfl | hj
  ·exact .inr ⟨_,_,_,h.st.row,by simp⟩
  ·obtain⟨-,cur,hh⟩:=hon j (by simpa [Option.mem_toList] using hj)
   exact .inr ⟨_,_,_,hh,by simp⟩
 have hin:∀j,j∈g :: v.ownBlock.toList→j=g∨v.ownBlock=some j:=fun j hj=>(List.mem_cons.1 hj).imp id fun e=>by simpa [Option.mem_toList] using e
 refine⟨⟨h.sp.stay hc hK (fun j hj e=>(hin j e).elim (fun e=>h.ad (by rw [←e];exact hj)) (fun e=>h.avd j e hj)) (fun j hj e=>(hin j e).elim (fun e=>h.ag (by rw [←e];exact hj)) (fun e=>h.av j e hj)),⟨?_,?_,by omega⟩,h.ag,fun b e=>?_,h.ad,fun b e=>?_⟩,hc,hg9⟩
 ·exact heap_setCell_same _ _ 1 _ _ _ (hg9.trans h.st.row)
 ·unfold OwnP
  rw [ints_grew]
  exact own_other hrow fun b e=>heap_setCell_other _ _ _ _ (by simp [Value.ownBlock] at e;subst e;exact hg2g)
 ·have e:g2=b:=by simpa [Value.ownBlock] using e
  subst e
  rcases hor with e | e
  ·exact h.av _ e
  ·exact fun hj=>by have:=hGL _ hj;omega
 ·have e:g2=b:=by simpa [Value.ownBlock] using e
  subst e
  rcases hor with e | e
  ·exact h.avd _ e
  ·exact fun hj=>by have:=hDL _ hj;omega
theorem infoPart3:(Tryz.prog.info? 82).map (fun i=>(i.zero,i.size,i.bytes))=some (some (.agg (partL 0 fun _=>0).toArray),129,1032):=by kernel_rfl
set_option maxHeartbeats 3200000 in
theorem Sto.addPart (h:Sto w d sg D G m s pg y k g mb v n F) (hn:n<64) (l:Nat) (hl:gapF (nn y.now) 512 0=some l) (h0:thX y.now 0=true) (hF:∀i,i<n→F (i*129)≤1099511627776) :
  Calls Tryz.prog 102 #[.pointer (some ⟨g,0,none⟩)] w fun e w'=>e = .returned (.tuple #[])∧(∃s' v',Sto w' d sg D G m s' pg ((y.put l zpart).put 0 (pageT (headB (n+1) fun i=>grewF F n l (i*129)))) k g mb v' (n+1) (grewF F n l)∧∀j,v'.ownBlock=some j→v.ownBlock=some j∨w.heap.size≤j)∧∃K K',(∀j∈K,j∈G∨j=g∨v.ownBlock=some j)∧Chg K K' w w':=by
 obtain⟨hz,hiP⟩:=zero_of_info (P:=Tryz.prog) infoPart
 have hbp:=build_part
 have HPT:Hid (∀w2,Calls Tryz.prog 114 #[.agg (partL 0 fun _=>0).toArray] w2 fun e w'=>e = .returned (.string (strB zpart))∧Below w2.heap.size w2 w'):=Lib.hid fun w2=>partText_any 0 (fun _=>0) w2 (fun _ _=>by omega)
 have hZS:(partL 0 fun _=>0).toArray.size=129:=by rw [List.size_toArray,partL_len]
 have hZO:(partL 0 fun _=>0).toArray.all (·.oneCell')=true:=by rw [Array.all_eq_true_iff_forall_mem];intro x hx;exact partL_one _ _ x (by simpa using hx)
 have HH:=Lib.hid h
 have HNP:Hid (∀w1,Below w.heap.size w w1→Calls Tryz.prog 104 #[.pointer (some ⟨g,0,none⟩),.string (strB zpart)] w1 fun e w'=>e = .returned (.int .i64 (l:Int))∧Hid ((∃s',Sto w' d sg D G m s' pg (y.put l zpart) k g mb v n F)∧Chg G G w1 w')):=Lib.hid fun w1 hb=>((h.below hb).newPage l hl zpart zpart_ok).mono fun e w' hh=>⟨hh.1,Lib.hid hh.2⟩
 have HSP:Hid ((Tryz.prog.info? 82).map (·.size)=some (partL 0 fun _=>0).length):=Lib.hid (by rw [sizePart,partL_len])
 have HSZ:Hid ((Tryz.prog.info? 82).map (·.size)=some (partL 0 fun _=>0).toArray.size):=Lib.hid (by rw [sizePart,hZS])
 have HZO:=Lib.hid hZO
 obtain⟨X,hX⟩:∃X,X=(partL 0 fun _=>0):=⟨_,rfl⟩
 rw [←hX] at HPT HSP HSZ HZO hz hbp hZS
 have HXX:=Lib.hid hX
 have HF:=Lib.hid hF
 have HL5:Hid (l<512):=Lib.hid (by have:=(gapF_lt hl).1;omega)
 have HH0:=Lib.hid h0
 clear h hl hF hiP hZO hX h0
 generalize strB zpart=T at *
 have HNW:Hid ((w.alloc (.cells X.toArray 82)).heap[w.heap.size]?=some (.cells X.toArray 82 (0,0))):=Lib.hid (heap_alloc_new _ _)
 obtain⟨W5,hW5⟩:∃W5,(w.alloc (.cells X.toArray 82)).setRow w.heap.size X.toArray=W5:=⟨_,rfl⟩
 have HB5:Hid (Below w.heap.size w W5):=Lib.hid (by rw [←hW5];exact below_rowY (alloc_below w _) (Nat.le_refl _) _)
 have HR5:Hid (W5.heap[w.heap.size]?=some (.cells X.toArray 82 (0,0))):=Lib.hid (by rw [←hW5];exact setRow_heap (w.alloc (.cells X.toArray 82)) w.heap.size _ _ _ _ HNW.out)
 go_enter Tryz.func102,Tryz.ntmps102
 go_upto_region 1 with (refine wpList_store_row rfl 82 (.tmp 2) (.tmp 3) rfl w.heap.size X.toArray rfl rfl 82 X.toArray HNW.out HSZ.out rfl HZO.out ?_;rw [hW5])
 have HRG:Hid (W5.rangeAt w.heap.size 0 X):=Lib.hid fun j u hu=>by
  rw [cell_of_row _ _ _ _ _ _ HR5.out,Nat.zero_add,←hu,←List.getElem?_toArray]
 have HBL:=Lib.hid (HH.out.st.lt)
 have HGL:=Lib.hid (kin_lt HH.out.sp.kinG)
 have HDL:=Lib.hid (kin_lt HH.out.sp.kinF)
 clear hW5 HNW hbp hz HSZ HZO
 go_upto_region 2 with (first
  | (refine wpList_load_mid rfl 82 (.tmp 2) rfl w.heap.size 0 rfl X _ HRG.out Tryz.underlying82 rfl HSP.out ?_)
  | (go_at_call 114;with_reducible refine(HPT.out _).mono ?_;rintro e w6 ⟨rfl,hb6⟩;have HB6:=Lib.hid (HB5.out.trans (hb6.mono HB5.out.size));have HX6:=Lib.hid ((hb6.block _ (lt_of_block HR5.out)).trans HR5.out);clear hb6)
  | (go_at_call 104;with_reducible refine(HNP.out _ HB6.out).mono ?_;rintro e w7 ⟨rfl,HS7⟩;have hx7:=(HS7.out.2.block _ (lt_of_block HX6.out) (fun e=>absurd (HGL.out _ e) (Nat.lt_irrefl _))).trans HX6.out;have f7:=frozen_of_row _ _ 0 _ _ hx7;have g7:=cell_of_row _ _ 0 _ _ _ hx7))
 obtain⟨⟨s7,h7⟩,hc7⟩:=HS7.out
 have hx8:(w7.setCell ⟨w.heap.size,0,none⟩ (.int .i64 (l:Int))).heap[w.heap.size]?=some (.cells (partL l fun _=>0).toArray 82 (0,0)):=by
  have:=heap_setCell_same _ _ 0 _ _ (.int .i64 (l:Int)) hx7
  rw [HXX.out,set_part] at this
  exact this
 have hcB:Chg [w.heap.size] [w.heap.size] w7 (w7.setCell ⟨w.heap.size,0,none⟩ (.int .i64 (l:Int))):=⟨rfl,rfl,rfl,by simp,fun j _ hj=>heap_setCell_other w7 ⟨w.heap.size,0,none⟩ j _ (by simpa using hj),fun _ h=>.inl h⟩
 have h8:Sto (w7.setCell ⟨w.heap.size,0,none⟩ (.int .i64 (l:Int))) d sg D G m s7 pg (y.put l zpart) k g mb v n F:=h7.stayB hcB
  (fun j hj=>by cases List.mem_singleton.1 hj;exact .inr ⟨_,_,_,hx7,by simp⟩)
  (fun j hj e=>by cases List.mem_singleton.1 e;exact absurd (HDL.out _ hj) (Nat.lt_irrefl _))
  (fun j hj e=>by cases List.mem_singleton.1 e;exact absurd (HGL.out _ hj) (Nat.lt_irrefl _))
  (fun e=>by have:=List.mem_singleton.1 e;have:=HBL.out;omega)
  (fun b hb e=>by cases List.mem_singleton.1 e;exact absurd (World.ownsRow.lt HH.out.st.own _ hb).2 (Nat.lt_irrefl _))
 have HC8:Hid (Chg G G w6 w7∧Chg [w.heap.size] [w.heap.size] w7 (w7.setCell ⟨w.heap.size,0,none⟩ (.int .i64 (l:Int)))):=Lib.hid ⟨hc7,hcB⟩
 clear hcB h7 hc7 HS7 hx7 f7 g7
 generalize w7.setCell ⟨w.heap.size,0,none⟩ (.int .i64 (l:Int))=W8 at *
 obtain⟨ie,hie,hiz,his,hib⟩:=info_parts infoPart3
 have hzs:ie.zero=some (.agg (partL 0 fun _=>0).toArray):=hiz
 have HIE:=Lib.hid hie
 have HIZ:=Lib.hid hiz
 have HIS:=Lib.hid his
 have HIB:=Lib.hid hib
 have H8:=Lib.hid h8
 obtain⟨p,c,rfl,-⟩:=h8.st.own.form
 have c1:=h8.st.c1
 have hg8:=h8.st.lt
 have HRP:Hid (∀U:World,U.heap[w.heap.size]?=W8.heap[w.heap.size]?→U.rangeAt w.heap.size 0 (partL l fun _=>0)):=Lib.hid fun U e j u hu=>by
  rw [cell_of_row _ _ _ _ _ _ (e.trans hx8),Nat.zero_add,←hu,←List.getElem?_toArray]
 have HSL:Hid ((Tryz.prog.info? 82).map (·.size)=some (partL l fun _=>0).length):=Lib.hid (by rw [sizePart,partL_len])
 have HON:Hid (∀u∈(partL l fun _=>0),u.oneCell'=true):=Lib.hid (partL_one _ _)
 have HFP:Hid (Instr.fill (fun i=>some (i*ie.size,ie.size)) ((Array.range (1*ie.size)).map ((Value.agg (partL 0 fun _=>0).toArray).cells[· % (Value.agg (partL 0 fun _=>0).toArray).cells.size]!)) [(0,.agg (partL l fun _=>0).toArray)]=some (partL l fun _=>0).toArray):=Lib.hid (by rw [his];exact fill_part l _ rfl)
 have HZC:Hid ((Value.agg (partL 0 fun _=>0).toArray).cells.size=129):=Lib.hid (by kernel_rfl)
 have HLN:Hid ((partL l fun _=>0).length=1*129):=Lib.hid (by rw [partL_len])
 have HNM:Hid (¬ 1*ie.size > 2 ^ 24∧¬ 1*ie.size=0):=Lib.hid (by rw [his];exact⟨by decide,by decide⟩)
 have HN63:Hid (n+1≤maxLen∧(n+1)*1032≤140737488355328):=Lib.hid ⟨by unfold maxLen;omega,by omega⟩
 have HZ8:Hid (w.heap.size<W8.heap.size):=Lib.hid (lt_of_block hx8)
 have HGR:Hid (∀(U w9:World) g2 cap,Below W8.heap.size W8 U→w9.ownsRow 0 82 129 (.slice (some ⟨g2,0,none⟩) (n+1) cap) (n+1) (Tb.ints F 0 (n*129)++partL l fun _=>0)→U.grownBy w9 (Value.slice p n c).ownBlock→((Value.slice p n c).ownBlock=some g2∨g2=U.heap.size) →
   Sto (w9.setCell ⟨g,1,none⟩ (.slice (some ⟨g2,0,none⟩) (n+1) cap)) d sg D G m s7 pg (y.put l zpart) k g mb (.slice (some ⟨g2,0,none⟩) (n+1) cap) (n+1) (grewF F n l) ∧
   Chg (g :: (Value.slice p n c).ownBlock.toList) [g,g2] W8 (w9.setCell ⟨g,1,none⟩ (.slice (some ⟨g2,0,none⟩) (n+1) cap))∧w9.heap[g]?=W8.heap[g]?∧∀j,(Value.slice (some ⟨g2,0,none⟩) (n+1) cap).ownBlock=some j→(Value.slice p n c).ownBlock=some j∨w.heap.size≤j):=Lib.hid fun U w9 g2 cap hU hrow hgr hor=>by
  obtain⟨r1,r2,r3⟩:=h8.grown hn hU hrow hgr hor
  refine⟨r1,r2,r3,fun j hj=>?_⟩
  cases hj
  have z1:=hU.size
  have z2:=HZ8.out
  exact hor.imp id fun e=>by show w.heap.size≤g2;omega
 have HOW:Hid (∀U,Below W8.heap.size W8 U→U.ownsRow 0 82 129 (.slice p n c) n (Tb.ints F 0 (n*129))):=Lib.hid fun U hU=>own_below h8.st.own hU
 have HRO8:=Lib.hid h8.st.row
 have HFIN:Hid (∀(V w10 w11:World) (g2:Nat),Chg (g :: (Value.slice p n c).ownBlock.toList) [g,g2] W8 V→Below V.heap.size V w10→Chg G G w10 w11→∃K K',(∀j∈K,j∈G∨j=g∨(Value.slice p n c).ownBlock=some j)∧Chg K K' w w11):=Lib.hid fun V w10 w11 g2 a1 a2 a3=>by
  obtain⟨k1,k2⟩:=HC8.out
  have k0:=HB6.out
  have z0:=k0.size
  have z1:=k1.size
  have z2:=k2.size
  have z3:=a1.size
  have z4:=a2.size
  have z5:=a3.size
  refine⟨G++(g :: (Value.slice p n c).ownBlock.toList),G++(g :: (Value.slice p n c).ownBlock.toList),fun j hj=>?_,⟨a3.os.trans (a2.os.trans (a1.os.trans (k2.os.trans (k1.os.trans k0.os)))),a3.tape.trans (a2.tape.trans (a1.tape.trans (k2.tape.trans (k1.tape.trans k0.tape)))),a3.output.trans (a2.output.trans (a1.output.trans (k2.output.trans (k1.output.trans k0.output)))),by omega,fun j hj hn=>?_,fun j hj=>.inl hj⟩⟩
  ·rcases List.mem_append.1 hj with e | e
   ·exact .inl e
   ·rcases List.mem_cons.1 e with e | e
    ·exact .inr (.inl e)
    ·exact .inr (.inr (by simpa [Option.mem_toList] using e))
  ·have n1:j∉G:=fun e=>hn (List.mem_append.2 (.inl e))
   have n2:j∉g :: (Value.slice p n c).ownBlock.toList:=fun e=>hn (List.mem_append.2 (.inr e))
   exact(a3.block j (by omega) n1).trans ((a2.block j (by omega)).trans ((a1.block j (by omega) n2).trans ((k2.block j (by omega) (fun e=>by have:=List.mem_singleton.1 e;omega)).trans ((k1.block j (by omega) n1).trans (k0.block j hj)))))
 have HHD3:Hid (∀(V w10:World) g2 cap,Sto V d sg D G m s7 pg (y.put l zpart) k g mb (.slice (some ⟨g2,0,none⟩) (n+1) cap) (n+1) (grewF F n l)→Below V.heap.size V w10→Calls Tryz.prog 63 #[.slice (some ⟨g2,0,none⟩) (n+1) cap] w10 fun e w'=>e = .returned (.string (strB (pageT (headB (n+1) fun i=>grewF F n l (i*129)))))∧Below V.heap.size V w'):=Lib.hid fun V w10 g2 cap hV hb=>by
  obtain⟨p3,c3,e3,hp3⟩:=(hV.below hb).st.own.form
  cases e3
  obtain⟨b3,e3,hl3,hce⟩:=hp3 (by omega)
  cases e3
  have hq:PtsR w10 (some ⟨g2,0,none⟩) (n+1) (partAt (grewF F n l)):=fun i hi=>by
   refine⟨g2,rfl,hl3,?_⟩
   unfold partAt
   rw [partL_ints]
   exact range_of_cells hce (by have:=Nat.mul_le_mul_right 129 (show i+1≤n+1 by omega);omega)
  refine(headText_any (some ⟨g2,0,none⟩) (n+1) cap (partAt (grewF F n l)) w10 (by omega) hq fun i hi=>?_).mono fun e w' h=>⟨h.1,hb.trans (h.2.mono hb.size)⟩
  show grewF F n l (i*129)≤_
  unfold grewF
  split
  ·exact HF.out i (by omega)
  ·split
   ·have:=HL5.out;omega
   ·omega
 have HWR3:Hid (∀(V w10:World) g2 cap,Sto V d sg D G m s7 pg (y.put l zpart) k g mb (.slice (some ⟨g2,0,none⟩) (n+1) cap) (n+1) (grewF F n l)→Below V.heap.size V w10→Calls Tryz.prog 36 #[.pointer (some ⟨sg,0,none⟩),.int .i64 0,.string (strB (pageT (headB (n+1) fun i=>grewF F n l (i*129))))] w10 fun e w'=>e = .returned (.int .i64 0)∧Hid ((∃s',Sto w' d sg D G m s' pg ((y.put l zpart).put 0 (pageT (headB (n+1) fun i=>grewF F n l (i*129)))) k g mb (.slice (some ⟨g2,0,none⟩) (n+1) cap) (n+1) (grewF F n l))∧Chg G G w10 w')):=Lib.hid fun V w10 g2 cap hV hb=>by
  have h10:=hV.below hb
  have hth:thX (y.put l zpart).now 0=true:=by
   have h0:=HH0.out
   rw [show (0:Int)=((0:Nat):Int) from rfl,th_nat (by omega)] at h0 ⊢
   show (!(if (0:Nat)=l then zpart else y.now 0).isEmpty)=true
   split
   ·have:=zpart_ok.1
    cases hz:zpart with
    | nil=>rw [hz] at this;cases this
    | cons a b=>rfl
   ·exact h0
  have hlen:(headB (n+1) fun i=>grewF F n l (i*129)).length≤512:=by rw [headB_len];omega
  have hw:=write_z h10.sp 0 (by omega) (by omega) (pageT (headB (n+1) fun i=>grewF F n l (i*129))) ⟨pageT_len hlen,pageT_dig (headB_dig _ _)⟩
  rw [if_pos hth,if_pos hth,show (0:Int).toNat=0 from rfl] at hw
  refine hw.mono ?_
  rintro e w11 ⟨rfl,⟨s11,hs11⟩,hchg⟩
  exact⟨rfl,Lib.hid ⟨⟨s11,h10.chg hchg hs11⟩,hchg⟩⟩
 clear h8 hx8 hie hiz his hib hzs HH
 generalize hPL:(partL l fun _=>0)=Y at *
 generalize hPZ:(partL 0 fun _=>0)=Z at *
 have HPL:=Lib.hid hPL
 clear hPL hPZ hZS
 refine wp_region_held_drew (S:=fun _:World=>True) (by kernel_rfl) trivial (fun _=>?_)
 refine wpAnyH_take (i:=0) (v:=?_) rfl (by kernel_rfl) (by kernel_rfl) (by kernel_rfl) (fun _ _ _ h=>h) (Or.inl ⟨by rfl,?_⟩) trivial ?_
 rotate_left
 ·intro w hSw
  try dsimp only at hSw
  go_simp
  try with_reducible rfl
 try simp only [Act.put,List.setIfInBounds_toArray,List.set_cons_zero,List.set_cons_succ]
 refine wpAnyH_take (i:=1) (v:=?_) rfl (by kernel_rfl) (by kernel_rfl) (by kernel_rfl) (fun _ _ _ h=>h) (Or.inl ⟨by rfl,?_⟩) trivial ?_
 rotate_left
 ·intro w hSw
  try dsimp only at hSw
  go_simp
  try with_reducible rfl
 try simp only [Act.put,List.setIfInBounds_toArray,List.set_cons_zero,List.set_cons_succ]
 refine wpAnyH_take (i:=2) (v:=?_) rfl (by kernel_rfl) (by kernel_rfl) (by kernel_rfl) (fun _ _ _ h=>h) (Or.inl ⟨by rfl,?_⟩) trivial ?_
 rotate_left
 ·intro w hSw
  try dsimp only at hSw
  go_simp
  try with_reducible rfl
 try simp only [Act.put,List.setIfInBounds_toArray,List.set_cons_zero,List.set_cons_succ]
 refine wpAnyH_take (i:=3) (v:=?_) rfl (by kernel_rfl) (by kernel_rfl) (by kernel_rfl) (fun _ _ _ h=>h) (Or.inl ⟨by rfl,?_⟩) trivial ?_
 rotate_left
 ·intro w hSw
  try dsimp only at hSw
  go_simp
  try with_reducible rfl
 try simp only [Act.put,List.setIfInBounds_toArray,List.set_cons_zero,List.set_cons_succ]
 refine wpAnyH_ready (rs:=[4,5]) (by kernel_rfl) (by simp) ?_
 refine AllReadyH.cons (o:={ dst:=some 13,op:=Op.load 75 (Operand.tmp 12),type:=75,pos:="pages.go:92",after:=#[{ on:=3,ground:=Ground.data }],guard:=none }) (by kernel_rfl) (fun K hK=>?_) (AllReadyH.cons (o:={ dst:=some 14,op:=Op.load 82 (Operand.tmp 2),type:=82,pos:="pages.go:92",after:=#[],guard:=none }) (by kernel_rfl) (fun K hK=>?_) AllReadyH.nil)
 ·go_simp
  refine hK.out _ _ trivial (fun _=>?_)
  clear hK K
  try simp only [Act.put,List.setIfInBounds_toArray,List.set_cons_zero,List.set_cons_succ]
  refine wpAnyH_ready (rs:=[5]) (by kernel_rfl) (by simp) ?_
  refine AllReadyH.cons (o:={ dst:=some 14,op:=Op.load 82 (Operand.tmp 2),type:=82,pos:="pages.go:92",after:=#[],guard:=none }) (by kernel_rfl) (fun K hK=>?_) AllReadyH.nil
  refine step_load_mid rfl 82 (.tmp 2) rfl w.heap.size 0 rfl Y _ (HRP.out _ rfl) Tryz.underlying82 rfl HSL.out ?_
  refine hK.out _ _ trivial (fun _=>?_)
  clear hK K
  try simp only [Act.put,List.setIfInBounds_toArray,List.set_cons_zero,List.set_cons_succ]
  refine wpAnyH_ready (rs:=[6]) (by kernel_rfl) (by simp) ?_
  refine AllReadyH.cons (o:={ dst:=some 15,op:=Op.buildSlice 75 1 #[(0,Operand.tmp 14)],type:=75,pos:="pages.go:92",after:=#[{ on:=5,ground:=Ground.data }],guard:=none }) (by kernel_rfl) (fun K hK=>?_) AllReadyH.nil
  refine step_buildSlice rfl 75 82 1 #[(0,.tmp 14)] rfl Y.toArray ie _ Tryz.underlying75 HIE.out HIZ.out HNM.out.1 HNM.out.2 (Eq.trans (congrArg (Instr.fill (fun i=>some (i*ie.size,ie.size)) _) (by simp [go_sem])) HFP.out) ?_
  refine hK.out _ _ trivial (fun _=>?_)
  clear hK K
  try simp only [Act.put,List.setIfInBounds_toArray,List.set_cons_zero,List.set_cons_succ]
  refine wpAnyH_ready (rs:=[7]) (by kernel_rfl) (by simp) ?_
  refine AllReadyH.cons (o:={ dst:=some 16,op:=Op.call { callee:=Callee.builtin Builtin.append,args:=#[Operand.tmp 13,Operand.tmp 15],argTypes:=#[75,75] },type:=75,pos:="pages.go:92",after:=#[{ on:=4,ground:=Ground.data },{ on:=6,ground:=Ground.data }],guard:=none }) (by kernel_rfl) (fun K hK=>?_) AllReadyH.nil
  refine step_append_lies _ rfl (.tmp 13) (.tmp 15) 75 rfl 0 82 ie _ 129 1032 Tryz.underlying75 HIE.out HIZ.out HIS.out HIB.out HZC.out (by decide) (.slice p n c) n _ rfl (HOW.out _ (by exact((Below.refl _ _).drew).alloc (Nat.le_refl _) _)) ⟨W8.heap.size,0,none⟩ 1 1 Y rfl HLN.out (World.news_of_block (heap_alloc_new _ _)) HON.out (by decide) HN63.out.1 HN63.out.2 (Nat.zero_le _) _ rfl ?_
  intro g2 cap w9 hrow hgr hor hlt
  have HT9:=Lib.hid (HGR.out _ w9 g2 cap (by exact((Below.refl _ _).drew).alloc (Nat.le_refl _) _) hrow hgr hor)
  have hr9:=HT9.out.2.2.1.trans HRO8.out
  have q9:=cell_of_row _ _ 1 _ _ _ hr9
  have fz9:=frozen_of_row _ _ 1 _ _ hr9
  simp at q9
  clear hrow hgr hor hlt hr9
  refine hK.out _ _ trivial (fun _=>?_)
  clear hK K
  try simp only [Act.put,List.setIfInBounds_toArray,List.set_cons_zero,List.set_cons_succ]
  refine wpAnyH_ready (rs:=[8]) (by kernel_rfl) (by simp) ?_
  refine AllReadyH.cons rfl (fun K hK=>?_) AllReadyH.nil
  go_simp
  refine hK.out _ _ trivial (fun _=>?_)
  clear hK K
  try simp only [Act.put,List.setIfInBounds_toArray,List.set_cons_zero,List.set_cons_succ]
  refine wpAnyH_ready (rs:=[9]) (by kernel_rfl) (by simp) ?_
  refine AllReadyH.cons rfl (fun K hK=>?_) AllReadyH.nil
  go_simp
  refine hK.out _ _ trivial (fun _=>?_)
  clear hK K
  try simp only [Act.put,List.setIfInBounds_toArray,List.set_cons_zero,List.set_cons_succ]
  refine wpAnyH_ready (rs:=[10]) (by kernel_rfl) (by simp) ?_
  refine AllReadyH.cons rfl (fun K hK=>?_) AllReadyH.nil
  go_simp
  refine hK.out _ _ trivial (fun _=>?_)
  clear hK K
  try simp only [Act.put,List.setIfInBounds_toArray,List.set_cons_zero,List.set_cons_succ]
  refine wpAnyH_done (by kernel_rfl) ?_ _
  have HV:=Lib.hid HT9.out.1
  have HCV:=Lib.hid HT9.out.2.1
  have HOV:=Lib.hid HT9.out.2.2.2
  clear HT9 q9 fz9
  generalize w9.setCell ⟨g,1,none⟩ (.slice (some ⟨g2,0,none⟩) (n+1) cap)=V at *
  have v0:=HV.out.st.c0
  have v1:=HV.out.st.c1
  have HWR4:=Lib.hid (HWR3.out V)
  have HHD4:=Lib.hid (HHD3.out V V.drew g2 cap HV.out (Below.refl _ _).drew)
  clear HWR3 HHD3
  generalize strB (pageT (headB (n+1) fun i=>grewF F n l (i*129)))=T3 at *
  go_wp2_with fail
  go_region_held3 (fun u:World=>u.cell? ⟨g,0,none⟩=some (.pointer (some ⟨sg,0,none⟩))∧u.cell? ⟨g,1,none⟩=some (.slice (some ⟨g2,0,none⟩) (n+1) cap)) ((first
    | with_reducible exact⟨v0,v1⟩
    | go_keep)) (first
   | (go_at_call 63;with_reducible refine HHD4.out.mono ?_;rintro e w10 ⟨rfl,hb10⟩;have HB10:=Lib.hid hb10;have v0:=(HV.out.below HB10.out).st.c0;have v1:=(HV.out.below HB10.out).st.c1)
   | (go_at_call 36;with_reducible refine(HWR4.out _ g2 cap HV.out HB10.out).mono ?_;rintro e w11 ⟨rfl,HE⟩;obtain⟨⟨s11,h11⟩,-⟩:=HE.out;have v0:=h11.st.c0;have v1:=h11.st.c1;clear h11))
  go_wp2_with fail
  go_end0
  exact⟨rfl,⟨_,_,HE.out.1.choose_spec,HOV.out⟩,HFIN.out V _ _ g2 HCV.out HB10.out HE.out.2⟩
 ·refine step_load_mid rfl 82 (.tmp 2) rfl w.heap.size 0 rfl Y _ (HRP.out _ rfl) Tryz.underlying82 rfl HSL.out ?_
  refine hK.out _ _ trivial (fun _=>?_)
  clear hK K
  try simp only [Act.put,List.setIfInBounds_toArray,List.set_cons_zero,List.set_cons_succ]
  refine wpAnyH_ready (rs:=[4,6]) (by kernel_rfl) (by simp) ?_
  refine AllReadyH.cons (o:={ dst:=some 13,op:=Op.load 75 (Operand.tmp 12),type:=75,pos:="pages.go:92",after:=#[{ on:=3,ground:=Ground.data }],guard:=none }) (by kernel_rfl) (fun K hK=>?_) (AllReadyH.cons (o:={ dst:=some 15,op:=Op.buildSlice 75 1 #[(0,Operand.tmp 14)],type:=75,pos:="pages.go:92",after:=#[{ on:=5,ground:=Ground.data }],guard:=none }) (by kernel_rfl) (fun K hK=>?_) AllReadyH.nil)
  ·go_simp
   refine hK.out _ _ trivial (fun _=>?_)
   clear hK K
   try simp only [Act.put,List.setIfInBounds_toArray,List.set_cons_zero,List.set_cons_succ]
   refine wpAnyH_ready (rs:=[6]) (by kernel_rfl) (by simp) ?_
   refine AllReadyH.cons (o:={ dst:=some 15,op:=Op.buildSlice 75 1 #[(0,Operand.tmp 14)],type:=75,pos:="pages.go:92",after:=#[{ on:=5,ground:=Ground.data }],guard:=none }) (by kernel_rfl) (fun K hK=>?_) AllReadyH.nil
   refine step_buildSlice rfl 75 82 1 #[(0,.tmp 14)] rfl Y.toArray ie _ Tryz.underlying75 HIE.out HIZ.out HNM.out.1 HNM.out.2 (Eq.trans (congrArg (Instr.fill (fun i=>some (i*ie.size,ie.size)) _) (by simp [go_sem])) HFP.out) ?_
   refine hK.out _ _ trivial (fun _=>?_)
   clear hK K
   try simp only [Act.put,List.setIfInBounds_toArray,List.set_cons_zero,List.set_cons_succ]
   refine wpAnyH_ready (rs:=[7]) (by kernel_rfl) (by simp) ?_
   refine AllReadyH.cons (o:={ dst:=some 16,op:=Op.call { callee:=Callee.builtin Builtin.append,args:=#[Operand.tmp 13,Operand.tmp 15],argTypes:=#[75,75] },type:=75,pos:="pages.go:92",after:=#[{ on:=4,ground:=Ground.data },{ on:=6,ground:=Ground.data }],guard:=none }) (by kernel_rfl) (fun K hK=>?_) AllReadyH.nil
   refine step_append_lies _ rfl (.tmp 13) (.tmp 15) 75 rfl 0 82 ie _ 129 1032 Tryz.underlying75 HIE.out HIZ.out HIS.out HIB.out HZC.out (by decide) (.slice p n c) n _ rfl (HOW.out _ (by exact((Below.refl _ _).drew).alloc (Nat.le_refl _) _)) ⟨W8.heap.size,0,none⟩ 1 1 Y rfl HLN.out (World.news_of_block (heap_alloc_new _ _)) HON.out (by decide) HN63.out.1 HN63.out.2 (Nat.zero_le _) _ rfl ?_
   intro g2 cap w9 hrow hgr hor hlt
   have HT9:=Lib.hid (HGR.out _ w9 g2 cap (by exact((Below.refl _ _).drew).alloc (Nat.le_refl _) _) hrow hgr hor)
   have hr9:=HT9.out.2.2.1.trans HRO8.out
   have q9:=cell_of_row _ _ 1 _ _ _ hr9
   have fz9:=frozen_of_row _ _ 1 _ _ hr9
   simp at q9
   clear hrow hgr hor hlt hr9
   refine hK.out _ _ trivial (fun _=>?_)
   clear hK K
   try simp only [Act.put,List.setIfInBounds_toArray,List.set_cons_zero,List.set_cons_succ]
   refine wpAnyH_ready (rs:=[8]) (by kernel_rfl) (by simp) ?_
   refine AllReadyH.cons rfl (fun K hK=>?_) AllReadyH.nil
   go_simp
   refine hK.out _ _ trivial (fun _=>?_)
   clear hK K
   try simp only [Act.put,List.setIfInBounds_toArray,List.set_cons_zero,List.set_cons_succ]
   refine wpAnyH_ready (rs:=[9]) (by kernel_rfl) (by simp) ?_
   refine AllReadyH.cons rfl (fun K hK=>?_) AllReadyH.nil
   go_simp
   refine hK.out _ _ trivial (fun _=>?_)
   clear hK K
   try simp only [Act.put,List.setIfInBounds_toArray,List.set_cons_zero,List.set_cons_succ]
   refine wpAnyH_ready (rs:=[10]) (by kernel_rfl) (by simp) ?_
   refine AllReadyH.cons rfl (fun K hK=>?_) AllReadyH.nil
   go_simp
   refine hK.out _ _ trivial (fun _=>?_)
   clear hK K
   try simp only [Act.put,List.setIfInBounds_toArray,List.set_cons_zero,List.set_cons_succ]
   refine wpAnyH_done (by kernel_rfl) ?_ _
   have HV:=Lib.hid HT9.out.1
   have HCV:=Lib.hid HT9.out.2.1
   have HOV:=Lib.hid HT9.out.2.2.2
   clear HT9 q9 fz9
   generalize w9.setCell ⟨g,1,none⟩ (.slice (some ⟨g2,0,none⟩) (n+1) cap)=V at *
   have v0:=HV.out.st.c0
   have v1:=HV.out.st.c1
   have HWR4:=Lib.hid (HWR3.out V)
   have HHD4:=Lib.hid (HHD3.out V V.drew g2 cap HV.out (Below.refl _ _).drew)
   clear HWR3 HHD3
   generalize strB (pageT (headB (n+1) fun i=>grewF F n l (i*129)))=T3 at *
   go_wp2_with fail
   go_region_held3 (fun u:World=>u.cell? ⟨g,0,none⟩=some (.pointer (some ⟨sg,0,none⟩))∧u.cell? ⟨g,1,none⟩=some (.slice (some ⟨g2,0,none⟩) (n+1) cap)) ((first
     | with_reducible exact⟨v0,v1⟩
     | go_keep)) (first
    | (go_at_call 63;with_reducible refine HHD4.out.mono ?_;rintro e w10 ⟨rfl,hb10⟩;have HB10:=Lib.hid hb10;have v0:=(HV.out.below HB10.out).st.c0;have v1:=(HV.out.below HB10.out).st.c1)
    | (go_at_call 36;with_reducible refine(HWR4.out _ g2 cap HV.out HB10.out).mono ?_;rintro e w11 ⟨rfl,HE⟩;obtain⟨⟨s11,h11⟩,-⟩:=HE.out;have v0:=h11.st.c0;have v1:=h11.st.c1;clear h11))
   go_wp2_with fail
   go_end0
   exact⟨rfl,⟨_,_,HE.out.1.choose_spec,HOV.out⟩,HFIN.out V _ _ g2 HCV.out HB10.out HE.out.2⟩
  ·refine step_buildSlice rfl 75 82 1 #[(0,.tmp 14)] rfl Y.toArray ie _ Tryz.underlying75 HIE.out HIZ.out HNM.out.1 HNM.out.2 (Eq.trans (congrArg (Instr.fill (fun i=>some (i*ie.size,ie.size)) _) (by simp [go_sem])) HFP.out) ?_
   refine hK.out _ _ trivial (fun _=>?_)
   clear hK K
   try simp only [Act.put,List.setIfInBounds_toArray,List.set_cons_zero,List.set_cons_succ]
   refine wpAnyH_ready (rs:=[4]) (by kernel_rfl) (by simp) ?_
   refine AllReadyH.cons (o:={ dst:=some 13,op:=Op.load 75 (Operand.tmp 12),type:=75,pos:="pages.go:92",after:=#[{ on:=3,ground:=Ground.data }],guard:=none }) (by kernel_rfl) (fun K hK=>?_) AllReadyH.nil
   go_simp
   refine hK.out _ _ trivial (fun _=>?_)
   clear hK K
   try simp only [Act.put,List.setIfInBounds_toArray,List.set_cons_zero,List.set_cons_succ]
   refine wpAnyH_ready (rs:=[7]) (by kernel_rfl) (by simp) ?_
   refine AllReadyH.cons (o:={ dst:=some 16,op:=Op.call { callee:=Callee.builtin Builtin.append,args:=#[Operand.tmp 13,Operand.tmp 15],argTypes:=#[75,75] },type:=75,pos:="pages.go:92",after:=#[{ on:=4,ground:=Ground.data },{ on:=6,ground:=Ground.data }],guard:=none }) (by kernel_rfl) (fun K hK=>?_) AllReadyH.nil
   refine step_append_lies _ rfl (.tmp 13) (.tmp 15) 75 rfl 0 82 ie _ 129 1032 Tryz.underlying75 HIE.out HIZ.out HIS.out HIB.out HZC.out (by decide) (.slice p n c) n _ rfl (HOW.out _ (by exact((Below.refl _ _).drew).alloc (Nat.le_refl _) _)) ⟨W8.heap.size,0,none⟩ 1 1 Y rfl HLN.out (World.news_of_block (heap_alloc_new _ _)) HON.out (by decide) HN63.out.1 HN63.out.2 (Nat.zero_le _) _ rfl ?_
   intro g2 cap w9 hrow hgr hor hlt
   have HT9:=Lib.hid (HGR.out _ w9 g2 cap (by exact((Below.refl _ _).drew).alloc (Nat.le_refl _) _) hrow hgr hor)
   have hr9:=HT9.out.2.2.1.trans HRO8.out
   have q9:=cell_of_row _ _ 1 _ _ _ hr9
   have fz9:=frozen_of_row _ _ 1 _ _ hr9
   simp at q9
   clear hrow hgr hor hlt hr9
   refine hK.out _ _ trivial (fun _=>?_)
   clear hK K
   try simp only [Act.put,List.setIfInBounds_toArray,List.set_cons_zero,List.set_cons_succ]
   refine wpAnyH_ready (rs:=[8]) (by kernel_rfl) (by simp) ?_
   refine AllReadyH.cons rfl (fun K hK=>?_) AllReadyH.nil
   go_simp
   refine hK.out _ _ trivial (fun _=>?_)
   clear hK K
   try simp only [Act.put,List.setIfInBounds_toArray,List.set_cons_zero,List.set_cons_succ]
   refine wpAnyH_ready (rs:=[9]) (by kernel_rfl) (by simp) ?_
   refine AllReadyH.cons rfl (fun K hK=>?_) AllReadyH.nil
   go_simp
   refine hK.out _ _ trivial (fun _=>?_)
   clear hK K
   try simp only [Act.put,List.setIfInBounds_toArray,List.set_cons_zero,List.set_cons_succ]
   refine wpAnyH_ready (rs:=[10]) (by kernel_rfl) (by simp) ?_
   refine AllReadyH.cons rfl (fun K hK=>?_) AllReadyH.nil
   go_simp
   refine hK.out _ _ trivial (fun _=>?_)
   clear hK K
   try simp only [Act.put,List.setIfInBounds_toArray,List.set_cons_zero,List.set_cons_succ]
   refine wpAnyH_done (by kernel_rfl) ?_ _
   have HV:=Lib.hid HT9.out.1
   have HCV:=Lib.hid HT9.out.2.1
   have HOV:=Lib.hid HT9.out.2.2.2
   clear HT9 q9 fz9
   generalize w9.setCell ⟨g,1,none⟩ (.slice (some ⟨g2,0,none⟩) (n+1) cap)=V at *
   have v0:=HV.out.st.c0
   have v1:=HV.out.st.c1
   have HWR4:=Lib.hid (HWR3.out V)
   have HHD4:=Lib.hid (HHD3.out V V.drew g2 cap HV.out (Below.refl _ _).drew)
   clear HWR3 HHD3
   generalize strB (pageT (headB (n+1) fun i=>grewF F n l (i*129)))=T3 at *
   go_wp2_with fail
   go_region_held3 (fun u:World=>u.cell? ⟨g,0,none⟩=some (.pointer (some ⟨sg,0,none⟩))∧u.cell? ⟨g,1,none⟩=some (.slice (some ⟨g2,0,none⟩) (n+1) cap)) ((first
     | with_reducible exact⟨v0,v1⟩
     | go_keep)) (first
    | (go_at_call 63;with_reducible refine HHD4.out.mono ?_;rintro e w10 ⟨rfl,hb10⟩;have HB10:=Lib.hid hb10;have v0:=(HV.out.below HB10.out).st.c0;have v1:=(HV.out.below HB10.out).st.c1)
    | (go_at_call 36;with_reducible refine(HWR4.out _ g2 cap HV.out HB10.out).mono ?_;rintro e w11 ⟨rfl,HE⟩;obtain⟨⟨s11,h11⟩,-⟩:=HE.out;have v0:=h11.st.c0;have v1:=h11.st.c1;clear h11))
   go_wp2_with fail
   go_end0
   exact⟨rfl,⟨_,_,HE.out.1.choose_spec,HOV.out⟩,HFIN.out V _ _ g2 HCV.out HB10.out HE.out.2⟩
end
end
section
set_option maxRecDepth 20000
open Go.RowKit
theorem spsB_congr {f g:Nat→Nat}:∀ {n},(∀i,i<n→f i=g i)→spsB f n=spsB g n
 | 0,_=>rfl
 | n+1,h=>by show spsB f n++be 4 (f n)=spsB g n++be 4 (g n);rw [spsB_congr (fun i hi=>h i (by omega)),h n (by omega)]
theorem partB_congr {F F':Nat→Nat} {i:Nat} (h:∀j,j<128→F (i*129+1+j)=F' (i*129+1+j)):partB F i=partB F' i:=by
 unfold partB;rw [spsB_congr h]
theorem partB_zero {F:Nat→Nat} {i:Nat} (h:∀j,j<128→F (i*129+1+j)=0):partB F i=zpart:=by
 unfold partB zpart;rw [spsB_congr (g:=fun _=>0) h]
def sg (F:Nat→Nat) (n X i:Nat):Nat:=if i<n*128 then spF F i else if i=8192 then X else 0
def ThOk (d ps:List Nat):Prop:=d.length≤16384∧(∀x∈d,x<256)∧ps.length=pagesForN d.length
structure Stm (y:Nat→List Nat) (n:Nat) (F:Nat→Nat) (X:Nat) (q:Nat→Option (List Sl.Sl)) (T:Nat→Option (List Nat × List Nat)) (U:Nat→Nat):Prop where
 n64:n≤64
 live:∀l,l<512→(nn y l=true↔U l≠0)
 hi:∀l,512≤l→U l=0
 hd:U 0=2∧y 0=pageT (headB n fun i=>F (i*129))
 pt:∀i,i<n→U (F (i*129))=4+2*i∧y (F (i*129))=partB F i
 rc:∀l sl,q l=some sl→U l=3∧y l=Sl.bytesM sl∧Sl.Okp sl∧sl≠[]
 sp:∀i,sg F n X i≠0→∃d ps sl,T i=some (d,ps)∧q ((sg F n X i - 1) / 64)=some sl∧Sl.slot sl ((sg F n X i - 1) % 64)=some (strB (recB d ps))∧ThOk d ps ∧
  ∀j,j<ps.length→U (ps.getD j 0)=5+2*(i*64+j)∧y (ps.getD j 0)=chkB d j
 no:∀i,sg F n X i=0→T i=none
 inj:∀i j,sg F n X i=sg F n X j→sg F n X i≠0→i=j
 all:∀l sl k,q l=some sl→(Sl.slot sl k).isSome=true→∃i,sg F n X i=l*64+k+1
 back:∀l,U l=0∨U l=1∨l=0∨(∃i,i<n∧l=F (i*129))∨(q l).isSome=true∨∃i d ps j,T i=some (d,ps)∧j<ps.length∧l=ps.getD j 0
section
variable {y:Nat→List Nat} {n:Nat} {F:Nat→Nat} {X:Nat} {q:Nat→Option (List Sl.Sl)} {T:Nat→Option (List Nat × List Nat)} {U:Nat→Nat}
theorem Stm.lt (h:Stm y n F X q T U) {l:Nat} (hl:U l≠0):l<512:=Nat.lt_of_not_le fun e=>hl (h.hi l e)
theorem Stm.fl (h:Stm y n F X q T U) {i:Nat} (hi:i<n):F (i*129)<512:=h.lt (by rw [(h.pt i hi).1];omega)
theorem Stm.ql (h:Stm y n F X q T U) {l:Nat} {sl:List Sl.Sl} (hq:q l=some sl):l<512:=h.lt (by rw [(h.rc l sl hq).1];omega)
theorem Stm.spl (h:Stm y n F X q T U) (i:Nat):sg F n X i≤32768:=by
 by_cases e:sg F n X i=0
 ·omega
 ·obtain⟨d,ps,sl,_,hq,hs,_⟩:=h.sp i e
  have:=h.ql hq
  omega
theorem spF_cell {F:Nat→Nat} {n j:Nat} (h0:j % 129≠0) (hj:j<n*129):∃i,i<n*128∧F j=spF F i:=by
 refine⟨j / 129*128+(j % 129 - 1),by omega,?_⟩
 unfold spF
 congr 1
 omega
theorem Stm.cells (h:Stm y n F X q T U) (j:Nat) (hj:j<n*129):F j≤32768:=by
 by_cases h0:j % 129=0
 ·have:=h.fl (i:=j / 129) (by omega)
  rw [show j / 129*129=j by omega] at this
  omega
 ·obtain⟨i,hi,e⟩:=spF_cell (F:=F) h0 hj
  rw [e]
  have:=h.spl i
  unfold sg at this
  rw [if_pos hi] at this
  exact this
theorem Stm.other (h:Stm y n F X q T U) {l:Nat} (hl:l<512) (h0:U l=0) (t:List Nat) (ht:t≠[]) :
  Stm (fun p=>if p=l then t else y p) n F X q T (fun p=>if p=l then 1 else U p):=by
 have hne:∀ {p},U p≠0→p≠l:=fun hp e=>hp (by rw [e,h0])
 refine⟨h.n64,fun p hp=>?_,fun p hp=>?_,⟨?_,?_⟩,fun i hi=>?_,fun p sl hq=>?_,fun i hi=>?_,h.no,h.inj,h.all,fun p=>?_⟩
 ·by_cases e:p=l
  ·rw [nn_iff];simp [e,ht]
  ·have:=h.live p hp
   rw [nn_iff] at this ⊢
   simp only [e,if_false]
   exact this
 ·show (if p=l then 1 else U p)=0
  rw [if_neg (by omega)];exact h.hi p hp
 ·show (if 0=l then 1 else U 0)=2
  rw [if_neg (hne (by rw [h.hd.1];omega))];exact h.hd.1
 ·show (if 0=l then t else y 0)=_
  rw [if_neg (hne (by rw [h.hd.1];omega))];exact h.hd.2
 ·have e:=hne (p:=F (i*129)) (by rw [(h.pt i hi).1];omega)
  refine⟨?_,?_⟩
  ·show (if F (i*129)=l then 1 else U (F (i*129)))=_
   rw [if_neg e];exact(h.pt i hi).1
  ·show (if F (i*129)=l then t else y (F (i*129)))=_
   rw [if_neg e];exact(h.pt i hi).2
 ·obtain⟨a1,a2,a3⟩:=h.rc p sl hq
  have e:=hne (p:=p) (by rw [a1];omega)
  exact⟨(if_neg e).trans a1,(if_neg e).trans a2,a3⟩
 ·obtain⟨d,ps,sl,a1,a2,a3,a4,a5⟩:=h.sp i hi
  refine⟨d,ps,sl,a1,a2,a3,a4,fun j hj=>?_⟩
  have e:=hne (p:=ps.getD j 0) (by rw [(a5 j hj).1];omega)
  exact⟨(if_neg e).trans (a5 j hj).1,(if_neg e).trans (a5 j hj).2⟩
 ·by_cases e:p=l
  ·right;left;show (if p=l then 1 else U p)=1;rw [if_pos e]
  ·simp only [if_neg e];exact h.back p
theorem spF_grew {F:Nat→Nat} {n l i:Nat}:spF (grewF F n l) i=if i<n*128 then spF F i else 0:=by
 unfold spF grewF
 by_cases e:i<n*128
 ·rw [if_pos e,if_pos (by omega)]
 ·rw [if_neg e,if_neg (by omega),if_neg (by omega)]
theorem sg_grew {F:Nat→Nat} {n l X i:Nat} (hn:n<64):sg (grewF F n l) (n+1) X i=sg F n X i:=by
 unfold sg
 rw [spF_grew]
 by_cases e:i<n*128
 ·rw [if_pos (by omega),if_pos e,if_pos e]
 ·rw [if_neg e,if_neg e]
  by_cases e2:i<(n+1)*128
  ·rw [if_pos e2,if_neg (by omega)]
  ·rw [if_neg e2]
theorem grew_page {F:Nat→Nat} {n l i:Nat} (h:i<n+1):grewF F n l (i*129)=if i=n then l else F (i*129):=by
 unfold grewF
 by_cases e:i=n
 ·rw [if_pos e,if_neg (by omega),if_pos (by rw [e])]
 ·rw [if_neg e,if_pos (by omega)]
theorem head_ne (n:Nat) (f:Nat→Nat):pageT (headB n f)≠[]:=by
 unfold pageT headB;simp
theorem Stm.grow (h:Stm y n F X q T U) (hn:n<64) {l:Nat} (hl:l<512) (h0:U l=0) :
  Stm (fun p=>if p=0 then pageT (headB (n+1) fun i=>grewF F n l (i*129)) else if p=l then zpart else y p) (n+1) (grewF F n l) X q T (fun p=>if p=l then 4+2*n else U p):=by
 have hne:∀ {p},U p≠0→p≠l:=fun hp e=>hp (by rw [e,h0])
 have hl0:l≠0:=fun e=>by rw [e,h.hd.1] at h0;cases h0
 have hz:∀ {p},U p≠2→p≠0:=fun hp e=>hp (by rw [e];exact h.hd.1)
 have hyy:∀ {p},U p≠0→U p≠2→(if p=0 then pageT (headB (n+1) fun i=>grewF F n l (i*129)) else if p=l then zpart else y p)=y p:=fun a b=>by rw [if_neg (hz b),if_neg (hne a)]
 have hUU:∀ {p},U p≠0→(if p=l then 4+2*n else U p)=U p:=fun a=>if_neg (hne a)
 refine⟨hn,fun p hp=>?_,fun p hp=>?_,⟨?_,?_⟩,fun i hi=>?_,fun p sl hq=>?_,fun i hi=>?_,fun i hi=>?_,fun i j e hi=>?_,fun p sl k hq hs=>?_,fun p=>?_⟩
 ·rw [nn_iff]
  show (if p=0 then _ else if p=l then zpart else y p)≠[]↔(if p=l then 4+2*n else U p)≠0
  by_cases e0:p=0
  ·rw [if_pos e0,if_neg (by omega),e0,h.hd.1]
   exact⟨fun _=>by omega,fun _=>head_ne _ _⟩
  ·rw [if_neg e0]
   by_cases e:p=l
   ·rw [if_pos e,if_pos e]
    exact⟨fun _=>by omega,fun _ e2=>by have:=zpart_ok.1;rw [e2] at this;cases this⟩
   ·rw [if_neg e,if_neg e,←nn_iff];exact h.live p hp
 ·show (if p=l then 4+2*n else U p)=0
  rw [if_neg (by omega)];exact h.hi p hp
 ·show (if 0=l then _ else U 0)=2
  rw [if_neg (by omega)];exact h.hd.1
 ·rfl
 ·rw [grew_page hi]
  by_cases e:i=n
  ·rw [if_pos e]
   refine⟨by show (if l=l then _ else _)=_;rw [if_pos rfl,e],?_⟩
   show (if l=0 then _ else if l=l then zpart else y l)=_
   rw [if_neg hl0,if_pos rfl,partB_zero]
   intro j hj
   unfold grewF
   rw [if_neg (by omega),if_neg (by omega)]
  ·rw [if_neg e]
   obtain⟨a1,a2⟩:=h.pt i (by omega)
   refine⟨(hUU (by rw [a1];omega)).trans a1,?_⟩
   show (if F (i*129)=0 then _ else if F (i*129)=l then zpart else y (F (i*129)))=_
   rw [hyy (by rw [a1];omega) (by rw [a1];omega),a2]
   refine partB_congr fun j hj=>?_
   unfold grewF
   rw [if_pos (by omega)]
 ·obtain⟨a1,a2,a3⟩:=h.rc p sl hq
  refine⟨(hUU (by rw [a1];omega)).trans a1,(hyy (by rw [a1];omega) (by rw [a1];omega)).trans a2,a3⟩
 ·rw [sg_grew hn] at hi ⊢
  obtain⟨d,ps,sl,a1,a2,a3,a4,a5⟩:=h.sp i hi
  refine⟨d,ps,sl,a1,a2,a3,a4,fun j hj=>?_⟩
  obtain⟨b1,b2⟩:=a5 j hj
  exact⟨(hUU (by rw [b1];omega)).trans b1,(hyy (by rw [b1];omega) (by rw [b1];omega)).trans b2⟩
 ·rw [sg_grew hn] at hi;exact h.no i hi
 ·rw [sg_grew hn] at e hi
  rw [sg_grew hn] at e
  exact h.inj i j e hi
 ·obtain⟨i,e⟩:=h.all p sl k hq hs
  exact⟨i,by rw [sg_grew hn];exact e⟩
 ·by_cases e:p=l
  ·right;right;right;left
   exact⟨n,by omega,by rw [grew_page (by omega),if_pos rfl];exact e⟩
  ·simp only [if_neg e]
   rcases h.back p with a | a | a | ⟨i,hi,a⟩ | a | a
   ·exact .inl a
   ·exact .inr (.inl a)
   ·exact .inr (.inr (.inl a))
   ·exact .inr (.inr (.inr (.inl ⟨i,by omega,by rw [grew_page (by omega),if_neg (by omega)];exact a⟩)))
   ·exact .inr (.inr (.inr (.inr (.inl a))))
   ·exact .inr (.inr (.inr (.inr (.inr a))))
end
end
end Go.Proofs.YtmbecjlioogbhaaGreatDoor
