/- Texts PCol to PSort of this seat, laid into one. -/
import Derived.OwnWalkIn
import Derived.Laws.EntriesVeiled
import Derived.Shelf.SlIterI.Sorted
import Derived.Shelf.SlIterI.Keys
import Derived.Shelf.Sort.Plain
import Derived.Shelf.Slices.In.SortNone
import Derived.Test.YtmbecjlioogbhaaGreatDoorM11
import Derived.Test.YtmbecjlioogbhaaGreatDoorM12
set_option linter.unusedVariables false
set_option linter.unusedSimpArgs false
set_option linter.constructorNameAsVariable false
section
set_option maxRecDepth 20000
namespace Go.Proofs.YtmbecjlioogbhaaGreatDoor
open Go.RowKit Go.Shelf
attribute [local go_sem] Oper.semAt_some
def ColAt (B0 Bs:Nat) (pre:List Nat) (W:World):Prop:=∃v,W.heap[Bs]?=some (.cells #[v] 47 (0,0))∧OwnI W B0 v pre
theorem ColAt.own (B0 Bs:Nat):Own (ColAt B0 Bs):=fun s W W' row hs hg hr=>by
 obtain⟨v,hv,ho⟩:=hs
 refine⟨v,(hg.block Bs (lt_of_block hv) (fun e=>?_)).trans hv,ho.kept hg ?_⟩
 ·obtain⟨o,h1,h2⟩:=hr Bs e.symm
  rw [hv] at h1;cases h1;cases h2
 ·rcases ho.2 with ⟨rfl,_⟩ | ⟨g,cap,cur,rfl,_,hgb,_⟩
  ·exact .inl rfl
  ·refine .inr fun e=>?_
   obtain⟨o,h1,h2⟩:=hr g e.symm
   rw [hgb] at h1;cases h1;cases h2
set_option maxRecDepth 100000 in
set_option maxHeartbeats 3200000 in
theorem seq_free {w:World} {B1 B2 g gh bh pg:Nat} {r:Rt} {held:Nat→Bool} (hF:FrK w B1 B2 g gh bh r held) (hr:r.pg=(pg:Int)) (hpg:pg≤512) :
  Calls Tryz.prog 172 #[.slice none 0 0,.func (.func 170) #[] #[.pointer (some ⟨B1,0,none⟩),.pointer (some ⟨B2,0,none⟩)]] w fun e w'=>(∃v,e = .returned v∧OwnI w' w.heap.size v (Tb.mems (frB held) pg))∧Below w.heap.size w w':=by
 obtain⟨i0,hi,hz0,hz1,hz2⟩:=info_parts Tb.Tryz.info3
 have HI:=Lib.hid hi
 have HZ0:=Lib.hid hz0
 have HZ1:=Lib.hid hz1
 have HZ2:=Lib.hid hz2
 have HF:=Lib.hid hF
 have HL:=Lib.hid hF.lt
 clear hi hz0 hz1 hz2 hF
 refine(callsIn_wide (n:=5)).1 ?_
 refine callsIn_of_wp_marks Tryz.func172 rfl trivial ?_ rfl
 simp only [Tryz.ntmps172,List.size_toArray,List.length_cons,List.length_nil,Nat.reduceAdd,Nat.reduceSub,Array.replicate_succ,Array.replicate_zero,List.push_toArray,List.append_toArray,List.nil_append,List.cons_append]
 gi_wp2
 have hb1:=alloc_below w (.cells #[.slice none 0 0] 47)
 have hv0:(w.alloc (.cells #[.slice none 0 0] 47)).heap[w.heap.size]?=some (.cells #[.slice none 0 0] 47 (0,0)):=heap_alloc_new w _
 have hF1:=HF.out.keep (Keep.of_below hb1 HL.out)
 have hsz:w.heap.size<(w.alloc (.cells #[.slice none 0 0] 47)).heap.size:=by simp
 generalize w.alloc (.cells #[.slice none 0 0] 47)=w7 at *
 have hL:∀k∈[B1,B2,g,gh,bh],k≠w.heap.size:=fun k hk=>by have:=HL.out k hk;omega
 have HLT:=Lib.hid hF1.lt
 refine wpIn_rangeFunc_ownG rfl (by omega) (gf:=170) (lb:=#[.pointer (some ⟨B1,0,none⟩),.pointer (some ⟨B2,0,none⟩)]) rfl trivial (enters_of Tryz.func170 (by kernel_rfl) rfl)
  (free_stops 4 (by omega) B1 B2 g gh bh pg r hr hpg held w7 hF1) Keep.trans (Keep.put HLT.out) (Below.refl _ _) (fun _=>rfl)
  (fun pre W=>ColAt w.heap.size w.heap.size pre W∧Below w.heap.size w W)
  (fun _ _ _=>False)
  (OwnFrom.and (Own.from (ColAt.own _ _) _) (ownFrom_below (by omega) (by omega)))
  (fun c=>ownFrom_pure _ _)
  ⟨⟨_,hv0,World.ownsRow_nil _ _ _ _⟩,hb1⟩
  (fun x=>{ tmps:=#[.slice none 0 0,.func (.func 170) #[] #[.pointer (some ⟨B1,0,none⟩),.pointer (some ⟨B2,0,none⟩)],.pointer (some ⟨w.heap.size,0,none⟩),undef,.slice none 0 0,.int .i64 (x:Int),.func (.func 170) #[] #[.pointer (some ⟨B1,0,none⟩),.pointer (some ⟨B2,0,none⟩)],.int .i64 (x:Int),undef,undef,undef,undef,undef],defers:=[] }) ?assign ?body ?done ?stop
 case assign=>
  intro l x W K hK
  gi_wp2
  first
   | exact hK
   | (simp;exact hK)
 case body=>
  rintro l pre x W ⟨⟨v,hv,ho⟩,hB2⟩ hlen
  have c0:W.cell? ⟨w.heap.size,0,none⟩=some v:=by rw [cell_of_row _ _ _ _ _ _ hv];rfl
  have f0:W.frozen? ⟨w.heap.size,0,none⟩=false:=frozen_of_row _ _ 0 _ _ hv
  have HO:=Lib.hid ho
  have HV:=Lib.hid hv
  have HB2:=Lib.hid hB2
  have HLN:=Lib.hid hlen
  clear hv ho hB2 hlen
  gi_wp2_with (first
   | (
     gi_at_builtin;refine wpListIn_append_own _ rfl _ _ 47 rfl w.heap.size 3 i0 (.int .i64 0) 1 8 Tryz.underlying47 HI.out HZ0.out HZ1.out HZ2.out rfl (by decide) _ _ _ rfl (World.ownsRow.alloc HO.out _) ⟨W.heap.size,0,none⟩ 1 1 [.int .i64 (x:Int)] rfl rfl (cell_one_new W _ _) ?c2 ?c3 ?c4 ?c5 ?_
     case c2=>intro u hu;simp at hu;subst hu;rfl
     case c3=>unfold maxLen;have:=HLN.out;omega
     case c4=>have:=HLN.out;omega
     case c5=>have:=HB2.out.size;simp;omega
     intro v' W3 hown hg3 _
     have hne:some w.heap.size≠v.ownBlock:=fun e=>by
      rcases HO.out.2 with ⟨rfl,_⟩ | ⟨g1,cap1,cur1,rfl,_,hgb,_⟩
      ·cases e
      ·have e2:w.heap.size=g1:=by simpa [Value.ownBlock] using e
       rw [←e2,HV.out] at hgb
       cases hgb
     have hb4:w.heap.size<W.heap.size:=lt_of_block HV.out
     have hv3:W3.heap[w.heap.size]?=some (.cells #[v] 47 (0,0)):=(hg3.block _ (by simp;omega) hne).trans (((alloc_below W _).block _ hb4).trans HV.out)
     have HB3:=Lib.hid ((HB2.out.alloc HB2.out.size (.cells #[.int .i64 (x:Int)] 3)).grown hg3 (by have:=HB2.out.size;simp;omega) (fun j e=>(World.ownsRow.lt HO.out j e).1))
     have HKW:Hid (KeepsOthers W W3):=Lib.hid ((KeepsOthers.alloc W (.cells #[.int .i64 (x:Int)] 3)).trans (KeepsOthers.of_grownBy hg3 (fun j o e ho=>by
      rcases (World.ownsRow.alloc HO.out (.cells #[.int .i64 (x:Int)] 3)).2 with ⟨rfl,_⟩ | ⟨g1,cap1,cur1,rfl,_,hgb,_⟩
      ·cases e
      ·have e1:(some g1:Option Nat)=some j:=e
       have e2:g1=j:=by simpa using e1
       rw [←e2,hgb] at ho
       cases ho;rfl)))
     have HKK:Hid (Keep [B1,B2,g,gh,bh] W W3):=Lib.hid (fun k hk=>by
      have hk1:=HL.out k hk
      exact(hg3.block k (by have:=HB2.out.size;simp;omega) (fun e=>by have:=(World.ownsRow.lt HO.out k e.symm).1;omega)).trans ((alloc_below W _).block k (by have:=HB2.out.size;omega)))
     have HOW:=Lib.hid hown
     obtain⟨g',cap',rfl⟩:∃g' cap',v' = .slice (some ⟨g',0,none⟩) (pre.length+1) cap':=by
      rcases hown.2 with ⟨_,h0⟩ | ⟨g1,cap1,cur1,rfl,_⟩
      ·omega
      ·exact⟨_,_,rfl⟩
     clear hown hg3 hne hb4
     have c3:W3.cell? ⟨w.heap.size,0,none⟩=some v:=by rw [cell_of_row _ _ _ _ _ _ hv3];rfl
     have f3:W3.frozen? ⟨w.heap.size,0,none⟩=false:=frozen_of_row _ _ 0 _ _ hv3
     )
   | fail)
  refine⟨(HKW.out.trans (KeepsOthers.setCell _ _ _)).from _,HKK.out.trans (Keep.setCell hL _ _),⟨_,heap_setCell_same _ w.heap.size 0 _ 47 _ hv3,?_⟩,HB3.out.setCell (p:=⟨w.heap.size,0,none⟩) (Nat.le_refl _) _⟩
  have h1:=HOW.out.kept (grownBy_setCell' W3 w.heap.size (.slice (some ⟨g',0,none⟩) (pre.length+1) cap')) (.inr (fun e=>by
   rcases HOW.out.2 with ⟨_,h0⟩ | ⟨g1,cap1,cur1,e1,_,hgb,_⟩
   ·omega
   ·have e2:g'=w.heap.size:=by simpa [Value.ownBlock] using e
    have e3:g'=g1:=by simpa using (Value.slice.inj e1).1
    rw [←e3,e2,hv3] at hgb
    cases hgb))
  unfold OwnI
  rw [List.length_append,show Tb.ivs (pre++[x])=Tb.ivs pre++[.int .i64 (x:Int)] by unfold Tb.ivs;rw [List.map_append];rfl]
  exact h1
 case done=>
  rintro D ys W hD rfl ⟨⟨v,hv,ho⟩,hB2⟩ hK
  have c0:W.cell? ⟨w.heap.size,0,none⟩=some v:=by rw [cell_of_row _ _ _ _ _ _ hv];rfl
  have HO:=Lib.hid ho
  have HV:=Lib.hid hv
  have HB2:=Lib.hid (hB2.trans (belowK_b (w:=w) (Nat.le_refl _) W D _ (.deferred none) (by omega) hK rfl rfl))
  have HK:=Lib.hid hK
  clear hB2 hK hv ho
  gi_wp2
  refine⟨by simp,.inl ⟨_,_,rfl,run_takeDeferred HK.out,?_⟩⟩
  refine⟨v,?_,⟨v,rfl,?_⟩,HB2.out⟩
  ·simp [results,Tryz.f172,go_sem]
  ·exact HO.out.kept (grownBy_putObj' W D (.deferred none)) (by
    rcases HO.out.2 with ⟨rfl,_⟩ | ⟨g1,cap1,cur1,rfl,_,hgb,_⟩
    ·exact .inl rfl
    ·refine .inr fun e=>?_
     have e2:g1=D:=by simpa [Value.ownBlock] using e
     rw [e2,HK.out] at hgb
     cases hgb)
 case stop=>
  rintro D c pre W _ _ h
  exact h.elim
theorem collect_free {w:World} {B1 B2 g gh bh pg:Nat} {r:Rt} {held:Nat→Bool} (hF:FrK w B1 B2 g gh bh r held) (hr:r.pg=(pg:Int)) (hpg:pg≤512) :
  Calls Tryz.prog 135 #[.func (.func 170) #[] #[.pointer (some ⟨B1,0,none⟩),.pointer (some ⟨B2,0,none⟩)]] w fun e w'=>(∃v,e = .returned v∧OwnI w' w.heap.size v (Tb.mems (frB held) pg))∧Below w.heap.size w w':=by
 have HS:=Lib.hid (seq_free hF hr hpg)
 clear hF
 go_enter Tryz.func135,Tryz.ntmps135
 go_wp2_with (go_at_call 172;refine HS.out.mono ?_;rintro e w7 ⟨⟨v,rfl,hO⟩,hb⟩)
 go_ret
 exact⟨⟨v,rfl,hO⟩,hb⟩
end Go.Proofs.YtmbecjlioogbhaaGreatDoor
end
section
set_option maxRecDepth 20000
namespace Go.Proofs.YtmbecjlioogbhaaGreatDoor
open Go.RowKit
structure FreeAt (W:World) (B bf o c:Nat) (L:List Nat):Prop where
 box:W.heap[B]?=some (.cells #[.slice (some ⟨bf,o,none⟩) L.length c] 47 (0,0))
 le:L.length≤c∧o+c≤9223372036854775807
 row:∃cs,W.heap[bf]?=some (.cells cs 3 (0,0))∧∀i,i<L.length→cs[o+i]?=some (.int .i64 ((L.getD i 0:Nat):Int))
theorem FreeAt.keep {W W':World} {B bf o c:Nat} {L:List Nat} (h:FreeAt W B bf o c L) (h1:W'.heap[B]?=W.heap[B]?) (h2:W'.heap[bf]?=W.heap[bf]?):FreeAt W' B bf o c L:=
 ⟨h1.trans h.box,h.le,by obtain⟨cs,hc,hr⟩:=h.row;exact⟨cs,h2.trans hc,hr⟩⟩
theorem FreeAt.lt {W:World} {B bf o c:Nat} {L:List Nat} (h:FreeAt W B bf o c L):B<W.heap.size∧bf<W.heap.size:=⟨lt_of_block h.box,by obtain⟨cs,hc,_⟩:=h.row;exact lt_of_block hc⟩
theorem FreeAt.ne {W:World} {B bf o c:Nat} {L:List Nat} (h:FreeAt W B bf o c L):bf≠B:=fun e=>by
 obtain⟨cs,hc,_⟩:=h.row
 rw [e,h.box] at hc
 simp at hc
theorem takeP_any {W:World} {B bf o c x:Nat} {L:List Nat} (h:FreeAt W B bf o c (x :: L)) :
  Calls Tryz.prog 136 #[.pointer (some ⟨B,0,none⟩)] W fun e w'=>e = .returned (.int .i64 (x:Int))∧(∃o c,FreeAt w' B bf o c L)∧Only B W w':=by
 have HX:=Lib.hid h
 obtain⟨cs,hcs,hrow⟩:=h.row
 have b0:W.cell? ⟨B,0,none⟩=some (.slice (some ⟨bf,o,none⟩) (L.length+1) c):=by rw [cell_of_row _ _ _ _ _ _ h.box];rfl
 have f0:W.frozen? ⟨B,0,none⟩=false:=frozen_of_row _ _ 0 _ _ h.box
 have r0:W.cell? ⟨bf,o,none⟩=some (.int .i64 (x:Int)):=by
  rw [cell_of_row _ _ _ _ _ _ hcs]
  have:=hrow 0 (by simp)
  simpa using this
 have hl1:L.length+1≤c:=by simpa using h.le.1
 have hl2:=h.le.2
 have HCS:=Lib.hid hcs
 have HROW:=Lib.hid hrow
 have HLL:=Lib.hid (rfl:(x :: L).length=L.length+1)
 clear h hcs hrow
 obtain⟨n,hn⟩:∃n,L.length=n:=⟨_,rfl⟩
 rw [hn] at b0 hl1
 have HN:=Lib.hid hn
 clear hn
 go_enter Tryz.func136,Tryz.ntmps136
 go_wp2_with fail
 ·go_ret
  refine⟨rfl,⟨o,0,⟨?_,by rw [HN.out];omega,?_⟩⟩,Only.setCell B 0 _ _⟩
  ·rw [HN.out];exact heap_setCell_same _ B 0 _ 47 _ HX.out.box
  ·exact⟨cs,(heap_setCell_other _ _ _ _ HX.out.ne).trans HCS.out,fun i hi=>by rw [HN.out] at hi;omega⟩
 ·go_ret
  refine⟨rfl,⟨o+1,c - 1,⟨?_,by rw [HN.out];omega,?_⟩⟩,Only.setCell B 0 _ _⟩
  ·rw [HN.out];exact heap_setCell_same _ B 0 _ 47 _ HX.out.box
  ·refine⟨cs,(heap_setCell_other _ _ _ _ HX.out.ne).trans HCS.out,fun i hi=>?_⟩
   have h1:=HROW.out (i+1) (by simp;exact hi)
   rw [show o+1+i=o+(i+1) by omega,h1]
   rfl
def wrs (ps:List (Nat × List Nat)):List Value:=ps.flatMap fun p=>[.int .i64 ((p.1:Nat):Int),.string (strB p.2)]
theorem wrs_snoc (ps:List (Nat × List Nat)) (x:Nat) (b:List Nat):wrs (ps++[(x,b)])=wrs ps++[.int .i64 (x:Int),.string (strB b)]:=by unfold wrs;rw [List.flatMap_append];rfl
def WrsAt (W:World) (base B:Nat) (ps:List (Nat × List Nat)):Prop:=∃v,W.heap[B]?=some (.cells #[v] 146 (0,0))∧W.ownsRow base 191 2 v ps.length (wrs ps)
structure Gat (base b7 b6:Nat) (w w':World):Prop where
 os:w'.os=w.os
 tape:w'.tape=w.tape
 output:w'.output=w.output
 size:w.heap.size≤w'.heap.size
 block:∀k,k<w.heap.size→k≠b7→k≠b6→(k<base∨∀cs fr,w.heap[k]?≠some (.cells cs 191 fr))→w'.heap[k]?=w.heap[k]?
theorem Tryz.info191:(Tryz.prog.info? 191).map (fun i=>(i.zero,i.size,i.bytes))=some (some (.agg #[.int .i64 0,.string ByteArray.empty]),2,24):=by kernel_rfl
structure GatAt (W:World) (base b8 b7 b6 bf:Nat) (L:List Nat) (ps:List (Nat × List Nat)):Prop where
 x8:W.heap[b8]?=some (.cells #[.func (.func 136) #[] #[.pointer (some ⟨b7,0,none⟩)]] 34 (0,0))
 fr:∃o c,FreeAt W b7 bf o c L
 wr:WrsAt W base b6 ps
 ne:b7≠b6∧b8≠b7∧b8≠b6∧bf≠b6
 hi:base≤b6∧base≤b7
theorem wr_ne {W:World} {base k:Nat} {v:Value} {n:Nat} {xs:List Value} (h:W.ownsRow base 191 2 v n xs) (hk:k<base∨∀cs fr,W.heap[k]?≠some (.cells cs 191 fr)):some k≠v.ownBlock:=fun e=>by
 rcases hk with hk | hk
 ·have:=(h.lt k e.symm).1;omega
 rcases h.2 with ⟨rfl,_⟩ | ⟨g,cap,cur,rfl,_,hg,_⟩
 ·cases e
 ·have e2:k=g:=by simpa [Value.ownBlock] using e
  exact hk _ _ (e2 ▸ hg)
set_option maxHeartbeats 1600000 in
theorem gather_any {W:World} {base b8 b7 b6 bf x:Nat} {L:List Nat} {ps:List (Nat × List Nat)} (h:GatAt W base b8 b7 b6 bf (x :: L) ps) (b:List Nat) (hn:ps.length≤4096) :
  Calls Tryz.prog 137 #[.string (strB b),.pointer (some ⟨b8,0,none⟩),.pointer (some ⟨b6,0,none⟩)] W fun e w'=>e = .returned (.int .i64 (x:Int))∧GatAt w' base b8 b7 b6 bf L (ps++[(x,b)])∧Gat base b7 b6 W w':=by
 obtain⟨i0,hi,hz0,hz1,hz2⟩:=info_parts Tryz.info191
 have HI:=Lib.hid hi
 have HZ0:=Lib.hid hz0
 have HZ1:=Lib.hid hz1
 have HZ2:=Lib.hid hz2
 obtain⟨o,c,hf⟩:=h.fr
 have HTK:=Lib.hid (takeP_any hf)
 have c8:W.cell? ⟨b8,0,none⟩=some (.func (.func 136) #[] #[.pointer (some ⟨b7,0,none⟩)]):=by rw [cell_of_row _ _ _ _ _ _ h.x8];rfl
 obtain⟨v,hv,ho⟩:=h.wr
 have HX:=Lib.hid h
 have HO:=Lib.hid ho
 have HV:=Lib.hid hv
 have HF:=Lib.hid hf
 have HNN:=Lib.hid hn
 clear hi hz0 hz1 hz2 hf ho hv h hn
 obtain⟨S,hS⟩:∃S,strB b=S:=⟨_,rfl⟩
 have HS:=Lib.hid hS
 rw [hS]
 clear hS
 go_enter Tryz.func137,Tryz.ntmps137
 go_upto_region 2 with (go_at_call 136;refine HTK.out.mono ?_;rintro e w1 ⟨rfl,hF1,hO1⟩)
 have hv1:w1.heap[b6]?=some (.cells #[v] 146 (0,0)):=(hO1.block b6 (lt_of_block HV.out) (Ne.symm HX.out.ne.1)).trans HV.out
 have n7:some b7≠v.ownBlock:=wr_ne HO.out (.inr fun cs fr e=>by rw [HF.out.box] at e;simp at e)
 have hgr1:W.grownBy w1 (some b7):=⟨hO1.os,hO1.tape,hO1.output,hO1.size,fun k hk hne=>hO1.block k hk (fun e=>hne (by rw [e]))⟩
 have HO1:=Lib.hid (HO.out.kept hgr1 (.inr (fun e=>n7 e.symm)))
 have HV1:=Lib.hid hv1
 have HB1:=Lib.hid hO1
 obtain⟨o1,c1,hF1⟩:=hF1
 have HF1:=Lib.hid hF1
 have e8:w1.heap[b8]?=some (.cells #[.func (.func 136) #[] #[.pointer (some ⟨b7,0,none⟩)]] 34 (0,0)):=(hO1.block b8 (lt_of_block HX.out.x8) HX.out.ne.2.1).trans HX.out.x8
 have HE8:=Lib.hid e8
 have k6:w1.cell? ⟨b6,0,none⟩=some v:=by rw [cell_of_row _ _ _ _ _ _ hv1];rfl
 have f6:w1.frozen? ⟨b6,0,none⟩=false:=frozen_of_row _ _ 0 _ _ hv1
 have HLB:Hid (base≤w1.heap.size):=Lib.hid (Nat.le_trans HX.out.hi.1 (Nat.le_of_lt (lt_of_block hv1)))
 have HWS:=Lib.hid (wrs_snoc ps x b)
 rw [HS.out] at HWS
 have HPL:Hid ((ps++[(x,b)]).length=ps.length+1):=Lib.hid (by simp)
 clear hO1 hv1 hgr1 n7 hF1 c8 e8 HTK
 generalize ps.length=m at *
 generalize wrs ps=ws at *
 go_wp2_with (at_builtin;refine wpList_append_own _ rfl _ _ 146 rfl base 191 i0 (.agg #[.int .i64 0,.string ByteArray.empty]) 2 24 Tryz.underlying146 HI.out HZ0.out HZ1.out HZ2.out rfl (by decide) _ m _ rfl (World.ownsRow.alloc HO1.out _) ⟨w1.heap.size,0,none⟩ 1 1 [.int .i64 (x:Int),.string S] rfl rfl (World.news_of_block (heap_alloc_new w1 _)) ?c2 ?c3 ?c4 ?c5 ?_)
 case c2=>intro v hv;simp at hv;rcases hv with rfl | rfl <;> rfl
 case c3=>unfold maxLen;have:=HNN.out;omega
 case c4=>have:=HNN.out;omega
 case c5=>have:=HLB.out;simp;omega
 intro v' w3 hown hgrow _
 have hne6:some b6≠v.ownBlock:=wr_ne HO1.out (.inr fun cs fr e=>by rw [HV1.out] at e;simp at e)
 have hv3:w3.heap[b6]?=some (.cells #[v] 146 (0,0)):=(hgrow.block b6 (by have:=lt_of_block HV1.out;simp;omega) hne6).trans (((alloc_below w1 _).block b6 (lt_of_block HV1.out)).trans HV1.out)
 have k63:w3.cell? ⟨b6,0,none⟩=some v:=by rw [cell_of_row _ _ _ _ _ _ hv3];rfl
 have f63:w3.frozen? ⟨b6,0,none⟩=false:=frozen_of_row _ _ 0 _ _ hv3
 have HV3:=Lib.hid hv3
 have HOW:=Lib.hid hown
 have HGR:=Lib.hid hgrow
 obtain⟨g',cap',rfl⟩:∃g' cap',v' = .slice (some ⟨g',0,none⟩) (m+1) cap':=by
  rcases hown.2 with ⟨_,h0⟩ | ⟨g1,cap1,cur1,rfl,_⟩
  ·omega
  ·exact⟨_,_,rfl⟩
 clear hown hgrow hne6 hv3
 go_wp2_with fail
 go_ret
 have hg4:=grownBy_setCell' w3 b6 (.slice (some ⟨g',0,none⟩) (m+1) cap')
 have hst:∀k,k<w1.heap.size→k≠b6→(k<base∨∀cs fr,w1.heap[k]?≠some (.cells cs 191 fr))→(w3.setCell ⟨b6,0,none⟩ (.slice (some ⟨g',0,none⟩) (m+1) cap')).heap[k]?=w1.heap[k]?:=fun k hk h6 ht=>
  (heap_setCell_other _ _ _ _ h6).trans ((HGR.out.block k (by simp;omega) (wr_ne HO1.out ht)).trans ((alloc_below w1 _).block k hk))
 have hne4:(Value.slice (some ⟨g',0,none⟩) (m+1) cap').ownBlock≠some b6:=fun e=>wr_ne HOW.out (.inr fun cs fr e2=>by rw [HV3.out] at e2;simp at e2) e.symm
 have hgs:w1.heap.size≤w3.heap.size:=by have:=HGR.out.size;simp at this;omega
 refine⟨rfl,⟨?_,⟨o1,c1,HF1.out.keep ?_ ?_⟩,⟨_,heap_setCell_same _ b6 0 _ 146 _ HV3.out,?_⟩,HX.out.ne,HX.out.hi⟩,?_⟩
 ·exact(hst b8 (lt_of_block HE8.out) HX.out.ne.2.2.1 (.inr fun cs fr e=>by rw [HE8.out] at e;simp at e)).trans HE8.out
 ·exact hst b7 HF1.out.lt.1 HX.out.ne.1 (.inr fun cs fr e=>by rw [HF1.out.box] at e;simp at e)
 ·obtain⟨cs0,hcs0,_⟩:=HF1.out.row
  exact hst bf HF1.out.lt.2 HX.out.ne.2.2.2 (.inr fun cs fr e=>by rw [hcs0] at e;simp at e)
 ·rw [HPL.out,HWS.out]
  exact HOW.out.kept hg4 (.inr hne4)
 ·refine⟨HGR.out.os.trans HB1.out.os,HGR.out.tape.trans HB1.out.tape,HGR.out.output.trans HB1.out.output,?_,fun k hk h7 h6 ht=>?_⟩
  ·have h1:=HB1.out.size
   have h2:=hg4.size
   exact Nat.le_trans h1 (Nat.le_trans hgs h2)
  ·have h1:=HB1.out.block k hk h7
   exact(hst k (Nat.lt_of_lt_of_le hk HB1.out.size) h6 (ht.imp id (fun ht cs fr e=>ht cs fr (h1 ▸ e)))).trans h1
end Go.Proofs.YtmbecjlioogbhaaGreatDoor
end
section
set_option maxRecDepth 20000
namespace Go.Proofs.YtmbecjlioogbhaaGreatDoor
open Go.RowKit Go.Maps Go.MapKept
open Go.WideElems (rd rg pl rd_key rd_val rg_of rd_mk)
open Go.WideShapes (sorted_perm)
theorem keys_pairwise (f:Pgs):(f.keys.map fun l=>((l:Nat):Int)).Pairwise (fun a b=>leI a b=true):=by
 refine List.pairwise_map.2 ?_
 unfold Pgs.keys
 refine List.Pairwise.filter _ (List.Pairwise.imp (R:=(· < ·)) ?_ List.pairwise_lt_range)
 intro a b h
 simp [leI];omega
theorem frm_intKeys {w:World} {b:Nat} {es:Array MapEntry} {clock:Nat} {f:Pgs} (h:Frm w b es clock f) :
  (intKeys (DataW.map ((es.toList.map (rg Tryz.prog 3 contR)).foldr DataW.insert []))).Perm (f.keys.map fun l=>((l:Nat):Int)):=by
 have h1:(intKeys (DataW.map ((es.toList.map (rg Tryz.prog 3 contR)).foldr DataW.insert []))).Perm ((es.toList.map (rg Tryz.prog 3 contR)).map fun p=>Go.intOf p.1):=(sorted_perm _).map _
 refine h1.trans ?_
 rw [List.map_map]
 have h2:(es.toList.map ((fun p=>Go.intOf p.1) ∘ rg Tryz.prog 3 contR))=(es.toList.map Go.Proofs.YtmbecjlioogbhaaGreatDoor.keyN).map fun l=>((l:Nat):Int):=by
  rw [List.map_map]
  refine List.map_congr_left fun x hx=>?_
  show Go.intOf (rg Tryz.prog 3 contR x).1=_
  rw [frm_rgKey h hx];rfl
 rw [h2]
 exact h.perm.map _
theorem sorted_keys {w:World} {b:Nat} {es:Array MapEntry} {clock:Nat} {f:Pgs} (h:Frm w b es clock f) {ss:List Int}
  (hp:ss.Perm (intKeys (DataW.map ((es.toList.map (rg Tryz.prog 3 contR)).foldr DataW.insert [])))):ss.mergeSort leI=f.keys.map fun l=>((l:Nat):Int):=by
 rw [mergeSort_of_perm_i (hp.trans (frm_intKeys h))]
 exact List.mergeSort_of_pairwise (keys_pairwise f)
end Go.Proofs.YtmbecjlioogbhaaGreatDoor
end
section
set_option maxRecDepth 20000
namespace Go.Proofs
open Go.Shelf
def Tryz.keysA_ren:Go.Shelf.Ren:=⟨fun | 7=>138 | 10=>173 | n=>n,fun | 23=>99 | 26=>3 | 3=>134 | 28=>31 | 0=>0 | 27=>30 | 33=>84 | 4=>4 | n=>n,fun | n=>n⟩
theorem Tryz.keysA:Go.Proofs.SlLaysZI.n7 Tryz.prog Tryz.keysA_ren:={
 mixed:=by kernel_rfl
 f7:=⟨Tryz.f138.name,by decide,Tryz.func138.trans (congrArg some (by kernel_rfl))⟩
 f10:=⟨Tryz.f173.name,by decide,Tryz.func173.trans (congrArg some (by kernel_rfl))⟩
 t0:=Tryz.underlying0
 a0:=Tryz.isAgg0
 z0:=Tryz.sizeOf0
 v0:=Tryz.zeroValue0
 t4:=Tryz.underlying4
 a4:=Tryz.isAgg4
 z4:=Tryz.sizeOf4
 v4:=Tryz.zeroValue4
 t23:=Tryz.underlying99
 a23:=Tryz.isAgg99
 z23:=Tryz.sizeOf99
 v23:=Tryz.zeroValue99
 t26:=Tryz.underlying3
 a26:=Tryz.isAgg3
 z26:=Tryz.sizeOf3
 v26:=Tryz.zeroValue3
 t27:=Tryz.underlying30
 a27:=Tryz.isAgg30
 z27:=Tryz.sizeOf30
 v27:=Tryz.zeroValue30
 t28:=Tryz.underlying31
 a28:=Tryz.isAgg31
 z28:=Tryz.sizeOf31
 v28:=Tryz.zeroValue31
 t33:=Tryz.underlying84
 a33:=Tryz.isAgg84
 z33:=Tryz.sizeOf84
 v33:=Tryz.zeroValue84 }
def Tryz.sortedA_ren:Go.Shelf.Ren:=⟨fun | 6=>94 | 8=>135 | 9=>152 | 11=>172 | 13=>195 | 12=>194 | 23=>224 | 24=>225 | 14=>215 | 15=>216 | 16=>217 | 17=>218 | 18=>219 | 19=>220 | 20=>221 | 21=>222 | 22=>223 | 25=>239 | 26=>240 | 27=>241 | 28=>242 | 29=>243 | 30=>244 | 31=>254 | n=>n,fun | 26=>3 | 28=>31 | 24=>47 | 0=>0 | 3=>3 | 37=>217 | 48=>272 | 50=>274 | 4=>4 | 40=>266 | 39=>265 | 45=>136 | 5=>5 | 9=>9 | 51=>288 | 55=>292 | 57=>306 | 58=>173 | 33=>84 | n=>n,fun | n=>n⟩
theorem Tryz.sortedA:Go.Proofs.SlLaysZI.n6 Tryz.prog Tryz.sortedA_ren:={
 mixed:=by kernel_rfl
 f6:=⟨Tryz.f94.name,by decide,Tryz.func94.trans (congrArg some (by kernel_rfl))⟩
 f8:=⟨Tryz.f135.name,by decide,Tryz.func135.trans (congrArg some (by kernel_rfl))⟩
 f11:=⟨Tryz.f172.name,by decide,Tryz.func172.trans (congrArg some (by kernel_rfl))⟩
 t0:=Tryz.underlying0
 a0:=Tryz.isAgg0
 z0:=Tryz.sizeOf0
 v0:=Tryz.zeroValue0
 t24:=Tryz.underlying47
 a24:=Tryz.isAgg47
 z24:=Tryz.sizeOf47
 v24:=Tryz.zeroValue47
 t26:=Tryz.underlying3
 a26:=Tryz.isAgg3
 z26:=Tryz.sizeOf3
 v26:=Tryz.zeroValue3
 t28:=Tryz.underlying31
 a28:=Tryz.isAgg31
 z28:=Tryz.sizeOf31
 v28:=Tryz.zeroValue31
 i26:=by kernel_rfl }
def Tryz.sortA_ren:Go.Shelf.Ren:=⟨fun | 189=>152 | 125=>195 | 257=>194 | 128=>224 | 129=>225 | 294=>215 | 295=>216 | 296=>217 | 297=>218 | 298=>219 | 299=>220 | 216=>221 | 300=>222 | 301=>223 | 328=>239 | 329=>240 | 330=>241 | 331=>242 | 332=>243 | 215=>244 | 343=>254 | n=>n,fun | 28=>47 | 3=>3 | 46=>217 | 0=>0 | 51=>272 | 53=>274 | 4=>4 | 183=>266 | 182=>265 | 131=>136 | 5=>5 | 9=>9 | 218=>288 | 222=>292 | 228=>306 | 229=>173 | n=>n,fun | n=>n⟩
theorem Tryz.sortA:Go.Proofs.Lays.n189 Tryz.prog Tryz.sortA_ren:={
 mixed:=by kernel_rfl
 f125:=Tryz.func195.trans (congrArg some (by kernel_rfl))
 f128:=Tryz.func224.trans (congrArg some (by kernel_rfl))
 f129:=Tryz.func225.trans (congrArg some (by kernel_rfl))
 f189:=Tryz.func152.trans (congrArg some (by kernel_rfl))
 f215:=Tryz.func244.trans (congrArg some (by kernel_rfl))
 f216:=Tryz.func221.trans (congrArg some (by kernel_rfl))
 f257:=Tryz.func194.trans (congrArg some (by kernel_rfl))
 f294:=Tryz.func215.trans (congrArg some (by kernel_rfl))
 f295:=Tryz.func216.trans (congrArg some (by kernel_rfl))
 f296:=Tryz.func217.trans (congrArg some (by kernel_rfl))
 f297:=Tryz.func218.trans (congrArg some (by kernel_rfl))
 f298:=Tryz.func219.trans (congrArg some (by kernel_rfl))
 f299:=Tryz.func220.trans (congrArg some (by kernel_rfl))
 f300:=Tryz.func222.trans (congrArg some (by kernel_rfl))
 f301:=Tryz.func223.trans (congrArg some (by kernel_rfl))
 f328:=Tryz.func239.trans (congrArg some (by kernel_rfl))
 f329:=Tryz.func240.trans (congrArg some (by kernel_rfl))
 f330:=Tryz.func241.trans (congrArg some (by kernel_rfl))
 f331:=Tryz.func242.trans (congrArg some (by kernel_rfl))
 f332:=Tryz.func243.trans (congrArg some (by kernel_rfl))
 f343:=Tryz.func254.trans (congrArg some (by kernel_rfl))
 t0:=Tryz.underlying0
 a0:=Tryz.isAgg0
 z0:=Tryz.sizeOf0
 v0:=Tryz.zeroValue0
 t3:=Tryz.underlying3
 a3:=Tryz.isAgg3
 z3:=Tryz.sizeOf3
 v3:=Tryz.zeroValue3
 t4:=Tryz.underlying4
 a4:=Tryz.isAgg4
 z4:=Tryz.sizeOf4
 v4:=Tryz.zeroValue4
 t5:=Tryz.underlying5
 a5:=Tryz.isAgg5
 z5:=Tryz.sizeOf5
 v5:=Tryz.zeroValue5
 t9:=Tryz.underlying9
 a9:=Tryz.isAgg9
 z9:=Tryz.sizeOf9
 v9:=Tryz.zeroValue9
 t28:=Tryz.underlying47
 a28:=Tryz.isAgg47
 z28:=Tryz.sizeOf47
 v28:=Tryz.zeroValue47
 t46:=Tryz.underlying217
 a46:=Tryz.isAgg217
 z46:=Tryz.sizeOf217
 v46:=Tryz.zeroValue217
 t51:=Tryz.underlying272
 a51:=Tryz.isAgg272
 z51:=Tryz.sizeOf272
 v51:=Tryz.zeroValue272
 t53:=Tryz.underlying274
 a53:=Tryz.isAgg274
 z53:=Tryz.sizeOf274
 v53:=Tryz.zeroValue274
 t131:=Tryz.underlying136
 a131:=Tryz.isAgg136
 z131:=Tryz.sizeOf136
 v131:=Tryz.zeroValue136
 t182:=Tryz.underlying265
 a182:=Tryz.isAgg265
 z182:=Tryz.sizeOf265
 v182:=Tryz.zeroValue265
 t183:=Tryz.underlying266
 a183:=Tryz.isAgg266
 z183:=Tryz.sizeOf266
 v183:=Tryz.zeroValue266
 t218:=Tryz.underlying288
 a218:=Tryz.isAgg288
 z218:=Tryz.sizeOf288
 v218:=Tryz.zeroValue288
 t222:=Tryz.underlying292
 a222:=Tryz.isAgg292
 z222:=Tryz.sizeOf292
 v222:=Tryz.zeroValue292
 t228:=Tryz.underlying306
 a228:=Tryz.isAgg306
 z228:=Tryz.sizeOf306
 v228:=Tryz.zeroValue306
 t229:=Tryz.underlying173
 a229:=Tryz.isAgg173
 z229:=Tryz.sizeOf173
 v229:=Tryz.zeroValue173 }
end Go.Proofs
namespace Go.Proofs.YtmbecjlioogbhaaGreatDoor
open Go.RowKit Go.Maps Go.MapKept Go.Shelf Go.Sort
open Go.WideElems (rd rg pl rd_key rd_val rg_of rd_mk)
theorem sorts (m:Nat):AnyZI.SortsIn Tryz.prog Tryz.sortedA_ren Fence.wide m:=
 ⟨fun blk off cap ss W hH hblk hsz=>callsIn_wide.2 (Any.slices_Sort_int Tryz.sortA blk off cap ss W hH hblk hsz),
  fun p cap W=>callsIn_wide.2 (Any.slices_Sort_int_none Tryz.sortA p cap W)⟩
theorem keys94 (mb:Option Nat) (W:World):Calls Tryz.prog 138 #[.map mb] W fun e w'=>e = .returned (.func (.func 173) #[] #[.pointer (some ⟨W.heap.size,0,none⟩)])∧w'=W.alloc (.cells #[.map mb] 99):=
 (callsIn_wide (n:=5)).1 (AnyZI.keys_in Tryz.keysA Fence.wide 5 trivial rfl mb W)
theorem sorted93 {w:World} {mb:Nat} {f:Pgs} (h:Frs w mb f) :
  Calls Tryz.prog 94 #[.func (.func 173) #[] #[.pointer (some ⟨w.heap.size,0,none⟩)]] (w.alloc (.cells #[.map (some mb)] 99)) fun e w'=>(∃v,e = .returned v∧OwnI w' (w.heap.size+1) v f.keys)∧Below (w.alloc (.cells #[.map (some mb)] 99)).heap.size (w.alloc (.cells #[.map (some mb)] 99)) w':=by
 obtain⟨D,hown,es,clock,hF,hD⟩:=h.owns
 have hlt:=h.lt
 have hsz:Maps.size D≤512:=by
  have h1:=(frm_intKeys hF).length_eq
  rw [←hD] at h1
  have h2:=f.keys_le
  rw [List.length_map] at h1
  rw [hD] at h1 ⊢
  simp only [intKeys,List.length_map] at h1
  show List.length _≤512
  omega
 have hseq:SeqGives Fence.wide 2 Tryz.prog 173 #[.pointer (some ⟨w.heap.size,0,none⟩)] encZ (fun ss=>ss.Perm (intKeys D)) (Maps.size D) (w.alloc (.cells #[.map (some mb)] 99)):=
  AnyZI.keys_gives (ρ:=Tryz.keysA_ren) { Tryz.keysA with } Fence.wide _ trivial rfl (by omega) w.heap.size mb 512 D _ (by simp) (by simp) (by
   obtain⟨es,clock,hb,Ft,hs,hD⟩:=hown
   exact⟨es,clock,(Below.heap_alloc _ _ mb hlt).trans hb,Ft,hs,hD⟩)
 have cS:=AnyZI.sorted_in Tryz.sortedA Fence.wide 5 trivial trivial trivial trivial rfl (by omega) (sorts _) (enters_of Tryz.func152 (by kernel_rfl) rfl) 173 #[.pointer (some ⟨w.heap.size,0,none⟩)] trivial (enters_of Tryz.func173 (by kernel_rfl) rfl) _ _ (by unfold maxLen;omega) (by omega) _ hseq
 refine((callsIn_wide (n:=5)).1 cS).mono ?_
 rintro e w' ⟨v,ss,rfl,hS,hrow,_,hb⟩
 refine⟨⟨v,rfl,?_⟩,hb⟩
 have hl:ss.length=f.keys.length:=by
  have h1:=(hS.trans (hD ▸ frm_intKeys hF)).length_eq
  rwa [List.length_map] at h1
 rw [hD] at hS
 have hk:=sorted_keys hF hS
 unfold OwnI
 rw [←hl]
 have e1:(f.keys.map fun l=>((l:Nat):Int)).map encZ=Tb.ivs f.keys:=by unfold Tb.ivs;rw [List.map_map];rfl
 rw [←e1,←hk,←show (w.alloc (.cells #[.map (some mb)] 99)).heap.size=w.heap.size+1 by simp]
 exact hrow
end Go.Proofs.YtmbecjlioogbhaaGreatDoor
end
