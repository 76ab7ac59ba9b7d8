/- Texts SRoom to QApart of this seat, laid into one. -/
import Derived.Deep.Cut
import Derived.Deep.AppendLies
import Derived.Laws.AppendOwnNone
import Derived.Lib.Strings
import Derived.Deep.QuietTactic
import Derived.BigQuiet
import Derived.Deep.RegionWith
import Derived.Test.YtmbecjlioogbhaaGreatDoorM01
import Derived.Test.YtmbecjlioogbhaaGreatDoorM13
import Derived.Test.YtmbecjlioogbhaaGreatDoorM14
set_option linter.unusedVariables false
set_option linter.unusedSimpArgs false
set_option linter.constructorNameAsVariable false
namespace Go.Proofs.YtmbecjlioogbhaaGreatDoor
section
namespace Sl
open Go.RowKit
section
variable {w:World} {g:Nat} {v:Value} {l:List Sl}
theorem left_le (l:List Sl):left l≤511:=by unfold left need;omega
set_option maxHeartbeats 1600000 in
theorem room_any (h:Pg0 w g v l):Calls Tryz.prog 101 #[.pointer (some ⟨g,0,none⟩)] w fun e w'=>e = .returned (.int .i64 (room l))∧Below w.heap.size w w':=by
 have HN:=Lib.hid (next_any h)
 have HL:Hid (∀w1,Below w.heap.size w w1→Calls Tryz.prog 156 #[.pointer (some ⟨g,0,none⟩)] w1 fun e w'=>e = .returned (.int .i64 (left l))∧Below w1.heap.size w1 w'):=Lib.hid (fun w1 hb=>left_any (h.below hb))
 obtain⟨q,c,rfl⟩:=h.form
 have c0:=h.c0
 have hl:=h.ok.len
 have hg:=h.lt
 have hlt:=h.ok.left
 have hle:=left_le l
 have hi:=bareI_le l
 clear h
 obtain⟨N,HNN⟩:∃N,Hid (l.length=N):=⟨_,Lib.hid rfl⟩
 obtain⟨x,HX⟩:∃x,Hid (left l=x):=⟨_,Lib.hid rfl⟩
 obtain⟨i,HI⟩:∃i,Hid (bareI l=i):=⟨_,Lib.hid rfl⟩
 have HR:Hid (room l=if i=64∨x - (if i=N then 2 else 0)<0 then -1 else min (x - if i=N then 2 else 0) 480):=Lib.hid (by unfold room room0;rw [HX.out,HI.out,HNN.out])
 rw [HNN.out] at c0 hl hi
 rw [HX.out] at HL hlt hle
 rw [HI.out] at HN hi
 rw [HR.out]
 clear HR HNN HX HI
 by_cases hiN:i=N
 ·subst hiN
  rw [if_pos rfl]
  have e1:((i:Int) == (i:Int))=true:=by simp
  by_cases h64:i=64
  ·rw [if_pos (.inl h64)]
   have e2:((i:Int) == 64)=true:=by simp;omega
   go_enter Tryz.func101,Tryz.ntmps101
   go_wp2_with (go_at_call 155;refine HN.out.mono ?_;rintro e w1 ⟨rfl,hb⟩)
   have HB:=Lib.hid hb
   clear hb
   have c1:=(HB.out.cell (p:=⟨g,0,none⟩) hg).trans c0
   go_wp2_with (go_at_call 156;refine(HL.out _ HB.out).mono ?_;rintro e w2 ⟨rfl,hb⟩;have HB2:=Lib.hid (HB.out.trans (hb.mono HB.out.size));clear hb c1;have c2:=(HB2.out.cell (p:=⟨g,0,none⟩) hg).trans c0)
   go_ret
   exact⟨rfl,HB2.out⟩
  ·have e2:((i:Int) == 64)=false:=by simp;omega
   by_cases hx:x - 2<0
   ·rw [if_pos (.inr hx)]
    go_enter Tryz.func101,Tryz.ntmps101
    go_wp2_with (go_at_call 155;refine HN.out.mono ?_;rintro e w1 ⟨rfl,hb⟩)
    have HB:=Lib.hid hb
    clear hb
    have c1:=(HB.out.cell (p:=⟨g,0,none⟩) hg).trans c0
    go_wp2_with (go_at_call 156;refine(HL.out _ HB.out).mono ?_;rintro e w2 ⟨rfl,hb⟩;have HB2:=Lib.hid (HB.out.trans (hb.mono HB.out.size));clear hb c1;have c2:=(HB2.out.cell (p:=⟨g,0,none⟩) hg).trans c0)
    go_ret
    exact⟨rfl,HB2.out⟩
   ·rw [if_neg (by omega)]
    go_enter Tryz.func101,Tryz.ntmps101
    go_wp2_with (go_at_call 155;refine HN.out.mono ?_;rintro e w1 ⟨rfl,hb⟩)
    have HB:=Lib.hid hb
    clear hb
    have c1:=(HB.out.cell (p:=⟨g,0,none⟩) hg).trans c0
    go_wp2_with (go_at_call 156;refine(HL.out _ HB.out).mono ?_;rintro e w2 ⟨rfl,hb⟩;have HB2:=Lib.hid (HB.out.trans (hb.mono HB.out.size));clear hb c1;have c2:=(HB2.out.cell (p:=⟨g,0,none⟩) hg).trans c0)
    all_goals
     go_ret
     refine⟨?_,HB2.out⟩
     exact congrArg (fun z:Int=>Ending.returned (Value.int IntKind.i64 z)) (by omega)
 ·rw [if_neg hiN]
  have e1:((i:Int) == (N:Int))=false:=by simp;omega
  have e2:((i:Int) == 64)=false:=by simp;omega
  have e3:¬ x<0:=by omega
  rw [if_neg (by omega)]
  have hxx:x - 0=x:=Int.sub_zero x
  rw [hxx]
  clear hxx
  go_enter Tryz.func101,Tryz.ntmps101
  go_wp2_with (go_at_call 155;refine HN.out.mono ?_;rintro e w1 ⟨rfl,hb⟩)
  have HB:=Lib.hid hb
  clear hb
  have c1:=(HB.out.cell (p:=⟨g,0,none⟩) hg).trans c0
  go_wp2_with (go_at_call 156;refine(HL.out _ HB.out).mono ?_;rintro e w2 ⟨rfl,hb⟩;have HB2:=Lib.hid (HB.out.trans (hb.mono HB.out.size));clear hb c1;have c2:=(HB2.out.cell (p:=⟨g,0,none⟩) hg).trans c0)
  all_goals
   go_ret
   refine⟨?_,HB2.out⟩
   exact congrArg (fun z:Int=>Ending.returned (Value.int IntKind.i64 z)) (by omega)
end
end Sl
end
section
namespace Sl
open Go.RowKit
structure Pgr (w:World) (g:Nat) (v:Value) (l:List Sl):Prop where
 hd:w.heap[g]?=some (.cells #[v] 214 (0,0))
 row:w.ownsRow 0 216 2 v l.length (flat l)
section
variable {w:World} {g:Nat} {v:Value} {l:List Sl}
theorem Pg0.raw (h:Pg0 w g v l):Pgr w g v l:=⟨h.hd,h.row⟩
theorem Pgr.pg0 (h:Pgr w g v l) (ho:Okp l):Pg0 w g v l:=⟨h.hd,h.row,ho⟩
theorem Pgr.c0 (h:Pgr w g v l):w.cell? ⟨g,0,none⟩=some v:=by rw [cell_of_row w g 0 _ _ _ h.hd];rfl
theorem Pgr.fz (h:Pgr w g v l):w.frozen? ⟨g,0,none⟩=false:=frozen_of_row w g 0 _ _ h.hd
theorem Pgr.ne (h:Pgr w g v l):∀k,v.ownBlock=some k→k≠g:=fun k hk=>by obtain⟨cur,hc⟩:=own_head h.row hk;exact Ne.symm (ne_of_ty h.hd hc (by decide))
theorem Pgr.at (h:Pgr w g v l) {k:Nat} (hk:k<l.length):∃b c,v = .slice (some ⟨b,0,none⟩) l.length c∧l.length≤c∧w.cell? ⟨b,k*2,none⟩=some (.bool (slot l k).isSome)∧w.cell? ⟨b,k*2+1,none⟩=some (.string (recOf (slot l k))) ∧
  w.frozen? ⟨b,k*2,none⟩=false∧w.frozen? ⟨b,k*2+1,none⟩=false:=by
 obtain⟨b,c,e⟩:=own_some h.row (by omega)
 subst e
 have hr:=h.row
 have hc:l.length≤c:=by
  rcases hr.2 with ⟨e,_⟩ | ⟨g',cap,cur,e,_,_,h1,_⟩
  ·cases e
  ·cases e;exact h1
 obtain⟨f1,f2⟩:=flat_get l k hk
 have a1:=hr.cellAt (k*2) (by omega)
 have a2:=hr.cellAt (k*2+1) (by omega)
 rw [f1] at a1
 rw [f2] at a2
 exact⟨b,c,rfl,hc,a1,a2,hr.frozenAt _,hr.frozenAt _⟩
theorem Pgr.set2 {b n c k:Nat} (h:Pgr w g (.slice (some ⟨b,0,none⟩) n c) l) (hk:k<l.length) (o:Sl) :
  Pgr ((w.setCell ⟨b,k*2,none⟩ (.bool o.isSome)).setCell ⟨b,k*2+1,none⟩ (.string (recOf o))) g (.slice (some ⟨b,0,none⟩) n c) (l.set k o) ∧
   Chg (foot g (.slice (some ⟨b,0,none⟩) n c)) (foot g (.slice (some ⟨b,0,none⟩) n c)) w ((w.setCell ⟨b,k*2,none⟩ (.bool o.isSome)).setCell ⟨b,k*2+1,none⟩ (.string (recOf o))):=by
 have hr:=h.row
 obtain⟨q,c',e⟩:=own_form hr
 cases e
 have n1:=Ne.symm (h.ne b rfl)
 refine⟨⟨(heap_setCell_other _ _ _ _ n1).trans ((heap_setCell_other _ _ _ _ n1).trans h.hd),?_⟩,(Chg.setCell (by simp [foot,Value.ownBlock]) _ w).trans (Chg.setCell (by simp [foot,Value.ownBlock]) _ _)⟩
 have h2:=(((hr.stored (k*2) (.bool o.isSome)).1).stored (k*2+1) (.string (recOf o))).1
 rw [flat_set l k o hk] at h2
 rw [show (l.set k o).length=l.length by simp]
 exact h2
end
section
variable {w:World} {g:Nat} {v:Value} {l:List Sl}
end
end Sl
end
section
namespace Sl
open Go.RowKit
section
variable {w:World} {g:Nat} {v:Value} {l:List Sl}
end
end Sl
end
section
namespace Sl
open Go.RowKit
theorem infoS:(Tryz.prog.info? 216).map (fun i=>(i.zero,i.size,i.bytes))=some (some (.agg #[.bool false,.string ⟨#[]⟩]),2,24):=by kernel_rfl
section
variable {w:World} {g:Nat} {v:Value} {l:List Sl}
theorem Pgr.snoc {w w3:World} {g gN cap:Nat} {v:Value} {l:List Sl} {o:Obj} (h:Pgr w g v l)
  (hown:w3.ownsRow 0 216 2 (.slice (some ⟨gN,0,none⟩) (l.length+1) cap) (l.length+1) (flat l++[.bool false,.string ⟨#[]⟩]))
  (hgrow:(w.alloc o).grownBy w3 v.ownBlock) (hat:v.ownBlock=some gN∨gN=w.heap.size+1) :
  Pgr (w3.setCell ⟨g,0,none⟩ (.slice (some ⟨gN,0,none⟩) (l.length+1) cap)) g (.slice (some ⟨gN,0,none⟩) (l.length+1) cap) (l++[none]) ∧
   Chg (foot g v) (foot g (.slice (some ⟨gN,0,none⟩) (l.length+1) cap)) w (w3.setCell ⟨g,0,none⟩ (.slice (some ⟨gN,0,none⟩) (l.length+1) cap)):=by
 have hglt:g<w.heap.size:=lt_of_block h.hd
 have hgN:gN≠g:=by
  rcases hat with e | e
  ·exact h.ne _ e
  ·omega
 have hsz:w.heap.size≤w3.heap.size:=Nat.le_trans (by simp) hgrow.size
 have h3:∀k,k<w.heap.size→v.ownBlock≠some k→w3.heap[k]?=w.heap[k]?:=fun k hk hne=>
  (hgrow.block k (by simp;omega) (fun e=>hne e.symm)).trans (Below.heap_alloc w o k hk)
 refine⟨⟨heap_setCell_same w3 g 0 _ _ _ ((h3 g hglt (fun e=>h.ne g e rfl)).trans h.hd),?_⟩,⟨hgrow.os,hgrow.tape,hgrow.output,by simpa using hsz,fun k hk hne=>?_,fun k hk=>?_⟩⟩
 ·rw [List.length_append,flat_append,flat_one]
  exact own_other hown (fun k hk=>by cases hk;exact heap_setCell_other _ _ _ _ hgN)
 ·have h1:k≠g:=fun e=>hne (by simp [foot,e])
  have h2:v.ownBlock≠some k:=fun e=>hne (by simp [foot,e])
  exact(heap_setCell_other _ _ _ _ h1).trans (h3 k hk h2)
 ·simp only [foot,List.mem_cons,Option.mem_toList] at hk ⊢
  rcases hk with e | e
  ·exact .inl (.inl e)
  ·have e2:gN=k:=by simpa [Value.ownBlock] using e
   subst e2
   rcases hat with e3 | e3
   ·exact .inl (.inr e3)
   ·exact .inr (by omega)
theorem Pgr.done {w w':World} {g:Nat} {v:Value} {l':List Sl} {F:List Nat} (h:Pgr w' g v l') (hc:Chg F (foot g v) w w') (ho:Okp l'):Went F g l' w w':=⟨_,(h.pg0 ho).pg,hc⟩
set_option maxHeartbeats 3200000 in
theorem add_any (h:Pg0 w g v l) (r:ByteArray) (hr:r.size≤9223372036854775807):Calls Tryz.prog 107 #[.pointer (some ⟨g,0,none⟩),.string r] w fun e w'=>e = .returned (.tuple #[.int .i64 (addN l r:Int),.int .i64 (addE l r:Int)])∧Went (foot g v) g (addL l r) w w':=by
 have HP:=Lib.hid h
 by_cases h4:480<r.size
 ·have hd:decide ((480:Int)<(r.size:Int))=true:=by simp;omega
  rw [show addE l r=2 by unfold addE;rw [if_pos h4],show addL l r=l by unfold addL;rw [if_pos h4],show addN l r=0 by unfold addN;rw [if_pos h4]]
  clear h h4
  go_enter Tryz.func107,Tryz.ntmps107
  go_wp2_with fail
  go_ret2
  exact⟨rfl,Went.refl HP.out.pg⟩
 ·have hd:decide ((480:Int)<(r.size:Int))=false:=by simp;omega
  have HR:Hid (∀w1,Below w.heap.size w w1→Calls Tryz.prog 101 #[.pointer (some ⟨g,0,none⟩)] w1 fun e w'=>e = .returned (.int .i64 (room l))∧Below w1.heap.size w1 w'):=Lib.hid (fun w1 hb=>room_any (h.below hb))
  have hrf:=room_full h.ok.len r (by omega)
  by_cases hf:addFull l r=true
  ·have hd2:decide (room l<(r.size:Int))=true:=by rw [←hrf];exact hf
   rw [show addE l r=8 by unfold addE;rw [if_neg h4,if_pos hf],show addL l r=l by unfold addL;rw [if_neg h4,if_pos hf],show addN l r=0 by unfold addN;rw [if_neg h4,if_pos hf]]
   clear h h4 hrf hf
   generalize room l=x at *
   go_enter Tryz.func107,Tryz.ntmps107
   go_wp2_with (go_at_call 101;refine(HR.out _ (Below.refl _ _)).mono ?_;rintro e w1 ⟨rfl,hb⟩)
   go_ret2
   exact⟨rfl,Went.below HP.out.pg hb⟩
  ·have hd2:decide (room l<(r.size:Int))=false:=by rw [←hrf];simpa using hf
   have HN:Hid (∀w1,Below w.heap.size w w1→Calls Tryz.prog 155 #[.pointer (some ⟨g,0,none⟩)] w1 fun e w'=>e = .returned (.int .i64 (bareI l:Int))∧Below w1.heap.size w1 w'):=Lib.hid (fun w1 hb=>next_any (h.below hb))
   have HOK:Hid (Okp (addL l r)):=Lib.hid (h.ok.add r)
   have hE:addL l r=withL l (bareI l) (some r):=by unfold addL;rw [if_neg h4,if_neg hf]
   rw [show addE l r=0 by unfold addE;rw [if_neg h4,if_neg hf],show addN l r=bareI l by unfold addN;rw [if_neg h4,if_neg hf]]
   have hbl:=bareI_le l
   have hN:=h.ok.len
   obtain⟨i,HI⟩:∃i,Hid (bareI l=i):=⟨_,Lib.hid rfl⟩
   rw [HI.out] at hE hbl HN ⊢
   obtain⟨i0,hi0,hz0,hz1,hz2⟩:=info_parts infoS
   have HI0:=Lib.hid hi0
   have HZ0:=Lib.hid hz0
   have HZ1:=Lib.hid hz1
   have HZ2:=Lib.hid hz2
   by_cases hlt:i<l.length
   ·rw [show addL l r=l.set i (some r) by rw [hE];unfold withL;rw [if_neg (by omega)]] at HOK ⊢
    have HK:=Lib.hid hlt
    obtain⟨b,c,e,hc,_⟩:=h.raw.at hlt
    subst e
    obtain⟨N,HNN⟩:∃N,Hid (l.length=N):=⟨_,Lib.hid rfl⟩
    rw [HNN.out] at hlt hN hc hbl HP ⊢
    have he:((i:Int) == (N:Int))=false:=by simp;omega
    have hiN:(i:Int)<(N:Int):=by omega
    clear h h4 hrf hf hE hi0 hz0 hz1 hz2
    generalize room l=x at *
    go_enter Tryz.func107,Tryz.ntmps107
    go_wp2_with (go_at_call 101;refine(HR.out _ (Below.refl _ _)).mono ?_;rintro e w1 ⟨rfl,hb⟩;have HB:=Lib.hid hb;clear hb)
    refine(HN.out _ HB.out).mono ?_
    rintro e w2 ⟨rfl,hb⟩
    have HB2:=Lib.hid (HB.out.trans (hb.mono HB.out.size))
    clear hb
    have HP2:=Lib.hid (HP.out.below HB2.out)
    have c0:=HP2.out.c0
    obtain⟨b',c',e',_,x1,x2,f1,f2⟩:=HP2.out.raw.at HK.out
    rw [HNN.out] at e'
    cases e'
    go_wp2_with fail
    go_ret2
    have h2:=HP2.out.raw.set2 HK.out (some r)
    exact⟨rfl,h2.1.done ((Chg.of_below HB2.out).trans h2.2) HOK.out⟩
   ·obtain rfl:i=l.length:=by omega
    rw [show addL l r=l++[some r] by rw [hE];unfold withL;rw [if_pos rfl]] at HOK ⊢
    obtain⟨q,c,e⟩:=h.form
    subst e
    obtain⟨N,HNN⟩:∃N,Hid (l.length=N):=⟨_,Lib.hid rfl⟩
    rw [HNN.out] at hN HN HP ⊢
    have he:((N:Int) == (N:Int))=true:=by simp
    have hiN:(N:Int)<(N:Int)+1:=by omega
    clear h h4 hrf hf hE hi0 hz0 hz1 hz2 hbl hlt
    generalize room l=x at *
    go_enter Tryz.func107,Tryz.ntmps107
    go_wp2_with (go_at_call 101;refine(HR.out _ (Below.refl _ _)).mono ?_;rintro e w1 ⟨rfl,hb⟩;have HB:=Lib.hid hb;clear hb)
    refine(HN.out _ HB.out).mono ?_
    rintro e w2 ⟨rfl,hb⟩
    have HB2:=Lib.hid (HB.out.trans (hb.mono HB.out.size))
    clear hb
    have HP2:=Lib.hid (HP.out.below HB2.out)
    have c0:=HP2.out.c0
    have cf:=HP2.out.fz
    have hglt:=HP2.out.lt
    have hrow:(w2.alloc (.cells #[.bool false,.string ⟨#[]⟩] 216)).ownsRow 0 216 2 (.slice q N c) N (flat l):=by have:=HP2.out.row.alloc (.cells #[.bool false,.string ⟨#[]⟩] 216);rwa [HNN.out] at this
    have HROW:=Lib.hid hrow
    clear hrow
    go_wp2_with (at_builtin;refine wpList_append_lies _ rfl (.tmp 33) (.tmp 35) 212 rfl 0 216 i0 (.agg #[.bool false,.string ⟨#[]⟩]) 2 24 Tryz.underlying212 HI0.out HZ0.out HZ1.out HZ2.out rfl (by decide) (.slice q N c) N (flat l) (by rfl) HROW.out ⟨w2.heap.size,0,none⟩ 1 1 [.bool false,.string ⟨#[]⟩] (by rfl) rfl (cell_two_new w2 _ _ _) (by decide) (by omega) (by unfold maxLen;omega) (by omega) (Nat.zero_le _) (w2.heap.size+1) (by simp) ?_)
    intro gN cap w3 hown hgrow hat hlt3
    rw [←HNN.out] at hown
    have hs:=HP2.out.raw.snoc hown hgrow hat
    rw [HNN.out] at hs
    have HS:=Lib.hid hs
    have c3:w3.cell? ⟨g,0,none⟩=some (.slice q N c):=by
     have hne:some g≠(Value.slice q N c).ownBlock:=fun e=>HP2.out.raw.ne g e.symm rfl
     exact(hgrow.cell_far ⟨g,0,none⟩ (by simp;omega) hne).trans (((Below.refl w2.heap.size w2).alloc (Nat.le_refl _) _).cell (p:=⟨g,0,none⟩) hglt |>.trans c0)
    have f3:w3.frozen? ⟨g,0,none⟩=false:=by
     have hne:some g≠(Value.slice q N c).ownBlock:=fun e=>HP2.out.raw.ne g e.symm rfl
     exact(hgrow.frozen_far ⟨g,0,none⟩ (by simp;omega) hne).trans (((Below.refl w2.heap.size w2).alloc (Nat.le_refl _) _).frozen (p:=⟨g,0,none⟩) hglt |>.trans cf)
    obtain⟨b',c',e',hcc,x1,x2,y1,y2⟩:=hs.1.at (k:=N) (by simp [HNN.out])
    rw [List.length_append,HNN.out] at e'
    cases e'
    clear hs hown hgrow hat hlt3 c0 cf
    go_upto_region 10 with fail
    generalize w3.setCell ⟨g,0,none⟩ (.slice (some ⟨gN,0,none⟩) (N+1) cap)=w4 at *
    have c0:=HS.out.1.c0
    clear c3 f3
    go_wp2_with fail
    go_ret2
    have h2:=HS.out.1.set2 (k:=N) (by simp [HNN.out]) (some r)
    have h3:(l++[none]).set N (some r)=l++[some r]:=by rw [←HNN.out];simp
    rw [h3] at h2
    exact⟨rfl,h2.1.done ((Chg.of_below HB2.out).trans (HS.out.2.trans h2.2)) HOK.out⟩
end
end Sl
end
section
namespace Sl
open Go.RowKit
section
variable {w:World} {v:Value} {l:List Sl}
end
end Sl
end
section
namespace Sl
open Go.RowKit
section
variable {w:World} {v:Value} {l:List Sl}
end
end Sl
end
section
namespace Sl
open Go.RowKit
theorem nums_inj {S T:ByteArray} (h:nums S=nums T):S=T:=by rw [←strB_nums S,h,strB_nums T]
theorem nums_extract (S:ByteArray) (a b:Nat):nums (S.extract a b)=((nums S).drop a).take (b - a):=by
 unfold nums
 rw [ByteArray.data_extract,Array.toList_extract,List.extract_eq_take_drop,List.map_take,List.map_drop]
def byteAt (S:ByteArray) (i:Nat):Nat:=(nums S).getD i 0
theorem byteAt_lt (S:ByteArray) (i:Nat):byteAt S i<256:=by
 unfold byteAt
 rw [List.getD_eq_getElem?_getD]
 cases e:(nums S)[i]? with
 | none=>decide
 | some x=>exact nums_dig S x (List.mem_of_getElem? e)
theorem index_any (S:ByteArray) (i:Nat) (hi:i<S.size) (w:World) :
  (Instr.index 9 (.string S) (.int .i64 (i:Int))).run Tryz.prog w = .ok (.int .u8 (byteAt S i:Int)) w:=by
 rw [run_index_string w 9 S .i64 i Tryz.underlying9,dif_pos ⟨by omega,by omega⟩]
 have e:byteAt S i=(S[i]'hi).toNat:=by
  unfold byteAt nums
  have h1:S[i]'hi=S.data.toList[i]'(by rw [Array.length_toList];exact hi):=rfl
  rw [List.getD_eq_getElem?_getD,List.getElem?_map,List.getElem?_eq_getElem (by rw [Array.length_toList];exact hi),h1]
  rfl
 rw [e]
 rfl
def cntA (S:ByteArray):Nat:=byteAt S 0
def szA (S:ByteArray) (i:Nat):Nat:=byteAt S (1+2*i)*256+byteAt S (2+2*i)
theorem szA_le (S:ByteArray) (i:Nat):szA S i≤65535:=by have:=byteAt_lt S (1+2*i);have:=byteAt_lt S (2+2*i);unfold szA;omega
def goS (S:ByteArray) (s:Nat) (l:List Sl) (a:Nat):Option (List Sl × Nat):=
 if s=0 then some (l++[none],a) else if 480<s - 1∨512 - a<s - 1 then none else some (l++[some (S.extract a (a+(s - 1)))],a+(s - 1))
def goF (S:ByteArray):Nat→Option (List Sl × Nat)
 | 0=>some ([],1+2*cntA S)
 | k+1=>match goF S k with | none=>none | some (l,a)=>goS S (szA S k) l a
def zeroB (S:ByteArray) (a:Nat):Bool:=((nums S).drop a).all (· == 0)
def parseM (S:ByteArray):Option (List Sl):=
 if 64<cntA S then none else match goF S (cntA S) with
  | none=>none
  | some (l,a)=>if 0<cntA S∧szA S (cntA S - 1)=0 then none else if zeroB S a=true then some l else none
def parseE (S:ByteArray):Int:=if S.size<512 then 3 else if 512<S.size then 2 else if (parseM S).isSome=true then 0 else 4
theorem goF_none {S:ByteArray} {k:Nat} (h:goF S k=none):∀j,k≤j→goF S j=none:=by
 intro j hj
 induction j with
 | zero=>obtain rfl:k=0:=Nat.le_zero.1 hj;exact h
 | succ j ih=>
  by_cases e:k=j+1
  ·subst e;exact h
  ·show (match goF S j with | none=>none | some (l,a)=>goS S (szA S j) l a)=none
   rw [ih (by omega)]
theorem goF_some {S:ByteArray} {k:Nat} {l:List Sl} {a:Nat} (h:goF S k=some (l,a)):goF S (k+1)=goS S (szA S k) l a:=by
 show (match goF S k with | none=>none | some (l,a)=>goS S (szA S k) l a)=_
 rw [h]
structure Go9 (S:ByteArray) (k:Nat) (l:List Sl) (a:Nat):Prop where
 len:l.length=k
 at_:a=1+2*cntA S+tot l
 le:a≤512
 szs:∀i,i<k→szc (slot l i)=szA S i
 sz:∀i,i<k→Go.Proofs.YtmbecjlioogbhaaGreatDoor.Sl.sz (slot l i)≤480
 head:headM l=((nums S).drop 1).take (2*k)
 recs:recsM l=((nums S).drop (1+2*cntA S)).take (tot l)
theorem take_getD (a:List Nat) (k:Nat) (h:k<a.length):a.take (k+1)=a.take k++[a.getD k 0]:=by
 rw [List.take_succ_eq_append_getElem h,List.getD_eq_getElem?_getD,List.getElem?_eq_getElem h];rfl
theorem go9 (S:ByteArray) (hS:S.size=512) (hc:cntA S≤64) (k:Nat) (hk:k≤cntA S) {l:List Sl} {a:Nat} (h:goF S k=some (l,a)):Go9 S k l a:=by
 have hl:(nums S).length=512:=by rw [nums_len,hS]
 induction k generalizing l a with
 | zero=>cases h;exact⟨rfl,rfl,by omega,fun i hi=>absurd hi (Nat.not_lt_zero i),fun i hi=>absurd hi (Nat.not_lt_zero i),rfl,rfl⟩
 | succ k ih=>
  cases hg:goF S k with
  | none=>rw [goF_none hg (k+1) (Nat.le_succ k)] at h;cases h
  | some x=>
   obtain⟨l0,a0⟩:=x
   have i0:=ih (by omega) hg
   rw [goF_some hg] at h
   have hhd:∀z,z=szA S k→headM l0++[z / 256,z % 256]=((nums S).drop 1).take (2*(k+1)):=by
    intro z hz
    have h1:=byteAt_lt S (1+2*k)
    have h2:=byteAt_lt S (2+2*k)
    rw [show 2*(k+1)=2*k+1+1 by omega,take_getD _ (2*k+1) (by rw [List.length_drop];omega),take_getD _ (2*k) (by rw [List.length_drop];omega),i0.head,List.append_assoc,getD_drop,getD_drop]
    congr 1
    show [z / 256,z % 256]=[byteAt S (1+2*k),byteAt S (1+(2*k+1))]
    rw [show 1+(2*k+1)=2+2*k by omega,hz]
    unfold szA
    congr 1
    ·omega
    ·congr 1;omega
   have hrc:∀n,a0+n≤512→recsM l0++nums (S.extract a0 (a0+n))=((nums S).drop (1+2*cntA S)).take (tot l0+n):=by
    intro n hn
    rw [nums_extract,Nat.add_sub_cancel_left,i0.recs,i0.at_,List.take_add,List.drop_drop]
   have hsl:∀o i,i<k+1→slot (l0++[o]) i=if i=k then o else slot l0 i:=fun o i hi=>by rw [slot_snoc,i0.len]
   unfold goS at h
   split at h
   ·rename_i hs
    cases h
    refine⟨by rw [List.length_append,i0.len];rfl,by rw [tot_append,tot_one,sz_none,Nat.add_zero];exact i0.at_,i0.le,fun i hi=>?_,fun i hi=>?_,?_,?_⟩
    ·rw [hsl _ i hi]
     split
     ·rename_i e;subst e;rw [hs];rfl
     ·exact i0.szs i (by omega)
    ·rw [hsl _ i hi]
     split
     ·decide
     ·exact i0.sz i (by omega)
    ·rw [headM_snoc];exact hhd _ (by rw [hs];rfl)
    ·rw [recsM_snoc,tot_append,tot_one,sz_none,Nat.add_zero,show nums (recOf none)=[] from rfl,List.append_nil];exact i0.recs
   ·rename_i hs
    split at h
    ·cases h
    ·rename_i hn
     cases h
     have hn1:szA S k - 1≤480:=by omega
     have hn2:a0+(szA S k - 1)≤512:=by have:=i0.le;omega
     have hes:(S.extract a0 (a0+(szA S k - 1))).size=szA S k - 1:=by
      rw [←nums_len,nums_extract,List.length_take,List.length_drop];omega
     have hsz1:Go.Proofs.YtmbecjlioogbhaaGreatDoor.Sl.sz (some (S.extract a0 (a0+(szA S k - 1))))=szA S k - 1:=hes
     have hzc:szc (some (S.extract a0 (a0+(szA S k - 1))))=szA S k:=by unfold szc;rw [hsz1];simp;omega
     refine⟨by rw [List.length_append,i0.len];rfl,by rw [tot_append,tot_one,hsz1,←Nat.add_assoc,←i0.at_],hn2,fun i hi=>?_,fun i hi=>?_,?_,?_⟩
     ·rw [hsl _ i hi]
      split
      ·rename_i e;subst e;exact hzc
      ·exact i0.szs i (by omega)
     ·rw [hsl _ i hi]
      split
      ·rw [hsz1];exact hn1
      ·exact i0.sz i (by omega)
     ·rw [headM_snoc];exact hhd _ hzc
     ·rw [recsM_snoc,tot_append,tot_one,hsz1]
      exact hrc _ hn2
theorem zero_drop {S:ByteArray} {a:Nat} (h:zeroB S a=true):(nums S).drop a=List.replicate ((nums S).length - a) 0:=by
 unfold zeroB at h
 apply List.eq_replicate_iff.2
 refine⟨List.length_drop,fun x hx=>?_⟩
 simpa using List.all_eq_true.1 h x hx
theorem parse_ok {S:ByteArray} (hS:S.size=512) {l:List Sl} (h:parseM S=some l):Okp l∧bytesS l=S:=by
 have hl:(nums S).length=512:=by rw [nums_len,hS]
 unfold parseM at h
 split at h
 ·cases h
 ·rename_i hc
  cases hg:goF S (cntA S) with
  | none=>rw [hg] at h;cases h
  | some x=>
   obtain⟨l0,a⟩:=x
   rw [hg] at h
   simp only at h
   split at h
   ·cases h
   ·rename_i hlast
    split at h
    ·rename_i hz
     cases h
     have i0:=go9 S hS (by omega) _ (Nat.le_refl _) hg
     have hneed:need l=a:=by unfold need;rw [i0.at_,i0.len]
     have hok:Okp l:=okp_of (by rw [i0.len];omega) (by rw [hneed];exact i0.le) (by
      rcases Nat.eq_zero_or_pos (cntA S) with e | e
      ·left;exact List.length_eq_zero_iff.1 (by rw [i0.len,e])
      ·right
       rw [i0.len]
       have h1:=i0.szs (cntA S - 1) (by omega)
       have h2:szA S (cntA S - 1)≠0:=fun e2=>hlast ⟨e,e2⟩
       unfold szc at h1
       split at h1
       ·assumption
       ·omega) (fun i hi=>i0.sz i (by rw [←i0.len];exact hi))
     refine⟨hok,nums_inj ?_⟩
     unfold bytesS
     rw [nums_strB (bytesM_dig hok)]
     unfold bytesM
     have hzd:=zero_drop hz
     rw [hl] at hzd
     rw [hneed,←hzd,i0.head,i0.recs,i0.len]
     have e1:nums S=[cntA S]++(nums S).drop 1:=by
      show nums S=[(nums S).getD 0 0]++(nums S).drop 1
      have:=take_getD (nums S) 0 (by omega)
      have h2:=List.take_append_drop 1 (nums S)
      rw [show (1:Nat)=0+1 from rfl,this] at h2
      simpa using h2.symm
     have e2:(nums S).drop 1=((nums S).drop 1).take (2*cntA S)++(nums S).drop (1+2*cntA S):=by
      have:=List.take_append_drop (2*cntA S) ((nums S).drop 1)
      rw [List.drop_drop] at this
      exact this.symm
     have e3:(nums S).drop (1+2*cntA S)=((nums S).drop (1+2*cntA S)).take (tot l)++(nums S).drop a:=by
      have:=List.take_append_drop (tot l) ((nums S).drop (1+2*cntA S))
      rw [List.drop_drop] at this
      rw [i0.at_]
      exact this.symm
     conv=>rhs;rw [e1,e2,e3]
     simp only [List.append_assoc]
    ·cases h
theorem headM_get (l:List Sl) (i:Nat) (h:i<l.length):(headM l).getD (2*i) 0=szc (slot l i) / 256∧(headM l).getD (2*i+1) 0=szc (slot l i) % 256:=by
 induction l generalizing i with
 | nil=>cases h
 | cons a l ih=>
  cases i with
  | zero=>exact⟨rfl,rfl⟩
  | succ i=>
   have h2:=ih i (by simpa using h)
   have e:headM (a :: l)=szc a / 256 :: szc a % 256 :: headM l:=rfl
   rw [e,show 2*(i+1)=2*i+1+1 by omega]
   exact h2
theorem recsM_split (l:List Sl) (k:Nat) (h:k<l.length):recsM l=recsM (l.take k)++(nums (recOf (slot l k))++recsM (l.drop (k+1))):=by
 have e:l=l.take k++([slot l k]++l.drop (k+1)):=by
  rw [←List.append_assoc,←take_slot h,List.take_append_drop]
 conv=>lhs;rw [e]
 unfold recsM
 rw [List.flatMap_append,List.flatMap_append]
 simp
theorem parse_back {l:List Sl} (h:Okp l):parseM (bytesS l)=some l:=by
 have hn:nums (bytesS l)=bytesM l:=by unfold bytesS;exact nums_strB (bytesM_dig h)
 have hB:bytesM l=l.length :: (headM l++(recsM l++List.replicate (512 - need l) 0)):=by unfold bytesM;simp
 have hc:cntA (bytesS l)=l.length:=by unfold cntA byteAt;rw [hn,hB];rfl
 have hs:∀i,i<l.length→szA (bytesS l) i=szc (slot l i):=by
  intro i hi
  obtain⟨h1,h2⟩:=headM_get l i hi
  have hl1:2*i+1<(headM l).length:=by rw [headM_len];omega
  have b1:byteAt (bytesS l) (1+2*i)=szc (slot l i) / 256:=by
   unfold byteAt;rw [hn,hB,show 1+2*i=2*i+1 by omega]
   show (headM l++_).getD (2*i) 0=_
   rw [List.getD_eq_getElem?_getD,List.getElem?_append_left (by omega),←List.getD_eq_getElem?_getD];exact h1
  have b2:byteAt (bytesS l) (2+2*i)=szc (slot l i) % 256:=by
   unfold byteAt;rw [hn,hB,show 2+2*i=2*i+1+1 by omega]
   show (headM l++_).getD (2*i+1) 0=_
   rw [List.getD_eq_getElem?_getD,List.getElem?_append_left hl1,←List.getD_eq_getElem?_getD];exact h2
  unfold szA
  rw [b1,b2];omega
 have hrec:∀k,k<l.length→(bytesS l).extract (1+2*l.length+tot (l.take k)) (1+2*l.length+tot (l.take k)+sz (slot l k))=recOf (slot l k):=by
  intro k hk
  apply nums_inj
  rw [nums_extract,Nat.add_sub_cancel_left,hn,hB]
  have e1:(l.length :: (headM l++(recsM l++List.replicate (512 - need l) 0))).drop (1+2*l.length+tot (l.take k))=nums (recOf (slot l k))++(recsM (l.drop (k+1))++List.replicate (512 - need l) 0):=by
   rw [show 1+2*l.length+tot (l.take k)=((2*l.length)+tot (l.take k))+1 by omega,List.drop_succ_cons,←List.drop_drop,List.drop_left' (headM_len l),recsM_split l k hk,List.append_assoc,List.append_assoc,List.drop_left' (recsM_len _)]
  rw [e1]
  exact List.take_left' (nums_len (recOf (slot l k)))
 have hg:∀k,k≤l.length→goF (bytesS l) k=some (l.take k,1+2*l.length+tot (l.take k)):=by
  intro k
  induction k with
  | zero=>intro _;show some (([]:List Sl),1+2*cntA (bytesS l))=_;rw [hc];rfl
  | succ k ih=>
   intro hk
   rw [goF_some (ih (by omega)),hs k (by omega),take_slot (by omega),tot_append,tot_one]
   have h1:=h.szs k
   have h2:=hrec k (by omega)
   have h3:=tot_take_succ (l:=l) (k:=k) (by omega)
   have h4:=tot_take_le l (k+1)
   have h5:=h.need
   unfold need at h5
   unfold goS
   cases e:slot l k with
   | none=>rw [if_pos (show szc none=0 from rfl),sz_none,Nat.add_zero]
   | some r=>
    rw [e] at h1 h2 h3
    have e2:szc (some r)=sz (some r)+1:=rfl
    rw [e2,if_neg (by omega),if_neg (by omega),Nat.add_sub_cancel,h2,Nat.add_assoc]
    rfl
 unfold parseM
 rw [hc,if_neg (by have:=h.len;omega),hg l.length (Nat.le_refl _),List.take_length]
 simp only
 rw [if_neg,if_pos]
 ·unfold zeroB
  rw [hn]
  unfold bytesM
  rw [List.drop_left' (by rw [List.length_append,List.length_append,headM_len,recsM_len];rfl)]
  simp
 ·rintro ⟨h1,h2⟩
  rw [hs _ (by omega)] at h2
  have:=h.last.resolve_left (fun e=>by subst e;simp at h1)
  unfold szc at h2
  rw [if_pos this] at h2
  omega
end Sl
end
section
namespace Sl
open Go.RowKit
def strLen:Value→Nat
 | .string S=>S.size
 | _=>0
theorem extract_size (S:ByteArray) (a b:Nat) (h1:a≤b) (h2:b≤S.size):(S.extract a b).size=b - a:=by
 rw [←nums_len,nums_extract,List.length_take,List.length_drop,nums_len];omega
theorem byteAt_extract (S:ByteArray) (a b i:Nat) (h:i<b - a):byteAt (S.extract a b) i=byteAt S (a+i):=by
 unfold byteAt
 rw [nums_extract,List.getD_eq_getElem?_getD,List.getElem?_take_of_lt h,List.getElem?_drop,←List.getD_eq_getElem?_getD]
structure TrR (S T:ByteArray):Prop where
 le:T.size≤S.size
 same:∀j,j<T.size→byteAt T j=byteAt S j
 zero:∀j,T.size≤j→j<S.size→byteAt S j=0
 last:0<T.size→byteAt T (T.size - 1)≠0
structure TrL (S T:ByteArray):Prop where
 le:T.size≤S.size
 zero:∀j,j+T.size<S.size→byteAt S j=0
set_option maxHeartbeats 800000 in
theorem trimR_any (S:ByteArray) (w:World) (hS:S.size≤512):Calls Tryz.prog 227 #[.string S,.int .u8 0] w fun e w'=>(∃T,e = .returned (.string T)∧TrR S T)∧w=w':=by
 go_enter Tryz.func227,Tryz.ntmps227
 go_wp2_with fail
 go_loop [0] (fun v=>∃(T:ByteArray) (m:Nat),v = .string T∧Hid (T.size=m∧m≤S.size∧(∀j,j<m→byteAt T j=byteAt S j)∧(∀j,m≤j→j<S.size→byteAt S j=0))) (fun v=>strLen v)
 case atStart=>exact⟨S,S.size,rfl,Lib.hid ⟨rfl,Nat.le_refl _,fun _ _=>rfl,fun j h1 h2=>by omega⟩⟩
 case round=>
  obtain⟨T,m,rfl,hH⟩:=hrel
  have hm:=hH.out.1
  have hm2:m≤512:=Nat.le_trans hH.out.2.1 hS
  rcases Nat.eq_zero_or_pos m with h0 | h0
  ·subst h0
   go_wp2_with fail
   go_ret
   exact⟨⟨T,rfl,by rw [hH.out.1];exact hH.out.2.1,fun j hj=>hH.out.2.2.1 j (by rw [←hH.out.1];exact hj),fun j h1 h2=>hH.out.2.2.2 j (by rw [←hH.out.1];exact h1) h2,fun h=>by have:=hH.out.1;omega⟩,rfl⟩
  ·obtain⟨t,rfl⟩:∃t,m=t+1:=⟨m - 1,by omega⟩
   have hix:=index_any T t (by omega)
   have HB:Hid (byteAt T t=byteAt S t):=Lib.hid (hH.out.2.2.1 t (Nat.lt_succ_self t))
   have HT:Hid (T.size=t+1):=Lib.hid hm
   have htz:(T.size:Int) - 1=(t:Int):=by omega
   have hpos:decide ((0:Int)<(T.size:Int))=true:=by simp;omega
   have hlt:(t:Int)<(T.size:Int):=by omega
   have hle:t≤T.size:=by omega
   clear hm
   by_cases hz:byteAt T t=0
   ·rw [hz] at hix HB
    clear hz
    go_wp2_with fail
    go_round
    case rel=>
     refine⟨_,t,rfl,Lib.hid ⟨extract_size T 0 t (Nat.zero_le _) hle,by have:=hH.out.2.1;omega,fun j hj=>?_,fun j h1 h2=>?_⟩⟩
     ·rw [byteAt_extract T 0 t j (by omega),Nat.zero_add]
      exact hH.out.2.2.1 j (by omega)
     ·rcases Nat.lt_or_ge t j with h3 | h3
      ·exact hH.out.2.2.2 j h3 h2
      ·obtain rfl:j=t:=by omega
       exact HB.out.symm
    case measure=>
     have:=extract_size T 0 t (Nat.zero_le _) hle
     simp [strLen];omega
   ·have hbz:((byteAt T t:Int) == 0)=false:=by simp;omega
    have HZ:=Lib.hid hz
    clear hz
    go_wp2_with fail
    go_ret
    exact⟨⟨T,rfl,by rw [HT.out];exact hH.out.2.1,fun j hj=>hH.out.2.2.1 j (by rw [←HT.out];exact hj),fun j h1 h2=>hH.out.2.2.2 j (by rw [←HT.out];exact h1) h2,fun _=>by rw [HT.out,Nat.add_sub_cancel];exact HZ.out⟩,rfl⟩
set_option maxHeartbeats 800000 in
theorem trimL_any (S:ByteArray) (w:World) (hS:S.size≤512):Calls Tryz.prog 226 #[.string S,.int .u8 0] w fun e w'=>(∃T,e = .returned (.string T)∧TrL S T∧(0<T.size→byteAt T 0≠0))∧w=w':=by
 go_enter Tryz.func226,Tryz.ntmps226
 go_wp2_with fail
 go_loop [0] (fun v=>∃(T:ByteArray) (m k:Nat),v = .string T∧Hid (T.size=m∧m+k=S.size∧(∀j,j<m→byteAt T j=byteAt S (k+j))∧(∀j,j<k→byteAt S j=0))) (fun v=>strLen v)
 case atStart=>exact⟨S,S.size,0,rfl,Lib.hid ⟨rfl,rfl,fun j _=>by rw [Nat.zero_add],fun j h1=>absurd h1 (Nat.not_lt_zero j)⟩⟩
 case round=>
  obtain⟨T,m,k,rfl,hH⟩:=hrel
  have hm:=hH.out.1
  have hm2:m≤512:=by have:=hH.out.2.1;omega
  have HF:Hid (TrL S T):=Lib.hid ⟨by have:=hH.out.2.1;omega,fun j hj=>hH.out.2.2.2 j (by have:=hH.out.2.1;omega)⟩
  rcases Nat.eq_zero_or_pos m with h0 | h0
  ·subst h0
   go_wp2_with fail
   go_ret
   exact⟨⟨T,rfl,HF.out,fun h=>by have:=hH.out.1;omega⟩,rfl⟩
  ·obtain⟨t,rfl⟩:∃t,m=t+1:=⟨m - 1,by omega⟩
   have hix:∀w,(Instr.index 9 (.string T) (.int .i64 0)).run Tryz.prog w = .ok (.int .u8 (byteAt T 0:Int)) w:=index_any T 0 (by omega)
   have HB:Hid (byteAt T 0=byteAt S k):=Lib.hid (hH.out.2.2.1 0 (by omega))
   have HT:Hid (T.size=t+1):=Lib.hid hm
   have hpos:decide ((0:Int)<(T.size:Int))=true:=by simp;omega
   have hlt:(0:Int)<(T.size:Int):=by omega
   have hle:1≤T.size:=by omega
   clear hm
   by_cases hz:byteAt T 0=0
   ·have hix0:∀w,(Instr.index 9 (.string T) (.int .i64 0)).run Tryz.prog w = .ok (.int .u8 0) w:=fun w=>by have:=hix w;rw [hz] at this;exact this
    rw [hz] at HB
    clear hix
    clear hz
    go_wp2_with fail
    go_round
    case rel=>
     refine⟨_,t,k+1,rfl,Lib.hid ⟨?_,by have:=hH.out.2.1;omega,fun j hj=>?_,fun j h1=>?_⟩⟩
     ·rw [extract_size T 1 T.size hle (Nat.le_refl _),HT.out];rfl
     ·rw [byteAt_extract T 1 T.size j (by have:=HT.out;omega),hH.out.2.2.1 (1+j) (by omega)]
      congr 1;omega
     ·rcases Nat.lt_or_ge j k with h3 | h3
      ·exact hH.out.2.2.2 j h3
      ·obtain rfl:j=k:=by omega
       exact HB.out.symm
    case measure=>
     have h1:=extract_size T 1 T.size hle (Nat.le_refl _)
     have h2:=HT.out
     simp [strLen];omega
   ·have hbz:((byteAt T 0:Int) == 0)=false:=by simp;omega
    have HZ:=Lib.hid hz
    clear hz
    go_wp2_with fail
    go_ret
    exact⟨⟨T,rfl,HF.out,fun _=>HZ.out⟩,rfl⟩
def allZ (S:ByteArray):Prop:=∀j,j<S.size→byteAt S j=0
theorem trim_zero {S T U:ByteArray} (h:TrR S T) (k:TrL T U):U.size=0↔allZ S:=by
 constructor
 ·intro hu j hj
  rcases Nat.lt_or_ge j T.size with h1 | h1
  ·exfalso
   have h2:=k.zero (T.size - 1) (by omega)
   exact h.last (by omega) h2
  ·exact h.zero j h1 hj
 ·intro hz
  have:T.size=0:=by
   rcases Nat.eq_zero_or_pos T.size with h0 | h0
   ·exact h0
   ·exfalso
    have h1:=h.last h0
    rw [h.same _ (by omega)] at h1
    exact h1 (hz _ (by have:=h.le;omega))
  have:=k.le
  omega
set_option maxRecDepth 20000 in
set_option maxHeartbeats 1600000 in
theorem trim_any (S:ByteArray) (w:World) (hS:S.size≤512):Calls Tryz.prog 198 #[.string S,.string ⟨#[0]⟩] w fun e w'=>(∃U,e = .returned (.string U)∧(U.size=0↔allZ S))∧Below w.heap.size w w':=by
 rcases Nat.eq_zero_or_pos S.size with h0 | h0
 ·have hz:Hid (S.size=0↔allZ S):=Lib.hid ⟨fun _ j hj=>by omega,fun _=>h0⟩
  have hS0:S=⟨#[]⟩:=nums_inj (by
   have h1:(nums S).length=0:=by rw [nums_len,h0]
   rw [List.length_eq_zero_iff.1 h1];rfl)
  subst hS0
  go_enter Tryz.func198,Tryz.ntmps198
  go_wp2_with fail
  go_ret
  exact⟨⟨_,rfl,hz.out⟩,Below.refl _ _⟩
 ·have HR:=Lib.hid (trimR_any S · hS)
  have hne:S.toList.isEmpty=false:=by
   rw [Go.Lib.toList_data]
   cases e:S.data.toList with
   | nil=>
    have h2:S.data.toList.length=S.size:=by rw [Array.length_toList];rfl
    rw [e] at h2
    simp at h2
    omega
   | cons x l=>rfl
  have hix:∀w,(Instr.index 9 (.string ⟨#[0]⟩) (.int .i64 0)).run Tryz.prog w = .ok (.int .u8 0) w:=index_any ⟨#[0]⟩ 0 (by decide)
  go_enter Tryz.func198,Tryz.ntmps198
  go_wp2_with fail
  go_region_with (first
   | (go_at_call 227;refine(HR.out _).mono ?_;rintro e w1 ⟨⟨T1,rfl,h1⟩,rfl⟩;have HT1:=Lib.hid h1;have HL:=Lib.hid (trimL_any T1 · (Nat.le_trans h1.le hS));clear h1)
   | (go_at_call 226;refine(HL.out _).mono ?_;rintro e w1 ⟨⟨U,rfl,h1,_⟩,rfl⟩;have HU:=Lib.hid h1;clear h1))
  all_goals
   go_wp2_with fail
   go_ret
   exact⟨⟨U,rfl,trim_zero HT1.out HU.out⟩,by first | exact Below.refl _ _ | exact(Below.refl _ _).drew⟩
end Sl
end
section
set_option maxRecDepth 20000
open Go.RowKit
def joinB (f:Nat→List Nat):Nat→List Nat
 | 0=>[]
 | n+1=>joinB f n++f n
theorem joinB_dig {f:Nat→List Nat}:∀ {n:Nat},(∀i,i<n→∀x∈f i,x<256)→∀x∈joinB f n,x<256
 | 0,_,x,h=>by cases h
 | n+1,hd,x,h=>(List.mem_append.1 h).elim (joinB_dig (fun i hi=>hd i (by omega)) x) (hd n (by omega) x)
theorem join_flat (xs:List (List UInt8)):Go.Lib.join xs []=xs.flatten:=by
 cases xs with
 | nil=>rfl
 | cons x r=>
  rw [Go.Lib.join_cons]
  unfold Go.Lib.joinTail
  simp
theorem join_strL (f:Nat→List Nat) (n:Nat):Go.Lib.join (((List.range n).map fun i=>strB (f i)).map (·.data.toList)) []=(joinB f n).map fun x=>UInt8.ofNat x:=by
 rw [join_flat,List.map_map]
 induction n with
 | zero=>rfl
 | succ n ih=>
  rw [List.range_succ,List.map_append,List.flatten_append,ih]
  show _++([_]:List (List UInt8)).flatten=List.map _ (joinB f n++f n)
  rw [List.map_append]
  simp [strB_list]
theorem join_strB (f:Nat→List Nat) (n:Nat):(⟨(Go.Lib.join (((List.range n).map fun i=>strB (f i)).map (·.data.toList)) []).toArray⟩:ByteArray)=strB (joinB f n):=by
 apply list_eq
 rw [strB_list]
 exact join_strL f n
theorem empty_data:(⟨#[]⟩:ByteArray).data.toList=[]:=rfl
theorem join_any {w:World} {B n:Nat} {v:Value} {f:Nat→List Nat} (h:OwnT w B v f n) (hn:n≤1000) (hl:(joinB f n).length≤1000000) :
  Calls Tryz.prog 233 #[v,.string ⟨#[]⟩] w fun e w'=>e = .returned (.string (strB (joinB f n)))∧Below w.heap.size w w':=by
 obtain⟨p,c,rfl,ho⟩:=h
 have hx:((List.range n).map fun i=>strB (f i)).length=n:=by simp
 rcases ho.2 with ⟨e,h0⟩ | ⟨g,cap,cur,e,hb,hh,h1,h2,h3,h4⟩
 ·subst h0
  cases e
  exact(Tryz.strings_Join_none none 0 ⟨#[]⟩ w).mono (by rintro e w' ⟨rfl,rfl⟩;exact⟨rfl,Below.refl _ _⟩)
 ·cases e
  have hln:(Go.Lib.join (((List.range n).map fun i=>strB (f i)).map (·.data.toList)) (⟨#[]⟩:ByteArray).data.toList).length≤140737488355328:=by
   rw [empty_data,join_strL,List.length_map];omega
  have hj:=Tryz.strings_Join g 0 c ((List.range n).map fun i=>strB (f i)) ⟨#[]⟩ w (fun j x hj=>by
    have hjn:j<n:=by have:=(List.getElem?_eq_some_iff.1 hj).1;rwa [hx] at this
    rw [Nat.zero_add,cell_of_row _ _ _ _ _ _ hh]
    have h5:=txL_get f n j hjn
    rw [←h4,List.getElem?_take,if_pos (by omega)] at h5
    rw [List.getElem?_map,List.getElem?_range hjn] at hj
    cases hj
    simpa using h5) (lt_of_block hh) (by rw [hx];omega) (by rw [hx];exact h1) hln
  rw [hx,empty_data,join_strB] at hj
  exact hj
end
section
set_option maxRecDepth 20000
open Go.RowKit
def zerosB (s:List Nat):Bool:=s.all fun x=>x == 0
theorem allZ_iff {S:ByteArray} {s:List Nat} (h:IsS S s):Sl.allZ S↔zerosB s=true:=by
 have hs:=h.size
 have hn:Sl.nums S=s:=by rw [h.eq];exact Sl.nums_strB h.dig
 unfold Sl.allZ Sl.byteAt zerosB
 rw [hn,hs,List.all_eq_true]
 constructor
 ·intro h1 x hx
  obtain⟨i,hi,rfl⟩:=List.mem_iff_getElem.1 hx
  have:=h1 i hi
  rw [List.getD_eq_getElem?_getD,List.getElem?_eq_getElem hi] at this
  simpa using this
 ·intro h1 j hj
  have:=h1 s[j] (List.getElem_mem hj)
  rw [List.getD_eq_getElem?_getD,List.getElem?_eq_getElem hj]
  simpa using this
theorem empty_of_size {U:ByteArray}:U.toList.isEmpty=decide (U.size=0):=by
 rw [Go.Lib.toList_data]
 by_cases h:U.size=0
 ·rw [decide_eq_true h]
  have:U.data.toList.length=0:=by rw [Array.length_toList];exact h
  rw [List.eq_nil_of_length_eq_zero this];rfl
 ·rw [decide_eq_false h]
  have:U.data.toList.length≠0:=by rw [Array.length_toList];exact h
  cases e:U.data.toList with
  | nil=>rw [e] at this;exact absurd rfl this
  | cons x r=>rfl
set_option maxHeartbeats 3200000 in
theorem joined_any {w:World} {B n:Nat} {v:Value} {f:Nat→List Nat} (D:Nat) (h:OwnT w B v f n) (hn:n≤1000) (hd:∀i,i<n→∀x∈f i,x<256) (hl:(joinB f n).length≤100000) (hD:D≤(joinB f n).length) (hD2:(joinB f n).length≤D+512) :
  Calls Tryz.prog 200 #[v,.int .i64 (D:Int)] w fun e w'=>e = .returned (.tuple #[.string (strB ((joinB f n).take D)),.bool (zerosB ((joinB f n).drop D))])∧Below w.heap.size w w':=by
 have HJ:=Lib.hid (join_any h hn (by omega))
 have hJ:IsS (strB (joinB f n)) (joinB f n):=IsS.mk_ _ (joinB_dig hd)
 generalize joinB f n=s at *
 obtain⟨L,hL⟩:∃L,s.length=L:=⟨_,rfl⟩
 have hsz:=hJ.size
 rw [hL] at hl hD hD2 hsz
 have HL:=Lib.hid hL
 have h1:IsS ((strB s).extract 0 D) (s.take D):=by
  have:=hJ.ext 0 D
  rwa [List.drop_zero,Nat.sub_zero] at this
 have h2:IsS ((strB s).extract D L) (s.drop D):=by
  have:=hJ.ext D L
  rwa [List.take_of_length_le (by rw [List.length_drop,hL];exact Nat.le_refl _)] at this
 have HE1:=Lib.hid h1.eq
 have HTR:Hid (∀w1,Calls Tryz.prog 198 #[.string ((strB s).extract D L),.string ⟨#[0]⟩] w1 fun e w'=>∃U,e = .returned (.string U)∧U.toList.isEmpty=zerosB (s.drop D)∧Below w1.heap.size w1 w'):=Lib.hid fun w1=>(Sl.trim_any _ w1 (by rw [h2.size,List.length_drop,hL];omega)).mono (by
  rintro e w' ⟨⟨U,rfl,hU⟩,hb⟩
  refine⟨U,rfl,?_,hb⟩
  rw [empty_of_size]
  cases hz:zerosB (s.drop D) with
  | true=>exact decide_eq_true (hU.2 ((allZ_iff h2).2 hz))
  | false=>exact decide_eq_false (fun h0=>by rw [(allZ_iff h2).1 (hU.1 h0)] at hz;cases hz))
 have hDI:(D:Int)≤(L:Int):=by omega
 have hLI:(L:Int)≤100000:=by omega
 have hDn:(D:Int)≤100000:=by omega
 clear h hJ h1 h2 hL hd
 generalize hS:strB s=S at *
 clear hS
 go_enter Tryz.func200,Tryz.ntmps200
 go_upto_region 2 with (go_at_call 233;with_reducible refine HJ.out.mono ?_;rintro e w2 ⟨rfl,hb2⟩)
 have HB2:=Lib.hid hb2
 clear hb2
 go_region_with (go_at_call 198;with_reducible refine(HTR.out _).mono ?_;rintro e w3 ⟨U,rfl,hemp,hb3⟩;have HB3:=Lib.hid hb3;clear hb3)
 go_wp2_with fail
 go_ret2
 exact⟨by rw [←HE1.out];rfl,HB2.out.trans (((Below.refl _ w2).drew.trans HB3.out).mono HB2.out.size)⟩
end
section
set_option maxRecDepth 20000
open Go.RowKit
def lab (r:Rt) (lv tb:Nat→Nat) (n:Nat):Nat:=if n=0 then r.dr.toNat else if n<5 then lv (n - 1) else tb (n - 5)
theorem lab_dir (r:Rt) (lv tb:Nat→Nat):lab r lv tb 0=r.dr.toNat:=rfl
theorem lab_lv (r:Rt) (lv tb:Nat→Nat) (i:Nat) (h:i<4):lab r lv tb (i+1)=lv i:=by unfold lab;rw [if_neg (by omega),if_pos (by omega)];rfl
theorem lab_tb (r:Rt) (lv tb:Nat→Nat) (l:Nat):lab r lv tb (l+5)=tb l:=by unfold lab;rw [if_neg (by omega),if_neg (by omega)];rfl
def labs (P:Nat→Nat) (l:List Nat):List Int:=(l.filter fun n=>!(P n == 0)).map fun n=>((P n:Nat):Int)
theorem labs_app (P:Nat→Nat) (a b:List Nat):labs P (a++b)=labs P a++labs P b:=by unfold labs;rw [List.filter_append,List.map_append]
theorem labs_map (P Q:Nat→Nat) (f:Nat→Nat) (l:List Nat) (h:∀n∈l,P (f n)=Q n):labs P (l.map f)=labs Q l:=by
 unfold labs
 induction l with
 | nil=>rfl
 | cons x l ih=>
  have hx:=h x (by simp)
  have ih:=ih (fun n hn=>h n (by simp [hn]))
  rw [List.map_cons,List.filter_cons,List.filter_cons,hx]
  cases e:!(Q x == 0)
  ·simp only [Bool.false_eq_true,if_false];exact ih
  ·simp only [if_true,List.map_cons,hx];rw [ih]
theorem claims_labs (r:Rt) (lv tb:Nat→Nat) (hd:2≤r.dr):claims r lv tb=labs (lab r lv tb) (List.range 517):=by
 have e:List.range 517=[0]++((List.range 4).map (fun i=>i+1)++(List.range 512).map (fun l=>l+5)):=by decide +kernel
 rw [e,labs_app,labs_app,labs_map (lab r lv tb) lv (fun i=>i+1) _ (fun n hn=>lab_lv r lv tb n (List.mem_range.1 hn)),labs_map (lab r lv tb) tb (fun l=>l+5) _ (fun n _=>lab_tb r lv tb n)]
 have h0:labs (lab r lv tb) [0]=[r.dr]:=by
  unfold labs
  rw [List.filter_cons,lab_dir]
  have:(r.dr.toNat == 0)=false:=by rw [beq_eq_false_iff_ne];omega
  rw [this]
  simp [lab_dir];omega
 rw [h0]
 unfold claims labs
 rfl
theorem clm_ok {pg:Int} {f:Nat→Bool} {x:Nat} (h:(x:Int)<pg) (hp:pg≤512) (hf:f x=false):clm pg (f,true) (x:Int)=(Bi.upd f x true,true):=by
 unfold clm
 rw [if_pos h]
 have hx:(0:Int)≤(x:Int)∧(x:Int)<((512:Nat):Int):=by omega
 unfold Bi.putI Bi.newI
 rw [if_pos hx,decide_eq_true hx]
 unfold Bi.hasI
 simp [hf]
structure Apart (P:Nat→Nat) (l:List Nat) (pg:Int):Prop where
 lt:∀n∈l,P n≠0→(P n:Int)<pg
 inj:∀n∈l,∀k∈l,P n≠0→P n=P k→n=k
def inL (P:Nat→Nat) (l:List Nat) (p:Nat):Bool:=l.any fun n=>P n == p && !(p == 0)
theorem inL_iff {P:Nat→Nat} {l:List Nat} {p:Nat}:inL P l p=true↔p≠0∧∃n∈l,P n=p:=by
 unfold inL
 rw [List.any_eq_true]
 constructor
 ·rintro ⟨n,hn,h⟩
  simp at h
  exact⟨h.2,n,hn,h.1⟩
 ·rintro ⟨h0,n,hn,h⟩
  exact⟨n,hn,by simp [h,h0]⟩
theorem fold_labs {P:Nat→Nat} {pg:Int} (hp:pg≤512):∀(l:List Nat) (f:Nat→Bool),l.Nodup→Apart P l pg→(∀n∈l,P n≠0→f (P n)=false) →
  (labs P l).foldl (clm pg) (f,true)=((fun p=>f p || inL P l p),true)
 | [],f,_,_,_=>by
  unfold labs inL;simp
 | x :: l,f,hn,hA,hf=>by
  obtain⟨hx,hn2⟩:=List.nodup_cons.1 hn
  have hA2:Apart P l pg:=⟨fun n h=>hA.lt n (by simp [h]),fun n h k hk=>hA.inj n (by simp [h]) k (by simp [hk])⟩
  by_cases h0:P x=0
  ·have e:labs P (x :: l)=labs P l:=by unfold labs;rw [List.filter_cons,h0];rfl
   rw [e,fold_labs hp l f hn2 hA2 (fun n h=>hf n (by simp [h]))]
   congr 1
   funext p
   congr 1
   unfold inL
   rw [List.any_cons,h0]
   cases e2:((0:Nat) == p && !(p == 0))
   ·simp
   ·simp at e2;omega
  ·have e:labs P (x :: l)=((P x:Nat):Int) :: labs P l:=by
    unfold labs
    rw [List.filter_cons]
    have:(!(P x == 0))=true:=by simp [h0]
    rw [if_pos this];rfl
   rw [e,List.foldl_cons,clm_ok (hA.lt x (by simp) h0) hp (hf x (by simp) h0),fold_labs hp l _ hn2 hA2 (fun n h hz=>by
    have hne:P n≠P x:=fun e=>hx (by rw [←hA.inj n (by simp [h]) x (by simp) hz e];exact h)
    rw [Bi.upd_other _ _ _ _ hne]
    exact hf n (by simp [h]) hz)]
   congr 1
   funext p
   unfold inL
   rw [List.any_cons]
   by_cases e2:p=P x
   ·subst e2
    rw [Bi.upd_same]
    simp [h0]
   ·rw [Bi.upd_other _ _ _ _ e2]
    have:(P x == p)=false:=by rw [beq_eq_false_iff_ne];exact fun h=>e2 h.symm
    rw [this]
    simp
def usF (r:Rt) (lv tb:Nat→Nat):Nat→Bool:=inL (lab r lv tb) (List.range 517)
abbrev ApartS (r:Rt) (lv tb:Nat→Nat):Prop:=Apart (lab r lv tb) (List.range 517) r.pg
theorem pgsM_yes {r:Rt} {lv tb:Nat→Nat} (hd:2≤r.dr) (hp:r.pg≤512) (hA:ApartS r lv tb):pgsM r lv tb=(usF r lv tb,true):=by
 unfold pgsM
 rw [claims_labs r lv tb hd,fold_labs hp _ _ List.nodup_range hA (fun _ _ _=>rfl)]
 congr 1
theorem usF_iff {r:Rt} {lv tb:Nat→Nat} {p:Nat}:usF r lv tb p=true↔p≠0∧∃n,n<517∧lab r lv tb n=p:=by
 unfold usF
 rw [inL_iff]
 simp only [List.mem_range]
end
end Go.Proofs.YtmbecjlioogbhaaGreatDoor
