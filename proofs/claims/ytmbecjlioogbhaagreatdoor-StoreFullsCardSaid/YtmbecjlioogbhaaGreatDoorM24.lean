/- Texts YMdlA to YRoomy of this seat, laid into one. -/
import Derived.Test.YtmbecjlioogbhaaGreatDoorM02
import Derived.Test.YtmbecjlioogbhaaGreatDoorM16
import Derived.Test.YtmbecjlioogbhaaGreatDoorM22
import Derived.Test.YtmbecjlioogbhaaGreatDoorM23
set_option linter.unusedVariables false
set_option linter.unusedSimpArgs false
set_option linter.constructorNameAsVariable false
section
set_option maxRecDepth 20000
namespace Go.Proofs.YtmbecjlioogbhaaGreatDoor
open Go.RowKit
section
variable {y:Nat→List Nat} {n:Nat} {F:Nat→Nat} {X:Nat} {q:Nat→Option (List Sl.Sl)} {T:Nat→Option (List Nat × List Nat)} {U:Nat→Nat}
theorem partB_nil (F:Nat→Nat) (i:Nat):partB F i≠[]:=fun e=>by have:=(partB_ok F i).1;rw [e] at this;cases this
abbrev cellN (i:Nat):Nat:=i / 128*129+1+i % 128
theorem spF_upd (F:Nat→Nat) (i v k:Nat):spF (Tb.updN F (cellN i) v) k=if k=i then v else spF F k:=by
 unfold spF
 by_cases e:k=i
 ·rw [if_pos e,e,Tb.updN_same]
 ·rw [if_neg e,Tb.updN_other _ _ _ _ (by unfold cellN;omega)]
theorem page_upd (F:Nat→Nat) (i v k:Nat):Tb.updN F (cellN i) v (k*129)=F (k*129):=Tb.updN_other _ _ _ _ (by unfold cellN;omega)
theorem sg_upd {F:Nat→Nat} {n X i v k:Nat} (hi:i<n*128):sg (Tb.updN F (cellN i) v) n X k=if k=i then v else sg F n X k:=by
 unfold sg
 rw [spF_upd]
 by_cases e:k=i
 ·rw [if_pos (by omega),if_pos e,if_pos e]
 ·rw [if_neg e,if_neg e]
theorem partB_upd {F:Nat→Nat} {i v k:Nat} (h:k≠i / 128):partB (Tb.updN F (cellN i) v) k=partB F k:=
 partB_congr fun j hj=>Tb.updN_other _ _ _ _ (by unfold cellN;omega)
theorem head_upd (F:Nat→Nat) (i v n:Nat):headB n (fun k=>Tb.updN F (cellN i) v (k*129))=headB n fun k=>F (k*129):=by
 unfold headB
 rw [twoB_congr (g:=fun k=>F (k*129)) (fun k _=>page_upd F i v k)]
theorem nodup_idx {l:List Nat} (h:l.Nodup) {j:Nat} (hj:j<l.length):l.idxOf (l.getD j 0)=j:=by
 have e:l.getD j 0=l[j]:=by rw [List.getD_eq_getElem?_getD,List.getElem?_eq_getElem hj];rfl
 rw [e]
 exact h.idxOf_getElem j hj
theorem mem_getD0 {l:List Nat} {p:Nat} (h:p∈l):∃j,j<l.length∧l.getD j 0=p:=by
 obtain⟨j,hj,e⟩:=List.getElem_of_mem h
 exact⟨j,hj,by rw [List.getD_eq_getElem?_getD,List.getElem?_eq_getElem hj];exact e⟩
theorem getD_mem0 {l:List Nat} {j:Nat} (hj:j<l.length):l.getD j 0∈l:=by
 rw [List.getD_eq_getElem?_getD,List.getElem?_eq_getElem hj]
 exact List.getElem_mem hj
theorem bytesM_ne (l:List Sl.Sl):Sl.bytesM l≠[]:=by unfold Sl.bytesM;simp
abbrev addYp (y:Nat→List Nat) (F:Nat→Nat) (i l:Nat) (sl:List Sl.Sl) (r:ByteArray):Nat→List Nat:=fun p=>if p=l then Sl.bytesM (Sl.withL sl (Sl.bareI sl) (some r)) else if p=F (i / 128*129) then partB (Tb.updN F (cellN i) (l*64+Sl.bareI sl+1)) (i / 128) else y p
abbrev addU (U:Nat→Nat) (i l:Nat) (ps:List Nat):Nat→Nat:=fun p=>if p=l then 3 else if p∈ps then 5+2*(i*64+ps.idxOf p) else U p
theorem Stm.add (h:Stm y n F X q T U) {i:Nat} (hi:i<n*128) (h0:spF F i=0) {l:Nat} {sl:List Sl.Sl} (hl:q l=some sl∨(q l=none∧U l=1∧sl=[])) {d ps:List Nat} (ht:ThOk d ps) (hnd:ps.Nodup)
  (hps:∀j,j<ps.length→U (ps.getD j 0)=1∧y (ps.getD j 0)=chkB d j) (hlp:l∉ps) (hok:Sl.Okp (Sl.withL sl (Sl.bareI sl) (some (strB (recB d ps))))) :
  Stm (addYp y F i l sl (strB (recB d ps))) n (Tb.updN F (cellN i) (l*64+Sl.bareI sl+1)) X (fun p=>if p=l then some (Sl.withL sl (Sl.bareI sl) (some (strB (recB d ps)))) else q p) (fun k=>if k=i then some (d,ps) else T k) (addU U i l ps):=by
 have hUl:U l=3∨U l=1:=hl.elim (fun e=>.inl (h.rc _ _ e).1) fun e=>.inr e.2.1
 have hp1:∀p,p∈ps→U p=1:=fun p hp=>by obtain⟨j,hj,e⟩:=mem_getD0 hp;rw [←e];exact(hps j hj).1
 have hn64:=h.n64
 have hi0:i / 128<n:=by omega
 obtain⟨hpa1,hpa2⟩:=h.pt (i / 128) hi0
 have hpal:F (i / 128*129)≠l:=fun e=>by rw [e] at hpa1;rcases hUl with a | a <;> rw [a] at hpa1 <;> omega
 have kU:∀ {p},U p≠1→p≠l→addU U i l ps p=U p:=fun a b=>by
  show (if _ then _ else if _ then _ else _)=_
  rw [if_neg b,if_neg (fun e=>a (hp1 _ e))]
 have kY:∀ {p},p≠l→U p≠4+2*(i / 128)→addYp y F i l sl (strB (recB d ps)) p=y p:=fun a b=>by
  show (if _ then _ else if _ then _ else _)=_
  rw [if_neg a,if_neg (fun e=>b (by rw [e];exact hpa1))]
 have hsg0:sg F n X i=0:=by unfold sg;rw [if_pos hi];exact h0
 have hT0:T i=none:=h.no i hsg0
 have hbl:=Sl.bareI_le sl
 have hwl:=Sl.withL_len hbl (some (strB (recB d ps)))
 have h64:=hok.len
 have hb64:Sl.bareI sl<64:=by
  by_cases e:Sl.bareI sl=sl.length
  ·rw [if_pos e] at hwl;omega
  ·rw [if_neg e] at hwl;omega
 have hbare:Sl.slot sl (Sl.bareI sl)=none:=by
  by_cases e:Sl.bareI sl<sl.length
  ·exact Sl.bareI_lt e
  ·exact Sl.slot_ge (by omega)
 have hnew:∀k,sg F n X k≠l*64+Sl.bareI sl+1:=fun k e=>by
  obtain⟨_,_,sl2,_,a2,a3,_⟩:=h.sp k (by omega)
  rw [e] at a2 a3
  rw [show (l*64+Sl.bareI sl+1 - 1) / 64=l by omega] at a2
  rw [show (l*64+Sl.bareI sl+1 - 1) % 64=Sl.bareI sl by omega] at a3
  rcases hl with b | ⟨b,_,_⟩
  ·rw [b] at a2;cases a2;rw [hbare] at a3;cases a3
  ·rw [b] at a2;cases a2
 refine⟨hn64,fun p hp=>?_,fun p hp=>?_,⟨?_,?_⟩,fun k hk=>?_,fun p sl2 hq=>?_,fun k hk=>?_,fun k hk=>?_,fun a b e hk=>?_,fun p sl2 k hq hs=>?_,fun p=>?_⟩
 ·rw [nn_iff]
  by_cases e:p=l
  ·refine⟨fun _=>?_,fun _=>?_⟩
   ·show (if _ then _ else _)≠0;rw [if_pos e];omega
   ·show (if _ then _ else _)≠[];rw [if_pos e];exact bytesM_ne _
  ·have hlv:=h.live p hp
   rw [nn_iff] at hlv
   have e1:addYp y F i l sl (strB (recB d ps)) p≠[]↔y p≠[]:=by
    show (if _ then _ else if _ then _ else _)≠[]↔_
    rw [if_neg e]
    by_cases e2:p=F (i / 128*129)
    ·rw [if_pos e2,e2,hpa2];exact⟨fun _=>partB_nil _ _,fun _=>partB_nil _ _⟩
    ·rw [if_neg e2]
   have e3:addU U i l ps p≠0↔U p≠0:=by
    show (if _ then _ else if _ then _ else _)≠0↔_
    rw [if_neg e]
    by_cases e2:p∈ps
    ·rw [if_pos e2,hp1 p e2];omega
    ·rw [if_neg e2]
   rw [e1,e3];exact hlv
 ·show (if _ then _ else if _ then _ else _)=0
  have hu:=h.hi p hp
  rw [if_neg (fun e=>by rw [←e,hu] at hUl;omega),if_neg (fun e=>by have:=hp1 p e;omega)]
  exact hu
 ·rw [kU (by rw [h.hd.1];omega) (fun e=>by rw [←e,h.hd.1] at hUl;omega)];exact h.hd.1
 ·rw [kY (fun e=>by rw [←e,h.hd.1] at hUl;omega) (by rw [h.hd.1];omega),head_upd];exact h.hd.2
 ·rw [page_upd]
  obtain⟨b1,b2⟩:=h.pt k hk
  have hkl:F (k*129)≠l:=fun e=>by rw [←e,b1] at hUl;omega
  refine⟨(kU (by rw [b1];omega) hkl).trans b1,?_⟩
  by_cases e:k=i / 128
  ·show (if _ then _ else if _ then _ else _)=_
   rw [if_neg hkl,e,if_pos rfl]
  ·rw [kY hkl (by rw [b1];omega),b2,partB_upd e]
 ·by_cases e:p=l
  ·have hq2:(if p=l then some (Sl.withL sl (Sl.bareI sl) (some (strB (recB d ps)))) else q p)=some sl2:=hq
   rw [if_pos e] at hq2
   cases hq2
   refine⟨if_pos e,if_pos e,hok,fun e2=>?_⟩
   have:=congrArg List.length e2
   rw [hwl] at this
   split at this
   ·cases this
   ·rename_i e3;have:sl.length=0:=this;omega
  ·have hq2:(if p=l then some (Sl.withL sl (Sl.bareI sl) (some (strB (recB d ps)))) else q p)=some sl2:=hq
   rw [if_neg e] at hq2
   obtain⟨a1,a2,a3⟩:=h.rc p sl2 hq2
   exact⟨(kU (by rw [a1];omega) e).trans a1,(kY e (by rw [a1];omega)).trans a2,a3⟩
 ·rw [sg_upd hi] at hk ⊢
  by_cases e:k=i
  ·simp only [if_pos e]
   refine⟨d,ps,Sl.withL sl (Sl.bareI sl) (some (strB (recB d ps))),rfl,?_,?_,ht,fun j hj=>?_⟩
   ·show (if (l*64+Sl.bareI sl+1 - 1) / 64=l then _ else _)=_
    rw [if_pos (by omega)]
   ·rw [show (l*64+Sl.bareI sl+1 - 1) % 64=Sl.bareI sl by omega,Sl.withL_slot hbl,if_pos rfl]
   ·obtain⟨c1,c2⟩:=hps j hj
    have hjl:ps.getD j 0≠l:=fun e2=>hlp (by rw [←e2];exact getD_mem0 hj)
    refine⟨?_,(kY hjl (by rw [c1];omega)).trans c2⟩
    show (if _ then _ else if _ then _ else _)=_
    rw [if_neg hjl,if_pos (getD_mem0 hj),nodup_idx hnd hj,e]
  ·simp only [if_neg e] at hk ⊢
   obtain⟨d2,ps2,sl2,a1,a2,a3,a4,a5⟩:=h.sp k hk
   have hpg:∀j,j<ps2.length→addU U i l ps (ps2.getD j 0)=5+2*(k*64+j)∧addYp y F i l sl (strB (recB d ps)) (ps2.getD j 0)=chkB d2 j:=fun j hj=>by
    obtain⟨c1,c2⟩:=a5 j hj
    have hjl:ps2.getD j 0≠l:=fun e2=>by rw [←e2,c1] at hUl;omega
    exact⟨(kU (by rw [c1];omega) hjl).trans c1,(kY hjl (by rw [c1];omega)).trans c2⟩
   by_cases e2:(sg F n X k - 1) / 64=l
   ·have hsl:sl2=sl:=by
     rw [e2] at a2
     rcases hl with b | ⟨b,_,_⟩
     ·rw [b] at a2;cases a2;rfl
     ·rw [b] at a2;cases a2
    refine⟨d2,ps2,Sl.withL sl (Sl.bareI sl) (some (strB (recB d ps))),a1,if_pos e2,?_,a4,hpg⟩
    rw [Sl.withL_slot hbl,if_neg (fun e3=>by rw [hsl,e3,hbare] at a3;cases a3),←hsl]
    exact a3
   ·exact⟨d2,ps2,sl2,a1,(if_neg e2).trans a2,a3,a4,hpg⟩
 ·rw [sg_upd hi] at hk
  by_cases e:k=i
  ·rw [if_pos e] at hk;omega
  ·rw [if_neg e] at hk
   exact(if_neg e).trans (h.no k hk)
 ·rw [sg_upd hi] at e hk
  rw [sg_upd hi] at e
  by_cases e1:a=i
  ·by_cases e2:b=i
   ·rw [e1,e2]
   ·rw [if_pos e1,if_neg e2] at e
    exact absurd e.symm (hnew b)
  ·by_cases e2:b=i
   ·rw [if_neg e1,if_pos e2] at e
    exact absurd e (hnew a)
   ·rw [if_neg e1] at e hk
    rw [if_neg e2] at e
    exact h.inj a b e hk
 ·have hold:∀ {sl3:List Sl.Sl},q p=some sl3→(Sl.slot sl3 k).isSome=true→∃a,sg (Tb.updN F (cellN i) (l*64+Sl.bareI sl+1)) n X a=p*64+k+1:=fun b1 b2=>by
   obtain⟨a,ha⟩:=h.all p _ k b1 b2
   refine⟨a,?_⟩
   rw [sg_upd hi,if_neg (fun e=>by rw [e,hsg0] at ha;omega)]
   exact ha
  have hq2:(if p=l then some (Sl.withL sl (Sl.bareI sl) (some (strB (recB d ps)))) else q p)=some sl2:=hq
  by_cases e:p=l
  ·rw [if_pos e] at hq2
   cases hq2
   rw [Sl.withL_slot hbl] at hs
   by_cases e2:k=Sl.bareI sl
   ·exact⟨i,by rw [sg_upd hi,if_pos rfl,e,e2]⟩
   ·rw [if_neg e2] at hs
    rcases hl with b | ⟨_,_,b⟩
    ·exact hold (by rw [e];exact b) hs
    ·rw [b,Sl.slot_ge (Nat.zero_le _)] at hs;cases hs
  ·rw [if_neg e] at hq2
   exact hold hq2 hs
 ·show (if p=l then 3 else if p∈ps then 5+2*(i*64+ps.idxOf p) else U p)=0∨(if p=l then 3 else if p∈ps then 5+2*(i*64+ps.idxOf p) else U p)=1∨p=0∨(∃k,k<n∧p=Tb.updN F (cellN i) (l*64+Sl.bareI sl+1) (k*129))∨(if p=l then some (Sl.withL sl (Sl.bareI sl) (some (strB (recB d ps)))) else q p).isSome=true∨∃a d2 ps2 j,(if a=i then some (d,ps) else T a)=some (d2,ps2)∧j<ps2.length∧p=ps2.getD j 0
  by_cases e:p=l
  ·right;right;right;right;left;rw [if_pos e];rfl
  ·by_cases e2:p∈ps
   ·obtain⟨j,hj,e3⟩:=mem_getD0 e2
    right;right;right;right;right
    exact⟨i,d,ps,j,if_pos rfl,hj,e3.symm⟩
   ·rw [if_neg e,if_neg e2,if_neg e]
    rcases h.back p with a | a | a | ⟨k,hk,a⟩ | a | ⟨a,d2,ps2,j,b1,b2,b3⟩
    ·exact .inl a
    ·exact .inr (.inl a)
    ·exact .inr (.inr (.inl a))
    ·exact .inr (.inr (.inr (.inl ⟨k,hk,by rw [page_upd];exact a⟩)))
    ·exact .inr (.inr (.inr (.inr (.inl a))))
    ·exact .inr (.inr (.inr (.inr (.inr ⟨a,d2,ps2,j,by rw [if_neg (fun e3=>by rw [e3,hT0] at b1;cases b1)];exact b1,b2,b3⟩))))
end
end Go.Proofs.YtmbecjlioogbhaaGreatDoor
end
section
set_option maxRecDepth 20000
namespace Go.Proofs
open Go.Shelf
def Tryz.keysB_ren:Go.Shelf.Ren:=⟨fun | 7=>95 | 10=>153 | n=>n,fun | 23=>76 | 26=>3 | 3=>3 | 28=>31 | 0=>0 | 27=>30 | 33=>84 | 4=>4 | n=>n,fun | n=>n⟩
theorem Tryz.keysB:Go.Proofs.SlLaysZI.n7 Tryz.prog Tryz.keysB_ren:={
 mixed:=by kernel_rfl
 f7:=⟨Tryz.f95.name,by decide,Tryz.func95.trans (congrArg some (by kernel_rfl))⟩
 f10:=⟨Tryz.f153.name,by decide,Tryz.func153.trans (congrArg some (by kernel_rfl))⟩
 t0:=Tryz.underlying0
 a0:=Tryz.isAgg0
 z0:=Tryz.sizeOf0
 v0:=Tryz.zeroValue0
 t4:=Tryz.underlying4
 a4:=Tryz.isAgg4
 z4:=Tryz.sizeOf4
 v4:=Tryz.zeroValue4
 t23:=Tryz.underlying76
 a23:=Tryz.isAgg76
 z23:=Tryz.sizeOf76
 v23:=Tryz.zeroValue76
 t26:=Tryz.underlying3
 a26:=Tryz.isAgg3
 z26:=Tryz.sizeOf3
 v26:=Tryz.zeroValue3
 t27:=Tryz.underlying30
 a27:=Tryz.isAgg30
 z27:=Tryz.sizeOf30
 v27:=Tryz.zeroValue30
 t28:=Tryz.underlying31
 a28:=Tryz.isAgg31
 z28:=Tryz.sizeOf31
 v28:=Tryz.zeroValue31
 t33:=Tryz.underlying84
 a33:=Tryz.isAgg84
 z33:=Tryz.sizeOf84
 v33:=Tryz.zeroValue84 }
end Go.Proofs
namespace Go.Proofs.YtmbecjlioogbhaaGreatDoor
open Go.RowKit Go.Maps Go.MapKept Go.Shelf Go.Sort
open Go.WideElems (rd rg pl rd_key rd_val rg_of rd_mk)
theorem keysRm (mb:Option Nat) (W:World):Calls Tryz.prog 95 #[.map mb] W fun e w'=>e = .returned (.func (.func 153) #[] #[.pointer (some ⟨W.heap.size,0,none⟩)])∧w'=W.alloc (.cells #[.map mb] 76):=
 (callsIn_wide (n:=5)).1 (AnyZI.keys_in Tryz.keysB Fence.wide 5 trivial rfl mb W)
theorem sortedRm {w:World} {mb:Nat} {f:Rmf} (h:Rms w mb f) :
  Calls Tryz.prog 94 #[.func (.func 153) #[] #[.pointer (some ⟨w.heap.size,0,none⟩)]] (w.alloc (.cells #[.map (some mb)] 76)) fun e w'=>(∃v,e = .returned v∧OwnI w' (w.heap.size+1) v f.keys)∧Below (w.alloc (.cells #[.map (some mb)] 76)).heap.size (w.alloc (.cells #[.map (some mb)] 76)) w':=by
 obtain⟨D,hown,es,clock,hF,hD⟩:=h.owns
 have hlt:=h.lt
 have hsz:Maps.size D≤512:=by
  have h1:=(hF.ikeys).length_eq
  rw [←hD] at h1
  have h2:=f.keys_le
  rw [List.length_map] at h1
  rw [hD] at h1 ⊢
  simp only [intKeys,List.length_map] at h1
  show List.length _≤512
  omega
 have hseq:SeqGives Fence.wide 2 Tryz.prog 153 #[.pointer (some ⟨w.heap.size,0,none⟩)] encZ (fun ss=>ss.Perm (intKeys D)) (Maps.size D) (w.alloc (.cells #[.map (some mb)] 76)):=
  AnyZI.keys_gives (ρ:=Tryz.keysB_ren) { Tryz.keysB with } Fence.wide _ trivial rfl (by omega) w.heap.size mb 512 D _ (by simp) (by simp) (by
   obtain⟨es,clock,hb,Ft,hs,hD⟩:=hown
   exact⟨es,clock,(Below.heap_alloc _ _ mb hlt).trans hb,Ft,hs,hD⟩)
 have cS:=AnyZI.sorted_in Tryz.sortedA Fence.wide 5 trivial trivial trivial trivial rfl (by omega) (sorts _) (enters_of Tryz.func152 (by kernel_rfl) rfl) 153 #[.pointer (some ⟨w.heap.size,0,none⟩)] trivial (enters_of Tryz.func153 (by kernel_rfl) rfl) _ _ (by unfold maxLen;omega) (by omega) _ hseq
 refine((callsIn_wide (n:=5)).1 cS).mono ?_
 rintro e w' ⟨v,ss,rfl,hS,hrow,_,hb⟩
 refine⟨⟨v,rfl,?_⟩,hb⟩
 have hl:ss.length=f.keys.length:=by
  have h1:=(hS.trans (hD ▸ hF.ikeys)).length_eq
  rwa [List.length_map] at h1
 rw [hD] at hS
 have hk:=hF.sorted hS
 unfold OwnI
 rw [←hl]
 have e1:(f.keys.map fun l=>((l:Nat):Int)).map encZ=Tb.ivs f.keys:=by unfold Tb.ivs;rw [List.map_map];rfl
 rw [←e1,←hk,←show (w.alloc (.cells #[.map (some mb)] 76)).heap.size=w.heap.size+1 by simp]
 exact hrow
end Go.Proofs.YtmbecjlioogbhaaGreatDoor
end
section
set_option maxRecDepth 20000
namespace Go.Proofs.YtmbecjlioogbhaaGreatDoor
open Go.RowKit Go.Maps Go.MapKept
open Go.WideElems (rd rg pl rd_key rd_val rg_of rd_mk)
open Go.ChangeMaps (notKey putKey delKey setBlock heap_setBlock_same heap_setBlock_other mem_insert_iff)
open Go.WideShapes (sorted_perm)
def contDm (v:Value):Option (DataW Unit × List MemPlace):=
 match v with
 | .pointer _=>some (.lit (.int .i64 0),[])
 | _=>none
abbrev datODm (_:Nat):DataW Unit:=DataW.lit (.int .i64 0)
theorem contDm_mk (s:Nat):contDm (.pointer (some ⟨s,0,none⟩))=some (datODm s,[]):=rfl
abbrev Dmf:=Nat→Option Nat
def Dmf.at_ (f:Dmf) (x:Int):Option Nat:=if 0≤x then f x.toNat else none
def Dmf.put (f:Dmf) (l:Nat) (s:Nat):Dmf:=fun j=>if j=l then some s else f j
theorem Dmf.put_same (f:Dmf) (l:Nat) (s:Nat):f.put l s l=some s:=if_pos rfl
theorem Dmf.put_other (f:Dmf) (l j:Nat) (s:Nat) (h:j≠l):f.put l s j=f j:=if_neg h
structure Dmm (w:World) (b:Nat) (es:Array MapEntry) (clock:Nat) (f:Dmf):Prop where
 hb:w.heap[b]?=some (.map es clock)
 fit:WideElems.Fit Tryz.prog 3 contDm es clock
 only:∀x∈es.toList,∃(l:Nat) (s:Nat),l<512∧x.key = .int .i64 (l:Int)∧x.val = .pointer (some ⟨s,0,none⟩)∧f l=some s
 all:∀(l:Nat) (s:Nat),f l=some s→l<512∧∃x∈es.toList,x.key = .int .i64 (l:Int)
def Dms (w:World) (b:Nat) (f:Dmf):Prop:=∃es clock,Dmm w b es clock f
section
variable {w w':World} {b:Nat} {f:Dmf}
theorem Dms.lt (h:Dms w b f):b<w.heap.size:=by
 obtain⟨es,clock,h⟩:=h
 exact(Array.getElem?_eq_some_iff.1 h.hb).1
theorem Dms.same (h:Dms w b f) (hb:w'.heap[b]?=w.heap[b]?):Dms w' b f:=by
 obtain⟨es,clock,h⟩:=h
 exact⟨es,clock,hb.trans h.hb,h.fit,h.only,h.all⟩
theorem Dms.below (h:Dms w b f) (hb:Below w.heap.size w w'):Dms w' b f:=h.same (hb.block b h.lt)
theorem Dms.isMap (h:Dms w b f):∃es c,w.heap[b]?=some (.map es c):=by
 obtain⟨es,clock,h⟩:=h
 exact⟨es,clock,h.hb⟩
theorem Dms.high (h:Dms w b f) {l:Nat} {s:Nat} (hl:f l=some s):l<512:=by
 obtain⟨es,clock,h⟩:=h
 exact(h.all l s hl).1
theorem Dms.made (w:World):Dms (w.alloc (.map #[] 0)) w.heap.size (fun _=>none):=
 ⟨#[],0,(MapKept.heap_alloc w _).1,⟨by simp,stamped_empty 0,by simp⟩,by simp,fun l s h=>by cases h⟩
theorem Dms.look (h:Dms w b f) (x:Int) (h0:-9223372036854775808≤x) (h1:x≤9223372036854775807) :
  (Instr.lookup 104 (.map (some b)) (.int .i64 x) true).run Tryz.prog w = .ok (.tuple #[.pointer ((f.at_ x).map fun s=>⟨s,0,none⟩),.bool (f.at_ x).isSome]) w:=by
 obtain⟨es,clock,h⟩:=h
 have hz:(zeroValue 160).run Tryz.prog w = .ok (.pointer none) w:=by rw [Tryz.zeroValue160]
 rcases fit_look true keyedI Tryz.underlying104 hz h.hb h.fit (keyI h0 h1) with ⟨hrun,hno,_⟩ | ⟨e0,y,he,hk,hrun,_⟩
 ·have hn:f.at_ x=none:=by
   unfold Dmf.at_
   split
   ·rename_i hx
    cases hf:f x.toNat with
    | none=>rfl
    | some s=>
     obtain⟨_,e,he,hk⟩:=h.all _ s hf
     exact absurd (by rw [hk,Int.toNat_of_nonneg hx]) (hno e he)
   ·rfl
  rw [hn];exact hrun
 ·obtain⟨l,s,hl,hk2,hv,hf⟩:=h.only e0 he
  rw [hk] at hk2
  have hx:x=(l:Int):=by injection hk2
  have ha:f.at_ x=some s:=by unfold Dmf.at_;rw [if_pos (by omega),hx,Int.toNat_natCast,hf]
  rw [ha,hrun,hv];rfl
theorem Dms.look1 (h:Dms w b f) (l:Nat) (s:Nat) (hl:f l=some s) :
  (Instr.lookup 104 (.map (some b)) (.int .i64 (l:Int)) false).run Tryz.prog w = .ok (.pointer (some ⟨s,0,none⟩)) w:=by
 have hlt:=h.high hl
 obtain⟨es,clock,h⟩:=h
 have hz:(zeroValue 160).run Tryz.prog w = .ok (.pointer none) w:=by rw [Tryz.zeroValue160]
 rcases fit_look false keyedI Tryz.underlying104 hz h.hb h.fit (keyI (x:=(l:Int)) (by omega) (by omega)) with ⟨hrun,hno,_⟩ | ⟨e0,y,he,hk,hrun,_⟩
 ·obtain⟨_,e,he,hk⟩:=h.all _ s hl
  exact absurd hk (hno e he)
 ·obtain⟨l2,s2,_,hk2,hv,hf⟩:=h.only e0 he
  rw [hk] at hk2
  have hx:(l:Int)=(l2:Int):=by injection hk2
  have hx2:l=l2:=by omega
  subst hx2
  rw [hl] at hf
  cases hf
  rw [hrun,hv];rfl
end
theorem Dmm.nodup {w:World} {b:Nat} {es:Array MapEntry} {clock:Nat} {f:Dmf} (h:Dmm w b es clock f):es.toList.Pairwise (fun x y=>x.key≠y.key):=((stamped_iff es clock).1 h.fit.stamped).2.2
theorem Dmm.keyN {w:World} {b:Nat} {es:Array MapEntry} {clock:Nat} {f:Dmf} (h:Dmm w b es clock f) {x:MapEntry} (hx:x∈es.toList):x.key = .int .i64 ((Go.Proofs.YtmbecjlioogbhaaGreatDoor.keyN x:Nat):Int):=by
 obtain⟨l,s,_,hk,_⟩:=h.only x hx
 unfold Go.Proofs.YtmbecjlioogbhaaGreatDoor.keyN
 rw [hk];simp
def Dmf.keys (f:Dmf):List Nat:=(List.range 512).filter fun l=>(f l).isSome
theorem Dmf.mem_keys {f:Dmf} {l:Nat}:l∈f.keys↔l<512∧(f l).isSome=true:=by
 unfold Dmf.keys;rw [List.mem_filter,List.mem_range]
theorem Dmm.perm {w:World} {b:Nat} {es:Array MapEntry} {clock:Nat} {f:Dmf} (h:Dmm w b es clock f):(es.toList.map Go.Proofs.YtmbecjlioogbhaaGreatDoor.keyN).Perm f.keys:=by
 have n1:(es.toList.map Go.Proofs.YtmbecjlioogbhaaGreatDoor.keyN).Nodup:=by
  unfold List.Nodup
  rw [List.pairwise_map]
  exact h.nodup.imp_of_mem fun {a b} ha hb hab e=>hab (by rw [h.keyN ha,h.keyN hb,e])
 have n2:f.keys.Nodup:=List.nodup_range.filter _
 refine(List.perm_ext_iff_of_nodup n1 n2).2 fun l=>?_
 rw [Dmf.mem_keys,List.mem_map]
 constructor
 ·rintro ⟨x,hx,rfl⟩
  obtain⟨l,s,hl,hk,_,hf⟩:=h.only x hx
  have e:=h.keyN hx
  rw [hk] at e
  have e2:l=Go.Proofs.YtmbecjlioogbhaaGreatDoor.keyN x:=by injection e with _ e3;omega
  rw [←e2]
  exact⟨hl,by rw [hf];rfl⟩
 ·rintro ⟨hl,hs⟩
  obtain⟨s,hs⟩:=Option.isSome_iff_exists.1 hs
  obtain⟨_,x,hx,hk⟩:=h.all l s hs
  refine⟨x,hx,?_⟩
  have e:=h.keyN hx
  rw [hk] at e
  injection e with _ e3;omega
theorem Dmm.size {w:World} {b:Nat} {es:Array MapEntry} {clock:Nat} {f:Dmf} (h:Dmm w b es clock f):es.size=f.keys.length:=by
 rw [←h.perm.length_eq,List.length_map];simp
theorem Dmf.keys_le (f:Dmf):f.keys.length≤512:=by
 unfold Dmf.keys
 exact Nat.le_trans (List.length_filter_le _ _) (by simp)
section
variable {w:World} {b:Nat} {f:Dmf}
theorem Dms.len (h:Dms w b f) (ty:TypeId):(Builtin.len_ #[104] ty #[.map (some b)]).run Tryz.prog w = .ok (.int .i64 (f.keys.length:Int)) w:=by
 obtain⟨es,clock,h⟩:=h
 rw [←h.size]
 simp [Builtin.len_,run_underlying Tryz.underlying104,MapKept.run_getObj_map h.hb,goInt,Result.andThen]
theorem Dms.owns (h:Dms w b f):∃D:DataW Unit,w.ownsMap Tryz.prog 3 contDm b 512 D∧∃es clock,Dmm w b es clock f∧D = .map ((es.toList.map (rg Tryz.prog 3 contDm)).foldr DataW.insert []):=by
 obtain⟨es,clock,h⟩:=h
 exact⟨_,⟨es,clock,h.hb,h.fit,by rw [h.size];exact f.keys_le,rfl⟩,es,clock,h,rfl⟩
theorem Dms.store (h:Dms w b f) (l:Nat) (s:Nat) (hl:l<512) :
  ∃w',(Instr.mapUpdate 104 (.map (some b)) (.int .i64 (l:Int)) (.pointer (some ⟨s,0,none⟩))).run Tryz.prog w = .ok () w'∧Dms w' b (f.put l s)∧Only b w w':=by
 obtain⟨es,clock,h⟩:=h
 have hkey:=keyI (x:=(l:Int)) (by omega) (by omega)
 have hroom:es.size<maxLen:=by rw [h.size];have:=f.keys_le;unfold maxLen;omega
 obtain⟨es',clock',hrun,F',hput,_,_,hwho⟩:=fit_store (R':=contDm) keyedI Tryz.underlying104 h.hb h.fit hroom (fun _ _ _ _ hz=>hz) hkey (contDm_mk s)
 refine⟨_,hrun,⟨es',clock',heap_setBlock_same h.hb _,F',?_,?_⟩,⟨rfl,rfl,rfl,by simp [setBlock],fun k _ hk=>heap_setBlock_other h.hb _ hk⟩⟩
 ·intro x hx
  rcases hwho x hx with ⟨hx1,hne⟩ | ⟨hk,hv⟩
  ·obtain⟨l2,s2,hl2,hk2,hv2,hf2⟩:=h.only x hx1
   refine⟨l2,s2,hl2,hk2,hv2,?_⟩
   rw [Dmf.put_other _ _ _ _ (fun e=>hne (by rw [hk2,e]))]
   exact hf2
  ·exact⟨l,s,hl,hk,hv,Dmf.put_same _ _ _⟩
 ·-- who was there is there,and the new one
  have hin:∀p,p∈putKey (Lit.int .i64 (l:Int)) (datODm s) ((es.toList.map (rg Tryz.prog 3 contDm)).foldr DataW.insert [])→∃x∈es'.toList,rg Tryz.prog 3 contDm x=p:=by
   intro p hp
   rw [←hput] at hp
   obtain⟨x,hx,e⟩:=List.mem_map.1 ((sorted_perm _).mem_iff.1 hp)
   exact⟨x,hx,e⟩
  have key_of:∀x∈es'.toList,∀kl d,rg Tryz.prog 3 contDm x=(kl,d)→keyOf Tryz.prog 3 x.key=some kl:=by
   intro x hx kl d e
   obtain⟨y,hy⟩:=F'.reads x hx
   have h1:=rd_key hy
   rw [rg_of hy] at e
   rw [e] at h1;exact h1
  intro l2 s2 hf2
  by_cases e:l2=l
  ·subst e
   obtain⟨x,hx,e⟩:=hin (Lit.int .i64 (l2:Int),datODm s) (by unfold putKey;exact mem_insert_iff.2 (.inl rfl))
   exact⟨hl,x,hx,keyedI.inj (key_of x hx _ _ e) hkey⟩
  ·rw [Dmf.put_other _ _ _ _ e] at hf2
   obtain⟨hbd,x0,hx0,hk0⟩:=h.all l2 s2 hf2
   have hkey2:=keyI (x:=(l2:Int)) (by omega) (by omega)
   obtain⟨y0,hy0⟩:=h.fit.reads x0 hx0
   have hk1:=rd_key hy0
   rw [hk0,hkey2] at hk1
   have hk2:y0.1=Lit.int .i64 (l2:Int):=(Option.some.inj hk1).symm
   obtain⟨x,hx,e3⟩:=hin y0 (by
    unfold putKey
    refine mem_insert_iff.2 (.inr (List.mem_filter.2 ⟨(sorted_perm _).mem_iff.2 (List.mem_map.2 ⟨x0,hx0,rg_of hy0⟩),?_⟩))
    refine(notKey_iff (keyedI.key hkey)).2 ?_
    rw [hk2]
    intro e4
    injection e4 with _ e5
    omega)
   refine⟨hbd,x,hx,keyedI.inj (key_of x hx y0.1 y0.2 e3) ?_⟩
   rw [hk2];exact hkey2
end
section
variable {w:World} {b:Nat} {es:Array MapEntry} {clock:Nat} {f:Dmf}
theorem Dmm.rgKey (h:Dmm w b es clock f) {x:MapEntry} (hx:x∈es.toList):(rg Tryz.prog 3 contDm x).1 = .int .i64 ((Go.Proofs.YtmbecjlioogbhaaGreatDoor.keyN x:Nat):Int):=by
 obtain⟨y,hy⟩:=h.fit.reads x hx
 obtain⟨l,s,hl,hk,_,_⟩:=h.only x hx
 have h1:=rd_key hy
 rw [rg_of hy]
 have h2:=h.keyN hx
 have h3:Go.Proofs.YtmbecjlioogbhaaGreatDoor.keyN x=l:=by rw [hk] at h2;injection h2 with _ h3;omega
 rw [h2,keyI (x:=((Go.Proofs.YtmbecjlioogbhaaGreatDoor.keyN x:Nat):Int)) (by omega) (by omega)] at h1
 exact(Option.some.inj h1).symm
theorem Dmf.pairwise (f:Dmf):(f.keys.map fun l=>((l:Nat):Int)).Pairwise (fun a b=>leI a b=true):=by
 refine List.pairwise_map.2 ?_
 unfold Dmf.keys
 refine List.Pairwise.filter _ (List.Pairwise.imp (R:=(· < ·)) ?_ List.pairwise_lt_range)
 intro a b h
 simp [leI];omega
theorem Dmm.ikeys (h:Dmm w b es clock f) :
  (intKeys (DataW.map ((es.toList.map (rg Tryz.prog 3 contDm)).foldr DataW.insert []))).Perm (f.keys.map fun l=>((l:Nat):Int)):=by
 have h1:(intKeys (DataW.map ((es.toList.map (rg Tryz.prog 3 contDm)).foldr DataW.insert []))).Perm ((es.toList.map (rg Tryz.prog 3 contDm)).map fun p=>Go.intOf p.1):=(sorted_perm _).map _
 refine h1.trans ?_
 rw [List.map_map]
 have h2:(es.toList.map ((fun p=>Go.intOf p.1) ∘ rg Tryz.prog 3 contDm))=(es.toList.map Go.Proofs.YtmbecjlioogbhaaGreatDoor.keyN).map fun l=>((l:Nat):Int):=by
  rw [List.map_map]
  refine List.map_congr_left fun x hx=>?_
  show Go.intOf (rg Tryz.prog 3 contDm x).1=_
  rw [h.rgKey hx];rfl
 rw [h2]
 exact h.perm.map _
theorem Dmm.sorted (h:Dmm w b es clock f) {ss:List Int}
  (hp:ss.Perm (intKeys (DataW.map ((es.toList.map (rg Tryz.prog 3 contDm)).foldr DataW.insert [])))):ss.mergeSort leI=f.keys.map fun l=>((l:Nat):Int):=by
 rw [mergeSort_of_perm_i (hp.trans h.ikeys)]
 exact List.mergeSort_of_pairwise f.pairwise
end
end Go.Proofs.YtmbecjlioogbhaaGreatDoor
end
section
set_option maxRecDepth 20000
namespace Go.Proofs
open Go.Shelf
def Tryz.keysC_ren:Go.Shelf.Ren:=⟨fun | 7=>110 | 10=>158 | n=>n,fun | 23=>104 | 26=>3 | 3=>160 | 28=>31 | 0=>0 | 27=>30 | 33=>84 | 4=>4 | n=>n,fun | n=>n⟩
theorem Tryz.keysC:Go.Proofs.SlLaysZI.n7 Tryz.prog Tryz.keysC_ren:={
 mixed:=by kernel_rfl
 f7:=⟨Tryz.f110.name,by decide,Tryz.func110.trans (congrArg some (by kernel_rfl))⟩
 f10:=⟨Tryz.f158.name,by decide,Tryz.func158.trans (congrArg some (by kernel_rfl))⟩
 t0:=Tryz.underlying0
 a0:=Tryz.isAgg0
 z0:=Tryz.sizeOf0
 v0:=Tryz.zeroValue0
 t4:=Tryz.underlying4
 a4:=Tryz.isAgg4
 z4:=Tryz.sizeOf4
 v4:=Tryz.zeroValue4
 t23:=Tryz.underlying104
 a23:=Tryz.isAgg104
 z23:=Tryz.sizeOf104
 v23:=Tryz.zeroValue104
 t26:=Tryz.underlying3
 a26:=Tryz.isAgg3
 z26:=Tryz.sizeOf3
 v26:=Tryz.zeroValue3
 t27:=Tryz.underlying30
 a27:=Tryz.isAgg30
 z27:=Tryz.sizeOf30
 v27:=Tryz.zeroValue30
 t28:=Tryz.underlying31
 a28:=Tryz.isAgg31
 z28:=Tryz.sizeOf31
 v28:=Tryz.zeroValue31
 t33:=Tryz.underlying84
 a33:=Tryz.isAgg84
 z33:=Tryz.sizeOf84
 v33:=Tryz.zeroValue84 }
end Go.Proofs
namespace Go.Proofs.YtmbecjlioogbhaaGreatDoor
open Go.RowKit Go.Maps Go.MapKept Go.Shelf Go.Sort
open Go.WideElems (rd rg pl rd_key rd_val rg_of rd_mk)
theorem keysDm (mb:Option Nat) (W:World):Calls Tryz.prog 110 #[.map mb] W fun e w'=>e = .returned (.func (.func 158) #[] #[.pointer (some ⟨W.heap.size,0,none⟩)])∧w'=W.alloc (.cells #[.map mb] 104):=
 (callsIn_wide (n:=5)).1 (AnyZI.keys_in Tryz.keysC Fence.wide 5 trivial rfl mb W)
theorem sortedDm {w:World} {mb:Nat} {f:Dmf} (h:Dms w mb f) :
  Calls Tryz.prog 94 #[.func (.func 158) #[] #[.pointer (some ⟨w.heap.size,0,none⟩)]] (w.alloc (.cells #[.map (some mb)] 104)) fun e w'=>(∃v,e = .returned v∧OwnI w' (w.heap.size+1) v f.keys)∧Below (w.alloc (.cells #[.map (some mb)] 104)).heap.size (w.alloc (.cells #[.map (some mb)] 104)) w':=by
 obtain⟨D,hown,es,clock,hF,hD⟩:=h.owns
 have hlt:=h.lt
 have hsz:Maps.size D≤512:=by
  have h1:=(hF.ikeys).length_eq
  rw [←hD] at h1
  have h2:=f.keys_le
  rw [List.length_map] at h1
  rw [hD] at h1 ⊢
  simp only [intKeys,List.length_map] at h1
  show List.length _≤512
  omega
 have hseq:SeqGives Fence.wide 2 Tryz.prog 158 #[.pointer (some ⟨w.heap.size,0,none⟩)] encZ (fun ss=>ss.Perm (intKeys D)) (Maps.size D) (w.alloc (.cells #[.map (some mb)] 104)):=
  AnyZI.keys_gives (ρ:=Tryz.keysC_ren) { Tryz.keysC with } Fence.wide _ trivial rfl (by omega) w.heap.size mb 512 D _ (by simp) (by simp) (by
   obtain⟨es,clock,hb,Ft,hs,hD⟩:=hown
   exact⟨es,clock,(Below.heap_alloc _ _ mb hlt).trans hb,Ft,hs,hD⟩)
 have cS:=AnyZI.sorted_in Tryz.sortedA Fence.wide 5 trivial trivial trivial trivial rfl (by omega) (sorts _) (enters_of Tryz.func152 (by kernel_rfl) rfl) 158 #[.pointer (some ⟨w.heap.size,0,none⟩)] trivial (enters_of Tryz.func158 (by kernel_rfl) rfl) _ _ (by unfold maxLen;omega) (by omega) _ hseq
 refine((callsIn_wide (n:=5)).1 cS).mono ?_
 rintro e w' ⟨v,ss,rfl,hS,hrow,_,hb⟩
 refine⟨⟨v,rfl,?_⟩,hb⟩
 have hl:ss.length=f.keys.length:=by
  have h1:=(hS.trans (hD ▸ hF.ikeys)).length_eq
  rwa [List.length_map] at h1
 rw [hD] at hS
 have hk:=hF.sorted hS
 unfold OwnI
 rw [←hl]
 have e1:(f.keys.map fun l=>((l:Nat):Int)).map encZ=Tb.ivs f.keys:=by unfold Tb.ivs;rw [List.map_map];rfl
 rw [←e1,←hk,←show (w.alloc (.cells #[.map (some mb)] 104)).heap.size=w.heap.size+1 by simp]
 exact hrow
end Go.Proofs.YtmbecjlioogbhaaGreatDoor
end
section
set_option maxRecDepth 20000
namespace Go.Proofs.YtmbecjlioogbhaaGreatDoor
open Go.RowKit
theorem desk_any (g:Nat) (w:World):Calls Tryz.prog 54 #[.pointer (some ⟨g,0,none⟩)] w fun e w'=>∃mb,e = .returned (.agg #[.pointer (some ⟨g,0,none⟩),.map (some mb)])∧Dms w' mb (fun _=>none)∧w.heap.size≤mb∧Below w.heap.size w w':=by
 have hmm:=@run_makeMap Tryz.prog
 go_enter Tryz.func54,Tryz.ntmps54
 go_wp2_with fail
 have hx:((w.alloc (.cells #[.pointer (some ⟨g,0,none⟩),.map (some (w.heap.size+1))] 106)).alloc (.map #[] 0)).heap[w.heap.size]?=some (.cells #[.pointer (some ⟨g,0,none⟩),.map (some (w.heap.size+1))] 106 (0,0)):=(heap_alloc_old _ _ (by simp)).trans (heap_alloc_new w _)
 have hm:=Dms.made (w.alloc (.cells #[.pointer (some ⟨g,0,none⟩),.map (some (w.heap.size+1))] 106))
 rw [show (w.alloc (.cells #[.pointer (some ⟨g,0,none⟩),.map (some (w.heap.size+1))] 106)).heap.size=w.heap.size+1 by simp] at hm
 have hb:Below w.heap.size w ((w.alloc (.cells #[.pointer (some ⟨g,0,none⟩),.map (some (w.heap.size+1))] 106)).alloc (.map #[] 0)):=((Below.refl _ _).alloc (Nat.le_refl _) _).alloc (by simp) _
 generalize (w.alloc (.cells #[.pointer (some ⟨g,0,none⟩),.map (some (w.heap.size+1))] 106)).alloc (.map #[] 0)=V at *
 have a0:=cell_of_row _ _ 0 _ _ _ hx
 have a1:=cell_of_row _ _ 1 _ _ _ hx
 simp at a0 a1
 exact bodyPost_ret (v:=.agg #[.pointer (some ⟨g,0,none⟩),.map (some (w.heap.size+1))]) (by simp [results,Tryz.results54,go_sem,a0,a1]) rfl ⟨_,rfl,hm,by omega,hb⟩
theorem rm_none:Rmf.keys (fun _=>none)=[]:=by
 unfold Rmf.keys
 simp
section
variable {w w':World} {d sg pg k g mb:Nat} {D G:List Nat} {m:Dsk} {s:Sp} {y:Xv} {v:Value} {n:Nat} {F:Nat→Nat}
set_option maxHeartbeats 1600000 in
theorem Sth.roomy0 {sh:Bool} (h:Sth w g sg mb v n F sh) (hr:Rms w mb (fun _=>none)) (z:Int) :
  Calls Tryz.prog 52 #[.pointer (some ⟨g,0,none⟩),.int .i64 z] w fun e w'=>e = .returned (.int .i64 (-1))∧Below w.heap.size w w':=by
 have c2:=h.c2
 have HK:=Lib.hid (keysRm (some mb) w)
 have hs:=sortedRm hr
 rw [rm_none] at hs
 have HS:=Lib.hid hs
 have hb:Below w.heap.size w (w.alloc (.cells #[.map (some mb)] 76)):=(Below.refl _ _).alloc (Nat.le_refl _) _
 have HB:=Lib.hid hb
 clear h hr hb hs
 go_enter Tryz.func52,Tryz.ntmps52
 go_wp2_with (first
  | (go_at_call 95;with_reducible refine HK.out.mono ?_;rintro e w1 ⟨rfl,rfl⟩)
  | (go_at_call 94;with_reducible refine HS.out.mono ?_;rintro e w2 ⟨⟨v2,rfl,ho⟩,hb2⟩;have HB2:=Lib.hid (HB.out.trans (hb2.mono HB.out.size));obtain⟨q2,c2',rfl⟩:=own_form ho;clear ho hb2))
 go_loopw [14] (fun iv wr=>iv = .int .i64 0∧Hid (Below w.heap.size w wr)) (fun _ _=>0)
 case atStart=>exact⟨rfl,HB2⟩
 case round=>
  obtain⟨rfl,HR⟩:=hrel
  go_wp2_with fail
  go_ret
  exact⟨rfl,HR.out⟩
set_option maxHeartbeats 1600000 in
theorem Sto.sure0 (h:Sto w d sg D G m s pg y k g mb (.slice none 0 0) 0 F) (hh:y.now 0=head0) :
  Calls Tryz.prog 99 #[.pointer (some ⟨g,0,none⟩),.int .i64 1] w fun e w'=>e = .returned (.int .i64 0)∧Below w.heap.size w w':=by
 have c1:=h.st.c1
 have HHD:Hid (∀w1,Calls Tryz.prog 63 #[.slice none 0 0] w1 fun e w'=>e = .returned (.string (strB head0))∧Below w1.heap.size w1 w'):=Lib.hid fun w1=>headText_any none 0 0 (fun _=>(0,fun _=>0)) w1 (by omega) (fun i hi=>absurd hi (Nat.not_lt_zero i)) (fun i hi=>absurd hi (Nat.not_lt_zero i))
 have HSA:Hid (∀w1,Below w.heap.size w w1→Calls Tryz.prog 62 #[.pointer (some ⟨g,0,none⟩),.int .i64 0,.string (strB head0)] w1 fun e w'=>e = .returned (.int .i64 0)∧Below w.heap.size w w'):=Lib.hid fun w1 hb=>by
  have h1:=(h.below hb).same 0 (by omega) (by omega) (strB head0) head0 (IsS.mk_ head0 head0_ok.2)
  have hth:thX y.now 0=true:=by
   rw [show (0:Int)=((0:Nat):Int) from rfl,th_nat (by omega)]
   unfold nn
   rw [hh];rfl
  rw [show sameE y 0 head0=0 from if_pos ⟨hth,hh⟩] at h1
  exact h1.mono fun e w' h=>⟨h.1,hb.trans (h.2.mono hb.size)⟩
 have HLP:Hid (∀w1,Below w.heap.size w w1→Calls Tryz.prog 98 #[.pointer (some ⟨g,0,none⟩),.int .i64 1] w1 fun e w'=>e = .returned (.bool true)∧w1=w'):=Lib.hid fun w1 hb=>by
  have h1:=(h.below hb).st.lacksPart 1
  rw [show decide (((0:Nat):Int)*128<1)=true from by decide] at h1
  exact h1
 clear h hh
 generalize strB head0=T at *
 go_enter Tryz.func99,Tryz.ntmps99
 go_wp2_with (first
  | (go_at_call 63;with_reducible refine(HHD.out _).mono ?_;rintro e w1 ⟨rfl,hb1⟩)
  | (go_at_call 62;with_reducible refine(HSA.out _ hb1).mono ?_;rintro e w2 ⟨rfl,hb2⟩)
  | (go_at_call 98;with_reducible refine(HLP.out _ hb2).mono ?_;rintro e w3 ⟨rfl,rfl⟩))
 go_ret
 exact⟨rfl,hb2⟩
set_option maxHeartbeats 1600000 in
theorem Sto.deskSure0 (h:Sto w d sg D G m s pg y k g mb (.slice none 0 0) 0 F) (hh:y.now 0=head0) (mb2:Nat) :
  Calls Tryz.prog 55 #[.agg #[.pointer (some ⟨g,0,none⟩),.map (some mb2)],.int .i64 1,.int .i64 (-1)] w fun e w'=>e = .returned (.int .i64 0)∧Below w.heap.size w w':=by
 have hb0:Below w.heap.size w (w.alloc (.cells #[.pointer (some ⟨g,0,none⟩),.map (some mb2)] 106)):=(Below.refl _ _).alloc (Nat.le_refl _) _
 have HB0:=Lib.hid hb0
 have HS:=Lib.hid ((h.below hb0).sure0 hh)
 clear h hh hb0
 go_enter Tryz.func55,Tryz.ntmps55
 go_wp2_with (go_at_call 99;with_reducible refine HS.out.mono ?_;rintro e w1 ⟨rfl,hb1⟩)
 go_ret
 exact⟨rfl,HB0.out.trans (hb1.mono HB0.out.size)⟩
end
end Go.Proofs.YtmbecjlioogbhaaGreatDoor
end
section
set_option maxRecDepth 20000
namespace Go.Proofs.YtmbecjlioogbhaaGreatDoor
open Go.RowKit
theorem find_at {p:Nat→Bool}:∀ {l:List Nat} {i:Nat},i<l.length→p (l.getD i 0)=true→(∀j,j<i→p (l.getD j 0)=false)→l.find? p=some (l.getD i 0)
 | [],i,h,_,_=>absurd h (Nat.not_lt_zero i)
 | a :: l,0,_,h,_=>by
  have h2:p a=true:=h
  rw [List.find?_cons_of_pos h2];rfl
 | a :: l,i+1,h,h1,h2=>by
  have h0:p a=false:=h2 0 (Nat.succ_pos i)
  rw [List.find?_cons_of_neg (by rw [h0];decide)]
  exact find_at (l:=l) (i:=i) (Nat.lt_of_succ_lt_succ h) h1 (fun j hj=>h2 (j+1) (Nat.succ_lt_succ hj))
theorem find_no {p:Nat→Bool} {l:List Nat} (h:∀j,j<l.length→p (l.getD j 0)=false):l.find? p=none:=by
 rw [List.find?_eq_none]
 intro x hx e
 obtain⟨j,hj,e2⟩:=List.getElem_of_mem hx
 have:=h j hj
 rw [List.getD_eq_getElem?_getD,List.getElem?_eq_getElem hj] at this
 have h3:p l[j]=false:=this
 rw [e2,e] at h3
 cases h3
def hasRoom (f:Rmf) (z l:Nat):Bool:=decide (((recordSizeN z:Nat):Int)≤(f l).getD 0)
def roomyV (f:Rmf) (z:Nat):Int:=match f.keys.find? (hasRoom f z) with
 | some l=>(l:Int)
 | none=>-1
section
variable {w:World} {g sg mb n:Nat} {v:Value} {F:Nat→Nat}
set_option maxHeartbeats 1600000 in
theorem Sth.roomy {sh:Bool} {f:Rmf} (h:Sth w g sg mb v n F sh) (hr:Rms w mb f) (z:Nat) (hz:z≤1099511627776) :
  Calls Tryz.prog 52 #[.pointer (some ⟨g,0,none⟩),.int .i64 (z:Int)] w fun e w'=>e = .returned (.int .i64 (roomyV f z))∧Below w.heap.size w w':=by
 have c2:=h.c2
 have HK:=Lib.hid (keysRm (some mb) w)
 have HS:=Lib.hid (sortedRm hr)
 have hb:Below w.heap.size w (w.alloc (.cells #[.map (some mb)] 76)):=(Below.refl _ _).alloc (Nat.le_refl _) _
 have HB:=Lib.hid hb
 have HRM:=Lib.hid hr
 have HST:=Lib.hid h
 have HZ:=Lib.hid hz
 have hkl:=Rmf.keys_le f
 have HRS:Hid (∀w1,Calls Tryz.prog 96 #[.int .i64 (z:Int)] w1 fun e w'=>e = .returned (.int .i64 ((recordSizeN z:Nat):Int))∧w1=w'):=Lib.hid fun w1=>recordSize_any z w1 hz
 clear h hr hb hz
 obtain⟨L,hL⟩:∃L,f.keys=L:=⟨_,rfl⟩
 rw [hL] at HS hkl
 have HL:=Lib.hid hL
 clear hL
 go_enter Tryz.func52,Tryz.ntmps52
 go_wp2_with (first
  | (go_at_call 95;with_reducible refine HK.out.mono ?_;rintro e w1 ⟨rfl,rfl⟩)
  | (go_at_call 94;with_reducible refine HS.out.mono ?_;rintro e w2 ⟨⟨v2,rfl,ho⟩,hb2⟩;have HB2:=Lib.hid (HB.out.trans (hb2.mono HB.out.size));have HO2:=Lib.hid ho;obtain⟨q2,c2',rfl⟩:=own_form ho;clear ho hb2))
 have HCE:Hid (∀i,i<L.length→∃b,q2=some ⟨b,0,none⟩∧w2.cell? ⟨b,i,none⟩=some (.int .i64 ((L.getD i 0:Nat):Int))):=Lib.hid fun i hi=>by
  obtain⟨p,c,e,hc⟩:=HO2.out.cells
  cases e
  exact hc i hi
 obtain⟨N,hN⟩:∃N,L.length=N:=⟨_,rfl⟩
 rw [hN]
 rw [hN] at hkl HCE
 have hklI:(N:Int)≤512:=by omega
 go_loopw [14] (fun iv wr=>∃i:Nat,i≤N∧iv = .int .i64 (i:Int)∧Hid ((∀j,j<i→hasRoom f z (L.getD j 0)=false)∧Below w2.heap.size w2 wr)) (fun iv _=>N - (RowKit.intOf iv).toNat)
 case atStart=>exact⟨0,by omega,by go_num,Lib.hid ⟨fun j hj=>absurd hj (Nat.not_lt_zero j),Below.refl _ _⟩⟩
 case round=>
  obtain⟨i,hi,rfl,HR⟩:=hrel
  by_cases hlt:i<N
  ·obtain⟨bk,rfl,hbk⟩:=HCE.out i hlt
   have hbw:=HR.out.2
   have hcl:=(hbw.cell (p:=⟨bk,i,none⟩) (lt_of_cellY hbk)).trans hbk
   have hd:decide ((i:Int)<(N:Int))=true:=decide_eq_true (by omega)
   have hin:(i:Int)<(N:Int):=by omega
   have hm:L.getD i 0∈f.keys:=by
    rw [HL.out,List.getD_eq_getElem?_getD,List.getElem?_eq_getElem (by omega)]
    exact List.getElem_mem _
   obtain⟨hll,hls⟩:=Rmf.mem_keys.1 hm
   obtain⟨r,hr⟩:=Option.isSome_iff_exists.1 hls
   obtain⟨l,hl⟩:∃l,L.getD i 0=l:=⟨_,rfl⟩
   rw [hl] at hcl hll hr
   have hbW:Below w.heap.size w wr:=HB2.out.trans (hbw.mono HB2.out.size)
   have l2:∀s:In wr,s.1.cell? ⟨g,2,none⟩=some (.map (some mb)):=fun s=>((HST.out.below (hbW.trans (s.2.mono hbW.size)))).c2
   have lk:∀s:In wr,(Instr.lookup 76 (.map (some mb)) (.int .i64 (l:Int)) false).run Tryz.prog s.1 = .ok (.int .i64 r) s.1:=fun s=>(HRM.out.below (hbW.trans (s.2.mono hbW.size))).look1 l r hr
   have hne:=In.some wr
   have HL2:Hid (L.getD i 0=l):=Lib.hid hl
   have HBW:=Lib.hid hbw
   have HRR:Hid (hasRoom f z l=decide (((recordSizeN z:Nat):Int)≤r)):=Lib.hid (by unfold hasRoom;rw [hr];rfl)
   clear hl hm hls hr
   go_upto_region 4 with fail
   refine region_in wr (by kernel_rfl) (by kernel_rfl) (Below.refl _ _) ?_
   repeat (go_big_quiet_step ((go_at_call 96;exact Calls.quiet_in_same (HRS.out _))))
   refine wpQuiet_nil ?_
   intro w5 hw5
   have HB5:Hid (Below wr.heap.size wr w5):=Lib.hid (by
    obtain⟨⟨wz,hbz⟩,hw''⟩:=hw5
    subst hw''
    exact hbz)
   clear hw5 l2 lk hne
   by_cases hfit:((recordSizeN z:Nat):Int)≤r
   ·have hd2:decide (((recordSizeN z:Nat):Int)≤r)=true:=decide_eq_true hfit
    have HV:Hid (roomyV f z=(l:Int)):=Lib.hid (by
     unfold roomyV
     rw [HL.out,find_at (i:=i) (by omega) (by rw [HL2.out,HRR.out];exact hd2) HR.out.1,HL2.out])
    go_wp2_with fail
    go_ret
    exact⟨by rw [HV.out];rfl,HB2.out.trans ((HBW.out.trans (HB5.out.mono HBW.out.size)).mono HB2.out.size)⟩
   ·have hd2:decide (((recordSizeN z:Nat):Int)≤r)=false:=decide_eq_false hfit
    have HN:Hid ((∀j,j<i+1→hasRoom f z (L.getD j 0)=false)∧Below w2.heap.size w2 w5):=Lib.hid ⟨fun j hj=>by
     by_cases e:j=i
     ·rw [e,HL2.out,HRR.out];exact hd2
     ·exact HR.out.1 j (by omega),HBW.out.trans (HB5.out.mono HBW.out.size)⟩
    have hlt2:i+1≤N:=hlt
    go_wp2_with fail
    go_roundw
    case rel=>exact⟨i+1,hlt2,by go_num,HN⟩
    case measure=>simp [RowKit.intOf];omega
  ·obtain rfl:i=N:=by omega
   have hd:decide ((i:Int)<(i:Int))=false:=decide_eq_false (by omega)
   have HV:Hid (roomyV f z = -1):=Lib.hid (by
    unfold roomyV
    rw [HL.out,find_no (fun j hj=>HR.out.1 j (by omega))])
   go_wp2_with fail
   go_ret
   exact⟨by rw [HV.out];rfl,HB2.out.trans (HR.out.2.mono HB2.out.size)⟩
end
end Go.Proofs.YtmbecjlioogbhaaGreatDoor
end
