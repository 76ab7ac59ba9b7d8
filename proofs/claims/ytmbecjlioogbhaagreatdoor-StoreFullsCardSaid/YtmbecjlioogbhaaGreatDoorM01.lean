/- Texts SMem to Mod of this seat, laid into one. -/
import Derived.Laws.Rows
import Derived.WalkSmall
import Derived.Deep.Cut
import Derived.Deep.CutBlock
import Derived.Deep.DeepCutAuto
import Derived.Deep.AppendLies
import Derived.Lib.AppendZerosOnto
import Derived.Lib.AppendStr
import Derived.BigQuiet
import Derived.Deep.RegionWith
import Derived.Laws.AppendOwnNone
import Derived.Test.YtmbecjlioogbhaaGreatDoorM00
set_option linter.unusedVariables false
set_option linter.unusedSimpArgs false
set_option linter.constructorNameAsVariable false
namespace Go.Proofs.YtmbecjlioogbhaaGreatDoor
section
namespace Sl
open Go.RowKit
structure Chg (F F':List Nat) (w w':World):Prop where
 os:w'.os=w.os
 tape:w'.tape=w.tape
 output:w'.output=w.output
 size:w.heap.size≤w'.heap.size
 block:∀k,k<w.heap.size→k∉F→w'.heap[k]?=w.heap[k]?
 fresh:∀k∈F',k∈F∨w.heap.size≤k
theorem Chg.refl (F:List Nat) (w:World):Chg F F w w:=⟨rfl,rfl,rfl,Nat.le_refl _,fun _ _ _=>rfl,fun _ h=>.inl h⟩
theorem Chg.trans {F F' F2:List Nat} {a b c:World} (h:Chg F F' a b) (k:Chg F' F2 b c):Chg F F2 a c:=
 ⟨k.os.trans h.os,k.tape.trans h.tape,k.output.trans h.output,Nat.le_trans h.size k.size,
  fun i hi hF=>(k.block i (Nat.lt_of_lt_of_le hi h.size) (fun e=>(h.fresh i e).elim hF (fun h2=>by omega))).trans (h.block i hi hF),
  fun i hi=>(k.fresh i hi).elim (fun e=>h.fresh i e) (fun e=>.inr (Nat.le_trans h.size e))⟩
theorem Chg.of_below {F:List Nat} {w w':World} (h:Below w.heap.size w w'):Chg F F w w':=⟨h.os,h.tape,h.output,h.size,fun k hk _=>h.block k hk,fun _ h=>.inl h⟩
theorem Chg.below {F F':List Nat} {B:Nat} {a w w':World} (h:Chg F F' w w') (hb:Below B a w) (hB:B≤w.heap.size) (hF:∀k∈F,B≤k):Below B a w':=
 hb.trans ⟨h.os,h.tape,h.output,h.size,fun k hk=>h.block k (by omega) (fun e=>by have:=hF k e;omega)⟩
theorem Chg.high {F F':List Nat} {B:Nat} {w w':World} (h:Chg F F' w w') (hB:B≤w.heap.size) (hF:∀k∈F,B≤k):∀k∈F',B≤k:=fun k hk=>(h.fresh k hk).elim (hF k) (fun e=>by omega)
theorem Chg.setCell {F:List Nat} {g i:Nat} (hg:g∈F) (v:Value) (w:World):Chg F F w (w.setCell ⟨g,i,none⟩ v):=
 have h:=(Below.refl 0 w).setCell (p:=⟨g,i,none⟩) (Nat.zero_le _) v
 ⟨h.os,h.tape,h.output,h.size,fun k _ hF=>Below.heap_setCell w _ v k (fun e=>hF (by rw [e];exact hg)),fun _ h=>.inl h⟩
def Typed (w:World) (F:List Nat):Prop:=∀k∈F,∃cs t fr,w.heap[k]?=some (.cells cs t fr)∧(t=214∨t=216)
theorem Chg.keep {F F':List Nat} {w w':World} (h:Chg F F' w w') (hT:Typed w F) {b t:Nat} {cs:Array Value} {fr:Nat × Nat} (hb:w.heap[b]?=some (.cells cs t fr)) (ht:t≠214∧t≠216):w'.heap[b]?=some (.cells cs t fr):=by
 rw [h.block b (lt_of_block hb) (fun e=>by
  obtain⟨cs2,t2,fr2,h2,h3⟩:=hT b e
  rw [hb] at h2
  cases h2
  exact h3.elim ht.1 ht.2),hb]
theorem own_head {w:World} {base E m n:Nat} {v:Value} {xs:List Value} {g:Nat} (h:w.ownsRow base E m v n xs) (hg:v.ownBlock=some g):∃cur,w.heap[g]?=some (.cells cur E (0,0)):=by
 rcases h.2 with ⟨rfl,_⟩ | ⟨g',cap,cur,rfl,_,hh,_⟩
 ·simp [Value.ownBlock] at hg
 ·simp [Value.ownBlock] at hg
  subst hg
  exact⟨cur,hh⟩
theorem own_other {w w':World} {base E m n:Nat} {v:Value} {xs:List Value} (h:w.ownsRow base E m v n xs) (hb:∀g,v.ownBlock=some g→w'.heap[g]?=w.heap[g]?):w'.ownsRow base E m v n xs:=by
 refine⟨h.1,?_⟩
 rcases h.2 with h2 | ⟨g,cap,cur,rfl,hb2,hg,hr⟩
 ·exact .inl h2
 ·exact .inr ⟨g,cap,cur,rfl,hb2,(hb g rfl).trans hg,hr⟩
theorem own_chg {F F':List Nat} {w w':World} {base E n k:Nat} {v:Value} {xs:List Value} (h:w.ownsRow base E n v k xs) (hc:Chg F F' w w') (hT:Typed w F) (hE:E≠214∧E≠216):w'.ownsRow base E n v k xs:=by
 refine⟨h.1,?_⟩
 rcases h.2 with h2 | ⟨g,cap,cur,e,hb,hg,hr⟩
 ·exact .inl h2
 ·exact .inr ⟨g,cap,cur,e,hb,hc.keep hT hg hE,hr⟩
theorem base0 {w:World} {base E m n:Nat} {v:Value} {xs:List Value} (h:w.ownsRow base E m v n xs):w.ownsRow 0 E m v n xs:=by
 refine⟨h.1,?_⟩
 rcases h.2 with h2 | ⟨g,cap,cur,e,hb,hg,hr⟩
 ·exact .inl h2
 ·exact .inr ⟨g,cap,cur,e,Nat.zero_le _,hg,hr⟩
theorem own_form {w:World} {base E m n:Nat} {v:Value} {xs:List Value} (h:w.ownsRow base E m v n xs):∃(q:Option Addr) (c:Nat),v = .slice q n c:=by
 rcases h.2 with ⟨rfl,hx⟩ | ⟨g,cap,cur,e,_⟩
 ·have:=h.1
  subst hx
  exact⟨none,0,rfl⟩
 ·exact⟨_,_,e⟩
theorem own_some {w:World} {base E m n:Nat} {v:Value} {xs:List Value} (h:w.ownsRow base E m v n xs) (hn:0<n):∃(g c:Nat),v = .slice (some ⟨g,0,none⟩) n c:=by
 rcases h.2 with ⟨rfl,hx⟩ | ⟨g,cap,cur,e,_⟩
 ·exact absurd hx (by omega)
 ·exact⟨g,cap,e⟩
structure Pg0 (w:World) (g:Nat) (v:Value) (l:List Sl):Prop where
 hd:w.heap[g]?=some (.cells #[v] 214 (0,0))
 row:w.ownsRow 0 216 2 v l.length (flat l)
 ok:Okp l
def foot (g:Nat) (v:Value):List Nat:=g :: v.ownBlock.toList
def Pg (w:World) (g:Nat) (F:List Nat) (l:List Sl):Prop:=∃v,Pg0 w g v l∧F=foot g v
def Went (F:List Nat) (g:Nat) (l:List Sl) (w w':World):Prop:=∃F',Pg w' g F' l∧Chg F F' w w'
theorem ne_of_ty {w:World} {a b:Nat} {cs ds:Array Value} {t u:Nat} {fr fs:Nat × Nat} (h:w.heap[a]?=some (.cells cs t fr)) (k:w.heap[b]?=some (.cells ds u fs)) (ht:t≠u):a≠b:=by
 rintro rfl
 rw [h] at k
 cases k
 exact ht rfl
section
variable {w:World} {g:Nat} {v:Value} {l:List Sl}
theorem Pg0.lt (h:Pg0 w g v l):g<w.heap.size:=lt_of_block h.hd
theorem Pg0.c0 (h:Pg0 w g v l):w.cell? ⟨g,0,none⟩=some v:=by rw [cell_of_row w g 0 _ _ _ h.hd];rfl
theorem Pg0.fz (h:Pg0 w g v l):w.frozen? ⟨g,0,none⟩=false:=frozen_of_row w g 0 _ _ h.hd
theorem Pg0.form (h:Pg0 w g v l):∃q c,v = .slice q l.length c:=own_form h.row
theorem Pg0.typed (h:Pg0 w g v l):Typed w (foot g v):=by
 intro k hk
 unfold foot at hk
 simp only [List.mem_cons,Option.mem_toList] at hk
 rcases hk with rfl | hk
 ·exact⟨_,_,_,h.hd,.inl rfl⟩
 ·obtain⟨cur,hc⟩:=own_head h.row hk;exact⟨_,_,_,hc,.inr rfl⟩
theorem Pg0.pg (h:Pg0 w g v l):Pg w g (foot g v) l:=⟨_,h,rfl⟩
theorem Pg0.stay {w':World} {F F':List Nat} (h:Pg0 w g v l) (hc:Chg F F' w w') (hF:∀k∈foot g v,k∉F):Pg0 w' g v l:=by
 have hs:∀k∈foot g v,w'.heap[k]?=w.heap[k]?:=fun k hk=>hc.block k (by
  obtain⟨cs,t,fr,h1,_⟩:=h.typed k hk;exact lt_of_block h1) (hF k hk)
 exact⟨(hs g (by simp [foot])).trans h.hd,own_other h.row (fun k hk=>hs k (by simp [foot,hk])),h.ok⟩
theorem Pg0.below {w':World} (h:Pg0 w g v l) (hb:Below w.heap.size w w'):Pg0 w' g v l:=h.stay (Chg.of_below (F:=[]) hb) (fun k _ hk=>by cases hk)
theorem Pg0.at (h:Pg0 w g v l) {k:Nat} (hk:k<l.length):∃b c,v = .slice (some ⟨b,0,none⟩) l.length c∧l.length≤c∧w.cell? ⟨b,k*2,none⟩=some (.bool (slot l k).isSome)∧w.cell? ⟨b,k*2+1,none⟩=some (.string (recOf (slot l k))):=by
 obtain⟨b,c,e⟩:=own_some h.row (by omega)
 subst e
 have hr:=h.row
 have hc:l.length≤c:=by
  rcases hr.2 with ⟨e,_⟩ | ⟨g',cap,cur,e,_,_,h1,_⟩
  ·cases e
  ·cases e;exact h1
 obtain⟨f1,f2⟩:=flat_get l k hk
 have a1:=hr.cellAt (k*2) (by omega)
 have a2:=hr.cellAt (k*2+1) (by omega)
 rw [f1] at a1
 rw [f2] at a2
 exact⟨b,c,rfl,hc,a1,a2⟩
end
theorem Pg.ok {w:World} {g:Nat} {F:List Nat} {l:List Sl} (h:Pg w g F l):Okp l:=by obtain⟨v,h,_⟩:=h;exact h.ok
theorem Pg.typed {w:World} {g:Nat} {F:List Nat} {l:List Sl} (h:Pg w g F l):Typed w F:=by obtain⟨v,h,rfl⟩:=h;exact h.typed
theorem Pg.lt {w:World} {g:Nat} {F:List Nat} {l:List Sl} (h:Pg w g F l):∀k∈F,k<w.heap.size:=fun k hk=>by
 obtain⟨cs,t,fr,h1,_⟩:=h.typed k hk;exact lt_of_block h1
theorem Pg.stay {w w':World} {g:Nat} {F F1 F':List Nat} {l:List Sl} (h:Pg w g F1 l) (hc:Chg F F' w w') (hF:∀k∈F1,k∉F):Pg w' g F1 l:=by
 obtain⟨v,h,rfl⟩:=h
 exact⟨v,h.stay hc hF,rfl⟩
theorem Pg.below {w w':World} {g:Nat} {F:List Nat} {l:List Sl} (h:Pg w g F l) (hb:Below w.heap.size w w'):Pg w' g F l:=h.stay (Chg.of_below (F:=[]) hb) (fun k _ hk=>by cases hk)
theorem Went.refl {w:World} {F:List Nat} {g:Nat} {l:List Sl} (h:Pg w g F l):Went F g l w w:=⟨F,h,Chg.refl _ _⟩
theorem Went.below {w w':World} {F:List Nat} {g:Nat} {l:List Sl} (h:Pg w g F l) (hb:Below w.heap.size w w'):Went F g l w w':=⟨F,h.below hb,Chg.of_below hb⟩
theorem Went.then {w w' w2:World} {F:List Nat} {g:Nat} {l:List Sl} (h:Went F g l w w') (hb:Below w'.heap.size w' w2):Went F g l w w2:=by
 obtain⟨F',h1,h2⟩:=h
 exact⟨F',h1.below hb,h2.trans (Chg.of_below hb)⟩
end Sl
end
section
namespace Sl
open Go.RowKit
theorem strB_size (bs:List Nat):(strB bs).size=bs.length:=by
 have h:=congrArg List.length (strOfNums_data (bs.map Int.ofNat))
 simp only [List.length_map] at h
 unfold strB
 rw [←h];rfl
structure Opv where
 kind:Int
 i:Int
 long:Int
 fill:Nat
end Sl
end
section
namespace Sl
open Go.RowKit
theorem zeroCells_one (k:Nat):(Builtin.zeroCells #[Value.int .u8 0] k).toList=List.replicate k (Value.int .u8 0):=by
 apply List.ext_getElem?
 intro j
 rw [Array.getElem?_toList]
 unfold Builtin.zeroCells
 simp only [List.size_toArray,List.length_cons,List.length_nil,Nat.zero_add,Nat.mul_one,Array.getElem?_map]
 rcases Nat.lt_or_ge j k with h | h
 ·simp [h,Nat.mod_one]
 ·simp [h]
theorem zeroCells_size (k:Nat):(Builtin.zeroCells #[Value.int .u8 0] k).size=k:=by rw [size_zeroCells];simp
section
variable {P:Program} (w:World)
theorem run_append_room_zeros (t tn ty e:TypeId) (i:TypeInfo) (ht:P.underlying t=some (.slice e)) (htn:P.underlying tn=some (.int .i64)) (hi:P.info? e=some i) (hz:i.zero=some (.int .u8 0)) (hs1:i.size=1) (hb1:i.bytes=1)
  (g sLen sCap:Nat) (cur:Array Value) (hg:w.heap[g]?=some (.cells cur e (0,0))) (k:Nat) (hk:0<k) (h48:k≤281474976710656)
  (hroom:sLen+k≤sCap) (hfit:sLen+k≤cur.size) :
  (Builtin.append_ #[t,tn] ty #[.slice (some ⟨g,0,none⟩) sLen sCap,.int .i64 k]).run P w =
    .ok (.slice (some ⟨g,0,none⟩) (sLen+k) sCap) (w.setRow g (cur.toList.take sLen++List.replicate k (Value.int .u8 0)++cur.toList.drop (sLen+k)).toArray):=by
 have hst:=run_storeCells_at P g sLen e (List.replicate k (Value.int .u8 0)) 0 cur w hg (by simpa using hfit) (fun u hu=>by obtain rfl:=(List.mem_replicate.1 hu).2;rfl)
 simp only [Nat.add_zero,List.length_replicate] at hst
 have hw:IntKind.i64.wrap (k:Int)=k:=by rw [IntKind.wrap_i64];omega
 have hneg:¬ ((k:Int)<0):=by omega
 have h48i:¬ (281474976710656<(k:Int)):=by omega
 have hk0:k≠0:=by omega
 have hzc:(Builtin.zeroCells #[Value.int .u8 0] k).toList=List.replicate k (Value.int .u8 0):=zeroCells_one k
 simp [Builtin.append_,run_underlying ht,run_underlying htn,sizeOf,typeInfo,zeroValue,hi,hz,hs1,hb1,asInt,asIntOf,hw,hneg,h48i,hk0,hroom,Addr.add_lit,hzc,hst,Value.cells]
theorem run_append_no_zeros (t tn ty e:TypeId) (i:TypeInfo) (ht:P.underlying t=some (.slice e)) (htn:P.underlying tn=some (.int .i64)) (hi:P.info? e=some i) (hs1:i.size=1) (hb1:i.bytes=1)
  (g sLen sCap:Nat) (hroom:sLen≤sCap) :
  (Builtin.append_ #[t,tn] ty #[.slice (some ⟨g,0,none⟩) sLen sCap,.int .i64 0]).run P w = .ok (.slice (some ⟨g,0,none⟩) sLen sCap) w:=by
 have hw:IntKind.i64.wrap (0:Int)=0:=by rw [IntKind.wrap_i64];omega
 simp [Builtin.append_,run_underlying ht,run_underlying htn,sizeOf,typeInfo,hi,hs1,hb1,asInt,asIntOf,hw,hroom,Addr.add_lit,storeCells]
theorem run_append_own_zeros (base:Nat) (t tn ty e:TypeId) (i:TypeInfo) (ht:P.underlying t=some (.slice e)) (htn:P.underlying tn=some (.int .i64)) (hi:P.info? e=some i) (hz:i.zero=some (.int .u8 0)) (hs1:i.size=1) (hb1:i.bytes=1)
  (g n c:Nat) (xs:List Value) (hown:w.ownsRow base e 1 (.slice (some ⟨g,0,none⟩) n c) n xs) (k:Nat) (h63:n+k≤maxLen) (h48:n+k≤140737488355328) (hbase:base≤w.heap.size) :
  ∃q c' w',(Builtin.append_ #[t,tn] ty #[.slice (some ⟨g,0,none⟩) n c,.int .i64 k]).run P w = .ok (.slice q (n+k) c') w'∧w'.ownsRow base e 1 (.slice q (n+k) c') (n+k) (xs++List.replicate k (.int .u8 0))∧w.grownBy w' (some g):=by
 have hxl:xs.length=n:=by simpa using hown.1
 rcases hown.2 with ⟨h0,_⟩ | ⟨g',cap,cur,e0,hbg,hg,hnc,hcm,hcs,htake⟩
 ·cases h0
 cases e0
 have hcs':cur.size=c:=by simpa using hcs
 have ht':cur.toList.take n=xs:=by simpa using htake
 rcases Nat.eq_zero_or_pos k with h0 | h0
 ·subst h0
  exact⟨_,_,_,run_append_no_zeros w t tn ty e i ht htn hi hs1 hb1 g n c hnc,by simpa using hown,World.grownBy.refl w _⟩
 ·have hlen:(xs++List.replicate k (Value.int .u8 0)).length=(n+k)*1:=by rw [List.length_append,hxl,List.length_replicate,Nat.mul_one]
  by_cases hroom:n+k≤c
  ·refine⟨_,_,_,run_append_room_zeros w t tn ty e i ht htn hi hz hs1 hb1 g n c cur hg k h0 (by omega) hroom (by omega),⟨hlen,.inr ⟨g,c,_,rfl,hbg,setRow_heap w g cur _ e _ hg,hroom,hcm,?_,?_⟩⟩,⟨rfl,rfl,rfl,by simp,fun j _ hj=>setRow_other w g j _ (fun e=>hj (by simp [e]))⟩⟩
   ·simp only [List.size_toArray,List.length_append,List.length_take,List.length_drop,Array.length_toList,List.length_replicate]
    omega
   ·rw [ht',←hlen]
    exact List.take_left
  ·have hf:=run_firstCells_some (P:=P) w.drew i.size n ⟨g,0,none⟩ n c xs (by rw [hs1];omega) (by simpa using hown.cells (g:=g) rfl)
   have hr:=Lib.run_append_grow_zeros (P:=P) w t tn ty e i (.int .u8 0) .i64 .i64 ht htn hi hz (some ⟨g,0,none⟩) n c xs hf k h0 (by omega) (by omega) (by unfold maxLen at h63;omega) (by rw [hb1];omega) (by rw [hb1];exact growslice_fits (by omega) (by omega))
   have hge:=grownCap_ge w (n+k) c e
   have hcm2:grownCap w (n+k) c e≤maxLen:=grownCap_le_maxLen w (n+k) c e h63
   refine⟨_,_,_,hr,⟨hlen,.inr ⟨w.heap.size,_,_,rfl,hbase,heap_alloc_new w.drew _,hge,hcm2,?_,?_⟩⟩,⟨rfl,rfl,rfl,by simp,fun j hj _=>heap_alloc_old w.drew _ hj⟩⟩
   ·have hz1:(Value.int IntKind.u8 0).cells=#[Value.int .u8 0]:=rfl
    rw [hz1]
    simp only [Array.size_append,List.size_toArray,zeroCells_size,hxl]
    omega
   ·have hz1:(Value.int IntKind.u8 0).cells=#[Value.int .u8 0]:=rfl
    rw [hz1]
    simp only [Array.toList_append,zeroCells_one,List.append_assoc]
    rw [←List.append_assoc,←hlen]
    exact List.take_left
end
end Sl
end
section
namespace Sl
open Go.RowKit
def nums (S:ByteArray):List Nat:=S.data.toList.map fun b=>b.toNat
theorem nums_len (S:ByteArray):(nums S).length=S.size:=by unfold nums;rw [List.length_map,Array.length_toList];rfl
theorem nums_dig (S:ByteArray):∀x∈nums S,x<256:=fun x hx=>by
 obtain⟨b,_,rfl⟩:=List.mem_map.1 hx
 exact b.toNat_lt
theorem strCells_nums (S:ByteArray):Lib.strCells S=u8s (nums S):=by
 unfold Lib.strCells u8s nums
 rw [List.map_map];rfl
theorem strB_nums (S:ByteArray):strB (nums S)=S:=by
 have h:(strB (nums S)).data.toList=S.data.toList:=by
  unfold strB nums
  rw [strOfNums_data,List.map_map,List.map_map]
  have:(((fun n:Int=>UInt8.ofNat n.toNat) ∘ Int.ofNat) ∘ fun b:UInt8=>b.toNat)=id:=by
   funext b
   simp
  rw [this,List.map_id]
 have h2:(strB (nums S)).data=S.data:=Array.ext' h
 cases S
 cases e:strB (nums _) with
 | mk d=>rw [e] at h2;simp only at h2;rw [h2]
theorem nums_strB {bs:List Nat} (h:∀x∈bs,x<256):nums (strB bs)=bs:=by
 have h2:=strB_nums (strB bs)
 exact strB_inj (nums_dig _) h (by rw [h2])
def szc (o:Sl):Nat:=if o.isSome=true then sz o+1 else 0
def headM (l:List Sl):List Nat:=l.flatMap fun o=>[szc o / 256,szc o % 256]
def recsM (l:List Sl):List Nat:=l.flatMap fun o=>nums (recOf o)
def bytesM (l:List Sl):List Nat:=[l.length]++headM l++recsM l++List.replicate (512 - need l) 0
theorem headM_snoc (l:List Sl) (o:Sl):headM (l++[o])=headM l++[szc o / 256,szc o % 256]:=by unfold headM;simp
theorem recsM_snoc (l:List Sl) (o:Sl):recsM (l++[o])=recsM l++nums (recOf o):=by unfold recsM;simp
theorem headM_len (l:List Sl):(headM l).length=2*l.length:=by
 unfold headM
 induction l with
 | nil=>rfl
 | cons a l ih=>simp only [List.flatMap_cons,List.length_append,List.length_cons,List.length_nil];rw [ih];omega
theorem recsM_len (l:List Sl):(recsM l).length=tot l:=by
 unfold recsM tot
 induction l with
 | nil=>rfl
 | cons a l ih=>simp only [List.flatMap_cons,List.length_append,List.map_cons,List.sum_cons];rw [ih,nums_len];rfl
theorem szc_le {o:Sl} (h:sz o≤512):szc o≤513:=by unfold szc;split <;> omega
theorem headM_dig {l:List Sl} (h:∀o∈l,sz o≤512):∀x∈headM l,x<256:=fun x hx=>by
 obtain⟨o,ho,hx⟩:=List.mem_flatMap.1 hx
 have:=szc_le (h o ho)
 simp at hx
 rcases hx with rfl | rfl <;> omega
theorem recsM_dig (l:List Sl):∀x∈recsM l,x<256:=fun x hx=>by
 obtain⟨o,_,hx⟩:=List.mem_flatMap.1 hx
 exact nums_dig _ x hx
theorem Okp.sz512 {l:List Sl} (h:Okp l):∀o∈l,Go.Proofs.YtmbecjlioogbhaaGreatDoor.Sl.sz o≤512:=fun o ho=>by have:=h.sz o ho;omega
theorem bytesM_dig {l:List Sl} (h:Okp l):∀x∈bytesM l,x<256:=by
 unfold bytesM
 refine dig_append (dig_append (dig_append (fun x hx=>?_) (headM_dig h.sz512)) (recsM_dig l)) (fun x hx=>?_)
 ·simp at hx;have:=h.len;omega
 ·obtain rfl:=(List.mem_replicate.1 hx).2;omega
theorem bytesM_len {l:List Sl} (h:Okp l):(bytesM l).length=512:=by
 unfold bytesM
 have:=h.need
 rw [List.length_append,List.length_append,List.length_append,headM_len,recsM_len,List.length_replicate]
 unfold need at *
 simp;omega
def bytesS (l:List Sl):ByteArray:=strB (bytesM l)
theorem bytesS_size {l:List Sl} (h:Okp l):(bytesS l).size=512:=by unfold bytesS;rw [strB_size,bytesM_len h]
end Sl
end
section
set_option maxRecDepth 20000
open Go.RowKit
def Bo (B:Nat) (w:World) (v:Value) (bs:List Nat):Prop:=∃p c,v = .slice p bs.length c∧w.ownsRow B 5 1 (.slice p bs.length c) bs.length (u8s bs)
theorem Bo.below {B:Nat} {w w':World} {v:Value} {bs:List Nat} (h:Bo B w v bs) (hb:Below w.heap.size w w'):Bo B w' v bs:=by
 obtain⟨p,c,e,h⟩:=h
 exact⟨p,c,e,own_below h hb⟩
theorem be_take (k n i:Nat) (h:i<k):(be k n).take (i+1)=(be k n).take i++[n / 256 ^ (k - 1 - i) % 256]:=by
 rw [List.take_add_one,←be_get k n i h,List.getD_eq_getElem?_getD,List.getElem?_eq_getElem (by rw [be_len];exact h)];rfl
set_option maxHeartbeats 1600000 in
theorem putS_any (B:Nat) (w:World) (v:Value) (bs:List Nat) (x k:Nat) (hB:B≤w.heap.size) (h:Bo B w v bs) (hx:x≤1099511627776) (hk:k≤4) (hl:bs.length≤100000) :
  Calls Tryz.prog 119 #[v,.int .i64 (x:Int),.int .i64 (k:Int)] w fun e w'=>∃v',e = .returned v'∧Bo B w' v' (bs++be k x)∧Below B w w':=by
 obtain⟨i0,hi,hz0,hz1,hz2⟩:=info_parts Tryz.info5
 have HI:=Lib.hid hi
 have HZ0:=Lib.hid hz0
 have HZ1:=Lib.hid hz1
 have HZ2:=Lib.hid hz2
 have HB:=Lib.hid hB
 have HV:=Lib.hid h
 clear hi hz0 hz1 hz2 h hB
 have hkI:(k:Int)≤4:=by omega
 have hxI:(x:Int)≤1099511627776:=by omega
 go_enter Tryz.func119,Tryz.ntmps119
 go_upto_region 2 with fail
 go_loopw [0,7] (fun vv sv wr=>∃i:Nat,i≤k∧sv = .int .i64 (8*((k:Int) - 1 - (i:Int)))∧Hid (Bo B wr vv (bs++(be k x).take i)∧Below B w wr)) (fun _ sv _=>(RowKit.intOf sv+8).toNat)
 case atStart=>exact⟨0,Nat.zero_le _,by go_num,Lib.hid ⟨by rw [List.take_zero,List.append_nil];exact HV.out,Below.refl _ _⟩⟩
 case round=>
  obtain⟨i,hi,rfl,hr⟩:=hrel
  by_cases hlt:i<k
  ·obtain⟨s,hs1,hs2⟩:∃s:Nat,8*((k:Int) - 1 - (i:Int))=(s:Int)∧s=8*(k - 1 - i):=⟨8*(k - 1 - i),by omega,rfl⟩
   rw [hs1]
   have HS1:=Lib.hid hs1
   have HS2:=Lib.hid hs2
   have d0:decide ((0:Int)≤(s:Int))=true:=decide_eq_true (by omega)
   have hs3:(s:Int)≤24:=by omega
   have hs4:(0:Int)≤(s:Int):=by omega
   clear hs1 hs2
   obtain⟨⟨p3,c3,e3,hrow⟩,hbel⟩:=hr.out
   subst e3
   have HLEN:Hid ((bs++(be k x).take i).length=bs.length+i):=Lib.hid (by rw [List.length_append,List.length_take,be_len,Nat.min_eq_left hi])
   rw [HLEN.out] at hrow ⊢
   have HROW:=Lib.hid hrow
   have HBEL:=Lib.hid hbel
   clear hr hrow hbel
   obtain⟨z,hz⟩:∃z:Nat,z=x / 256 ^ (k - 1 - i) % 256:=⟨_,rfl⟩
   have hzv:(x:Int) / 2 ^ s % 256=(z:Int):=by
    have e:(2:Nat) ^ s=256 ^ (k - 1 - i):=by rw [HS2.out,Nat.pow_mul]
    rw [hz,←e,Int.natCast_emod,Int.natCast_ediv,Int.natCast_pow];rfl
   have HTK:Hid (bs++(be k x).take (i+1)=bs++(be k x).take i++[z]):=Lib.hid (by rw [be_take k x i hlt,←hz,List.append_assoc])
   have HROW1:=Lib.hid (HROW.out.alloc (.cells #[.int .u8 (z:Int)] 5))
   have HBB:=Lib.hid (HBEL.out.alloc (Nat.le_trans HB.out HBEL.out.size) (.cells #[.int .u8 (z:Int)] 5))
   have HO2:Hid (∀u∈[Value.int .u8 (z:Int)],u.oneCell'=true):=Lib.hid (by intro u hu;simp at hu;subst hu;rfl)
   have H63:Hid (bs.length+i+1≤maxLen):=Lib.hid (by unfold maxLen;omega)
   have HBS:Hid (B≤(wr.alloc (.cells #[.int .u8 (z:Int)] 5)).heap.size):=Lib.hid (Nat.le_trans (Nat.le_trans HB.out HBEL.out.size) (by simp))
   clear hz
   go_upto_region 4 with fail
   go_wp2_with (at_builtin;refine wpList_append_own _ rfl (.tmp 15) (.tmp 20) 71 rfl B 5 i0 (.int .u8 0) 1 1 Tryz.underlying71 HI.out HZ0.out HZ1.out HZ2.out rfl (by decide) (.slice p3 (bs.length+i) c3) (bs.length+i) _ (by rfl) HROW1.out ⟨wr.heap.size,0,none⟩ 1 1 [.int .u8 (z:Int)] (by rfl) rfl (World.news_of_block (heap_alloc_new _ _)) HO2.out H63.out (by omega) HBS.out ?_;intro v2 w2 hown2 hgrow2 _)
   have HR2:Hid (Bo B w2 v2 (bs++(be k x).take (i+1))∧Below B w w2):=Lib.hid (by
    obtain⟨p4,c4,e4⟩:=Sl.own_form hown2
    subst e4
    have hlen:(bs++(be k x).take (i+1)).length=bs.length+i+1:=by rw [HTK.out,List.length_append,HLEN.out];rfl
    refine⟨⟨p4,c4,by rw [hlen],?_⟩,HBB.out.grown hgrow2 HBS.out (fun k e=>(HROW1.out.lt k e).1)⟩
    rw [hlen,HTK.out,u8s_append]
    exact hown2)
   clear hown2 hgrow2 HBB HROW1
   go_roundw
   case rel=>exact⟨i+1,hlt,by
    have:=HS1.out
    show Value.int .i64 _=Value.int .i64 _
    congr 1
    omega,HR2⟩
   case measure=>simp [RowKit.intOf];omega
  ·obtain rfl:i=k:=by omega
   have hneg:(8*((i:Int) - 1 - (i:Int))) = -8:=by omega
   rw [hneg]
   have HF:Hid (Bo B wr u0 (bs++be i x)∧Below B w wr):=Lib.hid (by
    have:=hr.out
    rw [List.take_of_length_le (by rw [be_len];exact Nat.le_refl _)] at this
    exact this)
   clear hr
   go_wp2_with fail
   go_ret
   exact⟨_,rfl,HF.out⟩
end
section
namespace Bi
def bsum (f:Nat→Bool) (a:Nat):Nat→Nat
 | 0=>0
 | k+1=>2 ^ k*(f (a+k)).toNat+bsum f a k
theorem bsum_lt (f:Nat→Bool) (a k:Nat):bsum f a k<2 ^ k:=by
 induction k with
 | zero=>simp [bsum]
 | succ k ih=>
  show 2 ^ k*(f (a+k)).toNat+bsum f a k<2 ^ (k+1)
  rw [Nat.pow_succ]
  cases f (a+k)
  ·simp;omega
  ·simp;omega
theorem bsum_bit (f:Nat→Bool) (a k i:Nat):(bsum f a k).testBit i=(decide (i<k) && f (a+i)):=by
 induction k with
 | zero=>simp [bsum]
 | succ k ih=>
  show (2 ^ k*(f (a+k)).toNat+bsum f a k).testBit i=_
  rw [Nat.testBit_two_pow_mul_add _ (bsum_lt f a k)]
  by_cases h:i<k
  ·rw [if_pos h,ih,decide_eq_true h,decide_eq_true (show i<k+1 by omega)]
  ·rw [if_neg h]
   by_cases h2:i=k
   ·subst h2
    rw [Nat.sub_self,decide_eq_true (Nat.lt_succ_self _)]
    cases f (a+i) <;> simp
   ·rw [decide_eq_false (show ¬ i<k+1 by omega)]
    obtain⟨j,hj⟩:∃j,i - k=j+1:=⟨i - k - 1,by omega⟩
    rw [hj]
    cases f (a+k) <;> simp [Nat.testBit_succ]
def byt (f:Nat→Bool) (j:Nat):Nat:=bsum f (8*j) 8
theorem byt_lt (f:Nat→Bool) (j:Nat):byt f j<256:=bsum_lt f (8*j) 8
theorem byt_bit (f:Nat→Bool) (j i:Nat):(byt f j).testBit i=(decide (i<8) && f (8*j+i)):=bsum_bit f (8*j) 8 i
theorem byt_congr {f g:Nat→Bool} {j:Nat} (h:∀i,i<8→f (8*j+i)=g (8*j+i)):byt f j=byt g j:=by
 apply Nat.eq_of_testBit_eq
 intro i
 rw [byt_bit,byt_bit]
 by_cases hi:i<8
 ·rw [h i hi]
 ·rw [decide_eq_false hi];rfl
theorem byt_get (f:Nat→Bool) (i:Nat):(byt f (i / 8)).testBit (i % 8)=f i:=by
 rw [byt_bit,decide_eq_true (Nat.mod_lt _ (by decide)),Bool.true_and,Nat.div_add_mod]
def upd (f:Nat→Bool) (i:Nat) (v:Bool):Nat→Bool:=fun j=>if j=i then v else f j
theorem upd_same (f:Nat→Bool) (i:Nat) (v:Bool):upd f i v i=v:=if_pos rfl
theorem upd_other (f:Nat→Bool) (i j:Nat) (v:Bool) (h:j≠i):upd f i v j=f j:=if_neg h
theorem byt_or (f:Nat→Bool) (i:Nat):byt f (i / 8) ||| 2 ^ (i % 8)=byt (upd f i true) (i / 8):=by
 apply Nat.eq_of_testBit_eq
 intro k
 rw [Nat.testBit_or,byt_bit,byt_bit,Nat.testBit_two_pow]
 unfold upd
 by_cases hk:k<8
 ·rw [decide_eq_true hk,Bool.true_and,Bool.true_and]
  by_cases h:i % 8=k
  ·rw [decide_eq_true h,if_pos (by omega),Bool.or_true]
  ·rw [decide_eq_false h,if_neg (by omega),Bool.or_false]
 ·rw [decide_eq_false hk,decide_eq_false (show ¬ i % 8=k by omega)];rfl
theorem byt_upd_far (f:Nat→Bool) (i j:Nat) (v:Bool) (h:j≠i / 8):byt (upd f i v) j=byt f j:=
 byt_congr fun k hk=>upd_other _ _ _ _ (by omega)
theorem byt_and (f:Nat→Bool) (i:Nat):byt f (i / 8) &&& 2 ^ (i % 8)=(f i).toNat * 2 ^ (i % 8):=by
 have h:=byt_get f i
 rw [Nat.testBit_eq_decide_div_mod_eq] at h
 rw [nat_bit]
 cases e:f i
 ·rw [e] at h;have:=of_decide_eq_false h;rw [show byt f (i / 8) / 2 ^ (i % 8) % 2=0 by omega];rfl
 ·rw [e] at h;rw [of_decide_eq_true h];rfl
def trs (bs:List Nat):Nat→Bool:=fun i=>(bs.getD (i / 8) 0).testBit (i % 8)
theorem byt_trs (bs:List Nat) (j:Nat) (h:bs.getD j 0<256):byt (trs bs) j=bs.getD j 0:=by
 apply Nat.eq_of_testBit_eq
 intro k
 rw [byt_bit]
 unfold trs
 by_cases hk:k<8
 ·rw [decide_eq_true hk,Bool.true_and,show (8*j+k) / 8=j by omega,show (8*j+k) % 8=k by omega]
 ·rw [decide_eq_false hk,Bool.false_and]
  exact(Nat.testBit_lt_two_pow (Nat.lt_of_lt_of_le h (show 2 ^ 8≤2 ^ k from Nat.pow_le_pow_right (by omega) (by omega)))).symm
def need (n:Nat):Nat:=(n+7) / 8
def rowF (f:Nat→Bool) (m:Nat):List Nat:=(List.range m).map (byt f)
theorem rowF_len (f:Nat→Bool) (m:Nat):(rowF f m).length=m:=by simp [rowF]
theorem rowF_getD (f:Nat→Bool) (m j:Nat) (h:j<m):(rowF f m).getD j 0=byt f j:=by
 unfold rowF;rw [List.getD_eq_getElem?_getD,List.getElem?_map,List.getElem?_range h];rfl
theorem rowF_dig (f:Nat→Bool) (m:Nat):∀x∈rowF f m,x<256:=by
 intro x hx
 obtain⟨j,_,rfl⟩:=List.mem_map.1 hx
 exact byt_lt f j
theorem getD_ext {a b:List Nat} (hl:a.length=b.length) (h:∀j,j<a.length→a.getD j 0=b.getD j 0):a=b:=by
 apply List.ext_getElem hl
 intro j h1 h2
 have:=h j h1
 rwa [List.getD_eq_getElem?_getD,List.getD_eq_getElem?_getD,List.getElem?_eq_getElem h1,List.getElem?_eq_getElem h2] at this
theorem rowF_upd (f:Nat→Bool) (m i:Nat) (v:Bool):(rowF f m).set (i / 8) (byt (upd f i v) (i / 8))=rowF (upd f i v) m:=by
 refine getD_ext (by simp [rowF_len]) fun j hj=>?_
 rw [List.length_set,rowF_len] at hj
 rw [rowF_getD _ _ _ hj,List.getD_eq_getElem?_getD,List.getElem?_set]
 by_cases h:i / 8=j
 ·subst h;simp [rowF_len,hj]
 ·rw [if_neg h,←List.getD_eq_getElem?_getD,rowF_getD _ _ _ hj,byt_upd_far _ _ _ _ (Ne.symm h)]
theorem rowF_congr {f g:Nat→Bool} {m:Nat} (h:∀i,i<8*m→f i=g i):rowF f m=rowF g m:=by
 refine getD_ext (by simp [rowF_len]) fun j hj=>?_
 rw [rowF_len] at hj
 rw [rowF_getD _ _ _ hj,rowF_getD _ _ _ hj]
 exact byt_congr fun i hi=>h _ (by omega)
theorem rowF_trs {bs:List Nat} {m:Nat} (hl:bs.length=m) (hd:∀x∈bs,x<256):rowF (trs bs) m=bs:=by
 refine getD_ext (by rw [rowF_len,hl]) fun j hj=>?_
 rw [rowF_len] at hj
 rw [rowF_getD _ _ _ hj]
 refine byt_trs bs j ?_
 rw [List.getD_eq_getElem?_getD,List.getElem?_eq_getElem (by omega)]
 exact hd _ (List.getElem_mem _)
theorem trs_rowF {f:Nat→Bool} {m i:Nat} (h:i<8*m):trs (rowF f m) i=f i:=by
 unfold trs
 rw [rowF_getD _ _ _ (by omega),byt_get]
theorem trs_far {bs:List Nat} {i:Nat} (h:8*bs.length≤i):trs bs i=false:=by
 unfold trs
 rw [List.getD_eq_getElem?_getD,List.getElem?_eq_none (by omega)];simp
def Sub (n:Nat) (f:Nat→Bool):Prop:=∀i,n≤i→f i=false
def cut (n:Nat) (f:Nat→Bool):Nat→Bool:=fun i=>decide (i<n) && f i
theorem cut_sub (n:Nat) (f:Nat→Bool):Sub n (cut n f):=fun i h=>by unfold cut;rw [decide_eq_false (by omega)];rfl
theorem cut_of {n:Nat} {f:Nat→Bool} (h:Sub n f):cut n f=f:=by
 funext i
 unfold cut
 by_cases hi:i<n
 ·rw [decide_eq_true hi,Bool.true_and]
 ·rw [decide_eq_false hi,h i (by omega)];rfl
theorem sub_ext {n:Nat} {f g:Nat→Bool} (hf:Sub n f) (hg:Sub n g) (h:∀i,i<n→f i=g i):f=g:=by
 funext i
 by_cases hi:i<n
 ·exact h i hi
 ·rw [hf i (by omega),hg i (by omega)]
theorem Sub.upd {n:Nat} {f:Nat→Bool} (h:Sub n f) {i:Nat} (hi:i<n) (v:Bool):Sub n (upd f i v):=fun j hj=>by rw [upd_other _ _ _ _ (by omega)];exact h j hj
def nx (h:Nat→Bool):Nat→Nat→Option Nat
 | 0,_=>none
 | k+1,i=>if h i then some i else nx h k (i+1)
def nxt (h:Nat→Bool) (n i:Nat):Option Nat:=nx h (n - i) i
def num:Option Nat→Int
 | none=>-1
 | some j=>(j:Int)
def cnt (f:Nat→Bool):Nat→Nat
 | 0=>0
 | k+1=>cnt f k+(f k).toNat
theorem cnt_le (f:Nat→Bool) (k:Nat):cnt f k≤k:=by
 induction k with
 | zero=>exact Nat.le_refl _
 | succ k ih=>unfold cnt;cases f k <;> simp <;> omega
theorem cnt_skip {f:Nat→Bool} {i j:Nat} (hij:i≤j) (h:∀x,i≤x→x<j→f x=false):cnt f j=cnt f i:=by
 induction j with
 | zero=>
      have:i=0:=by omega
      subst this;rfl
 | succ j ih=>
  by_cases e:i=j+1
  ·subst e;rfl
  ·show cnt f j+(f j).toNat=_
   rw [h j (by omega) (by omega),ih (by omega) (fun x hx hy=>h x hx (by omega))];rfl
theorem cnt_all {f:Nat→Bool} {i j:Nat} (hij:i≤j) (h:∀x,i≤x→x<j→f x=true):cnt f j=cnt f i+(j - i):=by
 induction j with
 | zero=>
      have:i=0:=by omega
      subst this;rfl
 | succ j ih=>
  by_cases e:i=j+1
  ·subst e;simp
  ·show cnt f j+(f j).toNat=_
   rw [h j (by omega) (by omega),ih (by omega) (fun x hx hy=>h x hx (by omega))]
   simp;omega
end Bi
end
section
set_option maxRecDepth 20000
open Go.RowKit
def Empty (base:Nat) (w':World) (v:Value):Prop:=∃p c,v = .slice p 0 c∧w'.ownsRow base 5 1 (.slice p 0 c) 0 (u8s [])
set_option maxHeartbeats 800000 in
theorem grow_any (n:Nat) (w:World) (hn:n≤1099511627776) :
  Calls Tryz.prog 147 #[.slice none 0 0,.int .i64 n] w fun e w'=>(∃v,e = .returned v∧Empty w.heap.size w' v)∧Below w.heap.size w w':=by
 rcases Nat.eq_zero_or_pos n with h0 | h0
 ·subst h0
  have HE:Hid (Empty w.heap.size w (.slice none 0 0)):=Lib.hid ⟨none,0,rfl,World.ownsRow_nil _ _ _ _⟩
  go_enter Tryz.func147,Tryz.ntmps147
  go_wp2_with fail
  go_ret
  exact⟨⟨_,rfl,HE.out⟩,Below.refl _ _⟩
 ·obtain⟨i0,hi,hz0,hz1,hz2⟩:=info_parts Tryz.info5
  have hrz:∀ty,(Builtin.append_ #[71,3] ty #[.slice none 0 0,.int .i64 (n:Int)]).run Tryz.prog w =
    .ok (.slice (some ⟨w.heap.size,0,none⟩) n (grownCap w n 0 5)) (w.drew.alloc (.cells (#[]++Builtin.zeroCells #[.int .u8 0] n++Builtin.zeroCells #[.int .u8 0] (grownCap w n 0 5 - n)) 5)):=fun ty=>by
   have h:=Lib.run_append_grow_zeros (P:=Tryz.prog) w 71 3 ty 5 i0 (.int .u8 0) .i64 .i64 Tryz.underlying71 Tryz.underlying3 hi hz0 none 0 0 [] (run_firstCells_none w.drew i0.size 0 0 0) n h0 (by omega) (by omega) (by omega)
    (by rw [hz2];omega) (by rw [hz2];exact growslice_fits (by omega) (by omega))
   rw [Nat.zero_add] at h
   exact h
  have hGn:=grownCap_ge w n 0 5
  have hGm:=grownCap_le_maxLen w n 0 5 (by unfold maxLen;omega)
  generalize grownCap w n 0 5=G at hrz hGn hGm
  have hcs:(#[]++Builtin.zeroCells #[.int .u8 0] n++Builtin.zeroCells #[.int .u8 0] (G - n):Array Value).size=G:=by
   rw [Array.size_append,Array.size_append,size_zeroCells,size_zeroCells];simp;omega
  generalize (#[]++Builtin.zeroCells #[.int .u8 0] n++Builtin.zeroCells #[.int .u8 0] (G - n):Array Value)=cs at hrz hcs
  have HE:Hid (Empty w.heap.size (w.drew.alloc (.cells cs 5)) (.slice (some ⟨w.heap.size,0,none⟩) 0 G)):=Lib.hid ⟨_,_,rfl,rfl,.inr ⟨w.heap.size,G,cs,rfl,Nat.le_refl _,by show (w.heap.push _)[w.heap.size]?=_;simp,Nat.zero_le _,hGm,by omega,rfl⟩⟩
  unfold maxLen at hGm
  clear hcs hi hz0 hz1 hz2
  go_enter Tryz.func147,Tryz.ntmps147
  go_wp2_with (at_builtin;refine Lib.wpList_append_run _ rfl _ _ _ _ rfl _ _ rfl rfl _ _ (hrz _) ?_)
  go_ret
  exact⟨⟨_,rfl,HE.out⟩,(Below.refl _ _).drew.alloc (Nat.le_refl _) _⟩
def cat (ps:Nat→List Nat):Nat→List Nat
 | 0=>[]
 | i+1=>cat ps i++ps i
def Pcs (w:World) (b o n:Nat) (A:Nat→Option Addr) (L C:Nat→Nat) (ps:Nat→List Nat):Prop:=
 ∀r,r<n→w.cell? ⟨b,o+r,none⟩=some (.slice (A r) (L r) (C r))∧Bys w (A r) (L r) (ps r)∧(A r=none→C r=0)∧L r≤C r
theorem cat_mono (ps:Nat→List Nat) {i n:Nat} (h:i≤n):(cat ps i).length≤(cat ps n).length:=by
 induction n with
 | zero=>rw [Nat.le_zero.1 h];exact Nat.le_refl _
 | succ n ih=>
  rcases Nat.lt_or_ge i (n+1) with h1 | h1
  ·refine Nat.le_trans (ih (by omega)) ?_
   show _≤(cat ps n++ps n).length
   rw [List.length_append];omega
  ·rw [show i=n+1 by omega];exact Nat.le_refl _
structure CatRel (w wr:World) (v:Value) (i:Nat) (ps:Nat→List Nat):Prop where
 below:Below w.heap.size w wr
 row:∃p c,v = .slice p (cat ps i).length c∧wr.ownsRow w.heap.size 5 1 (.slice p (cat ps i).length c) (cat ps i).length (u8s (cat ps i))
set_option maxHeartbeats 1600000 in
theorem concat_any (b o n c:Nat) (A:Nat→Option Addr) (L C:Nat→Nat) (ps:Nat→List Nat) (w:World) (hn:n≤9223372036854775807) (hP:Pcs w b o n A L C ps) (hbl:b<w.heap.size) (hT:(cat ps n).length≤1099511627776) :
  Calls Tryz.prog 90 #[.slice (some ⟨b,o,none⟩) n c] w fun e w'=>∃p c,e = .returned (.slice p (cat ps n).length c)∧w'.ownsRow w.heap.size 5 1 (.slice p (cat ps n).length c) (cat ps n).length (u8s (cat ps n))∧Below w.heap.size w w':=by
 obtain⟨i0,hi,hz0,hz1,hz2⟩:=info_parts Tryz.info5
 have HI:=Lib.hid hi
 have HZ0:=Lib.hid hz0
 have HZ1:=Lib.hid hz1
 have HZ2:=Lib.hid hz2
 have HP:=Lib.hid hP
 have HT:=Lib.hid hT
 clear hP hT hi hz0 hz1 hz2
 go_enter Tryz.func90,Tryz.ntmps90
 go_wp2_with fail
 go_loop [3,11] (fun sv iv=>∃i s:Nat,i≤n∧iv = .int .i64 (i:Int)∧sv = .int .i64 (s:Int)∧s≤1099511627776∧(cat ps i).length=s) (fun _ iv=>n - (RowKit.intOf iv).toNat)
 case atStart=>exact⟨0,0,by omega,by go_num,by go_num,by omega,rfl⟩
 case round=>
  obtain⟨i,s,hin,rfl,rfl,hs40,hs⟩:=hrel
  have HS:=Lib.hid hs
  clear hs
  by_cases hlt:i<n
  ·obtain⟨hcell,hBy,_,_⟩:=HP.out i hlt
   have HN:Hid ((cat ps (i+1)).length=s+L i):=Lib.hid (by show (cat ps i++ps i).length=_;rw [List.length_append,HS.out,hBy.len])
   have hN2:s+L i≤1099511627776:=by rw [←HN.out];exact Nat.le_trans (cat_mono ps hlt) HT.out
   clear hBy
   generalize L i=l at *
   generalize C i=c1 at *
   generalize A i=a1 at *
   go_wp2_with fail
   go_round
   case rel=>exact⟨i+1,s+l,by omega,by go_num,by go_num,hN2,HN.out⟩
   case measure=>simp [RowKit.intOf];omega
  ·obtain rfl:i=n:=by omega
   go_wp2_with fail
   refine(grow_any s _ hs40).mono ?_
   rintro e w1 ⟨⟨v,rfl,hE⟩,hb⟩
   have H0:Hid (CatRel w w1 v 0 ps):=Lib.hid ⟨hb,hE⟩
   clear hE hb HS
   go_wp2_with fail
   go_loopw [6,27] (fun vv iv wr=>∃k:Nat,k≤i∧iv = .int .i64 (k:Int)∧CatRel w wr vv k ps) (fun _ iv _=>i - (RowKit.intOf iv).toNat)
   case atStart=>exact⟨0,by omega,by go_num,H0.out⟩
   case round=>
    obtain⟨k,hk,rfl,hr⟩:=hrel
    clear H0
    by_cases hlt:k<i
    ·obtain⟨hcell0,hBy0,hA0,hLC⟩:=HP.out k hlt
     obtain⟨hbel,p,c2,rfl,hrow⟩:=hr
     have hcell:=(hbel.cell (p:=⟨b,o+k,none⟩) hbl).trans hcell0
     have HBy:=Lib.hid (hBy0.below hbel)
     have HA0:=Lib.hid hA0
     have HB:=Lib.hid hbel
     have HE:=Lib.hid (show cat ps (k+1)=cat ps k++ps k from rfl)
     have hN2:(cat ps k).length+L k≤1099511627776:=by
      have h1:(cat ps (k+1)).length=(cat ps k).length+L k:=by rw [HE.out,List.length_append,hBy0.len]
      rw [←h1];exact Nat.le_trans (cat_mono ps hlt) HT.out
     have HPL:Hid ((ps k).length=L k):=Lib.hid hBy0.len
     have HR:=Lib.hid hrow
     clear hbel hrow hcell0 hBy0 hA0
     obtain⟨l,HL⟩:∃l,Hid ((cat ps k).length=l):=⟨_,Lib.hid rfl⟩
     rw [HL.out] at HR hN2 ⊢
     generalize hli:L k=m at *
     generalize hci:C k=c1 at *
     clear hli hci
     cases hA:A k with
     | none=>
      rw [hA] at hcell HBy
      obtain rfl:c1=0:=HA0.out hA
      obtain rfl:m=0:=by omega
      clear hA HA0
      have HN:Hid (CatRel w wr (.slice p l c2) (k+1) ps):=Lib.hid ⟨HB.out,p,c2,by rw [HE.out,HBy.out.nil_,List.append_nil,HL.out],by rw [HE.out,HBy.out.nil_,List.append_nil,HL.out];exact HR.out⟩
      have hown:=HR.out
      go_wp2_with (at_builtin;refine wpList_append_own_none rfl _ _ 71 rfl w.heap.size 5 i0 1 Tryz.underlying71 HI.out _ l _ rfl hown rfl ?_)
      clear hown
      go_wp2_with fail
      go_roundw
      case rel=>exact⟨k+1,by omega,by go_num,HN.out⟩
      case measure=>simp [RowKit.intOf];omega
     | some ad=>
      rw [hA] at hcell HBy
      clear hA HA0
      have KN:Hid (∀j u,(u8s (ps k))[j]?=some u→wr.cell? (ad.add j)=some u):=Lib.hid (by
       rcases Nat.eq_zero_or_pos m with h0 | h0
       ·subst h0
        rw [HBy.out.nil_]
        intro j u hj
        cases hj
       ·obtain⟨ad',e,h⟩:=HBy.out.cells h0
        cases e
        exact h)
      have KL:Hid ((u8s (ps k)).length=m*1):=Lib.hid (by rw [u8s_len,HPL.out,Nat.mul_one])
      have K63:Hid (l+m≤maxLen):=Lib.hid (by unfold maxLen;omega)
      have KB:Hid ((l+m)*1≤140737488355328):=Lib.hid (by omega)
      have KE:Hid (w.heap.size≤wr.heap.size):=Lib.hid HB.out.size
      have hown:=HR.out
      go_wp2_with (at_builtin;refine wpList_append_own _ rfl _ _ 71 rfl w.heap.size 5 i0 (.int .u8 0) 1 1 Tryz.underlying71 HI.out HZ0.out HZ1.out HZ2.out rfl (by decide) _ l _ rfl hown ad m c1 (u8s (ps k)) rfl KL.out KN.out (u8s_one _) K63.out KB.out KE.out ?_)
      intro v2 w2 hown2 hgrow _
      obtain⟨p2,c3,rfl⟩:=own_slice hown2
      have HN:Hid (CatRel w w2 (.slice p2 (l+m) c3) (k+1) ps):=Lib.hid ⟨HB.out.grown hgrow HB.out.size (fun j e=>(HR.out.lt j e).1),p2,c3,by rw [HE.out,List.length_append,HL.out,HPL.out],by rw [HE.out,List.length_append,HL.out,HPL.out,u8s_append];exact hown2⟩
      clear hown hown2 hgrow KN KL K63 KB KE HR
      go_wp2_with fail
      go_roundw
      case rel=>exact⟨k+1,by omega,by go_num,HN.out⟩
      case measure=>simp [RowKit.intOf];omega
    ·obtain rfl:k=i:=by omega
     obtain⟨hbel,p,c2,rfl,hrow⟩:=hr
     have HB:=Lib.hid hbel
     have HR:=Lib.hid hrow
     clear hbel hrow
     obtain⟨l,HL⟩:∃l,Hid ((cat ps k).length=l):=⟨_,Lib.hid rfl⟩
     rw [HL.out] at HR ⊢
     go_wp2_with fail
     go_ret
     rw [HL.out]
     exact⟨p,c2,rfl,HR.out,HB.out⟩
end
section
open Go.RowKit
def Made (base:Nat) (w':World) (v:Value) (bs:List Nat):Prop:=∃p c,v = .slice p bs.length c∧w'.ownsRow base 5 1 (.slice p bs.length c) bs.length (u8s bs)
theorem own_base {w:World} {base base2 n:Nat} {v:Value} {xs:List Value} (hb:base2≤base) (h:w.ownsRow base 5 1 v n xs):w.ownsRow base2 5 1 v n xs:=by
 obtain⟨h1,h2⟩:=h
 refine⟨h1,?_⟩
 rcases h2 with h2 | ⟨g,cap,cur,e,hbg,hr⟩
 ·exact .inl h2
 ·exact .inr ⟨g,cap,cur,e,Nat.le_trans hb hbg,hr⟩
def pick2 {α:Type} (x y:α):Nat→α
 | 0=>x
 | _=>y
structure Fit (p:Option Addr) (n c:Nat):Prop where
 cap:n≤c
 nil_:p=none→c=0
theorem two_pcs (w:World) (p q:Option Addr) (n c m d:Nat) (xs ys:List Nat) (h1:Bys w p n xs) (h2:Bys w q m ys) (f1:Fit p n c) (f2:Fit q m d) :
  Pcs (w.alloc (.cells #[.slice p n c,.slice q m d] 71)) w.heap.size 0 2 (pick2 p q) (pick2 n m) (pick2 c d) (pick2 xs ys):=by
 have hb:Below w.heap.size w (w.alloc (.cells #[.slice p n c,.slice q m d] 71)):=(Below.refl _ _).alloc (Nat.le_refl _) _
 intro r hr
 rcases (show r=0∨r=1 by omega) with rfl | rfl
 ·exact⟨World.cell?_alloc_new w _ _ 0,h1.below hb,f1.nil_,f1.cap⟩
 ·exact⟨World.cell?_alloc_new w _ _ 1,h2.below hb,f2.nil_,f2.cap⟩
theorem cat_two (xs ys:List Nat):cat (pick2 xs ys) 2=xs++ys:=by show ([]++xs)++ys=_;rw [List.nil_append]
theorem two_made (w w1:World) (p q:Option Addr) (n c m d:Nat) (xs ys:List Nat) (hb:Below w.heap.size w w1) (h1:Bys w p n xs) (h2:Bys w q m ys) (f1:Fit p n c) (f2:Fit q m d) (hs:n+m≤1099511627776) :
  Calls Tryz.prog 90 #[.slice (some ⟨w1.heap.size,0,none⟩) 2 2] (w1.alloc (.cells #[.slice p n c,.slice q m d] 71)) fun e w'=>(∃v,e = .returned v∧Made w.heap.size w' v (xs++ys))∧Below w.heap.size w w':=by
 have hP:=two_pcs w1 p q n c m d xs ys (h1.below hb) (h2.below hb) f1 f2
 refine(concat_any w1.heap.size 0 2 2 _ _ _ _ _ (by omega) hP (by simp) (by rw [cat_two,List.length_append,h1.len,h2.len];exact hs)).mono ?_
 rw [cat_two]
 rintro e w' ⟨p',c',rfl,ho,hb2⟩
 refine⟨⟨_,rfl,p',c',rfl,?_⟩,?_⟩
 ·exact own_base (by have:=hb.size;simp;omega) ho
 ·exact(hb.alloc hb.size _).trans (hb2.mono (by have:=hb.size;simp;omega))
end
section
structure Dsk where
 out:List (List Nat)
 row:List (Nat × List Nat)
 fuse:Int
 down:Bool
 done:Nat
abbrev Wr:=Nat × List Nat
def wr (l:List Wr) (k:Nat):Wr:=l.getD k (0,[])
def appN (l:List Wr) (L:List (List Nat)):Nat→List (List Nat)
 | 0=>L
 | k+1=>(appN l L k).set (wr l k).1 (wr l k).2
def appAll (l:List Wr) (L:List (List Nat)):List (List Nat):=appN l L l.length
def Dsk.last (m:Dsk):List (List Nat):=appAll m.row m.out
theorem appN_len (l:List Wr) (L:List (List Nat)) (k:Nat):(appN l L k).length=L.length:=by
 induction k with
 | zero=>rfl
 | succ k ih=>show ((appN l L k).set _ _).length=_;rw [List.length_set,ih]
theorem last_len (m:Dsk):m.last.length=m.out.length:=appN_len _ _ _
theorem wr_left (l r:List Wr) (k:Nat) (h:k<l.length):wr (l++r) k=wr l k:=by
 unfold wr;rw [List.getD_eq_getElem?_getD,List.getD_eq_getElem?_getD,List.getElem?_append_left h]
theorem wr_last (l:List Wr) (x:Wr):wr (l++[x]) l.length=x:=by
 unfold wr;rw [List.getD_eq_getElem?_getD,List.getElem?_append_right (Nat.le_refl _)];simp
theorem appN_left (l r:List Wr) (L:List (List Nat)) (k:Nat) (h:k≤l.length):appN (l++r) L k=appN l L k:=by
 induction k with
 | zero=>rfl
 | succ k ih=>show ((appN (l++r) L k).set _ _)=(appN l L k).set _ _;rw [ih (by omega),wr_left _ _ _ (by omega)]
theorem appAll_snoc (l:List Wr) (x:Wr) (L:List (List Nat)):appAll (l++[x]) L=(appAll l L).set x.1 x.2:=by
 unfold appAll
 rw [List.length_append]
 show (appN (l++[x]) L l.length).set _ _=_
 rw [appN_left _ _ _ _ (Nat.le_refl _),wr_last]
def tear (at_:Nat) (new old:List Nat):List Nat:=new.take at_++old.drop at_
def sec (L:List (List Nat)) (i:Nat):List Nat:=L.getD i []
theorem tear_len (a:Nat) (x y:List Nat) (hx:x.length=128) (hy:y.length=128) (ha:a≤128):(tear a x y).length=128:=by
 unfold tear;rw [List.length_append,List.length_take,List.length_drop];omega
theorem tear_all (x y:List Nat) (hx:x.length=128) (hy:y.length=128):tear 128 x y=x:=by
 unfold tear;rw [List.take_of_length_le (by omega),List.drop_of_length_le (by omega),List.append_nil]
theorem tear_dig (a:Nat) (x y:List Nat) (hx:∀d∈x,d<256) (hy:∀d∈y,d<256):∀d∈tear a x y,d<256:=fun d hd=>
 (List.mem_append.1 hd).elim (fun h=>hx d (List.mem_of_mem_take h)) (fun h=>hy d (List.mem_of_mem_drop h))
def bring (L:List (List Nat)) (x:Wr):Option Nat→List (List Nat)
 | none=>L
 | some a=>L.set x.1 (tear a x.2 (sec L x.1))
def failN (l:List Wr) (L:List (List Nat)) (f:Nat→Option Nat):Nat→List (List Nat)
 | 0=>L
 | k+1=>bring (failN l L f k) (wr l k) (f k)
theorem bring_len (L:List (List Nat)) (x:Wr) (o:Option Nat):(bring L x o).length=L.length:=by
 cases o with
 | none=>rfl
 | some a=>show (L.set _ _).length=_;rw [List.length_set]
def burnt (m:Dsk):Dsk:={ m with down:=true }
def burns (m:Dsk):Dsk:={ m with fuse:=if m.fuse = -1 then -1 else m.fuse - 1,done:=m.done+1 }
def Dsk.has (m:Dsk) (i:Int):Bool:=decide (0≤i) && decide (i<m.out.length)
def putE (m:Dsk) (i:Int) (s:List Nat):Int:=
 if m.down then 9 else if m.has i=false then 7 else if s.length≠128 then 1 else if m.fuse=0 then 9 else 0
def putM (m:Dsk) (i:Int) (s:List Nat):Dsk:=
 if m.down then m else if m.has i=false then m else if s.length≠128 then m else if m.fuse=0 then burnt m else { burns m with row:=m.row++[(i.toNat,s)] }
def barE (m:Dsk):Int:=if m.down then 9 else if m.fuse=0 then 9 else 0
def barM (m:Dsk):Dsk:=if m.down then m else if m.fuse=0 then burnt m else { burns m with out:=m.last,row:=[] }
def fuseM (m:Dsk) (n:Int):Dsk:={ m with fuse:=max n (-1) }
def readE (m:Dsk) (i:Int):Int:=if m.down then 9 else if m.has i=false then 7 else 0
def readS (m:Dsk) (i:Int):List Nat:=if m.down then [] else if m.has i=false then [] else sec m.last i.toNat
def newM (n:Nat):Dsk:=⟨List.replicate n (List.replicate 128 0),[],-1,false,0⟩
structure Ok (m:Dsk):Prop where
 out:∀s∈m.out,s.length=128∧∀d∈s,d<256
 row:∀x∈m.row,x.1<m.out.length∧x.2.length=128∧∀d∈x.2,d<256
 fuse0:-1≤m.fuse
 fuse1:m.fuse≤9223372036854775807
theorem has_true {m:Dsk} {i:Int} (h0:0≤i) (h1:i<m.out.length):m.has i=true:=by unfold Dsk.has;simp [h0,h1]
theorem has_low {m:Dsk} {i:Int} (h0:i<0):m.has i=false:=by unfold Dsk.has;simp;omega
theorem sec_mem {L:List (List Nat)} {i:Nat} (h:i<L.length):sec L i∈L:=by
 unfold sec;rw [List.getD_eq_getElem?_getD,List.getElem?_eq_getElem h];exact List.getElem_mem h
theorem sec_set {L:List (List Nat)} {i:Nat} (s:List Nat) (h:i<L.length) (j:Nat):sec (L.set i s) j=if i=j then s else sec L j:=by
 unfold sec
 rw [List.getD_eq_getElem?_getD,List.getD_eq_getElem?_getD,List.getElem?_set]
 split
 ·simp
 ·rfl
theorem wr_mem {l:List Wr} {k:Nat} (h:k<l.length):wr l k∈l:=by
 unfold wr;rw [List.getD_eq_getElem?_getD,List.getElem?_eq_getElem h];exact List.getElem_mem h
def Secs128 (L:List (List Nat)):Prop:=∀s∈L,s.length=128∧∀d∈s,d<256
def Rows128 (n:Nat) (l:List Wr):Prop:=∀x∈l,x.1<n∧x.2.length=128∧∀d∈x.2,d<256
theorem Secs128.set {L:List (List Nat)} (h:Secs128 L) (i:Nat) {s:List Nat} (hs:s.length=128∧∀d∈s,d<256):Secs128 (L.set i s):=fun x hx=>
 (List.mem_or_eq_of_mem_set hx).elim (h x) (fun e=>e ▸ hs)
theorem Secs128.appN {L:List (List Nat)} {l:List Wr} (h:Secs128 L) (hl:Rows128 L.length l):∀k,k≤l.length→Secs128 (appN l L k)
 | 0,_=>h
 | k+1,hk=>(Secs128.appN h hl k (by omega)).set _ (hl _ (wr_mem (by omega))).2
theorem Secs128.bring {L:List (List Nat)} {x:Wr} (h:Secs128 L) (hx:x.1<L.length∧x.2.length=128∧∀d∈x.2,d<256) {o:Option Nat} (ho:∀a,o=some a→a≤128):Secs128 (bring L x o):=by
 cases o with
 | none=>exact h
 | some a=>
  have h1:=h _ (sec_mem hx.1)
  exact h.set _ ⟨tear_len _ _ _ hx.2.1 h1.1 (ho a rfl),tear_dig _ _ _ hx.2.2 h1.2⟩
theorem failN_all {L:List (List Nat)} {l:List Wr} (h:Secs128 L) (hl:Rows128 L.length l) {f:Nat→Option Nat} (hf:∀k,k<l.length→f k=some 128):∀k,k≤l.length→Go.Proofs.YtmbecjlioogbhaaGreatDoor.failN l L f k=Go.Proofs.YtmbecjlioogbhaaGreatDoor.appN l L k
 | 0,_=>rfl
 | k+1,hk=>by
  show Go.Proofs.YtmbecjlioogbhaaGreatDoor.bring (Go.Proofs.YtmbecjlioogbhaaGreatDoor.failN l L f k) _ _=(Go.Proofs.YtmbecjlioogbhaaGreatDoor.appN l L k).set _ _
  have hx:=hl _ (wr_mem (show k<l.length by omega))
  rw [failN_all h hl hf k (by omega),hf k (by omega)]
  show (Go.Proofs.YtmbecjlioogbhaaGreatDoor.appN l L k).set _ (tear 128 _ _)=_
  rw [tear_all _ _ hx.2.1 (h.appN hl k (by omega) _ (sec_mem (by rw [appN_len];exact hx.1))).1]
theorem Ok.last {m:Dsk} (h:Ok m):Secs128 m.last:=Secs128.appN h.out h.row _ (Nat.le_refl _)
theorem Ok.fuse {m:Dsk} (h:Ok m) {n:Int} (hn:n≤9223372036854775807):Ok (fuseM m n):=⟨h.out,h.row,by show (-1:Int)≤max n (-1);omega,by show max n (-1)≤(9223372036854775807:Int);omega⟩
theorem Ok.new (n:Nat):Ok (newM n):=⟨fun s hs=>by
 obtain rfl:=(List.mem_replicate.1 hs).2
 exact⟨by simp,fun d hd=>by obtain rfl:=(List.mem_replicate.1 hd).2;omega⟩,fun x hx=>(by cases hx),by show (-1:Int) ≤ -1;omega,by show (-1:Int)≤_;omega⟩
end
end Go.Proofs.YtmbecjlioogbhaaGreatDoor
