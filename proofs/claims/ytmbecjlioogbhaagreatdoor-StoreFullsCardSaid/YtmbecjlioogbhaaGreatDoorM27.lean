/- Texts YCt to YStay of this seat, laid into one. -/
import Derived.Test.YtmbecjlioogbhaaGreatDoorM01
import Derived.Test.YtmbecjlioogbhaaGreatDoorM12
import Derived.Test.YtmbecjlioogbhaaGreatDoorM14
import Derived.Test.YtmbecjlioogbhaaGreatDoorM15
import Derived.Test.YtmbecjlioogbhaaGreatDoorM22
import Derived.Test.YtmbecjlioogbhaaGreatDoorM23
import Derived.Test.YtmbecjlioogbhaaGreatDoorM24
import Derived.Test.YtmbecjlioogbhaaGreatDoorM26
set_option linter.unusedVariables false
set_option linter.unusedSimpArgs false
set_option linter.constructorNameAsVariable false
namespace Go.Proofs.YtmbecjlioogbhaaGreatDoor
section
set_option maxRecDepth 20000
open Go.RowKit
def flatT (L:List (List Nat)):List Value:=L.flatMap fun ds=>[.bool true,.string (strB ds)]
theorem flatT_snoc (L:List (List Nat)) (ds:List Nat):flatT (L++[ds])=flatT L++[.bool true,.string (strB ds)]:=by unfold flatT;simp
theorem flatT_get (L:List (List Nat)) (k:Nat) (h:k<L.length):(flatT L)[k*2]?=some (.bool true)∧(flatT L)[k*2+1]?=some (.string (strB (L.getD k []))):=by
 induction L generalizing k with
 | nil=>cases h
 | cons a t ih=>
  cases k with
  | zero=>exact⟨rfl,rfl⟩
  | succ k=>
   have h2:=ih k (by simpa using h)
   rw [show (k+1)*2=k*2+1+1 by omega]
   exact h2
theorem thing_cells {w:World} {B N c:Nat} {q:Option Addr} {L:List (List Nat)} (h:w.ownsRow B 59 2 (.slice q N c) N (flatT L)) (hN:N=L.length) (hp:0<N):∃b,q=some ⟨b,0,none⟩∧b<w.heap.size∧∀k,k<N→w.cell? ⟨b,k*2,none⟩=some (.bool true)∧w.cell? ⟨b,k*2+1,none⟩=some (.string (strB (L.getD k []))):=by
 obtain⟨b,dd,e⟩:=Sl.own_some h hp
 cases e
 refine⟨b,rfl,(World.ownsRow.lt h b rfl).2,fun k hk=>?_⟩
 obtain⟨f0,f1⟩:=flatT_get L k (by omega)
 have y0:=h.cellAt (k*2) (by omega)
 have y1:=h.cellAt (k*2+1) (by omega)
 rw [f0] at y0
 rw [f1] at y1
 exact⟨y0,y1⟩
set_option maxHeartbeats 1600000 in
theorem count_any {w:World} {B N c:Nat} {q:Option Addr} {L:List (List Nat)} (h:w.ownsRow B 59 2 (.slice q N c) N (flatT L)) (hN:N=L.length) (h8:N≤8192) :
  Calls Tryz.prog 40 #[.slice q N c] w fun e w'=>e = .returned (.int .i64 (N:Int))∧w=w':=by
 have HC:=Lib.hid fun hp=>thing_cells h hN hp
 clear h
 have h8I:(N:Int)≤8192:=by omega
 go_enter Tryz.func40,Tryz.ntmps40
 go_wp2_with fail
 go_loop [3,4] (fun nv iv=>∃i:Nat,i≤N∧nv = .int .i64 (i:Int)∧iv = .int .i64 (i:Int)) (fun _ iv=>N - (RowKit.intOf iv).toNat)
 case atStart=>exact⟨0,by omega,by go_num,by go_num⟩
 case round=>
  obtain⟨i,hi,rfl,rfl⟩:=hrel
  by_cases hlt:i<N
  ·obtain⟨b,rfl,hb,hcell⟩:=HC.out (by omega)
   obtain⟨y0,y1⟩:=hcell i hlt
   have hd:decide ((i:Int)<(N:Int))=true:=decide_eq_true (by omega)
   have hiI:(i:Int)<(N:Int):=by omega
   have hi8:(i:Int)≤8192:=by omega
   clear hcell
   go_wp2_with fail
   go_round
   case rel=>exact⟨i+1,by omega,by go_num,by go_num⟩
   case measure=>simp [RowKit.intOf];omega
  ·obtain rfl:i=N:=by omega
   have hd:decide ((i:Int)<(i:Int))=false:=decide_eq_false (by omega)
   go_wp2_with fail
   go_ret
   exact⟨rfl,rfl⟩
theorem numsL_num {F:Nat→Nat} {N:Nat} (k:Nat) (hN:N≤k) (h:∀i,i<k→(spF F i≠0↔i<N)):(numsL F k).length=N:=by
 have h1:∀k,(∀i,i<k→(spF F i≠0↔i<N))→(numsL F k).length=min k N:=by
  intro k
  induction k with
  | zero=>intro _;simp [numsL]
  | succ k ih=>
   intro h
   have h2:=ih fun i hi=>h i (by omega)
   by_cases e:k<N
   ·rw [numsL_yes ((h k (by omega)).2 e),List.length_append,h2];simp;omega
   ·rw [numsL_no (by by_cases e2:spF F k=0;exact e2;exact absurd ((h k (by omega)).1 e2) e),h2];omega
 rw [h1 k h];omega
section
variable {w w':World} {d sg pg k g mb n:Nat} {D G:List Nat} {m:Dsk} {s:Sp} {y:Xv} {v:Value} {F:Nat→Nat} {q:Nat→Option (List Sl.Sl)} {T:Nat→Option (List Nat × List Nat)} {U:Nat→Nat}
theorem Stw.space (h:Stw w d sg D G m s pg y k g mb v n F q T U):Calls Tryz.prog 21 #[.pointer (some ⟨g,0,none⟩)] w fun e w'=>e = .returned (.pointer (some ⟨sg,0,none⟩))∧w=w':=by
 have c0:=h.st.st.c0
 clear h
 go_enter Tryz.func21,Tryz.ntmps21
 go_wp2_with fail
 go_ret
 exact⟨rfl,rfl⟩
theorem Stw.alloc (h:Stw w d sg D G m s pg y k g mb v n F q T U):Calls Tryz.prog 22 #[.pointer (some ⟨sg,0,none⟩)] w fun e w'=>∃a b y' s' U',e = .returned (.tuple #[a,b])∧Stw w' d sg D G m s' pg y' k g mb v n F q T U'∧Chg G G w w':=by
 refine(alloc_z h.st.sp).mono ?_
 rintro e w' ⟨⟨l,hg,hl,rfl,s',hs⟩ | ⟨hg,rfl,hs⟩,hc⟩
 ·have h0:nn y.now l=false:=(gapF_lt hg).2
  have hU:U l=0:=by
   by_cases e:U l=0
   ·exact e
   ·rw [(h.ok.live l hl).2 e] at h0;cases h0
  exact⟨_,_,y.put l zs512,s',_,rfl,⟨h.st.chg hc hs,h.ok.other hl hU zs512 (by unfold zs512;decide),h.rm.same (hc.block mb h.rm.lt h.mG),h.mG,h.mD⟩,hc⟩
 ·exact⟨_,_,y,s,U,rfl,⟨h.st.chg hc hs,h.ok,h.rm.same (hc.block mb h.rm.lt h.mG),h.mG,h.mD⟩,hc⟩
def Rowed (T:Nat→Option (List Nat × List Nat)) (L:List (List Nat)):Prop:=∀i,(∀ds,L[i]?=some ds→∃ps,T i=some (ds,ps))∧(L[i]?=none→T i=none)
theorem Stw.told_iff (h:Stw w d sg D G m s pg y k g mb v n F q T U) {L:List (List Nat)} (hr:Rowed T L):L.length≤n*128∧∀i,i<n*128→(spF F i≠0↔i<L.length):=by
 have hin:∀i,i<L.length→i<n*128:=fun i hi=>by
  obtain⟨ps,ht⟩:=(hr i).1 _ (List.getElem?_eq_getElem hi)
  exact(h.told ht).1
 refine⟨Nat.le_of_not_lt fun e=>?_,fun i hi=>⟨fun h0=>?_,fun hl=>?_⟩⟩
 ·have:=hin (n*128) e;omega
 ·by_cases e:i<L.length
  ·exact e
  ·have ht:=(hr i).2 (List.getElem?_eq_none (by omega))
   have h1:Go.Proofs.YtmbecjlioogbhaaGreatDoor.sg F n 0 i≠0:=by unfold Go.Proofs.YtmbecjlioogbhaaGreatDoor.sg;rw [if_pos hi];exact h0
   obtain⟨d',ps,sl,e2,_⟩:=h.ok.sp i h1
   rw [ht] at e2;cases e2
 ·obtain⟨ps,ht⟩:=(hr i).1 _ (List.getElem?_eq_getElem hl)
  obtain⟨_,x,sl,e1,_⟩:=h.told ht
  omega
theorem Stw.bare_eq (h:Stw w d sg D G m s pg y k g mb v n F q T U) {L:List (List Nat)} (hr:Rowed T L):bareN F n=L.length:=by
 obtain⟨h1,h2⟩:=h.told_iff hr
 by_cases e:L.length<n*128
 ·refine bare_at (fun j hj=>(h2 j (by omega)).2 hj) ?_ e
  by_cases e2:spF F L.length=0
  ·exact e2
  ·have:=(h2 _ e).1 e2;omega
 ·rw [bare_all fun j hj=>(h2 j hj).2 (by omega)];omega
end
end
section
set_option maxRecDepth 20000
open Go.RowKit
section
variable {w:World} {d sg pg k g mb n:Nat} {D G:List Nat} {m:Dsk} {s:Sp} {y:Xv} {v:Value} {F:Nat→Nat} {q:Nat→Option (List Sl.Sl)} {T:Nat→Option (List Nat × List Nat)} {U:Nat→Nat}
set_option maxHeartbeats 3200000 in
theorem Stw.same (h:Stw w d sg D G m s pg y k g mb v n F q T U) {L:List (List Nat)} (hr:Rowed T L) {B N c:Nat} {p:Option Addr} (ho:w.ownsRow B 59 2 (.slice p N c) N (flatT L)) (hN:N=L.length) (hN8:N≤8192) :
  Calls Tryz.prog 12 #[.pointer (some ⟨g,0,none⟩),.slice p N c] w fun e w'=>e = .returned (.bool true)∧Below w.heap.size w w':=by
 obtain⟨t1,t2⟩:=h.told_iff hr
 have hln:=numsL_num (n*128) t1 t2
 have HLEN:Hid (∀w1,Below w.heap.size w w1→Calls Tryz.prog 11 #[.pointer (some ⟨g,0,none⟩)] w1 fun e w'=>e = .returned (.int .i64 (N:Int))∧Below w1.heap.size w1 w'):=Lib.hid fun w1 hb=>by
  have:=(h.below hb).st.st.len
  rw [hln,←hN] at this
  exact this
 have HCT:Hid (∀w1,Below w.heap.size w w1→Calls Tryz.prog 40 #[.slice p N c] w1 fun e w'=>e = .returned (.int .i64 (N:Int))∧w1=w'):=Lib.hid fun w1 hb=>count_any (own_below ho hb) hN hN8
 have HGET:Hid (∀i w1,Below w.heap.size w w1→i<N→Calls Tryz.prog 28 #[.pointer (some ⟨g,0,none⟩),.int .i64 ((i:Int)+1)] w1 fun e w'=>e = .returned (.tuple #[.string (strB (L.getD i [])),.int .i64 0])∧Below w1.heap.size w1 w'):=Lib.hid fun i w1 hb hi=>by
  obtain⟨ps,ht⟩:=(hr i).1 _ (List.getElem?_eq_getElem (by omega))
  rw [List.getD_eq_getElem?_getD,List.getElem?_eq_getElem (by omega:i<L.length)]
  exact(h.below hb).get ht
 have hn64:=h.ok.n64
 have HG0:Hid (∀w1,Below w.heap.size w w1→Calls Tryz.prog 28 #[.pointer (some ⟨g,0,none⟩),.int .i64 0] w1 fun e w'=>e = .returned (.tuple #[.string ⟨#[]⟩,.int .i64 5])∧Below w1.heap.size w1 w'):=Lib.hid fun w1 hb=>(h.below hb).getNone 0 (by unfold spotN;rw [if_neg (by omega)])
 have HG9:Hid (∀w1,Below w.heap.size w w1→Calls Tryz.prog 28 #[.pointer (some ⟨g,0,none⟩),.int .i64 9000] w1 fun e w'=>e = .returned (.tuple #[.string ⟨#[]⟩,.int .i64 5])∧Below w1.heap.size w1 w'):=Lib.hid fun w1 hb=>(h.below hb).getNone 9000 (by unfold spotN;rw [if_neg (by omega)])
 have HC:=Lib.hid fun (w1:World) (hb:Below w.heap.size w w1) (hp:0<N)=>thing_cells (own_below ho hb) hN hp
 have h8I:(N:Int)≤8192:=by omega
 clear h hr ho hln t1 t2 hn64 hN
 go_enter Tryz.func12,Tryz.ntmps12
 go_upto_region 4 with (first
  | (go_at_call 11;with_reducible refine(HLEN.out _ (Below.refl _ _)).mono ?_;rintro e w1 ⟨rfl,hb1⟩;have HB1:=Lib.hid hb1;clear hb1)
  | (go_at_call 40;with_reducible refine(HCT.out _ HB1.out).mono ?_;rintro e w2 ⟨rfl,rfl⟩))
 clear HLEN HCT
 go_loopw [5] (fun iv wr=>∃i:Nat,i≤N∧iv = .int .i64 (i:Int)∧Hid (Below w.heap.size w wr)) (fun iv _=>N - (RowKit.intOf iv).toNat)
 case atStart=>exact⟨0,by omega,by go_num,HB1⟩
 case round=>
  obtain⟨i,hi,rfl,HB⟩:=hrel
  clear HB1
  by_cases hlt:i<N
  ·have hd:decide ((i:Int)<(N:Int))=true:=decide_eq_true (by omega)
   have hiI:(i:Int)<(N:Int):=by omega
   have hi8:(i:Int)≤8192:=by omega
   have HLT:=Lib.hid hlt
   have HGI:=Lib.hid (HGET.out i wr HB.out hlt)
   have HCI:Hid (∃b,p=some ⟨b,0,none⟩∧∀W,Below wr.heap.size wr W→W.cell? ⟨b,i*2,none⟩=some (.bool true)∧W.cell? ⟨b,i*2+1,none⟩=some (.string (strB (L.getD i [])))):=Lib.hid (by
    obtain⟨b,e,hbl,-⟩:=HC.out w (Below.refl _ _) (by omega)
    refine⟨b,e,fun W hW=>?_⟩
    obtain⟨b2,e2,_,hcell⟩:=HC.out W (HB.out.trans (hW.mono HB.out.size)) (by omega)
    rw [e] at e2;cases e2
    exact hcell i hlt)
   obtain⟨b,rfl,hcell⟩:=HCI.out
   have HCC:=Lib.hid hcell
   generalize strB (L.getD i [])=S9 at *
   clear hcell hlt hi
   go_upto_region 7 with (go_at_call 28;with_reducible refine HGI.out.mono ?_;rintro e w3 ⟨rfl,hb3⟩;have HB3:=Lib.hid hb3;clear hb3)
   obtain⟨y0,y1⟩:=HCC.out w3 HB3.out
   have HB4:Hid (Below w.heap.size w w3):=Lib.hid (HB.out.trans (HB3.out.mono HB.out.size))
   clear HB3 HB HGI
   go_wp2_with fail
   go_roundw
   case rel=>exact⟨i+1,HLT.out,by go_num,HB4⟩
   case measure=>have:=HLT.out;simp [RowKit.intOf];omega
  ·obtain rfl:i=N:=by omega
   have hd:decide ((i:Int)<(i:Int))=false:=decide_eq_false (by omega)
   go_upto_region 10 with (go_at_call 28;with_reducible refine(HG0.out _ HB.out).mono ?_;rintro e w3 ⟨rfl,hb3⟩;have HB3:=Lib.hid (HB.out.trans (hb3.mono HB.out.size));clear hb3)
   go_upto_region 11 with (go_at_call 28;with_reducible refine(HG9.out _ HB3.out).mono ?_;rintro e w4 ⟨rfl,hb4⟩;have HB4:=Lib.hid (HB3.out.trans (hb4.mono HB3.out.size));clear hb4)
   go_wp2_with fail
   go_ret
   exact⟨rfl,HB4.out⟩
end
end
section
set_option maxRecDepth 20000
open Go.RowKit
theorem gap_none {f:Nat→Bool}:∀ {k i:Nat},gapF f k i=none→∀j,i≤j→j<i+k→f j=true
 | 0,i,_,j,h1,h2=>by omega
 | k+1,i,h,j,h1,h2=>by
  have h':(if f i then gapF f k (i+1) else some i)=none:=h
  cases e:f i with
  | false=>rw [e] at h';cases h'
  | true=>
   rw [e] at h'
   by_cases hj:j=i
   ·rw [hj];exact e
   ·exact gap_none (k:=k) (i:=i+1) h' j (by omega) (by omega)
theorem gap_some {f:Nat→Bool} (h:Bi.cnt f 512<512):∃l,gapF f 512 0=some l∧l<512∧f l=false:=by
 cases e:gapF f 512 0 with
 | none=>
  have h2:=Bi.cnt_all (f:=f) (i:=0) (j:=512) (by omega) (fun x _ hx=>gap_none e x (Nat.zero_le _) (by omega))
  have h3:Bi.cnt f 0=0:=rfl
  omega
 | some l=>exact⟨l,rfl,by have:=(gapF_lt e).1;omega,(gapF_lt e).2⟩
theorem cnt_put {f:Nat→List Nat} {l:Nat} {t:List Nat} (hl:l<512) (h:nn f l=false) (ht:t≠[]):Bi.cnt (nn fun p=>if p=l then t else f p) 512=Bi.cnt (nn f) 512+1:=by
 have e:(nn fun p=>if p=l then t else f p)=fun p=>nn f p || p == l:=by
  funext p
  by_cases e:p=l
  ·have h1:nn (fun p=>if p=l then t else f p) p=true:=by rw [nn_iff];simp only [if_pos e];exact ht
   rw [h1,e];simp
  ·have h1:nn (fun p=>if p=l then t else f p) p=nn f p:=by unfold nn;simp only [if_neg e]
   rw [h1,beq_false_of_ne e,Bool.or_false]
 rw [e,cnt_one _ _ h,decide_eq_true hl];rfl
theorem cnt_put0 {f:Nat→List Nat} {l:Nat} {t:List Nat} (h:nn f l=true) (ht:t≠[]):Bi.cnt (nn fun p=>if p=l then t else f p) 512=Bi.cnt (nn f) 512:=by
 have e:(nn fun p=>if p=l then t else f p)=nn f:=by
  funext p
  by_cases e:p=l
  ·rw [e,h,nn_iff];simp only [if_pos rfl];exact ht
  ·unfold nn;simp only [if_neg e]
 rw [e]
def XvR (y y':Xv):Prop:=y'.com=y.com∧y'.word=y.word∧y'.ep=y.ep
theorem XvR.refl (y:Xv):XvR y y:=⟨rfl,rfl,rfl⟩
theorem XvR.put {y y':Xv} (h:XvR y y') (l:Nat) (t:List Nat):XvR y (y'.put l t):=h
structure Fra (w0 w:World) (G:List Nat) (g mb2:Nat) (v0 v:Value) (K:List Nat):Prop where
 os:w.os=w0.os
 tape:w.tape=w0.tape
 output:w.output=w0.output
 size:w0.heap.size≤w.heap.size
 keep:∀b,b<w0.heap.size→b∉G→b≠g→b≠mb2→v0.ownBlock≠some b→b∉K→w.heap[b]?=w0.heap[b]?
 own:∀j,v.ownBlock=some j→v0.ownBlock=some j∨w0.heap.size≤j
theorem Fra.refl (w:World) (G:List Nat) (g mb2:Nat) (v:Value) (K:List Nat):Fra w w G g mb2 v v K:=⟨rfl,rfl,rfl,Nat.le_refl _,fun _ _ _ _ _ _ _=>rfl,fun _ h=>.inl h⟩
theorem Fra.chg {w0 w w2:World} {G K J J':List Nat} {g mb2:Nat} {v0 v v2:Value} (h:Fra w0 w G g mb2 v0 v K) (hc:Chg J J' w w2) (hJ:∀j∈J,j∈G∨j=g∨j=mb2∨v.ownBlock=some j∨w0.heap.size≤j∨j∈K) (ho:∀j,v2.ownBlock=some j→v.ownBlock=some j∨w.heap.size≤j):Fra w0 w2 G g mb2 v0 v2 K:=
 ⟨hc.os.trans h.os,hc.tape.trans h.tape,hc.output.trans h.output,Nat.le_trans h.size hc.size,fun b hb h1 h2 h3 h4 h5=>(hc.block b (Nat.lt_of_lt_of_le hb h.size) (fun e=>by
  rcases hJ b e with e | e | e | e | e | e
  ·exact h1 e
  ·exact h2 e
  ·exact h3 e
  ·rcases h.own b e with e2 | e2
   ·exact h4 e2
   ·omega
  ·omega
  ·exact h5 e)).trans (h.keep b hb h1 h2 h3 h4 h5),fun j hj=>(ho j hj).elim (h.own j) (fun e=>.inr (Nat.le_trans h.size e))⟩
theorem Fra.below {w0 w w2:World} {G K:List Nat} {g mb2:Nat} {v0 v:Value} (h:Fra w0 w G g mb2 v0 v K) (hb:Below w.heap.size w w2):Fra w0 w2 G g mb2 v0 v K:=
 h.chg (J:=[]) (J':=[]) (Chg.of_below2 [] hb) (fun j hj=>by cases hj) fun j hj=>.inl hj
theorem Fra.more {w0 w:World} {G K K2:List Nat} {g mb2:Nat} {v0 v:Value} (h:Fra w0 w G g mb2 v0 v K) (hK:∀j∈K,j∈K2):Fra w0 w G g mb2 v0 v K2:=
 ⟨h.os,h.tape,h.output,h.size,fun b hb h1 h2 h3 h4 h5=>h.keep b hb h1 h2 h3 h4 (fun e=>h5 (hK b e)),h.own⟩
structure Lsx (w0 w:World) (d sg:Nat) (D G:List Nat) (m:Dsk) (pg k g mb mb2:Nat) (y0 y:Xv) (v0 v:Value) (n:Nat) (F:Nat→Nat) (q:Nat→Option (List Sl.Sl)) (T:Nat→Option (List Nat × List Nat)) (U:Nat→Nat) (K:List Nat):Prop where
 st:∃s,Sto w d sg D G m s pg y k g mb v n F
 ok:Stm y.now n F 0 q T U
 fr:Fra w0 w G g mb2 v0 v K
 xv:XvR y0 y
 mG:mb2∉G
 mD:mb2∉D
 mg:mb2≠g
 mv:v.ownBlock≠some mb2
 ml:mb2<w0.heap.size
section
variable {w0 w w':World} {d sg pg k g mb mb2 n:Nat} {D G K:List Nat} {m:Dsk} {y0 y:Xv} {v0 v:Value} {F:Nat→Nat} {q:Nat→Option (List Sl.Sl)} {T:Nat→Option (List Nat × List Nat)} {U:Nat→Nat}
theorem Lsx.below (h:Lsx w0 w d sg D G m pg k g mb mb2 y0 y v0 v n F q T U K) (hb:Below w.heap.size w w'):Lsx w0 w' d sg D G m pg k g mb mb2 y0 y v0 v n F q T U K:=by
 obtain⟨s,hs⟩:=h.st
 exact⟨⟨s,hs.below hb⟩,h.ok,h.fr.below hb,h.xv,h.mG,h.mD,h.mg,h.mv,h.ml⟩
theorem Lsx.chg {J J':List Nat} (h:Lsx w0 w d sg D G m pg k g mb mb2 y0 y v0 v n F q T U K) (hc:Chg J J' w w') (hk:Kin w J) (hJ:∀j∈J,j=mb2∨((w0.heap.size≤j∨j∈K)∧j∉G∧j∉D∧j≠g∧v.ownBlock≠some j)):Lsx w0 w' d sg D G m pg k g mb mb2 y0 y v0 v n F q T U K:=by
 obtain⟨s,hs⟩:=h.st
 refine⟨⟨s,hs.stayB hc hk (fun j hj e=>?_) (fun j hj e=>?_) (fun e=>?_) (fun b hb e=>?_)⟩,h.ok,h.fr.chg hc (fun j hj=>?_) fun j hj=>.inl hj,h.xv,h.mG,h.mD,h.mg,h.mv,h.ml⟩
 ·rcases hJ j e with e2 | e2
  ·exact h.mD (e2 ▸ hj)
  ·exact e2.2.2.1 hj
 ·rcases hJ j e with e2 | e2
  ·exact h.mG (e2 ▸ hj)
  ·exact e2.2.1 hj
 ·rcases hJ g e with e2 | e2
  ·exact h.mg e2.symm
  ·exact e2.2.2.2.1 rfl
 ·rcases hJ b e with e2 | e2
  ·exact h.mv (e2 ▸ hb)
  ·exact e2.2.2.2.2 hb
 ·rcases hJ j hj with e2 | e2
  ·exact .inr (.inr (.inl e2))
  ·rcases e2.1 with e3 | e3
   ·exact .inr (.inr (.inr (.inr (.inl e3))))
   ·exact .inr (.inr (.inr (.inr (.inr e3))))
theorem Lsx.newPage (h:Lsx w0 w d sg D G m pg k g mb mb2 y0 y v0 v n F q T U K) (hc:Bi.cnt (nn y.now) 512<512) (t:List Nat) (ht:t.length=512∧∀x∈t,x<256) :
  Calls Tryz.prog 104 #[.pointer (some ⟨g,0,none⟩),.string (strB t)] w fun e w'=>∃l:Nat,e = .returned (.int .i64 (l:Int))∧l<512∧U l=0∧Bi.cnt (nn (y.put l t).now) 512=Bi.cnt (nn y.now) 512+1∧Chg G G w w'∧Lsx w0 w' d sg D G m pg k g mb mb2 y0 (y.put l t) v0 v n F q T (fun p=>if p=l then 1 else U p) K:=by
 obtain⟨s,hs⟩:=h.st
 obtain⟨l,hl,hl5,hfl⟩:=gap_some hc
 have htn:t≠[]:=fun e=>by rw [e] at ht;exact absurd ht.1 (by decide)
 have hU:U l=0:=by
  have:=h.ok.live l hl5
  rw [hfl] at this
  exact Decidable.byContradiction fun e=>by have:=this.2 e;cases this
 refine(hs.newPage l hl t ht).mono ?_
 rintro e w' ⟨rfl,⟨s',hs'⟩,hchg⟩
 exact⟨l,rfl,hl5,hU,cnt_put hl5 hfl htn,hchg,⟨s',hs'⟩,h.ok.other hl5 hU t htn,h.fr.chg hchg (fun j hj=>.inl hj) fun j hj=>.inl hj,h.xv.put l t,h.mG,h.mD,h.mg,h.mv,h.ml⟩
theorem Lsx.addPart (h:Lsx w0 w d sg D G m pg k g mb mb2 y0 y v0 v n F q T U K) (hn:n<64) (hc:Bi.cnt (nn y.now) 512<512) :
  Calls Tryz.prog 102 #[.pointer (some ⟨g,0,none⟩)] w fun e w'=>e = .returned (.tuple #[])∧∃y' v' F' U' J J',(∀j∈J,j∈G∨j=g∨v.ownBlock=some j)∧Chg J J' w w'∧(∀i,i<n*128→spF F' i=spF F i)∧(∀i,n*128≤i→spF F' i=0)∧Bi.cnt (nn y'.now) 512=Bi.cnt (nn y.now) 512+1∧(∀p,U p≠0→U' p=U p)∧Lsx w0 w' d sg D G m pg k g mb mb2 y0 y' v0 v' (n+1) F' q T U' K:=by
 obtain⟨s,hs⟩:=h.st
 obtain⟨l,hl,hl5,hfl⟩:=gap_some hc
 have hU:U l=0:=by
  have:=h.ok.live l hl5
  rw [hfl] at this
  exact Decidable.byContradiction fun e=>by have:=this.2 e;cases this
 have h0:nn y.now 0=true:=(h.ok.live 0 (by omega)).2 (by rw [h.ok.hd.1];omega)
 have hzn:zpart≠[]:=fun e=>by have:=zpart_ok.1;rw [e] at this;cases this
 refine(hs.addPart hn l hl (by rw [show (0:Int)=((0:Nat):Int) from rfl,th_nat (by omega)];exact h0) (fun i hi=>by have:=h.ok.fl hi;omega)).mono ?_
 rintro e w' ⟨rfl,⟨s',v',hs',ho⟩,J,J',hJ,hchg⟩
 have hmv:v'.ownBlock≠some mb2:=fun e=>by
  rcases ho mb2 e with e2 | e2
  ·exact h.mv e2
  ·have:=h.ml;have:=h.fr.size;omega
 refine⟨rfl,(y.put l zpart).put 0 (pageT (headB (n+1) fun i=>grewF F n l (i*129))),v',grewF F n l,_,J,J',hJ,hchg,fun i hi=>by rw [spF_grew,if_pos hi],fun i hi=>by rw [spF_grew,if_neg (by omega)],?_,fun p hp=>if_neg (fun e=>hp (by rw [e,hU])),⟨s',hs'⟩,h.ok.grow hn hl5 hU,h.fr.chg hchg (fun j hj=>?_) ho,h.xv,h.mG,h.mD,h.mg,hmv,h.ml⟩
 ·have e1:nn (y.put l zpart).now 0=true:=by
   rw [nn_iff]
   show (if 0=l then zpart else y.now 0)≠[]
   rw [nn_iff] at h0
   split
   ·exact hzn
   ·exact h0
  exact(cnt_put0 e1 (head_ne _ _)).trans (cnt_put hl5 hfl hzn)
 ·rcases hJ j hj with e | e | e
  ·exact .inl e
  ·exact .inr (.inl e)
  ·exact .inr (.inr (.inr (.inl e)))
end
end
section
namespace Sl
open Go.RowKit
section
variable {w:World} {g:Nat} {v:Value} {l:List Sl}
structure Bl (w wr:World) (v:Value) (bs:List Nat):Prop where
 below:Below w.heap.size w wr
 row:∃p c,v = .slice p bs.length c∧wr.ownsRow w.heap.size 5 1 (.slice p bs.length c) bs.length (u8s bs)
set_option maxHeartbeats 1600000 in
theorem bytes_any (h:Pg0 w g v l):Calls Tryz.prog 106 #[.pointer (some ⟨g,0,none⟩)] w fun e w'=>e = .returned (.string (bytesS l))∧Below w.heap.size w w':=by
 have HP:=Lib.hid h
 have HOK:=Lib.hid h.ok
 obtain⟨q,c,rfl⟩:=h.form
 have c0:=h.c0
 have hl:=h.ok.len
 have hg:=h.lt
 have HSZ:Hid (∀i w1,i<l.length→Calls Tryz.prog 157 #[.agg #[.bool (slot l i).isSome,.string (recOf (slot l i))]] w1 fun e w'=>e = .returned (.int .i64 (szc (slot l i):Int))∧Below w1.heap.size w1 w'):=Lib.hid (fun i w1 hi=>by
  have hs:=h.ok.sz512 _ (slot_mem hi)
  refine(size_any (slot l i) w1 hs).mono ?_
  rintro e w' ⟨rfl,hb⟩
  refine⟨?_,hb⟩
  unfold szc
  split <;> rename_i h1 <;> simp [h1])
 have HSL:Hid (∀i,i<l.length→szc (slot l i)≤513):=Lib.hid (fun i hi=>szc_le (h.ok.sz512 _ (slot_mem hi)))
 have HL:Hid (∀w1,Below w.heap.size w w1→Calls Tryz.prog 156 #[.pointer (some ⟨g,0,none⟩)] w1 fun e w'=>e = .returned (.int .i64 (left l))∧Below w1.heap.size w1 w'):=Lib.hid (fun w1 hb=>left_any (h.below hb))
 clear h
 obtain⟨i0,hi,hz0,hz1,hz2⟩:=info_parts Tryz.info5
 have HI:=Lib.hid hi
 have HZ0:=Lib.hid hz0
 have HZ1:=Lib.hid hz1
 have HZ2:=Lib.hid hz2
 clear hi hz0 hz1 hz2
 obtain⟨N,HN⟩:∃N,Hid (l.length=N):=⟨_,Lib.hid rfl⟩
 rw [HN.out] at c0 hl
 go_enter Tryz.func106,Tryz.ntmps106
 go_upto_region 4 with fail
 have H0:Hid (Bl w (w.alloc (.cells #[.int .u8 (N:Int)] 5)) (.slice (some ⟨w.heap.size,0,none⟩) 1 1) ([N]++headM (l.take 0))):=Lib.hid ⟨(Below.refl _ _).alloc (Nat.le_refl _) _,_,_,rfl,World.ownsRow_lit w #[.int .u8 (N:Int)] 1 (Nat.le_refl _) (by decide) rfl⟩
 have c1:=(H0.out.below.cell (p:=⟨g,0,none⟩) hg).trans c0
 generalize w.alloc (.cells #[.int .u8 (N:Int)] 5)=w0 at *
 go_wp2_with fail
 clear c1
 go_loopw [3,23] (fun bv iv wr=>∃i:Nat,i≤N∧iv = .int .i64 (i:Int)∧Hid (Bl w wr bv ([N]++headM (l.take i)))) (fun _ iv _=>N - (RowKit.intOf iv).toNat)
 case atStart=>exact⟨0,Nat.zero_le _,by go_num,H0⟩
 case round=>
  obtain⟨i,hi,rfl,hr⟩:=hrel
  clear H0
  have c1:=(hr.out.below.cell (p:=⟨g,0,none⟩) hg).trans c0
  by_cases hlt:i<N
  ·have hil:i<l.length:=by rw [HN.out];exact hlt
   obtain⟨b,c',e,hc,a1,a2⟩:=HP.out.at hil
   rw [HN.out] at e hc
   cases e
   have x1:=(hr.out.below.cell (p:=⟨b,i*2,none⟩) (World.block_lt_of_cell? w _ a1)).trans a1
   have x2:=(hr.out.below.cell (p:=⟨b,i*2+1,none⟩) (World.block_lt_of_cell? w _ a2)).trans a2
   have HS1:=Lib.hid (HSZ.out i · hil)
   have hz:=HSL.out i hil
   have HHD:Hid (headM (l.take (i+1))=headM (l.take i)++[szc (slot l i) / 256,szc (slot l i) % 256]):=Lib.hid (by rw [take_slot hil,headM_snoc])
   generalize (slot l i).isSome=bb at *
   generalize recOf (slot l i)=rr at *
   generalize szc (slot l i)=z at *
   have HU:Hid (u8s [z / 256,z % 256]=[.int .u8 ((z:Int) / 256),.int .u8 ((z:Int) % 256)]):=Lib.hid (by simp [u8s])
   have HO2:Hid (∀u∈[Value.int .u8 ((z:Int) / 256),.int .u8 ((z:Int) % 256)],u.oneCell'=true):=Lib.hid (by intro u hu;simp at hu;rcases hu with rfl | rfl <;> rfl)
   have HX:Hid (((w).heap.size≤wr.heap.size)):=Lib.hid hr.out.below.size
   obtain⟨hbel,p3,c3,e3,hrow⟩:=hr.out
   have HLEN:Hid (([N]++headM (l.take i)).length=1+2*i):=Lib.hid (by rw [List.length_append,headM_len,List.length_take,HN.out,Nat.min_eq_left hi];rfl)
   rw [HLEN.out] at e3 hrow
   subst e3
   have HROW:=Lib.hid hrow
   have HBEL:=Lib.hid hbel
   clear hr hbel hrow c1
   have H63:Hid (1+2*i+2≤maxLen):=Lib.hid (by unfold maxLen;omega)
   go_wp2_with (first
    | (go_at_call 157;refine(HS1.out _).mono ?_;rintro e w1 ⟨rfl,hb1⟩;have HB1:Hid (Below wr.heap.size wr w1):=Lib.hid (((Below.refl _ _).alloc (Nat.le_refl _) _).trans (hb1.mono (by simp)));have HROW1:=Lib.hid ((own_below HROW.out HB1.out).alloc (.cells #[.int .u8 ((z:Int) / 256),.int .u8 ((z:Int) % 256)] 5));have HBB:=Lib.hid ((HBEL.out.trans (HB1.out.mono HX.out)).alloc (Nat.le_trans HX.out HB1.out.size) (.cells #[.int .u8 ((z:Int) / 256),.int .u8 ((z:Int) % 256)] 5));clear hb1)
    | (at_builtin;refine wpList_append_own _ rfl (.tmp 29) (.tmp 35) 71 rfl w.heap.size 5 i0 (.int .u8 0) 1 1 Tryz.underlying71 HI.out HZ0.out HZ1.out HZ2.out rfl (by decide) (.slice p3 (1+2*i) c3) (1+2*i) _ (by rfl) HROW1.out ⟨w1.heap.size,0,none⟩ 2 2 [.int .u8 ((z:Int) / 256),.int .u8 ((z:Int) % 256)] (by rfl) rfl (cell_two_new w1 _ _ _) HO2.out H63.out (by omega) HBB.out.size ?_;intro v2 w2 hown2 hgrow2 _))
   have HB2:=Lib.hid (HBB.out.grown hgrow2 HBB.out.size (fun k e=>(HROW1.out.lt k e).1))
   have HLEN2:Hid (([N]++headM (l.take (i+1))).length=1+2*i+2):=Lib.hid (by rw [HHD.out,←List.append_assoc,List.length_append,HLEN.out];rfl)
   have HR2:Hid (Bl w w2 v2 ([N]++headM (l.take (i+1)))):=Lib.hid (by
    obtain⟨p4,c4,e4⟩:=own_form hown2
    subst e4
    refine⟨HB2.out,p4,c4,by rw [HLEN2.out],?_⟩
    rw [HLEN2.out,HHD.out,←List.append_assoc,u8s_append,HU.out]
    exact hown2)
   clear hown2 hgrow2 HBB HROW1 HB2
   go_roundw
   case rel=>exact⟨i+1,by omega,by go_num,HR2⟩
   case measure=>simp [RowKit.intOf];omega
  ·obtain rfl:i=N:=by omega
   have H1:Hid (Bl w wr u3 ([i]++headM l++recsM (l.take 0))):=Lib.hid (by
    have:=hr.out
    rw [List.take_of_length_le (by rw [HN.out];exact Nat.le_refl _)] at this
    simpa [recsM] using this)
   clear hr HSZ HSL
   go_wp2_with fail
   go_loopw [3,43] (fun bv iv wr=>∃k:Nat,k≤i∧iv = .int .i64 (k:Int)∧Hid (Bl w wr bv ([i]++headM l++recsM (l.take k)))) (fun _ iv _=>i - (RowKit.intOf iv).toNat)
   case atStart=>exact⟨0,Nat.zero_le _,by go_num,H1⟩
   case round=>
    obtain⟨k,hk,rfl,hr⟩:=hrel
    clear H1
    have HLEN:Hid (([i]++headM l++recsM (l.take k)).length=1+2*i+tot (l.take k)):=Lib.hid (by rw [List.length_append,List.length_append,headM_len,recsM_len,HN.out];rfl)
    have htk:tot (l.take k)≤512:=Nat.le_trans (tot_take_le l k) (tot_le HOK.out)
    obtain⟨t,HT⟩:∃t,Hid (tot (l.take k)=t):=⟨_,Lib.hid rfl⟩
    rw [HT.out] at HLEN htk
    have c1:=(hr.out.below.cell (p:=⟨g,0,none⟩) hg).trans c0
    obtain⟨hbel,p3,c3,e3,hrow⟩:=hr.out
    rw [HLEN.out] at e3 hrow
    subst e3
    have HROW:=Lib.hid hrow
    have HBEL:=Lib.hid hbel
    have HX:Hid (w.heap.size≤wr.heap.size):=Lib.hid hbel.size
    clear hr hrow
    by_cases hlt:k<i
    ·have hil:k<l.length:=by rw [HN.out];exact hlt
     obtain⟨b,c',e,hc,a1,a2⟩:=HP.out.at hil
     rw [HN.out] at e hc
     cases e
     have x1:=(hbel.cell (p:=⟨b,k*2,none⟩) (World.block_lt_of_cell? w _ a1)).trans a1
     have x2:=(hbel.cell (p:=⟨b,k*2+1,none⟩) (World.block_lt_of_cell? w _ a2)).trans a2
     have HTT:Hid (recsM (l.take (k+1))=recsM (l.take k)++nums (recOf (slot l k))):=Lib.hid (by rw [take_slot hil,recsM_snoc])
     have hz:(recOf (slot l k)).size≤480:=HOK.out.szs k
     generalize (slot l k).isSome=bb at *
     generalize recOf (slot l k)=rr at *
     have HROW1:=Lib.hid ((HROW.out.alloc (.cells #[.bool bb,.string rr] 216)))
     have HBB:=Lib.hid (HBEL.out.alloc HX.out (.cells #[.bool bb,.string rr] 216))
     have H63:Hid (1+2*i+t+rr.size≤maxLen):=Lib.hid (by unfold maxLen;omega)
     clear hbel a1 a2 c1
     go_wp2_with (at_builtin;refine Lib.wpList_append_own_string _ rfl (.tmp 47) (.tmp 49) 71 9 rfl w.heap.size 5 i0 Tryz.underlying71 Tryz.underlying9 HI.out HZ0.out HZ1.out HZ2.out (.slice p3 (1+2*i+t) c3) (1+2*i+t) _ (by rfl) HROW1.out rr (by rfl) H63.out (by omega) HBB.out.size ?_;intro v2 w2 hown2 hgrow2 _)
     have HB2:=Lib.hid (HBB.out.grown hgrow2 HBB.out.size (fun k e=>(HROW1.out.lt k e).1))
     have HLEN2:Hid (([i]++headM l++recsM (l.take (k+1))).length=1+2*i+t+rr.size):=Lib.hid (by rw [HTT.out,←List.append_assoc,List.length_append,HLEN.out,nums_len])
     have HR2:Hid (Bl w w2 v2 ([i]++headM l++recsM (l.take (k+1)))):=Lib.hid (by
      obtain⟨p4,c4,e4⟩:=own_form hown2
      subst e4
      refine⟨HB2.out,p4,c4,by rw [HLEN2.out],?_⟩
      rw [HLEN2.out,HTT.out,←List.append_assoc,u8s_append,←strCells_nums]
      exact hown2)
     clear hown2 hgrow2 HBB HROW1 HB2
     go_roundw
     case rel=>exact⟨k+1,by omega,by go_num,HR2⟩
     case measure=>simp [RowKit.intOf];omega
    ·obtain rfl:k=i:=by omega
     have HRT:Hid (recsM (l.take k)=recsM l∧tot l=t):=Lib.hid (by rw [←HT.out,List.take_of_length_le (by rw [HN.out];exact Nat.le_refl _)];exact⟨rfl,rfl⟩)
     have HLF:Hid (left l=((512 - need l:Nat):Int)∧1+2*k+t+(512 - need l)=512):=Lib.hid (by
      have h1:=HOK.out.need
      have h2:=HRT.out.2
      have h3:=HN.out
      unfold left need at *
      omega)
     have HLL:=Lib.hid (HL.out wr HBEL.out)
     rw [HLF.out.1] at HLL
     obtain⟨z,HZ⟩:∃z,Hid (512 - need l=z):=⟨_,Lib.hid rfl⟩
     rw [HZ.out] at HLL HLF
     obtain⟨b3,c3',e3⟩:∃b3 c3',(Value.slice p3 (1+2*k+t) c3) = .slice (some ⟨b3,0,none⟩) (1+2*k+t) c3':=own_some HROW.out (by omega)
     cases e3
     clear hbel c1
     have HBYT:Hid (bytesM l=[k]++headM l++recsM l++List.replicate z 0):=Lib.hid (by unfold bytesM;rw [HN.out,HZ.out])
     have HU0:Hid (u8s (List.replicate z 0)=List.replicate z (.int .u8 0)):=Lib.hid (by unfold u8s;rw [List.map_replicate];rfl)
     have HLB:Hid ((bytesM l).length=1+2*k+t+z):=Lib.hid (by rw [bytesM_len HOK.out];exact HLF.out.2.symm)
     have HDG:=Lib.hid (bytesM_dig HOK.out)
     go_wp2_with (first
      | (go_at_call 156;refine HLL.out.mono ?_;rintro e w1 ⟨rfl,hb1⟩;obtain⟨q5,c5,w5,hr5,hown5,hgrow5⟩:=run_append_own_zeros (P:=Tryz.prog) w1 w.heap.size 71 3 71 5 i0 Tryz.underlying71 Tryz.underlying3 HI.out HZ0.out HZ1.out HZ2.out b3 (1+2*k+t) c3 _ (own_below HROW.out hb1) z (by have:=HLF.out.2;unfold maxLen;omega) (by have:=HLF.out.2;omega) (Nat.le_trans HX.out hb1.size);have HR5:=Lib.hid hr5;have HBF:=Lib.hid ((HBEL.out.trans (hb1.mono HX.out)).grown hgrow5 (Nat.le_trans HX.out hb1.size) (fun k e=>(HROW.out.lt k e).1));have hcv:(convert 71 9 (.slice q5 (1+2*k+t+z) c5)).run Tryz.prog w5 = .ok (.string (strB (bytesM l))) w5:=(Bys.own (by rw [HBYT.out,←HRT.out.1,u8s_append,HU0.out];exact hown5) HDG.out).conv c5;clear hr5 hown5 hgrow5 hb1)
      | (at_builtin;refine Lib.wpList_append_run _ rfl (.tmp 52) (.tmp 54) 71 3 rfl _ _ (by rfl) (by rfl) (.slice q5 (1+2*k+t+z) c5) w5 HR5.out ?_))
     go_ret
     exact⟨rfl,HBF.out⟩
end
end Sl
end
section
set_option maxRecDepth 20000
open Go.RowKit
theorem add_one (r:ByteArray) (hr:r.size≤480):Sl.addE [] r=0∧Sl.addN [] r=0∧Sl.addL [] r=[some r]:=by
 have hn:Sl.need [some r]=3+r.size:=by simp [Sl.need,Sl.tot,Sl.sz,Sl.recOf]
 have hw:Sl.withL [] (Sl.bareI []) (some r)=[some r]:=rfl
 have hf:Sl.addFull [] r=false:=by
  unfold Sl.addFull
  rw [hw,hn]
  simp
  omega
 have h4:¬ 480<r.size:=by omega
 refine⟨?_,?_,?_⟩
 ·unfold Sl.addE;rw [if_neg h4,if_neg (by rw [hf];decide)]
 ·unfold Sl.addN;rw [if_neg h4,if_neg (by rw [hf];decide)];rfl
 ·unfold Sl.addL;rw [if_neg h4,if_neg (by rw [hf];decide),hw]
section
variable {w w':World} {d sg pg k g mb mb2:Nat} {D G:List Nat} {m:Dsk} {s:Sp} {y:Xv} {F:Nat→Nat}
abbrev partY (y:Xv) (F:Nat→Nat) (l1:Nat):Xv:=(y.put l1 zpart).put 0 (pageT (headB 1 fun i=>grewF F 0 l1 (i*129)))
theorem partB_ne (F:Nat→Nat) (i:Nat):(partB F i).isEmpty=false:=by
 have h:=(partB_ok F i).1
 cases hz:partB F i with
 | nil=>rw [hz] at h;cases h
 | cons a b=>rfl
theorem lay_nz (y:Xv) (F:Nat→Nat) (l1 l2 q:Nat):nn ((partY y F l1).put l2 (Sl.bytesM [])).now q=true↔nn y.now q=true∨q=0∨q=l1∨q=l2:=by
 have hz1:zpart.isEmpty=false:=by
  cases hz:zpart with
  | nil=>have:=zpart_ok.1;rw [hz] at this;cases this
  | cons a b=>rfl
 have hz2:(pageT (headB 1 fun i=>grewF F 0 l1 (i*129))).isEmpty=false:=by unfold pageT headB;rfl
 have hz3:(Sl.bytesM []).isEmpty=false:=by
  cases hz:Sl.bytesM [] with
  | nil=>have:=Sl.bytesM_len (l:=[]) Sl.Okp.nil_;rw [hz] at this;cases this
  | cons a b=>rfl
 show (!(if q=l2 then Sl.bytesM [] else if q=0 then pageT (headB 1 fun i=>grewF F 0 l1 (i*129)) else if q=l1 then zpart else y.now q).isEmpty)=true↔(!(y.now q).isEmpty)=true∨q=0∨q=l1∨q=l2
 by_cases e2:q=l2
 ·rw [if_pos e2,hz3];exact⟨fun _=>.inr (.inr (.inr e2)),fun _=>rfl⟩
 ·rw [if_neg e2]
  by_cases e0:q=0
  ·rw [if_pos e0,hz2];exact⟨fun _=>.inr (.inl e0),fun _=>rfl⟩
  ·rw [if_neg e0]
   by_cases e1:q=l1
   ·rw [if_pos e1,hz1];exact⟨fun _=>.inr (.inr (.inl e1)),fun _=>rfl⟩
   ·rw [if_neg e1]
    refine⟨.inl,fun h=>?_⟩
    rcases h with h | h | h | h
    ·exact h
    ·exact absurd h e0
    ·exact absurd h e1
    ·exact absurd h e2
set_option maxHeartbeats 6400000 in
theorem Sto.lay0 (h:Sto w d sg D G m s pg y k g mb (.slice none 0 0) 0 F) (hm:Dms w mb2 (fun _=>none)) (hmG:mb2∉G) (hmD:mb2∉D) (l1 l2:Nat) (hl1:gapF (nn y.now) 512 0=some l1) (h0:thX y.now 0=true) (hl2:gapF (nn (partY y F l1).now) 512 0=some l2) (S:ByteArray) (ds:List Nat) (hS:IsS S ds) (hd:ds.length≤479) :
  Calls Tryz.prog 56 #[.agg #[.pointer (some ⟨g,0,none⟩),.map (some mb2)],.int .i64 1,.int .i64 (-1),.string S] w fun e w'=>e = .returned (.tuple #[])∧∃s' y' v' F' gp vp,Sto w' d sg D G m s' pg y' k g mb v' 1 F'∧Dms w' mb2 (Dmf.put (fun _=>none) l2 gp)∧Sl.Pg0 w' gp vp [some (strB (recB ds []))]∧(∀j∈Sl.foot gp vp,j∉G∧j∉D∧j≠g∧v'.ownBlock≠some j∧j≠mb2∧w.heap.size≤j)∧(∀q,nn y'.now q=true↔nn y.now q=true∨q=0∨q=l1∨q=l2)∧(∀b o,w.heap[b]?=some o→b∉G→b≠g→b≠mb2→w'.heap[b]?=w.heap[b]?)∧(w'.os=w.os∧w'.tape=w.tape∧w'.output=w.output∧w.heap.size≤w'.heap.size):=by
 have hb0:Below w.heap.size w (w.alloc (.cells #[.pointer (some ⟨g,0,none⟩),.map (some mb2)] 106)):=(Below.refl _ _).alloc (Nat.le_refl _) _
 have hx0:=heap_alloc_new w (.cells #[.pointer (some ⟨g,0,none⟩),.map (some mb2)] 106)
 have h1:=h.below hb0
 have HLP:=Lib.hid (h1.st.lacksPart 1)
 rw [show decide (((0:Nat):Int)*128<1)=true from by decide] at HLP
 have HAP:=Lib.hid (h1.addPart (by omega) l1 hl1 h0 (fun i hi=>absurd hi (Nat.not_lt_zero i)))
 have HPF:Hid (∀w1,Calls Tryz.prog 97 #[.int .i64 (S.size:Int)] w1 fun e w'=>e = .returned (.int .i64 0)∧w1=w'):=Lib.hid fun w1=>by
  have hp:=pagesFor_any S.size w1 (by have:=hS.size;omega)
  have e:pagesForN S.size=0:=by unfold pagesForN;rw [if_pos (by have:=hS.size;omega)]
  rw [e] at hp
  exact hp
 have HNW:Hid (∀w1,Calls Tryz.prog 105 #[] w1 fun e w'=>∃g v,e = .returned (.pointer (some ⟨g,0,none⟩))∧Sl.Pg0 w' g v []∧(∀k∈Sl.foot g v,w1.heap.size≤k)∧w1.heap.size≤g∧Below w1.heap.size w1 w'):=Lib.hid fun w1=>(Sl.new_any w1).mono (by
  rintro e w' ⟨g,F,rfl,⟨v,hp,rfl⟩,h1,h2,h3⟩
  exact⟨g,v,rfl,hp,h1,h2,h3⟩)
 have HBY:Hid (∀w1 g v,Sl.Pg0 w1 g v []→Calls Tryz.prog 106 #[.pointer (some ⟨g,0,none⟩)] w1 fun e w'=>e = .returned (.string (strB (Sl.bytesM [])))∧Below w1.heap.size w1 w'):=Lib.hid fun w1 g v hp=>Sl.bytes_any hp
 have hsz:=hS.size
 have hszI:(S.size:Int)≤479:=by omega
 have HS:=Lib.hid hS
 have HD:=Lib.hid hd
 have HL2:=Lib.hid hl2
 have HL1:=Lib.hid hl1
 have HH0:=Lib.hid h0
 have HGM:=Lib.hid hmG
 have HDM:=Lib.hid hmD
 have HML:=Lib.hid hm.lt
 have HM1:=Lib.hid (hm.below hb0)
 have HB0:=Lib.hid hb0
 have HB01:=Lib.hid hb0
 have H1:=Lib.hid h1
 have HGL:=Lib.hid (kin_lt h.sp.kinG)
 have HGW:=Lib.hid h.st.lt
 clear h h1 hm hmG hmD hl1 h0 hl2 hS hd hb0 hsz
 go_enter Tryz.func56,Tryz.ntmps56
 go_upto_region 1 with fail
 generalize w.alloc (.cells #[.pointer (some ⟨g,0,none⟩),.map (some mb2)] 106)=W1 at *
 have a0:=cell_of_row _ _ 0 _ _ _ hx0
 have a1:=cell_of_row _ _ 1 _ _ _ hx0
 simp at a0 a1
 go_upto_region 4 with (first
  | (go_at_call 98;with_reducible refine HLP.out.mono ?_;rintro e w2 ⟨rfl,rfl⟩)
  | (go_at_call 102;with_reducible refine HAP.out.mono ?_;rintro e w3 ⟨rfl,⟨s3,v3,h3,ho3⟩,K3,K3',hK3,hc3⟩))
 have H3:=Lib.hid h3
 have hn3:∀b,b∉G→b≠g→b∉K3:=fun b h1 h2 e=>by
  rcases hK3 b e with e | e | e
  ·exact h1 e
  ·exact h2 e
  ·simp [Value.ownBlock] at e
 have hx3:=(hc3.block w.heap.size (lt_of_block hx0) (hn3 _ (fun e=>absurd (HGL.out _ e) (Nat.lt_irrefl _)) (fun e=>by have:=HGW.out;omega))).trans hx0
 have hmg:mb2≠g:=fun e=>by
  obtain⟨es,c,hb⟩:=HM1.out.isMap
  rw [e,H1.out.st.row] at hb;cases hb
 have HM3:=Lib.hid (HM1.out.same (hc3.block mb2 HM1.out.lt (hn3 mb2 HGM.out hmg)))
 have HO3:=Lib.hid ho3
 have HB3:Hid (W1.heap.size≤w3.heap.size∧Chg K3 K3' W1 w3∧∀b,b∉G→b≠g→b∉K3):=Lib.hid ⟨hc3.size,hc3,hn3⟩
 have HBO:=Lib.hid (Sl.bytesM_len (l:=[]) Sl.Okp.nil_)
 have HNP:Hid (∀w1,Below w3.heap.size w3 w1→Calls Tryz.prog 104 #[.pointer (some ⟨g,0,none⟩),.string (strB (Sl.bytesM []))] w1 fun e w'=>e = .returned (.int .i64 (l2:Int))∧Hid ((∃s',Sto w' d sg D G m s' pg ((partY y F l1).put l2 (Sl.bytesM [])) k g mb v3 1 (grewF F 0 l1))∧Chg G G w1 w')):=Lib.hid fun w1 hb=>((H3.out.below hb).newPage l2 HL2.out (Sl.bytesM []) ⟨HBO.out,Sl.bytesM_dig Sl.Okp.nil_⟩).mono fun e w' hh=>⟨hh.1,Lib.hid hh.2⟩
 have HT0:=Lib.hid a0
 clear h3 hc3 hK3 hn3 hx0 a0 a1 HLP HAP hmg
 have a0:=cell_of_row _ _ 0 _ _ _ hx3
 have a1:=cell_of_row _ _ 1 _ _ _ hx3
 simp at a0 a1
 generalize strB (Sl.bytesM [])=T0 at *
 go_upto_region 13 with (first
  | (go_at_call 97;with_reducible refine(HPF.out _).mono ?_;rintro e w4 ⟨rfl,rfl⟩)
  | (go_at_call 105;with_reducible refine(HNW.out _).mono ?_;rintro e w5 ⟨gp0,vp0,rfl,hp0,-,-,hb5⟩)
  | (go_at_call 106;with_reducible refine(HBY.out _ _ _ hp0).mono ?_;rintro e w6 ⟨rfl,hb6⟩;have HB6:=Lib.hid (hb5.trans (hb6.mono hb5.size));clear hb5 hb6 hp0)
  | (go_at_call 104;with_reducible refine(HNP.out _ HB6.out).mono ?_;rintro e w7 ⟨rfl,HS7⟩))
 obtain⟨⟨s7,h7⟩,hc7⟩:=HS7.out
 have hx7:=(hc7.block w.heap.size (by have:=HB6.out.size;have:=lt_of_block hx3;omega) (fun e=>absurd (HGL.out _ e) (Nat.lt_irrefl _))).trans ((HB6.out.block _ (lt_of_block hx3)).trans hx3)
 have HM7:=Lib.hid ((HM3.out.below HB6.out).same (hc7.block mb2 (by have:=HB6.out.size;have:=HM3.out.lt;omega) HGM.out))
 have H7:=Lib.hid h7
 have HC7:=Lib.hid hc7
 have HX7:=Lib.hid hx7
 have hl2:l2<512:=by have:=(gapF_lt HL2.out).1;omega
 have HL5:=Lib.hid hl2
 clear h7 hc7 hx3 a0 a1 HNP HS7 hl2
 have a0:=cell_of_row _ _ 0 _ _ _ hx7
 have a1:=cell_of_row _ _ 1 _ _ _ hx7
 simp at a0 a1
 go_region_law (first
  | (go_simp;go_at_call 105;refine(HNW.out _).mono ?_;rintro e w8 ⟨gp8,vp8,rfl,hpg8,hFP8,hgp8,hb8⟩;have HB8:Hid (Below w7.heap.size w7 w8):=Lib.hid ((Below.refl _ _).drew.trans (by exact hb8));obtain⟨w9,hrun9,hm9,ho9⟩:=(HM7.out.below HB8.out).store l2 gp8 HL5.out;have a0:=(HB8.out.cell (p:=⟨w.heap.size,0,none⟩) (lt_of_block HX7.out)).trans a0;have a1:=(HB8.out.cell (p:=⟨w.heap.size,1,none⟩) (lt_of_block HX7.out)).trans a1))
 all_goals (
  have hm9':=hm9
  have HM9:=Lib.hid hm9'
  have hmg:mb2≠g:=fun e=>by
   obtain⟨es,c,hb⟩:=HM7.out.isMap
   rw [e,H7.out.st.row] at hb;cases hb
  have hv3:∀b,v3.ownBlock=some b→b≠mb2:=fun b hb e=>by
   obtain⟨-,cur,hh⟩:=H7.out.own_ne b hb
   obtain⟨es,c,hb2⟩:=HM7.out.isMap
   rw [e,hb2] at hh;cases hh
  have hcm:Chg [mb2] [mb2] w8 w9:=⟨ho9.os,ho9.tape,ho9.output,ho9.size,fun j hj hn=>ho9.block j hj (fun e=>hn (by rw [e];exact List.mem_singleton.2 rfl)),fun _ h=>.inl h⟩
  have h9:Sto w9 d sg D G m s7 pg ((partY y F l1).put l2 (Sl.bytesM [])) k g mb v3 1 (grewF F 0 l1):=(H7.out.below HB8.out).stayB hcm
   (fun j hj=>by cases List.mem_singleton.1 hj;exact .inl ((HM7.out.below HB8.out).isMap))
   (fun j hj e=>by cases List.mem_singleton.1 e;exact HDM.out hj)
   (fun j hj e=>by cases List.mem_singleton.1 e;exact HGM.out hj)
   (fun e=>hmg (List.mem_singleton.1 e).symm)
   (fun b hb e=>hv3 b hb (List.mem_singleton.1 e))
  have hmb8:mb2<w7.heap.size:=HM7.out.lt
  have hp9:Sl.Pg0 w9 gp8 vp8 []:=⟨(ho9.block gp8 (lt_of_block hpg8.hd) (fun e=>by have:w7.heap.size≤gp8:=hgp8;omega)).trans hpg8.hd,Sl.own_other hpg8.row (fun b hb=>ho9.block b (World.ownsRow.lt hpg8.row b hb).2 (fun e=>by have:w7.heap.size≤b:=hFP8 b (by unfold Sl.foot;rw [hb];simp);omega)),hpg8.ok⟩
  have hx9:=(ho9.block w.heap.size (by have:=HB8.out.size;have:=lt_of_block HX7.out;omega) (fun e=>by have:=HML.out;omega)).trans ((HB8.out.block _ (lt_of_block HX7.out)).trans HX7.out)
  have H9:=Lib.hid h9
  have HP9:=Lib.hid hp9
  have HX9:=Lib.hid hx9
  have HF9:Hid (∀j∈Sl.foot gp8 vp8,w7.heap.size≤j):=Lib.hid hFP8
  have HO9:=Lib.hid ho9
  clear hm9 hm9' h9 hp9 hcm ho9 hrun9 hpg8 hFP8 hgp8 hb8 a0 a1 hx9
  have a0:=cell_of_row _ _ 0 _ _ _ HX9.out
  have a1:=cell_of_row _ _ 1 _ _ _ HX9.out
  simp at a0 a1
  have HRT:Hid (∀w1,Calls Tryz.prog 108 #[.string S,.slice none 0 0] w1 fun e w'=>e = .returned (.string (strB (recB ds [])))∧Below w1.heap.size w1 w'):=Lib.hid fun w1=>recordText_any S ds (.slice none 0 0) [] 0 w1 HS.out (by have:=HD.out;omega) (World.ownsRow_nil _ _ _ _) (by simp) (by simp)
  have hT4:(strB (recB ds [])).size≤480:=by
   rw [strB_size]
   have:=HD.out
   unfold recB
   rw [if_pos rfl]
   simp
   omega
  have HAD:Hid (∀w1,Below w9.heap.size w9 w1→Calls Tryz.prog 107 #[.pointer (some ⟨gp8,0,none⟩),.string (strB (recB ds []))] w1 fun e w'=>e = .returned (.tuple #[.int .i64 0,.int .i64 0])∧Hid (∃v',Sl.Pg0 w' gp8 v' [some (strB (recB ds []))]∧Sl.Chg (Sl.foot gp8 vp8) (Sl.foot gp8 v') w1 w')):=Lib.hid fun w1 hb=>by
   have ha:=Sl.add_any (HP9.out.below hb) (strB (recB ds [])) (by omega)
   obtain⟨e1,e2,e3⟩:=add_one (strB (recB ds [])) hT4
   rw [e1,e2,e3] at ha
   refine ha.mono ?_
   rintro e w' ⟨rfl,F',⟨v',hp',rfl⟩,hc⟩
   exact⟨rfl,Lib.hid ⟨v',hp',hc⟩⟩
  have HT4:=Lib.hid hT4
  clear hT4
  generalize hTT:strB (recB ds [])=T4 at *
  have HTT:=Lib.hid hTT
  clear hTT
  have hlk:=(HM9.out.below (Below.refl _ _).drew).look1 l2 gp8 (Dmf.put_same _ _ _)
  have a0d:=(World.cell?_of_block (a:=⟨w.heap.size,0,none⟩) (show w9.drew.heap[w.heap.size]?=w9.heap[w.heap.size]? from rfl)).trans a0
  go_wp2_with fail
  go_region_law (first
   | (go_simp;go_at_call 108;refine(HRT.out _).mono ?_;rintro e w10 ⟨rfl,hb10⟩;have HB10:Hid (Below w9.heap.size w9 w10):=Lib.hid ((Below.refl _ _).drew.trans (by exact hb10));have a0:=(HB10.out.cell (p:=⟨w.heap.size,0,none⟩) (lt_of_block HX9.out)).trans a0;have a1:=(HB10.out.cell (p:=⟨w.heap.size,1,none⟩) (lt_of_block HX9.out)).trans a1;have hlk:=(HM9.out.below HB10.out).look1 l2 gp8 (Dmf.put_same _ _ _))
   | (go_simp;go_at_call 107;refine(HAD.out _ HB10.out).mono ?_;rintro e w11 ⟨rfl,HA11⟩))
  all_goals (
   obtain⟨vp11,hp11,hc11⟩:=HA11.out
   have hl1:l1<512:=by have:=(gapF_lt HL1.out).1;omega
   have hsz7:w7.heap.size≤w10.heap.size:=by have:=HB8.out.size;have:=HO9.out.size;have:=HB10.out.size;omega
   have hG7:=kin_lt H7.out.sp.kinG
   have hD7:=kin_lt H7.out.sp.kinF
   have hg7:=H7.out.st.lt
   have hv7:=fun b hb=>(World.ownsRow.lt H7.out.st.own b hb).2
   have hw7:w.heap.size<w7.heap.size:=lt_of_block HX7.out
   have hK:Kin w10 (Sl.foot gp8 vp8):=fun j hj=>by
    obtain⟨cs,t,fr,e,ht⟩:=(HP9.out.below HB10.out).typed j hj
    exact .inr ⟨cs,t,fr,e,by rcases ht with rfl | rfl <;> simp⟩
   have h11:Sto w11 d sg D G m s7 pg ((partY y F l1).put l2 (Sl.bytesM [])) k g mb v3 1 (grewF F 0 l1):=(H9.out.below HB10.out).stayB (K:=Sl.foot gp8 vp8) (K':=Sl.foot gp8 vp11) ⟨hc11.os,hc11.tape,hc11.output,hc11.size,hc11.block,hc11.fresh⟩ hK
    (fun j hj e=>by have:=HF9.out j e;have:=hD7 j hj;omega)
    (fun j hj e=>by have:=HF9.out j e;have:=hG7 j hj;omega)
    (fun e=>by have:=HF9.out g e;omega)
    (fun b hb e=>by have:=HF9.out b e;have:=hv7 b hb;omega)
   have hf11:∀j∈Sl.foot gp8 vp11,w7.heap.size≤j:=fun j hj=>(hc11.fresh j hj).elim (fun e=>HF9.out j e) (fun e=>by omega)
   have hm11:Dms w11 mb2 (Dmf.put (fun _=>none) l2 gp8):=(HM9.out.below HB10.out).same (hc11.block mb2 (HM9.out.below HB10.out).lt (fun e=>by have:=HF9.out mb2 e;have:=HML.out;omega))
   have hF0:grewF F 0 l1 (0 / 128*129)=l1:=by unfold grewF;simp
   have hnz:=lay_nz y F l1 l2
   have hth:thX ((partY y F l1).put l2 (Sl.bytesM [])).now ((grewF F 0 l1 (0 / 128*129):Nat):Int)=true:=by
    rw [hF0,th_nat hl1]
    exact(hnz l1).2 (.inr (.inr (.inl rfl)))
   have ht:=h11.tell 0 (l2*64+1) (by omega) (fun j hj=>by unfold grewF;split;omega;split;omega;omega) (by have:=HL5.out;omega) hth
   rw [show (((0:Nat):Int)+1)=1 from rfl,hF0] at ht
   have HTL:=Lib.hid ht
   have HSO:Hid (∀w1,Calls Tryz.prog 109 #[.int .i64 (l2:Int),.int .i64 0] w1 fun e w'=>e = .returned (.int .i64 ((l2*64+1:Nat):Int))∧w1=w'):=Lib.hid fun w1=>by
    have h:=spotOf_any l2 0 w1 (by have:=HL5.out;omega) (by omega)
    rw [show ((l2:Int)*64+((0:Nat):Int)+1)=((l2*64+1:Nat):Int) by omega] at h
    exact h
   have HFIN:Hid (∀(V:World) s' X,Sto V d sg D G m s' pg (((partY y F l1).put l2 (Sl.bytesM [])).put l1 X) k g mb v3 1 (Tb.updN (grewF F 0 l1) (0 / 128*129+1+0 % 128) (l2*64+1))→X.isEmpty=false→(∃K,(∀j∈K,j∈G∨v3.ownBlock=some j)∧Chg K K w11 V) →
     ∃s' y' v' F' gp vp,Sto V d sg D G m s' pg y' k g mb v' 1 F'∧Dms V mb2 (Dmf.put (fun _=>none) l2 gp)∧Sl.Pg0 V gp vp [some (strB (recB ds []))]∧(∀j∈Sl.foot gp vp,j∉G∧j∉D∧j≠g∧v'.ownBlock≠some j∧j≠mb2∧w.heap.size≤j)∧(∀q,nn y'.now q=true↔nn y.now q=true∨q=0∨q=l1∨q=l2)∧(∀b o,w.heap[b]?=some o→b∉G→b≠g→b≠mb2→V.heap[b]?=w.heap[b]?)∧(V.os=w.os∧V.tape=w.tape∧V.output=w.output∧w.heap.size≤V.heap.size)):=Lib.hid fun V s' X hV hXe hKK=>by
    obtain⟨K,hK1,hKc⟩:=hKK
    have hout:∀j∈Sl.foot gp8 vp11,j∉K:=fun j hj e=>by
     have h1:=hf11 j hj
     rcases hK1 j e with e | e
     ·have:=hG7 j e;omega
     ·have:=hv7 j e;omega
    have hmK:mb2∉K:=fun e=>by
     rcases hK1 mb2 e with e | e
     ·exact HGM.out e
     ·exact hv3 mb2 e rfl
    refine⟨s',_,v3,_,gp8,vp11,hV,hm11.same (hKc.block mb2 hm11.lt hmK),HTT.out ▸ hp11.stay (F:=K) (F':=K) ⟨hKc.os,hKc.tape,hKc.output,hKc.size,hKc.block,hKc.fresh⟩ hout,fun j hj=>?_,fun q=>?_,fun b o hbm hbG hbg hb2=>?_,?_⟩
    ·have h1:=hf11 j hj
     exact⟨fun e=>by have:=hG7 j e;omega,fun e=>by have:=hD7 j e;omega,fun e=>by omega,fun e=>by have:=hv7 j e;omega,fun e=>by have:=HML.out;omega,by omega⟩
    ·show (!(if q=l1 then X else _).isEmpty)=true↔_
     by_cases e:q=l1
     ·rw [if_pos e,hXe];exact⟨fun _=>.inr (.inr (.inl e)),fun _=>rfl⟩
     ·rw [if_neg e];exact hnz q
    ·have q0:=lt_of_block hbm
     have e1:=HB01.out.block b q0
     have e3:=(HB3.out.2.1.block b (by have:=HB01.out.size;omega) (HB3.out.2.2 b hbG hbg)).trans e1
     have z1:=HB01.out.size
     have z3:=HB3.out.1
     have z6:=HB6.out.size
     have z7:=HC7.out.size
     have z8:=HB8.out.size
     have z9:=HO9.out.size
     have z10:=HB10.out.size
     have z11:=hc11.size
     have e6:=(HB6.out.block b (by omega)).trans e3
     have e7:=(HC7.out.block b (by omega) hbG).trans e6
     have e8:=(HB8.out.block b (by omega)).trans e7
     have e9:=(HO9.out.block b (by omega) hb2).trans e8
     have e10:=(HB10.out.block b (by omega)).trans e9
     have e11:=(hc11.block b (by omega) (fun e=>by have:=HF9.out b e;omega)).trans e10
     refine(hKc.block b (by omega) (fun e=>?_)).trans e11
     rcases hK1 b e with e | e
     ·exact hbG e
     ·rcases HO3.out b e with e2 | e2
      ·cases e2
      ·omega
    ·have z1:=HB01.out.size
     have z3:=HB3.out.1
     have z6:=HB6.out.size
     have z7:=HC7.out.size
     have z8:=HB8.out.size
     have z9:=HO9.out.size
     have z10:=HB10.out.size
     have z11:=hc11.size
     have zk:=hKc.size
     exact⟨hKc.os.trans (hc11.os.trans (HB10.out.os.trans (HO9.out.os.trans (HB8.out.os.trans (HC7.out.os.trans (HB6.out.os.trans (HB3.out.2.1.os.trans HB01.out.os))))))),
      hKc.tape.trans (hc11.tape.trans (HB10.out.tape.trans (HO9.out.tape.trans (HB8.out.tape.trans (HC7.out.tape.trans (HB6.out.tape.trans (HB3.out.2.1.tape.trans HB01.out.tape))))))),
      hKc.output.trans (hc11.output.trans (HB10.out.output.trans (HO9.out.output.trans (HB8.out.output.trans (HC7.out.output.trans (HB6.out.output.trans (HB3.out.2.1.output.trans HB01.out.output))))))),by omega⟩
   generalize l2*64+1=XX at *
   clear ht hth hnz hF0 hm11 hf11 h11 hK hv7 hg7 hD7 hG7 hsz7 hl1 hw7 hp11 hc11 hlk
   go_wp2_with (first
    | (go_at_call 109;with_reducible refine(HSO.out _).mono ?_;rintro e w12 ⟨rfl,rfl⟩)
    | (go_at_call 60;with_reducible refine HTL.out.mono ?_;rintro e w13 ⟨rfl,⟨s13,h13⟩,hK13⟩;have H13:=Lib.hid h13;have HK13:=Lib.hid hK13;clear h13 hK13))
   go_end0
   exact⟨rfl,HFIN.out _ _ _ H13.out (partB_ne _ _) HK13.out⟩)
  )
end
end
section
set_option maxRecDepth 20000
open Go.RowKit
def Kpt (w w':World):Prop:=(∀(b:Nat) (cs:Array Value) (t:TypeId) (fr:Nat × Nat),w.heap[b]?=some (Obj.cells cs t fr)→t≠3→w'.heap[b]?=w.heap[b]?)∧∀(b:Nat) (es:Array MapEntry) (c:Nat),w.heap[b]?=some (Obj.map es c)→w'.heap[b]?=w.heap[b]?
theorem Kpt.of_one {w w':World} {J J':List Nat} (hc:Chg J J' w w') (hJ:∀j∈J,∃cs fr,w.heap[j]?=some (Obj.cells cs 3 fr)):Kpt w w':=by
 refine⟨fun b cs t fr hb ht=>hc.block b (lt_of_block hb) (fun e=>?_),fun b es c hb=>hc.block b (Array.getElem?_eq_some_iff.1 hb).1 (fun e=>?_)⟩
 ·obtain⟨cs2,fr2,h2⟩:=hJ b e
  rw [hb] at h2;cases h2;exact ht rfl
 ·obtain⟨cs2,fr2,h2⟩:=hJ b e
  rw [hb] at h2;cases h2
section
variable {w w':World}
theorem Sec.kpt {v:Value} {s:List Nat} (hs:Sec w v s) (h:Kpt w w'):Sec w' v s:=by
 obtain⟨b,c,cur,fr,rfl,hh,hr⟩:=hs
 exact⟨b,c,cur,fr,rfl,(h.1 _ _ _ _ hh (by decide)).trans hh,hr⟩
theorem Dk0.kpt {g bO cO bL cL:Nat} {vW:Value} {os ls:List Value} {ws:List Vw} {m:Dsk} (h:Dk0 w g bO cO bL cL vW os ls ws m) (hc:Kpt w w'):Dk0 w' g bO cO bL cL vW os ls ws m:=by
 have hs:∀k∈foot g bO bL vW,w'.heap[k]?=w.heap[k]?:=fun k hk=>by
  obtain⟨cs,t,fr,h1,h2⟩:=h.typed k hk
  exact hc.1 _ _ _ _ h1 (by rcases h2 with h2 | h2 | h2 <;> rw [h2] <;> decide)
 refine⟨(hs g (by simp [foot])).trans h.hd,own_other h.ro (fun k hk=>hs k ?_),own_other h.rl (fun k hk=>hs k ?_),own_other h.rw_ (fun k hk=>hs k ?_),⟨h.so.len,fun i hi=>(h.so.at_ i hi).kpt hc⟩,⟨h.sl.len,fun i hi=>(h.sl.at_ i hi).kpt hc⟩,⟨h.sw.len,fun i hi=>⟨(h.sw.at_ i hi).1,(h.sw.at_ i hi).2.kpt hc⟩⟩,h.nil_,h.ne,h.ok⟩
 ·cases hk;simp [foot]
 ·cases hk;simp [foot]
 ·simp [foot,hk]
theorem Row5.kpt {g N:Nat} {us:List Nat} (hs:Row5 w g N us) (h:Kpt w w'):Row5 w' g N us:=by
 obtain⟨cur,hc⟩:=hs.head
 exact hs.same (h.1 _ _ _ _ hc (by decide))
theorem Stp.kpt {p:Option Addr} {f:Option (Nat→Bool)} (hs:Stp w p f) (h:Kpt w w'):Stp w' p f:=by
 cases f with
 | none=>exact hs
 | some f=>
  obtain⟨g,b,e,hs⟩:=hs
  exact⟨g,b,e,hs.le,hs.sub,hs.ne,(h.1 _ _ _ _ hs.box (by decide)).trans hs.box,hs.row.kpt h⟩
theorem Spc0.kpt {g d pt pk mb:Nat} {pu po:Option Addr} {s:Sp} (h:Spc0 w g d pt pk mb pu po s) (hc:Kpt w w'):Spc0 w' g d pt pk mb pu po s:=by
 obtain⟨es,c,hm⟩:=h.map.isMap
 exact⟨(hc.1 _ _ _ _ h.box (by decide)).trans h.box,h.tab.same (hc.1 _ _ _ _ h.tab.row (by decide)),h.kep.same (hc.1 _ _ _ _ h.kep.row (by decide)),h.map.same (hc.2 _ _ _ hm),h.us.kpt hc,h.od.kpt hc,h.ne⟩
theorem Spz.kpt {d g:Nat} {F G:List Nat} {m:Dsk} {s:Sp} {pg k:Nat} {y:Xv} (h:Spz w d g F G m s pg y k) (hc:Kpt w w'):Spz w' d g F G m s pg y k:=by
 obtain⟨bO,cO,bL,cL,vW,os,ls,ws,hd,hF⟩:=h.dk
 obtain⟨pt,pk,mb,pu,po,hs,hG⟩:=h.sp
 exact⟨⟨bO,cO,bL,cL,vW,os,ls,ws,hd.kpt hc,hF⟩,⟨pt,pk,mb,pu,po,hs.kpt hc,hG⟩,h.inv,h.sim,h.dn,h.ep,h.ro,h.lim,h.od,h.hl0⟩
theorem Sto.kpt {d sg pg k g mb n:Nat} {D G:List Nat} {m:Dsk} {s:Sp} {y:Xv} {v:Value} {F:Nat→Nat} (h:Sto w d sg D G m s pg y k g mb v n F) (hc:Kpt w w'):Sto w' d sg D G m s pg y k g mb v n F:=
 ⟨h.sp.kpt hc,⟨(hc.1 _ _ _ _ h.st.row (by decide)).trans h.st.row,own_other h.st.own fun b hb=>by
  obtain⟨cur,hh⟩:=own_head h.st.own hb
  exact hc.1 _ _ _ _ hh (by decide),h.st.n64⟩,h.ag,h.av,h.ad,h.avd⟩
end
end
end Go.Proofs.YtmbecjlioogbhaaGreatDoor
