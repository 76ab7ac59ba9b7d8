/- Texts YSpc to YFmt of this seat, laid into one. -/
import Derived.Deep.RegionHeldLaw
import Derived.Test.YtmbecjlioogbhaaGreatDoorM05
import Derived.Test.YtmbecjlioogbhaaGreatDoorM11
import Derived.Test.YtmbecjlioogbhaaGreatDoorM12
import Derived.Test.YtmbecjlioogbhaaGreatDoorM14
import Derived.Test.YtmbecjlioogbhaaGreatDoorM15
import Derived.Test.YtmbecjlioogbhaaGreatDoorM16
import Derived.Test.YtmbecjlioogbhaaGreatDoorM21
set_option linter.unusedVariables false
set_option linter.unusedSimpArgs false
set_option linter.constructorNameAsVariable false
namespace Go.Proofs.YtmbecjlioogbhaaGreatDoor
section
set_option maxRecDepth 20000
open Go.RowKit
def thX (f:Nat→List Nat) (y:Int):Bool:=decide (0≤y) && decide (y<512) && nn f y.toNat
theorem th_lt {f:Nat→List Nat} {l:Int} (h:thX f l=true):l.toNat<512∧0≤l∧((l.toNat:Nat):Int)=l:=by
 unfold thX at h
 simp only [Bool.and_eq_true,decide_eq_true_eq] at h
 omega
theorem th_nat {f:Nat→List Nat} {i:Nat} (hi:i<512):thX f (i:Int)=nn f i:=by
 unfold thX
 rw [decide_eq_true (by omega:(0:Int)≤(i:Int)),decide_eq_true (by omega:(i:Int)<512),Int.toNat_natCast];rfl
def ComE (s:Sp) (word E:Int):Prop:=(¬ (0≤word∧word≤2147483647)∧E=7)∨((0≤word∧word≤2147483647)∧(freeL s).length<needS s∧E=8)∨((0≤word∧word≤2147483647)∧needS s≤(freeL s).length∧E=0)
structure Spz (w:World) (d g:Nat) (F G:List Nat) (m:Dsk) (s:Sp) (pg:Nat) (y:Xv) (k:Nat):Prop where
 dk:Dk w d F m
 sp:Spc w g G d s
 inv:Inv m s pg
 sim:Sim s m.out y
 dn:m.done≤3000*k+100
 ep:0≤s.g.r.ep∧s.g.r.ep≤(k:Int)+1
 ro:k≤50→RootO m.out s.g.r
 lim:k≤1000
 od:OdOk s pg
 hl0:k=0→Bi.cnt (heldS s) 512≤1
theorem Inv.sp' {m:Dsk} {s s':Sp} {pg:Nat} (h:Inv m s pg) (hs:SpGood s' m.out pg) (hg:s'.g.r=s.g.r):Inv m s' pg:=
 ⟨h.up,h.row,h.fuse,h.len,h.ok,hs,by rw [hg];exact h.rt⟩
theorem zs_ok:zs512.length=512∧∀v∈zs512,v<256:=by
 refine⟨by decide,fun v hv=>?_⟩
 have:=List.eq_of_mem_replicate hv
 omega
section
variable {w w':World} {d g:Nat} {F G:List Nat} {m:Dsk} {s:Sp} {pg:Nat} {y:Xv} {k:Nat}
theorem Spz.secs (h:Spz w d g F G m s pg y k):Secs128 m.out:=h.dk.ok.out
theorem Spz.rest (h:Spz w d g F G m s pg y k):Rest w d g F G m s pg:=by
 have h1:=h.lim
 have h2:=h.dn
 have h3:=h.ep
 exact⟨h.dk,h.sp,h.inv,by omega,h3.1,by omega⟩
theorem Spz.apart (h:Spz w d g F G m s pg y k):∀j∈G,j∉F:=by
 obtain⟨bO,cO,bL,cL,vW,os,ls,ws,hD,rfl⟩:=h.dk
 exact apart_of' hD.typed h.sp
theorem Spz.kinF (h:Spz w d g F G m s pg y k):Kin w F:=by
 obtain⟨bO,cO,bL,cL,vW,os,ls,ws,hD,rfl⟩:=h.dk
 exact hD.typed.kin
theorem Spz.kinG (h:Spz w d g F G m s pg y k):Kin w G:=h.sp.kin
theorem Spz.stay (h:Spz w d g F G m s pg y k) {K K':List Nat} (hc:Chg K K' w w') (hT:Kin w K) (hF:∀j∈F,j∉K) (hG:∀j∈G,j∉K):Spz w' d g F G m s pg y k:=
 ⟨h.dk.stay2 hc hT hF,h.sp.stay hc hT hG,h.inv,h.sim,h.dn,h.ep,h.ro,h.lim,h.od,h.hl0⟩
theorem Spz.below (h:Spz w d g F G m s pg y k) (hb:Below w.heap.size w w'):Spz w' d g F G m s pg y k:=
 ⟨h.dk.below hb,h.sp.below hb,h.inv,h.sim,h.dn,h.ep,h.ro,h.lim,h.od,h.hl0⟩
theorem Spz.th (h:Spz w d g F G m s pg y k) (l:Int):hasS s l=thX y.now l:=by
 unfold thX
 by_cases h0:0≤l∧l<512
 ·obtain⟨n,rfl⟩:∃n:Nat,l=(n:Int):=⟨l.toNat,by omega⟩
  have hn:n<512:=by omega
  rw [hasS_isN s hn,Int.toNat_natCast,h.sim.nnow h.inv.sp h.secs hn,decide_eq_true h0.1,decide_eq_true h0.2];rfl
 ·rw [hasS_out s h0 (fun l e=>h.inv.sp.frLt l e)]
  rcases Decidable.not_and_iff_or_not.1 h0 with h1 | h1
  ·rw [decide_eq_false h1];rfl
  ·rw [decide_eq_false h1];simp
theorem Spz.spUp (h:Spz w d g F G m s pg y k) {pt pk mb:Nat} {pu po:Option Addr} {s':Sp} {y':Xv} (hG:G=[g,pt,pk,mb]) (hs:Spc0 w' g d pt pk mb pu po s') (hc:Chg G G w w')
  (hg:SpGood s' m.out pg) (hr:s'.g.r=s.g.r) (hu:s'.g.us=s.g.us) (ho:s'.od=s.od) (hy:Sim s' m.out y'):Spz w' d g F G m s' pg y' k:=
 ⟨h.dk.stay2 hc h.kinG (fun j hj hm=>h.apart j hm hj),⟨pt,pk,mb,pu,po,hs,hG⟩,h.inv.sp' hg hr,hy,h.dn,by rw [hr];exact h.ep,fun hk=>hr ▸ h.ro hk,h.lim,fun f e=>h.od f (ho ▸ e),fun e=>by unfold heldS;rw [hu,ho];exact h.hl0 e⟩
theorem Spz.page (h:Spz w d g F G m s pg y k) {l:Nat} (hl:l<512) (hn:nn y.now l=true):(y.now l).length=512∧∀v∈y.now l,v<256:=by
 have h1:=h.sim.now l hl
 have h2:=(now_len h.inv.sp h.secs l).1 (by rw [←h.sim.nnow h.inv.sp h.secs hl];exact hn)
 rw [h1];exact h2
theorem read_z (h:Spz w d g F G m s pg y k) (l:Int) (h0:-9223372036854775808≤l) (h1:l≤9223372036854775807) :
  Calls Tryz.prog 35 #[.pointer (some ⟨g,0,none⟩),.int .i64 l] w fun e w'=>e = .returned (if thX y.now l=true then .tuple #[.string (strB (y.now l.toNat)),.int .i64 0] else .tuple #[.string (strB []),.int .i64 5])∧Below w.heap.size w w':=by
 obtain⟨pt,pk,mb,pu,po,hS,hG⟩:=h.sp
 have hp:=h.inv.pgle
 have hl:=h.inv.len
 refine(read_sp hS h.dk h.inv.up (by omega) (fun l hl=>(h.inv.sp.kpLt l hl).2) l h0 h1).mono ?_
 rintro e w' ⟨rfl,hb⟩
 refine⟨?_,hb⟩
 cases ht:thX y.now l
 ·have:rdV m s l=none:=by
   have hh:=h.th l
   rw [ht] at hh
   unfold hasS at hh
   unfold rdV
   cases e:s.fr.at_ l with
   | some c=>rw [e] at hh;simp at hh
   | none=>
    rw [e] at hh
    have h3:Tb.getI s.kp l=0:=by simpa using hh
    show (if Tb.getI s.kp l=0 then none else _)=none
    rw [if_pos h3]
  rw [this];rfl
 ·obtain⟨t1,t2,t3⟩:=th_lt ht
  have hr:=rd_now m s h.inv.last t1
  rw [t3] at hr
  have hn:isN s l.toNat=true:=by
   rw [←h.sim.nnow h.inv.sp h.secs t1]
   unfold thX at ht
   simp only [Bool.and_eq_true] at ht
   exact ht.2
  rw [hr,if_pos hn,h.sim.now _ t1];rfl
theorem write_z (h:Spz w d g F G m s pg y k) (l:Int) (h0:-9223372036854775808≤l) (h1:l≤9223372036854775807) (c:List Nat) (hc:c.length=512∧∀v∈c,v<256) :
  Calls Tryz.prog 36 #[.pointer (some ⟨g,0,none⟩),.int .i64 l,.string (strB c)] w fun e w'=>e = .returned (.int .i64 (if thX y.now l=true then 0 else 5))∧(∃s',Spz w' d g F G m s' pg (if thX y.now l=true then y.put l.toNat c else y) k)∧Chg G G w w':=by
 obtain⟨pt,pk,mb,pu,po,hS,hG⟩:=h.sp
 refine(write_sp hS l h0 h1 c hc.1).mono ?_
 rintro e w' ⟨rfl,hs,hch⟩
 rw [←hG] at hch
 rw [h.th l] at hs ⊢
 refine⟨rfl,?_,hch⟩
 cases ht:thX y.now l
 ·rw [ht] at hs
  exact⟨s,h.spUp hG hs hch h.inv.sp rfl rfl rfl h.sim⟩
 ·rw [ht] at hs
  obtain⟨t1,t2,t3⟩:=th_lt ht
  exact⟨_,h.spUp hG hs hch (h.inv.sp.put t1 hc) rfl rfl rfl (h.sim.put t1 c)⟩
theorem alloc_z (h:Spz w d g F G m s pg y k) :
  Calls Tryz.prog 22 #[.pointer (some ⟨g,0,none⟩)] w fun e w'=>((∃l,gapF (nn y.now) 512 0=some l∧l<512∧e = .returned (.tuple #[.int .i64 (l:Int),.int .i64 0])∧∃s',Spz w' d g F G m s' pg (y.put l zs512) k) ∨
   (gapF (nn y.now) 512 0=none∧e = .returned (.tuple #[.int .i64 0,.int .i64 8])∧Spz w' d g F G m s pg y k))∧Chg G G w w':=by
 obtain⟨pt,pk,mb,pu,po,hS,hG⟩:=h.sp
 refine(alloc_sp hS).mono ?_
 rintro e w' ⟨rfl,hs,hch⟩
 rw [←hG] at hch
 refine⟨?_,hch⟩
 have hgp:=gap_eq h.sim h.inv.sp h.secs
 unfold allocE
 unfold allocS at hs
 rw [hgp] at hs ⊢
 cases hg:gapF (nn y.now) 512 0 with
 | none=>
  rw [hg] at hs
  exact .inr ⟨rfl,rfl,h.spUp hG hs hch h.inv.sp rfl rfl rfl h.sim⟩
 | some l=>
  rw [hg] at hs
  have hl:=(gapF_lt hg).1
  exact .inl ⟨l,rfl,by omega,rfl,_,h.spUp hG hs hch (h.inv.sp.put (by omega) zs_ok) rfl rfl rfl (h.sim.put (by omega) zs512)⟩
theorem len_z (h:Spz w d g F G m s pg y k):Calls Tryz.prog 23 #[.pointer (some ⟨g,0,none⟩)] w fun e w'=>e = .returned (.int .i64 (Bi.cnt (nn y.now) 512:Nat))∧Below w.heap.size w w':=by
 obtain⟨pt,pk,mb,pu,po,hS,hG⟩:=h.sp
 have:=len_sp hS
 rw [len_eq h.sim h.inv.sp h.secs] at this
 exact this
theorem commit_z (h:Spz w d g F G m s pg y k) (hk:k+1≤1000) (word:Int) :
  Calls Tryz.prog 43 #[.pointer (some ⟨g,0,none⟩),.int .i64 word] w fun e w'=>∃E,e = .returned (.int .i64 E)∧ComE s word E∧(E≠0→Spz w' d g F G m s pg y k∧Below w.heap.size w w')∧(E=0→∃m' F' G',Spz w' d g F' G' m' (commS s (nextR s word)) pg (y.commit word) (k+1)∧Chg (F++G) (F'++G') w w'):=by
 refine(commit_sp h.rest word).mono ?_
 rintro e w' (⟨hw,rfl,hb⟩ | ⟨hw,hf,rfl,hb⟩ | ⟨hw,hf,rfl,hC⟩)
 ·exact⟨7,rfl,.inl ⟨of_eq_false hw,rfl⟩,fun _=>⟨h.below hb,hb⟩,fun e=>absurd e (by decide)⟩
 ·exact⟨8,rfl,.inr (.inl ⟨hw,hf,rfl⟩),fun _=>⟨h.below hb,hb⟩,fun e=>absurd e (by decide)⟩
 ·obtain⟨m',F',G',hD',hS',hc,hI,hdn,hsim,hro⟩:=hC
  have h1:=h.dn
  have h2:=h.ep
  refine⟨0,rfl,.inr (.inr ⟨hw,hf,rfl⟩),fun e=>absurd rfl e,fun _=>⟨m',F',G',⟨hD',hS',hI,hsim _ h.sim,by omega,?_,fun _=>hro,hk,od_comm h.inv.sp _,fun e=>by omega⟩,hc⟩⟩
  show 0≤s.g.r.ep+1∧s.g.r.ep+1≤_
  omega
end
end
section
set_option maxRecDepth 20000
open Go.RowKit
structure Sto (w:World) (d sg:Nat) (D G:List Nat) (m:Dsk) (s:Sp) (pg:Nat) (y:Xv) (k:Nat) (g mb:Nat) (v:Value) (n:Nat) (F:Nat→Nat):Prop where
 sp:Spz w d sg D G m s pg y k
 st:Sth w g sg mb v n F false
 ag:g∉G
 av:∀b,v.ownBlock=some b→b∉G
 ad:g∉D
 avd:∀b,v.ownBlock=some b→b∉D
section
variable {w w':World} {d sg pg k g mb n:Nat} {D G:List Nat} {m:Dsk} {s s':Sp} {y y':Xv} {v:Value} {F:Nat→Nat}
theorem Sto.below (h:Sto w d sg D G m s pg y k g mb v n F) (hb:Below w.heap.size w w'):Sto w' d sg D G m s pg y k g mb v n F:=
 ⟨h.sp.below hb,h.st.below hb,h.ag,h.av,h.ad,h.avd⟩
theorem Sto.chg (h:Sto w d sg D G m s pg y k g mb v n F) (hc:Chg G G w w') (hs:Spz w' d sg D G m s' pg y' k):Sto w' d sg D G m s' pg y' k g mb v n F:=
 ⟨hs,⟨(hc.block g h.st.lt h.ag).trans h.st.row,own_other h.st.own fun b hb=>hc.block b (World.ownsRow.lt h.st.own b hb).2 (h.av b hb),h.st.n64⟩,h.ag,h.av,h.ad,h.avd⟩
def readV (y:Xv) (l:Int):Value:=if thX y.now l=true then .tuple #[.string (strB (y.now l.toNat)),.int .i64 0] else .tuple #[.string ⟨#[]⟩,.int .i64 13]
set_option maxHeartbeats 800000 in
theorem Sto.read (h:Sto w d sg D G m s pg y k g mb v n F) (l:Int) (h0:-9223372036854775808≤l) (h1:l≤9223372036854775807) :
  Calls Tryz.prog 118 #[.pointer (some ⟨g,0,none⟩),.int .i64 l] w fun e w'=>e = .returned (readV y l)∧Below w.heap.size w w':=by
 have c0:=h.st.c0
 have HR:=Lib.hid (read_z h.sp l h0 h1)
 clear h
 cases ht:thX y.now l with
 | true=>
  have HV:Hid (readV y l = .tuple #[.string (strB (y.now l.toNat)),.int .i64 0]):=Lib.hid (if_pos ht)
  rw [if_pos ht] at HR
  clear ht
  go_enter Tryz.func118,Tryz.ntmps118
  go_wp2_with (go_at_call 35;with_reducible refine HR.out.mono ?_;rintro e w2 ⟨rfl,hb2⟩)
  go_ret2
  exact⟨by rw [HV.out];rfl,hb2⟩
 | false=>
  have HV:Hid (readV y l = .tuple #[.string ⟨#[]⟩,.int .i64 13]):=Lib.hid (if_neg (by rw [ht];decide))
  rw [if_neg (by rw [ht];decide)] at HR
  clear ht
  go_enter Tryz.func118,Tryz.ntmps118
  go_wp2_with (go_at_call 35;with_reducible refine HR.out.mono ?_;rintro e w2 ⟨rfl,hb2⟩)
  go_ret2
  exact⟨by rw [HV.out];rfl,hb2⟩
def sameE (y:Xv) (l:Int) (t:List Nat):Nat:=if thX y.now l=true∧y.now l.toNat=t then 0 else 13
set_option maxHeartbeats 800000 in
theorem Sto.same (h:Sto w d sg D G m s pg y k g mb v n F) (l:Int) (h0:-9223372036854775808≤l) (h1:l≤9223372036854775807) (T:ByteArray) (t:List Nat) (hT:IsS T t) :
  Calls Tryz.prog 62 #[.pointer (some ⟨g,0,none⟩),.int .i64 l,.string T] w fun e w'=>e = .returned (.int .i64 (sameE y l t:Nat))∧Below w.heap.size w w':=by
 have HR:=Lib.hid (h.read l h0 h1)
 have hpg:=fun ht:thX y.now l=true=>h.sp.page (th_lt ht).1 (by have:=ht;rw [←(th_lt ht).2.2,th_nat (th_lt ht).1] at this;exact this)
 clear h
 cases ht:thX y.now l with
 | false=>
  have HV:Hid (sameE y l t=13):=Lib.hid (if_neg (by rw [ht];exact fun h=>by cases h.1))
  have hv:readV y l = .tuple #[.string ⟨#[]⟩,.int .i64 13]:=if_neg (by rw [ht];decide)
  rw [hv] at HR
  clear ht hv hpg
  go_enter Tryz.func62,Tryz.ntmps62
  go_wp2_with (go_at_call 118;with_reducible refine HR.out.mono ?_;rintro e w2 ⟨rfl,hb2⟩)
  go_ret
  exact⟨by rw [HV.out];rfl,hb2⟩
 | true=>
  have hv:readV y l = .tuple #[.string (strB (y.now l.toNat)),.int .i64 0]:=if_pos ht
  have hS:IsS (strB (y.now l.toNat)) (y.now l.toNat):=IsS.mk_ _ (hpg ht).2
  rw [hv] at HR
  by_cases he:y.now l.toNat=t
  ·have HV:Hid (sameE y l t=0):=Lib.hid (if_pos ⟨ht,he⟩)
   have hb:=hS.yes hT he
   generalize strB (y.now l.toNat)=Y at *
   clear hv hpg ht he hS
   go_enter Tryz.func62,Tryz.ntmps62
   go_wp2_with (go_at_call 118;with_reducible refine HR.out.mono ?_;rintro e w2 ⟨rfl,hb2⟩)
   go_ret
   exact⟨by rw [HV.out];rfl,hb2⟩
  ·have HV:Hid (sameE y l t=13):=Lib.hid (if_neg fun h=>he h.2)
   have hb:=hS.no hT he
   generalize strB (y.now l.toNat)=Y at *
   clear hv hpg ht he hS
   go_enter Tryz.func62,Tryz.ntmps62
   go_wp2_with (go_at_call 118;with_reducible refine HR.out.mono ?_;rintro e w2 ⟨rfl,hb2⟩)
   go_ret
   exact⟨by rw [HV.out];rfl,hb2⟩
end
end
section
set_option maxRecDepth 20000
open Go.RowKit
theorem put_put (y:Xv) (l:Nat) (a b:List Nat):(y.put l a).put l b=y.put l b:=by
 unfold Xv.put
 simp only [Xv.mk.injEq,true_and,and_true]
 exact⟨by funext k;by_cases h:k=l <;> simp [h],by funext k;by_cases h:k=l <;> simp [h]⟩
section
variable {w w':World} {d sg pg k g mb n:Nat} {D G:List Nat} {m:Dsk} {s s':Sp} {y y':Xv} {v:Value} {F:Nat→Nat}
set_option maxHeartbeats 1600000 in
theorem Sto.newPage (h:Sto w d sg D G m s pg y k g mb v n F) (l:Nat) (hl:gapF (nn y.now) 512 0=some l) (t:List Nat) (ht:t.length=512∧∀x∈t,x<256) :
  Calls Tryz.prog 104 #[.pointer (some ⟨g,0,none⟩),.string (strB t)] w fun e w'=>e = .returned (.int .i64 (l:Int))∧(∃s',Sto w' d sg D G m s' pg (y.put l t) k g mb v n F)∧Chg G G w w':=by
 have c0:=h.st.c0
 have HA:=Lib.hid (alloc_z h.sp)
 have HH:=Lib.hid h
 have HPA:Hid (Calls Tryz.prog 22 #[.pointer (some ⟨sg,0,none⟩)] w fun e w1=>e = .returned (.tuple #[.int .i64 (l:Int),.int .i64 0])∧Hid (∃s',Sto w1 d sg D G m s' pg (y.put l zs512) k g mb v n F)∧w1.cell? ⟨g,0,none⟩=some (.pointer (some ⟨sg,0,none⟩))∧Hid (Chg G G w w1∧l<512)):=Lib.hid (HA.out.mono (by
  rintro e w1 ⟨hc | hc,hchg⟩
  ·obtain⟨l2,e2,hl2,rfl,s',hs'⟩:=hc
   rw [hl] at e2
   cases e2
   have h2:=HH.out.chg hchg hs'
   exact⟨rfl,Lib.hid ⟨s',h2⟩,h2.st.c0,Lib.hid ⟨hchg,hl2⟩⟩
  ·rw [hc.1] at hl;cases hl))
 clear h HA
 go_enter Tryz.func104,Tryz.ntmps104
 go_upto_region 2 with (go_at_call 22;with_reducible refine HPA.out.mono ?_;rintro e w1 ⟨rfl,HS1,c1,HC1⟩)
 obtain⟨s1,h1⟩:=HS1.out
 obtain⟨hc1,hl5⟩:=HC1.out
 have hth:thX (y.put l zs512).now (l:Int)=true:=by
  rw [th_nat hl5]
  show nn (fun k=>if k=l then zs512 else y.now k) l=true
  unfold nn
  simp only [if_true]
  rfl
 have HW:=Lib.hid (write_z h1.sp (l:Int) (by omega) (by omega) t ht)
 rw [if_pos hth,if_pos hth,Int.toNat_natCast,put_put] at HW
 have HPW:Hid (Calls Tryz.prog 36 #[.pointer (some ⟨sg,0,none⟩),.int .i64 (l:Int),.string (strB t)] w1 fun e w2=>e = .returned (.int .i64 0)∧Hid ((∃s',Sto w2 d sg D G m s' pg (y.put l t) k g mb v n F)∧Chg G G w w2)):=Lib.hid (HW.out.mono (by
  rintro e w2 ⟨rfl,⟨s2,hs2⟩,hchg⟩
  exact⟨rfl,Lib.hid ⟨⟨s2,h1.chg hchg hs2⟩,hc1.trans hchg⟩⟩))
 clear h1 hc1 hth HW HS1 HC1 HPA
 generalize strB t=T at *
 go_wp2_with (go_at_call 36;with_reducible refine HPW.out.mono ?_;rintro e w2 ⟨rfl,HS2⟩)
 go_ret
 exact⟨rfl,HS2.out⟩
end
end
section
set_option maxRecDepth 20000
open Go.RowKit
def needP (n:Nat) (num page:Int) (z:Nat):Nat:=pagesForN z+(if (n:Int)*128<num then 1 else 0)+(if page = -1 then 1 else 0)
theorem pagesForN_le (z:Nat):pagesForN z≤z:=by unfold pagesForN;split <;> omega
section
variable {w w':World} {d sg pg k g mb n:Nat} {D G:List Nat} {m:Dsk} {s s':Sp} {y y':Xv} {v:Value} {F:Nat→Nat}
set_option maxHeartbeats 1600000 in
theorem Sto.lacks (h:Sto w d sg D G m s pg y k g mb v n F) (num page:Int) (z:Nat) (hz:z≤1099511627776) :
  Calls Tryz.prog 53 #[.pointer (some ⟨g,0,none⟩),.int .i64 num,.int .i64 page,.int .i64 (z:Int)] w fun e w'=>e = .returned (.bool (decide ((512:Int) - (Bi.cnt (nn y.now) 512:Nat)<(needP n num page z:Nat))))∧Below w.heap.size w w':=by
 have c0:=h.st.c0
 have HP:=Lib.hid (pagesFor_any z w (by omega))
 have HL:=Lib.hid (h.st.lacksPart num)
 have HN:=Lib.hid (len_z h.sp)
 have hq:=pagesForN_le z
 have hcn:Bi.cnt (nn y.now) 512≤512:=Bi.cnt_le _ _
 unfold needP
 clear h
 generalize Bi.cnt (nn y.now) 512=c at *
 generalize pagesForN z=p at *
 have hcI:(c:Int)≤512:=by omega
 have hpI:(p:Int)≤1099511627776:=by omega
 by_cases h1:(n:Int)*128<num
 ·rw [if_pos h1]
  rw [decide_eq_true h1] at HL
  by_cases h2:page = -1
  ·subst h2
   rw [if_pos rfl]
   have e1:((p+1+1:Nat):Int)=(p:Int)+1+1:=by omega
   rw [e1]
   clear h1 e1
   go_enter Tryz.func53,Tryz.ntmps53
   go_wp2_with (first
    | (go_at_call 97;with_reducible refine HP.out.mono ?_;rintro e w2 ⟨rfl,rfl⟩)
    | (go_at_call 98;with_reducible refine HL.out.mono ?_;rintro e w2 ⟨rfl,rfl⟩)
    | (go_at_call 23;with_reducible refine HN.out.mono ?_;rintro e w2 ⟨rfl,hb2⟩))
   go_ret
   exact⟨rfl,hb2⟩
  ·have d2:(page == -1)=false:=by rw [beq_eq_false_iff_ne];exact h2
   rw [if_neg h2]
   have e1:((p+1+0:Nat):Int)=(p:Int)+1:=by omega
   rw [e1]
   clear h1 h2 e1
   go_enter Tryz.func53,Tryz.ntmps53
   go_wp2_with (first
    | (go_at_call 97;with_reducible refine HP.out.mono ?_;rintro e w2 ⟨rfl,rfl⟩)
    | (go_at_call 98;with_reducible refine HL.out.mono ?_;rintro e w2 ⟨rfl,rfl⟩)
    | (go_at_call 23;with_reducible refine HN.out.mono ?_;rintro e w2 ⟨rfl,hb2⟩))
   go_ret
   exact⟨rfl,hb2⟩
 ·rw [if_neg h1]
  rw [decide_eq_false h1] at HL
  by_cases h2:page = -1
  ·subst h2
   rw [if_pos rfl]
   have e1:((p+0+1:Nat):Int)=(p:Int)+1:=by omega
   rw [e1]
   clear h1 e1
   go_enter Tryz.func53,Tryz.ntmps53
   go_wp2_with (first
    | (go_at_call 97;with_reducible refine HP.out.mono ?_;rintro e w2 ⟨rfl,rfl⟩)
    | (go_at_call 98;with_reducible refine HL.out.mono ?_;rintro e w2 ⟨rfl,rfl⟩)
    | (go_at_call 23;with_reducible refine HN.out.mono ?_;rintro e w2 ⟨rfl,hb2⟩))
   go_ret
   exact⟨rfl,hb2⟩
  ·have d2:(page == -1)=false:=by rw [beq_eq_false_iff_ne];exact h2
   rw [if_neg h2]
   have e1:((p+0+0:Nat):Int)=(p:Int):=by omega
   rw [e1]
   clear h1 h2 e1
   go_enter Tryz.func53,Tryz.ntmps53
   go_wp2_with (first
    | (go_at_call 97;with_reducible refine HP.out.mono ?_;rintro e w2 ⟨rfl,rfl⟩)
    | (go_at_call 98;with_reducible refine HL.out.mono ?_;rintro e w2 ⟨rfl,rfl⟩)
    | (go_at_call 23;with_reducible refine HN.out.mono ?_;rintro e w2 ⟨rfl,hb2⟩))
   go_ret
   exact⟨rfl,hb2⟩
end
end
section
set_option maxRecDepth 20000
open Go.RowKit
def partB (F:Nat→Nat) (i:Nat):List Nat:=pageT (spsB (fun j=>F (i*129+1+j)) 128)
theorem partB_ok (F:Nat→Nat) (i:Nat):(partB F i).length=512∧∀x∈partB F i,x<256:=
 ⟨pageT_len (by rw [spsB_len];omega),pageT_dig (spsB_dig _ _)⟩
theorem ints_set (F:Nat→Nat) (N j x:Nat):(Tb.ints F 0 N).set j (.int .i64 (x:Int))=Tb.ints (Tb.updN F j x) 0 N:=by
 have h:=congrArg Array.toList (Tb.rowA_set F N j x)
 unfold Tb.rowA at h
 rw [Array.set!_eq_setIfInBounds,Array.toList_setIfInBounds] at h
 exact h
section
variable {w w':World} {d sg pg k g mb n:Nat} {D G:List Nat} {m:Dsk} {s s':Sp} {y y':Xv} {v:Value} {F:Nat→Nat}
theorem Sto.put (h:Sto w d sg D G m s pg y k g mb v n F) {b:Nat} (hb:v.ownBlock=some b) (j x:Nat) :
  Sto (w.setCell ⟨b,j,none⟩ (.int .i64 (x:Int))) d sg D G m s pg y k g mb v n (Tb.updN F j x)∧Chg [b] [b] w (w.setCell ⟨b,j,none⟩ (.int .i64 (x:Int))):=by
 have hc:Chg [b] [b] w (w.setCell ⟨b,j,none⟩ (.int .i64 (x:Int))):=⟨rfl,rfl,rfl,by simp,fun i _ hi=>heap_setCell_other w ⟨b,j,none⟩ i _ (by simpa using hi),fun _ h=>.inl h⟩
 obtain⟨g2,cap,cur,e,hb2,hh,h1,h2,h3,h4⟩:∃g2 cap cur,v = .slice (some ⟨g2,0,none⟩) n cap∧0≤g2∧w.heap[g2]?=some (.cells cur 82 (0,0))∧n≤cap∧cap≤maxLen∧cur.size=cap*129∧cur.toList.take (n*129)=Tb.ints F 0 (n*129):=by
  rcases h.st.own.2 with ⟨e,hn⟩ | ⟨g2,cap,cur,e,r⟩
  ·rw [e] at hb;cases hb
  ·exact⟨g2,cap,cur,e,r⟩
 have hgb:g2=b:=by rw [e] at hb;cases hb;rfl
 subst hgb
 have hne:g≠g2:=fun e1=>by
  have:=h.st.row
  rw [e1,hh] at this
  cases this
 have hk:Kin w [g2]:=fun i hi=>by
  cases List.mem_singleton.1 hi
  exact .inr ⟨_,_,_,hh,by simp⟩
 refine⟨⟨h.sp.stay hc hk (fun i hi hj=>h.avd g2 hb (by cases List.mem_singleton.1 hj;exact hi)) (fun i hi hj=>h.av g2 hb (by cases List.mem_singleton.1 hj;exact hi)),⟨(heap_setCell_other w ⟨g2,j,none⟩ g _ hne).trans h.st.row,?_,h.st.n64⟩,h.ag,h.av,h.ad,h.avd⟩,hc⟩
 have ho:=h.st.own
 unfold OwnP at ho ⊢
 rw [←ints_set]
 rw [e] at ho ⊢
 exact(ho.stored j _).1
end
end
section
set_option maxRecDepth 20000
open Go.RowKit
theorem chg_moreY {K K2 L:List Nat} {w w':World} (h:Chg K K2 w w') (hF:∀k∈K,k∈L):Chg L L w w':=
 ⟨h.os,h.tape,h.output,h.size,fun k hk hn=>h.block k hk (fun e=>hn (hF k e)),fun _ h=>.inl h⟩
section
variable {w w':World} {d sg pg k g mb n:Nat} {D G:List Nat} {m:Dsk} {s s':Sp} {y y':Xv} {v:Value} {F:Nat→Nat}
set_option maxHeartbeats 3200000 in
theorem Sto.tell (h:Sto w d sg D G m s pg y k g mb v n F) (i x:Nat) (hi:i<n*128) (hF:∀j,j<n*129→F j≤1099511627776) (hx:x≤1099511627776) (hth:thX y.now ((F (i / 128*129):Nat):Int)=true) :
  Calls Tryz.prog 60 #[.pointer (some ⟨g,0,none⟩),.int .i64 ((i:Int)+1),.int .i64 (x:Int)] w fun e w'=>e = .returned (.tuple #[]) ∧
   (∃s',Sto w' d sg D G m s' pg (y.put (F (i / 128*129)) (partB (Tb.updN F (i / 128*129+1+i % 128) x) (i / 128))) k g mb v n (Tb.updN F (i / 128*129+1+i % 128) x)) ∧
   ∃K,(∀j∈K,j∈G∨v.ownBlock=some j)∧Chg K K w w':=by
 have HPL:=Lib.hid (placeOf_any i w (by have:=h.st.n64;omega))
 have hq1:i / 128<n:=by omega
 have hq2:i % 128<128:=Nat.mod_lt _ (by decide)
 have h64:=h.st.n64
 obtain⟨p,c,rfl,hp⟩:=h.st.own.form
 obtain⟨b,rfl,hbl,hcell⟩:=hp (by omega)
 obtain⟨I,hI⟩:∃I:Int,(i:Int)+1=I:=⟨_,rfl⟩
 rw [hI] at HPL ⊢
 clear hI hp
 generalize i / 128=q at *
 generalize i % 128=r at *
 have hin:q*129+129≤n*129:=by have:=Nat.mul_le_mul_right 129 (show q+1≤n by omega);omega
 have c1:=h.st.c1
 have hcl:=hcell (q*129+1+r) (by omega)
 have hfz:w.frozen? ⟨b,q*129+1+r,none⟩=false:=(World.ownsRow.frozenAt h.st.own _)
 obtain⟨h1,hc1⟩:=h.put rfl (q*129+1+r) x
 have hFq:Tb.updN F (q*129+1+r) x (q*129)=F (q*129):=Tb.updN_other _ _ _ _ (by omega)
 have hpb:F (q*129)≤1099511627776:=hF _ (by omega)
 have hFb2:∀j,j<128→Tb.updN F (q*129+1+r) x (q*129+1+j)≤1099511627776:=fun j hj=>by
  by_cases e:q*129+1+j=q*129+1+r
  ·rw [e,Tb.updN_same];exact hx
  ·rw [Tb.updN_other _ _ _ _ e];exact hF _ (by omega)
 have H:=Lib.hid h
 clear h hcell hF hx
 generalize hF':Tb.updN F (q*129+1+r) x=F' at *
 generalize hW1:w.setCell ⟨b,q*129+1+r,none⟩ (.int .i64 (x:Int))=W1 at *
 have hq1I:(q:Int)<(n:Int):=by omega
 have hq2I:(r:Int)<128:=by omega
 have h64I:(n:Int)≤64:=by omega
 have HW1:=Lib.hid hW1
 clear hF'
 go_enter Tryz.func60,Tryz.ntmps60
 go_upto_region 2 with (go_at_call 113;with_reducible refine HPL.out.mono ?_;rintro e w7 ⟨rfl,rfl⟩)
 clear hW1 c1 hcl hfz HPL hbl hq2I hi hq2
 have HRD:Hid (∀w2 s2 y2,Sto w2 d sg D G m s2 pg y2 k g mb (.slice (some ⟨b,0,none⟩) n c) n F'→w2.cell? ⟨g,0,none⟩=some (.pointer (some ⟨sg,0,none⟩))∧w2.cell? ⟨g,1,none⟩=some (.slice (some ⟨b,0,none⟩) n c)∧w2.cell? ⟨b,q*129,none⟩=some (.int .i64 ((F (q*129):Nat):Int))∧w2.rangeAt b (q*129) (Tb.ints F' (q*129) 129)):=Lib.hid fun w2 s2 y2 h2=>by
  obtain⟨p2,c2,e2,hp2⟩:=h2.st.own.form
  cases e2
  obtain⟨b2,e3,-,hce⟩:=hp2 (by omega)
  cases e3
  refine⟨h2.st.c0,h2.st.c1,?_,range_of_cells hce hin⟩
  rw [hce _ (by omega),hFq]
 have HPT:Hid (∀w2,Calls Tryz.prog 114 #[.agg (Tb.ints F' (q*129) 129).toArray] w2 fun e w'=>e = .returned (.string (strB (partB F' q)))∧Below w2.heap.size w2 w'):=Lib.hid fun w2=>by
  have:=partText_any (F' (q*129)) (fun j=>F' (q*129+1+j)) w2 hFb2
  rw [partL_ints] at this
  exact this
 have HWR:Hid (∀w5,Below W1.heap.size W1 w5→Calls Tryz.prog 36 #[.pointer (some ⟨sg,0,none⟩),.int .i64 ((F (q*129):Nat):Int),.string (strB (partB F' q))] w5 fun e w6=>e = .returned (.int .i64 0)∧Hid ((∃s',Sto w6 d sg D G m s' pg (y.put (F (q*129)) (partB F' q)) k g mb (.slice (some ⟨b,0,none⟩) n c) n F')∧Chg (b :: G) (b :: G) w w6)):=Lib.hid fun w5 hb5=>by
  have h5:=h1.below hb5
  have hw:=write_z h5.sp ((F (q*129):Nat):Int) (by omega) (by omega) (partB F' q) (partB_ok F' q)
  rw [if_pos hth,if_pos hth,Int.toNat_natCast] at hw
  refine hw.mono ?_
  rintro e w6 ⟨rfl,⟨s6,hs6⟩,hchg⟩
  refine⟨rfl,Lib.hid ⟨⟨s6,h5.chg hchg hs6⟩,?_⟩⟩
  have q1:Chg (b :: G) (b :: G) w W1:=chg_moreY hc1 (fun j hj=>by cases List.mem_singleton.1 hj;exact List.mem_cons_self ..)
  have q2:Chg (b :: G) (b :: G) W1 w5:=Chg.of_below hb5
  exact(q1.trans q2).trans (chg_moreY hchg (fun j hj=>List.mem_cons_of_mem _ hj))
 have HS1:=Lib.hid (HRD.out W1 s y h1)
 have H1:=Lib.hid h1
 have hqI0:(0:Int)≤(q:Int):=by omega
 have HSR:Hid ((Tryz.prog.info? 82).map (·.size)=some (Tb.ints F' (q*129) 129).length):=Lib.hid (by rw [sizePart,Tb.ints_len])
 clear h1 hc1 hth hFq hFb2 hpb hin h64 H HW1
 generalize strB (partB F' q)=T at *
 obtain⟨pgn,hpgn⟩:∃p,F (q*129)=p:=⟨_,rfl⟩
 have HPG:=Lib.hid hpgn
 rw [hpgn] at HWR HRD HS1
 clear hpgn
 obtain⟨a0,a1,a2,a3⟩:W1.drew.cell? ⟨g,0,none⟩=some (.pointer (some ⟨sg,0,none⟩))∧W1.drew.cell? ⟨g,1,none⟩=some (.slice (some ⟨b,0,none⟩) n c)∧W1.drew.cell? ⟨b,q*129,none⟩=some (.int .i64 (pgn:Int))∧W1.drew.rangeAt b (q*129) (Tb.ints F' (q*129) 129):=HRD.out W1.drew s y (H1.out.below (Below.refl _ _).drew)
 generalize Tb.ints F' (q*129) 129=Y at *
 refine wp_region_held_drew (S:=(fun u:World=>u.cell? ⟨g,0,none⟩=some (.pointer (some ⟨sg,0,none⟩))∧u.cell? ⟨g,1,none⟩=some (.slice (some ⟨b,0,none⟩) n c)∧u.cell? ⟨b,q*129,none⟩=some (.int .i64 (pgn:Int))∧u.rangeAt b (q*129) Y)) (by kernel_rfl) ⟨a0,a1,a2,a3⟩ (fun hHeld=>?_)
 refine wpAnyH_take (i:=0) (v:=?_) rfl (by kernel_rfl) (by kernel_rfl) (by kernel_rfl) (fun _ _ _ h=>h) (Or.inl ⟨by rfl,?_⟩) (by assumption) ?_
 rotate_left
 ·intro w hSw
  try dsimp only at hSw
  go_simp
  try with_reducible rfl
 try simp only [Act.put,List.setIfInBounds_toArray,List.set_cons_zero,List.set_cons_succ]
 refine wpAnyH_take (i:=1) (v:=?_) rfl (by kernel_rfl) (by kernel_rfl) (by kernel_rfl) (fun _ _ _ h=>h) (Or.inl ⟨by rfl,?_⟩) (by assumption) ?_
 rotate_left
 ·intro w hSw
  try dsimp only at hSw
  go_simp
  try with_reducible rfl
 try simp only [Act.put,List.setIfInBounds_toArray,List.set_cons_zero,List.set_cons_succ]
 refine wpAnyH_take (i:=2) (v:=?_) rfl (by kernel_rfl) (by kernel_rfl) (by kernel_rfl) (fun _ _ _ h=>h) (Or.inl ⟨by rfl,?_⟩) (by assumption) ?_
 rotate_left
 ·intro w hSw
  try dsimp only at hSw
  go_simp
  try with_reducible rfl
 try simp only [Act.put,List.setIfInBounds_toArray,List.set_cons_zero,List.set_cons_succ]
 refine wpAnyH_take (i:=3) (v:=?_) rfl (by kernel_rfl) (by kernel_rfl) (by kernel_rfl) (fun _ _ _ h=>h) (Or.inl ⟨by rfl,?_⟩) (by assumption) ?_
 rotate_left
 ·intro w hSw
  try dsimp only at hSw
  go_simp
  try with_reducible rfl
 try simp only [Act.put,List.setIfInBounds_toArray,List.set_cons_zero,List.set_cons_succ]
 refine wpAnyH_take (i:=4) (v:=?_) rfl (by kernel_rfl) (by kernel_rfl) (by kernel_rfl) (fun _ _ _ h=>h) (Or.inl ⟨by rfl,?_⟩) (by assumption) ?_
 rotate_left
 ·intro w hSw
  try dsimp only at hSw
  go_simp
  try with_reducible rfl
 try simp only [Act.put,List.setIfInBounds_toArray,List.set_cons_zero,List.set_cons_succ]
 refine wpAnyH_take (i:=5) (v:=?_) rfl (by kernel_rfl) (by kernel_rfl) (by kernel_rfl) (fun _ _ _ h=>h) (Or.inl ⟨by rfl,?_⟩) (by assumption) ?_
 rotate_left
 ·intro w hSw
  try dsimp only at hSw
  go_simp
  try with_reducible rfl
 try simp only [Act.put,List.setIfInBounds_toArray,List.set_cons_zero,List.set_cons_succ]
 refine wpAnyH_take (i:=6) (v:=?_) rfl (by kernel_rfl) (by kernel_rfl) (by kernel_rfl) (fun _ _ _ h=>h) (Or.inl ⟨by rfl,?_⟩) (by assumption) ?_
 rotate_left
 ·intro w hSw
  try dsimp only at hSw
  go_simp
  try with_reducible rfl
 try simp only [Act.put,List.setIfInBounds_toArray,List.set_cons_zero,List.set_cons_succ]
 refine wpAnyH_take (i:=7) (v:=?_) rfl (by kernel_rfl) (by kernel_rfl) (by kernel_rfl) (fun _ _ _ h=>h) (Or.inl ⟨by rfl,?_⟩) (by assumption) ?_
 rotate_left
 ·intro w hSw
  try dsimp only at hSw
  go_simp
  try with_reducible rfl
 try simp only [Act.put,List.setIfInBounds_toArray,List.set_cons_zero,List.set_cons_succ]
 refine wpAnyH_take (i:=8) (v:=?_) rfl (by kernel_rfl) (by kernel_rfl) (by kernel_rfl) (fun _ _ _ h=>h) (Or.inl ⟨by rfl,?_⟩) (by assumption) ?_
 rotate_left
 ·intro w hSw
  try dsimp only at hSw
  go_simp
  try with_reducible rfl
 try simp only [Act.put,List.setIfInBounds_toArray,List.set_cons_zero,List.set_cons_succ]
 refine wpAnyH_take (i:=9) (v:=?_) rfl (by kernel_rfl) (by kernel_rfl) (by kernel_rfl) (fun _ _ _ h=>h) (Or.inl ⟨by rfl,?_⟩) (by assumption) ?_
 rotate_left
 ·intro w hSw
  try dsimp only at hSw
  go_simp
  try with_reducible rfl
 try simp only [Act.put,List.setIfInBounds_toArray,List.set_cons_zero,List.set_cons_succ]
 refine wpAnyH_take (i:=10) (v:=?_) rfl (by kernel_rfl) (by kernel_rfl) (by kernel_rfl) (fun _ _ _ h=>h) (Or.inl ⟨by rfl,?_⟩) (by assumption) ?_
 rotate_left
 ·intro w hSw
  try dsimp only at hSw
  go_simp
  try with_reducible rfl
 try simp only [Act.put,List.setIfInBounds_toArray,List.set_cons_zero,List.set_cons_succ]
 refine wpAnyH_take (i:=11) (v:=?_) rfl (by kernel_rfl) (by kernel_rfl) (by kernel_rfl) (fun _ _ _ h=>h) (Or.inl ⟨by rfl,?_⟩) (by assumption) ?_
 rotate_left
 ·intro w hSw
  try dsimp only at hSw
  go_simp
  try with_reducible rfl
 try simp only [Act.put,List.setIfInBounds_toArray,List.set_cons_zero,List.set_cons_succ]
 refine wpAnyH_take (i:=12) (v:=?_) rfl (by kernel_rfl) (by kernel_rfl) (by kernel_rfl) (fun _ _ _ h=>h) (Or.inl ⟨by rfl,?_⟩) (by assumption) ?_
 rotate_left
 ·intro w hSw
  try dsimp only at hSw
  go_simp
  try with_reducible rfl
 try simp only [Act.put,List.setIfInBounds_toArray,List.set_cons_zero,List.set_cons_succ]
 refine wpAnyH_take (i:=13) (v:=?_) rfl (by kernel_rfl) (by kernel_rfl) (by kernel_rfl) (fun _ _ _ h=>h) (Or.inl ⟨by rfl,?_⟩) (by assumption) ?_
 rotate_left
 ·intro w hSw
  try dsimp only at hSw
  go_simp
  try with_reducible rfl
 try simp only [Act.put,List.setIfInBounds_toArray,List.set_cons_zero,List.set_cons_succ]
 refine wpAnyH_take (i:=14) (v:=?_) rfl (by kernel_rfl) (by kernel_rfl) (by kernel_rfl) (fun _ _ _ h=>h) (Or.inl ⟨by rfl,?_⟩) (by assumption) ?_
 rotate_left
 ·intro w hSw
  try dsimp only at hSw
  go_simp
  try with_reducible rfl
 try simp only [Act.put,List.setIfInBounds_toArray,List.set_cons_zero,List.set_cons_succ]
 refine wpAnyH_take (i:=15) (v:=?_) rfl (by kernel_rfl) (by kernel_rfl) (by kernel_rfl) (fun _ _ _ h=>h) (Or.inl ⟨by rfl,?_⟩) (by assumption) ?_
 rotate_left
 ·intro w hSw
  try dsimp only at hSw
  go_simp
  try with_reducible rfl
 try simp only [Act.put,List.setIfInBounds_toArray,List.set_cons_zero,List.set_cons_succ]
 refine wpAnyH_take (i:=16) (v:=?_) rfl (by kernel_rfl) (by kernel_rfl) (by kernel_rfl) (fun _ _ _ h=>h) (Or.inl ⟨by rfl,?_⟩) (by assumption) ?_
 rotate_left
 ·intro w hSw
  try dsimp only at hSw
  go_simp
  try with_reducible rfl
 try simp only [Act.put,List.setIfInBounds_toArray,List.set_cons_zero,List.set_cons_succ]
 refine wpAnyH_take (i:=17) (v:=?_) rfl (by kernel_rfl) (by kernel_rfl) (by kernel_rfl) (fun _ _ _ h=>h) (Or.inl ⟨by rfl,?_⟩) (by assumption) ?_
 rotate_left
 ·intro w hSw
  try dsimp only at hSw
  go_simp
  try with_reducible rfl
 try simp only [Act.put,List.setIfInBounds_toArray,List.set_cons_zero,List.set_cons_succ]
 refine wpAnyH_take (i:=18) (oi:={ dst:=some 41,op:=Op.load 82 (Operand.tmp 40),type:=82,pos:="pages.go:107",after:=#[{ on:=17,ground:=Ground.data }],guard:=none }) (v:=.agg Y.toArray) (by kernel_rfl) (by kernel_rfl) (by kernel_rfl) (by kernel_rfl) (fun _ _ _ h=>h) (yieldsIf_load_mid (by kernel_rfl) 82 (.tmp 40) rfl b (q*129) (by kernel_rfl) Y _ (fun w h=>h.2.2.2) Tryz.underlying82 rfl HSR.out) (by assumption) ?_
 try simp only [Act.put,List.setIfInBounds_toArray,List.set_cons_zero,List.set_cons_succ]
 refine wpAnyH_ready (rs:=[19]) (by kernel_rfl) (by simp) ?_
 refine AllReadyH.cons rfl (fun K hK=>?_) AllReadyH.nil
 go_simp
 go_wp2_with ((go_at_call 114;refine(HPT.out _).mono ?_;rintro e w5 ⟨rfl,hb5⟩;have hk5:Below W1.heap.size W1 w5:=(Below.refl _ _).drew.trans hb5;have hS5:=HRD.out w5 s y (H1.out.below hk5)))
 refine hK.out _ _ hS5 (fun hHeld=>?_)
 clear hK K
 refine wpAnyH_ready (rs:=[20]) (by kernel_rfl) (by simp) ?_
 refine AllReadyH.cons rfl (fun K hK=>?_) AllReadyH.nil
 go_simp
 go_wp2_with (go_at_call 36;with_reducible refine(HWR.out _ hk5).mono ?_;rintro e w6 ⟨rfl,HS6⟩;obtain⟨⟨s6,h6⟩,-⟩:=HS6.out;have hS6:=HRD.out w6 s6 _ h6;clear h6)
 refine hK.out _ _ hS6 (fun hHeld=>?_)
 clear hK K
 refine wpAnyH_done (by kernel_rfl) ?_ _
 go_end0
 have h6:=HS6.out
 rw [HPG.out]
 exact⟨rfl,h6.1,b :: G,fun j hj=>(List.mem_cons.1 hj).elim (fun e=>.inr (by rw [e];rfl)) .inl,h6.2⟩
end
end
section
set_option maxRecDepth 20000
open Go.RowKit Go.Maps Go.MapKept
open Go.WideElems (rd rg pl rd_key rd_val rg_of rd_mk)
open Go.ChangeMaps (notKey putKey delKey setBlock heap_setBlock_same heap_setBlock_other mem_insert_iff)
open Go.WideShapes (sorted_perm)
def contRm (v:Value):Option (DataW Unit × List MemPlace):=
 match v with
 | .int k a=>some (.lit (.int k a),[])
 | _=>none
abbrev datORm (s:Int):DataW Unit:=DataW.lit (.int .i64 s)
theorem contRm_mk (s:Int):contRm (.int .i64 s)=some (datORm s,[]):=rfl
abbrev Rmf:=Nat→Option Int
def Rmf.at_ (f:Rmf) (x:Int):Option Int:=if 0≤x then f x.toNat else none
def Rmf.put (f:Rmf) (l:Nat) (s:Int):Rmf:=fun j=>if j=l then some s else f j
theorem Rmf.put_same (f:Rmf) (l:Nat) (s:Int):f.put l s l=some s:=if_pos rfl
theorem Rmf.put_other (f:Rmf) (l j:Nat) (s:Int) (h:j≠l):f.put l s j=f j:=if_neg h
structure Rmm (w:World) (b:Nat) (es:Array MapEntry) (clock:Nat) (f:Rmf):Prop where
 hb:w.heap[b]?=some (.map es clock)
 fit:WideElems.Fit Tryz.prog 3 contRm es clock
 only:∀x∈es.toList,∃(l:Nat) (s:Int),l<512∧x.key = .int .i64 (l:Int)∧x.val = .int .i64 s∧f l=some s
 all:∀(l:Nat) (s:Int),f l=some s→l<512∧∃x∈es.toList,x.key = .int .i64 (l:Int)
def Rms (w:World) (b:Nat) (f:Rmf):Prop:=∃es clock,Rmm w b es clock f
section
variable {w w':World} {b:Nat} {f:Rmf}
theorem Rms.lt (h:Rms w b f):b<w.heap.size:=by
 obtain⟨es,clock,h⟩:=h
 exact(Array.getElem?_eq_some_iff.1 h.hb).1
theorem Rms.same (h:Rms w b f) (hb:w'.heap[b]?=w.heap[b]?):Rms w' b f:=by
 obtain⟨es,clock,h⟩:=h
 exact⟨es,clock,hb.trans h.hb,h.fit,h.only,h.all⟩
theorem Rms.below (h:Rms w b f) (hb:Below w.heap.size w w'):Rms w' b f:=h.same (hb.block b h.lt)
theorem Rms.isMap (h:Rms w b f):∃es c,w.heap[b]?=some (.map es c):=by
 obtain⟨es,clock,h⟩:=h
 exact⟨es,clock,h.hb⟩
theorem Rms.high (h:Rms w b f) {l:Nat} {s:Int} (hl:f l=some s):l<512:=by
 obtain⟨es,clock,h⟩:=h
 exact(h.all l s hl).1
theorem Rms.made (w:World):Rms (w.alloc (.map #[] 0)) w.heap.size (fun _=>none):=
 ⟨#[],0,(MapKept.heap_alloc w _).1,⟨by simp,stamped_empty 0,by simp⟩,by simp,fun l s h=>by cases h⟩
theorem Rms.look1 (h:Rms w b f) (l:Nat) (s:Int) (hl:f l=some s) :
  (Instr.lookup 76 (.map (some b)) (.int .i64 (l:Int)) false).run Tryz.prog w = .ok (.int .i64 s) w:=by
 have hlt:=h.high hl
 obtain⟨es,clock,h⟩:=h
 have hz:(zeroValue 3).run Tryz.prog w = .ok (.int .i64 0) w:=by rw [Tryz.zeroValue3]
 rcases fit_look false keyedI Tryz.underlying76 hz h.hb h.fit (keyI (x:=(l:Int)) (by omega) (by omega)) with ⟨hrun,hno,_⟩ | ⟨e0,y,he,hk,hrun,_⟩
 ·obtain⟨_,e,he,hk⟩:=h.all _ s hl
  exact absurd hk (hno e he)
 ·obtain⟨l2,s2,_,hk2,hv,hf⟩:=h.only e0 he
  rw [hk] at hk2
  have hx:(l:Int)=(l2:Int):=by injection hk2
  have hx2:l=l2:=by omega
  subst hx2
  rw [hl] at hf
  cases hf
  rw [hrun,hv];rfl
end
theorem Rmm.nodup {w:World} {b:Nat} {es:Array MapEntry} {clock:Nat} {f:Rmf} (h:Rmm w b es clock f):es.toList.Pairwise (fun x y=>x.key≠y.key):=((stamped_iff es clock).1 h.fit.stamped).2.2
theorem Rmm.keyN {w:World} {b:Nat} {es:Array MapEntry} {clock:Nat} {f:Rmf} (h:Rmm w b es clock f) {x:MapEntry} (hx:x∈es.toList):x.key = .int .i64 ((Go.Proofs.YtmbecjlioogbhaaGreatDoor.keyN x:Nat):Int):=by
 obtain⟨l,s,_,hk,_⟩:=h.only x hx
 unfold Go.Proofs.YtmbecjlioogbhaaGreatDoor.keyN
 rw [hk];simp
def Rmf.keys (f:Rmf):List Nat:=(List.range 512).filter fun l=>(f l).isSome
theorem Rmf.mem_keys {f:Rmf} {l:Nat}:l∈f.keys↔l<512∧(f l).isSome=true:=by
 unfold Rmf.keys;rw [List.mem_filter,List.mem_range]
theorem Rmm.perm {w:World} {b:Nat} {es:Array MapEntry} {clock:Nat} {f:Rmf} (h:Rmm w b es clock f):(es.toList.map Go.Proofs.YtmbecjlioogbhaaGreatDoor.keyN).Perm f.keys:=by
 have n1:(es.toList.map Go.Proofs.YtmbecjlioogbhaaGreatDoor.keyN).Nodup:=by
  unfold List.Nodup
  rw [List.pairwise_map]
  exact h.nodup.imp_of_mem fun {a b} ha hb hab e=>hab (by rw [h.keyN ha,h.keyN hb,e])
 have n2:f.keys.Nodup:=List.nodup_range.filter _
 refine(List.perm_ext_iff_of_nodup n1 n2).2 fun l=>?_
 rw [Rmf.mem_keys,List.mem_map]
 constructor
 ·rintro ⟨x,hx,rfl⟩
  obtain⟨l,s,hl,hk,_,hf⟩:=h.only x hx
  have e:=h.keyN hx
  rw [hk] at e
  have e2:l=Go.Proofs.YtmbecjlioogbhaaGreatDoor.keyN x:=by injection e with _ e3;omega
  rw [←e2]
  exact⟨hl,by rw [hf];rfl⟩
 ·rintro ⟨hl,hs⟩
  obtain⟨s,hs⟩:=Option.isSome_iff_exists.1 hs
  obtain⟨_,x,hx,hk⟩:=h.all l s hs
  refine⟨x,hx,?_⟩
  have e:=h.keyN hx
  rw [hk] at e
  injection e with _ e3;omega
theorem Rmm.size {w:World} {b:Nat} {es:Array MapEntry} {clock:Nat} {f:Rmf} (h:Rmm w b es clock f):es.size=f.keys.length:=by
 rw [←h.perm.length_eq,List.length_map];simp
theorem Rmf.keys_le (f:Rmf):f.keys.length≤512:=by
 unfold Rmf.keys
 exact Nat.le_trans (List.length_filter_le _ _) (by simp)
section
variable {w:World} {b:Nat} {f:Rmf}
theorem Rms.len (h:Rms w b f) (ty:TypeId):(Builtin.len_ #[76] ty #[.map (some b)]).run Tryz.prog w = .ok (.int .i64 (f.keys.length:Int)) w:=by
 obtain⟨es,clock,h⟩:=h
 rw [←h.size]
 simp [Builtin.len_,run_underlying Tryz.underlying76,MapKept.run_getObj_map h.hb,goInt,Result.andThen]
theorem Rms.owns (h:Rms w b f):∃D:DataW Unit,w.ownsMap Tryz.prog 3 contRm b 512 D∧∃es clock,Rmm w b es clock f∧D = .map ((es.toList.map (rg Tryz.prog 3 contRm)).foldr DataW.insert []):=by
 obtain⟨es,clock,h⟩:=h
 exact⟨_,⟨es,clock,h.hb,h.fit,by rw [h.size];exact f.keys_le,rfl⟩,es,clock,h,rfl⟩
theorem Rms.store (h:Rms w b f) (l:Nat) (s:Int) (hl:l<512) :
  ∃w',(Instr.mapUpdate 76 (.map (some b)) (.int .i64 (l:Int)) (.int .i64 s)).run Tryz.prog w = .ok () w'∧Rms w' b (f.put l s)∧Only b w w':=by
 obtain⟨es,clock,h⟩:=h
 have hkey:=keyI (x:=(l:Int)) (by omega) (by omega)
 have hroom:es.size<maxLen:=by rw [h.size];have:=f.keys_le;unfold maxLen;omega
 obtain⟨es',clock',hrun,F',hput,_,_,hwho⟩:=fit_store (R':=contRm) keyedI Tryz.underlying76 h.hb h.fit hroom (fun _ _ _ _ hz=>hz) hkey (contRm_mk s)
 refine⟨_,hrun,⟨es',clock',heap_setBlock_same h.hb _,F',?_,?_⟩,⟨rfl,rfl,rfl,by simp [setBlock],fun k _ hk=>heap_setBlock_other h.hb _ hk⟩⟩
 ·intro x hx
  rcases hwho x hx with ⟨hx1,hne⟩ | ⟨hk,hv⟩
  ·obtain⟨l2,s2,hl2,hk2,hv2,hf2⟩:=h.only x hx1
   refine⟨l2,s2,hl2,hk2,hv2,?_⟩
   rw [Rmf.put_other _ _ _ _ (fun e=>hne (by rw [hk2,e]))]
   exact hf2
  ·exact⟨l,s,hl,hk,hv,Rmf.put_same _ _ _⟩
 ·-- who was there is there,and the new one
  have hin:∀p,p∈putKey (Lit.int .i64 (l:Int)) (datORm s) ((es.toList.map (rg Tryz.prog 3 contRm)).foldr DataW.insert [])→∃x∈es'.toList,rg Tryz.prog 3 contRm x=p:=by
   intro p hp
   rw [←hput] at hp
   obtain⟨x,hx,e⟩:=List.mem_map.1 ((sorted_perm _).mem_iff.1 hp)
   exact⟨x,hx,e⟩
  have key_of:∀x∈es'.toList,∀kl d,rg Tryz.prog 3 contRm x=(kl,d)→keyOf Tryz.prog 3 x.key=some kl:=by
   intro x hx kl d e
   obtain⟨y,hy⟩:=F'.reads x hx
   have h1:=rd_key hy
   rw [rg_of hy] at e
   rw [e] at h1;exact h1
  intro l2 s2 hf2
  by_cases e:l2=l
  ·subst e
   obtain⟨x,hx,e⟩:=hin (Lit.int .i64 (l2:Int),datORm s) (by unfold putKey;exact mem_insert_iff.2 (.inl rfl))
   exact⟨hl,x,hx,keyedI.inj (key_of x hx _ _ e) hkey⟩
  ·rw [Rmf.put_other _ _ _ _ e] at hf2
   obtain⟨hbd,x0,hx0,hk0⟩:=h.all l2 s2 hf2
   have hkey2:=keyI (x:=(l2:Int)) (by omega) (by omega)
   obtain⟨y0,hy0⟩:=h.fit.reads x0 hx0
   have hk1:=rd_key hy0
   rw [hk0,hkey2] at hk1
   have hk2:y0.1=Lit.int .i64 (l2:Int):=(Option.some.inj hk1).symm
   obtain⟨x,hx,e3⟩:=hin y0 (by
    unfold putKey
    refine mem_insert_iff.2 (.inr (List.mem_filter.2 ⟨(sorted_perm _).mem_iff.2 (List.mem_map.2 ⟨x0,hx0,rg_of hy0⟩),?_⟩))
    refine(notKey_iff (keyedI.key hkey)).2 ?_
    rw [hk2]
    intro e4
    injection e4 with _ e5
    omega)
   refine⟨hbd,x,hx,keyedI.inj (key_of x hx y0.1 y0.2 e3) ?_⟩
   rw [hk2];exact hkey2
end
section
variable {w:World} {b:Nat} {es:Array MapEntry} {clock:Nat} {f:Rmf}
theorem Rmm.rgKey (h:Rmm w b es clock f) {x:MapEntry} (hx:x∈es.toList):(rg Tryz.prog 3 contRm x).1 = .int .i64 ((Go.Proofs.YtmbecjlioogbhaaGreatDoor.keyN x:Nat):Int):=by
 obtain⟨y,hy⟩:=h.fit.reads x hx
 obtain⟨l,s,hl,hk,_,_⟩:=h.only x hx
 have h1:=rd_key hy
 rw [rg_of hy]
 have h2:=h.keyN hx
 have h3:Go.Proofs.YtmbecjlioogbhaaGreatDoor.keyN x=l:=by rw [hk] at h2;injection h2 with _ h3;omega
 rw [h2,keyI (x:=((Go.Proofs.YtmbecjlioogbhaaGreatDoor.keyN x:Nat):Int)) (by omega) (by omega)] at h1
 exact(Option.some.inj h1).symm
theorem Rmf.pairwise (f:Rmf):(f.keys.map fun l=>((l:Nat):Int)).Pairwise (fun a b=>leI a b=true):=by
 refine List.pairwise_map.2 ?_
 unfold Rmf.keys
 refine List.Pairwise.filter _ (List.Pairwise.imp (R:=(· < ·)) ?_ List.pairwise_lt_range)
 intro a b h
 simp [leI];omega
theorem Rmm.ikeys (h:Rmm w b es clock f) :
  (intKeys (DataW.map ((es.toList.map (rg Tryz.prog 3 contRm)).foldr DataW.insert []))).Perm (f.keys.map fun l=>((l:Nat):Int)):=by
 have h1:(intKeys (DataW.map ((es.toList.map (rg Tryz.prog 3 contRm)).foldr DataW.insert []))).Perm ((es.toList.map (rg Tryz.prog 3 contRm)).map fun p=>Go.intOf p.1):=(sorted_perm _).map _
 refine h1.trans ?_
 rw [List.map_map]
 have h2:(es.toList.map ((fun p=>Go.intOf p.1) ∘ rg Tryz.prog 3 contRm))=(es.toList.map Go.Proofs.YtmbecjlioogbhaaGreatDoor.keyN).map fun l=>((l:Nat):Int):=by
  rw [List.map_map]
  refine List.map_congr_left fun x hx=>?_
  show Go.intOf (rg Tryz.prog 3 contRm x).1=_
  rw [h.rgKey hx];rfl
 rw [h2]
 exact h.perm.map _
theorem Rmm.sorted (h:Rmm w b es clock f) {ss:List Int}
  (hp:ss.Perm (intKeys (DataW.map ((es.toList.map (rg Tryz.prog 3 contRm)).foldr DataW.insert [])))):ss.mergeSort leI=f.keys.map fun l=>((l:Nat):Int):=by
 rw [mergeSort_of_perm_i (hp.trans h.ikeys)]
 exact List.mergeSort_of_pairwise f.pairwise
end
end
section
set_option maxRecDepth 20000
open Go.RowKit
theorem cnt_one (g:Nat→Bool) (x:Nat) (h:g x=false):∀n,Bi.cnt (fun p=>g p || p == x) n=Bi.cnt g n+(decide (x<n)).toNat
 | 0=>by rw [decide_eq_false (Nat.not_lt_zero x)];rfl
 | n+1=>by
  have ih:=cnt_one g x h n
  show Bi.cnt (fun p=>g p || p == x) n+(g n || n == x).toNat=Bi.cnt g n+(g n).toNat+_
  rw [ih]
  by_cases e:n=x
  ·subst e
   rw [h,decide_eq_false (Nat.lt_irrefl n),decide_eq_true (Nat.lt_succ_self n)]
   simp
  ·have e2:(n == x)=false:=beq_eq_false_iff_ne.2 e
   rw [e2,Bool.or_false]
   by_cases hl:x<n
   ·rw [decide_eq_true hl,decide_eq_true (Nat.lt_succ_of_lt hl)];omega
   ·rw [decide_eq_false hl,decide_eq_false (by omega)];simp
section
variable {s:Sp} {pg:Nat} {L:List (List Nat)}
theorem idx_need {j n:Nat} (h:idx s j n):j<needS s:=by
 unfold needS
 rcases h with ⟨_,e1⟩ | ⟨_,t,_,_,ht,e1,_⟩ | ⟨_,_,_,hj,_⟩ <;> omega
end
end
section
set_option maxRecDepth 20000
open Go.RowKit
theorem cnt_lone {f:Nat→Bool} {x:Nat} (h:∀p,f p=true→p=x):∀n,Bi.cnt f n≤(decide (x<n)).toNat
 | 0=>Nat.zero_le _
 | n+1=>by
  have ih:=cnt_lone h n
  show Bi.cnt f n+(f n).toNat≤_
  cases hf:f n with
  | true=>
   have e:=h n hf
   subst e
   rw [decide_eq_false (Nat.lt_irrefl n)] at ih
   rw [decide_eq_true (Nat.lt_succ_self n)]
   simp at ih ⊢
   omega
  | false=>
   by_cases hx:x<n
   ·rw [decide_eq_true (by omega:x<n+1)]
    rw [decide_eq_true hx] at ih
    simpa using ih
   ·rw [decide_eq_false hx] at ih
    have:Bi.cnt f n=0:=by simpa using ih
    rw [this];simp
theorem comm_held {s:Sp} {r:Rt} {pg:Nat} {L:List (List Nat)} (hB:Base s pg) (hG:SpGood (commS s r) L pg) (h1:needS s=1) (hu:s.g.us=none) (hl:∀n,lab ⟨0,0,0,0⟩ s.g.lv s.kp n=0):Bi.cnt (heldS (commS s r)) 512≤1:=by
 have h:∀p,heldS (commS s r) p=true→p=(freeL s).getD 0 0:=fun p hp=>by
  unfold heldS orB at hp
  rw [hG.g.us] at hp
  have e0:(commS s r).od=none:=hu
  rw [e0] at hp
  obtain⟨h0,n,hn,e⟩:=usF_iff.1 (show usF (commS s r).g.r (commS s r).g.lv (commS s r).g.tb p=true by simpa using hp)
  have e2:lab (planRt s r) (plL s) (plT s) n=p:=e
  rcases lab_src hB r n hn with h3 | h3 | ⟨j,hj,h3⟩
  ·rw [e2] at h3;exact absurd h3 h0
  ·rw [e2,hl] at h3;exact absurd h3 h0
  ·have hj1:=idx_need hj
   rw [h1] at hj1
   have:j=0:=by omega
   subst this
   rw [←e2,h3]
 refine Nat.le_trans (cnt_lone h 512) ?_
 cases decide (((freeL s).getD 0 0)<512) <;> simp
theorem new_held {pg:Nat} (h4:4≤pg) (h5:pg≤512) {m:Dsk} (hI:Inv m (newS pg) pg):Bi.cnt (heldS (newS pg)) 512≤1:=
 comm_held (bare_base 0 pg none none h4 h5) hI.sp (bare_need 0 pg none none) rfl (bare_lab 0 pg none none)
theorem spz_new {w:World} {d g pg:Nat} {F G:List Nat} {m:Dsk} (h:Rest w d g F G m (newS pg) pg) (hs:Sim (newS pg) m.out Xv.new) (hd:m.done≤100) (hr:RootO m.out (newS pg).g.r):Spz w d g F G m (newS pg) pg Xv.new 0:=
 ⟨h.dk,h.sp,h.inv,hs,by omega,⟨by show (0:Int)≤0+1;omega,by show (0:Int)+1≤((0:Nat):Int)+1;omega⟩,fun _=>hr,by omega,(fun f e=>by cases e),fun _=>new_held h.inv.pgle.1 h.inv.pgle.2 h.inv⟩
def head0:List Nat:=pageT (headB 0 fun _=>0)
theorem head0_ok:head0.length=512∧∀x∈head0,x<256:=by
 refine⟨by decide,fun x hx=>?_⟩
 unfold head0 pageT at hx
 rcases List.mem_append.1 hx with h | h
 ·exact headB_dig _ _ x h
 ·have:=List.eq_of_mem_replicate h;omega
theorem newStore_any (sg:Nat) (w:World):Calls Tryz.prog 66 #[.pointer (some ⟨sg,0,none⟩)] w fun e w'=>e = .returned (.pointer (some ⟨w.heap.size+1,0,none⟩))∧w'=(w.alloc (.map #[] 0)).alloc (.cells #[.pointer (some ⟨sg,0,none⟩),.slice none 0 0,.map (some w.heap.size),.bool false] 78):=by
 have hmm:=@run_makeMap Tryz.prog
 go_enter Tryz.func66,Tryz.ntmps66
 go_wp2_with fail
 go_ret
 exact⟨rfl,rfl⟩
section
variable {w w':World} {d sg pg k:Nat} {D G:List Nat} {m:Dsk} {s:Sp} {y:Xv}
theorem gap_empty (h0:∀l,nn y.now l=false):gapF (nn y.now) 512 0=some 0:=by
 show (if nn y.now 0 then gapF (nn y.now) 511 1 else some 0)=some 0
 rw [h0 0];rfl
theorem kin_lt {K:List Nat} (h:Kin w K):∀j∈K,j<w.heap.size:=fun j hj=>by
 rcases h j hj with ⟨es,c,e⟩ | ⟨cs,t,fr,e,_⟩
 ·exact lt_of_block e
 ·exact lt_of_block e
theorem cnt_none {f:Nat→Bool} (h:∀l,f l=false):Bi.cnt f 512=0:=by
 have:=Bi.cnt_skip (f:=f) (i:=0) (j:=512) (by omega) (fun x _ _=>h x)
 rw [this];rfl
theorem sto_new {w2:World} (h:Spz w d sg D G m s pg y k) (hw:w2=(w.alloc (.map #[] 0)).alloc (.cells #[.pointer (some ⟨sg,0,none⟩),.slice none 0 0,.map (some w.heap.size),.bool false] 78)) :
  Sto w2 d sg D G m s pg y k (w.heap.size+1) w.heap.size (.slice none 0 0) 0 (fun _=>0)∧Rms w2 w.heap.size (fun _=>none)∧Below w.heap.size w w2:=by
 subst hw
 have hb:Below w.heap.size w ((w.alloc (.map #[] 0)).alloc (.cells #[.pointer (some ⟨sg,0,none⟩),.slice none 0 0,.map (some w.heap.size),.bool false] 78)):=((Below.refl _ _).alloc (Nat.le_refl _) _).alloc (by simp) _
 have hF:=kin_lt h.kinF
 have hG:=kin_lt h.kinG
 refine⟨⟨h.below hb,⟨?_,World.ownsRow_nil _ _ _ _,by omega⟩,fun e=>by have:=hG _ e;omega,fun b e=>(by simp [Value.ownBlock] at e),fun e=>by have:=hF _ e;omega,fun b e=>(by simp [Value.ownBlock] at e)⟩,(Rms.made w).same (heap_alloc_old _ _ (by simp)),hb⟩
 have:=heap_alloc_new (w.alloc (.map #[] 0)) (.cells #[.pointer (some ⟨sg,0,none⟩),.slice none 0 0,.map (some w.heap.size),.bool false] 78)
 rw [show (w.alloc (.map #[] 0)).heap.size=w.heap.size+1 by simp] at this
 exact this
set_option maxHeartbeats 1600000 in
theorem format_any (h:Spz w d sg D G m s pg y k) (h0:∀l,nn y.now l=false) :
  Calls Tryz.prog 30 #[.pointer (some ⟨sg,0,none⟩)] w fun e w'=>∃g mb s',e = .returned (.tuple #[.pointer (some ⟨g,0,none⟩),.int .i64 0])∧Sto w' d sg D G m s' pg (y.put 0 head0) k g mb (.slice none 0 0) 0 (fun _=>0)∧Rms w' mb (fun _=>none)∧w.heap.size≤mb∧w.heap.size≤g∧Chg G G w w':=by
 have HL:=Lib.hid (len_z h)
 rw [cnt_none h0] at HL
 have HAF:Hid (∀w1,Below w.heap.size w w1→Calls Tryz.prog 22 #[.pointer (some ⟨sg,0,none⟩)] w1 fun e w'=>e = .returned (.tuple #[.int .i64 0,.int .i64 0])∧Hid (∃s',Spz w' d sg D G m s' pg (y.put 0 zs512) k∧Chg G G w1 w')):=Lib.hid fun w1 hb=>(alloc_z (h.below hb)).mono (by
  rintro e w' ⟨⟨l,hl,_,rfl,s',hs'⟩ | ⟨hn,_⟩,hc⟩
  ·rw [gap_empty h0] at hl
   cases hl
   exact⟨rfl,Lib.hid ⟨s',hs',hc⟩⟩
  ·rw [gap_empty h0] at hn;cases hn)
 have HHD:Hid (∀w1,Calls Tryz.prog 63 #[.slice none 0 0] w1 fun e w'=>e = .returned (.string (strB head0))∧Below w1.heap.size w1 w'):=Lib.hid fun w1=>headText_any none 0 0 (fun _=>(0,fun _=>0)) w1 (by omega) (fun i hi=>absurd hi (Nat.not_lt_zero i)) (fun i hi=>absurd hi (Nat.not_lt_zero i))
 have HWR:Hid (∀w1 s1,Spz w1 d sg D G m s1 pg (y.put 0 zs512) k→Calls Tryz.prog 36 #[.pointer (some ⟨sg,0,none⟩),.int .i64 0,.string (strB head0)] w1 fun e w'=>e = .returned (.int .i64 0)∧Hid (∃s',Spz w' d sg D G m s' pg (y.put 0 head0) k∧Chg G G w1 w')):=Lib.hid fun w1 s1 h1=>by
  have hth:thX (y.put 0 zs512).now 0=true:=by
   rw [show (0:Int)=((0:Nat):Int) from rfl,th_nat (by omega)]
   show (!zs512.isEmpty)=true
   rfl
  have HW:=write_z h1 0 (by omega) (by omega) head0 head0_ok
  rw [if_pos hth,if_pos hth,show (0:Int).toNat=0 from rfl,put_put] at HW
  exact HW.mono (by rintro e w' ⟨rfl,⟨s',hs'⟩,hc⟩;exact⟨rfl,Lib.hid ⟨s',hs',hc⟩⟩)
 clear h h0
 generalize strB head0=T at *
 go_enter Tryz.func30,Tryz.ntmps30
 go_upto_region 3 with (go_at_call 23;with_reducible refine HL.out.mono ?_;rintro e w1 ⟨rfl,hb1⟩)
 have HB1:=Lib.hid hb1
 clear hb1
 go_upto_region 6 with (go_at_call 22;with_reducible refine(HAF.out _ HB1.out).mono ?_;rintro e w2 ⟨rfl,HS2⟩)
 obtain⟨s2,hs2,hc2⟩:=HS2.out
 have HC2:=Lib.hid ((Chg.of_below2 G HB1.out).trans hc2)
 have HSS2:=Lib.hid hs2
 clear hs2 hc2 HS2 HAF HL
 go_upto_region 7 with (first | (go_at_call 63;with_reducible refine(HHD.out _).mono ?_;rintro e w3 ⟨rfl,hb3⟩;have HB3:=Lib.hid hb3;clear hb3) | (go_at_call 36;with_reducible refine(HWR.out _ _ (HSS2.out.below HB3.out)).mono ?_;rintro e w4 ⟨rfl,HS4⟩))
 obtain⟨s4,hs4,hc4⟩:=HS4.out
 have HC4:=Lib.hid ((HC2.out.trans (Chg.of_below2 G HB3.out)).trans hc4)
 have HSS4:=Lib.hid hs4
 have HN:=Lib.hid (newStore_any sg w4)
 have HFIN:Hid (∀w5,w5=(w4.alloc (.map #[] 0)).alloc (.cells #[.pointer (some ⟨sg,0,none⟩),.slice none 0 0,.map (some w4.heap.size),.bool false] 78)→Sto w5 d sg D G m s4 pg (y.put 0 head0) k (w4.heap.size+1) w4.heap.size (.slice none 0 0) 0 (fun _=>0)∧Rms w5 w4.heap.size (fun _=>none)∧w.heap.size≤w4.heap.size∧w.heap.size≤w4.heap.size+1∧Chg G G w w5):=Lib.hid fun w5 e=>by
  obtain⟨h1,h2,h3⟩:=sto_new HSS4.out e
  have:=HC4.out.size
  exact⟨h1,h2,this,by omega,HC4.out.trans (Chg.of_below2 G h3)⟩
 clear hs4 hc4 HS4 HSS2 HC2 HB3 HB1 HHD HWR
 go_wp2_with (go_at_call 66;with_reducible refine HN.out.mono ?_;rintro e w5 ⟨rfl,hw5⟩;have HEND:=Lib.hid (HFIN.out _ hw5);clear hw5)
 go_ret2
 exact⟨_,_,s4,rfl,HEND.out⟩
end
end
end Go.Proofs.YtmbecjlioogbhaaGreatDoor
