/- Texts YLay to YDkSure of this seat, laid into one. -/
import Derived.Deep.RegionHeld3
import Derived.Deep.Cut
import Derived.Deep.DeepCutAuto
import Derived.Test.YtmbecjlioogbhaaGreatDoorM02
import Derived.Test.YtmbecjlioogbhaaGreatDoorM15
import Derived.Test.YtmbecjlioogbhaaGreatDoorM25
import Derived.Test.YtmbecjlioogbhaaGreatDoorM26
import Derived.Test.YtmbecjlioogbhaaGreatDoorM27
set_option linter.unusedVariables false
set_option linter.unusedSimpArgs false
set_option linter.constructorNameAsVariable false
namespace Go.Proofs.YtmbecjlioogbhaaGreatDoor
section
set_option maxRecDepth 20000
open Go.RowKit
structure Onp (w:World) (G D:List Nat) (g mb2:Nat) (v:Value) (gp:Nat) (vp:Value) (sl:List Sl.Sl) (B:Nat) (K:List Nat):Prop where
 pg:Sl.Pg0 w gp vp sl
 ap:∀j∈Sl.foot gp vp,j∉G∧j∉D∧j≠g∧j≠mb2∧v.ownBlock≠some j∧(B≤j∨j∈K)
section
variable {w w':World} {d sg pg k g mb mb2 n:Nat} {D G K:List Nat} {m:Dsk} {y:Xv} {v:Value} {F:Nat→Nat} {q:Nat→Option (List Sl.Sl)} {T:Nat→Option (List Nat × List Nat)} {U:Nat→Nat} {fm:Dmf}
theorem Lsx.kpt {w0:World} {y0:Xv} {v0:Value} {J J':List Nat} (h:Lsx w0 w d sg D G m pg k g mb mb2 y0 y v0 v n F q T U K) (hk:Kpt w w') (hc:Chg J J' w w') (hJ:∀j∈J,w0.heap.size≤j):Lsx w0 w' d sg D G m pg k g mb mb2 y0 y v0 v n F q T U K:=by
 obtain⟨s,hs⟩:=h.st
 exact⟨⟨s,hs.kpt hk⟩,h.ok,h.fr.chg hc (fun j hj=>.inr (.inr (.inr (.inr (.inl (hJ j hj)))))) fun j hj=>.inl hj,h.xv,h.mG,h.mD,h.mg,h.mv,h.ml⟩
theorem chk_pages {n:Nat} (h:pagesForN n≠0):chkN n=pagesForN n∧479<n:=by
 unfold pagesForN at h ⊢
 unfold chkN
 split at h
 ·exact absurd rfl h
 ·rename_i e
  rw [if_neg e,if_neg (by omega)]
  exact⟨rfl,by omega⟩
theorem ivs_snoc (l:List Nat) (x:Nat):Tb.ivs (l++[x])=Tb.ivs l++[.int .i64 (x:Int)]:=by unfold Tb.ivs;simp
structure La1 (w wx:World) (d sg:Nat) (D G:List Nat) (m:Dsk) (pg k g mb mb2:Nat) (y:Xv) (v:Value) (q:Nat→Option (List Sl.Sl)) (T:Nat→Option (List Nat × List Nat)) (U:Nat→Nat) (fm:Dmf) (i need:Nat) (y1:Xv) (v1:Value) (n1:Nat) (F1:Nat→Nat) (U1:Nat→Nat):Prop where
 ls:Lsx w wx d sg D G m pg k g mb mb2 y y1 v v1 n1 F1 q T U1 []
 dm:Dms wx mb2 fm
 hi:i<n1*128
 h0:spF F1 i=0
 cnt:Bi.cnt (nn y1.now) 512+need≤512
 us:∀p,U p≠0→U1 p=U p
 bx:wx.heap[w.heap.size]?=some (.cells #[.pointer (some ⟨g,0,none⟩),.map (some mb2)] 106 (0,0))
structure La2 (w wx:World) (d sg:Nat) (D G:List Nat) (m:Dsk) (pg k g mb mb2:Nat) (y:Xv) (v:Value) (q:Nat→Option (List Sl.Sl)) (T:Nat→Option (List Nat × List Nat)) (U:Nat→Nat) (fm:Dmf) (ds:List Nat) (v1:Value) (n1:Nat) (F1:Nat→Nat) (need:Nat) (ps:List Nat) (vp:Value) (y2:Xv) (U2:Nat→Nat):Prop where
 ls:Lsx w wx d sg D G m pg k g mb mb2 y y2 v v1 n1 F1 q T U2 []
 dm:Dms wx mb2 fm
 cnt:Bi.cnt (nn y2.now) 512+need≤512
 us:∀p,U p≠0→U2 p=U p
 bx:wx.heap[w.heap.size]?=some (.cells #[.pointer (some ⟨g,0,none⟩),.map (some mb2)] 106 (0,0))
 own:OwnI wx (w.heap.size+1) vp ps
 nd:ps.Nodup
 ups:∀j,j<ps.length→U2 (ps.getD j 0)=1∧y2.now (ps.getD j 0)=chkB ds j∧U (ps.getD j 0)=0
theorem La2.below {w wx w2:World} {y2:Xv} {v1 vp:Value} {n1 need:Nat} {F1 U2:Nat→Nat} {ds ps:List Nat} (h:La2 w wx d sg D G m pg k g mb mb2 y v q T U fm ds v1 n1 F1 need ps vp y2 U2) (hb:Below wx.heap.size wx w2):La2 w w2 d sg D G m pg k g mb mb2 y v q T U fm ds v1 n1 F1 need ps vp y2 U2:=
 ⟨h.ls.below hb,h.dm.below hb,h.cnt,h.us,(hb.block _ (lt_of_block h.bx)).trans h.bx,own_below h.own hb,h.nd,h.ups⟩
theorem La2.step {w wr w4 w5:World} {y2:Xv} {v1 v5:Value} {n1 need j l:Nat} {F1 U2:Nat→Nat} {ds ps:List Nat} {q9:Option Addr} {c9:Nat} (h:La2 w wr d sg D G m pg k g mb mb2 y v q T U fm ds v1 n1 F1 (need+1) ps (.slice q9 j c9) y2 U2) (hj:ps.length=j) (hl5:l<512) (hUl:U2 l=0)
  (hcn:Bi.cnt (nn (y2.put l (chkB ds j)).now) 512=Bi.cnt (nn y2.now) 512+1) (hchg:Chg G G wr w4) (hls:Lsx w w4 d sg D G m pg k g mb mb2 y (y2.put l (chkB ds j)) v v1 n1 F1 q T (fun p=>if p=l then 1 else U2 p) []) (hGL:∀j∈G,j<w.heap.size)
  (hown:w5.ownsRow (w.heap.size+1) 3 1 v5 (j+1) (Tb.ivs ps++[.int .i64 (l:Int)])) (hgrow:(w4.alloc (.cells #[.int .i64 (l:Int)] 3)).grownBy w5 (Value.slice q9 j c9).ownBlock) :
  ∃q5 c5,v5 = .slice q5 (j+1) c5∧La2 w w5 d sg D G m pg k g mb mb2 y v q T U fm ds v1 n1 F1 need (ps++[l]) (.slice q5 (j+1) c5) (y2.put l (chkB ds j)) (fun p=>if p=l then 1 else U2 p):=by
 subst hj
 have hoI:wr.ownsRow (w.heap.size+1) 3 1 (.slice q9 ps.length c9) ps.length (Tb.ivs ps):=h.own
 have hlt:=World.ownsRow.lt hoI
 have ho4:w4.ownsRow (w.heap.size+1) 3 1 (.slice q9 ps.length c9) ps.length (Tb.ivs ps):=own_other hoI fun b hb=>hchg.block b (hlt b hb).2 (fun e=>by have:=hGL b e;have:=(hlt b hb).1;omega)
 have hoA:=ho4.alloc (.cells #[.int .i64 (l:Int)] 3)
 have hb4:Below w4.heap.size w4 (w4.alloc (.cells #[.int .i64 (l:Int)] 3)):=(Below.refl _ _).alloc (Nat.le_refl _) _
 generalize hWA:w4.alloc (.cells #[.int .i64 (l:Int)] 3)=WA at *
 have hltA:=World.ownsRow.lt hoA
 have hcJ:Chg (Value.slice q9 ps.length c9).ownBlock.toList (Value.slice q9 ps.length c9).ownBlock.toList WA w5:=⟨hgrow.os,hgrow.tape,hgrow.output,hgrow.size,fun k hk hn=>hgrow.block k hk (fun e=>hn (by rw [←e];simp)),fun _ h=>.inl h⟩
 have hJt:∀j∈(Value.slice q9 ps.length c9).ownBlock.toList,∃cs fr,WA.heap[j]?=some (Obj.cells cs 3 fr):=fun j hj=>by
  obtain⟨cur,hh⟩:=own_head hoA (by simpa using hj)
  exact⟨cur,_,hh⟩
 have hJl:∀j∈(Value.slice q9 ps.length c9).ownBlock.toList,w.heap.size+1≤j:=fun j hj=>(hltA j (by simpa using hj)).1
 have hml:=h.ls.ml
 have hmd4:Dms w4 mb2 fm:=h.dm.same (hchg.block mb2 h.dm.lt h.ls.mG)
 have hx4:=(hchg.block w.heap.size (lt_of_block h.bx) (fun e=>absurd (hGL _ e) (Nat.lt_irrefl _))).trans h.bx
 have hxA:=(hb4.block _ (lt_of_block hx4)).trans hx4
 have hlp:l∉ps:=fun e=>by
  obtain⟨j,hj,e2⟩:=mem_getD0 e
  have:=(h.ups j hj).1
  rw [e2,hUl] at this;cases this
 obtain⟨q5,c5,e5⟩:=Sl.own_form hown
 subst e5
 refine⟨q5,c5,rfl,(hls.below hb4).kpt (Kpt.of_one hcJ hJt) hcJ (fun j hj=>by have:=hJl j hj;omega),?_,by have:=h.cnt;omega,fun p hp=>?_,?_,?_,?_,fun j hj=>?_⟩
 ·exact(hmd4.below hb4).same (hcJ.block mb2 (hmd4.below hb4).lt (fun e=>by have:=hJl mb2 e;omega))
 ·have hu:=h.us p hp
  show (if p=l then 1 else U2 p)=U p
  rw [if_neg (fun e=>by rw [e,hUl] at hu;rw [e] at hp;exact hp hu.symm)]
  exact hu
 ·exact(hcJ.block w.heap.size (lt_of_block hxA) (fun e=>by have:=hJl _ e;omega)).trans hxA
 ·show w5.ownsRow (w.heap.size+1) 3 1 (.slice q5 (ps.length+1) c5) (ps++[l]).length (Tb.ivs (ps++[l]))
  rw [ivs_snoc,List.length_append]
  exact hown
 ·rw [List.nodup_append]
  refine⟨h.nd,by simp,fun a ha b hb e=>?_⟩
  rw [List.mem_singleton.1 hb] at e
  exact hlp (e ▸ ha)
 ·rw [List.length_append] at hj
  show (if (ps++[l]).getD j 0=l then 1 else U2 ((ps++[l]).getD j 0))=1∧(if (ps++[l]).getD j 0=l then chkB ds ps.length else y2.now ((ps++[l]).getD j 0))=chkB ds j∧U ((ps++[l]).getD j 0)=0
  by_cases e:j<ps.length
  ·have eg:(ps++[l]).getD j 0=ps.getD j 0:=by rw [List.getD_eq_getElem?_getD,List.getElem?_append_left e,←List.getD_eq_getElem?_getD]
   rw [eg]
   have hne:ps.getD j 0≠l:=fun e2=>hlp (e2 ▸ getD_mem0 e)
   rw [if_neg hne,if_neg hne]
   exact h.ups j e
  ·have ej:j=ps.length:=by simp at hj;omega
   subst ej
   have eg:(ps++[l]).getD ps.length 0=l:=by rw [List.getD_eq_getElem?_getD,List.getElem?_append_right (Nat.le_refl _),Nat.sub_self];rfl
   rw [eg,if_pos rfl,if_pos rfl]
   refine⟨rfl,rfl,Decidable.byContradiction fun hne=>?_⟩
   have:=h.us l hne
   rw [hUl] at this
   exact hne this.symm
theorem fits_add {sl:List Sl.Sl} {r:ByteArray} (hok:Sl.Okp sl) (hr:r.size≤480) (hf:(r.size:Int)≤Sl.room sl):Sl.addL sl r=Sl.withL sl (Sl.bareI sl) (some r)∧Sl.addN sl r=Sl.bareI sl∧Sl.addE sl r=0∧Sl.Okp (Sl.withL sl (Sl.bareI sl) (some r)):=by
 have hfu:Sl.addFull sl r=false:=by rw [Sl.room_full hok.len r hr,decide_eq_false (by omega)]
 have h4:¬ 480<r.size:=by omega
 have e1:Sl.addL sl r=Sl.withL sl (Sl.bareI sl) (some r):=by unfold Sl.addL;rw [if_neg h4,if_neg (by rw [hfu];decide)]
 refine⟨e1,?_,?_,?_⟩
 ·unfold Sl.addN;rw [if_neg h4,if_neg (by rw [hfu];decide)]
 ·unfold Sl.addE;rw [if_neg h4,if_neg (by rw [hfu];decide)]
 ·rw [←e1];exact hok.add r
theorem room_nil:Sl.room []=480:=by decide
structure La3 (w wx:World) (d sg:Nat) (D G:List Nat) (m:Dsk) (pg k g mb mb2:Nat) (y:Xv) (v:Value) (q:Nat→Option (List Sl.Sl)) (T:Nat→Option (List Nat × List Nat)) (U:Nat→Nat) (fm:Dmf) (K:List Nat) (ds:List Nat) (v1:Value) (n1:Nat) (F1:Nat→Nat) (ps:List Nat) (vps:Value) (l:Nat) (y3:Xv) (U3:Nat→Nat) (gp:Nat) (vp:Value) (sl:List Sl.Sl):Prop where
 ls:Lsx w wx d sg D G m pg k g mb mb2 y y3 v v1 n1 F1 q T U3 K
 dm:Dms wx mb2 (fm.put l gp)
 on:Onp wx G D g mb2 v1 gp vp sl (w.heap.size+1) K
 qq:q l=some sl∨(q l=none∧U3 l=1∧sl=[])
 l5:l<512
 lp:l∉ps
 fit:((recordSizeN ds.length:Nat):Int)≤Sl.room sl
 us:∀p,U p≠0→U3 p=U p
 bx:wx.heap[w.heap.size]?=some (.cells #[.pointer (some ⟨g,0,none⟩),.map (some mb2)] 106 (0,0))
 own:OwnI wx (w.heap.size+1) vps ps
 nd:ps.Nodup
 ups:∀j,j<ps.length→U3 (ps.getD j 0)=1∧y3.now (ps.getD j 0)=chkB ds j
theorem dm_put {f:Dmf} {l gp:Nat} (h:f l=some gp):f.put l gp=f:=by
 funext j
 unfold Dmf.put
 by_cases e:j=l
 ·rw [if_pos e,e,h]
 ·rw [if_neg e]
theorem La2.given {w wx:World} {y2:Xv} {v1 vps:Value} {n1 need l0 gp:Nat} {F1 U2:Nat→Nat} {ds ps:List Nat} {vp:Value} {sl:List Sl.Sl} (h:La2 w wx d sg D G m pg k g mb mb2 y v q T U fm ds v1 n1 F1 need ps vps y2 U2) (ht:ThOk ds ps) (hq:q l0=some sl) (hf:fm l0=some gp) (ho:Onp w G D g mb2 v gp vp sl w.heap.size K) (hl:∀j∈Sl.foot gp vp,j<w.heap.size) (hfit:((recordSizeN ds.length:Nat):Int)≤Sl.room sl) :
  La3 w wx d sg D G m pg k g mb mb2 y v q T U fm K ds v1 n1 F1 ps vps l0 y2 U2 gp vp sl:=by
 have hkp:∀j∈Sl.foot gp vp,wx.heap[j]?=w.heap[j]?:=fun j hj=>by
  obtain⟨a1,a2,a3,a4,a5,_⟩:=ho.ap j hj
  exact h.ls.fr.keep j (hl j hj) a1 a3 a4 a5 (by simp)
 have hU:=h.ls.ok.rc _ _ hq
 refine⟨⟨h.ls.st,h.ls.ok,h.ls.fr.more (fun j hj=>by cases hj),h.ls.xv,h.ls.mG,h.ls.mD,h.ls.mg,h.ls.mv,h.ls.ml⟩,by rw [dm_put hf];exact h.dm,⟨⟨(hkp gp (by unfold Sl.foot;simp)).trans ho.pg.hd,Sl.own_other ho.pg.row fun b hb=>hkp b (by unfold Sl.foot;simp [hb]),ho.pg.ok⟩,fun j hj=>?_⟩,.inl hq,h.ls.ok.ql hq,fun e=>?_,hfit,h.us,h.bx,h.own,h.nd,fun j hj=>⟨(h.ups j hj).1,(h.ups j hj).2.1⟩⟩
 ·obtain⟨a1,a2,a3,a4,a5,a6⟩:=ho.ap j hj
  refine⟨a1,a2,a3,a4,fun e=>?_,.inr (a6.resolve_left (by have:=hl j hj;omega))⟩
  rcases h.ls.fr.own j e with e2 | e2
  ·exact a5 e2
  ·have:=hl j hj;omega
 ·obtain⟨j,hj,e2⟩:=mem_getD0 e
  have:=(h.ups j hj).1
  rw [e2,hU.1] at this;cases this
theorem La2.fresh {w wx w7 w8 w9:World} {y2:Xv} {v1 vps:Value} {n1 need l gp:Nat} {F1 U2:Nat→Nat} {ds ps:List Nat} {vp:Value} (h:La2 w wx d sg D G m pg k g mb mb2 y v q T U fm ds v1 n1 F1 need ps vps y2 U2) (ht:ThOk ds ps) (hl5:l<512) (hUl:U2 l=0) (hchg:Chg G G wx w7)
  (hls:Lsx w w7 d sg D G m pg k g mb mb2 y (y2.put l (Sl.bytesM [])) v v1 n1 F1 q T (fun p=>if p=l then 1 else U2 p) []) (hb8:Below w7.heap.size w7 w8) (hp8:Sl.Pg0 w8 gp vp []) (hf8:∀j∈Sl.foot gp vp,w7.heap.size≤j) (hm9:Dms w9 mb2 (fm.put l gp)) (ho9:Only mb2 w8 w9) :
  La3 w w9 d sg D G m pg k g mb mb2 y v q T U fm K ds v1 n1 F1 ps vps l (y2.put l (Sl.bytesM [])) (fun p=>if p=l then 1 else U2 p) gp vp []:=by
 have hml:=h.ls.ml
 have hsz:=h.ls.fr.size
 have hz7:=hchg.size
 have hz8:=hb8.size
 have hbl:=lt_of_block h.bx
 obtain⟨s0,hs0⟩:=h.ls.st
 obtain⟨s7,hs7⟩:=hls.st
 have hGl:=kin_lt hs7.sp.kinG
 have hDl:=kin_lt hs7.sp.kinF
 have hm7:Dms w7 mb2 fm:=h.dm.same (hchg.block mb2 h.dm.lt h.ls.mG)
 have hc9:Chg [mb2] [mb2] w8 w9:=⟨ho9.os,ho9.tape,ho9.output,ho9.size,fun j hj hn=>ho9.block j hj (fun e=>hn (by rw [e];exact List.mem_singleton.2 rfl)),fun _ h=>.inl h⟩
 have hlp:l∉ps:=fun e=>by
  obtain⟨j,hj,e2⟩:=mem_getD0 e
  have:=(h.ups j hj).1
  rw [e2,hUl] at this;cases this
 have hx7:w7.heap[w.heap.size]?=some (.cells #[.pointer (some ⟨g,0,none⟩),.map (some mb2)] 106 (0,0)):=(hchg.block w.heap.size (lt_of_block h.bx) (fun e=>by
  have hG0:=h.ls.st
  obtain⟨s2,hs2⟩:=hG0
  rcases hs2.sp.kinG _ e with ⟨es,c,e2⟩ | ⟨cs,t,fr,e2,e3⟩
  ·rw [h.bx] at e2;cases e2
  ·rw [h.bx] at e2;cases e2
   revert e3;decide)).trans h.bx
 have hx8:=(hb8.block _ (lt_of_block hx7)).trans hx7
 have hol:=World.ownsRow.lt h.own
 have hol7:w7.ownsRow (w.heap.size+1) 3 1 vps ps.length (Tb.ivs ps):=own_other h.own fun b hb=>hchg.block b (hol b hb).2 (fun e=>by
  rcases h.ls.st with ⟨s2,hs2⟩
  obtain⟨cur,hh⟩:=own_head h.own hb
  rcases hs2.sp.kinG _ e with ⟨es,c,e2⟩ | ⟨cs,t,fr,e2,e3⟩
  ·rw [hh] at e2;cases e2
  ·rw [hh] at e2;cases e2
   revert e3;decide)
 have hv7:=fun b hb=>(World.ownsRow.lt hs7.st.own b hb).2
 have hls0:=(hls.below hb8).chg hc9 (fun j hj=>by cases List.mem_singleton.1 hj;exact .inl (hm7.below hb8).isMap) (fun j hj=>.inl (List.mem_singleton.1 hj))
 refine⟨⟨hls0.st,hls0.ok,hls0.fr.more (fun j hj=>by cases hj),hls0.xv,hls0.mG,hls0.mD,hls0.mg,hls0.mv,hls0.ml⟩,hm9,⟨⟨(ho9.block gp (lt_of_block hp8.hd) (fun e=>by have:=hf8 gp (by unfold Sl.foot;simp);omega)).trans hp8.hd,Sl.own_other hp8.row (fun b hb=>ho9.block b (World.ownsRow.lt hp8.row b hb).2 (fun e=>by have:=hf8 b (by unfold Sl.foot;simp [hb]);omega)),hp8.ok⟩,fun j hj=>?_⟩,.inr ⟨?_,if_pos rfl,rfl⟩,hl5,hlp,?_,fun p hp=>?_,?_,?_,h.nd,fun j hj=>?_⟩
 ·have h1:=hf8 j hj
  exact⟨fun e=>by have:=hGl j e;omega,fun e=>by have:=hDl j e;omega,fun e=>by have:=hs7.st.lt;omega,fun e=>by omega,fun e=>by have:=hv7 j e;omega,.inl (by omega)⟩
 ·cases e:q l with
  | none=>rfl
  | some sl=>have:=(h.ls.ok.rc _ _ e).1;rw [hUl] at this;cases this
 ·rw [room_nil]
  have:=rec_size ht
  rw [strB_size,rec_len ht] at this
  omega
 ·have hu:=h.us p hp
  show (if p=l then 1 else U2 p)=U p
  rw [if_neg (fun e=>by rw [e,hUl] at hu;rw [e] at hp;exact hp hu.symm)]
  exact hu
 ·exact(ho9.block w.heap.size (lt_of_block hx8) (fun e=>by omega)).trans hx8
 ·exact own_other (own_below hol7 hb8) fun b hb=>ho9.block b (by have:=(World.ownsRow.lt hol7 b hb).2;omega) (fun e=>by have:=(hol b hb).1;omega)
 ·have hne:ps.getD j 0≠l:=fun e2=>hlp (e2 ▸ getD_mem0 hj)
  show (if ps.getD j 0=l then 1 else U2 (ps.getD j 0))=1∧(if ps.getD j 0=l then Sl.bytesM [] else y2.now (ps.getD j 0))=chkB ds j
  rw [if_neg hne,if_neg hne]
  exact⟨(h.ups j hj).1,(h.ups j hj).2.1⟩
theorem La3.added {w wx w5 w6:World} {y3:Xv} {v1 vps:Value} {n1 l gp:Nat} {F1 U3:Nat→Nat} {ds ps:List Nat} {vp vp6:Value} {sl sl6:List Sl.Sl} (h:La3 w wx d sg D G m pg k g mb mb2 y v q T U fm K ds v1 n1 F1 ps vps l y3 U3 gp vp sl) (hb5:Below wx.heap.size wx w5) (hp6:Sl.Pg0 w6 gp vp6 sl6) (hc6:Sl.Chg (Sl.foot gp vp) (Sl.foot gp vp6) w5 w6) :
  Lsx w w6 d sg D G m pg k g mb mb2 y y3 v v1 n1 F1 q T U3 K∧Dms w6 mb2 (fm.put l gp)∧Onp w6 G D g mb2 v1 gp vp6 sl6 (w.heap.size+1) K:=by
 have h5:=h.ls.below hb5
 have hm5:=h.dm.below hb5
 have hp5:=h.on.pg.below hb5
 obtain⟨s5,hs5⟩:=h5.st
 have hGl:=kin_lt hs5.sp.kinG
 have hDl:=kin_lt hs5.sp.kinF
 have hv5:=fun b hb=>(World.ownsRow.lt hs5.st.own b hb).2
 have hz5:=hb5.size
 have hbl:=lt_of_block h.bx
 have hc:Chg (Sl.foot gp vp) (Sl.foot gp vp6) w5 w6:=⟨hc6.os,hc6.tape,hc6.output,hc6.size,hc6.block,hc6.fresh⟩
 refine⟨h5.chg hc (fun j hj=>?_) (fun j hj=>.inr ?_),hm5.same (hc6.block mb2 hm5.lt (fun e=>(h.on.ap mb2 e).2.2.2.1 rfl)),hp6,fun j hj=>?_⟩
 ·obtain⟨cs,t,fr,e,ht⟩:=hp5.typed j hj
  exact .inr ⟨cs,t,fr,e,by rcases ht with rfl | rfl <;> simp⟩
 ·obtain⟨a1,a2,a3,a4,a5,a6⟩:=h.on.ap j hj
  exact⟨a6.imp (fun e=>by omega) id,a1,a2,a3,a5⟩
 ·rcases hc6.fresh j hj with e | e
  ·exact h.on.ap j e
  ·exact⟨fun e2=>by have:=hGl j e2;omega,fun e2=>by have:=hDl j e2;omega,fun e2=>by have:=hs5.st.lt;omega,fun e2=>by have:=hm5.lt;omega,fun e2=>by have:=hv5 j e2;omega,.inl (by omega)⟩
structure LaE (w w':World) (d sg:Nat) (D G:List Nat) (m:Dsk) (pg k g mb mb2:Nat) (y:Xv) (v:Value) (q:Nat→Option (List Sl.Sl)) (T:Nat→Option (List Nat × List Nat)) (U:Nat→Nat) (fm:Dmf) (K:List Nat) (ds:List Nat) (i:Nat) (page:Int) (y3:Xv) (v1:Value) (n1:Nat) (F1 U3:Nat→Nat) (l gp:Nat) (vp:Value) (sl:List Sl.Sl) (ps:List Nat):Prop where
 pgl:page = -1∨page=(l:Int)
 st:∃s,Sto w' d sg D G m s pg (y3.put (F1 (i / 128*129)) (partB (Tb.updN F1 (cellN i) (l*64+Sl.bareI sl+1)) (i / 128))) k g mb v1 n1 (Tb.updN F1 (cellN i) (l*64+Sl.bareI sl+1))
 ok:Stm y3.now n1 F1 0 q T U3
 hi:i<n1*128
 h0:spF F1 i=0
 qq:q l=some sl∨(q l=none∧U3 l=1∧sl=[])
 l5:l<512
 lp:l∉ps
 th:ThOk ds ps
 nd:ps.Nodup
 ups:∀j,j<ps.length→U3 (ps.getD j 0)=1∧y3.now (ps.getD j 0)=chkB ds j
 us:∀p,U p≠0→U3 p=U p
 okw:Sl.Okp (Sl.withL sl (Sl.bareI sl) (some (strB (recB ds ps))))
 dm:Dms w' mb2 (fm.put l gp)
 on:Onp w' G D g mb2 v1 gp vp (Sl.withL sl (Sl.bareI sl) (some (strB (recB ds ps)))) (w.heap.size+1) K
 fr:Fra w w' G g mb2 v v1 K
 xv:XvR y y3
set_option maxHeartbeats 6400000 in
theorem Lsx.lay (h:Lsx w w d sg D G m pg k g mb mb2 y y v v n F q T U []) (hm:Dms w mb2 fm) {i:Nat} (hi:i<n*128∨(i=n*128∧n<64)) (hs0:i<n*128→spF F i=0) (page:Int) (S:ByteArray) (ds:List Nat) (hS:IsS S ds) (hd:ds.length≤16384)
  (hcnt:Bi.cnt (nn y.now) 512+needP n ((i:Int)+1) page ds.length≤512)
  (hpage:page = -1∨∃l0 gp vp sl,page=((l0:Nat):Int)∧q l0=some sl∧fm l0=some gp∧Onp w G D g mb2 v gp vp sl w.heap.size K∧(∀j∈Sl.foot gp vp,j<w.heap.size)∧((recordSizeN ds.length:Nat):Int)≤Sl.room sl) :
  Calls Tryz.prog 56 #[.agg #[.pointer (some ⟨g,0,none⟩),.map (some mb2)],.int .i64 ((i:Int)+1),.int .i64 page,.string S] w fun e w'=>e = .returned (.tuple #[])∧∃y3 v1 n1 F1 U3 l gp vp sl ps,LaE w w' d sg D G m pg k g mb mb2 y v q T U fm K ds i page y3 v1 n1 F1 U3 l gp vp sl ps:=by
 have hb0:Below w.heap.size w (w.alloc (.cells #[.pointer (some ⟨g,0,none⟩),.map (some mb2)] 106)):=(Below.refl _ _).alloc (Nat.le_refl _) _
 have hx0:=heap_alloc_new w (.cells #[.pointer (some ⟨g,0,none⟩),.map (some mb2)] 106)
 have h1:=h.below hb0
 have hm1:=hm.below hb0
 obtain⟨s0,hst0⟩:=h1.st
 have hGL:∀j∈G,j<w.heap.size:=by obtain⟨s,hs⟩:=h.st;exact kin_lt hs.sp.kinG
 have hgl:g<w.heap.size:=by obtain⟨s,hs⟩:=h.st;exact hs.st.lt
 have hvl:∀b,v.ownBlock=some b→b<w.heap.size:=by obtain⟨s,hs⟩:=h.st;exact fun b hb=>(World.ownsRow.lt hs.st.own b hb).2
 have HLP:=Lib.hid (hst0.st.lacksPart ((i:Int)+1))
 have hn64:n≤64:=h.ok.n64
 obtain⟨need,hneed⟩:∃need,pagesForN ds.length+(if page = -1 then 1 else 0)=need:=⟨_,rfl⟩
 have HA1:Hid (∃W1,W1=w.alloc (.cells #[.pointer (some ⟨g,0,none⟩),.map (some mb2)] 106)∧((n:Int)*128<(i:Int)+1→Calls Tryz.prog 102 #[.pointer (some ⟨g,0,none⟩)] W1 fun e w'=>e = .returned (.tuple #[])∧Hid (∃y1 v1 n1 F1 U1,La1 w w' d sg D G m pg k g mb mb2 y v q T U fm i need y1 v1 n1 F1 U1)) ∧
   (¬ (n:Int)*128<(i:Int)+1→Hid (∃y1 v1 n1 F1 U1,La1 w W1 d sg D G m pg k g mb mb2 y v q T U fm i need y1 v1 n1 F1 U1))):=Lib.hid ⟨_,rfl,fun hl=>by
   have hn:n<64:=by rcases hi with e | e <;> omega
   have hc1:Bi.cnt (nn y.now) 512+(need+1)≤512:=by
    unfold needP at hcnt
    rw [if_pos hl] at hcnt
    omega
   refine(h1.addPart hn (by omega)).mono ?_
   rintro e w' ⟨rfl,y',v',F',U',J,J',hJ,hchg,hf1,hf2,hcn,hus,hls⟩
   have hJw:∀j∈J,j<w.heap.size:=fun j hj=>by
    rcases hJ j hj with e | e | e
    ·exact hGL j e
    ·omega
    ·exact hvl j e
   have hmJ:mb2∉J:=fun e=>by
    rcases hJ mb2 e with e | e | e
    ·exact h.mG e
    ·exact h.mg e
    ·exact h.mv e
   refine⟨rfl,Lib.hid ⟨y',v',n+1,F',U',hls,hm1.same (hchg.block mb2 hm1.lt hmJ),by rcases hi with e | e <;> omega,?_,by omega,hus,(hchg.block w.heap.size (lt_of_block hx0) (fun e=>absurd (hJw _ e) (Nat.lt_irrefl _))).trans hx0⟩⟩
   exact hf2 i (by omega),fun hl=>by
   have hi1:i<n*128:=by omega
   refine Lib.hid ⟨y,v,n,F,U,h1,hm1,hi1,hs0 hi1,?_,fun p _=>rfl,hx0⟩
   unfold needP at hcnt
   rw [if_neg hl] at hcnt
   omega⟩
 obtain⟨W1,hW1,hA,hB⟩:=HA1.out
 rw [←hW1] at hx0
 have HLP1:Hid (Calls Tryz.prog 98 #[.pointer (some ⟨g,0,none⟩),.int .i64 ((i:Int)+1)] W1 fun e w'=>e = .returned (.bool (decide ((n:Int)*128<(i:Int)+1)))∧W1=w'):=Lib.hid (by rw [hW1];exact HLP.out)
 have HAA:=Lib.hid hA
 have HBB:=Lib.hid hB
 have HSZ:=Lib.hid hS.size
 have HS:=Lib.hid hS
 have HGL:Hid ((∀j∈G,j<w.heap.size)∧g<w.heap.size∧(∀b,v.ownBlock=some b→b<w.heap.size)):=Lib.hid ⟨hGL,hgl,hvl⟩
 have HPG:=Lib.hid hpage
 have HX0:=Lib.hid hx0
 clear hst0 h1 hm1 HA1 HLP hA hB hcnt hb0 hGL hgl hvl hpage hi hs0 hS
 obtain⟨I,hI⟩:∃I:Int,(i:Int)+1=I:=⟨_,rfl⟩
 have HI:=Lib.hid hI
 rw [hI] at HLP1 HAA HBB ⊢
 clear hI
 go_enter Tryz.func56,Tryz.ntmps56
 go_upto_region 1 with fail
 rw [←hW1]
 clear hW1
 have a0:=cell_of_row _ _ 0 _ _ _ hx0
 have a1:=cell_of_row _ _ 1 _ _ _ hx0
 simp at a0 a1
 clear hx0
 go_upto_if 18 with (go_at_call 98;with_reducible refine HLP1.out.mono ?_;rintro e w2 ⟨rfl,rfl⟩)
 clear HLP1
 go_cut [] (fun wx=>Hid (∃y1 v1 n1 F1 U1,La1 w wx d sg D G m pg k g mb mb2 y v q T U fm i need y1 v1 n1 F1 U1))
 case first=>
  by_cases hl:(n:Int)*128<I
  ·have hd1:decide ((n:Int)*128<I)=true:=decide_eq_true hl
   have HAD:=Lib.hid (HAA.out hl)
   go_wp2_with (go_at_call 102;with_reducible refine HAD.out.mono ?_;rintro e w3 ⟨rfl,HS3⟩)
   go_meet
   exact HS3
  ·have hd1:decide ((n:Int)*128<I)=false:=decide_eq_false hl
   have HBD:=HBB.out (by omega)
   go_wp2_with fail
   go_meet
   exact HBD
 case rest=>
  obtain⟨y1,v1,n1,F1,U1,hla⟩:=hcut.out
  have HL1:=Lib.hid hla
  have HI1:Hid (i<n1*128∧spF F1 i=0):=Lib.hid ⟨hla.hi,hla.h0⟩
  clear hla hcut HAA HBB a0 a1
  have HPF:Hid (∀w1,Calls Tryz.prog 97 #[.int .i64 (S.size:Int)] w1 fun e w'=>e = .returned (.int .i64 ((pagesForN ds.length:Nat):Int))∧w1=w'):=Lib.hid fun w1=>by
   rw [HSZ.out];exact pagesFor_any ds.length w1 (by omega)
  have hszI:(S.size:Int)≤16384:=by have:=HSZ.out;omega
  go_upto_if 24 with (go_at_call 97;with_reducible refine(HPF.out _).mono ?_;rintro e w2 ⟨rfl,rfl⟩)
  go_cut [9] (fun v9 wx=>∃(q9:Option Addr) (c9:Nat) (ps:List Nat),v9 = .slice q9 ps.length c9∧Hid (ThOk ds ps∧∃y2 U2,La2 w wx d sg D G m pg k g mb mb2 y v q T U fm ds v1 n1 F1 (if page = -1 then 1 else 0) ps (.slice q9 ps.length c9) y2 U2))
  case first=>
   by_cases hz:pagesForN ds.length=0
   ·have hd1:decide ((0:Int)<((pagesForN ds.length:Nat):Int))=false:=decide_eq_false (by omega)
    have hd2:decide (0<pagesForN ds.length)=false:=decide_eq_false (by omega)
    have HMT:Hid (ThOk ds []∧∃y2 U2,La2 w wc d sg D G m pg k g mb mb2 y v q T U fm ds v1 n1 F1 (if page = -1 then 1 else 0) [] (.slice none 0 0) y2 U2):=Lib.hid ⟨⟨hd,HS.out.dig,hz.symm⟩,y1,U1,HL1.out.ls,HL1.out.dm,by have:=HL1.out.cnt;omega,HL1.out.us,HL1.out.bx,World.ownsRow_nil _ _ _ _,List.nodup_nil,fun j hj=>by cases hj⟩
    go_wp2_with fail
    go_meet
    exact⟨none,0,[],rfl,HMT⟩
   ·have hd1:decide ((0:Int)<((pagesForN ds.length:Nat):Int))=true:=decide_eq_true (by omega)
    have hd2:decide (0<pagesForN ds.length)=true:=decide_eq_true (by omega)
    have hpos:0<pagesForN ds.length:=by omega
    obtain⟨hchk,h479⟩:=chk_pages hz
    have hc32:pagesForN ds.length≤32:=by unfold pagesForN;split <;> omega
    obtain⟨N,hN⟩:∃N,pagesForN ds.length=N:=⟨_,rfl⟩
    have HCH:Hid (∀w1,Calls Tryz.prog 103 #[.string S] w1 fun e w'=>∃q8 c8,e = .returned (.slice q8 N c8)∧OwnT w' w1.heap.size (.slice q8 N c8) (chkB ds) N∧Below w1.heap.size w1 w'):=Lib.hid fun w1=>(chunks_any S ds w1 HS.out (by omega)).mono (by
     rintro e w' ⟨v8,rfl,ho,hb⟩
     rw [hchk,hN] at ho
     obtain⟨p,c,rfl,_⟩:=id ho
     exact⟨p,c,rfl,ho,hb⟩)
    have HNN:=Lib.hid hN
    rw [hN] at hc32
    have HZW:Hid (w.heap.size+1≤wc.heap.size):=Lib.hid (by have:=lt_of_block HL1.out.bx;omega)
    clear hN hchk hz
    obtain⟨i0,hi0,hz0,hz1,hz2⟩:=info_parts Sl.infoI
    have HI0:=Lib.hid hi0
    have HZ0:=Lib.hid hz0
    have HZ1:=Lib.hid hz1
    have HZ2:=Lib.hid hz2
    clear hi0 hz0 hz1 hz2
    have hNI:(N:Int)≤32:=by omega
    go_upto_region 7 with (go_at_call 103;with_reducible refine(HCH.out _).mono ?_;rintro e w3 ⟨q8,c8,rfl,ho3,hb3⟩;have HO3':=Lib.hid ho3;have HB3:=Lib.hid hb3;clear ho3 hb3)
    have HO3:Hid (OwnT w3 (w.heap.size+1) (.slice q8 N c8) (chkB ds) N):=Lib.hid (by obtain⟨p8,k8,e8,r8⟩:=HO3'.out;exact⟨p8,k8,e8,own_mono r8 HZW.out⟩)
    clear HO3'
    have HLA0:Hid (La2 w w3 d sg D G m pg k g mb mb2 y v q T U fm ds v1 n1 F1 (N+(if page = -1 then 1 else 0)) [] (.slice none 0 0) y1 U1):=Lib.hid (La2.below ⟨HL1.out.ls,HL1.out.dm,by have:=HL1.out.cnt;have:=HNN.out;omega,HL1.out.us,HL1.out.bx,World.ownsRow_nil _ _ _ _,List.nodup_nil,fun j hj=>by cases hj⟩ HB3.out)
    have hpn:(if page = -1 then 1 else 0)≤1:=by split <;> omega
    generalize (if page = -1 then 1 else 0)=pn at *
    go_loopw [9,28] (fun bv iv wr=>∃(j:Nat) (ps:List Nat) (q9:Option Addr) (c9:Nat),j≤N∧bv = .slice q9 j c9∧iv = .int .i64 (j:Int)∧Hid (ps.length=j∧OwnT wr (w.heap.size+1) (.slice q8 N c8) (chkB ds) N∧∃y2 U2,La2 w wr d sg D G m pg k g mb mb2 y v q T U fm ds v1 n1 F1 (N - j+pn) ps (.slice q9 j c9) y2 U2)) (fun _ iv _=>N - (RowKit.intOf iv).toNat)
    case atStart=>exact⟨0,[],none,0,by omega,rfl,by go_num,Lib.hid ⟨rfl,HO3.out,y1,U1,HLA0.out⟩⟩
    case round=>
     obtain⟨j,ps,q9,c9,hj,rfl,rfl,HR⟩:=hrel
     by_cases hlt:j<N
     ·obtain⟨hpl,hot,y2,U2,hla⟩:=HR.out
      obtain⟨p8,k8,e8,r8⟩:=hot
      cases e8
      obtain⟨b8,k9,e9⟩:=Sl.own_some r8 (by omega)
      cases e9
      have hcl:=(r8.cellAt j (by omega)).trans (txL_get _ _ _ hlt)
      have hin:(j:Int)<(N:Int):=by omega
      have hd3:decide ((j:Int)<(N:Int))=true:=decide_eq_true hin
      have hneed2:N - j+pn=(N - (j+1)+pn)+1:=by omega
      rw [hneed2] at hla
      have HLA:=Lib.hid hla
      have HR8:=Lib.hid r8
      have HNP:=Lib.hid (hla.ls.newPage (by have:=hla.cnt;omega) (chkB ds j) ⟨chk_len ds j,chk_dig HS.out.dig j⟩)
      have HPL:=Lib.hid hpl
      have HK4:Hid (∀(w4:World) (l:Nat),Chg G G wr w4→(w4.alloc (.cells #[.int .i64 (l:Int)] 3)).ownsRow (w.heap.size+1) 3 1 (.slice q9 j c9) j (Tb.ivs ps)∧w.heap.size+1≤(w4.alloc (.cells #[.int .i64 (l:Int)] 3)).heap.size):=Lib.hid fun w4 l hc=>by
       have hoI:wr.ownsRow (w.heap.size+1) 3 1 (.slice q9 j c9) ps.length (Tb.ivs ps):=hla.own
       rw [hpl] at hoI
       have hltI:=World.ownsRow.lt hoI
       refine⟨World.ownsRow.alloc (own_other hoI fun b hb=>hc.block b (hltI b hb).2 (fun e=>by have:=HGL.out.1 b e;have:=(hltI b hb).1;omega)) _,?_⟩
       have:=hc.size
       have:=lt_of_block hla.bx
       simp
       omega
      clear hneed2 hla hpl r8
      have HON:Hid (∀l:Nat,∀u∈[Value.int .i64 (l:Int)],u.oneCell'=true):=Lib.hid fun l u hu=>by cases List.mem_singleton.1 hu;rfl
      have H63:Hid (j+1≤maxLen):=Lib.hid (by unfold maxLen;omega)
      have Hj8:Hid ((j+1)*8≤140737488355328):=Lib.hid (by omega)
      obtain⟨X,hX⟩:∃X,strB (chkB ds j)=X:=⟨_,rfl⟩
      rw [hX] at HNP hcl
      clear hX
      have hlt2:j+1≤N:=hlt
      go_upto_region 10 with (first
       | (go_at_call 104;with_reducible refine HNP.out.mono ?_;rintro e w4 ⟨l,rfl,hl5,hUl,hcn,hchg,hls⟩;obtain⟨r1,r2⟩:=HK4.out w4 l hchg;have HR1:=Lib.hid r1;have HR2:=Lib.hid r2;have HST:=Lib.hid (And.intro hl5 (And.intro hUl (And.intro hcn (And.intro hchg hls))));clear r1 r2 hl5 hUl hcn hchg hls)
       | (at_builtin;refine wpList_append_own _ rfl (.tmp 32) (.tmp 36) 47 rfl (w.heap.size+1) 3 i0 (.int .i64 0) 1 8 Tryz.underlying47 HI0.out HZ0.out HZ1.out HZ2.out rfl (by decide) (.slice q9 j c9) j _ (by rfl) HR1.out ⟨w4.heap.size,0,none⟩ 1 1 [.int .i64 (l:Int)] (by rfl) rfl (World.news_of_block (heap_alloc_new _ _)) (HON.out l) H63.out Hj8.out HR2.out ?_;intro v5 w5 hown5 hgrow5 _))
      obtain⟨hl5,hUl,hcn,hchg,hls⟩:=HST.out
      obtain⟨q5,c5,rfl,hla5⟩:=HLA.out.step HPL.out hl5 hUl hcn hchg hls HGL.out.1 hown5 hgrow5
      have HN5:Hid ((ps++[l]).length=j+1∧OwnT w5 (w.heap.size+1) (.slice (some ⟨b8,0,none⟩) N c8) (chkB ds) N∧∃y2 U2,La2 w w5 d sg D G m pg k g mb mb2 y v q T U fm ds v1 n1 F1 (N - (j+1)+pn) (ps++[l]) (.slice q5 (j+1) c5) y2 U2):=Lib.hid ⟨by rw [List.length_append,HPL.out];rfl,⟨_,_,rfl,own_other HR8.out fun b hb=>by
       obtain⟨b1,b2⟩:=World.ownsRow.lt HR8.out b hb
       obtain⟨cur,hh⟩:=own_head HR8.out hb
       have e1:=hchg.block b b2 (fun e=>by have:=HGL.out.1 b e;omega)
       have e2:(w4.alloc (.cells #[.int .i64 (l:Int)] 3)).heap[b]?=w4.heap[b]?:=heap_alloc_old _ _ (h:=by have:=hchg.size;omega)
       refine(hgrow5.block b (by have:=hchg.size;simp;omega) (fun e=>?_)).trans (e2.trans e1)
       obtain⟨cur2,hh2⟩:=own_head HR1.out e.symm
       rw [e2,e1,hh] at hh2
       cases hh2⟩,_,_,hla5⟩
      clear hown5 hgrow5 hla5 hl5 hUl hcn hchg hls hcl
      go_wp2_with fail
      go_roundw
      case rel=>exact⟨j+1,ps++[l],q5,c5,hlt2,rfl,by go_num,HN5⟩
      case measure=>simp [RowKit.intOf];omega
     ·obtain rfl:j=N:=by omega
      have hd3:decide ((j:Int)<(j:Int))=false:=decide_eq_false (by omega)
      have HEND:Hid (ps.length=j∧ThOk ds ps∧∃y2 U2,La2 w wr d sg D G m pg k g mb mb2 y v q T U fm ds v1 n1 F1 pn ps (.slice q9 ps.length c9) y2 U2):=Lib.hid (by
       obtain⟨hpl,hot,y2,U2,hla⟩:=HR.out
       rw [Nat.sub_self,Nat.zero_add] at hla
       refine⟨hpl,⟨hd,HS.out.dig,by rw [hpl];exact HNN.out.symm⟩,y2,U2,?_⟩
       rw [hpl];exact hla)
      go_wp2_with fail
      go_meet
      exact⟨q9,c9,ps,by rw [HEND.out.1],Lib.hid HEND.out.2⟩
  case rest=>
   obtain⟨q9,c9,ps,rfl,HH2⟩:=hcut
   obtain⟨htk,y2,U2,hla2⟩:=HH2.out
   have HTK:=Lib.hid htk
   have HL2:=Lib.hid hla2
   clear hla2 htk HH2 HL1
   go_upto_if 40 with fail
   go_cut [2] (fun v2 wx=>∃l:Nat,v2 = .int .i64 (l:Int)∧Hid (page = -1∨page=(l:Int))∧Hid (∃y3 U3 gp vp sl,La3 w wx d sg D G m pg k g mb mb2 y v q T U fm K ds v1 n1 F1 ps (.slice q9 ps.length c9) l y3 U3 gp vp sl))
   case first=>
    rcases HPG.out with rfl | ⟨l0,gp,vp,sl,rfl,hq0,hf0,hon,hfl,hfit⟩
    ·have HCN:Hid (Bi.cnt (nn y2.now) 512<512):=Lib.hid (by have:=HL2.out.cnt;simp at this;omega)
     have HNW:Hid (∀w1,Calls Tryz.prog 105 #[] w1 fun e w'=>∃g v,e = .returned (.pointer (some ⟨g,0,none⟩))∧Sl.Pg0 w' g v []∧(∀k∈Sl.foot g v,w1.heap.size≤k)∧Below w1.heap.size w1 w'):=Lib.hid fun w1=>(Sl.new_any w1).mono (by
      rintro e w' ⟨g,F,rfl,⟨v,hp,rfl⟩,h1,h2,h3⟩
      exact⟨g,v,rfl,hp,h1,h3⟩)
     have HBY:Hid (∀w1 g v,Sl.Pg0 w1 g v []→Calls Tryz.prog 106 #[.pointer (some ⟨g,0,none⟩)] w1 fun e w'=>e = .returned (.string (strB (Sl.bytesM [])))∧Below w1.heap.size w1 w'):=Lib.hid fun w1 g v hp=>Sl.bytes_any hp
     have HNP:Hid (∀w1,Below wc.heap.size wc w1→Calls Tryz.prog 104 #[.pointer (some ⟨g,0,none⟩),.string (strB (Sl.bytesM []))] w1 fun e w'=>∃l:Nat,e = .returned (.int .i64 (l:Int))∧Hid (l<512∧U2 l=0∧Chg G G wc w'∧Lsx w w' d sg D G m pg k g mb mb2 y (y2.put l (Sl.bytesM [])) v v1 n1 F1 q T (fun p=>if p=l then 1 else U2 p) [])):=Lib.hid fun w1 hb=>((HL2.out.ls.below hb).newPage HCN.out (Sl.bytesM []) ⟨Sl.bytesM_len Sl.Okp.nil_,Sl.bytesM_dig Sl.Okp.nil_⟩).mono (by
      rintro e w' ⟨l,rfl,h1,h2,_,h4,h5⟩
      exact⟨l,rfl,Lib.hid ⟨h1,h2,(Chg.of_below2 G hb).trans h4,h5⟩⟩)
     generalize strB (Sl.bytesM [])=T0 at *
     go_upto_region 13 with (first
      | (go_at_call 105;with_reducible refine(HNW.out _).mono ?_;rintro e w5 ⟨gp0,vp0,rfl,hp0,-,hb5⟩)
      | (go_at_call 106;with_reducible refine(HBY.out _ _ _ hp0).mono ?_;rintro e w6 ⟨rfl,hb6⟩;have HB6:=Lib.hid (hb5.trans (hb6.mono hb5.size));clear hb5 hb6 hp0)
      | (go_at_call 104;with_reducible refine(HNP.out _ HB6.out).mono ?_;rintro e w7 ⟨l,rfl,HS7⟩))
     have hx7:w7.heap[w.heap.size]?=some (.cells #[.pointer (some ⟨g,0,none⟩),.map (some mb2)] 106 (0,0)):=(HS7.out.2.2.1.block w.heap.size (lt_of_block HL2.out.bx) (fun e=>absurd (HGL.out.1 _ e) (Nat.lt_irrefl _))).trans HL2.out.bx
     have HM7:Hid (Dms w7 mb2 fm):=Lib.hid (HL2.out.dm.same (HS7.out.2.2.1.block mb2 HL2.out.dm.lt HL2.out.ls.mG))
     have HX7:=Lib.hid hx7
     have a0:=cell_of_row _ _ 0 _ _ _ hx7
     have a1:=cell_of_row _ _ 1 _ _ _ hx7
     simp at a0 a1
     clear hx7 HNP
     go_region_law (first
      | (go_simp;go_at_call 105;refine(HNW.out _).mono ?_;rintro e w8 ⟨gp8,vp8,rfl,hpg8,hfp8,hb8⟩;have HB8:Hid (Below w7.heap.size w7 w8):=Lib.hid ((Below.refl _ _).drew.trans (by exact hb8));obtain⟨w9,hrun9,hm9,ho9⟩:=(HM7.out.below HB8.out).store l gp8 HS7.out.1;have a0:=(HB8.out.cell (p:=⟨w.heap.size,0,none⟩) (lt_of_block HX7.out)).trans a0;have a1:=(HB8.out.cell (p:=⟨w.heap.size,1,none⟩) (lt_of_block HX7.out)).trans a1))
     all_goals (
      obtain⟨s1,s2,s3,s4⟩:=HS7.out
      have HF:=Lib.hid (HL2.out.fresh (K:=K) HTK.out s1 s2 s3 s4 HB8.out hpg8 (show ∀j∈Sl.foot gp8 vp8,w7.heap.size≤j from hfp8) hm9 ho9)
      clear s1 s2 s3 s4 hm9 ho9 hrun9 hpg8 hfp8 hb8 a0 a1
      go_wp2_with fail
      go_meet
      exact⟨l,rfl,Lib.hid (.inl (by trivial)),Lib.hid ⟨_,_,_,_,_,HF.out⟩⟩)
    ·have hne:(((l0:Nat):Int) == -1)=false:=by rw [beq_eq_false_iff_ne];omega
     have hne2:decide (((l0:Nat):Int) = -1)=false:=decide_eq_false (by omega)
     have hne3:¬ ((l0:Nat):Int) = -1:=by omega
     have HG3:=Lib.hid (HL2.out.given HTK.out hq0 hf0 hon hfl hfit)
     go_wp2_with fail
     go_meet
     exact⟨l0,rfl,Lib.hid (.inr rfl),Lib.hid ⟨y2,U2,gp,vp,sl,HG3.out⟩⟩
   case rest=>
    obtain⟨l,rfl,HPL,HH3⟩:=hcut
    obtain⟨y3,U3,gp,vp,sl,hla3⟩:=HH3.out
    have HL3:=Lib.hid hla3
    clear hla3 HH3 HL2
    have hx:=HL3.out.bx
    have a0:=cell_of_row _ _ 0 _ _ _ hx
    have a1:=cell_of_row _ _ 1 _ _ _ hx
    simp at a0 a1
    clear hx
    have hrs:=rec_size HTK.out
    have hrl:((strB (recB ds ps)).size:Int)≤Sl.room sl:=by
     rw [strB_size,rec_len HTK.out];exact HL3.out.fit
    obtain⟨f1,f2,f3,f4⟩:=fits_add HL3.out.on.pg.ok hrs hrl
    have HOKW:=Lib.hid f4
    have HRT:Hid (∀w1,Below wc.heap.size wc w1→Calls Tryz.prog 108 #[.string S,.slice q9 ps.length c9] w1 fun e w'=>e = .returned (.string (strB (recB ds ps)))∧Below w1.heap.size w1 w'):=Lib.hid fun w1 hb=>recordText_any S ds (.slice q9 ps.length c9) ps (w.heap.size+1) w1 HS.out (by omega) (own_below HL3.out.own hb) (by
     have h2:=HTK.out.2.2
     unfold pagesForN at h2
     split at h2 <;> omega) (fun z hz=>by
     obtain⟨j,hj,e⟩:=mem_getD0 hz
     have hu:=(HL3.out.ups j hj).1
     have:=HL3.out.ls.ok.lt (l:=ps.getD j 0) (by rw [hu];omega)
     omega)
    have HAD:Hid (∀w1,Below wc.heap.size wc w1→Calls Tryz.prog 107 #[.pointer (some ⟨gp,0,none⟩),.string (strB (recB ds ps))] w1 fun e w'=>e = .returned (.tuple #[.int .i64 ((Sl.bareI sl:Nat):Int),.int .i64 0])∧Hid (∃vp',Sl.Pg0 w' gp vp' (Sl.withL sl (Sl.bareI sl) (some (strB (recB ds ps))))∧Sl.Chg (Sl.foot gp vp) (Sl.foot gp vp') w1 w')):=Lib.hid fun w1 hb=>by
     have ha:=Sl.add_any (HL3.out.on.pg.below hb) (strB (recB ds ps)) (by omega)
     rw [f1,f2,f3] at ha
     refine ha.mono ?_
     rintro e w' ⟨rfl,F',⟨v',hp',rfl⟩,hc⟩
     exact⟨rfl,Lib.hid ⟨v',hp',hc⟩⟩
    have HFN:Hid (w.heap.size∉Sl.foot gp vp):=Lib.hid fun e=>by
     have hlt:=HL3.out.on.pg.typed _ e
     obtain⟨cs,t,fr,e2,e3⟩:=hlt
     rw [HL3.out.bx] at e2
     cases e2
     revert e3;decide
    clear f1 f2 f3 f4 hrs hrl
    obtain⟨R,hR⟩:∃R,strB (recB ds ps)=R:=⟨_,rfl⟩
    have HRR:=Lib.hid hR
    rw [hR] at HRT HAD
    clear hR
    have hlk:=HL3.out.dm.look1 l gp (Dmf.put_same _ _ _)
    have hlkd:(Instr.lookup 104 (.map (some mb2)) (.int .i64 (l:Int)) false).run Tryz.prog wc.drew = .ok (.pointer (some ⟨gp,0,none⟩)) wc.drew:=(HL3.out.dm.below (Below.refl _ _).drew).look1 l gp (Dmf.put_same _ _ _)
    have hbare:Sl.bareI sl≤64:=by have:=Sl.bareI_le sl;have:=HL3.out.on.pg.ok.len;omega
    generalize hbk:Sl.bareI sl=bk at *
    have HBKE:=Lib.hid hbk
    clear hbk
    have hbkI:(bk:Int)≤64:=by omega
    have hl5I:(l:Int)<512:=by have:=HL3.out.l5;omega
    go_upto_region 14 with fail
    go_cut [12] (fun v12 wx=>v12 = .int .i64 (bk:Int)∧Hid (∃vp6,Lsx w wx d sg D G m pg k g mb mb2 y y3 v v1 n1 F1 q T U3 K∧Dms wx mb2 (fm.put l gp)∧Onp wx G D g mb2 v1 gp vp6 (Sl.withL sl bk (some R)) (w.heap.size+1) K))
    case first=>
     go_region_held3 (fun u:World=>u.cell? ⟨w.heap.size,1,none⟩=some (.map (some mb2))∧(Instr.lookup 104 (.map (some mb2)) (.int .i64 (l:Int)) false).run Tryz.prog u = .ok (.pointer (some ⟨gp,0,none⟩)) u) ((first
       | with_reducible exact⟨a1,hlkd⟩
       | with_reducible exact⟨a15,hlk5⟩
       | with_reducible exact⟨a16,hlk6⟩
       | go_keep)) (first
      | (go_at_call 108;refine(HRT.out _ (by exact(Below.refl _ _).drew)).mono ?_;rintro e w5 ⟨rfl,hb5⟩;have HB5:Hid (Below wc.heap.size wc w5):=Lib.hid ((Below.refl _ _).drew.trans (by exact hb5));have hx5:=(HB5.out.block _ (lt_of_block HL3.out.bx)).trans HL3.out.bx;have a15:=cell_of_row _ _ 1 _ _ _ hx5;simp at a15;have hlk5:=(HL3.out.dm.below HB5.out).look1 l gp (Dmf.put_same _ _ _))
      | (go_at_call 107;refine(HAD.out _ HB5.out).mono ?_;rintro e w6 ⟨rfl,HS6⟩;obtain⟨vp6,hp6,hc6⟩:=HS6.out;have hx6:=(hc6.block _ (lt_of_block hx5) (fun e=>HFN.out e)).trans hx5;have a16:=cell_of_row _ _ 1 _ _ _ hx6;simp at a16;have hm6:=(HL3.out.dm.below HB5.out).same (hc6.block mb2 (HL3.out.dm.below HB5.out).lt (fun e=>(HL3.out.on.ap mb2 e).2.2.2.1 rfl));have hlk6:=hm6.look1 l gp (Dmf.put_same _ _ _)))
     all_goals (
      have HAE:=Lib.hid (HL3.out.added HB5.out hp6 hc6)
      clear hp6 hc6 hm6 hlk6 hx6 a16 hlk5 hx5 a15 hlkd hlk a0 a1
      go_wp2_with fail
      go_meet
      exact⟨rfl,Lib.hid ⟨_,HAE.out⟩⟩)
    case rest=>
     obtain⟨rfl,HH6⟩:=hcut
     obtain⟨vp6,hls6,hdm6,hon6⟩:=HH6.out
     obtain⟨s6,hs6⟩:=hls6.st
     have hok:=hls6.ok
     have hF1:∀j,j<n1*129→F1 j≤1099511627776:=fun j hj=>by have:=hok.cells j hj;omega
     obtain⟨p1,p2⟩:=hok.pt (i / 128) (by have:=HI1.out.1;omega)
     have hpl:=hok.lt (l:=F1 (i / 128*129)) (by rw [p1];omega)
     have hth:thX y3.now ((F1 (i / 128*129):Nat):Int)=true:=by
      rw [th_nat hpl]
      exact(hok.live _ hpl).2 (by rw [p1];omega)
     have htl:=hs6.tell i (l*64+bk+1) HI1.out.1 hF1 (by have:=HL3.out.l5;omega) hth
     rw [HI.out] at htl
     have HTL:=Lib.hid htl
     have HSO:Hid (∀w1,Calls Tryz.prog 109 #[.int .i64 (l:Int),.int .i64 (bk:Int)] w1 fun e w'=>e = .returned (.int .i64 ((l*64+bk+1:Nat):Int))∧w1=w'):=Lib.hid fun w1=>by
      have h:=spotOf_any l bk w1 (by have:=HL3.out.l5;omega) (by omega)
      rw [show ((l:Int)*64+(bk:Int)+1)=((l*64+bk+1:Nat):Int) by omega] at h
      exact h
     have HFIN:Hid (∀w13 s13,Sto w13 d sg D G m s13 pg (y3.put (F1 (i / 128*129)) (partB (Tb.updN F1 (i / 128*129+1+i % 128) (l*64+bk+1)) (i / 128))) k g mb v1 n1 (Tb.updN F1 (i / 128*129+1+i % 128) (l*64+bk+1))→(∃K2,(∀j∈K2,j∈G∨v1.ownBlock=some j)∧Chg K2 K2 wc w13) →
       ∃y3 v1 n1 F1 U3 l gp vp sl ps,LaE w w13 d sg D G m pg k g mb mb2 y v q T U fm K ds i page y3 v1 n1 F1 U3 l gp vp sl ps):=Lib.hid fun w13 s13 h13 hk13=>by
      obtain⟨K2,hK2,hc13⟩:=hk13
      have hbk:=HBKE.out
      have hR:=HRR.out
      subst hbk
      subst hR
      have hmK:mb2∉K2:=fun e=>(hK2 mb2 e).elim hls6.mG hls6.mv
      have hfK:∀j∈Sl.foot gp vp6,j∉K2:=fun j hj e=>by
       obtain⟨a1,a2,a3,a4,a5,a6⟩:=hon6.ap j hj
       exact(hK2 j e).elim a1 a5
      exact⟨y3,v1,n1,F1,U3,l,gp,vp6,sl,ps,HPL.out,⟨s13,h13⟩,hok,HI1.out.1,HI1.out.2,HL3.out.qq,HL3.out.l5,HL3.out.lp,HTK.out,HL3.out.nd,HL3.out.ups,HL3.out.us,HOKW.out,hdm6.same (hc13.block mb2 hdm6.lt hmK),⟨hon6.pg.stay (F:=K2) (F':=K2) ⟨hc13.os,hc13.tape,hc13.output,hc13.size,hc13.block,hc13.fresh⟩ hfK,hon6.ap⟩,hls6.fr.chg hc13 (fun j hj=>(hK2 j hj).elim .inl fun e=>.inr (.inr (.inr (.inl e)))) fun j hj=>.inl hj,hls6.xv⟩
     clear hls6 hdm6 hon6 hs6 hok hF1 p1 p2 hpl hth htl HH6
     generalize l*64+bk+1=XX at *
     go_wp2_with (first
      | (go_at_call 109;with_reducible refine(HSO.out _).mono ?_;rintro e w12 ⟨rfl,rfl⟩)
      | (go_at_call 60;with_reducible refine HTL.out.mono ?_;rintro e w13 ⟨rfl,⟨s13,h13⟩,hK13⟩;have HE:=Lib.hid (HFIN.out _ _ h13 hK13);clear h13 hK13))
     go_end0
     exact⟨rfl,HE.out⟩
end
end
section
set_option maxRecDepth 20000
open Go.RowKit
section
variable {w w':World} {d sg pg k g mb mb2 n:Nat} {D G:List Nat} {m:Dsk} {s:Sp} {y:Xv} {v:Value} {F:Nat→Nat} {q:Nat→Option (List Sl.Sl)} {T:Nat→Option (List Nat × List Nat)} {U:Nat→Nat}
set_option maxHeartbeats 1600000 in
theorem Stw.deskSure0 (h:Stw w d sg D G m s pg y k g mb v n F q T U) (i:Nat) (hi9:i≤1099511627776) (mb2:Nat) :
  Calls Tryz.prog 55 #[.agg #[.pointer (some ⟨g,0,none⟩),.map (some mb2)],.int .i64 ((i:Int)+1),.int .i64 (-1)] w fun e w'=>e = .returned (.int .i64 0)∧Below w.heap.size w w':=by
 have hb0:Below w.heap.size w (w.alloc (.cells #[.pointer (some ⟨g,0,none⟩),.map (some mb2)] 106)):=(Below.refl _ _).alloc (Nat.le_refl _) _
 have hx0:=heap_alloc_new w (.cells #[.pointer (some ⟨g,0,none⟩),.map (some mb2)] 106)
 have HS:=Lib.hid ((h.below hb0).sure i hi9)
 have HB0:=Lib.hid hb0
 clear h hb0
 obtain⟨I,hI⟩:∃I:Int,(i:Int)+1=I:=⟨_,rfl⟩
 rw [hI] at HS ⊢
 clear hI
 go_enter Tryz.func55,Tryz.ntmps55
 go_upto_region 1 with fail
 generalize w.alloc (.cells #[.pointer (some ⟨g,0,none⟩),.map (some mb2)] 106)=W1 at *
 have a0:=cell_of_row _ _ 0 _ _ _ hx0
 simp at a0
 clear hx0
 go_wp2_with (go_at_call 99;with_reducible refine HS.out.mono ?_;rintro e w2 ⟨rfl,hb2⟩;have HB2:=Lib.hid (HB0.out.trans (hb2.mono HB0.out.size));clear hb2)
 go_ret
 exact⟨rfl,HB2.out⟩
set_option maxHeartbeats 3200000 in
theorem Stw.deskSure1 (h:Stw w d sg D G m s pg y k g mb v n F q T U) (i:Nat) (hi9:i≤1099511627776) (hm:Dms w mb2 (fun _=>none)) (hmG:mb2∉G) (hmD:mb2∉D) (hmg:mb2≠g) (hmv:v.ownBlock≠some mb2) (hmm:mb2≠mb) (l:Nat) {sl:List Sl.Sl} (hq:q l=some sl) :
  Calls Tryz.prog 55 #[.agg #[.pointer (some ⟨g,0,none⟩),.map (some mb2)],.int .i64 ((i:Int)+1),.int .i64 (l:Int)] w fun e w'=>e = .returned (.int .i64 0)∧∃gp vp,Dms w' mb2 (Dmf.put (fun _=>none) l gp)∧Sl.Pg0 w' gp vp sl∧(∀j∈Sl.foot gp vp,w.heap.size≤j)∧Chg [mb2] [mb2] w w':=by
 have hb0:Below w.heap.size w (w.alloc (.cells #[.pointer (some ⟨g,0,none⟩),.map (some mb2)] 106)):=(Below.refl _ _).alloc (Nat.le_refl _) _
 have hx0:=heap_alloc_new w (.cells #[.pointer (some ⟨g,0,none⟩),.map (some mb2)] 106)
 have hl5:=h.ok.ql hq
 have hr:=h.ok.rc _ _ hq
 have HS:=Lib.hid ((h.below hb0).sure i hi9)
 have HDP:Hid (∀w1,Below w.heap.size w w1→Calls Tryz.prog 100 #[.agg #[.pointer (some ⟨g,0,none⟩),.map (some mb2)],.int .i64 (l:Int)] w1 fun e w'=>∃gp vp,e = .returned (.tuple #[.pointer (some ⟨gp,0,none⟩),.int .i64 0])∧Hid (Dms w' mb2 (Dmf.put (fun _=>none) l gp)∧(∀j∈Sl.foot gp vp,w1.heap.size≤j)∧Chg [mb2] [mb2] w1 w')∧Hid (Sl.Pg0 w' gp vp sl)):=Lib.hid fun w1 hb=>((h.below hb).st.deskPage (hm.below hb) l hl5 hr.2.2.1 hr.2.1 rfl).mono (by
  rintro e w' ⟨gp,vp,rfl,h1,h2,h3,h4⟩
  exact⟨gp,vp,rfl,Lib.hid ⟨h1,h3,h4⟩,Lib.hid h2⟩)
 have H:=Lib.hid h
 have HM:Hid (mb2<w.heap.size∧mb2≠mb∧mb2≠g):=Lib.hid ⟨hm.lt,hmm,hmg⟩
 have hrm:roomF q l=some (Sl.room sl):=by unfold roomF;rw [hq];rfl
 have HRMF:=Lib.hid hrm
 have HB0:=Lib.hid hb0
 have HX0:=Lib.hid hx0
 clear h hb0 hr hq hm hmG hmD hmg hmv hmm hrm
 obtain⟨I,hI⟩:∃I:Int,(i:Int)+1=I:=⟨_,rfl⟩
 rw [hI] at HS ⊢
 clear hI hi9
 have hne:(((l:Nat):Int) == -1)=false:=by rw [beq_eq_false_iff_ne];omega
 have hne2:decide (((l:Nat):Int) = -1)=false:=decide_eq_false (by omega)
 have hne3:¬ ((l:Nat):Int) = -1:=by omega
 go_enter Tryz.func55,Tryz.ntmps55
 go_upto_region 1 with fail
 generalize w.alloc (.cells #[.pointer (some ⟨g,0,none⟩),.map (some mb2)] 106)=W1 at *
 have a0:=cell_of_row _ _ 0 _ _ _ hx0
 simp at a0
 clear hx0
 go_upto_region 4 with (go_at_call 99;with_reducible refine HS.out.mono ?_;rintro e w2 ⟨rfl,hb2⟩;have HB12:=Lib.hid hb2;have HB2:=Lib.hid (HB0.out.trans (hb2.mono HB0.out.size));clear hb2)
 have hx2:=(HB12.out.block _ (lt_of_block HX0.out)).trans HX0.out
 have a0:=cell_of_row _ _ 0 _ _ _ hx2
 have a1:=cell_of_row _ _ 1 _ _ _ hx2
 simp at a0 a1
 go_upto_region 5 with (go_at_call 100;with_reducible refine(HDP.out _ HB2.out).mono ?_;rintro e w3 ⟨gp,vp,rfl,HD3,HP3⟩)
 have hx3:=(HD3.out.2.2.block w.heap.size (lt_of_block hx2) (by have:=HM.out.1;simp;omega)).trans hx2
 obtain⟨r,hr⟩:∃r,Sl.room sl=r:=⟨_,rfl⟩
 have HST3:Hid (∀s:In w3,s.1.cell? ⟨g,2,none⟩=some (.map (some mb))∧(Instr.lookup 76 (.map (some mb)) (.int .i64 (l:Int)) false).run Tryz.prog s.1 = .ok (.int .i64 r) s.1):=Lib.hid fun s=>by
  have h2:=H.out.below HB2.out
  have hg3:=(HD3.out.2.2.block g h2.st.st.lt (by have:=HM.out.2.2;simp;omega)).trans h2.st.st.row
  have hr3:Rms w3 mb (roomF q):=h2.rm.same (HD3.out.2.2.block mb h2.rm.lt (by have:=HM.out.2.1;simp;omega))
  have hg4:=(s.2.block g (lt_of_block hg3)).trans hg3
  refine⟨by rw [cell_of_row _ _ 2 _ _ _ hg4];rfl,?_⟩
  rw [←hr]
  exact(hr3.below s.2).look1 l _ HRMF.out
 have l0:∀s:In w3,s.1.cell? ⟨w.heap.size,0,none⟩=some (.pointer (some ⟨g,0,none⟩)):=fun s=>by
  rw [cell_of_row _ _ 0 _ _ _ ((s.2.block _ (lt_of_block hx3)).trans hx3)];rfl
 have l2:∀s:In w3,s.1.cell? ⟨g,2,none⟩=some (.map (some mb)):=fun s=>(HST3.out s).1
 have lk:∀s:In w3,(Instr.lookup 76 (.map (some mb)) (.int .i64 (l:Int)) false).run Tryz.prog s.1 = .ok (.int .i64 r) s.1:=fun s=>(HST3.out s).2
 have HRO:Hid (∀s:In w3,Calls Tryz.prog 101 #[.pointer (some ⟨gp,0,none⟩)] s.1 fun e w'=>e = .returned (.int .i64 r)∧Below s.1.heap.size s.1 w'):=Lib.hid fun s=>by
  rw [←hr];exact Sl.room_any (HP3.out.below s.2)
 have hne:=In.some w3
 clear a0 a1 hx2 hr HST3
 refine region_in w3 (by kernel_rfl) (by kernel_rfl) (Below.refl _ _) ?_
 repeat (go_big_quiet_step ((go_at_call 101;exact Calls.quiet_in (HRO.out _))))
 refine wpQuiet_nil ?_
 intro w5 hw5
 have HB5:Hid (Below w3.heap.size w3 w5):=Lib.hid (by
  obtain⟨⟨wz,hbz⟩,hw''⟩:=hw5
  subst hw''
  exact hbz)
 clear hw5 l0 l2 lk hne
 go_wp2_with fail
 go_ret
 have hb2:=HB2.out
 have hz2:=hb2.size
 refine⟨rfl,gp,vp,HD3.out.1.below HB5.out,HP3.out.below HB5.out,fun j hj=>by have:=HD3.out.2.1 j hj;omega,?_⟩
 exact((Chg.of_below2 [mb2] hb2).trans HD3.out.2.2).trans (Chg.of_below2 [mb2] HB5.out)
end
end
end Go.Proofs.YtmbecjlioogbhaaGreatDoor
