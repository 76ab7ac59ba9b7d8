/- Texts QPlan to PCommit of this seat, laid into one. -/
import Derived.Deep.RegionHeldLaw
import Derived.Deep.RegionHeld3
import Derived.Test.YtmbecjlioogbhaaGreatDoorM00
import Derived.Test.YtmbecjlioogbhaaGreatDoorM09
import Derived.Test.YtmbecjlioogbhaaGreatDoorM10
import Derived.Test.YtmbecjlioogbhaaGreatDoorM11
import Derived.Test.YtmbecjlioogbhaaGreatDoorM12
import Derived.Test.YtmbecjlioogbhaaGreatDoorM14
import Derived.Test.YtmbecjlioogbhaaGreatDoorM15
import Derived.Test.YtmbecjlioogbhaaGreatDoorM16
import Derived.Test.YtmbecjlioogbhaaGreatDoorM18
set_option linter.unusedVariables false
set_option linter.unusedSimpArgs false
set_option linter.constructorNameAsVariable false
namespace Go.Proofs.YtmbecjlioogbhaaGreatDoor
section
set_option maxRecDepth 20000
open Go.RowKit
theorem keys_nodup (f:Pgs):f.keys.Nodup:=List.nodup_range.filter _
theorem tmems_nodup (f:Nat→Bool) (n:Nat):(Tb.mems f n).Nodup:=List.nodup_range.filter _
theorem mem_tmems {f:Nat→Bool} {n x:Nat}:x∈Tb.mems f n↔x<n∧f x=true:=by unfold Tb.mems;rw [List.mem_filter,List.mem_range]
theorem getD_mem {l:List Nat} {i:Nat} (h:i<l.length):l.getD i 0∈l:=by rw [List.getD_eq_getElem?_getD,List.getElem?_eq_getElem h];exact List.getElem_mem _
theorem mem_getD {l:List Nat} {x:Nat} (h:x∈l):∃i,i<l.length∧l.getD i 0=x:=by
 obtain⟨i,hi,e⟩:=List.mem_iff_getElem.1 h
 exact⟨i,hi,by rw [List.getD_eq_getElem?_getD,List.getElem?_eq_getElem hi];exact e⟩
theorem nodup_getD {l:List Nat} (h:l.Nodup) {i j:Nat} (hi:i<l.length) (hj:j<l.length) (e:l.getD i 0=l.getD j 0):i=j:=by
 rw [List.getD_eq_getElem?_getD,List.getD_eq_getElem?_getD,List.getElem?_eq_getElem hi,List.getElem?_eq_getElem hj] at e
 have e:l[i]=l[j]:=e
 have hp:=List.pairwise_iff_getElem.1 h
 rcases Nat.lt_trichotomy i j with h1 | h1 | h1
 ·exact absurd e (hp i j hi hj h1)
 ·exact h1
 ·exact absurd e.symm (hp j i hj hi h1)
theorem drop_getD (l:List Nat) (k i:Nat):(l.drop k).getD i 0=l.getD (k+i) 0:=by
 rw [List.getD_eq_getElem?_getD,List.getElem?_drop,←List.getD_eq_getElem?_getD]
theorem kT_mL (s:Sp) (F:List Nat):∀i,kT s F i=mL s.kp s.fr.keys F i
 | 0=>rfl
 | i+1=>by show Tb.updN (kT s F i) _ _=Tb.updN (mL _ _ _ i) _ _;rw [kT_mL s F i]
theorem mL_key {M:List Nat} (hM:M.Nodup) (lv:Nat→Nat) (F:List Nat):∀(i j:Nat),j<i→i≤M.length→mL lv M F i (M.getD j 0)=F.getD j 0
 | 0,j,hj,_=>by omega
 | i+1,j,hj,hi=>by
  show Tb.updN (mL lv M F i) (M.getD i 0) (F.getD i 0) (M.getD j 0)=_
  by_cases e:j=i
  ·subst e;exact Tb.updN_same _ _ _
  ·rw [Tb.updN_other _ _ _ _ (fun h=>e (nodup_getD hM (by omega) (by omega) h)),mL_key hM lv F i j (by omega) (by omega)]
theorem mL_not {M:List Nat} (lv:Nat→Nat) (F:List Nat) (l:Nat):∀(i:Nat),(∀j,j<i→M.getD j 0≠l)→mL lv M F i l=lv l
 | 0,_=>rfl
 | i+1,h=>by
  show Tb.updN (mL lv M F i) (M.getD i 0) (F.getD i 0) l=_
  rw [Tb.updN_other _ _ _ _ (fun e=>h i (by omega) e.symm),mL_not lv F l i (fun j hj=>h j (by omega))]
theorem bL_val (lv T:Nat→Nat) (l:Nat):∀i,bL lv T i l=if l<i∧Tb.bareB T l=true then 0 else lv l
 | 0=>by rw [if_neg (by omega)];rfl
 | i+1=>by
  show (if Tb.bareB T i then Tb.updN (bL lv T i) i 0 else bL lv T i) l=_
  by_cases hb:Tb.bareB T i=true
  ·rw [if_pos hb]
   by_cases e:l=i
   ·subst e;rw [Tb.updN_same,if_pos ⟨by omega,hb⟩]
   ·rw [Tb.updN_other _ _ _ _ e,bL_val lv T l i]
    by_cases h1:l<i∧Tb.bareB T l=true
    ·rw [if_pos h1,if_pos ⟨by omega,h1.2⟩]
    ·rw [if_neg h1,if_neg (fun h=>h1 ⟨by omega,h.2⟩)]
  ·rw [if_neg hb,bL_val lv T l i]
   by_cases h1:l<i∧Tb.bareB T l=true
   ·rw [if_pos h1,if_pos ⟨by omega,h1.2⟩]
   ·rw [if_neg h1,if_neg (fun h=>h1 ⟨by
     by_cases e:l=i
     ·exact absurd (e ▸ h.2) hb
     ·omega,h.2⟩)]
theorem bare_iff {f:Nat→Nat} {i:Nat}:Tb.bareB f i=true↔∀k,k<128→f (128*i+k)=0:=by
 unfold Tb.bareB Tb.sameN Tb.leafF;simp
theorem dif_iff {f k:Nat→Nat} {i:Nat}:Tb.difB f k i=false↔∀j,j<128→f (128*i+j)=k (128*i+j):=by
 unfold Tb.difB Tb.sameN Tb.leafF;simp
theorem freshB_iff {f:Pgs} {i:Nat}:freshB f i=true↔∃l,l∈f.keys∧l / 128=i:=by unfold freshB;simp
structure Base (s:Sp) (pg:Nat):Prop where
 pgE:s.g.r.pg=(pg:Int)
 p4:4≤pg
 p5:pg≤512
 ap:Apart (lab ⟨0,0,0,0⟩ s.g.lv s.kp) (List.range 517) (pg:Int)
 held:∀n,n<517→lab ⟨0,0,0,0⟩ s.g.lv s.kp n≠0→heldS s (lab ⟨0,0,0,0⟩ s.g.lv s.kp n)=true
 okk:Tb.Ok s.kp
 okl:∀i,i<4→Tb.pgN (s.g.lv i)=true
 lvb:∀i,i<4→Tb.bareB s.g.tb i=false→s.g.lv i≠0
 ex:∀l b,s.fr l=some b→s.kp l=0∧l<512∧b.length=512∧∀x∈b,x<256
 hi:∀l,512≤l→s.kp l=0
structure StGood (st:St):Prop where
 mays:Mays st.r
 us:st.us=some (usF st.r st.lv st.tb)
 ap:ApartS st.r st.lv st.tb
 okt:Tb.Ok st.tb
 okl:∀i,i<4→Tb.pgN (st.lv i)=true
 bare:∀i,i<4→(st.lv i=0↔Tb.bareB st.tb i=true)
 hi:∀l,512≤l→st.tb l=0
section
variable {s:Sp} {pg:Nat}
theorem free_mem (hB:Base s pg) {p:Nat}:p∈freeL s↔p<pg∧2≤p∧heldS s p=false:=by
 unfold freeL
 rw [mem_tmems,hB.pgE,Int.toNat_natCast]
 unfold frB
 simp
theorem free_nodup (s:Sp):(freeL s).Nodup:=tmems_nodup _ _
def idx (s:Sp) (j n:Nat):Prop:=
 (n=0∧j=s.fr.keys.length+(movL s).length)∨(∃i t,i<4∧n=i+1∧t<(movL s).length∧j=s.fr.keys.length+t∧(movL s).getD t 0=i)∨(∃l,l<512∧n=l+5∧j<s.fr.keys.length∧s.fr.keys.getD j 0=l)
theorem idx_inj {j n k:Nat} (h1:idx s j n) (h2:idx s j k):n=k:=by
 rcases h1 with ⟨rfl,e1⟩ | ⟨i,t,hi,rfl,ht,e1,em⟩ | ⟨l,hl,rfl,hj,ek⟩ <;> rcases h2 with ⟨rfl,e2⟩ | ⟨i',t',hi',rfl,ht',e2,em'⟩ | ⟨l',hl',rfl,hj',ek'⟩ <;> try omega
 ·have:t=t':=by omega
  subst this;omega
theorem idx_lt {j n:Nat} (hN:needS s≤(freeL s).length) (h:idx s j n):j<(freeL s).length:=by
 unfold needS at hN
 rcases h with ⟨_,e1⟩ | ⟨_,t,_,_,ht,e1,_⟩ | ⟨_,_,_,hj,_⟩ <;> omega
theorem plT_key (s:Sp) {j:Nat} (hj:j<s.fr.keys.length):plT s (s.fr.keys.getD j 0)=(freeL s).getD j 0:=by
 unfold plT;rw [kT_mL];exact mL_key (keys_nodup _) _ _ _ _ hj (Nat.le_refl _)
theorem plT_not (s:Sp) {l:Nat} (h:l∉s.fr.keys):plT s l=s.kp l:=by
 unfold plT;rw [kT_mL]
 exact mL_not _ _ _ _ (fun j hj e=>h (by rw [←e];exact getD_mem hj))
theorem plL_mov (s:Sp) {t:Nat} (ht:t<(movL s).length):plL s ((movL s).getD t 0)=(freeL s).getD (s.fr.keys.length+t) 0:=by
 unfold plL plF
 rw [mL_key (show (movL s).Nodup from tmems_nodup _ _) _ _ _ _ ht (Nat.le_refl _),drop_getD]
theorem plL_not (s:Sp) {i:Nat} (hi:i<4) (h:movB s i=false):plL s i=if Tb.bareB (plT s) i=true then 0 else s.g.lv i:=by
 unfold plL
 rw [mL_not _ _ _ _ (fun j hj e=>by
  have h1:=getD_mem hj
  rw [e] at h1
  unfold movL at h1
  have h2:=(mem_tmems.1 h1).2
  rw [h] at h2;cases h2),bL_val]
 by_cases hb:Tb.bareB (plT s) i=true
 ·rw [if_pos ⟨hi,hb⟩,if_pos hb]
 ·rw [if_neg (fun h=>hb h.2),if_neg hb]
theorem plD_eq (s:Sp):plD s=(freeL s).getD (s.fr.keys.length+(movL s).length) 0:=by unfold plD plF;rw [drop_getD]
theorem movL_at (s:Sp) {i:Nat} (hi:i<4) (h:movB s i=true):∃t,t<(movL s).length∧(movL s).getD t 0=i:=mem_getD (mem_tmems.2 ⟨hi,h⟩)
theorem lab_src (_hB:Base s pg) (r:Rt) (n:Nat) (hn:n<517) :
  lab (planRt s r) (plL s) (plT s) n=0∨lab (planRt s r) (plL s) (plT s) n=lab ⟨0,0,0,0⟩ s.g.lv s.kp n∨∃j,idx s j n∧lab (planRt s r) (plL s) (plT s) n=(freeL s).getD j 0:=by
 rcases (show n=0∨(∃i,i<4∧n=i+1)∨(∃l,l<512∧n=l+5) by
  rcases Nat.lt_or_ge n 5 with h | h
  ·rcases Nat.eq_zero_or_pos n with h0 | h0
   ·exact .inl h0
   ·exact .inr (.inl ⟨n - 1,by omega,by omega⟩)
  ·exact .inr (.inr ⟨n - 5,by omega,by omega⟩)) with rfl | ⟨i,hi,rfl⟩ | ⟨l,hl,rfl⟩
 ·refine .inr (.inr ⟨_,.inl ⟨rfl,rfl⟩,?_⟩)
  rw [lab_dir,←plD_eq]
  exact Int.toNat_natCast _
 ·rw [lab_lv _ _ _ _ hi,lab_lv _ _ _ _ hi]
  cases h:movB s i
  ·rw [plL_not s hi h]
   split
   ·exact .inl rfl
   ·exact .inr (.inl rfl)
  ·obtain⟨t,ht,e⟩:=movL_at s hi h
   have h1:=plL_mov s ht
   rw [e] at h1
   exact .inr (.inr ⟨_,.inr (.inl ⟨i,t,hi,rfl,ht,rfl,e⟩),h1⟩)
 ·rw [lab_tb,lab_tb]
  by_cases h:l∈s.fr.keys
  ·obtain⟨j,hj,e⟩:=mem_getD h
   have h1:=plT_key s hj
   rw [e] at h1
   exact .inr (.inr ⟨_,.inr (.inr ⟨l,hl,rfl,hj,e⟩),h1⟩)
  ·exact .inr (.inl (plT_not s h))
theorem plan_apart (hB:Base s pg) (hN:needS s≤(freeL s).length) (r:Rt) (hr:r.pg=(pg:Int)):ApartS (planRt s r) (plL s) (plT s):=by
 have hF:∀ {j n},idx s j n→(freeL s).getD j 0<pg∧2≤(freeL s).getD j 0∧heldS s ((freeL s).getD j 0)=false:=fun h=>(free_mem hB).1 (getD_mem (idx_lt hN h))
 refine⟨fun n hn h0=>?_,fun n hn k hk h0 e=>?_⟩
 ·rw [List.mem_range] at hn
  show _<r.pg
  rw [hr]
  rcases lab_src hB r n hn with h | h | ⟨j,hj,h⟩
  ·exact absurd h h0
  ·rw [h] at h0 ⊢
   exact hB.ap.lt n (List.mem_range.2 hn) h0
  ·rw [h];have:=(hF hj).1;omega
 ·rw [List.mem_range] at hn hk
  rcases lab_src hB r n hn with h | h | ⟨j,hj,h⟩
  ·exact absurd h h0
  ·rcases lab_src hB r k hk with h2 | h2 | ⟨j2,hj2,h2⟩
   ·rw [h2] at e;exact absurd e h0
   ·rw [h] at h0;rw [h,h2] at e
    exact hB.ap.inj n (List.mem_range.2 hn) k (List.mem_range.2 hk) h0 e
   ·rw [h] at h0
    have h3:=hB.held n hn h0
    rw [h,h2] at e
    rw [e,(hF hj2).2.2] at h3;cases h3
  ·rcases lab_src hB r k hk with h2 | h2 | ⟨j2,hj2,h2⟩
   ·rw [h2] at e;exact absurd e h0
   ·rw [h,h2] at e
    have h3:=(hF hj).2.2
    rw [e] at h3
    have h4:=(hF hj).2.1
    rw [hB.held k hk (by omega)] at h3;cases h3
   ·rw [h,h2] at e
    have:=nodup_getD (free_nodup s) (idx_lt hN hj) (idx_lt hN hj2) e
    subst this
    exact idx_inj hj hj2
theorem free_two (hB:Base s pg) {j:Nat} (hj:j<(freeL s).length):2≤(freeL s).getD j 0∧(freeL s).getD j 0<pg:=by
 have:=(free_mem hB).1 (getD_mem hj)
 exact⟨this.2.1,this.1⟩
theorem key_at {l:Nat} (h:l∈s.fr.keys):∃b,s.fr l=some b:=Option.isSome_iff_exists.1 (Pgs.mem_keys.1 h).2
theorem bare_mov (hB:Base s pg) (hN:needS s≤(freeL s).length) {i:Nat} (_hi:i<4) (h:movB s i=true):Tb.bareB (plT s) i=false:=by
 cases e:Tb.bareB (plT s) i
 ·rfl
 ·exfalso
  have hz:=bare_iff.1 e
  unfold movB at h
  rw [Bool.or_eq_true] at h
  rcases h with h | h
  ·obtain⟨l,hl,h1⟩:=freshB_iff.1 h
   obtain⟨j,hj,e2⟩:=mem_getD hl
   have h2:=plT_key s hj
   rw [e2] at h2
   have h3:=hz (l % 128) (Nat.mod_lt _ (by omega))
   rw [show 128*i+l % 128=l by omega,h2] at h3
   unfold needS at hN
   have:=(free_two hB (j:=j) (by omega)).1
   omega
  ·rw [Bool.and_eq_true,Bool.not_eq_true'] at h
   have h2:=h.2
   rw [show Tb.bareB s.kp i=true from bare_iff.2 fun k hk=>by
    by_cases hm:128*i+k∈s.fr.keys
    ·obtain⟨b,hb⟩:=key_at hm
     exact(hB.ex _ _ hb).1
    ·rw [←plT_not s hm];exact hz k hk] at h2
   cases h2
theorem leaf_same (_hB:Base s pg) {i:Nat} (h:movB s i=false) (hb:Tb.bareB (plT s) i=false):∀k,k<128→plT s (128*i+k)=s.g.tb (128*i+k):=by
 unfold movB at h
 rw [Bool.or_eq_false_iff] at h
 have hnk:∀k,k<128→128*i+k∉s.fr.keys:=fun k hk hm=>by
  have:=freshB_iff.2 ⟨_,hm,show (128*i+k) / 128=i by omega⟩
  rw [h.1] at this;cases this
 have hkb:Tb.bareB s.kp i=false:=by
  cases e:Tb.bareB s.kp i
  ·rfl
  ·rw [show Tb.bareB (plT s) i=true from bare_iff.2 fun k hk=>by rw [plT_not s (hnk k hk)];exact bare_iff.1 e k hk] at hb;cases hb
 have h2:=h.2
 rw [hkb] at h2
 have hd:Tb.difB s.kp s.g.tb i=false:=by simpa using h2
 intro k hk
 rw [plT_not s (hnk k hk)]
 exact dif_iff.1 hd k hk
theorem plan_bare (hB:Base s pg) (hN:needS s≤(freeL s).length) (i:Nat) (hi:i<4):plL s i=0↔Tb.bareB (plT s) i=true:=by
 cases h:movB s i
 ·rw [plL_not s hi h]
  constructor
  ·intro h0
   by_cases hb:Tb.bareB (plT s) i=true
   ·exact hb
   ·exfalso
    rw [if_neg hb] at h0
    have hbf:Tb.bareB (plT s) i=false:=by simpa using hb
    refine hB.lvb i hi ?_ h0
    cases e:Tb.bareB s.g.tb i
    ·rfl
    ·exact absurd (bare_iff.2 fun k hk=>by rw [leaf_same hB h hbf k hk];exact bare_iff.1 e k hk) hb
  ·intro hb;rw [if_pos hb]
 ·have hbf:=bare_mov hB hN hi h
  obtain⟨t,ht,e⟩:=movL_at s hi h
  have h1:=plL_mov s ht
  rw [e] at h1
  unfold needS at hN
  have:=(free_two hB (j:=s.fr.keys.length+t) (by omega)).1
  rw [hbf,h1]
  constructor
  ·intro h0;omega
  ·intro h0;cases h0
theorem free_pgN (hB:Base s pg) {j:Nat} (hj:j<(freeL s).length):Tb.pgN ((freeL s).getD j 0)=true:=by
 have h1:=free_two hB hj
 have h2:=hB.p5
 generalize (freeL s).getD j 0=x at *
 unfold Tb.pgN
 simp;omega
theorem plan_okt (hB:Base s pg) (hN:needS s≤(freeL s).length):Tb.Ok (plT s):=fun l=>by
 by_cases h:l∈s.fr.keys
 ·obtain⟨j,hj,e⟩:=mem_getD h
  have h1:=plT_key s hj
  rw [e] at h1
  rw [h1]
  unfold needS at hN
  exact free_pgN hB (by omega)
 ·rw [plT_not s h];exact hB.okk l
theorem plan_okl (hB:Base s pg) (hN:needS s≤(freeL s).length) (i:Nat) (hi:i<4):Tb.pgN (plL s i)=true:=by
 cases h:movB s i
 ·rw [plL_not s hi h]
  split
  ·rfl
  ·exact hB.okl i hi
 ·obtain⟨t,ht,e⟩:=movL_at s hi h
  have h1:=plL_mov s ht
  rw [e] at h1
  rw [h1]
  unfold needS at hN
  exact free_pgN hB (by omega)
theorem plan_mays (hB:Base s pg) (hN:needS s≤(freeL s).length) {r:Rt} (hr:r.pg=(pg:Int)) (hm:may r=true):Mays (planRt s r):=by
 have h:=may_yes hm
 have h1:s.fr.keys.length+(movL s).length<(freeL s).length:=by unfold needS at hN;omega
 have h2:=free_two hB h1
 rw [←plD_eq] at h2
 exact⟨h.e0,h.e1,h.p0,h.p1,by show (2:Int)≤(plD s:Int);omega,by show (plD s:Int)<r.pg;omega,h.w0,h.w1⟩
theorem plan_good (hB:Base s pg) (hN:needS s≤(freeL s).length) {r:Rt} (hr:r.pg=(pg:Int)) (hm:may r=true):StGood ⟨planRt s r,plL s,plT s,some (plU s r)⟩:=by
 have hM:=plan_mays hB hN hr hm
 have hA:=plan_apart hB hN r hr
 refine⟨hM,?_,hA,plan_okt hB hN,plan_okl hB hN,plan_bare hB hN,fun l hl=>?_⟩
 ·unfold plU;rw [pgsM_yes hM.d0 hM.p1 hA]
 ·show plT s l=0
  rw [plT_not s (fun h=>by have:=(Pgs.mem_keys.1 h).1;omega)]
  exact hB.hi l hl
theorem plU_eq (hB:Base s pg) (hN:needS s≤(freeL s).length) {r:Rt} (hr:r.pg=(pg:Int)) (hm:may r=true):plU s r=usF (planRt s r) (plL s) (plT s):=by
 have hM:=plan_mays hB hN hr hm
 unfold plU;rw [pgsM_yes hM.d0 hM.p1 (plan_apart hB hN r hr)]
end
end
section
set_option maxRecDepth 20000
open Go.RowKit
section
variable {w:World} {g bO cO bL cL:Nat} {vW:Value} {os ls:List Value} {ws:List Vw} {m:Dsk}
set_option maxHeartbeats 800000 in
theorem barrier_up (h:Dk0 w g bO cO bL cL vW os ls ws m) (hd:m.down=false) (hz:m.fuse≠0) (hn:m.done≤4611686018427387904) (hl:m.row.length≤4611686018427387904) :
  Calls Tryz.prog 145 #[.pointer (some ⟨g,0,none⟩)] w fun e w'=>e = .returned (.int .i64 0)∧Went (foot g bO bL vW) g (barM m) w w':=by
 have HR:=Lib.hid (ready_up h hd)
 have HBu:=burn_any h hn
 rw [show burnE m=0 from if_neg hz,show burnM m=burns m from if_neg hz] at HBu
 have HBU:=Lib.hid HBu
 clear HBu
 have HFin:Hid (forgot (mkf (burns m) all128 m.row.length)=barM m):=Lib.hid (by
  unfold barM
  rw [if_neg (by simp [hd]),if_neg hz]
  show ({ burns m with out:=failN m.row m.out all128 m.row.length,row:=[] }:Dsk)=_
  rw [failN_all (f:=all128) h.ok.out h.ok.row (fun _ _=>rfl) _ (Nat.le_refl _)];rfl)
 have H0:Hid (Stays g bO cO bL cL vW os ls ws m w w):=Lib.hid (Stays.refl h)
 clear h hd hz
 obtain⟨n,hnn⟩:∃n,Hid (m.row.length=n):=⟨_,Lib.hid rfl⟩
 rw [hnn.out] at hl HFin
 go_enter Tryz.func145,Tryz.ntmps145
 go_wp2_with fail
 refine HR.out.mono ?_
 rintro e w1 ⟨rfl,rfl⟩
 go_wp2_with fail
 refine HBU.out.mono ?_
 rintro e w1 ⟨rfl,hs⟩
 have HS:=Lib.hid hs
 clear hs HBU HR H0
 obtain⟨q,cq,hvW⟩:=HS.out.1.wslice n hnn
 have hc2:=HS.out.1.c2
 rw [hvW] at hc2
 have HV:=Lib.hid hvW
 clear hvW
 go_wp2_with fail
 clear hc2
 have HS0:Hid (Stays g bO cO bL cL vW os ls ws (mkf (burns m) all128 0) w w1):=HS
 go_loopw [21] (fun iv wr=>∃k:Nat,k≤n∧iv = .int .i64 (k:Int)∧Hid (∃os',Stays g bO cO bL cL vW os' ls ws (mkf (burns m) all128 k) w wr)) (fun iv _=>n - (RowKit.intOf iv).toNat)
 case atStart=>exact⟨0,by omega,by go_num,Lib.hid ⟨_,HS0.out⟩⟩
 case round=>
  obtain⟨k,hk,rfl,hr⟩:=hrel
  clear HS HS0
  by_cases hlt:k<n
  ·go_wp2_with fail
   obtain⟨os',hs⟩:=hr.out
   have HS:=Lib.hid hs
   clear hs hr
   refine(bring_step HS.out.1 (f:=all128) (k:=k) (a:=128) (show k<m.row.length by rw [hnn.out];exact hlt) rfl (by omega) (show m.row.length≤_ by rw [hnn.out];exact hl) 128 (Lib.hid rfl)).mono ?_
   rintro e w3 ⟨rfl,os2,hs2⟩
   have HS2:=Lib.hid (HS.out.trans hs2)
   clear hs2 HS
   go_wp2_with fail
   go_roundw
   case rel=>exact⟨k+1,by omega,by go_num,Lib.hid ⟨_,HS2.out⟩⟩
   case measure=>simp [RowKit.intOf];omega
  ·obtain rfl:k=n:=by omega
   go_wp2_with fail
   obtain⟨os',hs⟩:=hr.out
   have HS:=Lib.hid hs
   clear hs hr
   refine(forget_any HS.out.1).mono ?_
   rintro e w3 ⟨rfl,hD,hC⟩
   rw [HFin.out] at hD
   have HW:Hid (Went (foot g bO bL vW) g (barM m) w w3):=Lib.hid ⟨_,hD.went,HS.out.2.trans hC⟩
   clear hD hC HS
   go_wp2_with fail
   go_ret
   exact⟨rfl,HW.out⟩
set_option maxHeartbeats 400000 in
theorem barrier_down (h:Dk0 w g bO cO bL cL vW os ls ws m) (hd:m.down=true) :
  Calls Tryz.prog 145 #[.pointer (some ⟨g,0,none⟩)] w fun e w'=>e = .returned (.int .i64 9)∧w=w':=by
 have HR:=Lib.hid (ready_down h hd)
 clear h hd
 go_enter Tryz.func145,Tryz.ntmps145
 go_wp2_with (go_at_call 184;refine HR.out.mono ?_;rintro e w' ⟨rfl,rfl⟩)
 go_ret
 exact⟨rfl,rfl⟩
set_option maxHeartbeats 400000 in
theorem barrier_burnt (h:Dk0 w g bO cO bL cL vW os ls ws m) (hd:m.down=false) (hz:m.fuse=0) (hn:m.done≤4611686018427387904) :
  Calls Tryz.prog 145 #[.pointer (some ⟨g,0,none⟩)] w fun e w'=>e = .returned (.int .i64 9)∧Went (foot g bO bL vW) g (burnt m) w w':=by
 have HR:=Lib.hid (ready_up h hd)
 have HBu:=burn_any h hn
 rw [show burnE m=9 from if_pos hz,show burnM m=burnt m from if_pos hz] at HBu
 have HBU:=Lib.hid HBu
 clear HBu h hd hz
 go_enter Tryz.func145,Tryz.ntmps145
 go_wp2_with fail
 refine HR.out.mono ?_
 rintro e w1 ⟨rfl,rfl⟩
 go_wp2_with fail
 refine HBU.out.mono ?_
 rintro e w1 ⟨rfl,hs⟩
 have HS:=Lib.hid hs
 clear hs
 go_wp2_with fail
 go_ret
 exact⟨rfl,_,HS.out.1.went,HS.out.2⟩
end
theorem barrier_any {w:World} {g:Nat} {F:List Nat} {m:Dsk} (h:Dk w g F m) (hn:m.done≤4611686018427387904) (hl:m.row.length≤4611686018427387904) :
  Calls Tryz.prog 145 #[.pointer (some ⟨g,0,none⟩)] w fun e w'=>e = .returned (.int .i64 (barE m))∧Went F g (barM m) w w':=by
 obtain⟨bO,cO,bL,cL,vW,os,ls,ws,h,rfl⟩:=h
 by_cases hd:m.down=true
 ·have hE:barE m=9:=by unfold barE;rw [if_pos hd]
  have hM:barM m=m:=by unfold barM;rw [if_pos hd]
  rw [hE,hM]
  refine(barrier_down h hd).mono ?_
  rintro e w' ⟨rfl,rfl⟩
  exact⟨rfl,Went.refl h.went⟩
 ·have hd0:m.down=false:=by simpa using hd
  by_cases hz:m.fuse=0
  ·have hE:barE m=9:=by unfold barE;rw [if_neg hd,if_pos hz]
   have hM:barM m=burnt m:=by unfold barM;rw [if_neg hd,if_pos hz]
   rw [hE,hM]
   exact barrier_burnt h hd0 hz hn
  ·have hE:barE m=0:=by unfold barE;rw [if_neg hd,if_neg hz]
   rw [hE]
   exact barrier_up h hd0 hz hn hl
end
section
set_option maxRecDepth 20000
open Go.RowKit
def layW (m:Dsk) (ps:List (Nat × List Nat)):Nat→Dsk × Int
 | 0=>(m,0)
 | k+1=>if (layW m ps k).2≠0 then layW m ps k else wpE (layW m ps k).1 (ps.getD k (0,[])).1 (ps.getD k (0,[])).2 4
def layM (m:Dsk) (ps:List (Nat × List Nat)) (r:Rt):Dsk × Int:=
 if (layW m ps ps.length).2≠0 then layW m ps ps.length else
 if barE (layW m ps ps.length).1≠0 then (barM (layW m ps ps.length).1,barE (layW m ps ps.length).1) else
 if putE (barM (layW m ps ps.length).1) (place r.ep) (block r)≠0 then (putM (barM (layW m ps ps.length).1) (place r.ep) (block r),putE (barM (layW m ps ps.length).1) (place r.ep) (block r)) else
 (barM (putM (barM (layW m ps ps.length).1) (place r.ep) (block r)),barE (putM (barM (layW m ps ps.length).1) (place r.ep) (block r)))
theorem layW_stop (m:Dsk) (ps:List (Nat × List Nat)) (k:Nat) (h:(layW m ps k).2≠0):∀j,k≤j→layW m ps j=layW m ps k:=by
 intro j hj
 induction j with
 | zero=>obtain rfl:k=0:=Nat.le_zero.1 hj;rfl
 | succ j ih=>
  by_cases e:k=j+1
  ·rw [e]
  ·have h1:=ih (by omega)
   show (if (layW m ps j).2≠0 then layW m ps j else _)=_
   rw [h1,if_pos h]
theorem layW_bounds (m:Dsk) (ps:List (Nat × List Nat)) (k:Nat):(layW m ps k).1.done≤m.done+4*k∧(layW m ps k).1.row.length≤m.row.length+4*k∧(layW m ps k).1.out=m.out:=by
 induction k with
 | zero=>exact⟨Nat.le_refl _,Nat.le_refl _,rfl⟩
 | succ k ih=>
  have e:layW m ps (k+1)=if (layW m ps k).2≠0 then layW m ps k else wpE (layW m ps k).1 (ps.getD k (0,[])).1 (ps.getD k (0,[])).2 4:=rfl
  rw [e]
  split
  ·exact⟨by omega,by omega,ih.2.2⟩
  ·have h1:=wpE_bounds (layW m ps k).1 (ps.getD k (0,[])).1 (ps.getD k (0,[])).2 4
   exact⟨by omega,by omega,h1.2.2.trans ih.2.2⟩
theorem wrs_get (ps:List (Nat × List Nat)) (k:Nat) (h:k<ps.length):(wrs ps)[k*2]?=some (.int .i64 (((ps.getD k (0,[])).1:Nat):Int))∧(wrs ps)[k*2+1]?=some (.string (strB (ps.getD k (0,[])).2)):=by
 induction ps generalizing k with
 | nil=>cases h
 | cons a ps ih=>
  cases k with
  | zero=>exact⟨rfl,rfl⟩
  | succ k=>
   have h2:=ih k (by simpa using h)
   have e:wrs (a :: ps) = .int .i64 ((a.1:Nat):Int) :: .string (strB a.2) :: wrs ps:=rfl
   rw [e,show (k+1)*2=k*2+1+1 by omega]
   exact h2
theorem own_dsk {F F':List Nat} {w w':World} {base E n k:Nat} {v:Value} {xs:List Value} (h:w.ownsRow base E n v k xs) (hc:Chg F F' w w') (hT:Typed w F) (hE:E≠89∧E≠71∧E≠151):w'.ownsRow base E n v k xs:=by
 refine⟨h.1,?_⟩
 rcases h.2 with h2 | ⟨g,cap,cur,e,hb,hg,hr⟩
 ·exact .inl h2
 ·exact .inr ⟨g,cap,cur,e,hb,hc.keep hT hg hE,hr⟩
structure LyK (W:World) (g d br:Nat) (r:Rt) (B:Nat) (p:Option Addr) (n c:Nat) (ps:List (Nat × List Nat)):Prop where
 sp:∃cs fr,W.heap[g]?=some (.cells cs 101 fr)∧cs[0]?=some (.pointer (some ⟨d,0,none⟩))
 rt:RtAt W br 93 r
 row:W.ownsRow B 191 2 (.slice p n c) n (wrs ps)
section
variable {W W':World} {g d br:Nat} {r:Rt} {B n c:Nat} {p:Option Addr} {ps:List (Nat × List Nat)} {F F':List Nat}
theorem LyK.below (h:LyK W g d br r B p n c ps) (hb:Below W.heap.size W W'):LyK W' g d br r B p n c ps:=by
 obtain⟨cs,fr,h1,h2⟩:=h.sp
 exact⟨⟨cs,fr,(hb.block _ (lt_of_block h1)).trans h1,h2⟩,h.rt.below hb,own_below h.row hb⟩
theorem LyK.chg (h:LyK W g d br r B p n c ps) (hc:Chg F F' W W') (hT:Typed W F):LyK W' g d br r B p n c ps:=by
 obtain⟨cs,fr,h1,h2⟩:=h.sp
 exact⟨⟨cs,fr,hc.keep hT h1 (by decide),h2⟩,hc.keep hT h.rt (by decide),own_dsk h.row hc hT (by decide)⟩
theorem LyK.c0 (h:LyK W g d br r B p n c ps):W.cell? ⟨g,0,none⟩=some (.pointer (some ⟨d,0,none⟩)):=by
 obtain⟨cs,fr,h1,h2⟩:=h.sp
 rw [cell_of_row _ _ _ _ _ _ h1];exact h2
theorem LyK.at (h:LyK W g d br r B p n c ps) (hn:ps.length=n) {k:Nat} (hk:k<n):∃bq,p=some ⟨bq,0,none⟩∧n≤c∧W.cell? ⟨bq,k*2,none⟩=some (.int .i64 (((ps.getD k (0,[])).1:Nat):Int))∧W.cell? ⟨bq,k*2+1,none⟩=some (.string (strB (ps.getD k (0,[])).2)):=by
 have hr:=h.row
 rcases hr.2 with ⟨e,hx⟩ | ⟨g',cap,cur,e,_,_,h1,_⟩
 ·cases e;omega
 ·cases e
  have a1:=hr.cellAt (k*2) (by omega)
  have a2:=hr.cellAt (k*2+1) (by omega)
  obtain⟨f1,f2⟩:=wrs_get ps k (by omega)
  rw [f1] at a1
  rw [f2] at a2
  exact⟨g',rfl,h1,a1,a2⟩
end
end
section
set_option maxRecDepth 20000
open Go.RowKit
theorem bar_bounds (m:Dsk):(barM m).done≤m.done+1∧(barM m).row.length≤m.row.length∧(barM m).out.length=m.out.length:=by
 unfold barM burns burnt
 repeat' split
 all_goals first | exact⟨by omega,by omega,rfl⟩ | exact⟨by show m.done≤_;omega,by show m.row.length≤_;omega,rfl⟩ | exact⟨by show m.done≤_;omega,by show 0≤_;omega,last_len m⟩ | exact⟨by show m.done+1≤_;omega,by show 0≤_;omega,last_len m⟩
section
variable {w:World} {g d:Nat} {F:List Nat} {m:Dsk} {B n c:Nat} {p:Option Addr} {ps:List (Nat × List Nat)} {r:Rt}
set_option maxHeartbeats 3200000 in
theorem lay_any (h:Dk w d F m) (hsp:∃cs fr,w.heap[g]?=some (.cells cs 101 fr)∧cs[0]?=some (.pointer (some ⟨d,0,none⟩))) (hrow:w.ownsRow B 191 2 (.slice p n c) n (wrs ps)) (hn:ps.length=n) (hn2:n≤1000)
  (hps:∀k,k<n→(ps.getD k (0,[])).2.length=512∧(∀x∈(ps.getD k (0,[])).2,x<256)∧(ps.getD k (0,[])).1≤512) (hm:Mays r) (hl:r.pg*4≤(m.out.length:Int)) (hdn:m.done≤4611686018427380000) (hrl:m.row.length≤1099511620000) :
  Calls Tryz.prog 89 #[.pointer (some ⟨g,0,none⟩),.slice p n c,r.val] w fun e w'=>e = .returned (.int .i64 (layM m ps r).2)∧Went F d (layM m ps r).1 w w':=by
 have HPS:=Lib.hid hps
 have HN:=Lib.hid hn
 have HB0:=Lib.hid (alloc_below w (.cells #[.int .i64 r.ep,.int .i64 r.pg,.int .i64 r.dr,.int .i64 r.wd] 93))
 have HT0:=Lib.hid (h.below HB0.out).typed
 have HW0:=Lib.hid (Went.refl (h.below HB0.out))
 obtain⟨br,hbr⟩:∃br,w.heap.size=br:=⟨_,rfl⟩
 have HK0:Hid (LyK (w.alloc (.cells #[.int .i64 r.ep,.int .i64 r.pg,.int .i64 r.dr,.int .i64 r.wd] 93)) g d br r B p n c ps):=Lib.hid (by
  rw [←hbr]
  obtain⟨cs,fr,h1,h2⟩:=hsp
  exact⟨⟨cs,fr,(HB0.out.block _ (lt_of_block h1)).trans h1,h2⟩,RtAt.new w r 93,own_below hrow HB0.out⟩)
 have HDN:=Lib.hid hdn
 have HRL:=Lib.hid hrl
 have HM:=Lib.hid hm
 have HL:=Lib.hid hl
 clear h hsp hrow hps hn hm hl hdn hrl
 have HFA:Hid (∀W,Went F d (layM m ps r).1 (w.alloc (.cells #[.int .i64 r.ep,.int .i64 r.pg,.int .i64 r.dr,.int .i64 r.wd] 93)) W→Went F d (layM m ps r).1 w W):=Lib.hid fun W hW=>hW.after HB0.out
 unfold Rt.val
 go_enter Tryz.func89,Tryz.ntmps89
 go_upto_region 1 with fail
 have HBR:=Lib.hid hbr
 clear hbr HB0
 generalize w.alloc (.cells #[.int .i64 r.ep,.int .i64 r.pg,.int .i64 r.dr,.int .i64 r.wd] 93)=w0 at *
 go_wp2_with fail
 go_loopw [8,9,14] (fun _ _ iv wr=>∃k:Nat,k≤n∧iv = .int .i64 (k:Int)∧Hid ((layW m ps k).2=0)∧Hid (Went F d (layW m ps k).1 w0 wr)) (fun _ _ iv _=>n - (RowKit.intOf iv).toNat)
 case atStart=>exact⟨0,Nat.zero_le _,by go_num,Lib.hid rfl,HW0⟩
 case round=>
  obtain⟨k,hk,rfl,hz,hwt⟩:=hrel
  obtain⟨F1,hD1,hC1⟩:=hwt.out
  have HKr:=Lib.hid (HK0.out.chg hC1 HT0.out)
  have HD1:=Lib.hid hD1
  have HC1:=Lib.hid hC1
  clear hD1 hC1
  by_cases hlt:k<n
  ·have hkn:(k:Int)<(n:Int):=by omega
   obtain⟨bq,rfl,hnc,a0,a1⟩:=HKr.out.at HN.out hlt
   obtain⟨h512,hdig,hp5⟩:=HPS.out k hlt
   have hbd:=layW_bounds m ps k
   have HNX:Hid (layW m ps (k+1)=wpE (layW m ps k).1 (ps.getD k (0,[])).1 (ps.getD k (0,[])).2 4):=Lib.hid (by
    show (if (layW m ps k).2≠0 then _ else _)=_
    rw [if_neg (by rw [hz.out];decide)])
   have HB1:Hid (Below wr.heap.size wr (wr.alloc (.cells #[.int .i64 (((ps.getD k (0,[])).1:Nat):Int),.string (strB (ps.getD k (0,[])).2)] 191))):=Lib.hid (alloc_below wr _)
   have HWP:Hid (∀W2,Below (wr.alloc (.cells #[.int .i64 (((ps.getD k (0,[])).1:Nat):Int),.string (strB (ps.getD k (0,[])).2)] 191)).heap.size (wr.alloc (.cells #[.int .i64 (((ps.getD k (0,[])).1:Nat):Int),.string (strB (ps.getD k (0,[])).2)] 191)) W2→Calls Tryz.prog 144 #[.pointer (some ⟨d,0,none⟩),.int .i64 (((ps.getD k (0,[])).1:Nat):Int),.string (strB (ps.getD k (0,[])).2)] W2 fun e w'=>e = .returned (.int .i64 (layW m ps (k+1)).2)∧Went F d (layW m ps (k+1)).1 w0 w'∧w'.cell? ⟨g,0,none⟩=some (.pointer (some ⟨d,0,none⟩))∧w'.cell? ⟨wr.heap.size,0,none⟩=some (.int .i64 (((ps.getD k (0,[])).1:Nat):Int))∧w'.cell? ⟨wr.heap.size,1,none⟩=some (.string (strB (ps.getD k (0,[])).2))):=Lib.hid fun W2 hb=>by
    rw [HNX.out]
    have hb2:=Below.more HB1.out hb HB1.out.size
    have hD2:=HD1.out.below hb2
    refine(writePage_any hD2 _ _ h512 hdig hp5 (by have:=HDN.out;omega) (by have:=HRL.out;omega)).mono ?_
    rintro e w' ⟨he,F2,hD3,hC2⟩
    have hbx:=(hb.block wr.heap.size (by simp)).trans (heap_alloc_new wr (.cells #[.int .i64 (((ps.getD k (0,[])).1:Nat):Int),.string (strB (ps.getD k (0,[])).2)] 191))
    have hbx2:=hC2.keep hD2.typed hbx (by decide)
    exact⟨he,⟨F2,hD3,HC1.out.trans ((Chg.of_below hb2).trans hC2)⟩,((HKr.out.below hb2).chg hC2 hD2.typed).c0,by rw [cell_of_row _ _ _ _ _ _ hbx2];rfl,by rw [cell_of_row _ _ _ _ _ _ hbx2];rfl⟩
   have x0:=(HKr.out.below HB1.out).c0
   clear h512 hdig hp5 hbd HNX
   generalize (ps.getD k (0,[])).1=pg at *
   generalize strB (ps.getD k (0,[])).2=S at *
   have b0:=World.cell?_alloc_new wr #[.int .i64 (pg:Int),.string S] 191 0
   have b1:=World.cell?_alloc_new wr #[.int .i64 (pg:Int),.string S] 191 1
   go_upto_region 4 with fail
   go_region_held3 (fun u:World=>u.cell? ⟨g,0,none⟩=some (.pointer (some ⟨d,0,none⟩))∧u.cell? ⟨wr.heap.size,0,none⟩=some (.int .i64 (pg:Int))∧u.cell? ⟨wr.heap.size,1,none⟩=some (.string S)) ((first
    | with_reducible exact⟨y0,y1,y2⟩
    | go_keep)) (first
    | (go_at_call 144;refine(HWP.out _ (Below.refl _ _).drew).mono ?_;rintro e w5 ⟨rfl,hw5,y0,y1,y2⟩))
   clear a0 a1 b0 b1 x0 y0 y1 y2
   obtain⟨E,HE⟩:∃E,Hid ((layW m ps (k+1)).2=E):=⟨_,Lib.hid rfl⟩
   have HW5:=Lib.hid hw5
   rw [HE.out]
   clear hw5 HWP
   by_cases hE:E=0
   ·subst hE
    go_wp2_with fail
    go_roundw
    case rel=>exact⟨k+1,by omega,by go_num,HE,HW5⟩
    case measure=>simp [RowKit.intOf];omega
   ·have hb:(E != 0)=true:=by simpa using hE
    have HLM:Hid (layM m ps r=layW m ps (k+1)):=Lib.hid (by
     have h1:=layW_stop m ps (k+1) (by rw [HE.out];exact hE) ps.length (by rw [HN.out];omega)
     unfold layM
     rw [h1,if_pos (by rw [HE.out];exact hE)])
    clear hE
    go_wp2_with fail
    go_ret
    exact⟨by rw [HLM.out,HE.out];rfl,HFA.out _ (by rw [HLM.out];exact HW5.out)⟩
  ·obtain rfl:k=n:=by omega
   have hbd:=layW_bounds m ps k
   obtain⟨m1,hm1⟩:∃m1,(layW m ps k).1=m1:=⟨_,rfl⟩
   rw [hm1] at HD1 hbd
   have HLY:Hid (layM m ps r=if barE m1≠0 then (barM m1,barE m1) else if putE (barM m1) (place r.ep) (block r)≠0 then (putM (barM m1) (place r.ep) (block r),putE (barM m1) (place r.ep) (block r)) else (barM (putM (barM m1) (place r.ep) (block r)),barE (putM (barM m1) (place r.ep) (block r)))):=Lib.hid (by
    unfold layM
    rw [HN.out,if_neg (by rw [hz.out];decide),hm1])
   have HD:=Lib.hid (⟨by have:=HDN.out;omega,by have:=HRL.out;omega,by rw [hbd.2.2];exact HL.out⟩:m1.done≤4611686018427384000∧m1.row.length≤1099511624000∧r.pg*4≤(m1.out.length:Int))
   clear hbd hm1 hlt hwt hz
   have c0:=HKr.out.c0
   have HBA:=Lib.hid (barrier_any HD1.out (by have:=HD.out;omega) (by have:=HD.out;omega))
   obtain⟨E1,HE1⟩:∃E1,Hid (barE m1=E1):=⟨_,Lib.hid rfl⟩
   rw [HE1.out] at HBA
   go_upto_region 9 with (go_at_call 145;refine HBA.out.mono ?_;rintro e w6 ⟨rfl,hw6⟩;have HW6:=Lib.hid hw6;clear hw6)
   obtain⟨F6,hD6,hC6⟩:=HW6.out
   have HK6:=Lib.hid (HKr.out.chg hC6 HD1.out.typed)
   have HD6:=Lib.hid hD6
   have HC6:=Lib.hid (HC1.out.trans hC6)
   clear hD6 hC6 HW6 HBA c0
   by_cases hE:E1=0
   ·subst hE
    have hbb:=bar_bounds m1
    obtain⟨m2,hm2⟩:∃m2,barM m1=m2:=⟨_,rfl⟩
    have hLY:=HLY.out
    rw [HE1.out,if_neg (by decide),hm2] at hLY
    rw [hm2] at HD6 hbb
    have HL2:=Lib.hid hLY
    have HS6:Hid (∀u,Below w6.heap.size w6 u→Calls Tryz.prog 146 #[.pointer (some ⟨d,0,none⟩),r.val] u fun e w'=>e = .returned (.int .i64 (putE m2 (place r.ep) (block r)))∧Went F d (putM m2 (place r.ep) (block r)) w0 w'∧LyK w' g d br r B p k c ps):=Lib.hid fun u hu=>by
     have hDu:=HD6.out.below hu
     refine(store_put r u hDu HM.out (by have:=HD.out;omega) (by have:=HD.out;omega) (by have:=HD.out;omega)).mono ?_
     rintro e w' ⟨he,F7,hD7,hC7⟩
     exact⟨he,⟨F7,hD7,HC6.out.trans ((Chg.of_below hu).trans hC7)⟩,(HK6.out.below hu).chg hC7 hDu.typed⟩
    have HDD:=Lib.hid (⟨by have:=HD.out;omega,by have:=HD.out;omega⟩:m2.done≤4611686018427385000∧m2.row.length≤1099511625000)
    clear hbb hm2 hLY HLY
    have hpb:=put_bounds m2 (place r.ep) (block r)
    obtain⟨m3,hm3⟩:∃m3,putM m2 (place r.ep) (block r)=m3:=⟨_,rfl⟩
    obtain⟨E2,hE2⟩:∃E2,putE m2 (place r.ep) (block r)=E2:=⟨_,rfl⟩
    rw [hm3] at hpb
    rw [hm3,hE2] at HL2 HS6
    clear hm3 hE2
    have c0:=HK6.out.c0
    have r0:=HK6.out.rt.c0
    have r1:=HK6.out.rt.c1
    have r2:=HK6.out.rt.c2
    have r3:=HK6.out.rt.c3
    have HRV:Hid (r.val = .agg #[.int .i64 r.ep,.int .i64 r.pg,.int .i64 r.dr,.int .i64 r.wd]):=Lib.hid rfl
    rw [HRV.out] at HS6
    go_upto_region 11 with fail
    go_region_held3 (fun u:World=>u.cell? ⟨g,0,none⟩=some (.pointer (some ⟨d,0,none⟩))∧u.cell? ⟨br,0,none⟩=some (.int .i64 r.ep)∧u.cell? ⟨br,1,none⟩=some (.int .i64 r.pg)∧u.cell? ⟨br,2,none⟩=some (.int .i64 r.dr)∧u.cell? ⟨br,3,none⟩=some (.int .i64 r.wd)) ((first
     | with_reducible exact⟨hk7.c0,hk7.rt.c0,hk7.rt.c1,hk7.rt.c2,hk7.rt.c3⟩
     | go_keep)) (first
     | (go_at_call 146;refine(HS6.out _ (Below.refl _ _).drew).mono ?_;rintro e w7 ⟨rfl,hw7,hk7⟩))
    obtain⟨F7,hD7,hC7⟩:=hw7
    have HD7:=Lib.hid hD7
    have HC7:=Lib.hid hC7
    have HK7:=Lib.hid hk7
    clear hD7 hC7 hk7 c0 r0 r1 r2 r3 HS6
    by_cases hE:E2=0
    ·subst hE
     have hLY:=HL2.out
     rw [if_neg (by decide)] at hLY
     have HLM:=Lib.hid hLY
     have HBA:=Lib.hid (barrier_any HD7.out (by have:=HDD.out;omega) (by have:=HDD.out;omega))
     have c0:=HK7.out.c0
     clear hLY HL2 hpb
     go_wp2_with (go_at_call 145;refine HBA.out.mono ?_;rintro e w8 ⟨rfl,hw8⟩;have HW8:=Lib.hid hw8;clear hw8)
     go_ret
     obtain⟨F8,hD8,hC8⟩:=HW8.out
     exact⟨by rw [HLM.out];rfl,HFA.out _ (by rw [HLM.out];exact⟨F8,hD8,HC7.out.trans hC8⟩)⟩
    ·have hb:(E2 != 0)=true:=by simpa using hE
     have HLM:Hid (layM m ps r=(m3,E2)):=Lib.hid (by rw [HL2.out,if_pos hE])
     clear hE
     go_wp2_with fail
     go_ret
     exact⟨by rw [HLM.out];rfl,HFA.out _ (by rw [HLM.out];exact⟨F7,HD7.out,HC7.out⟩)⟩
   ·have hb:(E1 != 0)=true:=by simpa using hE
    have HLM:Hid (layM m ps r=(barM m1,E1)):=Lib.hid (by rw [HLY.out,HE1.out,if_pos hE])
    clear hE
    go_wp2_with fail
    go_ret
    exact⟨by rw [HLM.out];rfl,HFA.out _ (by rw [HLM.out];exact⟨F6,HD6.out,HC6.out⟩)⟩
end
end
section
def oldB (was:Rt):List Nat:=if was.ep=0 then zs128 else block was
theorem oldB_none:oldB Rt.none_=zs128:=by unfold oldB;rw [if_pos (show Rt.none_.ep=0 from rfl)]
end
section
set_option maxRecDepth 20000
open Go.RowKit
def pgSetN (L:List (List Nat)) (p:Nat) (b:List Nat):Nat→List (List Nat)
 | 0=>L
 | i+1=>(pgSetN L p b i).set (4*p+i) ((b.drop (i*128)).take 128)
def pgSet (L:List (List Nat)) (p:Nat) (b:List Nat):List (List Nat):=pgSetN L p b 4
theorem pgSetN_len (L:List (List Nat)) (p:Nat) (b:List Nat) (i:Nat):(pgSetN L p b i).length=L.length:=by
 induction i with
 | zero=>rfl
 | succ i ih=>show ((pgSetN L p b i).set _ _).length=_;rw [List.length_set,ih]
theorem pgSetN_other (L:List (List Nat)) (p:Nat) (b:List Nat) (i j:Nat) (h:j / 4≠p) (hi:i≤4):sec (pgSetN L p b i) j=sec L j:=by
 induction i with
 | zero=>rfl
 | succ i ih=>
  have h1:=ih (by omega)
  show sec ((pgSetN L p b i).set (4*p+i) _) j=_
  rw [←h1]
  unfold sec
  rw [List.getD_eq_getElem?_getD,List.getD_eq_getElem?_getD,List.getElem?_set_ne (by omega)]
theorem pgSetN_same (L:List (List Nat)) (p:Nat) (b:List Nat) (hp:4*p+4≤L.length):∀(i j:Nat),j<i→i≤4→sec (pgSetN L p b i) (4*p+j)=(b.drop (j*128)).take 128
 | 0,j,h,_=>by omega
 | i+1,j,h,hi=>by
  show sec ((pgSetN L p b i).set (4*p+i) _) (4*p+j)=_
  rw [sec_set _ (by rw [pgSetN_len];omega)]
  by_cases e:i=j
  ·subst e;rw [if_pos rfl]
  ·rw [if_neg (by omega)]
   exact pgSetN_same L p b hp i j (by omega) (by omega)
theorem cat_four (f:Nat→List Nat):cat f 4=f 0++f 1++f 2++f 3:=by
 show ((([]++f 0)++f 1)++f 2)++f 3=_
 rw [List.nil_append]
theorem cut_four (b:List Nat) (h:b.length=512):(b.drop (0*128)).take 128++(b.drop (1*128)).take 128++(b.drop (2*128)).take 128++(b.drop (3*128)).take 128=b:=by
 have e:∀k,(b.drop k).take 128++(b.drop (k+128))=b.drop k:=fun k=>by
  rw [←List.drop_drop];exact List.take_append_drop 128 (b.drop k)
 have e3:(b.drop 384).take 128=b.drop 384:=List.take_of_length_le (by rw [List.length_drop];omega)
 show (b.drop 0).take 128++(b.drop 128).take 128++(b.drop 256).take 128++(b.drop 384).take 128=b
 rw [List.append_assoc,List.append_assoc,e3,e 256,e 128]
 have:=e 0
 rw [List.drop_zero] at this ⊢
 exact this
theorem pageB_same (L:List (List Nat)) (p:Nat) (b:List Nat) (hp:4*p+4≤L.length) (hb:b.length=512):pageB (pgSet L p b) p=b:=by
 unfold pageB pgSet
 rw [cat_four,pgSetN_same L p b hp 4 0 (by omega) (by omega),pgSetN_same L p b hp 4 1 (by omega) (by omega),pgSetN_same L p b hp 4 2 (by omega) (by omega),pgSetN_same L p b hp 4 3 (by omega) (by omega)]
 exact cut_four b hb
theorem pageB_congr {L L':List (List Nat)} {p:Nat} (h:∀j,j<4→sec L (4*p+j)=sec L' (4*p+j)):pageB L p=pageB L' p:=by
 unfold pageB
 rw [cat_four,cat_four,h 0 (by omega),h 1 (by omega),h 2 (by omega),h 3 (by omega)]
def wrP (L:List (List Nat)):List (Nat × List Nat)→List (List Nat)
 | []=>L
 | x :: ps=>wrP (pgSet L x.1 x.2) ps
theorem wrP_app (L:List (List Nat)) (a b:List (Nat × List Nat)):wrP L (a++b)=wrP (wrP L a) b:=by
 induction a generalizing L with
 | nil=>rfl
 | cons x a ih=>exact ih _
theorem wrP_len (L:List (List Nat)) (ps:List (Nat × List Nat)):(wrP L ps).length=L.length:=by
 induction ps generalizing L with
 | nil=>rfl
 | cons x ps ih=>show (wrP (pgSet L x.1 x.2) ps).length=_;rw [ih];exact pgSetN_len _ _ _ _
theorem wrP_sec (L:List (List Nat)) (ps:List (Nat × List Nat)) (j:Nat) (h:∀x∈ps,x.1≠j / 4):sec (wrP L ps) j=sec L j:=by
 induction ps generalizing L with
 | nil=>rfl
 | cons x ps ih=>
  show sec (wrP (pgSet L x.1 x.2) ps) j=_
  rw [ih _ (fun y hy=>h y (by simp [hy]))]
  exact pgSetN_other L x.1 x.2 4 j (fun e=>h x (by simp) e.symm) (Nat.le_refl _)
theorem wrP_other (L:List (List Nat)) (ps:List (Nat × List Nat)) (p:Nat) (h:∀x∈ps,x.1≠p):pageB (wrP L ps) p=pageB L p:=
 pageB_congr fun j hj=>wrP_sec L ps _ (fun x hx=>by rw [show (4*p+j) / 4=p by omega];exact h x hx)
theorem wrP_at (L:List (List Nat)) (ps:List (Nat × List Nat)) (hn:(ps.map (·.1)).Nodup) (x:Nat × List Nat) (hx:x∈ps) (hp:4*x.1+4≤L.length) (hb:x.2.length=512):pageB (wrP L ps) x.1=x.2:=by
 induction ps generalizing L with
 | nil=>cases hx
 | cons y ps ih=>
  rw [List.map_cons,List.nodup_cons] at hn
  show pageB (wrP (pgSet L y.1 y.2) ps) x.1=_
  rcases List.mem_cons.1 hx with rfl | h1
  ·rw [wrP_other _ ps _ (fun z hz e=>hn.1 (List.mem_map.2 ⟨z,hz,e⟩))]
   exact pageB_same L _ _ hp hb
  ·exact ih _ hn.2 h1 (by rw [show (pgSet L y.1 y.2).length=L.length from pgSetN_len _ _ _ _];exact hp)
theorem last_put {m:Dsk} {i:Nat} {s:List Nat} (hd:m.down=false) (hi:i<m.out.length) (hs:s.length=128) (hf:m.fuse≠0) :
  putM m (i:Int) s={ burns m with row:=m.row++[(i,s)] }∧putE m (i:Int) s=0∧(putM m (i:Int) s).last=m.last.set i s:=by
 have h1:m.has (i:Int)=true:=has_true (by omega) (by omega)
 have e:putM m (i:Int) s={ burns m with row:=m.row++[(i,s)] }:=by
  unfold putM
  rw [if_neg (by simp [hd]),if_neg (by simp [h1]),if_neg (by simp [hs]),if_neg hf];rfl
 refine⟨e,?_,?_⟩
 ·unfold putE
  rw [if_neg (by simp [hd]),if_neg (by simp [h1]),if_neg (by simp [hs]),if_neg hf]
 ·rw [e]
  show appAll (m.row++[(i,s)]) m.out=_
  rw [appAll_snoc];rfl
theorem putQ_burnt {m:Dsk} {i:Nat} {s:List Nat} (hd:m.down=false) (hi:i<m.out.length) (hs:s.length=128) (hf:m.fuse=0) :
  putM m (i:Int) s=burnt m∧putE m (i:Int) s=9:=by
 have h1:m.has (i:Int)=true:=has_true (by omega) (by omega)
 constructor
 ·unfold putM
  rw [if_neg (by simp [hd]),if_neg (by simp [h1]),if_neg (by simp [hs]),if_pos hf]
 ·unfold putE
  rw [if_neg (by simp [hd]),if_neg (by simp [h1]),if_neg (by simp [hs]),if_pos hf]
structure Lw (m:Dsk) (S:Nat→Prop) (L:List (List Nat)) (M:Dsk × Int):Prop where
 out:M.1.out=m.out
 row:∀x∈M.1.row,S x.1
 st:(M.2=0∧M.1.down=false∧M.1.last=L∧(m.fuse = -1→M.1.fuse = -1))∨(M.2=9∧M.1.down=true∧m.fuse ≠ -1)
theorem wpE_lw {m m0:Dsk} {S:Nat→Prop} {p:Nat} {b:List Nat} (h:Lw m0 S m.last (m,0)) (hp:4*p+4≤m0.out.length) (hb:b.length=512):∀i,i≤4→Lw m0 (fun x=>S x∨x / 4=p) (pgSetN m.last p b i) (wpE m p b i)
 | 0,_=>⟨h.out,fun x hx=>.inl (h.row x hx),h.st⟩
 | i+1,hi=>by
  have ih:=wpE_lw h hp hb i (by omega)
  have e:wpE m p b (i+1)=if (wpE m p b i).2≠0 then wpE m p b i else (putM (wpE m p b i).1 ((4*p+i:Nat):Int) ((b.drop (i*128)).take 128),putE (wpE m p b i).1 ((4*p+i:Nat):Int) ((b.drop (i*128)).take 128)):=rfl
  rw [e]
  rcases ih.st with ⟨h0,hd,hl,hf⟩ | ⟨h9,hd,hf⟩
  ·rw [if_neg (by simp [h0])]
   have hs:((b.drop (i*128)).take 128).length=128:=by rw [List.length_take,List.length_drop];omega
   have hlt:4*p+i<(wpE m p b i).1.out.length:=by rw [ih.out];omega
   by_cases hz:(wpE m p b i).1.fuse=0
   ·obtain⟨e1,e2⟩:=putQ_burnt hd hlt hs hz
    rw [e1,e2]
    exact⟨ih.out,ih.row,.inr ⟨rfl,rfl,fun h=>by have:=hf h;omega⟩⟩
   ·obtain⟨e1,e2,e3⟩:=last_put hd hlt hs hz
    rw [e2]
    refine⟨by rw [e1];exact ih.out,fun x hx=>?_,.inl ⟨rfl,by rw [e1];exact hd,by rw [e3,hl];rfl,fun h=>by rw [e1];show (if (wpE m p b i).1.fuse = -1 then (-1:Int) else _) = -1;rw [if_pos (hf h)]⟩⟩
    rw [e1] at hx
    rcases List.mem_append.1 (show x∈(wpE m p b i).1.row++[(4*p+i,_)] from hx) with h1 | h1
    ·exact ih.row x h1
    ·rw [List.mem_singleton.1 h1];exact .inr (by show (4*p+i) / 4=p;omega)
  ·rw [if_pos (by rw [h9];decide)]
   exact⟨ih.out,ih.row,.inr ⟨h9,hd,hf⟩⟩
def PsOk (n:Nat) (ps:List (Nat × List Nat)):Prop:=∀x∈ps,4*x.1+4≤n∧x.2.length=512
theorem layW_lw {m:Dsk} {ps:List (Nat × List Nat)} (hd:m.down=false) (hr:m.row=[]) (hps:PsOk m.out.length ps):∀k,k≤ps.length→Lw m (fun x=>∃y∈ps,x / 4=y.1) (wrP m.out (ps.take k)) (layW m ps k)
 | 0,_=>⟨rfl,fun x hx=>(by rw [show (layW m ps 0).1.row=[] from hr] at hx;cases hx),.inl ⟨rfl,hd,by show appAll m.row m.out=_;rw [hr];rfl,fun h=>h⟩⟩
 | k+1,hk=>by
  have ih:=layW_lw hd hr hps k (by omega)
  have e:layW m ps (k+1)=if (layW m ps k).2≠0 then layW m ps k else wpE (layW m ps k).1 (ps.getD k (0,[])).1 (ps.getD k (0,[])).2 4:=rfl
  have hx:ps.getD k (0,[])∈ps:=by rw [List.getD_eq_getElem?_getD,List.getElem?_eq_getElem (by omega)];exact List.getElem_mem _
  have et:ps.take (k+1)=ps.take k++[ps.getD k (0,[])]:=by
   rw [List.take_add_one,List.getD_eq_getElem?_getD,List.getElem?_eq_getElem (by omega)];rfl
  rw [e]
  rcases ih.st with ⟨h0,hd1,hl,hf⟩ | ⟨h9,hd1,hf⟩
  ·rw [if_neg (by simp [h0])]
   have h1:=wpE_lw (m:=(layW m ps k).1) (m0:=m) (S:=fun x=>∃y∈ps,x / 4=y.1) (p:=(ps.getD k (0,[])).1) (b:=(ps.getD k (0,[])).2) ⟨ih.out,ih.row,.inl ⟨rfl,hd1,rfl,hf⟩⟩ (hps _ hx).1 (hps _ hx).2 4 (Nat.le_refl _)
   refine⟨h1.out,fun x hx2=>(h1.row x hx2).elim id (fun h=>⟨_,hx,h⟩),?_⟩
   rw [et,wrP_app,←hl]
   exact h1.st
  ·rw [if_pos (by rw [h9];decide)]
   exact⟨ih.out,ih.row,.inr ⟨h9,hd1,hf⟩⟩
inductive Laid (m:Dsk) (ps:List (Nat × List Nat)) (pl:Nat) (blk:List Nat) (M:Dsk × Int):Prop
 | all (e:M.2=0) (d:M.1.down=false) (r:M.1.row=[]) (o:M.1.out=(wrP m.out ps).set pl blk) (f:m.fuse = -1→M.1.fuse = -1)
 | cut (e:M.2=9) (d:M.1.down=true) (f:m.fuse ≠ -1) (o:M.1.out=m.out) (r:∀x∈M.1.row,∃y∈ps,x.1 / 4=y.1)
 | half (e:M.2=9) (d:M.1.down=true) (f:m.fuse ≠ -1) (o:M.1.out=wrP m.out ps) (r:M.1.row=[]∨M.1.row=[(pl,blk)])
theorem lay_laid {m:Dsk} {ps:List (Nat × List Nat)} {r:Rt} {pl:Nat} (hd:m.down=false) (hr:m.row=[]) (hps:PsOk m.out.length ps) (hp:place r.ep=(pl:Int)) (hpl:pl<m.out.length):Laid m ps pl (block r) (layM m ps r):=by
 have h1:=layW_lw hd hr hps ps.length (Nat.le_refl _)
 rw [List.take_length] at h1
 unfold layM
 generalize layW m ps ps.length=A at *
 obtain⟨M,e⟩:=A
 simp only at h1 ⊢
 rcases h1.st with ⟨h0,hd1,hl,hf⟩ | ⟨h9,hd1,hf⟩
 ·simp only at h0 hd1 hl hf
  subst h0
  rw [if_neg (by simp)]
  have ho:M.out=m.out:=h1.out
  by_cases hz:M.fuse=0
  ·have e1:barE M=9:=by unfold barE;rw [if_neg (by simp [hd1]),if_pos hz]
   have e2:barM M=burnt M:=by unfold barM;rw [if_neg (by simp [hd1]),if_pos hz]
   rw [e1,if_pos (by decide),e2]
   exact .cut rfl rfl (fun h=>by have:=hf h;omega) ho h1.row
  ·have e1:barE M=0:=by unfold barE;rw [if_neg (by simp [hd1]),if_neg hz]
   have e2:barM M={ burns M with out:=M.last,row:=[] }:=by unfold barM;rw [if_neg (by simp [hd1]),if_neg hz]
   rw [e1,if_neg (by simp)]
   obtain⟨B,hB⟩:∃B,barM M=B:=⟨_,rfl⟩
   have b1:B.down=false:=by rw [←hB,e2];exact hd1
   have b2:B.row=[]:=by rw [←hB,e2]
   have b3:B.out=wrP m.out ps:=by rw [←hB,e2];exact hl
   have b4:m.fuse = -1→B.fuse = -1:=fun h=>by rw [←hB,e2];show (if M.fuse = -1 then (-1:Int) else _) = -1;rw [if_pos (hf h)]
   rw [hB,hp]
   have hlt:pl<B.out.length:=by rw [b3,wrP_len];exact hpl
   by_cases hz2:B.fuse=0
   ·obtain⟨c1,c2⟩:=putQ_burnt b1 hlt (block_len r) hz2
    rw [c2,if_pos (by decide),c1]
    exact .half rfl rfl (fun h=>by have:=b4 h;omega) b3 (.inl b2)
   ·obtain⟨c1,c2,c3⟩:=last_put b1 hlt (block_len r) hz2
    rw [c2,if_neg (by simp)]
    obtain⟨C,hC⟩:∃C,putM B (pl:Int) (block r)=C:=⟨_,rfl⟩
    have d1:C.down=false:=by rw [←hC,c1];exact b1
    have d2:C.row=[(pl,block r)]:=by rw [←hC,c1,b2];rfl
    have d3:C.out=wrP m.out ps:=by rw [←hC,c1];exact b3
    have d4:m.fuse = -1→C.fuse = -1:=fun h=>by rw [←hC,c1];show (if B.fuse = -1 then (-1:Int) else _) = -1;rw [if_pos (b4 h)]
    have d5:C.last=(wrP m.out ps).set pl (block r):=by
     rw [←hC,c3]
     show (appAll B.row B.out).set pl (block r)=_
     rw [b2,b3];rfl
    rw [hC]
    by_cases hz3:C.fuse=0
    ·have e3:barE C=9:=by unfold barE;rw [if_neg (by simp [d1]),if_pos hz3]
     have e4:barM C=burnt C:=by unfold barM;rw [if_neg (by simp [d1]),if_pos hz3]
     rw [e3,e4]
     exact .half rfl rfl (fun h=>by have:=d4 h;omega) d3 (.inr d2)
    ·have e3:barE C=0:=by unfold barE;rw [if_neg (by simp [d1]),if_neg hz3]
     have e4:barM C={ burns C with out:=C.last,row:=[] }:=by unfold barM;rw [if_neg (by simp [d1]),if_neg hz3]
     rw [e3,e4]
     exact .all rfl d1 rfl d5 (fun h=>by show (if C.fuse = -1 then (-1:Int) else _) = -1;rw [if_pos (d4 h)])
 ·simp only at h9 hd1
  rw [if_pos (by rw [h9];decide)]
  exact .cut h9 hd1 hf h1.out h1.row
end
section
namespace Tb
open Go.RowKit Go.Proofs.YtmbecjlioogbhaaGreatDoor.Bi
end Tb
end
section
set_option maxRecDepth 20000
open Go.RowKit
def dirF (lv:Nat→Nat) (f:Nat→Bool):List Nat:=Tb.dirB (lv 0:Nat) (lv 1:Nat) (lv 2:Nat) (lv 3:Nat) f
structure LiesOn (L:List (List Nat)) (st:St):Prop where
 len:4*st.r.pg≤(L.length:Int)
 dir:pageB L st.r.dr.toNat=dirF st.lv (usF st.r st.lv st.tb)
 leaf:∀i,i<4→st.lv i≠0→pageB L (st.lv i)=Tb.fours (Tb.leafF st.tb i) 128
theorem okL_of {lv:Nat→Nat} (h:∀i,i<4→Tb.pgN (lv i)=true):Tb.okL (lv 0:Nat) (lv 1:Nat) (lv 2:Nat) (lv 3:Nat)=true:=by
 unfold Tb.okL
 rw [Tb.mayI_nat,Tb.mayI_nat,Tb.mayI_nat,Tb.mayI_nat,h 0 (by omega),h 1 (by omega),h 2 (by omega),h 3 (by omega)];rfl
theorem lab_congr {r:Rt} {lv lv' tb:Nat→Nat} (h:∀i,i<4→lv' i=lv i):lab r lv' tb=lab r lv tb:=by
 funext n
 unfold lab
 by_cases h0:n=0
 ·rw [if_pos h0,if_pos h0]
 ·rw [if_neg h0,if_neg h0]
  by_cases h5:n<5
  ·rw [if_pos h5,if_pos h5,h _ (by omega)]
  ·rw [if_neg h5,if_neg h5]
theorem fours512 (f:Nat→Nat):(Tb.fours f 128).length=512:=by rw [Tb.fours_len]
theorem LiesOn.stay {L L':List (List Nat)} {st:St} (hg:StGood st) (h:LiesOn L st) (hn:L'.length=L.length) (hs:∀p,usF st.r st.lv st.tb p=true→pageB L' p=pageB L p):LiesOn L' st:=by
 refine⟨by rw [hn];exact h.len,?_,fun i hi h0=>?_⟩
 ·have h0:=hg.mays.d0
  rw [hs st.r.dr.toNat (usF_iff.2 ⟨by omega,0,by omega,rfl⟩)];exact h.dir
 ·rw [hs _ (usF_iff.2 ⟨h0,i+1,by omega,lab_lv _ _ _ _ hi⟩)];exact h.leaf i hi h0
end
section
set_option maxRecDepth 20000
open Go.RowKit
def nextR (s:Sp) (word:Int):Rt:=⟨s.g.r.ep+1,s.g.r.pg,2,word⟩
section
variable {w:World} {g d pt pk mb:Nat} {pu po:Option Addr} {s:Sp}
set_option maxHeartbeats 1600000 in
theorem commit_range (h:Spc0 w g d pt pk mb pu po s) (word:Int) (he:-9223372036854775808≤s.g.r.ep∧s.g.r.ep≤4611686018427387904) (hm:may (nextR s word)=false) :
  Calls Tryz.prog 43 #[.pointer (some ⟨g,0,none⟩),.int .i64 word] w fun e w'=>e = .returned (.int .i64 7)∧Below w.heap.size w w':=by
 have HX:=Lib.hid h
 have HRF:=Lib.hid (refusal_any h)
 have HMY:Hid (∀u,Calls Tryz.prog 87 #[.agg #[.int .i64 (s.g.r.ep+1),.int .i64 s.g.r.pg,.int .i64 2,.int .i64 word]] u fun x w'=>x = .returned (.bool false)∧Below u.heap.size u w'):=Lib.hid fun u=>by
  have:=may_any (nextR s word) u
  rw [hm] at this
  exact this
 have h1:=he.1
 have h2:=he.2
 clear h hm he
 go_enter Tryz.func43,Tryz.ntmps43
 go_wp2_with (first
  | (go_at_call 47;refine HRF.out.mono ?_;rintro e w1 ⟨rfl,rfl⟩)
  | (go_at_call 85;refine(epoch_any HX.out).mono ?_;rintro e w2 ⟨rfl,hb2⟩;have HX2:=Lib.hid (HX.out.below hb2);have HB2:=Lib.hid hb2;clear hb2)
  | (go_at_call 86;refine(pages_any HX2.out).mono ?_;rintro e w3 ⟨rfl,hb3⟩;have HB3:=Lib.hid (HB2.out.trans (hb3.mono HB2.out.size));clear hb3)
  | (go_at_call 87;refine(HMY.out _).mono ?_;rintro e w4 ⟨rfl,hb4⟩;have HB4:=Lib.hid hb4;clear hb4))
 go_ret
 have hb:=HB3.out.alloc HB3.out.size (.cells #[.int .i64 (s.g.r.ep+1),.int .i64 s.g.r.pg,.int .i64 2,.int .i64 word] 93)
 exact⟨rfl,hb.trans (HB4.out.mono hb.size)⟩
set_option maxHeartbeats 1600000 in
theorem commit_full (h:Spc0 w g d pt pk mb pu po s) (word:Int) (he:-9223372036854775808≤s.g.r.ep∧s.g.r.ep≤4611686018427387904) (hm:may (nextR s word)=true) (pg:Nat) (hr:s.g.r.pg=(pg:Int)) (hpg:pg≤512) (hf:(freeL s).length<needS s) :
  Calls Tryz.prog 43 #[.pointer (some ⟨g,0,none⟩),.int .i64 word] w fun e w'=>e = .returned (.int .i64 8)∧Below w.heap.size w w':=by
 have HX:=Lib.hid h
 have HRF:=Lib.hid (refusal_any h)
 have HMY:Hid (∀u,Calls Tryz.prog 87 #[.agg #[.int .i64 (s.g.r.ep+1),.int .i64 s.g.r.pg,.int .i64 2,.int .i64 word]] u fun x w'=>x = .returned (.bool true)∧Below u.heap.size u w'):=Lib.hid fun u=>by
  have:=may_any (nextR s word) u
  rw [hm] at this
  exact this
 have HND:Hid (∀u,Below w.heap.size w u→Calls Tryz.prog 82 #[.pointer (some ⟨g,0,none⟩)] u fun e w'=>e = .returned (.int .i64 (needS s:Int))∧Below u.heap.size u w'):=Lib.hid fun u hu=>need_any (h.below hu)
 have HFR:Hid (∀u,Below w.heap.size w u→Calls Tryz.prog 83 #[.pointer (some ⟨g,0,none⟩)] u fun e w'=>e = .returned (.int .i64 ((freeL s).length:Int))∧Below u.heap.size u w'):=Lib.hid fun u hu=>Free_any (h.below hu) pg hr hpg
 have h1:=he.1
 have h2:=he.2
 have hd:decide (((freeL s).length:Int)<(needS s:Int))=true:=by simp;omega
 have hd2:decide ((freeL s).length<needS s)=true:=by simp;omega
 clear h hm he hr
 generalize needS s=nd at *
 generalize (freeL s).length=fr at *
 go_enter Tryz.func43,Tryz.ntmps43
 go_wp2_with (first
  | (go_at_call 47;refine HRF.out.mono ?_;rintro e w1 ⟨rfl,rfl⟩)
  | (go_at_call 85;refine(epoch_any HX.out).mono ?_;rintro e w2 ⟨rfl,hb2⟩;have HX2:=Lib.hid (HX.out.below hb2);have HB2:=Lib.hid hb2;clear hb2)
  | (go_at_call 86;refine(pages_any HX2.out).mono ?_;rintro e w3 ⟨rfl,hb3⟩;have HB3:=Lib.hid (HB2.out.trans (hb3.mono HB2.out.size));have HB3a:=Lib.hid (HB3.out.alloc HB3.out.size (.cells #[.int .i64 (s.g.r.ep+1),.int .i64 s.g.r.pg,.int .i64 2,.int .i64 word] 93));clear hb3)
  | (go_at_call 87;refine(HMY.out _).mono ?_;rintro e w4 ⟨rfl,hb4⟩;have HB4:=Lib.hid (HB3a.out.trans (hb4.mono HB3a.out.size));clear hb4)
  | (go_at_call 82;refine(HND.out _ HB4.out).mono ?_;rintro e w5 ⟨rfl,hb5⟩;have HB5:=Lib.hid (HB4.out.trans (hb5.mono HB4.out.size));clear hb5)
  | (go_at_call 83;refine(HFR.out _ HB5.out).mono ?_;rintro e w6 ⟨rfl,hb6⟩;have HB6:=Lib.hid (HB5.out.trans (hb6.mono HB5.out.size));clear hb6))
 go_ret
 exact⟨rfl,HB6.out⟩
end
end
end Go.Proofs.YtmbecjlioogbhaaGreatDoor
