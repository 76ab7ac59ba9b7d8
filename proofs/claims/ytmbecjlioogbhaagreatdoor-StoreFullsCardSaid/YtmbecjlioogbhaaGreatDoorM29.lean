/- Texts YClr0 to YFull of this seat, laid into one. -/
import Derived.Test.YtmbecjlioogbhaaGreatDoorM14
import Derived.Test.YtmbecjlioogbhaaGreatDoorM15
import Derived.Test.YtmbecjlioogbhaaGreatDoorM22
import Derived.Test.YtmbecjlioogbhaaGreatDoorM24
import Derived.Test.YtmbecjlioogbhaaGreatDoorM26
import Derived.Test.YtmbecjlioogbhaaGreatDoorM27
import Derived.Test.YtmbecjlioogbhaaGreatDoorM28
set_option linter.unusedVariables false
set_option linter.unusedSimpArgs false
set_option linter.constructorNameAsVariable false
namespace Go.Proofs.YtmbecjlioogbhaaGreatDoor
section
set_option maxRecDepth 20000
open Go.RowKit
theorem dm_one (l gp:Nat) (hl:l<512):Dmf.keys (Dmf.put (fun _=>none) l gp)=[l]:=by
 have hmem:∀j,j∈Dmf.keys (Dmf.put (fun _=>none) l gp)↔j=l:=fun j=>by
  rw [Dmf.mem_keys]
  unfold Dmf.put
  by_cases e:j=l
  ·subst e;simp [hl]
  ·simp [e]
 have hnd:(Dmf.keys (Dmf.put (fun _=>none) l gp)).Nodup:=by unfold Dmf.keys;exact List.nodup_range.filter _
 generalize Dmf.keys (Dmf.put (fun _=>none) l gp)=L at *
 match L,hmem,hnd with
 | [],h,_=>exact absurd ((h l).2 rfl) (by simp)
 | [a],h,_=>rw [(h a).1 (by simp)]
 | a :: b :: r,h,hn=>
  have h1:=(h a).1 (by simp)
  have h2:=(h b).1 (by simp)
  rw [h1,h2] at hn
  simp at hn
theorem room_one (T:ByteArray) (hT:T.size≤480):∃r:Nat,Sl.room [some T]=(r:Int):=by
 have hn:Sl.need [some T]=3+T.size:=by simp [Sl.need,Sl.tot,Sl.sz,Sl.recOf]
 have hb:Sl.bareI [some T]=1:=rfl
 have h0:Sl.room0 [some T]=512 - ((3+T.size:Nat):Int) - 2:=by
  unfold Sl.room0 Sl.left
  rw [hn,hb]
  simp
 refine⟨(Sl.room [some T]).toNat,?_⟩
 have:0≤Sl.room [some T]:=by
  unfold Sl.room
  rw [hb,h0,if_neg (by omega)]
  omega
 omega
section
variable {w w':World} {d sg pg k g mb mb2 n gp l2:Nat} {D G:List Nat} {m:Dsk} {s:Sp} {y:Xv} {v vp:Value} {F:Nat→Nat} {T:ByteArray}
set_option maxHeartbeats 3200000 in
theorem Sto.clear0 (h:Sto w d sg D G m s pg y k g mb v n F) (hm:Dms w mb2 (Dmf.put (fun _=>none) l2 gp)) (hp:Sl.Pg0 w gp vp [some T]) (hl2:l2<512) (hth:thX y.now (l2:Int)=true) (hr:∃fr,Rms w mb fr) (hmG:mb∉G) (hmD:mb∉D) (h2G:mb2∉G) (hpG:∀j∈Sl.foot gp vp,j∉G) (hT:T.size≤480) :
  Calls Tryz.prog 57 #[.agg #[.pointer (some ⟨g,0,none⟩),.map (some mb2)]] w fun e w'=>e = .returned (.tuple #[])∧∃s',Sto w' d sg D G m s' pg (y.put l2 (Sl.bytesM [some T])) k g mb v n F∧Chg (mb :: G) (mb :: G) w w':=by
 have hb0:Below w.heap.size w (w.alloc (.cells #[.pointer (some ⟨g,0,none⟩),.map (some mb2)] 106)):=(Below.refl _ _).alloc (Nat.le_refl _) _
 have hx0:=heap_alloc_new w (.cells #[.pointer (some ⟨g,0,none⟩),.map (some mb2)] 106)
 have H1:=Lib.hid (h.below hb0)
 have HM1:=Lib.hid (hm.below hb0)
 have HP1:=Lib.hid (hp.below hb0)
 have HG:=Lib.hid (kin_lt h.sp.kinG)
 have HB01:=Lib.hid hb0
 clear h hm hp hb0
 go_enter Tryz.func57,Tryz.ntmps57
 go_upto_region 1 with fail
 generalize w.alloc (.cells #[.pointer (some ⟨g,0,none⟩),.map (some mb2)] 106)=W1 at *
 have a0:=cell_of_row _ _ 0 _ _ _ hx0
 have a1:=cell_of_row _ _ 1 _ _ _ hx0
 simp at a0 a1
 have hk:=keysDm (some mb2) W1
 have hs:=sortedDm HM1.out
 rw [dm_one l2 gp hl2] at hs
 have HK:=Lib.hid hk
 have HS:=Lib.hid hs
 have hbk:Below W1.heap.size W1 (W1.alloc (.cells #[.map (some mb2)] 104)):=(Below.refl _ _).alloc (Nat.le_refl _) _
 have HBK:=Lib.hid hbk
 clear hk hs hbk
 go_wp2_with (first
  | (go_at_call 110;with_reducible refine HK.out.mono ?_;rintro e w1 ⟨rfl,rfl⟩)
  | (go_at_call 94;with_reducible refine HS.out.mono ?_;rintro e w2 ⟨⟨v2,rfl,ho⟩,hb2⟩;have HB2:=Lib.hid (HBK.out.trans (hb2.mono HBK.out.size));have HO2:=Lib.hid ho;obtain⟨q2,c2',rfl⟩:=own_form ho;clear ho hb2))
 obtain⟨bk,rfl,hbk⟩:∃b,q2=some ⟨b,0,none⟩∧w2.cell? ⟨b,0,none⟩=some (.int .i64 (l2:Int)):=by
  obtain⟨p,c,e,hc⟩:=HO2.out.cells
  cases e
  obtain⟨b,e,hcell⟩:=hc 0 (by simp)
  exact⟨b,e,hcell⟩
 have HX2:=Lib.hid ((HB2.out.block _ (lt_of_block hx0)).trans hx0)
 have H2:=Lib.hid (H1.out.below HB2.out)
 have HM2:=Lib.hid (HM1.out.below HB2.out)
 have HP2:=Lib.hid (HP1.out.below HB2.out)
 obtain⟨fr,hfr⟩:=hr
 obtain⟨rm,hrm⟩:=room_one T hT
 have HLN:=Lib.hid (Sl.len_any HP2.out)
 have HBY:Hid (∀w1,Below w2.heap.size w2 w1→Calls Tryz.prog 106 #[.pointer (some ⟨gp,0,none⟩)] w1 fun e w'=>e = .returned (.string (strB (Sl.bytesM [some T])))∧Below w1.heap.size w1 w'):=Lib.hid fun w1 hb=>Sl.bytes_any (HP2.out.below hb)
 have hok:=HP2.out.ok
 have HWR:Hid (∀w1,Below w2.heap.size w2 w1→Calls Tryz.prog 36 #[.pointer (some ⟨sg,0,none⟩),.int .i64 (l2:Int),.string (strB (Sl.bytesM [some T]))] w1 fun e w'=>e = .returned (.int .i64 0)∧Hid ((∃s',Sto w' d sg D G m s' pg (y.put l2 (Sl.bytesM [some T])) k g mb v n F)∧Chg G G w1 w')):=Lib.hid fun w1 hb=>by
  have h1:=H2.out.below hb
  have hw:=write_z h1.sp (l2:Int) (by omega) (by omega) (Sl.bytesM [some T]) ⟨Sl.bytesM_len hok,Sl.bytesM_dig hok⟩
  rw [if_pos hth,if_pos hth,Int.toNat_natCast] at hw
  refine hw.mono ?_
  rintro e w' ⟨rfl,⟨s',hs'⟩,hc⟩
  exact⟨rfl,Lib.hid ⟨⟨s',h1.chg hc hs'⟩,hc⟩⟩
 have HRO:Hid (∀w1 v1,Sl.Pg0 w1 gp v1 [some T]→Calls Tryz.prog 101 #[.pointer (some ⟨gp,0,none⟩)] w1 fun e w'=>e = .returned (.int .i64 (rm:Int))∧Below w1.heap.size w1 w'):=Lib.hid fun w1 v1 hp=>by
  have:=Sl.room_any hp
  rw [hrm] at this
  exact this
 have HFR:=Lib.hid hfr
 have HGm:Hid (mb∉G∧mb∉D∧mb2∉G∧∀j∈Sl.foot gp vp,j∉G):=Lib.hid ⟨hmG,hmD,h2G,hpG⟩
 have HL2:=Lib.hid hl2
 have HW1:Hid (w.heap.size<W1.heap.size):=Lib.hid (lt_of_block hx0)
 have hFr1:Rms w mb fr:=hfr
 clear hth hmG hmD h2G hpG hT hfr hrm hok hl2 HO2 H1 HM1 HP1 HS HK a0 a1 hx0 hFr1 HBK
 generalize strB (Sl.bytesM [some T])=T5 at *
 go_loopw [10] (fun iv wr=>(iv = .int .i64 0∧wr=w2)∨(iv = .int .i64 1∧Hid (∃s',Sto wr d sg D G m s' pg (y.put l2 (Sl.bytesM [some T])) k g mb v n F∧Chg (mb :: G) (mb :: G) w wr))) (fun iv _=>1 - (RowKit.intOf iv).toNat)
 case atStart=>exact .inl ⟨rfl,rfl⟩
 case round=>
  rcases hrel with ⟨rfl,rfl⟩ | ⟨rfl,HR⟩
  ·have a0:=cell_of_row _ _ 0 _ _ _ HX2.out
   have a1:=cell_of_row _ _ 1 _ _ _ HX2.out
   have g0:=H2.out.st.c0
   simp at a0 a1
   have hlk:=HM2.out.look1 l2 gp (Dmf.put_same _ _ _)
   go_upto_region 8 with (go_at_call 111;with_reducible refine HLN.out.mono ?_;rintro e w3 ⟨rfl,rfl⟩)
   go_region_held3 (fun u:World=>u.cell? ⟨w.heap.size,0,none⟩=some (.pointer (some ⟨g,0,none⟩))∧u.cell? ⟨g,0,none⟩=some (.pointer (some ⟨sg,0,none⟩))) ((first
     | with_reducible exact⟨a0,g0⟩
     | go_keep)) (first
    | (go_at_call 106;refine(HBY.out _ (by exact(Below.refl _ _).drew)).mono ?_;rintro e w4 ⟨rfl,hb4⟩;have HB4:Hid (Below wr.heap.size wr w4):=Lib.hid ((Below.refl _ _).drew.trans (by exact hb4));have a0:=(HB4.out.cell (p:=⟨w.heap.size,0,none⟩) (lt_of_block HX2.out)).trans a0;have g0:=(H2.out.below HB4.out).st.c0)
    | (go_at_call 36;refine(HWR.out _ HB4.out).mono ?_;rintro e w5 ⟨rfl,HS5⟩;have hx5:=(HS5.out.2.block w.heap.size (by have:=HB4.out.size;have:=lt_of_block HX2.out;omega) (fun e=>absurd (HG.out _ e) (Nat.lt_irrefl _))).trans ((HB4.out.block _ (lt_of_block HX2.out)).trans HX2.out);have a0:=cell_of_row _ _ 0 _ _ _ hx5;simp at a0;obtain⟨⟨s5,h5⟩,-⟩:=HS5.out;have g0:=h5.st.c0;have g2:=h5.st.c2))
   all_goals (
    obtain⟨⟨s6,h6⟩,hc6⟩:=HS5.out
    have hz4:=HB4.out.size
    have HC6:Hid (Chg (mb :: G) (mb :: G) w w5):=Lib.hid ((Chg.of_below (HB01.out.trans ((HB2.out.trans (HB4.out.mono HB2.out.size)).mono HB01.out.size))).trans ⟨hc6.os,hc6.tape,hc6.output,hc6.size,fun j hj hn=>hc6.block j hj (fun e=>hn (List.mem_cons_of_mem _ e)),fun _ h=>.inl h⟩)
    have H6:=Lib.hid h6
    have HP6:Hid (Sl.Pg0 w5 gp vp [some T]):=Lib.hid ((HP2.out.below HB4.out).stay (F:=G) (F':=G) ⟨hc6.os,hc6.tape,hc6.output,hc6.size,hc6.block,hc6.fresh⟩ HGm.out.2.2.2)
    have hr4:=((HFR.out.below HB01.out).below HB2.out).below HB4.out
    have HR6:Hid (Rms w5 mb fr):=Lib.hid (hr4.same (hc6.block mb hr4.lt HGm.out.1))
    have HX5:=Lib.hid hx5
    clear h6 h5 hc6 hz4 hr4 hx5 g0 hlk HS5
    go_wp2_with fail
    go_region_law (first
     | (go_simp;go_at_call 101;refine(HRO.out _ vp (by exact HP6.out.below (Below.refl _ _).drew)).mono ?_;rintro e w6 ⟨rfl,hb6⟩;have HB6:Hid (Below w5.heap.size w5 w6):=Lib.hid ((Below.refl _ _).drew.trans (by exact hb6));obtain⟨w7,hrun7,hm7,ho7⟩:=(HR6.out.below HB6.out).store l2 rm HL2.out;have a0:=(HB6.out.cell (p:=⟨w.heap.size,0,none⟩) (lt_of_block HX5.out)).trans a0;have g2:=(H6.out.below HB6.out).st.c2))
    all_goals (
     have hown:=(H6.out.below HB6.out).own_ne
     have hmb:∃es c,w6.heap[mb]?=some (.map es c):=(HR6.out.below HB6.out).isMap
     have h7:Sto w7 d sg D G m s6 pg (y.put l2 (Sl.bytesM [some T])) k g mb v n F:=(H6.out.below HB6.out).stayB (K:=[mb]) (K':=[mb]) ⟨ho7.os,ho7.tape,ho7.output,ho7.size,fun j hj hn=>ho7.block j hj (fun e=>hn (by rw [e];exact List.mem_singleton.2 rfl)),fun _ h=>.inl h⟩
      (fun j hj=>by cases List.mem_singleton.1 hj;exact .inl hmb)
      (fun j hj e=>by cases List.mem_singleton.1 e;exact HGm.out.2.1 hj)
      (fun j hj e=>by cases List.mem_singleton.1 e;exact HGm.out.1 hj)
      (fun e=>by
        have e:=List.mem_singleton.1 e
        obtain⟨es,c,hb⟩:=hmb
        rw [←e,(H6.out.below HB6.out).st.row] at hb;cases hb)
      (fun b hb e=>by
        have e:=List.mem_singleton.1 e
        obtain⟨es,c,hbb⟩:=hmb
        obtain⟨-,cur,hh⟩:=hown b hb
        rw [e,hbb] at hh;cases hh)
     have H7:Hid (∃s',Sto w7 d sg D G m s' pg (y.put l2 (Sl.bytesM [some T])) k g mb v n F∧Chg (mb :: G) (mb :: G) w w7):=Lib.hid ⟨s6,h7,HC6.out.trans ((Chg.of_below HB6.out).trans ⟨ho7.os,ho7.tape,ho7.output,ho7.size,fun j hj hn=>ho7.block j hj (fun e=>hn (by rw [e];exact List.mem_cons_self ..)),fun _ h=>.inl h⟩)⟩
     clear h7 hown hmb hm7 ho7 hrun7 a0 g2
     go_wp2_with fail
     go_roundw
     case rel=>exact .inr ⟨by go_num,H7⟩
     case measure=>simp [RowKit.intOf]))
  ·go_wp2_with fail
   go_end0
   exact⟨rfl,HR.out⟩
end
end
section
set_option maxRecDepth 20000
open Go.RowKit
section
variable {w w':World} {d sg pg k g mb mb2 n gp l2:Nat} {D G:List Nat} {m:Dsk} {s:Sp} {y:Xv} {v vp:Value} {F:Nat→Nat} {sl:List Sl.Sl} {f:Rmf}
set_option maxHeartbeats 3200000 in
theorem Sto.clear1 (h:Sto w d sg D G m s pg y k g mb v n F) (hm:Dms w mb2 (Dmf.put (fun _=>none) l2 gp)) (hp:Sl.Pg0 w gp vp sl) (hsl:sl≠[]) (hl2:l2<512) (hth:thX y.now (l2:Int)=true) (hfr:Rms w mb f) (hmG:mb∉G) (hmD:mb∉D) (h2G:mb2∉G) (hpG:∀j∈Sl.foot gp vp,j∉G) :
  Calls Tryz.prog 57 #[.agg #[.pointer (some ⟨g,0,none⟩),.map (some mb2)]] w fun e w'=>e = .returned (.tuple #[])∧∃s',Sto w' d sg D G m s' pg (y.put l2 (Sl.bytesM sl)) k g mb v n F∧Rms w' mb (f.put l2 (Sl.room sl))∧Chg (mb :: G) (mb :: G) w w':=by
 have hb0:Below w.heap.size w (w.alloc (.cells #[.pointer (some ⟨g,0,none⟩),.map (some mb2)] 106)):=(Below.refl _ _).alloc (Nat.le_refl _) _
 have hx0:=heap_alloc_new w (.cells #[.pointer (some ⟨g,0,none⟩),.map (some mb2)] 106)
 have H1:=Lib.hid (h.below hb0)
 have HM1:=Lib.hid (hm.below hb0)
 have HP1:=Lib.hid (hp.below hb0)
 have HG:=Lib.hid (kin_lt h.sp.kinG)
 have HB01:=Lib.hid hb0
 clear h hm hp hb0
 go_enter Tryz.func57,Tryz.ntmps57
 go_upto_region 1 with fail
 generalize w.alloc (.cells #[.pointer (some ⟨g,0,none⟩),.map (some mb2)] 106)=W1 at *
 have a0:=cell_of_row _ _ 0 _ _ _ hx0
 have a1:=cell_of_row _ _ 1 _ _ _ hx0
 simp at a0 a1
 have hk:=keysDm (some mb2) W1
 have hs:=sortedDm HM1.out
 rw [dm_one l2 gp hl2] at hs
 have HK:=Lib.hid hk
 have HS:=Lib.hid hs
 have hbk:Below W1.heap.size W1 (W1.alloc (.cells #[.map (some mb2)] 104)):=(Below.refl _ _).alloc (Nat.le_refl _) _
 have HBK:=Lib.hid hbk
 clear hk hs hbk
 go_wp2_with (first
  | (go_at_call 110;with_reducible refine HK.out.mono ?_;rintro e w1 ⟨rfl,rfl⟩)
  | (go_at_call 94;with_reducible refine HS.out.mono ?_;rintro e w2 ⟨⟨v2,rfl,ho⟩,hb2⟩;have HB2:=Lib.hid (HBK.out.trans (hb2.mono HBK.out.size));have HO2:=Lib.hid ho;obtain⟨q2,c2',rfl⟩:=own_form ho;clear ho hb2))
 obtain⟨bk,rfl,hbk⟩:∃b,q2=some ⟨b,0,none⟩∧w2.cell? ⟨b,0,none⟩=some (.int .i64 (l2:Int)):=by
  obtain⟨p,c,e,hc⟩:=HO2.out.cells
  cases e
  obtain⟨b,e,hcell⟩:=hc 0 (by simp)
  exact⟨b,e,hcell⟩
 have HX2:=Lib.hid ((HB2.out.block _ (lt_of_block hx0)).trans hx0)
 have H2:=Lib.hid (H1.out.below HB2.out)
 have HM2:=Lib.hid (HM1.out.below HB2.out)
 have HP2:=Lib.hid (HP1.out.below HB2.out)
 obtain⟨N,hN⟩:∃N,sl.length=N:=⟨_,rfl⟩
 have hN0:0<N:=by
  cases sl with
  | nil=>exact absurd rfl hsl
  | cons a b=>rw [←hN];simp
 have hN64:(N:Int)≤64:=by have:=HP2.out.ok.len;omega
 have HLN:=Lib.hid (Sl.len_any HP2.out)
 rw [hN] at HLN
 have hn1:((N:Int) == 0)=false:=by rw [beq_eq_false_iff_ne];omega
 have hn2:decide ((N:Int)=0)=false:=decide_eq_false (by omega)
 have hn3:(N == 0)=false:=by rw [beq_eq_false_iff_ne];omega
 have hn4:decide (N=0)=false:=decide_eq_false (by omega)
 obtain⟨rm,hrm⟩:∃rm,Sl.room sl=rm:=⟨_,rfl⟩
 have HRME:=Lib.hid hrm
 have HBY:Hid (∀w1,Below w2.heap.size w2 w1→Calls Tryz.prog 106 #[.pointer (some ⟨gp,0,none⟩)] w1 fun e w'=>e = .returned (.string (strB (Sl.bytesM sl)))∧Below w1.heap.size w1 w'):=Lib.hid fun w1 hb=>Sl.bytes_any (HP2.out.below hb)
 have hok:=HP2.out.ok
 have HWR:Hid (∀w1,Below w2.heap.size w2 w1→Calls Tryz.prog 36 #[.pointer (some ⟨sg,0,none⟩),.int .i64 (l2:Int),.string (strB (Sl.bytesM sl))] w1 fun e w'=>e = .returned (.int .i64 0)∧Hid ((∃s',Sto w' d sg D G m s' pg (y.put l2 (Sl.bytesM sl)) k g mb v n F)∧Chg G G w1 w')):=Lib.hid fun w1 hb=>by
  have h1:=H2.out.below hb
  have hw:=write_z h1.sp (l2:Int) (by omega) (by omega) (Sl.bytesM sl) ⟨Sl.bytesM_len hok,Sl.bytesM_dig hok⟩
  rw [if_pos hth,if_pos hth,Int.toNat_natCast] at hw
  refine hw.mono ?_
  rintro e w' ⟨rfl,⟨s',hs'⟩,hc⟩
  exact⟨rfl,Lib.hid ⟨⟨s',h1.chg hc hs'⟩,hc⟩⟩
 have HRO:Hid (∀w1 v1,Sl.Pg0 w1 gp v1 sl→Calls Tryz.prog 101 #[.pointer (some ⟨gp,0,none⟩)] w1 fun e w'=>e = .returned (.int .i64 rm)∧Below w1.heap.size w1 w'):=Lib.hid fun w1 v1 hp=>by
  have:=Sl.room_any hp
  rw [hrm] at this
  exact this
 have HFR:=Lib.hid hfr
 have HGm:Hid (mb∉G∧mb∉D∧mb2∉G∧∀j∈Sl.foot gp vp,j∉G):=Lib.hid ⟨hmG,hmD,h2G,hpG⟩
 have HL2:=Lib.hid hl2
 have HW1:Hid (w.heap.size<W1.heap.size):=Lib.hid (lt_of_block hx0)
 have hFr1:Rms w mb f:=hfr
 clear hth hmG hmD h2G hpG hfr hrm hN hsl hok hl2 HO2 H1 HM1 HP1 HS HK a0 a1 hx0 hFr1 HBK
 generalize strB (Sl.bytesM sl)=T5 at *
 go_loopw [10] (fun iv wr=>(iv = .int .i64 0∧wr=w2)∨(iv = .int .i64 1∧Hid (∃s',Sto wr d sg D G m s' pg (y.put l2 (Sl.bytesM sl)) k g mb v n F∧Rms wr mb (f.put l2 rm)∧Chg (mb :: G) (mb :: G) w wr))) (fun iv _=>1 - (RowKit.intOf iv).toNat)
 case atStart=>exact .inl ⟨rfl,rfl⟩
 case round=>
  rcases hrel with ⟨rfl,rfl⟩ | ⟨rfl,HR⟩
  ·have a0:=cell_of_row _ _ 0 _ _ _ HX2.out
   have a1:=cell_of_row _ _ 1 _ _ _ HX2.out
   have g0:=H2.out.st.c0
   simp at a0 a1
   have hlk:=HM2.out.look1 l2 gp (Dmf.put_same _ _ _)
   go_upto_region 8 with (go_at_call 111;with_reducible refine HLN.out.mono ?_;rintro e w3 ⟨rfl,rfl⟩)
   go_region_held3 (fun u:World=>u.cell? ⟨w.heap.size,0,none⟩=some (.pointer (some ⟨g,0,none⟩))∧u.cell? ⟨g,0,none⟩=some (.pointer (some ⟨sg,0,none⟩))) ((first
     | with_reducible exact⟨a0,g0⟩
     | go_keep)) (first
    | (go_at_call 106;refine(HBY.out _ (by exact(Below.refl _ _).drew)).mono ?_;rintro e w4 ⟨rfl,hb4⟩;have HB4:Hid (Below wr.heap.size wr w4):=Lib.hid ((Below.refl _ _).drew.trans (by exact hb4));have a0:=(HB4.out.cell (p:=⟨w.heap.size,0,none⟩) (lt_of_block HX2.out)).trans a0;have g0:=(H2.out.below HB4.out).st.c0)
    | (go_at_call 36;refine(HWR.out _ HB4.out).mono ?_;rintro e w5 ⟨rfl,HS5⟩;have hx5:=(HS5.out.2.block w.heap.size (by have:=HB4.out.size;have:=lt_of_block HX2.out;omega) (fun e=>absurd (HG.out _ e) (Nat.lt_irrefl _))).trans ((HB4.out.block _ (lt_of_block HX2.out)).trans HX2.out);have a0:=cell_of_row _ _ 0 _ _ _ hx5;simp at a0;obtain⟨⟨s5,h5⟩,-⟩:=HS5.out;have g0:=h5.st.c0;have g2:=h5.st.c2))
   all_goals (
    obtain⟨⟨s6,h6⟩,hc6⟩:=HS5.out
    have hz4:=HB4.out.size
    have HC6:Hid (Chg (mb :: G) (mb :: G) w w5):=Lib.hid ((Chg.of_below (HB01.out.trans ((HB2.out.trans (HB4.out.mono HB2.out.size)).mono HB01.out.size))).trans ⟨hc6.os,hc6.tape,hc6.output,hc6.size,fun j hj hn=>hc6.block j hj (fun e=>hn (List.mem_cons_of_mem _ e)),fun _ h=>.inl h⟩)
    have H6:=Lib.hid h6
    have HP6:Hid (Sl.Pg0 w5 gp vp sl):=Lib.hid ((HP2.out.below HB4.out).stay (F:=G) (F':=G) ⟨hc6.os,hc6.tape,hc6.output,hc6.size,hc6.block,hc6.fresh⟩ HGm.out.2.2.2)
    have hr4:=((HFR.out.below HB01.out).below HB2.out).below HB4.out
    have HR6:Hid (Rms w5 mb f):=Lib.hid (hr4.same (hc6.block mb hr4.lt HGm.out.1))
    have HX5:=Lib.hid hx5
    clear h6 h5 hc6 hz4 hr4 hx5 g0 hlk HS5
    go_wp2_with fail
    go_region_law (first
     | (go_simp;go_at_call 101;refine(HRO.out _ vp (by exact HP6.out.below (Below.refl _ _).drew)).mono ?_;rintro e w6 ⟨rfl,hb6⟩;have HB6:Hid (Below w5.heap.size w5 w6):=Lib.hid ((Below.refl _ _).drew.trans (by exact hb6));obtain⟨w7,hrun7,hm7,ho7⟩:=(HR6.out.below HB6.out).store l2 rm HL2.out;have a0:=(HB6.out.cell (p:=⟨w.heap.size,0,none⟩) (lt_of_block HX5.out)).trans a0;have g2:=(H6.out.below HB6.out).st.c2))
    all_goals (
     have hown:=(H6.out.below HB6.out).own_ne
     have hmb:∃es c,w6.heap[mb]?=some (.map es c):=(HR6.out.below HB6.out).isMap
     have h7:Sto w7 d sg D G m s6 pg (y.put l2 (Sl.bytesM sl)) k g mb v n F:=(H6.out.below HB6.out).stayB (K:=[mb]) (K':=[mb]) ⟨ho7.os,ho7.tape,ho7.output,ho7.size,fun j hj hn=>ho7.block j hj (fun e=>hn (by rw [e];exact List.mem_singleton.2 rfl)),fun _ h=>.inl h⟩
      (fun j hj=>by cases List.mem_singleton.1 hj;exact .inl hmb)
      (fun j hj e=>by cases List.mem_singleton.1 e;exact HGm.out.2.1 hj)
      (fun j hj e=>by cases List.mem_singleton.1 e;exact HGm.out.1 hj)
      (fun e=>by
        have e:=List.mem_singleton.1 e
        obtain⟨es,c,hb⟩:=hmb
        rw [←e,(H6.out.below HB6.out).st.row] at hb;cases hb)
      (fun b hb e=>by
        have e:=List.mem_singleton.1 e
        obtain⟨es,c,hbb⟩:=hmb
        obtain⟨-,cur,hh⟩:=hown b hb
        rw [e,hbb] at hh;cases hh)
     have H7:Hid (∃s',Sto w7 d sg D G m s' pg (y.put l2 (Sl.bytesM sl)) k g mb v n F∧Rms w7 mb (f.put l2 rm)∧Chg (mb :: G) (mb :: G) w w7):=Lib.hid ⟨s6,h7,hm7,HC6.out.trans ((Chg.of_below HB6.out).trans ⟨ho7.os,ho7.tape,ho7.output,ho7.size,fun j hj hn=>ho7.block j hj (fun e=>hn (by rw [e];exact List.mem_cons_self ..)),fun _ h=>.inl h⟩)⟩
     clear h7 hown hmb hm7 ho7 hrun7 a0 g2
     go_wp2_with fail
     go_roundw
     case rel=>exact .inr ⟨by go_num,H7⟩
     case measure=>simp [RowKit.intOf]))
  ·go_wp2_with fail
   go_end0
   rw [HRME.out]
   exact⟨rfl,HR.out⟩
end
end
section
set_option maxRecDepth 20000
open Go.RowKit
theorem bare_le (F:Nat→Nat) (n:Nat):bareN F n≤n*128:=by
 unfold bareN
 cases h:(List.range (n*128)).find? (fun k=>spF F k == 0) with
 | none=>simp
 | some b=>
  have:=List.mem_of_find?_eq_some h
  rw [List.mem_range] at this
  simp;omega
theorem bare_zero {F:Nat→Nat} {n:Nat} (h:bareN F n<n*128):spF F (bareN F n)=0:=by
 unfold bareN at h ⊢
 cases e:(List.range (n*128)).find? (fun k=>spF F k == 0) with
 | none=>rw [e] at h;simp at h
 | some b=>
  have:=List.find?_some e
  simpa using this
theorem roomy_is {q:Nat→Option (List Sl.Sl)} {z:Nat}:roomyV (roomF q) z = -1∨∃l sl,roomyV (roomF q) z=((l:Nat):Int)∧q l=some sl∧((recordSizeN z:Nat):Int)≤Sl.room sl:=by
 unfold roomyV
 cases e:(roomF q).keys.find? (hasRoom (roomF q) z) with
 | none=>exact .inl rfl
 | some l=>
  have h1:=List.find?_some e
  have h2:=List.mem_of_find?_eq_some e
  have h3:=(Rmf.mem_keys.1 h2).2
  unfold hasRoom at h1
  unfold roomF at h1 h3
  cases hq:q l with
  | none=>rw [hq] at h3;cases h3
  | some sl=>
   rw [hq] at h1
   exact .inr ⟨l,sl,rfl,hq,of_decide_eq_true h1⟩
def addFullS (y:Xv) (F:Nat→Nat) (n:Nat) (q:Nat→Option (List Sl.Sl)) (z:Nat):Bool:=decide (bareN F n=8192) || decide (512<Bi.cnt (nn y.now) 512+needP n ((bareN F n:Int)+1) (roomyV (roomF q) z) z)
section
variable {w w':World} {d sg pg k g mb n:Nat} {D G:List Nat} {m:Dsk} {s:Sp} {y:Xv} {v:Value} {F:Nat→Nat} {q:Nat→Option (List Sl.Sl)} {T:Nat→Option (List Nat × List Nat)} {U:Nat→Nat}
set_option maxHeartbeats 3200000 in
theorem Stw.addLong (h:Stw w d sg D G m s pg y k g mb v n F q T U) (S:ByteArray) (hS:16384<S.size) (hS2:S.size≤1099511627776) :
  Calls Tryz.prog 24 #[.pointer (some ⟨g,0,none⟩),.string S] w fun e w'=>e = .returned (.tuple #[.int .i64 0,.int .i64 2])∧Below w.heap.size w w':=by
 have HRF:=Lib.hid h.st.st.refusal
 have HBA:=Lib.hid h.st.st.bare
 have HRO:Hid (∀w1,Below w.heap.size w w1→Calls Tryz.prog 52 #[.pointer (some ⟨g,0,none⟩),.int .i64 (S.size:Int)] w1 fun e w'=>e = .returned (.int .i64 (roomyV (roomF q) S.size))∧Below w1.heap.size w1 w'):=Lib.hid fun w1 hb=>(h.below hb).st.st.roomy (h.rm.below hb) S.size hS2
 have d1:decide ((16384:Int)<(S.size:Int))=true:=decide_eq_true (by omega)
 have d2:decide (16384<S.size)=true:=decide_eq_true (by omega)
 have dI:(16384:Int)<(S.size:Int):=by omega
 clear h
 generalize roomyV (roomF q) S.size=P at *
 go_enter Tryz.func24,Tryz.ntmps24
 go_wp2_with (first
  | (go_at_call 42;with_reducible refine HRF.out.mono ?_;rintro e w1 ⟨rfl,rfl⟩)
  | (go_at_call 51;with_reducible refine HBA.out.mono ?_;rintro e w2 ⟨rfl,hb2⟩;have HB2:=Lib.hid hb2;clear hb2)
  | (go_at_call 52;with_reducible refine(HRO.out _ HB2.out).mono ?_;rintro e w3 ⟨rfl,hb3⟩;have HB3:=Lib.hid (HB2.out.trans (hb3.mono HB2.out.size));clear hb3))
 go_ret2
 exact⟨rfl,HB3.out⟩
set_option maxHeartbeats 3200000 in
theorem Stw.addFull (h:Stw w d sg D G m s pg y k g mb v n F q T U) (S:ByteArray) (hS:S.size≤16384) (hf:addFullS y F n q S.size=true) :
  Calls Tryz.prog 24 #[.pointer (some ⟨g,0,none⟩),.string S] w fun e w'=>e = .returned (.tuple #[.int .i64 0,.int .i64 8])∧Below w.heap.size w w':=by
 have HRF:=Lib.hid h.st.st.refusal
 have HBA:=Lib.hid h.st.st.bare
 have HRO:Hid (∀w1,Below w.heap.size w w1→Calls Tryz.prog 52 #[.pointer (some ⟨g,0,none⟩),.int .i64 (S.size:Int)] w1 fun e w'=>e = .returned (.int .i64 (roomyV (roomF q) S.size))∧Below w1.heap.size w1 w'):=Lib.hid fun w1 hb=>(h.below hb).st.st.roomy (h.rm.below hb) S.size (by omega)
 have HLK:Hid (∀w1,Below w.heap.size w w1→Calls Tryz.prog 53 #[.pointer (some ⟨g,0,none⟩),.int .i64 ((bareN F n:Nat)+1:Int),.int .i64 (roomyV (roomF q) S.size),.int .i64 (S.size:Int)] w1 fun e w'=>e = .returned (.bool (decide ((512:Int) - (Bi.cnt (nn y.now) 512:Nat)<(needP n ((bareN F n:Nat)+1:Int) (roomyV (roomF q) S.size) S.size:Nat))))∧Below w1.heap.size w1 w'):=Lib.hid fun w1 hb=>(h.below hb).st.lacks _ _ S.size (by omega)
 have hn64:=h.ok.n64
 have hbl:=bare_le F n
 have d1:decide ((16384:Int)<(S.size:Int))=false:=decide_eq_false (by omega)
 have d2:decide (16384<S.size)=false:=decide_eq_false (by omega)
 have dI:(S.size:Int)≤16384:=by omega
 unfold addFullS at hf
 clear h
 generalize roomyV (roomF q) S.size=P at *
 generalize bareN F n=b at *
 obtain⟨I,hI⟩:∃I:Int,(b:Int)+1=I:=⟨_,rfl⟩
 rw [hI] at HLK HBA hf
 by_cases h8:b=8192
 ·have e1:decide ((8192:Int)<I)=true:=decide_eq_true (by omega)
  have e3:(8192:Int)<I:=by omega
  clear HLK hf hI h8 hbl hn64
  go_enter Tryz.func24,Tryz.ntmps24
  go_wp2_with (first
   | (go_at_call 42;with_reducible refine HRF.out.mono ?_;rintro e w1 ⟨rfl,rfl⟩)
   | (go_at_call 51;with_reducible refine HBA.out.mono ?_;rintro e w2 ⟨rfl,hb2⟩;have HB2:=Lib.hid hb2;clear hb2)
   | (go_at_call 52;with_reducible refine(HRO.out _ HB2.out).mono ?_;rintro e w3 ⟨rfl,hb3⟩;have HB3:=Lib.hid (HB2.out.trans (hb3.mono HB2.out.size));clear hb3))
  go_ret2
  exact⟨rfl,HB3.out⟩
 ·have e1:decide ((8192:Int)<I)=false:=decide_eq_false (by omega)
  have e2:decide ((512:Int) - (Bi.cnt (nn y.now) 512:Nat)<(needP n I P S.size:Nat))=true:=by
   rw [decide_eq_false h8,Bool.false_or] at hf
   have:=of_decide_eq_true hf
   exact decide_eq_true (by omega)
  rw [e2] at HLK
  have e3:I≤8192:=by omega
  clear hf hI h8 hbl hn64 e2
  go_enter Tryz.func24,Tryz.ntmps24
  go_wp2_with (first
   | (go_at_call 42;with_reducible refine HRF.out.mono ?_;rintro e w1 ⟨rfl,rfl⟩)
   | (go_at_call 51;with_reducible refine HBA.out.mono ?_;rintro e w2 ⟨rfl,hb2⟩;have HB2:=Lib.hid hb2;clear hb2)
   | (go_at_call 52;with_reducible refine(HRO.out _ HB2.out).mono ?_;rintro e w3 ⟨rfl,hb3⟩;have HB3:=Lib.hid (HB2.out.trans (hb3.mono HB2.out.size));clear hb3)
   | (go_at_call 53;with_reducible refine(HLK.out _ HB3.out).mono ?_;rintro e w4 ⟨rfl,hb4⟩;have HB4:=Lib.hid (HB3.out.trans (hb4.mono HB3.out.size));clear hb4))
  go_ret2
  exact⟨rfl,HB4.out⟩
end
end
section
set_option maxRecDepth 20000
open Go.RowKit
structure Stg (w w':World) (d sg:Nat) (D G:List Nat) (m:Dsk) (pg:Nat) (y y':Xv) (k g mb:Nat) (v:Value) (T':Nat→Option (List Nat × List Nat)):Prop where
 is:∃s' v' n' F' q' U',Stw w' d sg D G m s' pg y' k g mb v' n' F' q' T' U'∧Fra w w' G g mb v v' []
 xv:XvR y y'
section
variable {w w':World} {d sg pg k g mb mb2 n:Nat} {D G:List Nat} {m:Dsk} {s:Sp} {y:Xv} {v:Value} {F:Nat→Nat} {q:Nat→Option (List Sl.Sl)} {T:Nat→Option (List Nat × List Nat)} {U:Nat→Nat}
theorem dm_put2 (l gp gp':Nat):(Dmf.put (Dmf.put (fun _=>none) l gp) l gp':Dmf)=Dmf.put (fun _=>none) l gp':=by
 funext j
 unfold Dmf.put
 by_cases e:j=l
 ·rw [if_pos e,if_pos e]
 ·rw [if_neg e,if_neg e,if_neg e]
theorem roomF_put (q:Nat→Option (List Sl.Sl)) (l:Nat) (sl:List Sl.Sl):Rmf.put (roomF q) l (Sl.room sl)=roomF fun p=>if p=l then some sl else q p:=by
 funext j
 unfold Rmf.put roomF
 by_cases e:j=l
 ·simp only [if_pos e];rfl
 ·simp only [if_neg e]
theorem withL_ne {l:List Sl.Sl} (r:ByteArray):Sl.withL l (Sl.bareI l) (some r)≠[]:=fun e=>by
 have h:=Sl.withL_len (Sl.bareI_le l) (some r)
 rw [e] at h
 split at h
 ·cases h
 ·rename_i h2
  have h3:l.length=0:=h.symm
  have:=Sl.bareI_le l
  omega
theorem LaE.clear {w0 w w':World} {y3:Xv} {v1 vp:Value} {n1 l gp i:Nat} {F1 U3:Nat→Nat} {ds ps:List Nat} {sl:List Sl.Sl} {page:Int} {fm:Dmf} {K:List Nat} (h:Stw w0 d sg D G m s pg y k g mb v n F q T U) (he:LaE w w' d sg D G m pg k g mb mb2 y v q T U fm K ds i page y3 v1 n1 F1 U3 l gp vp sl ps) (hT:T i=none)
  (hfm:fm.put l gp=Dmf.put (fun _=>none) l gp) (hr:Rms w' mb (roomF q)) (hmG:mb2∉G) (hfr:Fra w0 w' G g mb v v1 []) :
  Calls Tryz.prog 57 #[.agg #[.pointer (some ⟨g,0,none⟩),.map (some mb2)]] w' fun e w2=>e = .returned (.tuple #[])∧∃y',Stg w0 w2 d sg D G m pg y y' k g mb v (fun j=>if j=i then some (ds,ps) else T j):=by
 obtain⟨s',hs'⟩:=he.st
 have hU:U3 l≠0:=by
  rcases he.qq with e | ⟨_,e,_⟩
  ·rw [(he.ok.rc _ _ e).1];decide
  ·rw [e];decide
 have hyl:=(he.ok.live l he.l5).2 hU
 have hth:thX (y3.put (F1 (i / 128*129)) (partB (Tb.updN F1 (cellN i) (l*64+Sl.bareI sl+1)) (i / 128))).now (l:Int)=true:=by
  rw [th_nat he.l5,nn_iff]
  show (if l=F1 (i / 128*129) then partB _ _ else y3.now l)≠[]
  split
  ·exact partB_nil _ _
  ·exact nn_iff.1 hyl
 have hm:=he.dm
 rw [hfm] at hm
 refine(hs'.clear1 hm he.on.pg (withL_ne _) he.l5 hth hr h.mG h.mD hmG (fun j hj=>(he.on.ap j hj).1)).mono ?_
 rintro e w2 ⟨rfl,s2,h2,hr2,hc2⟩
 rw [roomF_put] at hr2
 refine⟨rfl,_,⟨s2,v1,n1,_,_,addU U3 i l ps,⟨h2,?_,hr2,h.mG,h.mD⟩,hfr.chg hc2 (fun j hj=>?_) fun j hj=>.inl hj⟩,(he.xv.put _ _).put _ _⟩
 ·exact he.ok.add he.hi he.h0 he.qq he.th he.nd he.ups he.lp he.okw
 ·rcases List.mem_cons.1 hj with e | e
  ·exact .inr (.inr (.inl e))
  ·exact .inl e
theorem LaE.done {w0 w1 w2 w3:World} {y3:Xv} {v1 vp:Value} {n1 l gp i:Nat} {F1 U3:Nat→Nat} {ds ps:List Nat} {sl:List Sl.Sl} {page:Int} {fm:Dmf} {K:List Nat} (h:Stw w0 d sg D G m s pg y k g mb v n F q T U) (hb:Below w0.heap.size w0 w1) (hc:Chg [mb2] [mb2] w1 w2) (hm2:w0.heap.size≤mb2) (hm1:Dms w2 mb2 fm)
  (he:LaE w2 w3 d sg D G m pg k g mb mb2 y v q T U fm K ds i page y3 v1 n1 F1 U3 l gp vp sl ps) (hT:T i=none) (hfm:fm.put l gp=Dmf.put (fun _=>none) l gp) (hKw:∀j∈K,w0.heap.size≤j) (hKt:∀j∈K,∀cs,w2.heap[j]?≠some (.cells cs 106 (0,0))) :
  (∀b cs,w2.heap[b]?=some (.cells cs 106 (0,0))→w0.heap.size≤b→w3.heap[b]?=w2.heap[b]?) ∧
  Hid (Calls Tryz.prog 57 #[.agg #[.pointer (some ⟨g,0,none⟩),.map (some mb2)]] w3 fun e w4=>e = .returned (.tuple #[])∧∃y' ps,Stg w0 w4 d sg D G m pg y y' k g mb v (fun j=>if j=i then some (ds,ps) else T j)):=by
 have hGl:=kin_lt h.st.sp.kinG
 have hgl:=h.st.st.lt
 have hvl:=fun b hb=>(World.ownsRow.lt h.st.st.own b hb).2
 have hmbl:=h.rm.lt
 have hz1:=hb.size
 have hz2:=hc.size
 obtain⟨esm,ecm,hmm⟩:=hm1.isMap
 have hk2:∀b,b<w0.heap.size→w2.heap[b]?=w0.heap[b]?:=fun b hb2=>(hc.block b (by omega) (by simp;omega)).trans (hb.block b hb2)
 refine⟨fun b cs hx hbw=>he.fr.keep b (lt_of_block hx) (fun e=>by have:=hGl b e;omega) (by omega) (fun e=>by rw [e,hmm] at hx;cases hx) (fun e=>by have:=hvl b e;omega) (fun e=>hKt b e cs hx),Lib.hid ?_⟩
 have hvmb:v.ownBlock≠some mb:=fun e=>by
  obtain⟨es,c,hmp⟩:=h.rm.isMap
  obtain⟨-,cur,hh⟩:=h.st.own_ne mb e
  rw [hmp] at hh;cases hh
 have hmg:mb≠g:=fun e=>by
  obtain⟨es,c,hmp⟩:=h.rm.isMap
  rw [e,h.st.st.row] at hmp;cases hmp
 have hr2:Rms w2 mb (roomF q):=h.rm.same (hk2 mb hmbl)
 have hr3:Rms w3 mb (roomF q):=hr2.same (he.fr.keep mb hr2.lt h.mG hmg (by omega) hvmb (fun e=>by have:=hKw mb e;omega))
 have hfr:Fra w0 w3 G g mb v v1 []:=⟨he.fr.os.trans (hc.os.trans hb.os),he.fr.tape.trans (hc.tape.trans hb.tape),he.fr.output.trans (hc.output.trans hb.output),by have:=he.fr.size;omega,fun b hb2 h1 h2 h3 h4 _=>(he.fr.keep b (by omega) h1 h2 (by omega) h4 (fun e=>by have:=hKw b e;omega)).trans (hk2 b hb2),fun j hj=>(he.fr.own j hj).imp id (fun e=>by omega)⟩
 refine(he.clear h hT hfm hr3 (fun e=>by have:=hGl mb2 e;omega) hfr).mono ?_
 rintro e w4 ⟨rfl,y',hg⟩
 exact⟨rfl,y',ps,hg⟩
set_option maxHeartbeats 6400000 in
theorem Stw.add (h:Stw w d sg D G m s pg y k g mb v n F q T U) (S:ByteArray) (ds:List Nat) (hS:IsS S ds) (hd:ds.length≤16384) (hf:addFullS y F n q ds.length=false) :
  Calls Tryz.prog 24 #[.pointer (some ⟨g,0,none⟩),.string S] w fun e w'=>e = .returned (.tuple #[.int .i64 ((bareN F n:Nat)+1:Int),.int .i64 0])∧∃y' ps,Stg w w' d sg D G m pg y y' k g mb v (fun j=>if j=bareN F n then some (ds,ps) else T j):=by
 have hsz:=hS.size
 have hn64:=h.ok.n64
 have hbl:=bare_le F n
 unfold addFullS at hf
 rw [Bool.or_eq_false_iff] at hf
 have hf1:bareN F n≠8192:=of_decide_eq_false hf.1
 have hf2:Bi.cnt (nn y.now) 512+needP n ((bareN F n:Int)+1) (roomyV (roomF q) ds.length) ds.length≤512:=by have:=of_decide_eq_false hf.2;omega
 have HRF:=Lib.hid h.st.st.refusal
 have HBA:=Lib.hid h.st.st.bare
 have HRO:Hid (∀w1,Below w.heap.size w w1→Calls Tryz.prog 52 #[.pointer (some ⟨g,0,none⟩),.int .i64 (S.size:Int)] w1 fun e w'=>e = .returned (.int .i64 (roomyV (roomF q) ds.length))∧Below w1.heap.size w1 w'):=Lib.hid fun w1 hb=>by
  rw [hsz];exact(h.below hb).st.st.roomy (h.rm.below hb) ds.length (by omega)
 have HLK:Hid (∀w1,Below w.heap.size w w1→Calls Tryz.prog 53 #[.pointer (some ⟨g,0,none⟩),.int .i64 ((bareN F n:Nat)+1:Int),.int .i64 (roomyV (roomF q) ds.length),.int .i64 (S.size:Int)] w1 fun e w'=>e = .returned (.bool false)∧Below w1.heap.size w1 w'):=Lib.hid fun w1 hb=>by
  have hl:=(h.below hb).st.lacks ((bareN F n:Nat)+1:Int) (roomyV (roomF q) ds.length) S.size (by omega)
  rw [hsz] at hl ⊢
  rw [show decide ((512:Int) - (Bi.cnt (nn y.now) 512:Nat)<(needP n ((bareN F n:Nat)+1:Int) (roomyV (roomF q) ds.length) ds.length:Nat))=false from decide_eq_false (by omega)] at hl
  exact hl
 have hGl:=kin_lt h.st.sp.kinG
 have hDl:=kin_lt h.st.sp.kinF
 have hgl:=h.st.st.lt
 have hvl:=fun b hb=>(World.ownsRow.lt h.st.st.own b hb).2
 have hmbl:=h.rm.lt
 obtain⟨esb,ecb,hmbm⟩:=h.rm.isMap
 have hTb:T (bareN F n)=none:=by
  refine h.ok.no _ ?_
  unfold Go.Proofs.YtmbecjlioogbhaaGreatDoor.sg
  by_cases e:bareN F n<n*128
  ·rw [if_pos e];exact bare_zero e
  ·rw [if_neg e,if_neg (by omega)]
 have HSU:Hid (∀w1 mb2,Below w.heap.size w w1→Dms w1 mb2 (fun _=>none)→w.heap.size≤mb2→Calls Tryz.prog 55 #[.agg #[.pointer (some ⟨g,0,none⟩),.map (some mb2)],.int .i64 ((bareN F n:Nat)+1:Int),.int .i64 (roomyV (roomF q) ds.length)] w1 fun e w2=>e = .returned (.int .i64 0)∧Chg [mb2] [mb2] w1 w2 ∧
   Hid (Calls Tryz.prog 56 #[.agg #[.pointer (some ⟨g,0,none⟩),.map (some mb2)],.int .i64 ((bareN F n:Nat)+1:Int),.int .i64 (roomyV (roomF q) ds.length),.string S] w2 fun e w3=>e = .returned (.tuple #[])∧(∀b cs,w2.heap[b]?=some (.cells cs 106 (0,0))→w.heap.size≤b→w3.heap[b]?=w2.heap[b]?) ∧
    Hid (Calls Tryz.prog 57 #[.agg #[.pointer (some ⟨g,0,none⟩),.map (some mb2)]] w3 fun e w4=>e = .returned (.tuple #[])∧∃y' ps,Stg w w4 d sg D G m pg y y' k g mb v (fun j=>if j=bareN F n then some (ds,ps) else T j)))):=Lib.hid fun w1 mb2 hb hm hm2=>by
  have h1:=h.below hb
  have hz1:=hb.size
  have hm1l:=hm.lt
  have hmG:mb2∉G:=fun e=>by have:=hGl mb2 e;omega
  have hmD:mb2∉D:=fun e=>by have:=hDl mb2 e;omega
  have hmg:mb2≠g:=by omega
  have hmv:v.ownBlock≠some mb2:=fun e=>by have:=hvl mb2 e;omega
  have hi:bareN F n<n*128∨(bareN F n=n*128∧n<64):=by omega
  have hi9:bareN F n≤1099511627776:=by omega
  rcases roomy_is (q:=q) (z:=ds.length) with e | ⟨l,sl,e,hq,hfit⟩
  ·rw [e] at hf2 ⊢
   refine(h1.deskSure0 (bareN F n) hi9 mb2).mono ?_
   rintro e' w2 ⟨rfl,hb2⟩
   have h2:=h1.below hb2
   have hc2:Chg [mb2] [mb2] w1 w2:=Chg.of_below2 [mb2] hb2
   have hmd:=hm.below hb2
   refine⟨rfl,hc2,Lib.hid ?_⟩
   have hls:Lsx w2 w2 d sg D G m pg k g mb mb2 y y v v n F q T U []:=⟨⟨s,h2.st⟩,h2.ok,Fra.refl _ _ _ _ _ _,XvR.refl _,hmG,hmD,hmg,hmv,hmd.lt⟩
   refine(hls.lay hmd (K:=[]) hi (fun e=>bare_zero e) (-1) S ds hS hd hf2 (.inl rfl)).mono ?_
   rintro e' w3 ⟨rfl,y3,v1,n1,F1,U3,l,gp,vp,sl,ps,he⟩
   obtain⟨r1,r2⟩:=he.done h hb hc2 hm2 hmd hTb rfl (fun j hj=>by cases hj) (fun j hj=>by cases hj)
   exact⟨rfl,r1,r2⟩
  ·rw [e] at hf2 ⊢
   have hmm:mb2≠mb:=by omega
   refine(h1.deskSure1 (bareN F n) hi9 hm hmG hmD hmg hmv hmm l hq).mono ?_
   rintro e' w2 ⟨rfl,gp0,vp0,hmd,hp2,hf2',hc2⟩
   have hst2:Sto w2 d sg D G m s pg y k g mb v n F:=h1.st.stayB hc2 (fun j hj=>by cases List.mem_singleton.1 hj;exact .inl hm.isMap) (fun j hj e=>hmD (List.mem_singleton.1 e ▸ hj)) (fun j hj e=>hmG (List.mem_singleton.1 e ▸ hj)) (fun e=>hmg (List.mem_singleton.1 e).symm) (fun b hb e=>hmv (List.mem_singleton.1 e ▸ hb))
   refine⟨rfl,hc2,Lib.hid ?_⟩
   have hls:Lsx w2 w2 d sg D G m pg k g mb mb2 y y v v n F q T U []:=⟨⟨s,hst2⟩,h1.ok,Fra.refl _ _ _ _ _ _,XvR.refl _,hmG,hmD,hmg,hmv,hmd.lt⟩
   refine(hls.lay hmd (K:=Sl.foot gp0 vp0) hi (fun e=>bare_zero e) (l:Int) S ds hS hd hf2 (.inr ⟨l,gp0,vp0,sl,rfl,hq,Dmf.put_same _ _ _,⟨hp2,fun j hj=>?_⟩,fun j hj=>hp2.pg.lt j hj,hfit⟩)).mono ?_
   ·have:=hf2' j hj
    exact⟨fun e=>by have:=hGl j e;omega,fun e=>by have:=hDl j e;omega,by omega,by omega,fun e=>by have:=hvl j e;omega,.inr hj⟩
   ·rintro e' w3 ⟨rfl,y3,v1,n1,F1,U3,l3,gp,vp,sl3,ps,he⟩
    have hl3:l3=l:=by rcases he.pgl with e | e <;> omega
    obtain⟨r1,r2⟩:=he.done h hb hc2 hm2 hmd hTb (by rw [hl3];exact dm_put2 _ _ _) (fun j hj=>by have:=hf2' j hj;omega) (fun j hj cs hx=>by
     obtain⟨cs2,t,fr,e2,e3⟩:=hp2.typed j hj
     rw [hx] at e2
     cases e2
     revert e3;decide)
    exact⟨rfl,r1,r2⟩
 have hszI:(S.size:Int)≤16384:=by omega
 have d1:decide ((16384:Int)<(S.size:Int))=false:=decide_eq_false (by omega)
 have d2:decide (16384<S.size)=false:=decide_eq_false (by omega)
 clear h hS hd hf hf2 hsz hGl hDl hvl hmbl hmbm hTb
 generalize roomyV (roomF q) ds.length=P at *
 generalize bareN F n=b at *
 obtain⟨I,hI⟩:∃I:Int,(b:Int)+1=I:=⟨_,rfl⟩
 rw [hI] at HLK HBA HSU ⊢
 have e1:decide ((8192:Int)<I)=false:=decide_eq_false (by omega)
 have e3:I≤8192:=by omega
 clear hI hf1 hbl hn64
 go_enter Tryz.func24,Tryz.ntmps24
 go_upto_region 9 with (first
  | (go_at_call 42;with_reducible refine HRF.out.mono ?_;rintro e w1 ⟨rfl,rfl⟩)
  | (go_at_call 51;with_reducible refine HBA.out.mono ?_;rintro e w2 ⟨rfl,hb2⟩;have HB2:=Lib.hid hb2;clear hb2)
  | (go_at_call 52;with_reducible refine(HRO.out _ HB2.out).mono ?_;rintro e w3 ⟨rfl,hb3⟩;have HB3:=Lib.hid (HB2.out.trans (hb3.mono HB2.out.size));clear hb3)
  | (go_at_call 53;with_reducible refine(HLK.out _ HB3.out).mono ?_;rintro e w4 ⟨rfl,hb4⟩;have HB4:=Lib.hid (HB3.out.trans (hb4.mono HB3.out.size));clear hb4))
 go_upto_region 10 with (go_at_call 54;with_reducible refine(desk_any g _).mono ?_;rintro e w5 ⟨mb2,rfl,hm5,hm2,hb5⟩;have HB5:=Lib.hid (HB4.out.trans (hb5.mono HB4.out.size));have HM5:=Lib.hid hm5;have HM2:Hid (w.heap.size≤mb2):=Lib.hid (by have:=HB4.out.size;omega);clear hm5 hm2 hb5)
 have hb6:Below w5.heap.size w5 (w5.alloc (.cells #[.pointer (some ⟨g,0,none⟩),.map (some mb2)] 106)):=(Below.refl _ _).alloc (Nat.le_refl _) _
 have HB6:=Lib.hid (HB5.out.trans (hb6.mono HB5.out.size))
 have HM6:=Lib.hid (HM5.out.below hb6)
 have HX6:=Lib.hid (heap_alloc_new w5 (.cells #[.pointer (some ⟨g,0,none⟩),.map (some mb2)] 106))
 have HZ5:=Lib.hid HB5.out.size
 have HMN:Hid (mb2<w5.heap.size):=Lib.hid HM5.out.lt
 clear hb6 HM5
 generalize w5.alloc (.cells #[.pointer (some ⟨g,0,none⟩),.map (some mb2)] 106)=w6 at *
 have a0:=cell_of_row _ _ 0 _ _ _ HX6.out
 have a1:=cell_of_row _ _ 1 _ _ _ HX6.out
 simp at a0 a1
 go_upto_region 13 with (go_at_call 55;with_reducible refine(HSU.out _ mb2 HB6.out HM6.out HM2.out).mono ?_;rintro e w7 ⟨rfl,hc7,HLY⟩;have HX7:=Lib.hid ((hc7.block w5.heap.size (lt_of_block HX6.out) (by have:=HMN.out;simp;omega)).trans HX6.out);have a0:=cell_of_row _ _ 0 _ _ _ HX7.out;have a1:=cell_of_row _ _ 1 _ _ _ HX7.out;simp at a0 a1;clear hc7)
 go_upto_region 14 with (go_at_call 56;with_reducible refine HLY.out.mono ?_;rintro e w8 ⟨rfl,hfr8,HC8⟩;have hx8:=(hfr8 _ _ HX7.out HZ5.out).trans HX7.out;have a0:=cell_of_row _ _ 0 _ _ _ hx8;have a1:=cell_of_row _ _ 1 _ _ _ hx8;simp at a0 a1)
 go_wp2_with (go_at_call 57;with_reducible refine HC8.out.mono ?_;rintro e w9 ⟨rfl,HE9⟩;have HE:=Lib.hid HE9;clear HE9)
 go_ret2
 exact⟨rfl,HE.out⟩
end
end
section
set_option maxRecDepth 20000
open Go.RowKit
def KptT (w w':World):Prop:=(∀(b:Nat) (cs:Array Value) (t:TypeId) (fr:Nat × Nat),w.heap[b]?=some (Obj.cells cs t fr)→t≠59→w'.heap[b]?=w.heap[b]?)∧∀(b:Nat) (es:Array MapEntry) (c:Nat),w.heap[b]?=some (Obj.map es c)→w'.heap[b]?=w.heap[b]?
section
variable {w w':World}
theorem Sec.kptT {v:Value} {s:List Nat} (hs:Sec w v s) (h:KptT w w'):Sec w' v s:=by
 obtain⟨b,c,cur,fr,rfl,hh,hr⟩:=hs
 exact⟨b,c,cur,fr,rfl,(h.1 _ _ _ _ hh (by decide)).trans hh,hr⟩
theorem Dk0.kptT {g bO cO bL cL:Nat} {vW:Value} {os ls:List Value} {ws:List Vw} {m:Dsk} (h:Dk0 w g bO cO bL cL vW os ls ws m) (hc:KptT w w'):Dk0 w' g bO cO bL cL vW os ls ws m:=by
 have hs:∀k∈foot g bO bL vW,w'.heap[k]?=w.heap[k]?:=fun k hk=>by
  obtain⟨cs,t,fr,h1,h2⟩:=h.typed k hk
  exact hc.1 _ _ _ _ h1 (by rcases h2 with h2 | h2 | h2 <;> rw [h2] <;> decide)
 refine⟨(hs g (by simp [foot])).trans h.hd,own_other h.ro (fun k hk=>hs k ?_),own_other h.rl (fun k hk=>hs k ?_),own_other h.rw_ (fun k hk=>hs k ?_),⟨h.so.len,fun i hi=>(h.so.at_ i hi).kptT hc⟩,⟨h.sl.len,fun i hi=>(h.sl.at_ i hi).kptT hc⟩,⟨h.sw.len,fun i hi=>⟨(h.sw.at_ i hi).1,(h.sw.at_ i hi).2.kptT hc⟩⟩,h.nil_,h.ne,h.ok⟩
 ·cases hk;simp [foot]
 ·cases hk;simp [foot]
 ·simp [foot,hk]
theorem Row5.kptT {g N:Nat} {us:List Nat} (hs:Row5 w g N us) (h:KptT w w'):Row5 w' g N us:=by
 obtain⟨cur,hc⟩:=hs.head
 exact hs.same (h.1 _ _ _ _ hc (by decide))
theorem Stp.kptT {p:Option Addr} {f:Option (Nat→Bool)} (hs:Stp w p f) (h:KptT w w'):Stp w' p f:=by
 cases f with
 | none=>exact hs
 | some f=>
  obtain⟨g,b,e,hs⟩:=hs
  exact⟨g,b,e,hs.le,hs.sub,hs.ne,(h.1 _ _ _ _ hs.box (by decide)).trans hs.box,hs.row.kptT h⟩
theorem Spc0.kptT {g d pt pk mb:Nat} {pu po:Option Addr} {s:Sp} (h:Spc0 w g d pt pk mb pu po s) (hc:KptT w w'):Spc0 w' g d pt pk mb pu po s:=by
 obtain⟨es,c,hm⟩:=h.map.isMap
 exact⟨(hc.1 _ _ _ _ h.box (by decide)).trans h.box,h.tab.same (hc.1 _ _ _ _ h.tab.row (by decide)),h.kep.same (hc.1 _ _ _ _ h.kep.row (by decide)),h.map.same (hc.2 _ _ _ hm),h.us.kptT hc,h.od.kptT hc,h.ne⟩
theorem Spz.kptT {d g:Nat} {F G:List Nat} {m:Dsk} {s:Sp} {pg k:Nat} {y:Xv} (h:Spz w d g F G m s pg y k) (hc:KptT w w'):Spz w' d g F G m s pg y k:=by
 obtain⟨bO,cO,bL,cL,vW,os,ls,ws,hd,hF⟩:=h.dk
 obtain⟨pt,pk,mb,pu,po,hs,hG⟩:=h.sp
 exact⟨⟨bO,cO,bL,cL,vW,os,ls,ws,hd.kptT hc,hF⟩,⟨pt,pk,mb,pu,po,hs.kptT hc,hG⟩,h.inv,h.sim,h.dn,h.ep,h.ro,h.lim,h.od,h.hl0⟩
theorem Sto.kptT {d sg pg k g mb n:Nat} {D G:List Nat} {m:Dsk} {s:Sp} {y:Xv} {v:Value} {F:Nat→Nat} (h:Sto w d sg D G m s pg y k g mb v n F) (hc:KptT w w'):Sto w' d sg D G m s pg y k g mb v n F:=
 ⟨h.sp.kptT hc,⟨(hc.1 _ _ _ _ h.st.row (by decide)).trans h.st.row,own_other h.st.own fun b hb=>by
  obtain⟨cur,hh⟩:=own_head h.st.own hb
  exact hc.1 _ _ _ _ hh (by decide),h.st.n64⟩,h.ag,h.av,h.ad,h.avd⟩
theorem Stw.kptT {d sg pg k g mb n:Nat} {D G:List Nat} {m:Dsk} {s:Sp} {y:Xv} {v:Value} {F:Nat→Nat} {q:Nat→Option (List Sl.Sl)} {T:Nat→Option (List Nat × List Nat)} {U:Nat→Nat} (h:Stw w d sg D G m s pg y k g mb v n F q T U) (hc:KptT w w'):Stw w' d sg D G m s pg y k g mb v n F q T U:=by
 obtain⟨es,c,hm⟩:=h.rm.isMap
 exact⟨h.st.kptT hc,h.ok,h.rm.same (hc.2 _ _ _ hm),h.mG,h.mD⟩
end
end
section
set_option maxRecDepth 20000
open Go.RowKit
theorem first_needX:needX (Xv.new.put 0 head0) 4=3:=by kernel_rfl
theorem first_room {w:World} {d sg pg:Nat} {D G:List Nat} {m:Dsk} {s:Sp} (h:Spz w d sg D G m s pg (Xv.new.put 0 head0) 0) (hpg:8≤pg):needS s≤(freeL s).length:=by
 rw [←need_eq h.sim h.inv.sp h.secs,first_needX]
 have h1:=free_len h.inv.sp h.od
 have h2:=h.hl0 rfl
 omega
section
variable {w w':World} {d sg pg k g mb n:Nat} {D G:List Nat} {m:Dsk} {s:Sp} {y:Xv} {v:Value} {F:Nat→Nat}
set_option maxHeartbeats 1600000 in
theorem Sto.commitOk (h:Sto w d sg D G m s pg y k g mb v n F) (hk:k+1≤1000) (hN:needS s≤(freeL s).length) (word:Int) (hw:0≤word∧word≤2147483647) :
  Calls Tryz.prog 16 #[.pointer (some ⟨g,0,none⟩),.int .i64 word] w fun e w'=>e = .returned (.int .i64 0)∧∃m' D' G',Sto w' d sg D' G' m' (commS s (nextR s word)) pg (y.commit word) (k+1) g mb v n F∧Chg (D++G) (D'++G') w w':=by
 have c0:=h.st.c0
 have HR:=Lib.hid h.st.refusal
 have HC:=Lib.hid ((commit_z h.sp hk word).mono (R':=fun e w'=>e = .returned (.int .i64 0)∧Hid (∃m' D' G',Sto w' d sg D' G' m' (commS s (nextR s word)) pg (y.commit word) (k+1) g mb v n F∧Chg (D++G) (D'++G') w w')) (by
  rintro e w' ⟨E,rfl,hE,-,hz⟩
  have hE0:E=0:=by
   rcases hE with ⟨h1,_⟩ | ⟨_,h1,_⟩ | ⟨_,_,h1⟩
   ·exact absurd hw h1
   ·omega
   ·exact h1
  subst hE0
  obtain⟨m',D',G',hs,hc⟩:=hz rfl
  have hgl:=h.st.lt
  have hout:∀b,b<w.heap.size→b∉D→b∉G→b∉D'++G':=fun b hb h1 h2 e=>(hc.fresh b e).elim (fun e=>(List.mem_append.1 e).elim h1 h2) (fun e=>by omega)
  have hown:=fun b hb=>(World.ownsRow.lt h.st.own b hb).2
  refine⟨rfl,Lib.hid ⟨m',D',G',⟨hs,⟨(hc.block g hgl (fun e=>(List.mem_append.1 e).elim h.ad h.ag)).trans h.st.row,own_other h.st.own fun b hb=>hc.block b (hown b hb) (fun e=>(List.mem_append.1 e).elim (h.avd b hb) (h.av b hb)),h.st.n64⟩,fun e=>hout g hgl h.ad h.ag (List.mem_append.2 (.inr e)),fun b hb e=>hout b (hown b hb) (h.avd b hb) (h.av b hb) (List.mem_append.2 (.inr e)),fun e=>hout g hgl h.ad h.ag (List.mem_append.2 (.inl e)),fun b hb e=>hout b (hown b hb) (h.avd b hb) (h.av b hb) (List.mem_append.2 (.inl e))⟩,hc⟩⟩))
 clear h hk hN hw
 go_enter Tryz.func16,Tryz.ntmps16
 go_wp2_with (first
  | (go_at_call 42;with_reducible refine HR.out.mono ?_;rintro e w1 ⟨rfl,rfl⟩)
  | (go_at_call 43;with_reducible refine HC.out.mono ?_;rintro e w2 ⟨rfl,HS2⟩))
 go_ret
 exact⟨rfl,HS2.out⟩
end
set_option maxHeartbeats 3200000 in
theorem fresh_any (pg:Nat) (h8:8≤pg) (h5:pg≤512) (w:World):Calls Tryz.prog 20 #[.int .i64 (pg:Int)] w fun e w'=>∃d g sg D G m s mb,e = .returned (.tuple #[.pointer (some ⟨d,0,none⟩),.pointer (some ⟨g,0,none⟩)]) ∧
  Sto w' d sg D G m s pg ((Xv.new.put 0 head0).commit 0) 1 g mb (.slice none 0 0) 0 (fun _=>0)∧Rms w' mb (fun _=>none)∧Below w.heap.size w w'∧mb∉G∧mb∉D∧(∀j∈D++G,w.heap.size≤j)∧w.heap.size≤g∧w.heap.size≤mb:=by
 have HND:=Lib.hid (new_any (4*pg) w (by omega) (by omega))
 have hcast:((4*pg:Nat):Int)=4*(pg:Int):=by omega
 rw [hcast] at HND
 have hpI:(pg:Int)≤512:=by omega
 have hp0:(8:Int)≤(pg:Int):=by omega
 have H8:=Lib.hid h8
 have H5:=Lib.hid h5
 clear hcast h8 h5
 go_enter Tryz.func20,Tryz.ntmps20
 go_upto_region 2 with (go_at_call 33;with_reducible refine HND.out.mono ?_;rintro e w1 ⟨d,D1,rfl,hD1,hF1,hb1⟩)
 have HFM:=Lib.hid (format_new (by have:=H8.out;omega) H5.out hD1)
 have HB1:=Lib.hid hb1
 have HF1:=Lib.hid hF1
 clear hb1 hF1 hD1
 go_upto_region 3 with (go_at_call 34;with_reducible refine HFM.out.mono ?_;rintro e w2 ⟨sg,D2,G2,m2,rfl,hr2,hc2,hs2,hd2,hro2⟩)
 have HZ2:=Lib.hid (spz_new hr2 hs2 hd2 hro2)
 have HC2:=Lib.hid hc2
 clear hr2 hc2 hs2 hd2 hro2 HFM
 have HSF:=Lib.hid (format_any HZ2.out (fun l=>rfl))
 go_upto_region 4 with (go_at_call 30;with_reducible refine HSF.out.mono ?_;rintro e w3 ⟨g,mb,s3,rfl,h3,hm3,hmb3,hg3,hc3⟩)
 have H3:=Lib.hid h3
 have HM3:=Lib.hid hm3
 have HG3:=Lib.hid hg3
 have HX3:Hid (w2.heap.size≤mb∧Chg G2 G2 w2 w3):=Lib.hid ⟨hmb3,hc3⟩
 have HCO:=Lib.hid (h3.commitOk (by omega) (first_room h3.sp H8.out) 0 ⟨by omega,by omega⟩)
 clear h3 hm3 hmb3 hg3 hc3 HSF
 go_wp2_with (go_at_call 16;with_reducible refine HCO.out.mono ?_;rintro e w4 ⟨rfl,m4,D4,G4,h4,hc4⟩)
 go_ret2
 have hb1:=HB1.out
 have hc2:=HC2.out
 have hc3:=HX3.out.2
 have hF1:=HF1.out
 have k1:=hb1.size
 have k2:=hc2.size
 have k3:=hc3.size
 have hDG:∀j∈D2++G2,w.heap.size≤j:=fun j hj=>(hc2.fresh j hj).elim (fun e=>hF1 j e) (fun e=>by omega)
 have hDG2:∀j∈D2++G2,j<w2.heap.size:=fun j hj=>(List.mem_append.1 hj).elim (kin_lt HZ2.out.kinF j) (kin_lt HZ2.out.kinG j)
 have hmb:=HX3.out.1
 have hml:=HM3.out.lt
 have hout:∀ {L:List Nat},(∀ {j},j∈L→j∈D4++G4)→mb∉L:=fun hL e=>by
  rcases hc4.fresh mb (hL e) with e | e
  ·have:=hDG2 mb e;omega
  ·omega
 refine⟨d,g,sg,D4,G4,m4,_,mb,rfl,h4,HM3.out.same (hc4.block mb HM3.out.lt (fun e=>by have:=hDG2 mb e;omega)),⟨hc4.os.trans (hc3.os.trans (hc2.os.trans hb1.os)),hc4.tape.trans (hc3.tape.trans (hc2.tape.trans hb1.tape)),hc4.output.trans (hc3.output.trans (hc2.output.trans hb1.output)),by have:=hc4.size;omega,fun j hj=>?_⟩,hout (fun e=>List.mem_append.2 (.inr e)),hout (fun e=>List.mem_append.2 (.inl e)),fun j hj=>(hc4.fresh j hj).elim (hDG j) (fun e=>by omega),by have:=HG3.out;omega,by omega⟩
 refine(hc4.block j (by omega) (fun e=>by have:=hDG j e;omega)).trans ((hc3.block j (by omega) (fun e=>by have:=hDG j (List.mem_append.2 (.inr e));omega)).trans ((hc2.block j (by omega) (fun e=>by have:=hF1 j e;omega)).trans (hb1.block j hj)))
end
section
set_option maxRecDepth 20000
open Go.RowKit
section
variable {w w':World} {d sg pg k g mb n:Nat} {D G:List Nat} {m:Dsk} {s:Sp} {y:Xv} {v:Value} {F:Nat→Nat} {q:Nat→Option (List Sl.Sl)} {T:Nat→Option (List Nat × List Nat)} {U:Nat→Nat}
theorem Rowed.snoc {L:List (List Nat)} (hr:Rowed T L) (ds ps:List Nat):Rowed (fun j=>if j=L.length then some (ds,ps) else T j) (L++[ds]):=by
 intro i
 constructor
 ·intro x hx
  by_cases e:i=L.length
  ·subst e
   simp at hx
   subst hx
   exact⟨ps,if_pos rfl⟩
  ·have hi:i<L.length:=by
    have:=(List.getElem?_eq_some_iff.1 hx).1
    rw [List.length_append] at this;simp at this;omega
   rw [List.getElem?_append_left hi] at hx
   obtain⟨p2,h2⟩:=(hr i).1 x hx
   exact⟨p2,(if_neg e).trans h2⟩
 ·intro hx
  have hi:L.length<i:=by
   have:=List.getElem?_eq_none_iff.1 hx
   rw [List.length_append] at this;simp at this;omega
  show (if i=L.length then _ else T i)=none
  rw [if_neg (by omega)]
  exact(hr i).2 (List.getElem?_eq_none (by omega))
theorem Stw.addAny (h:Stw w d sg D G m s pg y k g mb v n F q T U) {L:List (List Nat)} (hr:Rowed T L) (S:ByteArray) (ds:List Nat) (hS:IsS S ds) :
  ds.length≤1099511627776→Calls Tryz.prog 24 #[.pointer (some ⟨g,0,none⟩),.string S] w fun e w'=>
   (e = .returned (.tuple #[.int .i64 ((L.length:Int)+1),.int .i64 0])∧∃y' T',Rowed T' (L++[ds])∧Stg w w' d sg D G m pg y y' k g mb v T') ∨
   (∃E:Int,(E=2∨E=8)∧e = .returned (.tuple #[.int .i64 0,.int .i64 E])∧Below w.heap.size w w'):=by
 intro hd
 have hsz:=hS.size
 by_cases hl:16384<S.size
 ·exact(h.addLong S hl (by omega)).mono fun e w' hh=>.inr ⟨2,.inl rfl,hh.1,hh.2⟩
 ·cases hf:addFullS y F n q S.size with
  | true=>exact(h.addFull S (by omega) hf).mono fun e w' hh=>.inr ⟨8,.inr rfl,hh.1,hh.2⟩
  | false=>
   rw [hsz] at hf
   refine(h.add S ds hS (by omega) hf).mono ?_
   rintro e w' ⟨rfl,y',ps,hg⟩
   rw [h.bare_eq hr] at hg ⊢
   exact .inl ⟨rfl,y',_,hr.snoc ds ps,hg⟩
theorem stm_new:Stm ((Xv.new.put 0 head0).commit 0).now 0 (fun _=>0) 0 (fun _=>none) (fun _=>none) (fun p=>if p=0 then 2 else 0):=by
 have hy:∀p,((Xv.new.put 0 head0).commit 0).now p=if p=0 then head0 else []:=fun p=>rfl
 refine⟨by omega,fun l hl=>?_,fun l hl=>if_neg (by omega),⟨rfl,rfl⟩,fun i hi=>absurd hi (Nat.not_lt_zero i),fun l sl e=>(by cases e),fun i hi=>?_,fun _ _=>rfl,fun i j _ hi=>?_,fun l sl k e=>(by cases e),fun l=>?_⟩
 ·rw [nn_iff,hy]
  by_cases e:l=0
  ·simp only [e,if_true]
   exact⟨fun _=>by omega,fun _=>head_ne _ _⟩
  ·simp [e]
 ·exact absurd (by unfold Go.Proofs.YtmbecjlioogbhaaGreatDoor.sg;rw [if_neg (by omega)];simp) hi
 ·exact absurd (by unfold Go.Proofs.YtmbecjlioogbhaaGreatDoor.sg;rw [if_neg (by omega)];simp) hi
 ·by_cases e:l=0
  ·right;right;left;exact e
  ·left;exact if_neg e
end
end
end Go.Proofs.YtmbecjlioogbhaaGreatDoor
