/- Texts YLongS to YGet of this seat, laid into one. -/
import Derived.Deep.RegionHeld3
import Derived.Test.YtmbecjlioogbhaaGreatDoorM25
set_option linter.unusedVariables false
set_option linter.unusedSimpArgs false
set_option linter.constructorNameAsVariable false
namespace Go.Proofs.YtmbecjlioogbhaaGreatDoor
section
set_option maxRecDepth 20000
open Go.RowKit
section
variable {w w':World} {d sg pg k g mb n:Nat} {D G:List Nat} {m:Dsk} {s:Sp} {y:Xv} {v:Value} {F:Nat→Nat}
set_option maxHeartbeats 3200000 in
theorem Sto.long (h:Sto w d sg D G m s pg y k g mb v n F) {ds ps:List Nat} (ht:ThOk ds ps) (hne:ps≠[]) (hps:∀j,j<ps.length→ps.getD j 0<512∧y.now (ps.getD j 0)=chkB ds j) {B:Nat} {v3:Value} (hv:OwnI w B v3 ps) :
  Calls Tryz.prog 161 #[.pointer (some ⟨g,0,none⟩),recV ⟨#[]⟩ ds.length v3] w fun e w'=>e = .returned (.tuple #[.string (strB ds),.int .i64 0])∧Below w.heap.size w w':=by
 obtain⟨i0,hi,hz0,hz1,hz2⟩:=info_parts info9z
 have HI:=Lib.hid hi
 have HZ0:=Lib.hid hz0
 have HZ1:=Lib.hid hz1
 have HZ2:=Lib.hid hz2
 obtain⟨j1,j2,j3,j4,j5,j6⟩:=join_told ht hne
 have HJ:=Lib.hid (And.intro j1 (And.intro j2 (And.intro j3 (And.intro j4 (And.intro j5 j6)))))
 obtain⟨q3,c3,rfl,hcl⟩:=hv.cells
 unfold recV
 have hb0:Below w.heap.size w (w.alloc (.cells #[.string ⟨#[]⟩,.int .i64 (ds.length:Int),.slice q3 ps.length c3] 221)):=(Below.refl _ _).alloc (Nat.le_refl _) _
 have hx0:=heap_alloc_new w (.cells #[.string ⟨#[]⟩,.int .i64 (ds.length:Int),.slice q3 ps.length c3] 221)
 have hz:(w.alloc (.cells #[.string ⟨#[]⟩,.int .i64 (ds.length:Int),.slice q3 ps.length c3] 221)).heap.size=w.heap.size+1:=by simp
 obtain⟨N,hN⟩:∃N,ps.length=N:=⟨_,rfl⟩
 rw [hN] at hcl hps HJ hb0 hx0 hz ⊢
 have H:=Lib.hid h
 have HPS:=Lib.hid hps
 have HCL:=Lib.hid hcl
 have HTH:=Lib.hid ht
 have hNN:(N:Int)≤32:=by rw [hN] at j6;omega
 have h32:N≤32:=by rw [hN] at j6;exact j6
 obtain⟨L,hL⟩:∃L,ds.length=L:=⟨_,rfl⟩
 have HL:=Lib.hid hL
 rw [hL] at hb0 hx0 hz ⊢
 have HB0:=Lib.hid hb0
 have HZ:=Lib.hid hz
 clear h hps hcl ht j1 j2 j3 j4 j5 j6 hi hz0 hz1 hz2 hne hv hN hL hb0 hz
 go_enter Tryz.func161,Tryz.ntmps161
 go_upto_region 1 with fail
 generalize w.alloc (.cells #[.string ⟨#[]⟩,.int .i64 (L:Int),.slice q3 N c3] 221)=W1 at *
 have a1:=cell_of_row _ _ 1 _ _ _ hx0
 have a2:=cell_of_row _ _ 2 _ _ _ hx0
 simp at a1 a2
 have HX0:=Lib.hid hx0
 clear hx0
 go_upto_region 3 with fail
 clear a1 a2
 go_loopw [6,16] (fun bv iv wr=>∃i:Nat,i≤N∧iv = .int .i64 (i:Int)∧Hid (OwnT wr W1.heap.size bv (chkB ds) i∧Below W1.heap.size W1 wr)) (fun _ iv _=>N - (RowKit.intOf iv).toNat)
 case atStart=>exact⟨0,by omega,by go_num,Lib.hid ⟨⟨none,0,rfl,World.ownsRow_nil _ _ _ _⟩,Below.refl _ _⟩⟩
 case round=>
  obtain⟨i,hi,rfl,hr⟩:=hrel
  obtain⟨⟨p3,c4,e3,hrow⟩,hbel⟩:=hr.out
  subst e3
  have HROW:=Lib.hid hrow
  have HBEL:=Lib.hid hbel
  clear hr hrow hbel
  by_cases hlt:i<N
  ·obtain⟨b3,rfl,hb3⟩:=HCL.out i hlt
   have hbw:Below w.heap.size w wr:=HB0.out.trans (HBEL.out.mono HB0.out.size)
   have hcl:=(hbw.cell (p:=⟨b3,i,none⟩) (lt_of_cellY hb3)).trans hb3
   have hd:decide ((i:Int)<(N:Int))=true:=decide_eq_true (by omega)
   have hin:(i:Int)<(N:Int):=by omega
   obtain⟨hp1,hp2⟩:=HPS.out i hlt
   obtain⟨l,hl⟩:∃l,ps.getD i 0=l:=⟨_,rfl⟩
   rw [hl] at hcl hp1 hp2
   have hth:thX y.now (l:Int)=true:=by rw [th_nat hp1,nn_iff,hp2];exact chk_ne _ _
   have HR:=Lib.hid ((H.out.below hbw).read (l:Int) (by omega) (by omega))
   rw [show readV y (l:Int) = .tuple #[.string (strB (y.now l)),.int .i64 0] from if_pos hth,hp2] at HR
   clear hb3 hth hl hbw
   obtain⟨X,hX⟩:∃X,strB (chkB ds i)=X:=⟨_,rfl⟩
   have HXX:=Lib.hid hX
   rw [hX] at HR
   clear hX
   go_upto_region 8 with (go_at_call 118;with_reducible refine HR.out.mono ?_;rintro e w2 ⟨rfl,hb2⟩;have HB2:=Lib.hid hb2;clear hb2)
   have HROW1:=Lib.hid ((own_below HROW.out HB2.out).alloc (.cells #[.string X] 9))
   have HB12:Hid (Below W1.heap.size W1 w2):=Lib.hid (HBEL.out.trans (HB2.out.mono HBEL.out.size))
   have HBB:Hid (Below W1.heap.size W1 (w2.alloc (.cells #[.string X] 9))):=Lib.hid (HB12.out.alloc HB12.out.size _)
   have HBS:Hid (W1.heap.size≤(w2.alloc (.cells #[.string X] 9)).heap.size):=Lib.hid (Nat.le_trans HB12.out.size (by simp))
   have HON:Hid (∀u∈[Value.string X],u.oneCell'=true):=Lib.hid fun u hu=>by cases List.mem_singleton.1 hu;rfl
   have H63:Hid (i+1≤maxLen):=Lib.hid (by unfold maxLen;omega)
   have Hi16:Hid ((i+1)*16≤140737488355328):=Lib.hid (by omega)
   go_upto_region 9 with (at_builtin;refine wpList_append_own _ rfl (.tmp 29) (.tmp 31) 163 rfl W1.heap.size 9 i0 (.string ⟨#[]⟩) 1 16 Tryz.underlying163 HI.out HZ0.out HZ1.out HZ2.out rfl (by decide) (.slice p3 i c4) i _ (by rfl) HROW1.out ⟨w2.heap.size,0,none⟩ 1 1 [.string X] (by rfl) rfl (World.news_of_block (heap_alloc_new _ _)) HON.out H63.out Hi16.out HBS.out ?_;intro v2 w4 hown2 hgrow2 _)
   have HR2:Hid (OwnT w4 W1.heap.size v2 (chkB ds) (i+1)∧Below W1.heap.size W1 w4):=Lib.hid (by
    obtain⟨p4,c5,e4⟩:=Sl.own_form hown2
    subst e4
    refine⟨⟨p4,c5,rfl,?_⟩,HBB.out.grown hgrow2 HBS.out (fun k e=>(HROW1.out.lt k e).1)⟩
    rw [txL_snoc,HXX.out]
    exact hown2)
   have hlt2:i+1≤N:=hlt
   clear hown2 hgrow2 HBB HROW1 HBS HON hcl
   go_wp2_with fail
   go_roundw
   case rel=>exact⟨i+1,hlt2,by go_num,HR2⟩
   case measure=>simp [RowKit.intOf];omega
  ·obtain rfl:i=N:=by omega
   have hd:decide ((i:Int)<(i:Int))=false:=decide_eq_false (by omega)
   obtain⟨j1,j2,j3,j4,j5,j6⟩:=HJ.out
   have hjd:=joined_any (w:=wr) (B:=W1.heap.size) (v:=.slice p3 i c4) ds.length ⟨p3,c4,rfl,HROW.out⟩ (by omega) (fun j hj=>chk_dig HTH.out.2.1 j) (by rw [j1];omega) (by rw [j1];exact j4) (by rw [j1];exact j5)
   rw [j2,j3,HL.out] at hjd
   have HJD:=Lib.hid hjd
   have a1:=cell_of_row _ _ 1 _ _ _ ((HBEL.out.block _ (lt_of_block HX0.out)).trans HX0.out)
   simp at a1
   have HBW:Hid (Below w.heap.size w wr):=Lib.hid (HB0.out.trans (HBEL.out.mono HB0.out.size))
   clear hjd j1 j2 j3 j4 j5 j6
   obtain⟨T,hT⟩:∃T,strB ds=T:=⟨_,rfl⟩
   have HT:=Lib.hid hT
   rw [hT] at HJD
   clear hT
   go_wp2_with (go_at_call 200;with_reducible refine HJD.out.mono ?_;rintro e w5 ⟨rfl,hb5⟩;have HB5:=Lib.hid (HBW.out.trans (hb5.mono HBW.out.size));clear hb5)
   go_ret2
   exact⟨by rw [HT.out];rfl,HB5.out⟩
end
end
section
set_option maxRecDepth 20000
open Go.RowKit
section
variable {w w':World} {d sg pg k g mb mb2 n:Nat} {D G:List Nat} {m:Dsk} {s:Sp} {y:Xv} {v:Value} {F:Nat→Nat} {fm:Dmf}
theorem zeroThing:(Tryz.prog.info? 112).map (fun i=>(i.zero,i.size))=some (some (.agg #[.int .i64 0,.slice none 0 0,.string ⟨#[]⟩]),3):=by kernel_rfl
theorem sizeThing:(Tryz.prog.info? 112).map (·.size)=some 3:=by kernel_rfl
theorem build_thing1 (x:Int) (S:ByteArray) (w:World):(Instr.build 112 #[(0,.int .i64 x),(2,.string S)]).run Tryz.prog w = .ok (.agg #[.int .i64 x,.slice none 0 0,.string S]) w:=
 run_build w _ _ _ (by kernel_rfl)
theorem build_thing2 (x:Int) (p:Option Addr) (n c:Nat) (S:ByteArray) (w:World):(Instr.build 112 #[(0,.int .i64 x),(1,.slice p n c),(2,.string S)]).run Tryz.prog w = .ok (.agg #[.int .i64 x,.slice p n c,.string S]) w:=
 run_build w _ _ _ (by kernel_rfl)
set_option maxHeartbeats 6400000 in
theorem Sto.thing (h:Sto w d sg D G m s pg y k g mb v n F) (hm:Dms w mb2 fm) (hmG:mb2∉G) (hmD:mb2∉D) (hmg:mb2≠g) (hmv:v.ownBlock≠some mb2) (x:Nat) (hx:x<32768) {sl:List Sl.Sl} (hok:Sl.Okp sl) (hy:y.now (x / 64)=Sl.bytesM sl) (hf:fm (x / 64)=none) {ds ps:List Nat} (hsl:Sl.slot sl (x % 64)=some (strB (recB ds ps))) (ht:ThOk ds ps) (hps:∀j,j<ps.length→ps.getD j 0<512∧y.now (ps.getD j 0)=chkB ds j) :
  Calls Tryz.prog 112 #[.agg #[.pointer (some ⟨g,0,none⟩),.map (some mb2)],.int .i64 ((x:Int)+1)] w fun e w'=>∃gp vp pv,e = .returned (.tuple #[.agg #[.int .i64 ((x:Int)+1),pv,.string (strB ds)],.int .i64 0])∧OwnI w' w.heap.size pv ps∧Dms w' mb2 (fm.put (x / 64) gp)∧Sl.Pg0 w' gp vp sl∧(∀j∈Sl.foot gp vp,w.heap.size≤j)∧Chg [mb2] [mb2] w w':=by
 obtain⟨hz,-⟩:=zero_of_info (P:=Tryz.prog) zeroThing
 have hb0:Below w.heap.size w ((w.alloc (.cells #[.pointer (some ⟨g,0,none⟩),.map (some mb2)] 106)).alloc (.cells #[.int .i64 0,.slice none 0 0,.string ⟨#[]⟩] 112)):=((Below.refl _ _).alloc (Nat.le_refl _) _).alloc (by simp) _
 have hx0:((w.alloc (.cells #[.pointer (some ⟨g,0,none⟩),.map (some mb2)] 106)).alloc (.cells #[.int .i64 0,.slice none 0 0,.string ⟨#[]⟩] 112)).heap[w.heap.size]?=some (.cells #[.pointer (some ⟨g,0,none⟩),.map (some mb2)] 106 (0,0)):=(heap_alloc_old _ _ (by simp)).trans (heap_alloc_new w _)
 have hx1:((w.alloc (.cells #[.pointer (some ⟨g,0,none⟩),.map (some mb2)] 106)).alloc (.cells #[.int .i64 0,.slice none 0 0,.string ⟨#[]⟩] 112)).heap[w.heap.size+1]?=some (.cells #[.int .i64 0,.slice none 0 0,.string ⟨#[]⟩] 112 (0,0)):=by
  have:=heap_alloc_new (w.alloc (.cells #[.pointer (some ⟨g,0,none⟩),.map (some mb2)] 106)) (.cells #[.int .i64 0,.slice none 0 0,.string ⟨#[]⟩] 112)
  rwa [World.size_alloc] at this
 have HZ1:Hid (((w.alloc (.cells #[.pointer (some ⟨g,0,none⟩),.map (some mb2)] 106)).alloc (.cells #[.int .i64 0,.slice none 0 0,.string ⟨#[]⟩] 112)).heap.size=w.heap.size+2):=Lib.hid (by simp)
 have hml:=hm.lt
 have HDP:Hid (∀w1,Below w.heap.size w w1→Calls Tryz.prog 100 #[.agg #[.pointer (some ⟨g,0,none⟩),.map (some mb2)],.int .i64 ((x / 64:Nat):Int)] w1 fun e w'=>∃gp vp,e = .returned (.tuple #[.pointer (some ⟨gp,0,none⟩),.int .i64 0])∧Hid (Dms w' mb2 (fm.put (x / 64) gp)∧Sl.Pg0 w' gp vp sl∧(∀j∈Sl.foot gp vp,w1.heap.size≤j))∧Chg [mb2] [mb2] w1 w'):=Lib.hid fun w1 hb=>((h.below hb).deskPage (hm.below hb) (x / 64) (by omega) hok hy hf).mono (by
  rintro e w' ⟨gp,vp,e1,h1,h2,h3,h4⟩
  exact⟨gp,vp,e1,Lib.hid ⟨h1,h2,h3⟩,h4⟩)
 have HSP:Hid (∀w1,Calls Tryz.prog 115 #[.int .i64 ((x:Int)+1)] w1 fun e w'=>e = .returned (.int .i64 ((x / 64:Nat):Int))∧w1=w'):=Lib.hid fun w1=>spotPage_any x w1 (by omega)
 have HSS:Hid (∀w1,Calls Tryz.prog 117 #[.int .i64 ((x:Int)+1)] w1 fun e w'=>e = .returned (.int .i64 ((x % 64:Nat):Int))∧w1=w'):=Lib.hid fun w1=>spotSlot_any x w1 (by omega)
 have HGT:Hid (∀w1 gp vp,Sl.Pg0 w1 gp vp sl→Calls Tryz.prog 159 #[.pointer (some ⟨gp,0,none⟩),.int .i64 ((x % 64:Nat):Int)] w1 fun e w'=>e = .returned (.tuple #[.string (strB (recB ds ps)),.bool true])∧Below w1.heap.size w1 w'):=Lib.hid fun w1 gp vp hp=>by
  have hg:=Sl.get_any hp ((x % 64:Nat):Int)
  rw [Sl.getS_nat,Sl.fullI_nat,hsl] at hg
  exact hg
 have H:=Lib.hid h
 have HM2:Hid (∀w1,Below w.heap.size w w1→Kin w1 [mb2]):=Lib.hid fun w1 hb j hj=>by cases List.mem_singleton.1 hj;exact .inl (hm.below hb).isMap
 have HM:=Lib.hid (And.intro hml (And.intro hmG (And.intro hmD (And.intro hmg hmv))))
 have HB0:=Lib.hid hb0
 have HPS:=Lib.hid hps
 have HT:=Lib.hid ht
 have hRC:=recordOf_any (strB (recB ds ps)) (recB ds ps)
 have HIS:Hid (IsS (strB (recB ds ps)) (recB ds ps)):=Lib.hid (IsS.mk_ _ (rec_dig ht))
 have HRL:Hid ((recB ds ps).length≤100000):=Lib.hid (by have:=rec_size ht;rw [strB_size] at this;omega)
 have hRC2:=fun w1=>recordOf_any (strB (recB ds ps)) (recB ds ps) w1 HIS.out HRL.out
 clear hRC
 obtain⟨XI,hXI⟩:∃X:Int,(x:Int)+1=X:=⟨_,rfl⟩
 rw [hXI] at HSP HSS ⊢
 have hPI:((x / 64:Nat):Int)<512:=by omega
 generalize x / 64=l at *
 generalize x % 64=kk at *
 clear hXI h hm hb0 hml hok hy hf hsl hps hmG hmD hmg hmv hx
 by_cases hne:ps=[]
 ·have HRC:Hid (∀w1,Calls Tryz.prog 160 #[.string (strB (recB ds ps))] w1 fun e w'=>e = .returned (.tuple #[recV (strB ds) ds.length (.slice none 0 0),.bool true])∧Below w1.heap.size w1 w'):=Lib.hid fun w1=>(hRC2 w1).mono (by
   rintro e w' ⟨hb,hh⟩
   refine⟨?_,hb⟩
   rw [hne,rec_short] at hh
   rcases hh with ⟨h1,_⟩ | ⟨t,h1,rfl⟩ | ⟨t,h1,_⟩ | ⟨z,t,h1,h2,_⟩
   ·cases h1
   ·cases h1;rfl
   ·cases h1
   ·cases h1;omega)
  clear hRC2 ht HIS HRL
  subst hne
  unfold recV at HRC
  generalize strB (recB ds [])=R at *
  obtain⟨T,hT⟩:∃T,strB ds=T:=⟨_,rfl⟩
  rw [hT] at HRC ⊢
  clear hT
  generalize ds.length=LL at *
  go_enter Tryz.func112,Tryz.ntmps112
  go_upto_region 1 with fail
  generalize (w.alloc (.cells #[.pointer (some ⟨g,0,none⟩),.map (some mb2)] 106)).alloc (.cells #[.int .i64 0,.slice none 0 0,.string ⟨#[]⟩] 112)=W1 at *
  have a0:=cell_of_row _ _ 0 _ _ _ hx0
  have a1:=cell_of_row _ _ 1 _ _ _ hx0
  simp at a0 a1
  go_region_held3 (fun u:World=>u.cell? ⟨w.heap.size,0,none⟩=some (.pointer (some ⟨g,0,none⟩))∧u.cell? ⟨w.heap.size,1,none⟩=some (.map (some mb2))) ((first
    | with_reducible exact⟨a0,a1⟩
    | go_keep)) (first
   | (go_at_call 115;refine(HSP.out _).mono ?_;rintro e w2 ⟨rfl,rfl⟩)
   | (go_at_call 100;refine(HDP.out _ (by exact HB0.out.drew)).mono ?_;rintro e w3 ⟨gp,vp,rfl,HD3,hc3⟩;have hy0:=(hc3.block w.heap.size (lt_of_block (w:=W1) hx0) (by have:=HM.out.1;simp;omega)).trans (show W1.drew.heap[w.heap.size]?=_ from hx0);have HC3:=Lib.hid hc3;clear hc3;have a0:=cell_of_row _ _ 0 _ _ _ hy0;have a1:=cell_of_row _ _ 1 _ _ _ hy0;simp at a0 a1))
  have hy1:=(HC3.out.block (w.heap.size+1) (lt_of_block (w:=W1) hx1) (by have:=HM.out.1;simp;omega)).trans (show W1.drew.heap[w.heap.size+1]?=_ from hx1)
  have HFIN:Hid (∀wf,Chg [w.heap.size+1] [w.heap.size+1] w3 wf→Dms wf mb2 (fm.put l gp)∧Sl.Pg0 wf gp vp sl∧(∀j∈Sl.foot gp vp,w.heap.size≤j)∧Chg [mb2] [mb2] w wf):=Lib.hid fun wf hc=>by
   obtain⟨d1,d2,d3⟩:=HD3.out
   have hml:=HM.out.1
   have hz1:W1.drew.heap.size=w.heap.size+2:=HZ1.out
   have hz3:=HC3.out.size
   rw [hz1] at hz3 d3
   refine⟨d1.same (hc.block mb2 d1.lt (by simp;omega)),d2.stay (F:=[w.heap.size+1]) (F':=[w.heap.size+1]) ⟨hc.os,hc.tape,hc.output,hc.size,hc.block,hc.fresh⟩ (fun j hj e=>by have:=d3 j hj;have:=List.mem_singleton.1 e;omega),fun j hj=>by have:=d3 j hj;omega,?_⟩
   have hbz:=HB0.out
   have hcz:=HC3.out
   exact⟨hc.os.trans (hcz.os.trans hbz.os),hc.tape.trans (hcz.tape.trans hbz.tape),hc.output.trans (hcz.output.trans hbz.output),by have:=hc.size;omega,fun j hj hn=>(hc.block j (by omega) (by simp;omega)).trans ((hcz.block j (by rw [hz1];omega) hn).trans (hbz.block j hj)),fun _ h=>.inl h⟩
  have HP3:=Lib.hid HD3.out.2.1
  have HY1:=Lib.hid hy1
  clear hx0 hx1 hy0 hy1 a0 a1 HD3 HC3 HDP HSP
  go_upto_region 5 with (first
   | (go_at_call 117;with_reducible refine(HSS.out _).mono ?_;rintro e w4 ⟨rfl,rfl⟩)
   | (go_at_call 159;with_reducible refine(HGT.out _ _ _ HP3.out).mono ?_;rintro e w5 ⟨rfl,hb5⟩;have HB5:=Lib.hid hb5;clear hb5))
  go_upto_region 8 with (go_at_call 160;with_reducible refine(HRC.out _).mono ?_;rintro e w6 ⟨rfl,hb6⟩;have HB6:=Lib.hid (HB5.out.trans (hb6.mono HB5.out.size));clear hb6)
  have hx7:=heap_alloc_new w6 (.cells #[.string T,.int .i64 (LL:Int),.slice none 0 0] 221)
  have hb7:Below w3.heap.size w3 (w6.alloc (.cells #[.string T,.int .i64 (LL:Int),.slice none 0 0] 221)):=HB6.out.alloc HB6.out.size _
  have hy7:=(hb7.block (w.heap.size+1) (lt_of_block HY1.out)).trans HY1.out
  generalize w6.alloc (.cells #[.string T,.int .i64 (LL:Int),.slice none 0 0] 221)=W7 at *
  have c0:=cell_of_row _ _ 0 _ _ _ hx7
  have c2:=cell_of_row _ _ 2 _ _ _ hx7
  have d0:=cell_of_row _ _ 0 _ _ _ hy7
  have d1:=cell_of_row _ _ 1 _ _ _ hy7
  have d2:=cell_of_row _ _ 2 _ _ _ hy7
  simp at c0 c2 d0 d1 d2
  have fz:=fun i=>frozen_of_row W7 (w.heap.size+1) i _ _ hy7
  have hbd:=build_thing1 XI T
  have HW8:=Lib.hid (set3 (.int .i64 XI) (.slice none 0 0) (.string T) hy7)
  have HC8:Hid (Chg [w.heap.size+1] [w.heap.size+1] w3 (((W7.setCell ⟨w.heap.size+1,0,none⟩ (.int .i64 XI)).setCell ⟨w.heap.size+1,1,none⟩ (.slice none 0 0)).setCell ⟨w.heap.size+1,2,none⟩ (.string T))):=Lib.hid
   ((((Chg.of_below2 [w.heap.size+1] hb7).trans (Chg.setCell (by simp) _ _)).trans (Chg.setCell (by simp) _ _)).trans (Chg.setCell (by simp) _ _))
  clear hx7 hb7 hy7
  go_wp2_with fail
  exact bodyPost_ret (Tb.results_row_tmp rfl _ _ (w.heap.size+1) 112 _ (0,0) _ rfl HW8.out Tryz.underlying112 rfl sizeThing) rfl ⟨gp,vp,.slice none 0 0,rfl,World.ownsRow_nil _ _ _ _,HFIN.out _ HC8.out⟩
 ·have hn0:0<ps.length:=by
   cases ps with
   | nil=>exact absurd rfl hne
   | cons a b=>simp
  have hp6:∀z∈ps,z<65536:=fun z hz=>by
   obtain⟨j,hj,e⟩:=mem_getD0 hz
   have:=(HPS.out j hj).1
   omega
  obtain⟨t1,t2,t3⟩:=rec_told ht hne hp6
  have HRC:Hid (∀w1,Calls Tryz.prog 160 #[.string (strB (recB ds ps))] w1 fun e w'=>∃q3 c3,e = .returned (.tuple #[.agg #[.string ⟨#[]⟩,.int .i64 (ds.length:Int),.slice q3 ps.length c3],.bool true])∧OwnI w' w1.heap.size (.slice q3 ps.length c3) ps∧Below w1.heap.size w1 w'):=Lib.hid fun w1=>(hRC2 w1).mono (by
   rintro e w' ⟨hb,hh⟩
   rw [t1,t2,t3] at hh
   rw [rec_long hne] at hh
   rcases hh with ⟨h1,_⟩ | ⟨t,h1,_⟩ | ⟨t,h1,hh⟩ | ⟨z,t,h1,h2,_⟩
   ·cases h1
   ·cases h1
   ·rcases hh with ⟨h2,_⟩ | ⟨_,v3,rfl,ho⟩
    ·cases h2
    ·obtain⟨q3,c3,e3,_⟩:=ho.cells
     subst e3
     exact⟨q3,c3,rfl,ho,hb⟩
   ·cases h1;omega)
  have HLG:Hid (∀w1 q3 c3 B,Sto w1 d sg D G m s pg y k g mb v n F→OwnI w1 B (.slice q3 ps.length c3) ps→Calls Tryz.prog 161 #[.pointer (some ⟨g,0,none⟩),.agg #[.string ⟨#[]⟩,.int .i64 (ds.length:Int),.slice q3 ps.length c3]] w1 fun e w'=>e = .returned (.tuple #[.string (strB ds),.int .i64 0])∧Below w1.heap.size w1 w'):=Lib.hid fun w1 q3 c3 B h1 ho=>h1.long ht hne HPS.out ho
  clear hRC2 HIS HRL t1 t2 t3 hp6
  generalize strB (recB ds ps)=R at *
  obtain⟨T,hT⟩:∃T,strB ds=T:=⟨_,rfl⟩
  rw [hT] at HLG ⊢
  clear hT
  have hLL:ds.length≤16384:=ht.1
  have hNN:ps.length≤32:=by obtain⟨_,_,_,_,_,h6⟩:=join_told ht hne;exact h6
  generalize ds.length=LL at *
  obtain⟨N,hN⟩:∃N,ps.length=N:=⟨_,rfl⟩
  rw [hN] at HRC HLG hn0 hNN
  have HN:=Lib.hid hN
  clear hN ht hne
  go_enter Tryz.func112,Tryz.ntmps112
  go_upto_region 1 with fail
  generalize (w.alloc (.cells #[.pointer (some ⟨g,0,none⟩),.map (some mb2)] 106)).alloc (.cells #[.int .i64 0,.slice none 0 0,.string ⟨#[]⟩] 112)=W1 at *
  have a0:=cell_of_row _ _ 0 _ _ _ hx0
  have a1:=cell_of_row _ _ 1 _ _ _ hx0
  simp at a0 a1
  go_region_held3 (fun u:World=>u.cell? ⟨w.heap.size,0,none⟩=some (.pointer (some ⟨g,0,none⟩))∧u.cell? ⟨w.heap.size,1,none⟩=some (.map (some mb2))) ((first
    | with_reducible exact⟨a0,a1⟩
    | go_keep)) (first
   | (go_at_call 115;refine(HSP.out _).mono ?_;rintro e w2 ⟨rfl,rfl⟩)
   | (go_at_call 100;refine(HDP.out _ (by exact HB0.out.drew)).mono ?_;rintro e w3 ⟨gp,vp,rfl,HD3,hc3⟩;have hy0:=(hc3.block w.heap.size (lt_of_block (w:=W1) hx0) (by have:=HM.out.1;simp;omega)).trans (show W1.drew.heap[w.heap.size]?=_ from hx0);have HC3:=Lib.hid hc3;clear hc3;have a0:=cell_of_row _ _ 0 _ _ _ hy0;have a1:=cell_of_row _ _ 1 _ _ _ hy0;simp at a0 a1))
  have hy1:=(HC3.out.block (w.heap.size+1) (lt_of_block (w:=W1) hx1) (by have:=HM.out.1;simp;omega)).trans (show W1.drew.heap[w.heap.size+1]?=_ from hx1)
  have HFIN:Hid (∀wf,Chg [w.heap.size+1] [w.heap.size+1] w3 wf→Dms wf mb2 (fm.put l gp)∧Sl.Pg0 wf gp vp sl∧(∀j∈Sl.foot gp vp,w.heap.size≤j)∧Chg [mb2] [mb2] w wf):=Lib.hid fun wf hc=>by
   obtain⟨d1,d2,d3⟩:=HD3.out
   have hml:=HM.out.1
   have hz1:W1.drew.heap.size=w.heap.size+2:=HZ1.out
   have hz3:=HC3.out.size
   rw [hz1] at hz3 d3
   refine⟨d1.same (hc.block mb2 d1.lt (by simp;omega)),d2.stay (F:=[w.heap.size+1]) (F':=[w.heap.size+1]) ⟨hc.os,hc.tape,hc.output,hc.size,hc.block,hc.fresh⟩ (fun j hj e=>by have:=d3 j hj;have:=List.mem_singleton.1 e;omega),fun j hj=>by have:=d3 j hj;omega,?_⟩
   have hbz:=HB0.out
   have hcz:=HC3.out
   exact⟨hc.os.trans (hcz.os.trans hbz.os),hc.tape.trans (hcz.tape.trans hbz.tape),hc.output.trans (hcz.output.trans hbz.output),by have:=hc.size;omega,fun j hj hn=>(hc.block j (by omega) (by simp;omega)).trans ((hcz.block j (by rw [hz1];omega) hn).trans (hbz.block j hj)),fun _ h=>.inl h⟩
  have HP3:=Lib.hid HD3.out.2.1
  have HY0:=Lib.hid hy0
  have HST:Hid (Sto w3 d sg D G m s pg y k g mb v n F):=Lib.hid ((H.out.below HB0.out.drew).stayB (K:=[mb2]) (K':=[mb2]) HC3.out (HM2.out _ HB0.out.drew) (fun j hj e=>HM.out.2.2.1 (List.mem_singleton.1 e ▸ hj)) (fun j hj e=>HM.out.2.1 (List.mem_singleton.1 e ▸ hj)) (fun e=>HM.out.2.2.2.1 (List.mem_singleton.1 e).symm) (fun b hb e=>HM.out.2.2.2.2 (List.mem_singleton.1 e ▸ hb)))
  have HY1:=Lib.hid hy1
  clear hx0 hx1 hy0 hy1 a0 a1 HD3 HC3 HDP HSP
  go_upto_region 5 with (first
   | (go_at_call 117;with_reducible refine(HSS.out _).mono ?_;rintro e w4 ⟨rfl,rfl⟩)
   | (go_at_call 159;with_reducible refine(HGT.out _ _ _ HP3.out).mono ?_;rintro e w5 ⟨rfl,hb5⟩;have HB5:=Lib.hid hb5;clear hb5))
  go_upto_region 8 with (go_at_call 160;with_reducible refine(HRC.out _).mono ?_;rintro e w6 ⟨q3,c3,rfl,ho6,hb6⟩;have HO6:=Lib.hid ho6;have HB6:=Lib.hid (HB5.out.trans (hb6.mono HB5.out.size));have HZ5:=Lib.hid HB5.out.size;clear hb6 ho6)
  have hx7:=heap_alloc_new w6 (.cells #[.string ⟨#[]⟩,.int .i64 (LL:Int),.slice q3 N c3] 221)
  have hb67:Below w6.heap.size w6 (w6.alloc (.cells #[.string ⟨#[]⟩,.int .i64 (LL:Int),.slice q3 N c3] 221)):=(Below.refl _ _).alloc (Nat.le_refl _) _
  have hb7:Below w3.heap.size w3 (w6.alloc (.cells #[.string ⟨#[]⟩,.int .i64 (LL:Int),.slice q3 N c3] 221)):=HB6.out.alloc HB6.out.size _
  have hy7:=(hb7.block (w.heap.size+1) (lt_of_block HY1.out)).trans HY1.out
  have hz7:=(hb7.block w.heap.size (lt_of_block HY0.out)).trans HY0.out
  generalize w6.alloc (.cells #[.string ⟨#[]⟩,.int .i64 (LL:Int),.slice q3 N c3] 221)=W7 at *
  have c0:=cell_of_row _ _ 0 _ _ _ hx7
  have c1:=cell_of_row _ _ 1 _ _ _ hx7
  have c2:=cell_of_row _ _ 2 _ _ _ hx7
  have a0:=cell_of_row _ _ 0 _ _ _ hz7
  simp at c0 c1 c2 a0
  have HO7:=Lib.hid (own_below HO6.out hb67)
  have H7:=Lib.hid (HST.out.below hb7)
  have HX7:=Lib.hid hx7
  have HB7:=Lib.hid hb7
  clear hx7 hb7 hb67 hz7 hy7
  have hn1:((N:Int) == 0)=false:=by rw [beq_eq_false_iff_ne];omega
  have hn2:decide ((N:Int)=0)=false:=decide_eq_false (by omega)
  have hn3:(N == 0)=false:=by rw [beq_eq_false_iff_ne];omega
  go_upto_region 11 with (go_at_call 161;with_reducible refine(HLG.out _ _ _ _ H7.out HO7.out).mono ?_;rintro e w8 ⟨rfl,hb8⟩;have HB8:=Lib.hid (HB7.out.trans (hb8.mono HB7.out.size));have HX8:=Lib.hid ((hb8.block _ (lt_of_block HX7.out)).trans HX7.out);have HO8:=Lib.hid (own_below HO7.out hb8);clear hb8)
  have hy8:=(HB8.out.block (w.heap.size+1) (lt_of_block HY1.out)).trans HY1.out
  have d0:=cell_of_row _ _ 0 _ _ _ hy8
  have d1:=cell_of_row _ _ 1 _ _ _ hy8
  have d2:=cell_of_row _ _ 2 _ _ _ hy8
  have c2:=cell_of_row _ _ 2 _ _ _ HX8.out
  simp at d0 d1 d2 c2
  have fz:=fun i=>frozen_of_row w8 (w.heap.size+1) i _ _ hy8
  have hbd:=build_thing2 XI q3 N c3 T
  have HW8:=Lib.hid (set3 (.int .i64 XI) (.slice q3 N c3) (.string T) hy8)
  have HC8:Hid (Chg [w.heap.size+1] [w.heap.size+1] w3 (((w8.setCell ⟨w.heap.size+1,0,none⟩ (.int .i64 XI)).setCell ⟨w.heap.size+1,1,none⟩ (.slice q3 N c3)).setCell ⟨w.heap.size+1,2,none⟩ (.string T))):=Lib.hid
   ((((Chg.of_below2 [w.heap.size+1] HB8.out).trans (Chg.setCell (by simp) _ _)).trans (Chg.setCell (by simp) _ _)).trans (Chg.setCell (by simp) _ _))
  have HOF:Hid (OwnI (((w8.setCell ⟨w.heap.size+1,0,none⟩ (.int .i64 XI)).setCell ⟨w.heap.size+1,1,none⟩ (.slice q3 N c3)).setCell ⟨w.heap.size+1,2,none⟩ (.string T)) w.heap.size (.slice q3 N c3) ps):=Lib.hid (by
   have hz5:=HZ5.out
   have hy1:=lt_of_block HY1.out
   have ho8:=HO8.out
   have hb5:=HB5.out.size
   refine own_mono (own_other ho8 fun j hj=>?_) (by omega)
   have hj5:=(World.ownsRow.lt ho8 j hj).1
   rw [heap_setCell_other _ _ _ _ (by simp;omega),heap_setCell_other _ _ _ _ (by simp;omega),heap_setCell_other _ _ _ _ (by simp;omega)])
  clear hy8
  go_wp2_with fail
  exact bodyPost_ret (Tb.results_row_tmp rfl _ _ (w.heap.size+1) 112 _ (0,0) _ rfl HW8.out Tryz.underlying112 rfl sizeThing) rfl ⟨gp,vp,_,rfl,HOF.out,HFIN.out _ HC8.out⟩
end
end
section
set_option maxRecDepth 20000
open Go.RowKit
def roomF (q:Nat→Option (List Sl.Sl)):Rmf:=fun l=>(q l).map Sl.room
structure Stw (w:World) (d sg:Nat) (D G:List Nat) (m:Dsk) (s:Sp) (pg:Nat) (y:Xv) (k:Nat) (g mb:Nat) (v:Value) (n:Nat) (F:Nat→Nat) (q:Nat→Option (List Sl.Sl)) (T:Nat→Option (List Nat × List Nat)) (U:Nat→Nat):Prop where
 st:Sto w d sg D G m s pg y k g mb v n F
 ok:Stm y.now n F 0 q T U
 rm:Rms w mb (roomF q)
 mG:mb∉G
 mD:mb∉D
section
variable {w w':World} {d sg pg k g mb n:Nat} {D G:List Nat} {m:Dsk} {s:Sp} {y:Xv} {v:Value} {F:Nat→Nat} {q:Nat→Option (List Sl.Sl)} {T:Nat→Option (List Nat × List Nat)} {U:Nat→Nat}
theorem Stw.below (h:Stw w d sg D G m s pg y k g mb v n F q T U) (hb:Below w.heap.size w w'):Stw w' d sg D G m s pg y k g mb v n F q T U:=
 ⟨h.st.below hb,h.ok,h.rm.below hb,h.mG,h.mD⟩
theorem Stw.th (h:Stw w d sg D G m s pg y k g mb v n F q T U) {l:Nat} (hl:U l≠0):thX y.now (l:Int)=true:=by
 have h5:=h.ok.lt hl
 rw [th_nat h5];exact(h.ok.live l h5).2 hl
theorem Stw.F1 (h:Stw w d sg D G m s pg y k g mb v n F q T U):∀j,j<n*129→F j≤1099511627776:=fun j hj=>by have:=h.ok.cells j hj;omega
theorem Stw.told (h:Stw w d sg D G m s pg y k g mb v n F q T U) {i:Nat} {ds ps:List Nat} (ht:T i=some (ds,ps)):i<n*128∧∃x sl,spF F i=x+1∧x<32768∧q (x / 64)=some sl∧Sl.slot sl (x % 64)=some (strB (recB ds ps))∧ThOk ds ps∧(∀j,j<ps.length→ps.getD j 0<512∧y.now (ps.getD j 0)=chkB ds j):=by
 have h0:Go.Proofs.YtmbecjlioogbhaaGreatDoor.sg F n 0 i≠0:=fun e=>by rw [h.ok.no i e] at ht;cases ht
 have hi:i<n*128:=by
  unfold Go.Proofs.YtmbecjlioogbhaaGreatDoor.sg at h0
  by_cases e:i<n*128
  ·exact e
  ·rw [if_neg e] at h0
   split at h0 <;> exact absurd rfl h0
 have hs:Go.Proofs.YtmbecjlioogbhaaGreatDoor.sg F n 0 i=spF F i:=by unfold Go.Proofs.YtmbecjlioogbhaaGreatDoor.sg;rw [if_pos hi]
 obtain⟨d2,p2,sl,a1,a2,a3,a4,a5⟩:=h.ok.sp i h0
 rw [ht] at a1
 cases a1
 rw [hs] at a2 a3 h0
 have hle:=h.ok.spl i
 rw [hs] at hle
 refine⟨hi,spF F i - 1,sl,by omega,by omega,a2,a3,a4,fun j hj=>?_⟩
 obtain⟨b1,b2⟩:=a5 j hj
 exact⟨h.ok.lt (by rw [b1];omega),b2⟩
theorem Stw.sure (h:Stw w d sg D G m s pg y k g mb v n F q T U) (i:Nat) (hi9:i≤1099511627776) :
  Calls Tryz.prog 99 #[.pointer (some ⟨g,0,none⟩),.int .i64 ((i:Int)+1)] w fun e w'=>e = .returned (.int .i64 0)∧Below w.heap.size w w':=
 h.st.sure h.F1 h.ok.hd.2 i hi9 fun hi=>by
  obtain⟨a1,a2⟩:=h.ok.pt (i / 128) (by omega)
  exact⟨h.th (by rw [a1];omega),a2⟩
set_option maxHeartbeats 6400000 in
theorem Stw.find (h:Stw w d sg D G m s pg y k g mb v n F q T U) {i:Nat} {ds ps:List Nat} (ht:T i=some (ds,ps)) :
  Calls Tryz.prog 59 #[.pointer (some ⟨g,0,none⟩),.int .i64 ((i:Int)+1)] w fun e w'=>∃(mb2 gp:Nat) (vp pv:Value) (x:Nat) (sl:List Sl.Sl),e = .returned (.tuple #[.agg #[.pointer (some ⟨g,0,none⟩),.map (some mb2)],.agg #[.int .i64 ((x:Int)+1),pv,.string (strB ds)],.int .i64 0])∧spF F i=x+1∧q (x / 64)=some sl∧OwnI w' w.heap.size pv ps∧Dms w' mb2 (Dmf.put (fun _=>none) (x / 64) gp)∧Sl.Pg0 w' gp vp sl∧(∀j∈Sl.foot gp vp,w.heap.size≤j)∧w.heap.size≤mb2∧mb2∉Sl.foot gp vp∧Below w.heap.size w w':=by
 obtain⟨hz,-⟩:=zero_of_info (P:=Tryz.prog) zeroThing
 obtain⟨hi,x,sl,hx1,hx2,hq,hsl,hth,hps⟩:=h.told ht
 have hok:=h.ok.rc _ _ hq
 have HRF:Hid (∀w1,Below w.heap.size w w1→Calls Tryz.prog 42 #[.pointer (some ⟨g,0,none⟩)] w1 fun e w'=>e = .returned (.int .i64 0)∧w1=w'):=Lib.hid fun w1 hb=>(h.st.below hb).st.refusal
 have HSP:Hid (∀w1,Below w.heap.size w w1→Calls Tryz.prog 70 #[.pointer (some ⟨g,0,none⟩),.int .i64 ((i:Int)+1)] w1 fun e w'=>e = .returned (.int .i64 ((x:Int)+1))∧w1=w'):=Lib.hid fun w1 hb=>by
  have hs:=(h.st.below hb).st.spot ((i:Int)+1)
  rw [show spotN F n ((i:Int)+1)=x+1 from by unfold spotN;rw [if_pos (by omega),show ((i:Int)+1 - 1).toNat=i by omega];exact hx1] at hs
  exact hs
 have HSU:Hid (∀w1,Below w.heap.size w w1→Calls Tryz.prog 99 #[.pointer (some ⟨g,0,none⟩),.int .i64 ((i:Int)+1)] w1 fun e w'=>e = .returned (.int .i64 0)∧Below w1.heap.size w1 w'):=Lib.hid fun w1 hb=>(h.below hb).sure i (by have:=h.ok.n64;omega)
 have HTH:Hid (∀w1 mb2,Below w.heap.size w w1→Dms w1 mb2 (fun _=>none)→w.heap.size≤mb2→Calls Tryz.prog 112 #[.agg #[.pointer (some ⟨g,0,none⟩),.map (some mb2)],.int .i64 ((x:Int)+1)] w1 fun e w'=>∃q3 N3 c3,e = .returned (.tuple #[.agg #[.int .i64 ((x:Int)+1),.slice q3 N3 c3,.string (strB ds)],.int .i64 0])∧Chg [mb2] [mb2] w1 w'∧Hid (∃gp vp,OwnI w' w1.heap.size (.slice q3 N3 c3) ps∧Dms w' mb2 (Dmf.put (fun _=>none) (x / 64) gp)∧Sl.Pg0 w' gp vp sl∧(∀j∈Sl.foot gp vp,w1.heap.size≤j))):=Lib.hid fun w1 mb2 hb hm hm2=>by
  have h1:=h.st.below hb
  have hG:=kin_lt h.st.sp.kinG
  have hD:=kin_lt h.st.sp.kinF
  refine(h1.thing hm (fun e=>by have:=hG _ e;omega) (fun e=>by have:=hD _ e;omega) (fun e=>by have:=h.st.st.lt;omega) (fun e=>by have:=(World.ownsRow.lt h.st.st.own _ e).2;omega) x hx2 hok.2.2.1 hok.2.1 rfl hsl hth hps).mono ?_
  rintro e w' ⟨gp,vp,pv,rfl,ho,hm3,hp3,hf3,hc3⟩
  obtain⟨q3,c3,rfl,_⟩:=ho.cells
  exact⟨q3,_,c3,rfl,hc3,Lib.hid ⟨gp,vp,ho,hm3,hp3,hf3⟩⟩
 have HX:=Lib.hid (And.intro hx1 hq)
 clear h hx1 hq hok hsl hth hps hx2 ht hi
 obtain⟨T9,hT9⟩:∃T9,strB ds=T9:=⟨_,rfl⟩
 have HT9:=Lib.hid hT9
 rw [hT9] at HTH ⊢
 clear hT9
 have hx0:((x:Int)+1 == 0)=false:=by rw [beq_eq_false_iff_ne];omega
 have hx3:decide ((x:Int)+1=0)=false:=decide_eq_false (by omega)
 go_enter Tryz.func59,Tryz.ntmps59
 go_upto_region 1 with fail
 have hb1:Below w.heap.size w ((w.alloc (.cells #[.pointer none,.map none] 106)).alloc (.cells #[.int .i64 0,.slice none 0 0,.string ⟨#[]⟩] 112)):=((Below.refl _ _).alloc (Nat.le_refl _) _).alloc (by simp) _
 have x1:=heap_alloc2_old w (.cells #[.pointer none,.map none] 106) (.cells #[.int .i64 0,.slice none 0 0,.string ⟨#[]⟩] 112)
 have x2:=heap_alloc2_new w (.cells #[.pointer none,.map none] 106) (.cells #[.int .i64 0,.slice none 0 0,.string ⟨#[]⟩] 112)
 have HZ1:Hid (((w.alloc (.cells #[.pointer none,.map none] 106)).alloc (.cells #[.int .i64 0,.slice none 0 0,.string ⟨#[]⟩] 112)).heap.size=w.heap.size+2):=Lib.hid (by simp)
 generalize (w.alloc (.cells #[.pointer none,.map none] 106)).alloc (.cells #[.int .i64 0,.slice none 0 0,.string ⟨#[]⟩] 112)=W1 at *
 have HB1:=Lib.hid hb1
 have HX1:=Lib.hid x1
 have HX2:=Lib.hid x2
 clear hb1 x1 x2
 go_upto_region 10 with (first
  | (go_at_call 42;with_reducible refine(HRF.out _ HB1.out).mono ?_;rintro e w2 ⟨rfl,rfl⟩)
  | (go_at_call 70;with_reducible refine(HSP.out _ HB1.out).mono ?_;rintro e w2 ⟨rfl,rfl⟩)
  | (go_at_call 99;with_reducible refine(HSU.out _ HB1.out).mono ?_;rintro e w3 ⟨rfl,hb3⟩;have HB3:=Lib.hid (HB1.out.trans (hb3.mono HB1.out.size));have HB13:=Lib.hid hb3;clear hb3))
 go_upto_region 11 with (go_at_call 54;with_reducible refine(desk_any g _).mono ?_;rintro e w4 ⟨mb2,rfl,hm4,hm2,hb4⟩;have HM4:=Lib.hid hm4;have HM2:=Lib.hid hm2;have HB34:=Lib.hid hb4;clear hm4 hm2 hb4)
 have hb45:Below w4.heap.size w4 (w4.alloc (.cells #[.pointer (some ⟨g,0,none⟩),.map (some mb2)] 106)):=(Below.refl _ _).alloc (Nat.le_refl _) _
 have hx10:=heap_alloc_new w4 (.cells #[.pointer (some ⟨g,0,none⟩),.map (some mb2)] 106)
 have hz5:(w4.alloc (.cells #[.pointer (some ⟨g,0,none⟩),.map (some mb2)] 106)).heap.size=w4.heap.size+1:=by simp
 generalize w4.alloc (.cells #[.pointer (some ⟨g,0,none⟩),.map (some mb2)] 106)=W5 at *
 have c0:=cell_of_row _ _ 0 _ _ _ hx10
 have c1:=cell_of_row _ _ 1 _ _ _ hx10
 simp at c0 c1
 have HX10:=Lib.hid hx10
 have HZ5:=Lib.hid hz5
 have HB45:=Lib.hid hb45
 have HB5:Hid (Below w.heap.size w W5):=Lib.hid ((HB3.out.trans (HB34.out.mono HB3.out.size)).trans (hb45.mono (by have:=HB3.out.size;have:=HB34.out.size;omega)))
 clear hx10 hb45 hz5
 go_upto_region 12 with (go_at_call 112;with_reducible refine(HTH.out _ mb2 HB5.out (HM4.out.below HB45.out) (Nat.le_trans HB3.out.size HM2.out)).mono ?_;rintro e w6 ⟨q3,N3,c3,rfl,hc6,HS6⟩;have HC6:=Lib.hid hc6;clear hc6)
 have hb67:Below w6.heap.size w6 (w6.alloc (.cells #[.int .i64 ((x:Int)+1),.slice q3 N3 c3,.string T9] 112)):=(Below.refl _ _).alloc (Nat.le_refl _) _
 have hx11:=heap_alloc_new w6 (.cells #[.int .i64 ((x:Int)+1),.slice q3 N3 c3,.string T9] 112)
 generalize w6.alloc (.cells #[.int .i64 ((x:Int)+1),.slice q3 N3 c3,.string T9] 112)=W7 at *
 have hlm:mb2<w4.heap.size:=HM4.out.lt
 have hz5:=HZ5.out
 have hz6:=HC6.out.size
 have hz1:=HZ1.out
 have hz13:=HB13.out.size
 have hz34:=HB34.out.size
 have hm2:=HM2.out
 have hx10:=(hb67.block w4.heap.size (by omega)).trans ((HC6.out.block w4.heap.size (by omega) (by simp;omega)).trans HX10.out)
 have hx4:W7.heap[w.heap.size]?=some (.cells #[.pointer none,.map none] 106 (0,0)):=(hb67.block w.heap.size (by omega)).trans ((HC6.out.block w.heap.size (by omega) (by simp;omega)).trans ((HB45.out.block _ (by omega)).trans ((HB34.out.block _ (by omega)).trans ((HB13.out.block _ (by omega)).trans HX1.out))))
 have hx5:W7.heap[w.heap.size+1]?=some (.cells #[.int .i64 0,.slice none 0 0,.string ⟨#[]⟩] 112 (0,0)):=(hb67.block _ (by omega)).trans ((HC6.out.block _ (by omega) (by simp;omega)).trans ((HB45.out.block _ (by omega)).trans ((HB34.out.block _ (by omega)).trans ((HB13.out.block _ (by omega)).trans HX2.out))))
 have c0:=cell_of_row _ _ 0 _ _ _ hx10
 have c1:=cell_of_row _ _ 1 _ _ _ hx10
 have e0:=cell_of_row _ _ 0 _ _ _ hx11
 have e1:=cell_of_row _ _ 1 _ _ _ hx11
 have e2:=cell_of_row _ _ 2 _ _ _ hx11
 simp at c0 c1 e0 e1 e2
 have b0:=cell_of_row _ _ 0 _ _ _ hx4
 have b1:=cell_of_row _ _ 1 _ _ _ hx4
 have t0:=cell_of_row _ _ 0 _ _ _ hx5
 have t1:=cell_of_row _ _ 1 _ _ _ hx5
 have t2:=cell_of_row _ _ 2 _ _ _ hx5
 simp at b0 b1 t0 t1 t2
 have f0:=frozen_of_row _ _ 0 _ _ hx4
 have f1:=frozen_of_row _ _ 1 _ _ hx4
 have g0:=frozen_of_row _ _ 0 _ _ hx5
 have g1:=frozen_of_row _ _ 1 _ _ hx5
 have g2:=frozen_of_row _ _ 2 _ _ hx5
 have n1:w.heap.size≠w4.heap.size:=by omega
 have n2:w.heap.size≠w6.heap.size:=by omega
 have n3:w.heap.size+1≠w4.heap.size:=by omega
 have n4:w.heap.size+1≠w6.heap.size:=by omega
 have HN:Hid (w.heap.size+2≤w4.heap.size∧w4.heap.size<w6.heap.size∧mb2<w4.heap.size∧w.heap.size+2≤mb2):=Lib.hid ⟨by omega,by omega,hlm,by omega⟩
 have HX4:=Lib.hid hx4
 have HX5:=Lib.hid hx5
 have HB67:=Lib.hid hb67
 clear hx4 hx5 hx10 hx11 hb67 hlm hz5 hz6 hz1 hz13 hz34 hm2 hx0 hx3 HRF HSP HSU HTH
 go_region
 have hv1:(((((W7.setCell ⟨w.heap.size,0,none⟩ (.pointer (some ⟨g,0,none⟩))).setCell ⟨w.heap.size,1,none⟩ (.map (some mb2))).setCell ⟨w.heap.size+1,0,none⟩ (.int .i64 ((x:Int)+1))).setCell ⟨w.heap.size+1,1,none⟩ (.slice q3 N3 c3)).setCell ⟨w.heap.size+1,2,none⟩ (.string T9)).heap[w.heap.size]?=some (.cells #[.pointer (some ⟨g,0,none⟩),.map (some mb2)] 106 (0,0)):=
  (heap_setCell_other _ _ _ _ (by simp)).trans ((heap_setCell_other _ _ _ _ (by simp)).trans ((heap_setCell_other _ _ _ _ (by simp)).trans (heap_setCell_same _ _ 1 _ _ _ (heap_setCell_same _ _ 0 _ _ _ HX4.out))))
 have hv2:(((((W7.setCell ⟨w.heap.size,0,none⟩ (.pointer (some ⟨g,0,none⟩))).setCell ⟨w.heap.size,1,none⟩ (.map (some mb2))).setCell ⟨w.heap.size+1,0,none⟩ (.int .i64 ((x:Int)+1))).setCell ⟨w.heap.size+1,1,none⟩ (.slice q3 N3 c3)).setCell ⟨w.heap.size+1,2,none⟩ (.string T9)).heap[w.heap.size+1]?=some (.cells #[.int .i64 ((x:Int)+1),.slice q3 N3 c3,.string T9] 112 (0,0)):=
  heap_setCell_same _ _ 2 _ _ _ (heap_setCell_same _ _ 1 _ _ _ (heap_setCell_same _ _ 0 _ _ _ ((heap_setCell_other _ _ _ _ (by simp)).trans ((heap_setCell_other _ _ _ _ (by simp)).trans HX5.out))))
 have hk:∀j,j≠w.heap.size→j≠w.heap.size+1→(((((W7.setCell ⟨w.heap.size,0,none⟩ (.pointer (some ⟨g,0,none⟩))).setCell ⟨w.heap.size,1,none⟩ (.map (some mb2))).setCell ⟨w.heap.size+1,0,none⟩ (.int .i64 ((x:Int)+1))).setCell ⟨w.heap.size+1,1,none⟩ (.slice q3 N3 c3)).setCell ⟨w.heap.size+1,2,none⟩ (.string T9)).heap[j]?=W7.heap[j]?:=fun j h1 h2=>(heap_setCell_other _ _ _ _ (by simpa using h2)).trans ((heap_setCell_other _ _ _ _ (by simpa using h2)).trans ((heap_setCell_other _ _ _ _ (by simpa using h2)).trans ((heap_setCell_other _ _ _ _ (by simpa using h1)).trans (heap_setCell_other _ _ _ _ (by simpa using h1)))))
 have hoz:(((((W7.setCell ⟨w.heap.size,0,none⟩ (.pointer (some ⟨g,0,none⟩))).setCell ⟨w.heap.size,1,none⟩ (.map (some mb2))).setCell ⟨w.heap.size+1,0,none⟩ (.int .i64 ((x:Int)+1))).setCell ⟨w.heap.size+1,1,none⟩ (.slice q3 N3 c3)).setCell ⟨w.heap.size+1,2,none⟩ (.string T9)).os=W7.os∧(((((W7.setCell ⟨w.heap.size,0,none⟩ (.pointer (some ⟨g,0,none⟩))).setCell ⟨w.heap.size,1,none⟩ (.map (some mb2))).setCell ⟨w.heap.size+1,0,none⟩ (.int .i64 ((x:Int)+1))).setCell ⟨w.heap.size+1,1,none⟩ (.slice q3 N3 c3)).setCell ⟨w.heap.size+1,2,none⟩ (.string T9)).tape=W7.tape∧(((((W7.setCell ⟨w.heap.size,0,none⟩ (.pointer (some ⟨g,0,none⟩))).setCell ⟨w.heap.size,1,none⟩ (.map (some mb2))).setCell ⟨w.heap.size+1,0,none⟩ (.int .i64 ((x:Int)+1))).setCell ⟨w.heap.size+1,1,none⟩ (.slice q3 N3 c3)).setCell ⟨w.heap.size+1,2,none⟩ (.string T9)).output=W7.output∧(((((W7.setCell ⟨w.heap.size,0,none⟩ (.pointer (some ⟨g,0,none⟩))).setCell ⟨w.heap.size,1,none⟩ (.map (some mb2))).setCell ⟨w.heap.size+1,0,none⟩ (.int .i64 ((x:Int)+1))).setCell ⟨w.heap.size+1,1,none⟩ (.slice q3 N3 c3)).setCell ⟨w.heap.size+1,2,none⟩ (.string T9)).heap.size=W7.heap.size:=⟨rfl,rfl,rfl,by simp⟩
 generalize (((((W7.setCell ⟨w.heap.size,0,none⟩ (.pointer (some ⟨g,0,none⟩))).setCell ⟨w.heap.size,1,none⟩ (.map (some mb2))).setCell ⟨w.heap.size+1,0,none⟩ (.int .i64 ((x:Int)+1))).setCell ⟨w.heap.size+1,1,none⟩ (.slice q3 N3 c3)).setCell ⟨w.heap.size+1,2,none⟩ (.string T9))=V0 at *
 have hvd:V0.drew.heap=V0.heap∧V0.drew.os=V0.os∧V0.drew.tape=V0.tape∧V0.drew.output=V0.output:=⟨rfl,rfl,rfl,rfl⟩
 rw [←hvd.1] at hv1 hv2 hk hoz
 rw [←hvd.2.1,←hvd.2.2.1,←hvd.2.2.2] at hoz
 clear hvd
 generalize V0.drew=V at *
 have HFIN:Hid (∃gp vp,OwnI V w.heap.size (.slice q3 N3 c3) ps∧Dms V mb2 (Dmf.put (fun _=>none) (x / 64) gp)∧Sl.Pg0 V gp vp sl∧(∀j∈Sl.foot gp vp,w.heap.size≤j)∧w.heap.size≤mb2∧mb2∉Sl.foot gp vp∧Below w.heap.size w V):=Lib.hid (by
  obtain⟨gp,vp,ho,hm,hp,hf⟩:=HS6.out
  obtain⟨m1,m2,m3,m4⟩:=HN.out
  have z5:=HZ5.out
  have z6:=HC6.out.size
  have zb:=HB67.out
  have hbl:∀j,w.heap.size+2≤j→j<w6.heap.size→V.heap[j]?=w6.heap[j]?:=fun j h1 h2=>(hk j (by omega) (by omega)).trans (zb.block j h2)
  have hmI:=hm.lt
  have hp7:=hp.lt
  refine⟨gp,vp,own_mono (own_other ho fun j hj=>?_) (by omega),hm.same (hbl mb2 (by omega) hmI),hp.stay (F:=[w.heap.size,w.heap.size+1]) (F':=[w.heap.size,w.heap.size+1]) ⟨hoz.1.trans zb.os,hoz.2.1.trans zb.tape,hoz.2.2.1.trans zb.output,by rw [hoz.2.2.2];exact zb.size,fun j hj hn=>(hk j (fun e=>hn (by simp [e])) (fun e=>hn (by simp [e]))).trans (zb.block j hj),fun _ h=>.inl h⟩ (fun j hj e=>?_),fun j hj=>by have:=hf j hj;omega,by omega,fun e=>?_,?_⟩
  ·obtain⟨j1,j2⟩:=World.ownsRow.lt ho j hj
   exact hbl j (by omega) j2
  ·have:=hf j hj
   simp at e
   omega
  ·have:=hf mb2 e;omega
  ·have b5:=HB5.out
   have c6:=HC6.out
   exact⟨hoz.1.trans (zb.os.trans (c6.os.trans b5.os)),hoz.2.1.trans (zb.tape.trans (c6.tape.trans b5.tape)),hoz.2.2.1.trans (zb.output.trans (c6.output.trans b5.output)),by rw [hoz.2.2.2];have:=zb.size;omega,fun j hj=>(hk j (by omega) (by omega)).trans ((zb.block j (by omega)).trans ((c6.block j (by omega) (by simp;omega)).trans (b5.block j hj)))⟩)
 clear b0 b1 t0 t1 t2 f0 f1 g0 g1 g2 hk hoz c0 c1 e0 e1 e2 n1 n2 n3 n4
 have a0:=cell_of_row _ _ 0 _ _ _ hv1
 have a1:=cell_of_row _ _ 1 _ _ _ hv1
 have b0:=cell_of_row _ _ 0 _ _ _ hv2
 have b1:=cell_of_row _ _ 1 _ _ _ hv2
 have b2':=cell_of_row _ _ 2 _ _ _ hv2
 simp at a0 a1 b0 b1 b2'
 go_wp2_with fail
 obtain⟨gp,vp,r1,r2,r3,r4,r5,r6,r7⟩:=HFIN.out
 exact bodyPost_ret (v:=.tuple #[.agg #[.pointer (some ⟨g,0,none⟩),.map (some mb2)],.agg #[.int .i64 ((x:Int)+1),.slice q3 N3 c3,.string T9],.int .i64 0]) (by simp [results,Tryz.results59,go_sem,a0,a1,b0,b1,b2']) rfl ⟨mb2,gp,vp,.slice q3 N3 c3,x,sl,rfl,HX.out.1,HX.out.2,r1,r2,r3,r4,r5,r6,r7⟩
end
end
section
set_option maxRecDepth 20000
open Go.RowKit
section
variable {w w':World} {d sg pg k g mb n:Nat} {D G:List Nat} {m:Dsk} {s:Sp} {y:Xv} {v:Value} {F:Nat→Nat} {q:Nat→Option (List Sl.Sl)} {T:Nat→Option (List Nat × List Nat)} {U:Nat→Nat}
set_option maxHeartbeats 3200000 in
theorem Stw.findNone (h:Stw w d sg D G m s pg y k g mb v n F q T U) (num:Int) (hn:spotN F n num=0) :
  Calls Tryz.prog 59 #[.pointer (some ⟨g,0,none⟩),.int .i64 num] w fun e w'=>e = .returned (.tuple #[.agg #[.pointer none,.map none],.agg #[.int .i64 0,.slice none 0 0,.string ⟨#[]⟩],.int .i64 5])∧Below w.heap.size w w':=by
 have HRF:Hid (∀w1,Below w.heap.size w w1→Calls Tryz.prog 42 #[.pointer (some ⟨g,0,none⟩)] w1 fun e w'=>e = .returned (.int .i64 0)∧w1=w'):=Lib.hid fun w1 hb=>(h.st.below hb).st.refusal
 have HSP:Hid (∀w1,Below w.heap.size w w1→Calls Tryz.prog 70 #[.pointer (some ⟨g,0,none⟩),.int .i64 num] w1 fun e w'=>e = .returned (.int .i64 0)∧w1=w'):=Lib.hid fun w1 hb=>by
  have hs:=(h.st.below hb).st.spot num
  rw [hn] at hs
  exact hs
 clear h hn
 go_enter Tryz.func59,Tryz.ntmps59
 go_upto_region 1 with fail
 have hb:Below w.heap.size w ((w.alloc (.cells #[.pointer none,.map none] 106)).alloc (.cells #[.int .i64 0,.slice none 0 0,.string ⟨#[]⟩] 112)):=((Below.refl _ _).alloc (Nat.le_refl _) _).alloc (by simp) _
 have x1:=heap_alloc2_old w (.cells #[.pointer none,.map none] 106) (.cells #[.int .i64 0,.slice none 0 0,.string ⟨#[]⟩] 112)
 have x2:=heap_alloc2_new w (.cells #[.pointer none,.map none] 106) (.cells #[.int .i64 0,.slice none 0 0,.string ⟨#[]⟩] 112)
 generalize (w.alloc (.cells #[.pointer none,.map none] 106)).alloc (.cells #[.int .i64 0,.slice none 0 0,.string ⟨#[]⟩] 112)=W at *
 have HB:=Lib.hid hb
 have HX1:=Lib.hid x1
 have HX2:=Lib.hid x2
 clear hb x1 x2
 go_upto_region 6 with (first
  | (go_at_call 42;with_reducible refine(HRF.out _ HB.out).mono ?_;rintro e w2 ⟨rfl,rfl⟩)
  | (go_at_call 70;with_reducible refine(HSP.out _ HB.out).mono ?_;rintro e w2 ⟨rfl,rfl⟩))
 have x1:=HX1.out
 have x2:=HX2.out
 have a0:=cell_of_row _ _ 0 _ _ _ x1
 have a1:=cell_of_row _ _ 1 _ _ _ x1
 have b0:=cell_of_row _ _ 0 _ _ _ x2
 have b1:=cell_of_row _ _ 1 _ _ _ x2
 have b2':=cell_of_row _ _ 2 _ _ _ x2
 have f0:=frozen_of_row _ _ 0 _ _ x1
 have f1:=frozen_of_row _ _ 1 _ _ x1
 have g0:=frozen_of_row _ _ 0 _ _ x2
 have g1:=frozen_of_row _ _ 1 _ _ x2
 have g2:=frozen_of_row _ _ 2 _ _ x2
 simp at a0 a1 b0 b1 b2'
 go_wp2_with fail
 have hv1:(((((W.setCell ⟨w.heap.size,0,none⟩ (.pointer none)).setCell ⟨w.heap.size,1,none⟩ (.map none)).setCell ⟨w.heap.size+1,0,none⟩ (.int .i64 0)).setCell ⟨w.heap.size+1,1,none⟩ (.slice none 0 0)).setCell ⟨w.heap.size+1,2,none⟩ (.string ⟨#[]⟩)).heap[w.heap.size]?=some (.cells #[.pointer none,.map none] 106 (0,0)):=
  (heap_setCell_other _ _ _ _ (by simp)).trans ((heap_setCell_other _ _ _ _ (by simp)).trans ((heap_setCell_other _ _ _ _ (by simp)).trans (heap_setCell_same _ _ 1 _ _ _ (heap_setCell_same _ _ 0 _ _ _ x1))))
 have hv2:(((((W.setCell ⟨w.heap.size,0,none⟩ (.pointer none)).setCell ⟨w.heap.size,1,none⟩ (.map none)).setCell ⟨w.heap.size+1,0,none⟩ (.int .i64 0)).setCell ⟨w.heap.size+1,1,none⟩ (.slice none 0 0)).setCell ⟨w.heap.size+1,2,none⟩ (.string ⟨#[]⟩)).heap[w.heap.size+1]?=some (.cells #[.int .i64 0,.slice none 0 0,.string ⟨#[]⟩] 112 (0,0)):=
  heap_setCell_same _ _ 2 _ _ _ (heap_setCell_same _ _ 1 _ _ _ (heap_setCell_same _ _ 0 _ _ _ ((heap_setCell_other _ _ _ _ (by simp)).trans ((heap_setCell_other _ _ _ _ (by simp)).trans x2))))
 have HB2:Hid (Below w.heap.size w (((((W.setCell ⟨w.heap.size,0,none⟩ (.pointer none)).setCell ⟨w.heap.size,1,none⟩ (.map none)).setCell ⟨w.heap.size+1,0,none⟩ (.int .i64 0)).setCell ⟨w.heap.size+1,1,none⟩ (.slice none 0 0)).setCell ⟨w.heap.size+1,2,none⟩ (.string ⟨#[]⟩))):=Lib.hid (HB.out.trans ⟨rfl,rfl,rfl,by simp,fun k hk=>(heap_setCell_other _ _ _ _ (by simp;omega)).trans ((heap_setCell_other _ _ _ _ (by simp;omega)).trans ((heap_setCell_other _ _ _ _ (by simp;omega)).trans ((heap_setCell_other _ _ _ _ (by simp;omega)).trans (heap_setCell_other _ _ _ _ (by simp;omega)))))⟩)
 generalize (((((W.setCell ⟨w.heap.size,0,none⟩ (.pointer none)).setCell ⟨w.heap.size,1,none⟩ (.map none)).setCell ⟨w.heap.size+1,0,none⟩ (.int .i64 0)).setCell ⟨w.heap.size+1,1,none⟩ (.slice none 0 0)).setCell ⟨w.heap.size+1,2,none⟩ (.string ⟨#[]⟩))=V at *
 clear a0 a1 b0 b1 b2' f0 f1 g0 g1 g2 x1 x2
 have a0:=cell_of_row _ _ 0 _ _ _ hv1
 have a1:=cell_of_row _ _ 1 _ _ _ hv1
 have b0:=cell_of_row _ _ 0 _ _ _ hv2
 have b1:=cell_of_row _ _ 1 _ _ _ hv2
 have b2':=cell_of_row _ _ 2 _ _ _ hv2
 simp at a0 a1 b0 b1 b2'
 exact bodyPost_ret (v:=.tuple #[.agg #[.pointer none,.map none],.agg #[.int .i64 0,.slice none 0 0,.string ⟨#[]⟩],.int .i64 5]) (by simp [results,Tryz.results59,go_sem,a0,a1,b0,b1,b2']) rfl ⟨rfl,HB2.out⟩
set_option maxHeartbeats 3200000 in
theorem Stw.getNone (h:Stw w d sg D G m s pg y k g mb v n F q T U) (num:Int) (hn:spotN F n num=0) :
  Calls Tryz.prog 28 #[.pointer (some ⟨g,0,none⟩),.int .i64 num] w fun e w'=>e = .returned (.tuple #[.string ⟨#[]⟩,.int .i64 5])∧Below w.heap.size w w':=by
 have HF:=Lib.hid (h.findNone num hn)
 clear h hn
 go_enter Tryz.func28,Tryz.ntmps28
 go_upto_region 2 with (go_at_call 59;with_reducible refine HF.out.mono ?_;rintro e w2 ⟨rfl,hb2⟩;have HB2:=Lib.hid hb2;clear hb2)
 have HB3:Hid (Below w.heap.size w ((w2.alloc (.cells #[.pointer none,.map none] 106)).alloc (.cells #[.int .i64 0,.slice none 0 0,.string ⟨#[]⟩] 112))):=Lib.hid ((HB2.out.alloc HB2.out.size _).alloc (by have:=HB2.out.size;simp;omega) _)
 have x2:=heap_alloc2_new w2 (.cells #[.pointer none,.map none] 106) (.cells #[.int .i64 0,.slice none 0 0,.string ⟨#[]⟩] 112)
 generalize (w2.alloc (.cells #[.pointer none,.map none] 106)).alloc (.cells #[.int .i64 0,.slice none 0 0,.string ⟨#[]⟩] 112)=V at *
 have b2':=cell_of_row _ _ 2 _ _ _ x2
 simp at b2'
 clear x2
 go_wp2_with fail
 go_ret2
 exact⟨rfl,HB3.out⟩
set_option maxHeartbeats 3200000 in
theorem Stw.get (h:Stw w d sg D G m s pg y k g mb v n F q T U) {i:Nat} {ds ps:List Nat} (ht:T i=some (ds,ps)) :
  Calls Tryz.prog 28 #[.pointer (some ⟨g,0,none⟩),.int .i64 ((i:Int)+1)] w fun e w'=>e = .returned (.tuple #[.string (strB ds),.int .i64 0])∧Below w.heap.size w w':=by
 have HF:Hid (Calls Tryz.prog 59 #[.pointer (some ⟨g,0,none⟩),.int .i64 ((i:Int)+1)] w fun e w'=>∃mb2 x q3 N3 c3,e = .returned (.tuple #[.agg #[.pointer (some ⟨g,0,none⟩),.map (some mb2)],.agg #[.int .i64 x,.slice q3 N3 c3,.string (strB ds)],.int .i64 0])∧Below w.heap.size w w'):=Lib.hid ((h.find ht).mono (by
  rintro e w' ⟨mb2,gp,vp,pv,x,sl,rfl,_,_,ho,_,_,_,_,_,hb⟩
  obtain⟨q3,c3,rfl,_⟩:=ho.cells
  exact⟨mb2,_,q3,_,c3,rfl,hb⟩))
 clear h ht
 obtain⟨T9,hT9⟩:∃T9,strB ds=T9:=⟨_,rfl⟩
 rw [hT9] at HF ⊢
 clear hT9
 obtain⟨I,hI⟩:∃I:Int,(i:Int)+1=I:=⟨_,rfl⟩
 rw [hI] at HF ⊢
 clear hI
 go_enter Tryz.func28,Tryz.ntmps28
 go_upto_region 2 with (go_at_call 59;with_reducible refine HF.out.mono ?_;rintro e w2 ⟨mb2,x,q3,N3,c3,rfl,hb2⟩;have HB2:=Lib.hid hb2;clear hb2)
 have HB3:Hid (Below w.heap.size w ((w2.alloc (.cells #[.pointer (some ⟨g,0,none⟩),.map (some mb2)] 106)).alloc (.cells #[.int .i64 x,.slice q3 N3 c3,.string T9] 112))):=Lib.hid ((HB2.out.alloc HB2.out.size _).alloc (by have:=HB2.out.size;simp;omega) _)
 have x2:=heap_alloc2_new w2 (.cells #[.pointer (some ⟨g,0,none⟩),.map (some mb2)] 106) (.cells #[.int .i64 x,.slice q3 N3 c3,.string T9] 112)
 generalize (w2.alloc (.cells #[.pointer (some ⟨g,0,none⟩),.map (some mb2)] 106)).alloc (.cells #[.int .i64 x,.slice q3 N3 c3,.string T9] 112)=V at *
 have b2':=cell_of_row _ _ 2 _ _ _ x2
 simp at b2'
 clear x2
 go_wp2_with fail
 go_ret2
 exact⟨rfl,HB3.out⟩
end
end
end Go.Proofs.YtmbecjlioogbhaaGreatDoor
