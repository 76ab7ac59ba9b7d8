/- Texts YRec to BPut of this seat, laid into one. -/
import Derived.Deep.RegionHeldLaw
import Derived.Test.YtmbecjlioogbhaaGreatDoorM02
import Derived.Test.YtmbecjlioogbhaaGreatDoorM03
import Derived.Test.YtmbecjlioogbhaaGreatDoorM10
import Derived.Test.YtmbecjlioogbhaaGreatDoorM11
set_option linter.unusedVariables false
set_option linter.unusedSimpArgs false
set_option linter.constructorNameAsVariable false
namespace Go.Proofs.YtmbecjlioogbhaaGreatDoor
section
set_option maxRecDepth 20000
open Go.RowKit
theorem lt_of_cellY {w:World} {b o:Nat} {v:Value} (h:w.cell? ⟨b,o,none⟩=some v):b<w.heap.size:=by
 refine Nat.lt_of_not_le fun h2=>?_
 unfold World.cell? at h
 simp only at h
 rw [Array.getElem?_eq_none h2] at h
 cases h
def pgB (l:List Nat):List Nat:=twoB (fun i=>l.getD i 0) l.length
theorem pgB_len (l:List Nat):(pgB l).length=2*l.length:=twoB_len _ _
theorem pgB_dig (l:List Nat):∀x∈pgB l,x<256:=twoB_dig _ _
def recB (ds l:List Nat):List Nat:=if l=[] then 0 :: ds else [1]++be 4 ds.length++pgB l
set_option maxHeartbeats 3200000 in
theorem recordText_any (S:ByteArray) (ds:List Nat) (v:Value) (l:List Nat) (B:Nat) (w:World) (hS:IsS S ds) (hd:ds.length≤1000000) (hv:OwnI w B v l) (hl:l.length≤64) (hlp:∀x∈l,x≤1099511627776) :
  Calls Tryz.prog 108 #[.string S,v] w fun e w'=>e = .returned (.string (strB (recB ds l)))∧Below w.heap.size w w':=by
 have hsz:=hS.size
 obtain⟨p,c,rfl,hcl⟩:=hv.cells
 have hlt:∀g,p=some ⟨g,0,none⟩→0<l.length→g<w.heap.size:=fun g e h0=>by
  obtain⟨g2,e2,h2⟩:=hcl 0 h0
  rw [e] at e2
  cases e2
  exact lt_of_cellY h2
 obtain⟨n,hn⟩:∃n,l.length=n:=⟨_,rfl⟩
 obtain⟨D,hD⟩:∃D,ds.length=D:=⟨_,rfl⟩
 rw [hD] at hsz hd
 have HSD:=Lib.hid hS.dig
 have HD:=Lib.hid hD
 have HS:=Lib.hid hS
 rw [hn] at hcl hl hlt ⊢
 have HC:=Lib.hid hcl
 have HN:=Lib.hid hn
 have HLT:=Lib.hid hlt
 have HLP:=Lib.hid hlp
 clear hcl hv hlp hS hD hlt
 have hnI:(n:Int)≤64:=by omega
 have hDI:(D:Int)≤1000000:=by omega
 by_cases h0:n=0
 ·subst h0
  have HRB:Hid (recB ds l=0 :: ds):=Lib.hid (by unfold recB;rw [if_pos (List.eq_nil_of_length_eq_zero HN.out)])
  have hown:=World.ownsRow_lit (base:=w.heap.size) (e:=5) (size:=1) w #[.int .u8 0] 1 (Nat.le_refl _) (by unfold maxLen;omega) rfl
  have hcv:(convert 71 9 (.slice (some ⟨w.heap.size,0,none⟩) 1 1)).run Tryz.prog (w.alloc (.cells #[.int .u8 0] 5)) = .ok (.string (strB [0])) (w.alloc (.cells #[.int .u8 0] 5)):=(Bys.own (bs:=[0]) hown (by decide)).conv _
  have HB0:=Lib.hid (alloc_below w (.cells #[.int .u8 0] 5))
  have HST:Hid (strB [0]++S=strB (0 :: ds)):=Lib.hid (((IsS.mk_ [0] (by decide)).app HS.out).eq)
  have hts:(strB [0]).size=1:=by rw [strB_size];rfl
  clear hown
  generalize strB [0]=T0 at *
  go_enter Tryz.func108,Tryz.ntmps108
  go_wp2_with fail
  go_ret
  exact⟨by rw [HRB.out,←HST.out];rfl,HB0.out⟩
 ·have hne:((n:Int) == 0)=false:=by rw [beq_eq_false_iff_ne];omega
  have HRB:Hid (recB ds l=[1]++be 4 D++twoB (fun i=>l.getD i 0) n):=Lib.hid (by
   unfold recB pgB
   rw [if_neg (fun e=>h0 (by rw [←HN.out,e];rfl)),HD.out,HN.out])
  obtain⟨W1,hW1⟩:∃W1,w.alloc (.cells #[.int .u8 1] 5)=W1:=⟨_,rfl⟩
  have HB0:Hid (Below w.heap.size w W1):=by rw [←hW1];exact Lib.hid (alloc_below w _)
  have hbo:Bo w.heap.size W1 (.slice (some ⟨w.heap.size,0,none⟩) 1 1) [1]:=by
   rw [←hW1]
   exact⟨_,1,rfl,World.ownsRow_lit w #[.int .u8 1] 1 (Nat.le_refl _) (by unfold maxLen;omega) rfl⟩
  have HP:=Lib.hid (putS_any w.heap.size W1 _ [1] D 4 HB0.out.size hbo (by omega) (by omega) (by decide))
  rw [show ((4:Nat):Int)=4 from rfl] at HP
  have hpos:=Nat.pos_of_ne_zero h0
  clear h0 hbo
  go_enter Tryz.func108,Tryz.ntmps108
  go_upto_region 5 with (go_at_call 119;with_reducible refine HP.out.mono ?_;rintro e w4 ⟨v4,rfl,hv4,hb4⟩)
  have H0:Hid (Bo w.heap.size w4 v4 ([1]++be 4 D++twoB (fun i=>l.getD i 0) 0)∧Below w.heap.size w w4):=Lib.hid ⟨by
   show Bo _ _ _ ([1]++be 4 D++[])
   rw [List.append_nil];exact hv4,HB0.out.trans hb4⟩
  clear hv4 hb4 HP HB0 hW1
  go_loopw [5,21] (fun bv iv wr=>∃i:Nat,i≤n∧iv = .int .i64 (i:Int)∧Hid (Bo w.heap.size wr bv ([1]++be 4 D++twoB (fun i=>l.getD i 0) i)∧Below w.heap.size w wr)) (fun _ iv _=>n - (RowKit.intOf iv).toNat)
  case atStart=>exact⟨0,by omega,by go_num,H0⟩
  case round=>
   obtain⟨i,hi,rfl,hr⟩:=hrel
   by_cases hlt2:i<n
   ·have hd:decide ((i:Int)<(n:Int))=true:=decide_eq_true (by omega)
    have hiI:(i:Int)<64:=by omega
    have hiI2:(i:Int)<(n:Int):=by omega
    have HI2:=Lib.hid hlt2
    obtain⟨g,e,hc0⟩:=HC.out i hlt2
    have hgl:=HLT.out g e hpos
    subst e
    have hcl:=(hr.out.2.cell (p:=⟨g,i,none⟩) hgl).trans hc0
    have HP:=Lib.hid (putS_any w.heap.size wr u5 ([1]++be 4 D++twoB (fun i=>l.getD i 0) i) (l.getD i 0) 2 hr.out.2.size hr.out.1 (HLP.out _ (by
     rw [List.getD_eq_getElem?_getD,List.getElem?_eq_getElem (by rw [HN.out];exact hlt2)];exact List.getElem_mem _)) (by omega) (by rw [List.length_append,List.length_append,twoB_len,be_len];simp;omega))
    rw [show ((2:Nat):Int)=2 from rfl] at HP
    obtain⟨x,hx⟩:∃x,l.getD i 0=x:=⟨_,rfl⟩
    have HX:=Lib.hid hx
    rw [hx] at hcl HP
    clear hc0 hgl HC HLT hi hx
    go_wp2_with (go_at_call 119;with_reducible refine HP.out.mono ?_;rintro e w4 ⟨v4,rfl,hv4,hb4⟩)
    have HR4:Hid (Bo w.heap.size w4 v4 ([1]++be 4 D++twoB (fun i=>l.getD i 0) (i+1))∧Below w.heap.size w w4):=Lib.hid ⟨by
     show Bo _ _ _ (_++(twoB _ i++be 2 _))
     rw [←List.append_assoc]
     show Bo _ _ _ (_++be 2 (l.getD i 0))
     rw [HX.out]
     exact hv4,hr.out.2.trans hb4⟩
    go_roundw
    case rel=>exact⟨i+1,HI2.out,by go_num,HR4⟩
    case measure=>have:=HI2.out;simp [RowKit.intOf];omega
   ·obtain rfl:i=n:=by omega
    have hd2:decide ((i:Int)<(i:Int))=false:=decide_eq_false (by omega)
    obtain⟨⟨p5,c5,e5,ho⟩,hb⟩:=hr.out
    have hcv:(convert 71 9 u5).run Tryz.prog wr = .ok (.string (strB ([1]++be 4 D++twoB (fun i=>l.getD i 0) i))) wr:=by
     rw [e5]
     exact(Bys.own ho (fun x hx=>by
      rcases List.mem_append.1 hx with h | h
      ·rcases List.mem_append.1 h with h | h
       ·cases List.mem_singleton.1 h;decide
       ·exact be_dig _ _ x h
      ·exact twoB_dig _ _ x h)).conv _
    have HB:=Lib.hid hb
    clear hr ho hb e5
    rw [←HRB.out] at hcv
    go_wp2_with fail
    go_ret
    exact⟨rfl,HB.out⟩
end
section
set_option maxRecDepth 20000
open Go.RowKit
theorem zeroRec:(Tryz.prog.info? 221).map (fun i=>(i.zero,i.size))=some (some (.agg #[.string ⟨#[]⟩,.int .i64 0,.slice none 0 0]),3):=by kernel_rfl
theorem sizeRec:(Tryz.prog.info? 221).map (·.size)=some 3:=by kernel_rfl
theorem own_mono {w:World} {B B2:Nat} {e size:Nat} {v:Value} {n:Nat} {xs:List Value} (h:w.ownsRow B e size v n xs) (hb:B2≤B):w.ownsRow B2 e size v n xs:=
 ⟨h.1,h.2.imp id fun ⟨g,cap,cur,e1,e2,e3⟩=>⟨g,cap,cur,e1,Nat.le_trans hb e2,e3⟩⟩
def recV (S:ByteArray) (n:Nat) (v:Value):Value:=.agg #[.string S,.int .i64 (n:Int),v]
def rec0:Value:=.agg #[.string ⟨#[]⟩,.int .i64 0,.slice none 0 0]
def lngN (s:List Nat):Nat:=val ((s.drop 1).take 4)
def lngOk (s:List Nat):Bool:=decide (5≤s.length) && decide (479<lngN s) && decide (lngN s≤16384) && decide (s.length=recordSizeN (lngN s))
def LngR (w w':World) (s:List Nat) (e:Ending):Prop:=
 Below w.heap.size w w'∧((lngOk s=false∧e = .returned (.tuple #[rec0,.bool false])) ∨
  (lngOk s=true∧∃v,e = .returned (.tuple #[recV ⟨#[]⟩ (lngN s) v,.bool true])∧OwnI w' w.heap.size v (pgsL (s.drop 5) (pagesForN (lngN s)))))
theorem set3 {w:World} {g t:Nat} {a b c:Value} (v0 v1 v2:Value) (h:w.heap[g]?=some (.cells #[a,b,c] t (0,0))) :
  (((w.setCell ⟨g,0,none⟩ v0).setCell ⟨g,1,none⟩ v1).setCell ⟨g,2,none⟩ v2).heap[g]?=some (.cells #[v0,v1,v2] t (0,0)):=by
 have h0:=heap_setCell_same w g 0 _ _ v0 h
 have h1:=heap_setCell_same _ g 1 _ _ v1 h0
 have h2:=heap_setCell_same _ g 2 _ _ v2 h1
 exact h2
theorem below3 {w:World} {g n:Nat} (hg:n≤g) (v0 v1 v2:Value):Below n w (((w.setCell ⟨g,0,none⟩ v0).setCell ⟨g,1,none⟩ v1).setCell ⟨g,2,none⟩ v2):=
 (((Below.refl n w).setCell (p:=⟨g,0,none⟩) hg v0).setCell (p:=⟨g,1,none⟩) hg v1).setCell (p:=⟨g,2,none⟩) hg v2
theorem build_rec (k:Int) (p:Option Addr) (n c:Nat) (w:World):(Instr.build 221 #[(1,.int .i64 k),(2,.slice p n c)]).run Tryz.prog w = .ok (.agg #[.string ⟨#[]⟩,.int .i64 k,.slice p n c]) w:=
 run_build w _ _ _ (by kernel_rfl)
theorem build_rec1 (S:ByteArray) (k:Int) (w:World):(Instr.build 221 #[(0,.string S),(1,.int .i64 k)]).run Tryz.prog w = .ok (.agg #[.string S,.int .i64 k,.slice none 0 0]) w:=
 run_build w _ _ _ (by kernel_rfl)
set_option maxHeartbeats 3200000 in
theorem longOf_any (S:ByteArray) (s:List Nat) (w:World) (hS:IsS S s) (hl:s.length≤100000) :
  Calls Tryz.prog 199 #[.string S] w fun e w'=>LngR w w' s e:=by
 obtain⟨hz,-⟩:=zero_of_info (P:=Tryz.prog) zeroRec
 have hsz:=hS.size
 have HS:=Lib.hid hS
 obtain⟨L,hL⟩:∃L,s.length=L:=⟨_,rfl⟩
 rw [hL] at hsz hl
 have HL:=Lib.hid hL
 have hLI:(L:Int)≤100000:=by omega
 have HBX:Hid ((w.alloc (.cells #[.string ⟨#[]⟩,.int .i64 0,.slice none 0 0] 221)).heap[w.heap.size]?=some (.cells #[.string ⟨#[]⟩,.int .i64 0,.slice none 0 0] 221 (0,0))):=Lib.hid (heap_alloc_new _ _)
 have HB0:=Lib.hid (alloc_below w (.cells #[.string ⟨#[]⟩,.int .i64 0,.slice none 0 0] 221))
 clear hL hS
 by_cases h5:L<5
 ·have hd:decide ((L:Int)<5)=true:=decide_eq_true (by omega)
  have HNO:Hid (lngOk s=false):=Lib.hid (by unfold lngOk;rw [HL.out,decide_eq_false (by omega)];rfl)
  clear h5
  go_enter Tryz.func199,Tryz.ntmps199
  go_wp2_with fail
  exact bodyPost_ret (Tb.results_row_tmp rfl _ _ w.heap.size 221 _ (0,0) _ rfl HBX.out Tryz.underlying221 rfl sizeRec) rfl ⟨HB0.out,.inl ⟨HNO.out,rfl⟩⟩
 ·have hd:decide ((L:Int)<5)=false:=decide_eq_false (by omega)
  have hsub:IsS (S.extract 1 5) ((s.drop 1).take 4):=HS.out.ext 1 5
  have HT:=Lib.hid (takeS_any _ _ (w.alloc (.cells #[.string ⟨#[]⟩,.int .i64 0,.slice none 0 0] 221)) hsub (by rw [List.length_take];omega))
  have hzlt:lngN s<4294967296:=by
   have:=val_lt _ hsub.dig
   have h3:(256:Nat) ^ ((s.drop 1).take 4).length≤256 ^ 4:=Nat.pow_le_pow_right (by omega) (by rw [List.length_take];exact Nat.min_le_left _ _)
   have h4:(256:Nat) ^ 4=4294967296:=by decide
   have h5:lngN s=val ((s.drop 1).take 4):=rfl
   omega
  have HT2:Hid (Calls Tryz.prog 162 #[.string (S.extract 1 5)] (w.alloc (.cells #[.string ⟨#[]⟩,.int .i64 0,.slice none 0 0] 221)) fun e w'=>e = .returned (.int .i64 (lngN s:Int))∧(w.alloc (.cells #[.string ⟨#[]⟩,.int .i64 0,.slice none 0 0] 221))=w'):=HT
  obtain⟨z,hz0⟩:∃z,lngN s=z:=⟨_,rfl⟩
  have HZ:=Lib.hid hz0
  rw [hz0] at HT2 hzlt
  have hzI:(z:Int)<4294967296:=by omega
  have h5L:5≤L:=by omega
  clear HT hsub hz0 h5
  by_cases c1:z≤479
  ·have d1:decide ((z:Int)≤479)=true:=decide_eq_true (by omega)
   have HNO:Hid (lngOk s=false):=Lib.hid (by unfold lngOk;rw [HZ.out,decide_eq_false (show ¬ 479<z by omega)];simp)
   clear c1
   go_enter Tryz.func199,Tryz.ntmps199
   go_wp2_with (go_at_call 162;with_reducible refine HT2.out.mono ?_;rintro e w7 ⟨rfl,rfl⟩)
   exact bodyPost_ret (Tb.results_row_tmp rfl _ _ w.heap.size 221 _ (0,0) _ rfl HBX.out Tryz.underlying221 rfl sizeRec) rfl ⟨HB0.out,.inl ⟨HNO.out,rfl⟩⟩
  ·have d1:decide ((z:Int)≤479)=false:=decide_eq_false (by omega)
   by_cases c2:16384<z
   ·have d2:decide ((16384:Int)<(z:Int))=true:=decide_eq_true (by omega)
    have HNO:Hid (lngOk s=false):=Lib.hid (by unfold lngOk;rw [HZ.out,decide_eq_false (show ¬ z≤16384 by omega)];simp)
    clear c1 c2
    go_enter Tryz.func199,Tryz.ntmps199
    go_wp2_with (go_at_call 162;with_reducible refine HT2.out.mono ?_;rintro e w7 ⟨rfl,rfl⟩)
    exact bodyPost_ret (Tb.results_row_tmp rfl _ _ w.heap.size 221 _ (0,0) _ rfl HBX.out Tryz.underlying221 rfl sizeRec) rfl ⟨HB0.out,.inl ⟨HNO.out,rfl⟩⟩
   ·have d2:decide ((16384:Int)<(z:Int))=false:=decide_eq_false (by omega)
    have HR:=Lib.hid (recordSize_any z (w.alloc (.cells #[.string ⟨#[]⟩,.int .i64 0,.slice none 0 0] 221)) (by omega))
    by_cases c3:L=recordSizeN z
    ·have d3:((L:Int) != (recordSizeN z:Int))=false:=by rw [bne_eq_false_iff_eq];omega
     have HYES:Hid (lngOk s=true):=Lib.hid (by unfold lngOk;rw [HZ.out,HL.out,decide_eq_true c3,decide_eq_true h5L,decide_eq_true (show 479<z by omega),decide_eq_true (show z≤16384 by omega)];rfl)
     have hp1:pagesForN z=(z+511) / 512:=by unfold pagesForN;rw [if_neg c1]
     have hp2:L=5+2*pagesForN z:=by rw [c3];unfold recordSizeN;rw [if_pos (by rw [hp1];omega)]
     have hp3:pagesForN z≤32:=by rw [hp1];omega
     have hz2:(z:Int)≤16384:=by omega
     have HPF:=Lib.hid (fun w=>pagesFor_any z w (by omega))
     have HS5:Hid (IsS (S.extract 5 L) (s.drop 5)):=Lib.hid (by
      have h:=HS.out.ext 5 L
      rw [List.take_of_length_le (by rw [List.length_drop,HL.out];exact Nat.le_refl _)] at h
      exact h)
     have HPO:=Lib.hid (fun w=>pagesOfS_any (S.extract 5 L) (s.drop 5) (pagesForN z) w HS5.out (by omega) (by rw [List.length_drop,HL.out];omega) (by rw [List.length_drop,HL.out];omega))
     have hlen:(w.alloc (.cells #[.string ⟨#[]⟩,.int .i64 0,.slice none 0 0] 221)).heap.size=w.heap.size+1:=by simp
     obtain⟨n,hn⟩:∃n,pagesForN z=n:=⟨_,rfl⟩
     have HN:=Lib.hid hn
     rw [hn] at HPF HPO hp3
     have hnI:(n:Int)≤32:=by omega
     clear c1 c2 c3 hp1 hp2 hn
     generalize recordSizeN z=rz at *
     go_enter Tryz.func199,Tryz.ntmps199
     go_upto_region 6 with (first
      | (go_at_call 162;with_reducible refine HT2.out.mono ?_;rintro e w7 ⟨rfl,rfl⟩)
      | (go_at_call 96;with_reducible refine HR.out.mono ?_;rintro e w7 ⟨rfl,rfl⟩))
     have HLEN:=Lib.hid hlen
     clear hlen
     generalize hW1:w.alloc (.cells #[.string ⟨#[]⟩,.int .i64 0,.slice none 0 0] 221)=W1 at *
     clear hW1 d1 d2 d3 hd
     have h5I:(5:Int)≤(L:Int):=by omega
     have HLT:Hid (w.heap.size<W1.heap.size):=Lib.hid (by rw [HLEN.out];omega)
     have HBW:=HB0
     clear hz hsz hl HT2 HR HB0
     have hsz:S.size=L:=by rw [HS.out.size,HL.out]
     have HPC:Hid (Calls Tryz.prog 122 #[.string (S.extract 5 L),.int .i64 (n:Int)] W1.drew fun e w'=>∃p v,e = .returned (.slice p n n)∧Hid (v = .slice p n n)∧Hid (OwnI w' (w.heap.size+1) v (pgsL (s.drop 5) n)∧Below w.heap.size W1 w') ∧
       Hid (w'.heap[w.heap.size]?=some (.cells #[.string ⟨#[]⟩,.int .i64 0,.slice none 0 0] 221 (0,0))) ∧
       (w'.cell? ⟨w.heap.size,0,none⟩=some (.string ⟨#[]⟩)∧w'.cell? ⟨w.heap.size,1,none⟩=some (.int .i64 0)∧w'.cell? ⟨w.heap.size,2,none⟩=some (.slice none 0 0))∧∀i,w'.frozen? ⟨w.heap.size,i,none⟩=false):=Lib.hid ((HPO.out W1.drew).mono (by
      rintro e w8 ⟨v8,rfl,he8,ho8,hb8⟩
      have hx:=(hb8.block w.heap.size HLT.out).trans HBX.out
      exact⟨_,v8,by rw [he8],Lib.hid he8,Lib.hid ⟨own_mono ho8 HLT.out,((Below.refl _ _).drew.trans hb8).mono (Nat.le_of_lt HLT.out)⟩,Lib.hid hx,⟨cell_of_row w8 w.heap.size 0 _ _ _ hx,cell_of_row w8 w.heap.size 1 _ _ _ hx,cell_of_row w8 w.heap.size 2 _ _ _ hx⟩,fun i=>frozen_of_row w8 w.heap.size i _ _ hx⟩))
     have hbd:=build_rec (z:Int)
     clear HPO
     go_region_with (first
      | (go_at_call 97;with_reducible refine(HPF.out _).mono ?_;rintro e w7 ⟨rfl,rfl⟩)
      | (go_at_call 122;with_reducible refine HPC.out.mono ?_;rintro e w8 ⟨p8,v8,rfl,HV8,HO8,HX8,⟨k0,k1,k2⟩,kf⟩))
     go_wp2_with fail
     have hro:=HO8.out.1
     have hbe:=HBW.out.trans (HO8.out.2.trans (below3 (Nat.le_refl w.heap.size) (.string ⟨#[]⟩) (.int .i64 (z:Int)) (.slice p8 n n)))
     refine bodyPost_ret (Tb.results_row_tmp rfl _ _ w.heap.size 221 _ (0,0) _ rfl (set3 _ _ _ HX8.out) Tryz.underlying221 rfl sizeRec) rfl ⟨hbe,.inr ⟨HYES.out,.slice p8 n n,?_,?_⟩⟩
     ·rw [HZ.out];rfl
     ·rw [HZ.out,HN.out]
      have:=HV8.out
      subst this
      refine own_mono (own_other hro fun k hk=>?_) (Nat.le_succ _)
      have hne:w.heap.size≠k:=by
       have:=(hro.lt k hk).1
       omega
      rw [heap_setCell_other _ ⟨w.heap.size,2,none⟩ k _ hne.symm,heap_setCell_other _ ⟨w.heap.size,1,none⟩ k _ hne.symm,heap_setCell_other _ ⟨w.heap.size,0,none⟩ k _ hne.symm]
    ·have d3:((L:Int) != (recordSizeN z:Int))=true:=by rw [bne_iff_ne];omega
     have HNO:Hid (lngOk s=false):=Lib.hid (by unfold lngOk;rw [HZ.out,HL.out,decide_eq_false c3];simp)
     clear c1 c2 c3
     generalize recordSizeN z=rz at *
     go_enter Tryz.func199,Tryz.ntmps199
     go_wp2_with (first
      | (go_at_call 162;with_reducible refine HT2.out.mono ?_;rintro e w7 ⟨rfl,rfl⟩)
      | (go_at_call 96;with_reducible refine HR.out.mono ?_;rintro e w7 ⟨rfl,rfl⟩))
     exact bodyPost_ret (Tb.results_row_tmp rfl _ _ w.heap.size 221 _ (0,0) _ rfl HBX.out Tryz.underlying221 rfl sizeRec) rfl ⟨HB0.out,.inl ⟨HNO.out,rfl⟩⟩
end
section
set_option maxRecDepth 20000
open Go.RowKit
def RecR (w w':World) (s:List Nat) (e:Ending):Prop:=
 Below w.heap.size w w'∧((s=[]∧e = .returned (.tuple #[rec0,.bool false]))∨(∃t,s=0 :: t∧e = .returned (.tuple #[recV (strB t) t.length (.slice none 0 0),.bool true])) ∨
  (∃t,s=1 :: t∧((lngOk s=false∧e = .returned (.tuple #[rec0,.bool false])) ∨
    (lngOk s=true∧∃v,e = .returned (.tuple #[recV ⟨#[]⟩ (lngN s) v,.bool true])∧OwnI w' w.heap.size v (pgsL (s.drop 5) (pagesForN (lngN s)))))) ∨
  (∃x t,s=x :: t∧2≤x∧e = .returned (.tuple #[rec0,.bool false])))
theorem rec_fill {w w':World} {B:Nat} {v:Value} {l:List Nat} (a b c:Value) (h:OwnI w' B v l) (hB:w.heap.size<B) :
  OwnI (((w'.setCell ⟨w.heap.size,0,none⟩ a).setCell ⟨w.heap.size,1,none⟩ b).setCell ⟨w.heap.size,2,none⟩ c) w.heap.size v l:=by
 refine own_mono (own_other h fun k hk=>?_) (Nat.le_of_lt hB)
 have hne:w.heap.size≠k:=by
  have:=(World.ownsRow.lt h k hk).1
  omega
 rw [heap_setCell_other _ ⟨w.heap.size,2,none⟩ k _ hne.symm,heap_setCell_other _ ⟨w.heap.size,1,none⟩ k _ hne.symm,heap_setCell_other _ ⟨w.heap.size,0,none⟩ k _ hne.symm]
set_option maxHeartbeats 3200000 in
theorem recordOf_any (S:ByteArray) (s:List Nat) (w:World) (hS:IsS S s) (hl:s.length≤100000) :
  Calls Tryz.prog 160 #[.string S] w fun e w'=>RecR w w' s e:=by
 obtain⟨hz,-⟩:=zero_of_info (P:=Tryz.prog) zeroRec
 have hsz:=hS.size
 have HS:=Lib.hid hS
 obtain⟨L,hL⟩:∃L,s.length=L:=⟨_,rfl⟩
 rw [hL] at hsz hl
 have HL:=Lib.hid hL
 have hLI:(L:Int)≤100000:=by omega
 have HBX:Hid ((w.alloc (.cells #[.string ⟨#[]⟩,.int .i64 0,.slice none 0 0] 221)).heap[w.heap.size]?=some (.cells #[.string ⟨#[]⟩,.int .i64 0,.slice none 0 0] 221 (0,0))):=Lib.hid (heap_alloc_new _ _)
 have HB0:=Lib.hid (alloc_below w (.cells #[.string ⟨#[]⟩,.int .i64 0,.slice none 0 0] 221))
 have hIX:=hS.index 0
 have hem:S.toList.isEmpty=s.isEmpty:=by rw [Go.Lib.toList_data,hS.list,List.isEmpty_map]
 clear hL hS
 match hs:s with
 | []=>
  have hb:S.toList.isEmpty=true:=hem
  clear hIX hem
  go_enter Tryz.func160,Tryz.ntmps160
  go_wp2_with fail
  exact bodyPost_ret (Tb.results_row_tmp rfl _ _ w.heap.size 221 _ (0,0) _ rfl HBX.out Tryz.underlying221 rfl sizeRec) rfl ⟨HB0.out,.inl ⟨rfl,rfl⟩⟩
 | x :: t=>
  have hb:S.toList.isEmpty=false:=hem
  have hix:∀w,(Instr.index 9 (.string S) (.int .i64 0)).run Tryz.prog w = .ok (.int .u8 (x:Int)) w:=fun w=>hIX (by simp) w
  have hx:=HS.out.dig x (List.mem_cons_self ..)
  clear hIX hem
  by_cases x0:x=0
  ·subst x0
   have HT:Hid (S.extract 1 L=strB t∧((L:Int) - 1=((t.length:Nat):Int))):=Lib.hid ⟨by
    have h:=(HS.out.ext 1 L).eq
    rw [h,show (0 :: t).drop 1=t from rfl,List.take_of_length_le (by have:=HL.out;simp at this;omega)],by have:=HL.out;simp at this;omega⟩
   have hL1:1≤L:=by have:=HL.out;simp at this;omega
   have hbd:=build_rec1 (S.extract 1 L) ((L:Int) - 1)
   go_enter Tryz.func160,Tryz.ntmps160
   go_wp2_with fail
   refine bodyPost_ret (Tb.results_row_tmp rfl _ _ w.heap.size 221 _ (0,0) _ rfl (heap_alloc_new _ _) Tryz.underlying221 rfl sizeRec) rfl ⟨alloc_below _ _,.inr (.inl ⟨t,rfl,?_⟩)⟩
   unfold recV
   rw [←HT.out.1,←HT.out.2]
   rfl
  ·have e0:((x:Int) == 0)=false:=by rw [beq_eq_false_iff_ne];omega
   by_cases x1:x=1
   ·subst x1
    have HLO:=Lib.hid (longOf_any S (1 :: t) (w.alloc (.cells #[.string ⟨#[]⟩,.int .i64 0,.slice none 0 0] 221)) HS.out (by rw [HL.out];exact hl))
    have hlen:(w.alloc (.cells #[.string ⟨#[]⟩,.int .i64 0,.slice none 0 0] 221)).heap.size=w.heap.size+1:=by simp
    have HPC:Hid (Calls Tryz.prog 199 #[.string S] (w.alloc (.cells #[.string ⟨#[]⟩,.int .i64 0,.slice none 0 0] 221)) fun e w'=>∃k p n c b,e = .returned (.tuple #[.agg #[.string ⟨#[]⟩,.int .i64 k,.slice p n c],.bool b]) ∧
       Hid (Below w.heap.size w w'∧((lngOk (1 :: t)=false∧b=false∧k=0∧p=none∧n=0∧c=0)∨(lngOk (1 :: t)=true∧b=true∧k=(lngN (1 :: t):Int)∧OwnI w' (w.heap.size+1) (.slice p n c) (pgsL ((1 :: t).drop 5) (pagesForN (lngN (1 :: t))))))) ∧
       Hid (w'.heap[w.heap.size]?=some (.cells #[.string ⟨#[]⟩,.int .i64 0,.slice none 0 0] 221 (0,0))) ∧
       (w'.cell? ⟨w.heap.size,0,none⟩=some (.string ⟨#[]⟩)∧w'.cell? ⟨w.heap.size,1,none⟩=some (.int .i64 0)∧w'.cell? ⟨w.heap.size,2,none⟩=some (.slice none 0 0))∧∀i,w'.frozen? ⟨w.heap.size,i,none⟩=false):=Lib.hid (HLO.out.mono (by
      rintro e w8 ⟨hb8,hh⟩
      have hx:=(hb8.block w.heap.size (by rw [hlen];omega)).trans HBX.out
      have hbb:Below w.heap.size w w8:=HB0.out.trans (hb8.mono (by rw [hlen];omega))
      have q:(w8.cell? ⟨w.heap.size,0,none⟩=some (.string ⟨#[]⟩)∧w8.cell? ⟨w.heap.size,1,none⟩=some (.int .i64 0)∧w8.cell? ⟨w.heap.size,2,none⟩=some (.slice none 0 0))∧∀i,w8.frozen? ⟨w.heap.size,i,none⟩=false:=
       ⟨⟨cell_of_row w8 w.heap.size 0 _ _ _ hx,cell_of_row w8 w.heap.size 1 _ _ _ hx,cell_of_row w8 w.heap.size 2 _ _ _ hx⟩,fun i=>frozen_of_row w8 w.heap.size i _ _ hx⟩
      rcases hh with ⟨h1,rfl⟩ | ⟨h1,v,rfl,ho⟩
      ·exact⟨0,none,0,0,false,rfl,Lib.hid ⟨hbb,.inl ⟨h1,rfl,rfl,rfl,rfl,rfl⟩⟩,Lib.hid hx,q⟩
      ·obtain⟨p,c,rfl,-⟩:=OwnI.cells ho
       rw [hlen] at ho
       exact⟨_,p,_,c,true,rfl,Lib.hid ⟨hbb,.inr ⟨h1,rfl,rfl,ho⟩⟩,Lib.hid hx,q⟩))
    clear HLO
    go_enter Tryz.func160,Tryz.ntmps160
    go_wp2_with (go_at_call 199;with_reducible refine HPC.out.mono ?_;rintro e w8 ⟨k8,p8,n8,c8,b8,rfl,HR8,HX8,⟨k0,k1,k2⟩,kf⟩)
    refine bodyPost_ret (Tb.results_row_tmp rfl _ _ w.heap.size 221 _ (0,0) _ rfl (set3 _ _ _ HX8.out) Tryz.underlying221 rfl sizeRec) rfl ⟨HR8.out.1.trans (below3 (Nat.le_refl w.heap.size) _ _ _),.inr (.inr (.inl ⟨t,rfl,?_⟩))⟩
    rcases HR8.out.2 with ⟨h1,rfl,rfl,rfl,rfl,rfl⟩ | ⟨h1,rfl,rfl,ho⟩
    ·exact .inl ⟨h1,rfl⟩
    ·exact .inr ⟨h1,_,rfl,rec_fill _ _ _ ho (Nat.lt_succ_self _)⟩
   ·have e1:((x:Int) == 1)=false:=by rw [beq_eq_false_iff_ne];omega
    have H2:Hid (2≤x):=Lib.hid (by omega)
    go_enter Tryz.func160,Tryz.ntmps160
    go_wp2_with fail
    exact bodyPost_ret (Tb.results_row_tmp rfl _ _ w.heap.size 221 _ (0,0) _ rfl HBX.out Tryz.underlying221 rfl sizeRec) rfl ⟨HB0.out,.inr (.inr (.inr ⟨x,t,rfl,H2.out,rfl⟩))⟩
end
section
set_option maxRecDepth 20000
open Go.RowKit
def Keep (L:List Nat) (A B:World):Prop:=∀k∈L,B.heap[k]?=A.heap[k]?
theorem Keep.refl (L:List Nat) (A:World):Keep L A A:=fun _ _=>rfl
theorem Keep.trans {L:List Nat} {A B C:World} (h:Keep L A B) (k:Keep L B C):Keep L A C:=fun x hx=>(k x hx).trans (h x hx)
theorem Keep.of_below {L:List Nat} {n:Nat} {A B:World} (h:Below n A B) (hL:∀k∈L,k<n):Keep L A B:=fun x hx=>h.block x (hL x hx)
theorem Keep.put {w:World} {L:List Nat} (hL:∀k∈L,k<w.heap.size) (W:World) (l:Nat) (o o':Obj) (hl:w.heap.size≤l) (h:W.heap[l]?=some o) (h1:o.isCells=false) (h2:o.isWalk=false):Keep L W (W.putObj l o'):=
 Keep.of_below (belowK_b (w:=w) (Nat.le_refl _) W l o o' hl h h1 h2) hL
theorem grown_of_below {A B:World} (h:Below A.heap.size A B):A.grownBy B none:=⟨h.os,h.tape,h.output,h.size,fun k hk _=>h.block k hk⟩
def PgBox (w:World) (g:Nat) (r:Rt):Prop:=∃d lv pt pu po pk mb ch,w.heap[g]?=some (.cells (spA d r lv pt pu po pk mb ch) 101 (0,0))
theorem Spc0.pgBox {w:World} {g d pt pk mb:Nat} {pu po:Option Addr} {s:Sp} (h:Spc0 w g d pt pk mb pu po s):PgBox w g s.g.r:=⟨_,_,_,_,_,_,_,_,h.box⟩
theorem PgBox.same {w w':World} {g:Nat} {r:Rt} (h:PgBox w g r) (hb:w'.heap[g]?=w.heap[g]?):PgBox w' g r:=by
 obtain⟨d,lv,pt,pu,po,pk,mb,ch,h⟩:=h
 exact⟨d,lv,pt,pu,po,pk,mb,ch,hb.trans h⟩
theorem PgBox.lt {w:World} {g:Nat} {r:Rt} (h:PgBox w g r):g<w.heap.size:=by
 obtain⟨d,lv,pt,pu,po,pk,mb,ch,h⟩:=h
 exact lt_of_block h
theorem PgBox.cell {w:World} {g:Nat} {r:Rt} (h:PgBox w g r):w.cell? ⟨g,1,none⟩=some (.int .i64 r.ep)∧w.cell? ⟨g,2,none⟩=some (.int .i64 r.pg)∧w.cell? ⟨g,3,none⟩=some (.int .i64 r.dr)∧w.cell? ⟨g,4,none⟩=some (.int .i64 r.wd):=by
 obtain⟨d,lv,pt,pu,po,pk,mb,ch,h⟩:=h
 exact⟨by rw [cell_of_row _ _ _ _ _ _ h];rfl,by rw [cell_of_row _ _ _ _ _ _ h];rfl,by rw [cell_of_row _ _ _ _ _ _ h];rfl,by rw [cell_of_row _ _ _ _ _ _ h];rfl⟩
theorem root_box {w:World} {g:Nat} {r:Rt} (h:PgBox w g r):Calls Tryz.prog 84 #[.pointer (some ⟨g,0,none⟩)] w fun e w'=>e = .returned r.val∧Below w.heap.size w w':=by
 obtain⟨B1,hB1⟩:∃B1,w.alloc (.cells #[.int .i64 0,.int .i64 0,.int .i64 0,.int .i64 0] 93)=B1:=⟨_,rfl⟩
 have hb:Below w.heap.size w B1:=by rw [←hB1];exact alloc_below _ _
 have HR:Hid (RtAt B1 w.heap.size 93 Rt.none_):=Lib.hid (by rw [←hB1];exact RtAt.new w Rt.none_ 93)
 obtain⟨c1,c2,c3,c4⟩:=(h.same (hb.block g h.lt)).cell
 have k0:=HR.out.c0
 have k1:=HR.out.c1
 have k2:=HR.out.c2
 have k3:=HR.out.c3
 have fz:=HR.out.fz
 have HB:=Lib.hid hb
 have HF:Hid (Below w.heap.size w (set4 B1 w.heap.size r)):=Lib.hid (below_set4 HB.out (Nat.le_refl _) _)
 unfold set4 at HF
 clear h hb HR
 unfold Rt.val
 generalize r.ep=x at *
 generalize r.pg=y at *
 generalize r.dr=z at *
 generalize r.wd=u at *
 go_enter Tryz.func84,Tryz.ntmps84
 go_wp2_with fail
 exact bodyPost_ret (v:=.agg #[.int .i64 x,.int .i64 y,.int .i64 z,.int .i64 u]) (by simp [results,Tryz.results84,go_sem,k0,k1,k2,k3]) rfl ⟨rfl,HF.out⟩
theorem pages_box {w:World} {g:Nat} {r:Rt} (h:PgBox w g r):Calls Tryz.prog 86 #[.pointer (some ⟨g,0,none⟩)] w fun e w'=>e = .returned (.int .i64 r.pg)∧Below w.heap.size w w':=by
 have HR:=Lib.hid (root_box h)
 clear h
 unfold Rt.val at HR
 obtain⟨f0,f1,f2,f3⟩:=field_root r.ep r.pg r.dr r.wd
 go_enter Tryz.func86,Tryz.ntmps86
 go_wp2_with (go_at_call 84;refine HR.out.mono ?_;rintro e w7 ⟨rfl,hb⟩)
 go_ret
 exact⟨rfl,hb⟩
def frB (held:Nat→Bool) (p:Nat):Bool:=decide (2≤p) && !held p
structure FrK (W:World) (B1 B2 g gh bh:Nat) (r:Rt) (held:Nat→Bool):Prop where
 c1:W.cell? ⟨B1,0,none⟩=some (.pointer (some ⟨g,0,none⟩))
 c2:W.cell? ⟨B2,0,none⟩=some (.pointer (some ⟨gh,0,none⟩))
 pb:PgBox W g r
 st:Bi.Sat W gh bh 512 held
theorem FrK.keep {W W':World} {B1 B2 g gh bh:Nat} {r:Rt} {held:Nat→Bool} (h:FrK W B1 B2 g gh bh r held) (hk:Keep [B1,B2,g,gh,bh] W W'):FrK W' B1 B2 g gh bh r held:=
 ⟨(World.cell?_of_block (hk B1 (by simp))).trans h.c1,(World.cell?_of_block (hk B2 (by simp))).trans h.c2,h.pb.same (hk g (by simp)),h.st.same (hk gh (by simp)) (hk bh (by simp))⟩
theorem FrK.lt {W:World} {B1 B2 g gh bh:Nat} {r:Rt} {held:Nat→Bool} (h:FrK W B1 B2 g gh bh r held):∀k∈[B1,B2,g,gh,bh],k<W.heap.size:=by
 intro k hk
 simp only [List.mem_cons,List.not_mem_nil,or_false] at hk
 rcases hk with rfl | rfl | rfl | rfl | rfl
 ·exact World.block_lt_of_cell? W _ h.c1
 ·exact World.block_lt_of_cell? W _ h.c2
 ·exact h.pb.lt
 ·exact h.st.glt
 ·exact h.st.blt
theorem FrK.below {W W':World} {B1 B2 g gh bh:Nat} {r:Rt} {held:Nat→Bool} (h:FrK W B1 B2 g gh bh r held) (hb:Below W.heap.size W W'):FrK W' B1 B2 g gh bh r held:=h.keep (Keep.of_below hb h.lt)
set_option maxRecDepth 100000 in
set_option maxHeartbeats 2000000 in
theorem free1_in (n:Nat) (hn:1≤n) (l B1 B2 g gh bh pg:Nat) (r:Rt) (hr:r.pg=(pg:Int)) (hpg:pg≤512) (held:Nat→Bool) (J Jx:List Nat→World→Prop)
  (hY:∀(pre:List Nat) (x:Nat) W,J pre W→pre.length<513→YieldAt Fence.wide (n - 1) Tryz.prog l #[.int .i64 (x:Int)] W fun e W'=>
    (e = .returned (.bool true)∧J (pre++[x]) W'∧Keep [B1,B2,g,gh,bh] W W')∨(e = .returned (.bool false)∧Jx (pre++[x]) W'))
  (W:World) (hJ:AbidesFrom W.heap.size J) (hK:FrK W B1 B2 g gh bh r held) (h0:J [] W) :
  CallsIn Fence.wide n Tryz.prog 170 #[.func (.yield l) #[] #[],.pointer (some ⟨B1,0,none⟩),.pointer (some ⟨B2,0,none⟩)] W fun e W'=>(∃v,e = .returned v) ∧
   ((∃ys,ys=Tb.mems (frB held) pg∧J ys W')∨(∃pre,True∧Jx pre W')):=by
 have HY:=Lib.hid hY
 have HJ:=Lib.hid hJ
 have HK:=Lib.hid hK
 have HR:=Lib.hid hr
 have HP:=Lib.hid hpg
 clear hY hJ hK hr hpg
 refine callsIn_of_wp Tryz.func170 rfl trivial ?_ rfl
 simp only [Tryz.ntmps170,List.size_toArray,List.length_cons,List.length_nil,Nat.reduceAdd,Nat.reduceSub,Array.replicate_succ,Array.replicate_zero,List.push_toArray,List.append_toArray,List.nil_append,List.cons_append]
 gi_wp2
 gi_loopw [4] (fun i wr=>∃s:Nat,2≤s∧i = .int .i64 (s:Int)∧s≤512∧Hid (J (Tb.mems (frB held) s) wr∧Keep [B1,B2,g,gh,bh] W wr∧True∧(s≤pg∨s=2)))
  (fun i _=>512 - (RowKit.intOf i).toNat)
 case atStart=>exact⟨2,by omega,rfl,by omega,Lib.hid ⟨h0,Keep.refl _ _,trivial,.inr rfl⟩⟩
 case round=>
  obtain⟨s,hs2,rfl,hs5,HS⟩:=hrel
  have HKr:=Lib.hid (HK.out.keep HS.out.2.1)
  have hb1:=HKr.out.c1
  have HPG:=Lib.hid (pages_box HKr.out.pb)
  rw [HR.out] at HPG
  by_cases hlt:s<pg
  ·have hd:decide ((s:Int)<(pg:Int))=true:=decide_eq_true (by omega)
   have hd2:decide (s<pg)=true:=decide_eq_true hlt
   have hz:(s:Int)≤511:=by have:=HP.out;omega
   have HL:=Lib.hid hlt
   have HS2:=Lib.hid hs2
   clear hs2 hs5
   have HPL:Hid (s+1≤pg):=Lib.hid hlt
   have HSP:Hid (s<512):=Lib.hid (by have:=HP.out;omega)
   have HY2:Hid (∀wa wb,Below wr.heap.size wr wa→Below wa.heap.size wa wb→J (Tb.mems (frB held) s) wb∧Keep [B1,B2,g,gh,bh] W wb∧True):=Lib.hid fun wa wb ha hb=>by
    have hab:=Below.more ha hb ha.size
    exact⟨HJ.out _ wr wb none HS.out.1 (grown_of_below hab) (fun r e=>by cases e),HS.out.2.1.trans (Keep.of_below hab HKr.out.lt),trivial⟩
   clear hlt HS
   cases hh:held s with
   | true=>
    have HM:Hid (Tb.mems (frB held) (s+1)=Tb.mems (frB held) s):=Lib.hid (Tb.mems_miss (by unfold frB;rw [hh];simp))
    have HH:Hid (∀wa,Below wr.heap.size wr wa→Calls Tryz.prog 171 #[.pointer (some ⟨gh,0,none⟩),.int .i64 (s:Int)] wa fun e w'=>e = .returned (.bool true)∧Below wa.heap.size wa w'):=Lib.hid fun wa ha=>by
     have h1:=Bi.has_in (HKr.out.below ha).st s HSP.out
     rwa [hh] at h1
    clear hh
    gi_wp2_with (refine⟨trivial,?_⟩;first
     | (gi_at_call 86;refine(callsIn_wide.2 HPG.out).mono ?_;rintro e wa ⟨rfl,hba⟩;have ha2:=(HKr.out.below hba).c2)
     | (gi_at_call 171;refine(callsIn_wide.2 (HH.out wa hba)).mono ?_;rintro e wb ⟨rfl,hbb⟩))
    refine⟨fun _ h=>(by cases h),?_⟩
    gi_wp2
    go_roundw
    case rel=>exact⟨s+1,by have:=HS2.out;omega,by go_num,by have:=HSP.out;omega,by rw [HM.out];exact Lib.hid ⟨(HY2.out wa wb hba hbb).1,(HY2.out wa wb hba hbb).2.1,(HY2.out wa wb hba hbb).2.2,.inl HPL.out⟩⟩
    case measure=>have:=HSP.out;simp [RowKit.intOf];omega
   | false=>
    have HM:Hid (Tb.mems (frB held) s++[s]=Tb.mems (frB held) (s+1)):=Lib.hid (Tb.mems_hit (by unfold frB;rw [hh];simp [HS2.out])).symm
    have HH:Hid (∀wa,Below wr.heap.size wr wa→Calls Tryz.prog 171 #[.pointer (some ⟨gh,0,none⟩),.int .i64 (s:Int)] wa fun e w'=>e = .returned (.bool false)∧Below wa.heap.size wa w'):=Lib.hid fun wa ha=>by
     have h1:=Bi.has_in (HKr.out.below ha).st s HSP.out
     rwa [hh] at h1
    have HYY:Hid (∀wa wb,Below wr.heap.size wr wa→Below wa.heap.size wa wb→YieldAt Fence.wide (n - 1) Tryz.prog l #[.int .i64 (s:Int)] wb fun e W'=>
      (e = .returned (.bool true)∧J (Tb.mems (frB held) (s+1)) W'∧Keep [B1,B2,g,gh,bh] wb W')∨(e = .returned (.bool false)∧Jx (Tb.mems (frB held) (s+1)) W')):=Lib.hid fun wa wb ha hb=>by
     have h1:=HY.out _ s wb (HY2.out wa wb ha hb).1 (by have:=Tb.mems_len (frB held) s;have:=HSP.out;omega)
     rwa [HM.out] at h1
    clear hh
    gi_wp2_with (refine⟨trivial,?_⟩;first
     | (gi_at_call 86;refine(callsIn_wide.2 HPG.out).mono ?_;rintro e wa ⟨rfl,hba⟩;have ha2:=(HKr.out.below hba).c2)
     | (gi_at_call 171;refine(callsIn_wide.2 (HH.out wa hba)).mono ?_;rintro e wb ⟨rfl,hbb⟩;obtain⟨fn,tmps,assign,body,hy,hR⟩:=HYY.out wa wb hba hbb))
    refine hR.mono ?_
    rintro e W3 (⟨rfl,hJ3,hk3⟩ | ⟨rfl,hJx3⟩)
    ·have HK3:Hid (Keep [B1,B2,g,gh,bh] W W3):=Lib.hid ((HY2.out wa wb hba hbb).2.1.trans hk3)
     clear hk3
     gi_wp2
     go_roundw
     case rel=>exact⟨s+1,by have:=HS2.out;omega,by go_num,by have:=HSP.out;omega,Lib.hid ⟨hJ3,HK3.out,trivial,.inl HPL.out⟩⟩
     case measure=>have:=HSP.out;simp [RowKit.intOf];omega
    ·gi_wp2
     refine bodyPost_ret (results_none rfl _ _ _) rfl ?_
     exact⟨⟨_,rfl⟩,.inr ⟨_,trivial,hJx3⟩⟩
  ·have hd:decide ((s:Int)<(pg:Int))=false:=decide_eq_false (by omega)
   have hd2:decide (s<pg)=false:=decide_eq_false hlt
   have HE:Hid (Tb.mems (frB held) pg=Tb.mems (frB held) s):=Lib.hid (by
    rcases HS.out.2.2.2 with h | h
    ·rw [show s=pg by omega]
    ·subst h
     rcases (show pg=0∨pg=1∨pg=2 by omega) with e | e | e <;> subst e <;> rfl)
   clear hlt hs2 hs5
   gi_wp2_with (refine⟨trivial,?_⟩;gi_at_call 86;refine(callsIn_wide.2 HPG.out).mono ?_;rintro e wa ⟨rfl,hba⟩)
   have HJa:Hid (J (Tb.mems (frB held) s) wa):=Lib.hid (HJ.out _ wr wa none HS.out.1 (grown_of_below hba) (fun r e=>by cases e))
   gi_wp2
   go_end0
   exact⟨⟨_,rfl⟩,.inl ⟨_,rfl,by rw [HE.out];exact HJa.out⟩⟩
end
section
set_option maxRecDepth 20000
open Go.RowKit Go.Shelf
attribute [local go_sem] Oper.semAt_some
theorem free_stops (n:Nat) (hn:1≤n) (B1 B2 g gh bh pg:Nat) (r:Rt) (hr:r.pg=(pg:Int)) (hpg:pg≤512) (held:Nat→Bool) (w:World) (hK:FrK w B1 B2 g gh bh r held) :
  SeqStopsK Fence.wide n Tryz.prog 170 #[.pointer (some ⟨B1,0,none⟩),.pointer (some ⟨B2,0,none⟩)] (fun x:Nat=>#[Value.int .i64 (x:Int)]) (Keep [B1,B2,g,gh,bh]) (fun ys=>ys=Tb.mems (frB held) pg) (fun _=>True) 513 w:=fun l J Jx W hW hJ _ hY h0=>
 free1_in n hn l B1 B2 g gh bh pg r hr hpg held J Jx hY W hJ (hK.below hW) h0
section
variable {w:World} {g d pt pk mb:Nat} {pu po:Option Addr} {s:Sp}
structure FrN (W w':World) (B1 B2 g gh bh:Nat) (r:Rt) (held:Nat→Bool):Prop where
 k:FrK w' B1 B2 g gh bh r held
 n:W.heap.size≤B1∧W.heap.size≤B2∧W.heap.size≤gh∧W.heap.size≤bh
set_option maxHeartbeats 800000 in
theorem free_any (h:Spc0 w g d pt pk mb pu po s) :
  Calls Tryz.prog 133 #[.pointer (some ⟨g,0,none⟩)] w fun e w'=>(∃B1 B2 gh bh,e = .returned (.func (.func 170) #[] #[.pointer (some ⟨B1,0,none⟩),.pointer (some ⟨B2,0,none⟩)])∧FrN w w' B1 B2 g gh bh s.g.r (heldS s))∧Below w.heap.size w w':=by
 have HA:Hid (Below w.heap.size w (w.alloc (.cells #[.pointer (some ⟨g,0,none⟩)] 51))):=Lib.hid (alloc_below _ _)
 have k1:(w.alloc (.cells #[.pointer (some ⟨g,0,none⟩)] 51)).cell? ⟨w.heap.size,0,none⟩=some (.pointer (some ⟨g,0,none⟩)):=World.cell?_alloc_new w _ _ 0
 have HX:=Lib.hid (h.below HA.out)
 have HH:=Lib.hid (held_any HX.out)
 clear h
 have HS1:Hid ((w.alloc (.cells #[.pointer (some ⟨g,0,none⟩)] 51)).heap.size=w.heap.size+1):=Lib.hid (by simp)
 have HK1:=Lib.hid k1
 go_enter Tryz.func133,Tryz.ntmps133
 go_wp2_with (go_at_call 169;refine HH.out.mono ?_;rintro e w2 ⟨⟨gh,bh,rfl,ha,hb,hS⟩,hb2⟩;have e1:(w2.alloc (.cells #[.pointer none] 96)).cell? ⟨w2.heap.size,0,none⟩=some (.pointer none):=World.cell?_alloc_new w2 _ _ 0;have e2:(w2.alloc (.cells #[.pointer none] 96)).frozen? ⟨w2.heap.size,0,none⟩=false:=free_of_one (heap_alloc_new w2 _))
 go_ret
 have hsz:=HS1.out
 have hs2:=hb2.size
 have hb3:=alloc_below w2 (.cells #[.pointer (some ⟨gh,0,none⟩)] 96)
 have hbw:Below w.heap.size w w2:=Below.more HA.out hb2 HA.out.size
 refine⟨⟨w.heap.size,w2.heap.size,gh,bh,rfl,⟨⟨?_,World.cell?_alloc_new w2 _ _ 0,(((HX.out.below hb2).below hb3).pgBox),hS.below hb3⟩,by omega,by omega,by omega,by omega⟩⟩,Below.more hbw hb3 hbw.size⟩
 rw [hb3.cell (p:=⟨w.heap.size,0,none⟩) (by show w.heap.size<w2.heap.size;omega),hb2.cell (p:=⟨w.heap.size,0,none⟩) (by show w.heap.size<_;omega)]
 exact HK1.out
structure BxN (w:World) (g:Nat) (v:Int):Prop where
 cell:w.cell? ⟨g,0,none⟩=some (.int .i64 v)
 fz:w.frozen? ⟨g,0,none⟩=false
theorem BxN.own {g:Nat} (v:List Nat→Int):Own (fun (pre:List Nat) W=>BxN W g (v pre)):=fun _ _ _ _ hs hg hr=>
 ⟨cell_kept hs.cell hg hr,(frozen_kept hs.cell hg hr).trans hs.fz⟩
theorem Keep.setCell {L:List Nat} {g i:Nat} (hg:∀k∈L,k≠g) (v:Value) (w:World):Keep L w (w.setCell ⟨g,i,none⟩ v):=fun k hk=>Below.heap_setCell w _ v k (hg k hk)
def freeL (s:Sp):List Nat:=Tb.mems (frB (heldS s)) s.g.r.pg.toNat
set_option maxRecDepth 100000 in
set_option maxHeartbeats 2000000 in
theorem Free_any (h:Spc0 w g d pt pk mb pu po s) (pg:Nat) (hr:s.g.r.pg=(pg:Int)) (hpg:pg≤512) :
  Calls Tryz.prog 83 #[.pointer (some ⟨g,0,none⟩)] w fun e w'=>e = .returned (.int .i64 ((freeL s).length:Int))∧Below w.heap.size w w':=by
 have HT:Hid (∀w1,Below w.heap.size w w1→Calls Tryz.prog 133 #[.pointer (some ⟨g,0,none⟩)] w1 fun e w'=>(∃B1 B2 gh bh,e = .returned (.func (.func 170) #[] #[.pointer (some ⟨B1,0,none⟩),.pointer (some ⟨B2,0,none⟩)])∧FrN w1 w' B1 B2 g gh bh s.g.r (heldS s))∧Below w1.heap.size w1 w'):=Lib.hid fun w1 hb=>free_any (h.below hb)
 have HFN:Hid (Tb.mems (frB (heldS s)) pg=freeL s):=Lib.hid (by unfold freeL;rw [hr,Int.toNat_natCast])
 have HG:=Lib.hid h.lts.1
 clear h
 refine(callsIn_wide (n:=5)).1 ?_
 refine callsIn_of_wp_marks Tryz.func83 rfl trivial ?_ rfl
 simp only [Tryz.ntmps83,List.size_toArray,List.length_cons,List.length_nil,Nat.reduceAdd,Nat.reduceSub,Array.replicate_succ,Array.replicate_zero,List.push_toArray,List.append_toArray,List.nil_append,List.cons_append]
 gi_wp2_with (refine⟨trivial,?_⟩;gi_at_call 133;refine(callsIn_wide.2 (HT.out _ ((Below.refl _ _).alloc (Nat.le_refl _) _))).mono ?_;rintro e w7 ⟨⟨B1,B2,gh,bh,rfl,hTo⟩,hb⟩)
 obtain⟨hF,t1,t2,t3,t4⟩:=hTo
 have hbB:Below w.heap.size w w7:=((Below.refl _ _).alloc (Nat.le_refl _) (.cells #[.int .i64 0] 3)).trans (hb.mono (by simp))
 have hbx:BxN w7 w.heap.size 0:=⟨(hb.cell (p:=⟨w.heap.size,0,none⟩) (by simp)).trans (World.cell?_alloc_new w _ _ 0),(World.frozen?_of_block (hb.block w.heap.size (by simp))).trans (free_of_one (heap_alloc_new w _))⟩
 have hsz:w.heap.size<w7.heap.size:=by have:=hb.size;simp at this;omega
 have hL:∀k∈[B1,B2,g,gh,bh],k≠w.heap.size:=by
  intro k hk
  simp only [List.mem_cons,List.not_mem_nil,or_false] at hk
  have hg:=HG.out
  simp at t1 t2 t3 t4
  rcases hk with rfl | rfl | rfl | rfl | rfl <;> omega
 have HLT:=Lib.hid hF.lt
 refine wpIn_rangeFunc_ownG rfl (by omega) (gf:=170) (lb:=#[.pointer (some ⟨B1,0,none⟩),.pointer (some ⟨B2,0,none⟩)]) rfl trivial (enters_of Tryz.func170 (by kernel_rfl) rfl)
  (free_stops 4 (by omega) B1 B2 g gh bh pg s.g.r hr hpg (heldS s) w7 hF) Keep.trans (Keep.put HLT.out) (Below.refl _ _) (fun _=>rfl)
  (fun pre W=>BxN W w.heap.size (pre.length:Int)∧Below w.heap.size w W)
  (fun _ _ _=>False)
  (OwnFrom.and (Own.from (BxN.own (fun pre=>(pre.length:Int))) _) (ownFrom_below (by omega) (by omega)))
  (fun c=>ownFrom_pure _ _)
  ⟨hbx,hbB⟩
  (fun x=>{ tmps:=#[.pointer (some ⟨g,0,none⟩),undef,.int .i64 0,.pointer (some ⟨w.heap.size,0,none⟩),.pointer (some ⟨g,0,none⟩),.func (.func 170) #[] #[.pointer (some ⟨B1,0,none⟩),.pointer (some ⟨B2,0,none⟩)],.int .i64 (x:Int),undef,undef,undef],defers:=[] }) ?assign ?body ?done ?stop
 case assign=>
  intro l x W K hK
  gi_wp2
  first
   | exact hK
   | (simp;exact hK)
 case body=>
  rintro l pre x W ⟨hbx2,hB2⟩ hlen
  have hc:=hbx2.cell
  have hf:=hbx2.fz
  have hb1:(pre.length:Int)≤512:=by omega
  have hb0:(0:Int)≤(pre.length:Int):=by omega
  have HTS:Hid (((pre++[x]).length:Int)=(pre.length:Int)+1):=Lib.hid (by rw [List.length_append];simp)
  have HB2:=Lib.hid hB2
  clear hbx2 hB2 hlen
  generalize pre.length=tp at *
  gi_wp2
  refine⟨(KeepsOthers.setCell _ _ _).from _,Keep.setCell hL _ _,⟨?_,?_⟩,HB2.out.setCell (p:=⟨w.heap.size,0,none⟩) (Nat.le_refl _) _⟩
  ·rw [HTS.out];exact World.cell?_setCell_same' _ _ _ (by rw [hc];rfl)
  ·rw [World.frozen?_setCell];exact hf
 case done=>
  rintro D ys W hD rfl ⟨hbx2,hB2⟩ hK
  rw [HFN.out] at hbx2
  have hc:=hbx2.cell
  clear hbx2
  have HB2:=Lib.hid (hB2.trans (belowK_b (w:=w) (Nat.le_refl _) W D _ (.deferred none) (by omega) hK rfl rfl))
  have HK:=Lib.hid hK
  clear hB2 hK
  generalize hN:(freeL s).length=N at *
  gi_wp2
  refine⟨by simp,.inl ⟨_,_,rfl,run_takeDeferred HK.out,?_⟩⟩
  refine⟨.int .i64 (N:Int),?_,by rw [hN],HB2.out⟩
  simp [results,Tryz.f83,go_sem]
 case stop=>
  rintro D cd pre W hD _ hf hK
  exact hf.elim
def needS (s:Sp):Nat:=s.fr.keys.length+(movL s).length+1
theorem movL_len (s:Sp):(movL s).length≤4:=Tb.mems_len _ _
theorem need_any (h:Spc0 w g d pt pk mb pu po s) :
  Calls Tryz.prog 82 #[.pointer (some ⟨g,0,none⟩)] w fun e w'=>e = .returned (.int .i64 (needS s:Int))∧Below w.heap.size w w':=by
 have HR:=Lib.hid (refusal_any h)
 have HM:=Lib.hid (moved_any h)
 have c13:=h.c13
 have hLen:=h.map.len
 have h1:=s.fr.keys_le
 have h2:=movL_len s
 have HE:Hid (needS s=s.fr.keys.length+(movL s).length+1):=Lib.hid rfl
 rw [HE.out]
 clear h HE
 go_enter Tryz.func82,Tryz.ntmps82
 go_wp2_with (first | (go_at_call 47;refine HR.out.mono ?_;rintro e w7 ⟨rfl,rfl⟩) | (go_at_call 132;refine HM.out.mono ?_;rintro e w8 ⟨⟨v,rfl,hv⟩,hb8⟩;obtain⟨p,c,rfl,hc⟩:=OwnI.cells hv))
 go_ret
 exact⟨by simp,hb8⟩
end
end
section
set_option maxRecDepth 20000
open Go.RowKit
def settleS (s:Sp):Sp:={ s with kp:=s.g.tb,fr:=fun _=>none,ch:=false }
set_option maxHeartbeats 1600000 in
theorem settle_any {w:World} {g d pt:Nat} {pu po pk0:Option Addr} {mb0:Option Nat} {ch0:Bool} {s:Sp}
  (hbox:w.heap[g]?=some (.cells (spA d s.g.r s.g.lv (some ⟨pt,0,none⟩) pu po pk0 mb0 ch0) 101 (0,0))) (hT:Tb.Tab w pt s.g.tb) (hu:Stp w pu s.g.us) (ho:Stp w po s.od) :
  Calls Tryz.prog 76 #[.pointer (some ⟨g,0,none⟩)] w fun e w'=>e = .returned (.tuple #[])∧(∃pk mb,w.heap.size≤pk∧w.heap.size≤mb∧Spc0 w' g d pt pk mb pu po (settleS s))∧Only g w w':=by
 have hmm:=@run_makeMap Tryz.prog
 have c9:w.cell? ⟨g,9,none⟩=some (.pointer (some ⟨pt,0,none⟩)):=by rw [cell_of_row _ _ _ _ _ _ hbox];rfl
 have HC:=Lib.hid (Tb.copy_any hT)
 have HX:=Lib.hid hbox
 have HT:=Lib.hid hT
 have HU:=Lib.hid hu
 have HO:=Lib.hid ho
 clear hbox hT hu ho
 have HFX:Hid (∀w1,Below w.heap.size w w1→(w1.alloc (.map #[] 0)).heap[g]?=some (.cells (spA d s.g.r s.g.lv (some ⟨pt,0,none⟩) pu po pk0 mb0 ch0) 101 (0,0)) ∧
   (w1.alloc (.map #[] 0)).cell? ⟨g,12,none⟩=some (.pointer pk0)∧(w1.alloc (.map #[] 0)).cell? ⟨g,13,none⟩=some (.map mb0)∧(w1.alloc (.map #[] 0)).cell? ⟨g,14,none⟩=some (.bool ch0)∧∀i,(w1.alloc (.map #[] 0)).frozen? ⟨g,i,none⟩=false):=Lib.hid fun w1 hb1=>by
  have hX2:(w1.alloc (.map #[] 0)).heap[g]?=some (.cells (spA d s.g.r s.g.lv (some ⟨pt,0,none⟩) pu po pk0 mb0 ch0) 101 (0,0)):=((alloc_below w1 (.map #[] 0)).block g (by have:=lt_of_block HX.out;have:=hb1.size;omega)).trans ((hb1.block g (lt_of_block HX.out)).trans HX.out)
  exact⟨hX2,by rw [cell_of_row _ _ _ _ _ _ hX2];rfl,by rw [cell_of_row _ _ _ _ _ _ hX2];rfl,by rw [cell_of_row _ _ _ _ _ _ hX2];rfl,fun i=>frozen_of_row _ g i _ _ hX2⟩
 go_enter Tryz.func76,Tryz.ntmps76
 go_wp2_with (go_at_call 129;refine HC.out.mono ?_;rintro e w1 ⟨rfl,hT1,hb1⟩;obtain⟨hX2,e12,e13,e14,fz⟩:=HFX.out w1 hb1)
 go_end0
 have hlg:=lt_of_block HX.out
 have hs1:=hb1.size
 have hlt1:w.heap.size<w1.heap.size:=hT1.lt
 have hb2:=alloc_below w1 (.map #[] 0)
 have hb12:=Below.more hb1 hb2 hb1.size
 have hM:=Frs.made w1
 have g1:=heap_setCell_same _ g 12 _ _ (.pointer (some ⟨w.heap.size,0,none⟩)) hX2
 have g2:=heap_setCell_same _ g 13 _ _ (.map (some w1.heap.size)) g1
 have g3:=heap_setCell_same _ g 14 _ _ (.bool false) g2
 have hO:Only g (w1.alloc (.map #[] 0)) ((((w1.alloc (.map #[] 0)).setCell ⟨g,12,none⟩ (.pointer (some ⟨w.heap.size,0,none⟩))).setCell ⟨g,13,none⟩ (.map (some w1.heap.size))).setCell ⟨g,14,none⟩ (.bool false)):=
  ((Only.setCell g 12 _ _).trans (Only.setCell g 13 _ _)).trans (Only.setCell g 14 _ _)
 have hk:Kin (w1.alloc (.map #[] 0)) [g]:=fun k hk=>by
  obtain rfl:k=g:=by simpa using hk
  exact .inr ⟨_,_,_,hX2,by simp⟩
 have n1:pt≠g:=fun e=>by have h2:=HT.out.row;unfold Tb.IsT at h2;rw [e,HX.out] at h2;simp at h2
 generalize hW:(((w1.alloc (.map #[] 0)).setCell ⟨g,12,none⟩ (.pointer (some ⟨w.heap.size,0,none⟩))).setCell ⟨g,13,none⟩ (.map (some w1.heap.size))).setCell ⟨g,14,none⟩ (.bool false)=W at *
 refine⟨rfl,⟨w.heap.size,w1.heap.size,Nat.le_refl _,hs1,?_⟩,(Only.of_below hb12).trans hO⟩
 have hTc:Tb.Tab (w1.alloc (.map #[] 0)) w.heap.size s.g.tb:=hT1.below hb2
 exact⟨g3,(HT.out.below hb12).only hO n1,hTc.only hO (by omega),hM.same (hO.block _ (by simp) (by omega)),(HU.out.below hb12).chg2 (Chg.of_only (G:=[g]) hO (by simp)) hk,(HO.out.below hb12).chg2 (Chg.of_only (G:=[g]) hO (by simp)) hk,by have:=HT.out.lt;omega⟩
end
section
set_option maxRecDepth 20000
namespace Bi
open Go.RowKit
set_option maxHeartbeats 800000 in
theorem put_not {w:World} {g b n:Nat} {f:Nat→Bool} (h:Sat w g b n f) (x:Int) (hx:newI n f x=false):Calls Tryz.prog 179 #[.pointer (some ⟨g,0,none⟩),.int .i64 x] w fun e w'=>e = .returned (.bool false)∧Below w.heap.size w w':=by
 have H:=Lib.hid h
 clear h
 by_cases hin:0≤x∧x<(n:Int)
 ·have hd1:decide ((0:Int)≤x)=true:=decide_eq_true hin.1
  have hd2:decide (x<(n:Int))=true:=decide_eq_true hin.2
  have hh:hasI f x=true:=by unfold newI at hx;rw [decide_eq_true hin] at hx;simpa using hx
  go_enter Tryz.func179,Tryz.ntmps179
  go_wp2_with (go_at_call 205;refine(reach_any H.out _).mono ?_;rintro e w7 ⟨rfl,rfl⟩)
  refine(has_any H.out x).mono ?_
  rintro e w7 ⟨rfl,hb7⟩
  rw [hh]
  go_wp2_with fail
  go_ret
  exact⟨rfl,hb7⟩
 ·have hr:(decide (0≤x) && decide (x<(n:Int)))=false:=by
   by_cases h0:0≤x
   ·rw [decide_eq_false (show ¬ x<(n:Int) by omega),Bool.and_false]
   ·rw [decide_eq_false h0,Bool.false_and]
  have HR:=Lib.hid (reach_any H.out x)
  rw [hr] at HR
  go_enter Tryz.func179,Tryz.ntmps179
  go_wp2_with (go_at_call 205;refine(HR.out).mono ?_;rintro e w7 ⟨rfl,rfl⟩)
  go_ret
  exact⟨rfl,Below.refl _ _⟩
theorem put_any {w:World} {g b n:Nat} {f:Nat→Bool} (h:Sat w g b n f) (x:Int):Calls Tryz.prog 179 #[.pointer (some ⟨g,0,none⟩),.int .i64 x] w fun e w'=>e = .returned (.bool (newI n f x))∧Sat w' g b n (putI n f x)∧Only b w w':=by
 cases hx:newI n f x with
 | false=>
  refine(put_not h x hx).mono ?_
  rintro e w' ⟨rfl,hb⟩
  refine⟨rfl,?_,Only.of_below hb⟩
  have e:putI n f x=f:=by
   unfold putI
   by_cases hin:0≤x∧x<(n:Int)
   ·rw [if_pos hin]
    have hh:hasI f x=true:=by unfold newI at hx;rw [decide_eq_true hin] at hx;simpa using hx
    have h2:f x.toNat=true:=by unfold hasI at hh;rw [decide_eq_true hin.1] at hh;simpa using hh
    funext j
    by_cases hj:j=x.toNat
    ·subst hj;rw [upd_same,h2]
    ·rw [upd_other _ _ _ _ hj]
   ·rw [if_neg hin]
  rw [e];exact h.below hb
 | true=>
  unfold newI at hx
  simp only [Bool.and_eq_true,decide_eq_true_eq,Bool.not_eq_true'] at hx
  obtain⟨hin,hh⟩:=hx
  obtain⟨i,rfl⟩:=Int.eq_ofNat_of_zero_le hin.1
  rw [hasI_nat] at hh
  refine(put_new h i (by omega) hh).mono ?_
  rintro e w' ⟨rfl,hs,ho⟩
  refine⟨rfl,?_,ho⟩
  unfold putI
  rw [if_pos hin,Int.toNat_natCast];exact hs
end Bi
end
end Go.Proofs.YtmbecjlioogbhaaGreatDoor
