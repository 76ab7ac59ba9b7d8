/- Texts Put to PMap2 of this seat, laid into one. -/
import Derived.Maps.Keyed
import Derived.Maps.OwnSet
import Derived.Maps.Range
import Derived.Test.YtmbecjlioogbhaaGreatDoorM05
import Derived.Test.YtmbecjlioogbhaaGreatDoorM07
import Derived.Test.YtmbecjlioogbhaaGreatDoorM08
set_option linter.unusedVariables false
set_option linter.unusedSimpArgs false
set_option linter.constructorNameAsVariable false
namespace Go.Proofs.YtmbecjlioogbhaaGreatDoor
section
set_option maxRecDepth 20000
open Go.RowKit
section
variable {w:World} {g bO cO bL cL:Nat} {vW:Value} {os ls:List Value} {ws:List Vw} {m:Dsk}
set_option maxHeartbeats 400000 in
theorem put_far (h:Dk0 w g bO cO bL cL vW os ls ws m) (i:Int) (S:ByteArray) (hE:readE m i≠0) :
  Calls Tryz.prog 183 #[.pointer (some ⟨g,0,none⟩),.int .i64 i,.string S] w fun e w'=>e = .returned (.int .i64 (readE m i))∧w=w':=by
 have HR:=Lib.hid (reach_any h i)
 generalize readE m i=E at *
 have hd:(E != 0)=true:=by simpa using hE
 clear h hE
 go_enter Tryz.func183,Tryz.ntmps183
 go_wp2_with (go_at_call 163;refine HR.out.mono ?_;rintro e w' ⟨rfl,rfl⟩)
 go_ret
 exact⟨rfl,rfl⟩
set_option maxHeartbeats 400000 in
theorem put_short (h:Dk0 w g bO cO bL cL vW os ls ws m) (i:Int) (S:ByteArray) (hE:readE m i=0) (hs:S.size≠128) :
  Calls Tryz.prog 183 #[.pointer (some ⟨g,0,none⟩),.int .i64 i,.string S] w fun e w'=>e = .returned (.int .i64 1)∧w=w':=by
 have hr:=reach_any h i
 rw [hE] at hr
 have HR:=Lib.hid hr
 have hd:((S.size:Int) != 128)=true:=by simp;omega
 clear h hE hr
 go_enter Tryz.func183,Tryz.ntmps183
 go_wp2_with (go_at_call 163;refine HR.out.mono ?_;rintro e w' ⟨rfl,rfl⟩)
 go_ret
 exact⟨rfl,rfl⟩
set_option maxHeartbeats 400000 in
theorem put_burnt (h:Dk0 w g bO cO bL cL vW os ls ws m) (i:Int) (S:ByteArray) (hE:readE m i=0) (hs:S.size=128) (hz:m.fuse=0) (hn:m.done≤4611686018427387904) :
  Calls Tryz.prog 183 #[.pointer (some ⟨g,0,none⟩),.int .i64 i,.string S] w fun e w'=>e = .returned (.int .i64 9)∧Went (foot g bO bL vW) g (burnt m) w w':=by
 have hr:=reach_any h i
 rw [hE] at hr
 have HR:=Lib.hid hr
 have hd:((S.size:Int) != 128)=false:=by simp;omega
 have HBu:=burn_any h hn
 rw [show burnE m=9 from if_pos hz,show burnM m=burnt m from if_pos hz] at HBu
 have HBU:=Lib.hid HBu
 have hs2:S.size≤9223372036854775807:=by omega
 clear h hE hr HBu hz hs
 go_enter Tryz.func183,Tryz.ntmps183
 go_wp2_with fail
 refine HR.out.mono ?_
 rintro e w1 ⟨rfl,rfl⟩
 go_wp2_with fail
 refine HBU.out.mono ?_
 rintro e w1 ⟨rfl,hs⟩
 have HS:=Lib.hid hs
 clear hs
 go_wp2_with fail
 go_ret
 exact⟨rfl,_,HS.out.1.went,HS.out.2⟩
theorem Dk0.below {w':World} (h:Dk0 w g bO cO bL cL vW os ls ws m) (hb:Below w.heap.size w w'):Dk0 w' g bO cO bL cL vW os ls ws m:=
 h.stay (Chg.of_below (F:=[]) hb) (fun k hk=>by cases hk) (fun k _ hk=>by cases hk)
theorem info151:(Tryz.prog.info? 151).map (fun i=>(i.zero,i.size,i.bytes))=some (some (.agg #[.int .i64 0,.slice none 0 0]),2,32):=by kernel_rfl
set_option maxHeartbeats 1600000 in
theorem put_done (h:Dk0 w g bO cO bL cL vW os ls ws m) (k:Nat) (s:List Nat) (hE:readE m (k:Int)=0) (hk:k<m.out.length) (hs:s.length=128) (hd:∀d∈s,d<256) (hz:m.fuse≠0) (hn:m.done≤4611686018427387904) (hl:m.row.length≤1099511627776) :
  Calls Tryz.prog 183 #[.pointer (some ⟨g,0,none⟩),.int .i64 (k:Int),.string (strB s)] w fun e w'=>e = .returned (.int .i64 0)∧Went (foot g bO bL vW) g { burns m with row:=m.row++[(k,s)] } w w':=by
 have hr:=reach_any h (k:Int)
 rw [hE] at hr
 have HR:=Lib.hid hr
 have HBu:=burn_any h hn
 rw [show burnE m=0 from if_neg hz,show burnM m=burns m from if_neg hz] at HBu
 have HBU:=Lib.hid HBu
 have HSB:=Lib.hid (sec_bytes · s · hs hd)
 have hsz:(strB s).size=128:=(strB_size s).trans hs
 have hdd:(((strB s).size:Int) != 128)=false:=by rw [hsz];rfl
 clear h hE hr HBu hz
 obtain⟨n,hnn⟩:∃n,Hid (m.row.length=n):=⟨_,Lib.hid rfl⟩
 rw [hnn.out] at hl
 have hkl:(k:Int)<(m.out.length:Int):=by omega
 have HL:Hid ((burns m).out.length=m.out.length):=Lib.hid rfl
 generalize hSS:strB s=S at *
 have hs2:S.size≤9223372036854775807:=by omega
 have HZ:=Lib.hid hsz
 clear hSS hs hd hsz
 go_enter Tryz.func183,Tryz.ntmps183
 go_wp2_with fail
 refine HR.out.mono ?_
 rintro e w1 ⟨rfl,rfl⟩
 go_wp2_with fail
 refine HBU.out.mono ?_
 rintro e w1 ⟨rfl,hst⟩
 have HS:=Lib.hid hst
 clear hst HBU HR hdd
 have hconv:=run_bytes_of_string (P:=Tryz.prog) w1 9 71 5 S Tryz.underlying9 Tryz.underlying71 Tryz.underlying5
 rw [HZ.out] at hconv
 go_wp2_with fail
 clear hconv
 have hc1:=grownCap_ge w1 128 0 5
 have hc2:=grownCap_le_maxLen w1 128 0 5 (by unfold maxLen;omega)
 generalize grownCap w1 128 0 5=cap at *
 unfold maxLen at hc2
 have HB1:Hid (Below w1.heap.size w1 (w1.alloc (.cells (bytesRow S cap) 5 ((bytesRow S cap).size,(bytesRow S cap).size+1)))):=Lib.hid ((Below.refl _ _).alloc (Nat.le_refl _) _)
 have HS1:=Lib.hid (HSB.out w1 cap hc1 hc2 ((bytesRow S cap).size,(bytesRow S cap).size+1))
 have hh1:(w1.alloc (.cells (bytesRow S cap) 5 ((bytesRow S cap).size,(bytesRow S cap).size+1))).heap.size=w1.heap.size+1:=by simp
 have HH1:=Lib.hid hh1
 clear hh1
 generalize hv1:w1.alloc (.cells (bytesRow S cap) 5 ((bytesRow S cap).size,(bytesRow S cap).size+1))=wb at *
 obtain⟨b,hb⟩:∃b,w1.heap.size=b:=⟨_,rfl⟩
 rw [hb] at HH1 HS1 HB1 ⊢
 have HB2:Hid (Below wb.heap.size wb (wb.alloc (.cells #[.int .i64 (k:Int),.slice (some ⟨b,0,none⟩) 128 cap] 151)).drew):=Lib.hid (((Below.refl _ _).alloc (Nat.le_refl _) _).drew)
 have HN0:Hid ((wb.alloc (.cells #[.int .i64 (k:Int),.slice (some ⟨b,0,none⟩) 128 cap] 151)).drew.cell? ⟨b+1,0,none⟩=some (.int .i64 (k:Int))):=Lib.hid (by
  rw [←HH1.out];exact World.cell?_alloc_new wb _ _ 0)
 have HN1:Hid ((wb.alloc (.cells #[.int .i64 (k:Int),.slice (some ⟨b,0,none⟩) 128 cap] 151)).drew.cell? ⟨b+1,1,none⟩=some (.slice (some ⟨b,0,none⟩) 128 cap)):=Lib.hid (by
  rw [←HH1.out];exact World.cell?_alloc_new wb _ _ 1)
 have HZ2:Hid ((wb.alloc (.cells #[.int .i64 (k:Int),.slice (some ⟨b,0,none⟩) 128 cap] 151)).drew.heap.size=b+2):=Lib.hid (by
  show (wb.alloc _).heap.size=_
  rw [show (wb.alloc (.cells #[.int .i64 (k:Int),.slice (some ⟨b,0,none⟩) 128 cap] 151)).heap.size=wb.heap.size+1 by simp,HH1.out])
 generalize (wb.alloc (.cells #[.int .i64 (k:Int),.slice (some ⟨b,0,none⟩) 128 cap] 151)).drew=w2 at *
 have HSEC:=Lib.hid (HS1.out.below HB2.out)
 have HBB:=Lib.hid (show Below b w1 w2 from HB1.out.trans (HB2.out.mono (by rw [HH1.out];omega)))
 have HD:=Lib.hid (HS.out.1.below (by rw [hb];exact HBB.out))
 obtain⟨q,cq,hvW⟩:=HD.out.wslice n hnn
 rw [hvW] at HD
 have n2:=HD.out.c2
 have n2a:(w2.alloc (.cells #[.int .i64 (k:Int),.slice (some ⟨b,0,none⟩) 128 cap] 151)).cell? ⟨g,2,none⟩=some (.slice q n cq):=(World.cell?_alloc_lt _ _ _ (by have:=HD.out.lt;exact this)).trans n2
 have HOWN:Hid (∀o:Obj,(w2.alloc o).drew.ownsRow 0 151 2 (.slice q n cq) n (flat ws)):=Lib.hid (fun o=>by
  have h1:=HD.out.rw_
  rw [show (burns m).row.length=n from hnn.out] at h1
  exact own_other (w:=w2) h1 (fun k hk=>Below.heap_alloc w2 o k ((h1.lt k hk).2)))
 have HONE:Hid (∀u∈[Value.int .i64 (k:Int),.slice (some ⟨b,0,none⟩) 128 cap],u.oneCell'=true):=Lib.hid (by
  intro u hu
  simp at hu
  rcases hu with rfl | rfl <;> rfl)
 have hgb:g<b:=by rw [←hb];exact HS.out.1.lt
 have hLb:bL<b:=by rw [←hb];obtain⟨cur,hc⟩:=own_head HS.out.1.rl rfl;exact lt_of_block hc
 have HFAR:Hid (∀(o:Obj) (w3:World),(w2.alloc o).drew.grownBy w3 (Value.slice q n cq).ownBlock→(∀i,w3.cell? ⟨g,i,none⟩=w2.cell? ⟨g,i,none⟩)∧w3.frozen? ⟨g,2,none⟩=false∧w3.cell? ⟨b+1,1,none⟩=some (.slice (some ⟨b,0,none⟩) 128 cap) ∧
   w3.cell? ⟨bL,k,none⟩=w2.cell? ⟨bL,k,none⟩∧w3.frozen? ⟨bL,k,none⟩=w2.frozen? ⟨bL,k,none⟩):=Lib.hid (fun o w3 hg=>by
  have h0:∀j,j<w2.heap.size→(Value.slice q n cq).ownBlock≠some j→w3.heap[j]?=w2.heap[j]?:=fun j hj hne=>
   (hg.block j (by show _<(w2.alloc o).heap.size;simp;omega) (fun e=>hne e.symm)).trans (Below.heap_alloc w2 o j hj)
  have hG:=h0 g (by rw [HZ2.out];omega) (fun e=>HD.out.ne_gW g e rfl)
  have hL:=h0 bL (by rw [HZ2.out];omega) (fun e=>HD.out.ne_LW bL e rfl)
  have hB:=h0 (b+1) (by rw [HZ2.out];omega) (fun e=>by
   have h1:=HS.out.1.rw_
   rw [hvW] at h1
   have h2:=(h1.lt _ e).2
   rw [hb] at h2
   omega)
  exact⟨fun i=>World.cell?_of_block hG,(World.frozen?_of_block hG).trans (HD.out.fz 2),(World.cell?_of_block hB).trans HN1.out,World.cell?_of_block hL,World.frozen?_of_block hL⟩)
 obtain⟨i0,hi,hz0,hz1,hz2⟩:=info_parts info151
 have HI:=Lib.hid hi
 have HZ0:=Lib.hid hz0
 have HZ1:=Lib.hid hz1
 have HZ3:=Lib.hid hz2
 have h63:n+1≤maxLen:=by unfold maxLen;omega
 have H63:=Lib.hid h63
 have n0:=HN0.out
 have n1:=HN1.out
 have HNN:Hid ((0:Nat)<1):=Lib.hid (by omega)
 clear hi hz0 hz1 hz2 h63 HSB HN0 HN1 HB1 HB2 HS1
 go_region_law (refine step_append_lies _ rfl (.tmp 32) (.tmp 34) 87 rfl 0 151 i0 (.agg #[.int .i64 0,.slice none 0 0]) 2 32 Tryz.underlying87 HI.out HZ0.out HZ1.out HZ3.out rfl (by decide) (.slice q n cq) n (flat ws) (by rfl) (HOWN.out _) ⟨_,0,none⟩ 1 1 [.int .i64 (k:Int),.slice (some ⟨b,0,none⟩) 128 cap] (by rfl) rfl (World.news_of_block (heap_alloc_new _ _)) HONE.out HNN.out H63.out (by omega) (Nat.zero_le _) _ rfl ?_;intro gN cap2 w3 hown hgrow hat hlt;have hF:=HFAR.out _ _ hgrow;have f2:=hF.2.1;have c2:=(hF.1 2).trans n2)
 all_goals
  go_wp2_with fail
  have hat2:(Value.slice q n cq).ownBlock=some gN∨w2.heap.size≤gN:=hat.imp id (fun e=>by rw [e];show _≤(w2.alloc _).heap.size;simp)
  have HPUT:=Lib.hid (HD.out.put (w3:=w3) (i:=k) (gN:=gN) (cap:=cap2) hk HSEC.out (by rw [show (burns m).row.length=n from hnn.out];exact hown) (by exact hgrow) hat2)
  rw [show (burns m).row.length=n from hnn.out] at HPUT
  have kG:w3.heap[g]?=w2.heap[g]?:=(hgrow.block g (by show _<(w2.alloc _).heap.size;simp;rw [HZ2.out];omega) (fun e=>HD.out.ne_gW g e.symm rfl)).trans (Below.heap_alloc w2 _ g (by rw [HZ2.out];omega))
  have k1:(w3.setCell ⟨g,2,none⟩ (.slice (some ⟨gN,0,none⟩) (n+1) cap2)).cell? ⟨g,1,none⟩=some (.slice (some ⟨bL,0,none⟩) m.out.length cL):=(World.cell?_setCell_other _ _ _ _ (by simp)).trans ((hF.1 1).trans HD.out.c1)
  have kB:(w3.setCell ⟨g,2,none⟩ (.slice (some ⟨gN,0,none⟩) (n+1) cap2)).cell? ⟨b+1,1,none⟩=some (.slice (some ⟨b,0,none⟩) 128 cap):=(World.cell?_setCell_far _ _ _ _ (by show g≠b+1;omega)).trans hF.2.2.1
  have kL:(w3.setCell ⟨g,2,none⟩ (.slice (some ⟨gN,0,none⟩) (n+1) cap2)).cell? ⟨bL,k,none⟩=some (vAt ls k):=(World.cell?_setCell_far _ _ _ _ HD.out.ne_gL).trans (hF.2.2.2.1.trans ((HD.out.rl.cellAt k (show k<m.out.length*1 by omega)).trans (vAt_get (by rw [HD.out.sl.len,last_len];exact hk))))
  have fL:(w3.setCell ⟨g,2,none⟩ (.slice (some ⟨gN,0,none⟩) (n+1) cap2)).frozen? ⟨bL,k,none⟩=false:=(World.frozen?_of_block (heap_setCell_other _ _ _ _ (Ne.symm HD.out.ne_gL))).trans (hF.2.2.2.2.trans (HD.out.rl.frozenAt k))
  have qg:=Ne.symm HD.out.ne_gL
  have qb:bL≠b+1:=by omega
  clear hF hown hgrow hat hat2 c2 f2 kG HFAR HOWN n2 n2a
  generalize w3.setCell ⟨g,2,none⟩ (.slice (some ⟨gN,0,none⟩) (n+1) cap2)=w4 at *
  generalize vAt ls k=old at *
  go_region_held3 (fun w'=>w'.cell? ⟨g,1,none⟩=some (.slice (some ⟨bL,0,none⟩) m.out.length cL)∧w'.cell? ⟨b+1,1,none⟩=some (.slice (some ⟨b,0,none⟩) 128 cap))
   (go_keep) (fail)
  go_wp2_with fail
  go_ret
  have hX:=HPUT.out
  have hS2:=HS.out.2
  rw [hvW] at hS2 ⊢
  exact⟨rfl,_,(hX.1.below (Below.refl _ _).drew).went,(hS2.trans (Chg.of_below (by rw [hb];exact HBB.out))).trans hX.2.drew⟩
end
theorem put_any {w:World} {g:Nat} {F:List Nat} {m:Dsk} (h:Dk w g F m) (i:Int) (s:List Nat) (hd:∀d∈s,d<256) (hn:m.done≤4611686018427387904) (hl:m.row.length≤1099511627776) :
  Calls Tryz.prog 183 #[.pointer (some ⟨g,0,none⟩),.int .i64 i,.string (strB s)] w fun e w'=>e = .returned (.int .i64 (putE m i s))∧Went F g (putM m i s) w w':=by
 obtain⟨bO,cO,bL,cL,vW,os,ls,ws,h,rfl⟩:=h
 by_cases hE:readE m i=0
 ·have hdn:¬ m.down=true:=by
   intro hd
   unfold readE at hE;rw [if_pos hd] at hE;omega
  have hh:¬ m.has i=false:=by
   intro hh
   unfold readE at hE;rw [if_neg hdn,if_pos hh] at hE;omega
  by_cases hs:s.length=128
  ·by_cases hz:m.fuse=0
   ·rw [show putE m i s=9 by unfold putE;rw [if_neg hdn,if_neg hh,if_neg (by simp [hs]),if_pos hz],show putM m i s=burnt m by unfold putM;rw [if_neg hdn,if_neg hh,if_neg (by simp [hs]),if_pos hz]]
    exact put_burnt h i _ hE ((strB_size s).trans hs) hz hn
   ·rw [show putE m i s=0 by unfold putE;rw [if_neg hdn,if_neg hh,if_neg (by simp [hs]),if_neg hz],show putM m i s={ burns m with row:=m.row++[(i.toNat,s)] } by unfold putM;rw [if_neg hdn,if_neg hh,if_neg (by simp [hs]),if_neg hz]]
    have h0:m.has i=true:=by simpa using hh
    unfold Dsk.has at h0
    simp only [Bool.and_eq_true,decide_eq_true_eq] at h0
    obtain⟨k,rfl⟩:=Int.eq_ofNat_of_zero_le h0.1
    exact put_done h k s hE (by omega) hs hd hz hn hl
  ·rw [show putE m i s=1 by unfold putE;rw [if_neg hdn,if_neg hh,if_pos hs],show putM m i s=m by unfold putM;rw [if_neg hdn,if_neg hh,if_pos hs]]
   refine(put_short h i _ hE (by rw [strB_size];exact hs)).mono ?_
   rintro e w' ⟨rfl,rfl⟩
   exact⟨rfl,Went.refl h.went⟩
 ·have hP:putE m i s=readE m i∧putM m i s=m:=by
   unfold putE putM readE
   unfold readE at hE
   by_cases hd:m.down=true
   ·simp [hd]
   ·by_cases hh:m.has i=false
    ·simp [hd,hh]
    ·rw [if_neg hd,if_neg hh] at hE;exact absurd rfl hE
  rw [hP.1,hP.2]
  refine(put_far h i _ hE).mono ?_
  rintro e w' ⟨rfl,rfl⟩
  exact⟨rfl,Went.refl h.went⟩
end
section
set_option maxRecDepth 20000
open Go.RowKit
def zeros128:List Nat:=List.replicate 128 0
structure NH (w wr:World) (g:Nat) (z vO vL:Value) (a b:Nat):Prop where
 below:Below w.heap.size w wr
 high:w.heap.size≤g
 hd:wr.heap[g]?=some (.cells #[vO,vL,.slice none 0 0,.int .i64 (-1),.bool false,.int .i64 0] 89 (0,0))
 ro:wr.ownsRow w.heap.size 71 1 vO a (List.replicate a z)
 rl:wr.ownsRow w.heap.size 71 1 vL b (List.replicate b z)
 ne:∀j,vO.ownBlock=some j→vL.ownBlock≠some j
 sz:Sec wr z zeros128
theorem typed_one {w:World} {base E m n:Nat} {v:Value} {xs:List Value} (h:w.ownsRow base E m v n xs) (hE:E=89∨E=71∨E=151):Typed w v.ownBlock.toList:=fun k hk=>by
 obtain⟨cur,hc⟩:=own_head h (by simpa using hk)
 exact⟨_,_,_,hc,hE⟩
theorem grow_chg {w w3:World} {o:Obj} {v:Value} (hgrow:(w.alloc o).grownBy w3 v.ownBlock):Chg v.ownBlock.toList v.ownBlock.toList w w3:=
 ⟨hgrow.os,hgrow.tape,hgrow.output,Nat.le_trans (by simp) hgrow.size,fun k hk hne=>(hgrow.block k (by simp;omega) (fun e=>hne (by simp [←e]))).trans (Below.heap_alloc w o k hk),fun _ h=>.inl h⟩
theorem NH.out {w wr w3:World} {g gN cap:Nat} {z vO vL:Value} {a b:Nat} (h:NH w wr g z vO vL a b) {o:Obj} (hown:w3.ownsRow w.heap.size 71 1 (.slice (some ⟨gN,0,none⟩) (a+1) cap) (a+1) (List.replicate a z++[z]))
  (hgrow:(wr.alloc o).grownBy w3 vO.ownBlock) (hat:vO.ownBlock=some gN∨wr.heap.size≤gN):NH w (w3.setCell ⟨g,0,none⟩ (.slice (some ⟨gN,0,none⟩) (a+1) cap)) g z (.slice (some ⟨gN,0,none⟩) (a+1) cap) vL (a+1) b:=by
 have hC:=grow_chg hgrow
 have hgO:∀j,vO.ownBlock=some j→g≠j:=fun j e=>by obtain⟨cur,hc⟩:=own_head h.ro e;exact ne_of_ty h.hd hc (by decide)
 have hgL:∀j,vL.ownBlock=some j→g≠j:=fun j e=>by obtain⟨cur,hc⟩:=own_head h.rl e;exact ne_of_ty h.hd hc (by decide)
 have hLO:∀j,vL.ownBlock=some j→vO.ownBlock≠some j:=fun j e e2=>h.ne j e2 e
 have hg3:w3.heap[g]?=wr.heap[g]?:=hC.block g (lt_of_block h.hd) (fun e=>hgO g (by simpa using e) rfl)
 have hgN:g≠gN:=by
  rcases hat with e | e
  ·exact hgO _ e
  ·have:=lt_of_block h.hd;omega
 have hS:=h.sz.chg hC (typed_one h.ro (.inr (.inl rfl)))
 have hT:Typed w3 [g]:=fun k hk=>by obtain rfl:=List.mem_singleton.1 hk;exact⟨_,_,_,hg3.trans h.hd,.inl rfl⟩
 refine⟨?_,h.high,heap_setCell_same w3 g 0 _ _ _ (hg3.trans h.hd),?_,?_,fun j e e2=>?_,hS.chg (Chg.setCell (F:=[g]) (g:=g) (i:=0) (by simp) _ w3) hT⟩
 ·exact(hC.below h.below h.below.size (fun k hk=>(h.ro.lt k (by simpa using hk)).1)).setCell h.high _
 ·rw [List.replicate_succ']
  exact own_other hown (fun j e=>by cases e;exact heap_setCell_other _ _ _ _ (Ne.symm hgN))
 ·exact own_other h.rl (fun j e=>(heap_setCell_other _ _ _ _ (Ne.symm (hgL j e))).trans (hC.block j (h.rl.lt j e).2 (fun e2=>hLO j e (by simpa using e2))))
 ·cases e
  rcases hat with e3 | e3
  ·exact h.ne gN e3 e2
  ·have:=(h.rl.lt _ e2).2;exact absurd (Nat.lt_of_lt_of_le this e3) (Nat.lt_irrefl _)
theorem NH.last {w wr w3:World} {g gN cap:Nat} {z vO vL:Value} {a b:Nat} (h:NH w wr g z vO vL a b) {o:Obj} (hown:w3.ownsRow w.heap.size 71 1 (.slice (some ⟨gN,0,none⟩) (b+1) cap) (b+1) (List.replicate b z++[z]))
  (hgrow:(wr.alloc o).grownBy w3 vL.ownBlock) (hat:vL.ownBlock=some gN∨wr.heap.size≤gN):NH w (w3.setCell ⟨g,1,none⟩ (.slice (some ⟨gN,0,none⟩) (b+1) cap)) g z vO (.slice (some ⟨gN,0,none⟩) (b+1) cap) a (b+1):=by
 have hC:=grow_chg hgrow
 have hgO:∀j,vO.ownBlock=some j→g≠j:=fun j e=>by obtain⟨cur,hc⟩:=own_head h.ro e;exact ne_of_ty h.hd hc (by decide)
 have hgL:∀j,vL.ownBlock=some j→g≠j:=fun j e=>by obtain⟨cur,hc⟩:=own_head h.rl e;exact ne_of_ty h.hd hc (by decide)
 have hg3:w3.heap[g]?=wr.heap[g]?:=hC.block g (lt_of_block h.hd) (fun e=>hgL g (by simpa using e) rfl)
 have hgN:g≠gN:=by
  rcases hat with e | e
  ·exact hgL _ e
  ·have:=lt_of_block h.hd;omega
 have hS:=h.sz.chg hC (typed_one h.rl (.inr (.inl rfl)))
 have hT:Typed w3 [g]:=fun k hk=>by obtain rfl:=List.mem_singleton.1 hk;exact⟨_,_,_,hg3.trans h.hd,.inl rfl⟩
 refine⟨?_,h.high,heap_setCell_same w3 g 1 _ _ _ (hg3.trans h.hd),?_,?_,fun j e e2=>?_,hS.chg (Chg.setCell (F:=[g]) (g:=g) (i:=1) (by simp) _ w3) hT⟩
 ·exact(hC.below h.below h.below.size (fun k hk=>(h.rl.lt k (by simpa using hk)).1)).setCell h.high _
 ·exact own_other h.ro (fun j e=>(heap_setCell_other _ _ _ _ (Ne.symm (hgO j e))).trans (hC.block j (h.ro.lt j e).2 (fun e2=>h.ne j e (by simpa using e2))))
 ·rw [List.replicate_succ']
  exact own_other hown (fun j e=>by cases e;exact heap_setCell_other _ _ _ _ (Ne.symm hgN))
 ·cases e2
  rcases hat with e3 | e3
  ·exact h.ne gN e e3
  ·have:=(h.ro.lt _ e).2;exact absurd (Nat.lt_of_lt_of_le this e3) (Nat.lt_irrefl _)
theorem base0 {w:World} {base E m n:Nat} {v:Value} {xs:List Value} (h:w.ownsRow base E m v n xs):w.ownsRow 0 E m v n xs:=by
 obtain⟨h1,h2⟩:=h
 refine⟨h1,?_⟩
 rcases h2 with h2 | ⟨g,cap,cur,e,hbg,hr⟩
 ·exact .inl h2
 ·exact .inr ⟨g,cap,cur,e,Nat.zero_le _,hr⟩
theorem NH.disk {w wr:World} {g:Nat} {z vO vL:Value} {n:Nat} (h:NH w wr g z vO vL n n) (hn:0<n):∃F,Dk wr g F (newM n)∧(∀k∈F,w.heap.size≤k)∧Below w.heap.size w wr:=by
 obtain⟨bO,cO,rfl,hO,_⟩:=h.ro.form hn
 obtain⟨bL,cL,rfl,hL,_⟩:=h.rl.form hn
 have hlen:(newM n).out.length=n:=List.length_replicate
 have hsec:Secs wr (List.replicate n z) (newM n).out:=⟨by rw [hlen,List.length_replicate],fun i hi=>by
  rw [hlen] at hi
  have e1:vAt (List.replicate n z) i=z:=by unfold vAt;rw [List.getD_eq_getElem?_getD,List.getElem?_replicate,if_pos hi];rfl
  have e2:sec (newM n).out i=zeros128:=by unfold sec newM;rw [List.getD_eq_getElem?_getD,List.getElem?_replicate,if_pos hi];rfl
  rw [e1,e2];exact h.sz⟩
 refine⟨foot g bO bL (.slice none 0 0),⟨bO,cO,bL,cL,_,List.replicate n z,List.replicate n z,[],⟨?_,?_,?_,World.ownsRow_nil _ _ _ _,hsec,hsec,Vws.nil_ _,fun _=>rfl,fun e=>h.ne bO rfl (by rw [e];rfl),Ok.new n⟩,rfl⟩,fun k hk=>?_,h.below⟩
 ·rw [hlen];exact h.hd
 ·rw [hlen];exact base0 h.ro
 ·rw [hlen];exact base0 h.rl
 ·simp [foot,Value.ownBlock] at hk
  rcases hk with rfl | rfl | rfl
  ·exact h.high
  ·exact hO
  ·exact hL
theorem own_form {w:World} {base E m n:Nat} {v:Value} {xs:List Value} (h:w.ownsRow base E m v n xs):∃(q:Option Addr) (c:Nat),v = .slice q n c:=by
 rcases h.2 with ⟨e,h0⟩ | ⟨g,cap,cur,e,_⟩
 ·exact⟨none,0,by rw [e,h0]⟩
 ·exact⟨_,_,e⟩
theorem NH.far {w wr w3:World} {g:Nat} {z vO vL:Value} {a b:Nat} (h:NH w wr g z vO vL a b) {o:Obj} {v:Value} (hv:v=vO∨v=vL) (hgrow:(wr.alloc o).grownBy w3 v.ownBlock):(∀i,w3.cell? ⟨g,i,none⟩=wr.cell? ⟨g,i,none⟩)∧∀i,w3.frozen? ⟨g,i,none⟩=false:=by
 have hgO:∀j,vO.ownBlock=some j→g≠j:=fun j e=>by obtain⟨cur,hc⟩:=own_head h.ro e;exact ne_of_ty h.hd hc (by decide)
 have hgL:∀j,vL.ownBlock=some j→g≠j:=fun j e=>by obtain⟨cur,hc⟩:=own_head h.rl e;exact ne_of_ty h.hd hc (by decide)
 have hG:w3.heap[g]?=wr.heap[g]?:=(grow_chg hgrow).block g (lt_of_block h.hd) (fun e=>by
  rcases hv with rfl | rfl
  ·exact hgO g (by simpa using e) rfl
  ·exact hgL g (by simpa using e) rfl)
 exact⟨fun i=>World.cell?_of_block hG,fun i=>(World.frozen?_of_block hG).trans (frozen_of_row wr g i _ _ h.hd)⟩
theorem zeros_made:(madeCells #[Value.int .u8 0] 128).toList=u8s zeros128:=by
 rw [toList_madeCells_one]
 unfold u8s zeros128
 rw [List.map_replicate];rfl
set_option maxHeartbeats 1600000 in
theorem new_any (n:Nat) (w:World) (h1:1≤n) (h2:n≤2048) :
  Calls Tryz.prog 33 #[.int .i64 (n:Int)] w fun e w'=>∃g F,e = .returned (.tuple #[.pointer (some ⟨g,0,none⟩),.int .i64 0])∧Dk w' g F (newM n)∧(∀k∈F,w.heap.size≤k)∧Below w.heap.size w w':=by
 obtain⟨i0,hi,hz0,hz1,hz2⟩:=info_parts Tryz.info5
 have HI:=Lib.hid hi
 have HZ0:=Lib.hid hz0
 have HZ1:=Lib.hid hz1
 have HZ2:=Lib.hid hz2
 clear hi hz0 hz1 hz2
 obtain⟨j0,hi,hz0,hz1,hz2⟩:=info_parts info71
 have JI:=Lib.hid hi
 have JZ0:=Lib.hid hz0
 have JZ1:=Lib.hid hz1
 have JZ2:=Lib.hid hz2
 clear hi hz0 hz1 hz2
 have hd1:¬ (n:Int)<1:=by omega
 have hd2:¬ (2048:Int)<(n:Int):=by omega
 go_enter Tryz.func33,Tryz.ntmps33
 go_wp2_with (refine wpList_make_full _ rfl _ _ 71 rfl 0 5 i0 (.int .u8 0) 1 Tryz.underlying71 HI.out HZ0.out HZ1.out .i64 .i64 128 128 128 rfl rfl rfl rfl (by rw [HZ2.out];omega) (by unfold maxLen;omega) (Nat.zero_le _) ?_)
 intro w1 hown hgrow
 go_wp2_with fail
 have H0:Hid (NH w (w1.alloc (.cells #[.slice none 0 0,.slice none 0 0,.slice none 0 0,.int .i64 (-1),.bool false,.int .i64 0] 89)) w1.heap.size (.slice (some ⟨w.heap.size,0,none⟩) 128 128) (.slice none 0 0) (.slice none 0 0) 0 0):=Lib.hid (by
  have hb:Below w.heap.size w w1:=(Below.refl _ _).grown hgrow (Nat.le_refl _) (fun k e=>by cases e)
  rw [zeros_made] at hown
  exact⟨hb.alloc hb.size _,hb.size,heap_alloc_new w1 _,World.ownsRow_nil _ _ _ _,World.ownsRow_nil _ _ _ _,fun j e=>(by cases e),(Sec.of_own hown (fun d hd=>by obtain rfl:=(List.mem_replicate.1 hd).2;omega)).below ((Below.refl _ _).alloc (Nat.le_refl _) _)⟩)
 clear hown hgrow
 generalize w1.alloc (.cells #[.slice none 0 0,.slice none 0 0,.slice none 0 0,.int .i64 (-1),.bool false,.int .i64 0] 89)=w2 at *
 generalize w1.heap.size=g at *
 go_loopw [16] (fun iv wr=>∃k:Nat,k≤n∧iv = .int .i64 (k:Int)∧Hid (∃vO vL,NH w wr g (.slice (some ⟨w.heap.size,0,none⟩) 128 128) vO vL k k)) (fun iv _=>n - (RowKit.intOf iv).toNat)
 case atStart=>exact⟨0,by omega,by go_num,Lib.hid ⟨_,_,H0.out⟩⟩
 case round=>
  obtain⟨k,hk,rfl,hr⟩:=hrel
  clear H0
  by_cases hlt:k<n
  ·obtain⟨vO,vL,hN⟩:=hr.out
   have HN:=Lib.hid hN
   clear hr hN
   obtain⟨qO,cO,hvO⟩:=own_form HN.out.ro
   obtain⟨qL,cL,hvL⟩:=own_form HN.out.rl
   rw [hvO,hvL] at HN
   have c0:wr.cell? ⟨g,0,none⟩=some (.slice qO k cO):=by rw [cell_of_row wr g 0 _ _ _ HN.out.hd];rfl
   have c1:wr.cell? ⟨g,1,none⟩=some (.slice qL k cL):=by rw [cell_of_row wr g 1 _ _ _ HN.out.hd];rfl
   have HOWN:Hid (∀o:Obj,(wr.alloc o).ownsRow w.heap.size 71 1 (.slice qO k cO) k (List.replicate k (.slice (some ⟨w.heap.size,0,none⟩) 128 128))):=Lib.hid (fun o=>HN.out.ro.alloc o)
   have HONE:Hid (∀u∈[Value.slice (some ⟨w.heap.size,0,none⟩) 128 128],u.oneCell'=true):=Lib.hid (by
    intro u hu
    obtain rfl:=List.mem_singleton.1 hu
    rfl)
   have HSZ:Hid (w.heap.size≤(wr.alloc (.cells #[.slice (some ⟨w.heap.size,0,none⟩) 128 128] 71)).heap.size):=Lib.hid (by have:=HN.out.below.size;simp;omega)
   have H63:Hid (k+1≤maxLen):=Lib.hid (by unfold maxLen;omega)
   clear hvO hvL
   go_wp2_with (at_builtin;refine wpList_append_lies _ rfl (.tmp 22) (.tmp 24) 86 rfl w.heap.size 71 j0 (.slice none 0 0) 1 24 Tryz.underlying86 JI.out JZ0.out JZ1.out JZ2.out rfl (by decide) (.slice qO k cO) k _ (by rfl) (HOWN.out _) ⟨_,0,none⟩ 1 1 [.slice (some ⟨w.heap.size,0,none⟩) 128 128] (by rfl) rfl (World.news_of_block (heap_alloc_new _ _)) HONE.out (by omega) H63.out (by omega) HSZ.out _ rfl ?_)
   intro gN cap w3 hown hgrow hat _
   have hF:=HN.out.far (v:=.slice qO k cO) (.inl rfl) hgrow
   have d0:=(hF.1 0).trans c0
   have d1:(w3.setCell ⟨g,0,none⟩ (.slice (some ⟨gN,0,none⟩) (k+1) cap)).cell? ⟨g,1,none⟩=some (.slice qL k cL):=(World.cell?_setCell_other _ _ _ _ (by simp)).trans ((hF.1 1).trans c1)
   have e0:=hF.2 0
   have HN2:=Lib.hid (HN.out.out hown hgrow (hat.imp id (fun e=>by rw [e];simp)))
   have HOWN2:Hid (∀o:Obj,((w3.setCell ⟨g,0,none⟩ (.slice (some ⟨gN,0,none⟩) (k+1) cap)).alloc o).ownsRow w.heap.size 71 1 (.slice qL k cL) k (List.replicate k (.slice (some ⟨w.heap.size,0,none⟩) 128 128))):=Lib.hid (fun o=>HN2.out.rl.alloc o)
   have HSZ2:Hid (w.heap.size≤((w3.setCell ⟨g,0,none⟩ (.slice (some ⟨gN,0,none⟩) (k+1) cap)).alloc (.cells #[.slice (some ⟨w.heap.size,0,none⟩) 128 128] 71)).heap.size):=Lib.hid (by have:=HN2.out.below.size;simp at this ⊢;omega)
   have HNEW:Hid (∀j u,[Value.slice (some ⟨w.heap.size,0,none⟩) 128 128][j]?=some u→((w3.setCell ⟨g,0,none⟩ (.slice (some ⟨gN,0,none⟩) (k+1) cap)).alloc (.cells #[.slice (some ⟨w.heap.size,0,none⟩) 128 128] 71)).cell? ((⟨w3.heap.size,0,none⟩:Addr).add j)=some u):=Lib.hid (by
    have h:=World.news_of_block (heap_alloc_new (w3.setCell ⟨g,0,none⟩ (.slice (some ⟨gN,0,none⟩) (k+1) cap)) (.cells #[.slice (some ⟨w.heap.size,0,none⟩) 128 128] 71))
    rw [show (w3.setCell ⟨g,0,none⟩ (.slice (some ⟨gN,0,none⟩) (k+1) cap)).heap.size=w3.heap.size by simp] at h
    exact h)
   clear hF hown hgrow hat HOWN HSZ HN c0 c1
   go_wp2_with (at_builtin;refine wpList_append_lies _ rfl (.tmp 32) (.tmp 34) 86 rfl w.heap.size 71 j0 (.slice none 0 0) 1 24 Tryz.underlying86 JI.out JZ0.out JZ1.out JZ2.out rfl (by decide) (.slice qL k cL) k _ (by rfl) (HOWN2.out _) ⟨_,0,none⟩ 1 1 [.slice (some ⟨w.heap.size,0,none⟩) 128 128] (by rfl) rfl HNEW.out HONE.out (by omega) H63.out (by omega) HSZ2.out _ rfl ?_)
   intro gM cap2 w5 hown hgrow hat _
   have hF:=HN2.out.far (v:=.slice qL k cL) (.inr rfl) hgrow
   have d5:=(hF.1 1).trans d1
   have e5:=hF.2 1
   have HN3:=Lib.hid (HN2.out.last hown hgrow (hat.imp id (fun e=>by rw [e];simp)))
   clear hF hown hgrow hat HOWN2 HSZ2 HN2 d0 d1 e0
   go_wp2_with fail
   go_roundw
   case rel=>exact⟨k+1,by omega,by go_num,Lib.hid ⟨_,_,HN3.out⟩⟩
   case measure=>simp [RowKit.intOf];omega
  ·obtain rfl:k=n:=by omega
   go_wp2_with fail
   go_ret2
   obtain⟨vO,vL,hN⟩:=hr.out
   obtain⟨F,h3,h4,h5⟩:=hN.disk (by omega)
   exact⟨_,F,rfl,h3,h4,h5⟩
end
section
set_option maxRecDepth 20000
open Go.RowKit
theorem Dk.sectors {w:World} {g:Nat} {F:List Nat} {m:Dsk} (h:Dk w g F m) (n:Nat) (hn:m.out.length=n):Calls Tryz.prog 126 #[.pointer (some ⟨g,0,none⟩)] w fun e w'=>e = .returned (.int .i64 (n:Int))∧w=w':=by
 obtain⟨bO,cO,bL,cL,vW,os,ls,ws,h,rfl⟩:=h
 exact sectors_any h n (Lib.hid hn)
theorem Dk.read {w:World} {g:Nat} {F:List Nat} {m:Dsk} (h:Dk w g F m) (i:Int):Calls Tryz.prog 127 #[.pointer (some ⟨g,0,none⟩),.int .i64 i] w fun e w'=>e = .returned (.tuple #[.string (strB (readS m i)),.int .i64 (readE m i)])∧w=w':=by
 obtain⟨bO,cO,bL,cL,vW,os,ls,ws,h,rfl⟩:=h
 exact read_any h i
theorem readS_dig {m:Dsk} (h:Ok m) (i:Int):∀x∈readS m i,x<256:=by
 unfold readS
 split
 ·intro x hx;cases hx
 ·split
  ·intro x hx;cases hx
  ·rename_i h1 h2
   have h3:m.has i=true:=by simpa using h2
   unfold Dsk.has at h3
   simp only [Bool.and_eq_true,decide_eq_true_eq] at h3
   exact(h.last _ (sec_mem (by rw [last_len];omega))).2
def ldE (m:Dsk):Int:=if m.out.length<16 then 1 else if m.down then 9 else nwE (readS m 0) (readS m 4)
def ldA (m:Dsk):Rt:=if m.out.length<16 then Rt.none_ else if m.down then Rt.none_ else nwA (readS m 0) (readS m 4)
def ldB (m:Dsk):Rt:=if m.out.length<16 then Rt.none_ else if m.down then Rt.none_ else nwB (readS m 0) (readS m 4)
theorem results_zero (w:World) (t:Nat):RtAt ((w.alloc (.cells #[.int .i64 0,.int .i64 0,.int .i64 0,.int .i64 0] t)).alloc (.cells #[.int .i64 0,.int .i64 0,.int .i64 0,.int .i64 0] t)) w.heap.size t Rt.none_ ∧
  RtAt ((w.alloc (.cells #[.int .i64 0,.int .i64 0,.int .i64 0,.int .i64 0] t)).alloc (.cells #[.int .i64 0,.int .i64 0,.int .i64 0,.int .i64 0] t)) (w.heap.size+1) t Rt.none_ ∧
  Below w.heap.size w ((w.alloc (.cells #[.int .i64 0,.int .i64 0,.int .i64 0,.int .i64 0] t)).alloc (.cells #[.int .i64 0,.int .i64 0,.int .i64 0,.int .i64 0] t)):=
 ⟨heap_alloc2_old w _ _,heap_alloc2_new w _ _,((Below.refl _ _).alloc (Nat.le_refl _) _).alloc (by simp) _⟩
set_option maxHeartbeats 1600000 in
theorem load_any {w:World} {g:Nat} {F:List Nat} {m:Dsk} (h:Dk w g F m) :
  Calls Tryz.prog 72 #[.pointer (some ⟨g,0,none⟩)] w fun e w'=>e = .returned (.tuple #[(ldA m).val,(ldB m).val,.int .i64 (ldE m)])∧Below w.heap.size w w':=by
 have HZ:=Lib.hid (results_zero w 93)
 have HD:=Lib.hid (h.below (w':=((w.alloc (.cells #[.int .i64 0,.int .i64 0,.int .i64 0,.int .i64 0] 93)).alloc (.cells #[.int .i64 0,.int .i64 0,.int .i64 0,.int .i64 0] 93))) HZ.out.2.2)
 have HOK:=Lib.hid h.ok
 clear h
 by_cases hs:m.out.length<16
 ·have hE:ldE m=1:=by unfold ldE;rw [if_pos hs]
  have hA:ldA m=Rt.none_:=by unfold ldA;rw [if_pos hs]
  have hB:ldB m=Rt.none_:=by unfold ldB;rw [if_pos hs]
  rw [hE,hA,hB]
  obtain⟨n,hn⟩:∃n,m.out.length=n:=⟨_,rfl⟩
  have HSE:=Lib.hid (HD.out.sectors n hn)
  rw [hn] at hs
  have hs2:(n:Int)<16:=by omega
  clear hE hA hB hs
  unfold Rt.val Rt.none_
  go_enter Tryz.func72,Tryz.ntmps72
  go_wp2_with (go_at_call 126;refine HSE.out.mono ?_;rintro e w' ⟨rfl,rfl⟩)
  exact bodyPost_ret (v:=.tuple #[.agg #[.int .i64 0,.int .i64 0,.int .i64 0,.int .i64 0],.agg #[.int .i64 0,.int .i64 0,.int .i64 0,.int .i64 0],.int .i64 1]) (by simp [results,Tryz.results72,go_sem]) rfl ⟨rfl,HZ.out.2.2⟩
 ·obtain⟨n,hn⟩:∃n,m.out.length=n:=⟨_,rfl⟩
  have HSE:=Lib.hid (HD.out.sectors n hn)
  have HR0:=Lib.hid (HD.out.read 0)
  have HR4:=Lib.hid (HD.out.read 4)
  have hs2:decide ((n:Int)<16)=false:=decide_eq_false (by omega)
  by_cases hd:m.down=true
  ·have hE:ldE m=9:=by unfold ldE;rw [if_neg hs,if_pos hd]
   have hA:ldA m=Rt.none_:=by unfold ldA;rw [if_neg hs,if_pos hd]
   have hB:ldB m=Rt.none_:=by unfold ldB;rw [if_neg hs,if_pos hd]
   rw [hE,hA,hB]
   rw [show readE m 0=9 by unfold readE;rw [if_pos hd]] at HR0
   clear hE hA hB hs HR4 hd hn
   unfold Rt.val Rt.none_
   go_enter Tryz.func72,Tryz.ntmps72
   go_wp2_with (first | (go_at_call 126;refine HSE.out.mono ?_;rintro e w' ⟨rfl,rfl⟩) | (go_at_call 127;refine HR0.out.mono ?_;rintro e w' ⟨rfl,rfl⟩))
   exact bodyPost_ret (v:=.tuple #[.agg #[.int .i64 0,.int .i64 0,.int .i64 0,.int .i64 0],.agg #[.int .i64 0,.int .i64 0,.int .i64 0,.int .i64 0],.int .i64 9]) (by simp [results,Tryz.results72,go_sem]) rfl ⟨rfl,HZ.out.2.2⟩
  ·have hE:ldE m=nwE (readS m 0) (readS m 4):=by unfold ldE;rw [if_neg hs,if_neg hd]
   have hA:ldA m=nwA (readS m 0) (readS m 4):=by unfold ldA;rw [if_neg hs,if_neg hd]
   have hB:ldB m=nwB (readS m 0) (readS m 4):=by unfold ldB;rw [if_neg hs,if_neg hd]
   rw [hE,hA,hB]
   have h0:m.has 0=true:=has_true (by omega) (by omega)
   have h4:m.has 4=true:=has_true (by omega) (by omega)
   rw [show readE m 0=0 by unfold readE;rw [if_neg hd,if_neg (by simp [h0])]] at HR0
   rw [show readE m 4=0 by unfold readE;rw [if_neg hd,if_neg (by simp [h4])]] at HR4
   have HNW:=Lib.hid (fun w=>newest_any (strB (readS m 0)) (strB (readS m 4)) w _ _ (IsS.mk_ _ (readS_dig HOK.out 0)) (IsS.mk_ _ (readS_dig HOK.out 4)))
   generalize nwE (readS m 0) (readS m 4)=E at *
   generalize nwA (readS m 0) (readS m 4)=x at *
   generalize nwB (readS m 0) (readS m 4)=y at *
   obtain⟨A,hA2⟩:∃A,strB (readS m 0)=A:=⟨_,rfl⟩
   obtain⟨B,hB2⟩:∃B,strB (readS m 4)=B:=⟨_,rfl⟩
   rw [hA2] at HR0 HNW
   rw [hB2] at HR4 HNW
   clear hE hA hB hs hd hn hA2 hB2 h0 h4 HOK
   unfold Rt.val at *
   go_enter Tryz.func72,Tryz.ntmps72
   go_upto_region 3 with (go_at_call 126;refine HSE.out.mono ?_;rintro e w' ⟨rfl,rfl⟩)
   have HZ1:=Lib.hid HZ.out.1
   have HZ2:=Lib.hid HZ.out.2.1
   have HZ3:=Lib.hid HZ.out.2.2
   clear HZ HD HSE
   generalize ((w.alloc (.cells #[.int .i64 0,.int .i64 0,.int .i64 0,.int .i64 0] 93)).alloc (.cells #[.int .i64 0,.int .i64 0,.int .i64 0,.int .i64 0] 93))=w1 at *
   go_wp2_with fail
   refine HR0.out.mono ?_
   rintro e w' ⟨rfl,rfl⟩
   go_wp2_with fail
   refine HR4.out.mono ?_
   rintro e w' ⟨rfl,rfl⟩
   go_wp2_with fail
   refine(HNW.out _).mono ?_
   rintro e w2 ⟨rfl,hb⟩
   have HX:=Lib.hid (HZ1.out.below hb)
   have HY:=Lib.hid (HZ2.out.below hb)
   have HB2:=Lib.hid (Below.more HZ3.out hb HZ3.out.size)
   clear hb HZ1 HZ2 HZ3 HR0 HR4 HNW
   have k40:=HX.out.c0
   have k41:=HX.out.c1
   have k42:=HX.out.c2
   have k43:=HX.out.c3
   have k50:=HY.out.c0
   have k51:=HY.out.c1
   have k52:=HY.out.c2
   have k53:=HY.out.c3
   have f4:=HX.out.fz
   have f5:=HY.out.fz
   have HF:Hid (Below w.heap.size w (set4 (set4 w2 w.heap.size x) (w.heap.size+1) y)):=Lib.hid (below_set4 (below_set4 HB2.out (Nat.le_refl _) _) (Nat.le_succ _) _)
   unfold set4 at HF
   clear HX HY HB2
   go_wp2_with fail
   exact bodyPost_ret (v:=.tuple #[.agg #[.int .i64 x.ep,.int .i64 x.pg,.int .i64 x.dr,.int .i64 x.wd],.agg #[.int .i64 y.ep,.int .i64 y.pg,.int .i64 y.dr,.int .i64 y.wd],.int .i64 E]) (by simp [results,Tryz.results72,go_sem,k40,k41,k42,k43,k50,k51,k52,k53]) rfl ⟨rfl,HF.out⟩
end
section
set_option maxRecDepth 20000
open Go.RowKit
theorem Went.after {F:List Nat} {g:Nat} {m:Dsk} {w w1 w':World} (hb:Below w.heap.size w w1) (h:Went F g m w1 w'):Went F g m w w':=by
 obtain⟨F',hD,hC⟩:=h
 exact⟨F',hD,(Chg.of_below hb).trans hC⟩
section
variable (r:Rt) (w:World)
set_option maxHeartbeats 1600000 in
theorem store_put {g:Nat} {F:List Nat} {m:Dsk} (h:Dk w g F m) (hm:Mays r) (hl:r.pg*4≤(m.out.length:Int)) (hdn:m.done≤4611686018427387904) (hrl:m.row.length≤1099511627776) :
  Calls Tryz.prog 146 #[.pointer (some ⟨g,0,none⟩),r.val] w fun e w'=>e = .returned (.int .i64 (putE m (place r.ep) (block r)))∧Went F g (putM m (place r.ep) (block r)) w w':=by
 have HEN:=Lib.hid (fun w=>encode_yes r w hm)
 have HR0:=Lib.hid (RtAt.new w r 93)
 have HB0:=Lib.hid (alloc_below w (.cells #[.int .i64 r.ep,.int .i64 r.pg,.int .i64 r.dr,.int .i64 r.wd] 93))
 have p0:=hm.p0
 have p1:=hm.p1
 obtain⟨n,hn⟩:∃n,m.out.length=n:=⟨_,rfl⟩
 rw [hn] at hl
 have hl2:decide ((n:Int)<r.pg*4)=false:=decide_eq_false (by omega)
 have HD:=Lib.hid h
 have HNN:=Lib.hid hn
 have HPL:=Lib.hid (fun w=>place_any r.ep w)
 have HPUT:=Lib.hid (fun (w:World) (h:Dk w g F m)=>put_any h (place r.ep) (block r) (block_dig r) hdn hrl)
 generalize putE m (place r.ep) (block r)=E at *
 generalize putM m (place r.ep) (block r)=m2 at *
 generalize place r.ep=P at *
 obtain⟨BS,hBS⟩:∃BS,strB (block r)=BS:=⟨_,rfl⟩
 rw [hBS] at HPUT HEN
 clear hm h hn hBS hdn hrl
 unfold Rt.val at *
 go_enter Tryz.func146,Tryz.ntmps146
 go_wp2_with fail
 refine(HEN.out _).mono ?_
 rintro e w2 ⟨rfl,hb⟩
 have HR2:=Lib.hid (HR0.out.below hb)
 have HB2:=Lib.hid (Below.more HB0.out hb HB0.out.size)
 clear hb HEN HR0 HB0
 have HD2:=Lib.hid (HD.out.below HB2.out)
 clear HD
 go_upto_region 4 with fail
 have r1:=HR2.out.c1
 go_quiet ((go_at_call 126;exact Calls.quiet_of_same (((HD2.out.below (below_drewN (Below.refl _ _) _)).sectors n HNN.out).mono fun _ _ h=>⟨h.1,h.2.symm⟩)))
 have hbq:Below w2.heap.size w2 (w2.drewN nq):=below_drewN (Below.refl _ _) nq
 have HB3:=Lib.hid (Below.more HB2.out hbq HB2.out.size)
 have HR3:=Lib.hid (HR2.out.below hbq)
 have HD3:=Lib.hid (HD2.out.below hbq)
 clear hbq HB2 HR2 HD2 r1
 generalize w2.drewN nq=w3 at *
 have r0:=HR3.out.c0
 go_wp2_with (first
  | (go_at_call 187;refine(HPL.out _).mono ?_;rintro e w7 ⟨rfl,rfl⟩)
  | (go_at_call 183;refine(HPUT.out _ HD3.out).mono ?_;rintro e w7 ⟨rfl,hw⟩;have HW:=Lib.hid hw;clear hw))
 go_ret
 exact⟨rfl,Went.after HB3.out HW.out⟩
end
end
section
set_option maxRecDepth 20000
open Go.RowKit Go.Maps Go.MapKept
open Go.WideElems (rd rg pl rd_key rd_val rg_of rd_mk)
open Go.ChangeMaps (notKey putKey delKey setBlock)
def contR (v:Value):Option (DataW Unit × List MemPlace):=
 match v with
 | .agg cs=>(match cs.toList with | [.string s]=>some (.lit (.string s.data.toList),[]) | _=>none)
 | _=>none
theorem contR_mk (S:ByteArray):contR (.agg #[.string S])=some (.lit (.string S.data.toList),[]):=rfl
theorem keyedI:Keyed Tryz.prog 3:=int_keyed Tryz.underlying3
theorem keyI {x:Int} (h0:-9223372036854775808≤x) (h1:x≤9223372036854775807):keyOf Tryz.prog 3 (.int .i64 x)=some (.int .i64 x):=
 keyOf_int_mk Tryz.underlying3 (by simp [Lit.wf,IntKind.min,IntKind.max,IntKind.signed,IntKind.bits];omega)
abbrev Pgs:=Nat→Option (List Nat)
def Pgs.at_ (f:Pgs) (x:Int):Option (List Nat):=if 0≤x then f x.toNat else none
def Pgs.put (f:Pgs) (l:Nat) (s:List Nat):Pgs:=fun j=>if j=l then some s else f j
theorem Pgs.put_same (f:Pgs) (l:Nat) (s:List Nat):f.put l s l=some s:=if_pos rfl
theorem Pgs.put_other (f:Pgs) (l j:Nat) (s:List Nat) (h:j≠l):f.put l s j=f j:=if_neg h
structure Frm (w:World) (b:Nat) (es:Array MapEntry) (clock:Nat) (f:Pgs):Prop where
 hb:w.heap[b]?=some (.map es clock)
 fit:WideElems.Fit Tryz.prog 3 contR es clock
 only:∀x∈es.toList,∃(l:Nat) (s:List Nat),l<512∧x.key = .int .i64 (l:Int)∧x.val = .agg #[.string (strB s)]∧f l=some s
 all:∀(l:Nat) (s:List Nat),f l=some s→l<512∧∃x∈es.toList,x.key = .int .i64 (l:Int)
def Frs (w:World) (b:Nat) (f:Pgs):Prop:=∃es clock,Frm w b es clock f
section
variable {w w':World} {b:Nat} {f:Pgs}
theorem Frs.lt (h:Frs w b f):b<w.heap.size:=by
 obtain⟨es,clock,h⟩:=h
 exact(Array.getElem?_eq_some_iff.1 h.hb).1
theorem Frs.same (h:Frs w b f) (hb:w'.heap[b]?=w.heap[b]?):Frs w' b f:=by
 obtain⟨es,clock,h⟩:=h
 exact⟨es,clock,hb.trans h.hb,h.fit,h.only,h.all⟩
theorem Frs.below (h:Frs w b f) (hb:Below w.heap.size w w'):Frs w' b f:=h.same (hb.block b h.lt)
theorem Frs.isMap (h:Frs w b f):∃es c,w.heap[b]?=some (.map es c):=by
 obtain⟨es,clock,h⟩:=h
 exact⟨es,clock,h.hb⟩
theorem Frs.high (h:Frs w b f) {l:Nat} {s:List Nat} (hl:f l=some s):l<512:=by
 obtain⟨es,clock,h⟩:=h
 exact(h.all l s hl).1
theorem Frs.made (w:World):Frs (w.alloc (.map #[] 0)) w.heap.size (fun _=>none):=
 ⟨#[],0,(MapKept.heap_alloc w _).1,⟨by simp,stamped_empty 0,by simp⟩,by simp,fun l s h=>by cases h⟩
theorem Frs.look (h:Frs w b f) (x:Int) (h0:-9223372036854775808≤x) (h1:x≤9223372036854775807) :
  (Instr.lookup 99 (.map (some b)) (.int .i64 x) true).run Tryz.prog w = .ok (.tuple #[.agg #[.string (strB ((f.at_ x).getD []))],.bool (f.at_ x).isSome]) w:=by
 obtain⟨es,clock,h⟩:=h
 have hz:(zeroValue 134).run Tryz.prog w = .ok (.agg #[.string (strB [])]) w:=by rw [Tryz.zeroValue134];rfl
 rcases fit_look true keyedI Tryz.underlying99 hz h.hb h.fit (keyI h0 h1) with ⟨hrun,hno,_⟩ | ⟨e0,y,he,hk,hrun,_⟩
 ·have hn:f.at_ x=none:=by
   unfold Pgs.at_
   split
   ·rename_i hx
    cases hf:f x.toNat with
    | none=>rfl
    | some s=>
     obtain⟨_,e,he,hk⟩:=h.all _ s hf
     exact absurd (by rw [hk,Int.toNat_of_nonneg hx]) (hno e he)
   ·rfl
  rw [hn];exact hrun
 ·obtain⟨l,s,hl,hk2,hv,hf⟩:=h.only e0 he
  rw [hk] at hk2
  have hx:x=(l:Int):=by injection hk2
  have ha:f.at_ x=some s:=by unfold Pgs.at_;rw [if_pos (by omega),hx,Int.toNat_natCast,hf]
  rw [ha,hrun,hv];rfl
theorem Frs.look1 (h:Frs w b f) (l:Nat) (s:List Nat) (hl:f l=some s) :
  (Instr.lookup 99 (.map (some b)) (.int .i64 (l:Int)) false).run Tryz.prog w = .ok (.agg #[.string (strB s)]) w:=by
 have hlt:=h.high hl
 obtain⟨es,clock,h⟩:=h
 have hz:(zeroValue 134).run Tryz.prog w = .ok (.agg #[.string (strB [])]) w:=by rw [Tryz.zeroValue134];rfl
 rcases fit_look false keyedI Tryz.underlying99 hz h.hb h.fit (keyI (x:=(l:Int)) (by omega) (by omega)) with ⟨hrun,hno,_⟩ | ⟨e0,y,he,hk,hrun,_⟩
 ·obtain⟨_,e,he,hk⟩:=h.all _ s hl
  exact absurd hk (hno e he)
 ·obtain⟨l2,s2,_,hk2,hv,hf⟩:=h.only e0 he
  rw [hk] at hk2
  have hx:(l:Int)=(l2:Int):=by injection hk2
  have hx2:l=l2:=by omega
  subst hx2
  rw [hl] at hf
  cases hf
  rw [hrun,hv];rfl
end
end
section
set_option maxRecDepth 20000
open Go.RowKit Go.Maps Go.MapKept
open Go.WideElems (rd rg pl rd_key rd_val rg_of rd_mk)
open Go.ChangeMaps (notKey putKey delKey setBlock heap_setBlock_same heap_setBlock_other mem_insert_iff)
open Go.WideShapes (sorted_perm)
theorem Frm.nodup {w:World} {b:Nat} {es:Array MapEntry} {clock:Nat} {f:Pgs} (h:Frm w b es clock f):es.toList.Pairwise (fun x y=>x.key≠y.key):=((stamped_iff es clock).1 h.fit.stamped).2.2
def keyN (x:MapEntry):Nat:=match x.key with | .int _ a=>a.toNat | _=>0
theorem Frm.keyN {w:World} {b:Nat} {es:Array MapEntry} {clock:Nat} {f:Pgs} (h:Frm w b es clock f) {x:MapEntry} (hx:x∈es.toList):x.key = .int .i64 ((Go.Proofs.YtmbecjlioogbhaaGreatDoor.keyN x:Nat):Int):=by
 obtain⟨l,s,_,hk,_⟩:=h.only x hx
 unfold Go.Proofs.YtmbecjlioogbhaaGreatDoor.keyN
 rw [hk];simp
def Pgs.keys (f:Pgs):List Nat:=(List.range 512).filter fun l=>(f l).isSome
theorem Pgs.mem_keys {f:Pgs} {l:Nat}:l∈f.keys↔l<512∧(f l).isSome=true:=by
 unfold Pgs.keys;rw [List.mem_filter,List.mem_range]
theorem Frm.perm {w:World} {b:Nat} {es:Array MapEntry} {clock:Nat} {f:Pgs} (h:Frm w b es clock f):(es.toList.map Go.Proofs.YtmbecjlioogbhaaGreatDoor.keyN).Perm f.keys:=by
 have n1:(es.toList.map Go.Proofs.YtmbecjlioogbhaaGreatDoor.keyN).Nodup:=by
  unfold List.Nodup
  rw [List.pairwise_map]
  exact h.nodup.imp_of_mem fun {a b} ha hb hab e=>hab (by rw [h.keyN ha,h.keyN hb,e])
 have n2:f.keys.Nodup:=List.nodup_range.filter _
 refine(List.perm_ext_iff_of_nodup n1 n2).2 fun l=>?_
 rw [Pgs.mem_keys,List.mem_map]
 constructor
 ·rintro ⟨x,hx,rfl⟩
  obtain⟨l,s,hl,hk,_,hf⟩:=h.only x hx
  have e:=h.keyN hx
  rw [hk] at e
  have e2:l=Go.Proofs.YtmbecjlioogbhaaGreatDoor.keyN x:=by injection e with _ e3;omega
  rw [←e2]
  exact⟨hl,by rw [hf];rfl⟩
 ·rintro ⟨hl,hs⟩
  obtain⟨s,hs⟩:=Option.isSome_iff_exists.1 hs
  obtain⟨_,x,hx,hk⟩:=h.all l s hs
  refine⟨x,hx,?_⟩
  have e:=h.keyN hx
  rw [hk] at e
  injection e with _ e3;omega
theorem Frm.size {w:World} {b:Nat} {es:Array MapEntry} {clock:Nat} {f:Pgs} (h:Frm w b es clock f):es.size=f.keys.length:=by
 rw [←h.perm.length_eq,List.length_map];simp
theorem Pgs.keys_le (f:Pgs):f.keys.length≤512:=by
 unfold Pgs.keys
 exact Nat.le_trans (List.length_filter_le _ _) (by simp)
section
variable {w:World} {b:Nat} {f:Pgs}
theorem Frs.len (h:Frs w b f) (ty:TypeId):(Builtin.len_ #[99] ty #[.map (some b)]).run Tryz.prog w = .ok (.int .i64 (f.keys.length:Int)) w:=by
 obtain⟨es,clock,h⟩:=h
 rw [←h.size]
 simp [Builtin.len_,run_underlying Tryz.underlying99,MapKept.run_getObj_map h.hb,goInt,Result.andThen]
theorem Frs.owns (h:Frs w b f):∃D:DataW Unit,w.ownsMap Tryz.prog 3 contR b 512 D∧∃es clock,Frm w b es clock f∧D = .map ((es.toList.map (rg Tryz.prog 3 contR)).foldr DataW.insert []):=by
 obtain⟨es,clock,h⟩:=h
 exact⟨_,⟨es,clock,h.hb,h.fit,by rw [h.size];exact f.keys_le,rfl⟩,es,clock,h,rfl⟩
theorem Frs.store (h:Frs w b f) (l:Nat) (s:List Nat) (hl:l<512) :
  ∃w',(Instr.mapUpdate 99 (.map (some b)) (.int .i64 (l:Int)) (.agg #[.string (strB s)])).run Tryz.prog w = .ok () w'∧Frs w' b (f.put l s)∧Only b w w':=by
 obtain⟨es,clock,h⟩:=h
 have hkey:=keyI (x:=(l:Int)) (by omega) (by omega)
 have hroom:es.size<maxLen:=by rw [h.size];have:=f.keys_le;unfold maxLen;omega
 obtain⟨es',clock',hrun,F',hput,_,_,hwho⟩:=fit_store (R':=contR) keyedI Tryz.underlying99 h.hb h.fit hroom (fun _ _ _ _ hz=>hz) hkey (contR_mk (strB s))
 refine⟨_,hrun,⟨es',clock',heap_setBlock_same h.hb _,F',?_,?_⟩,⟨rfl,rfl,rfl,by simp [setBlock],fun k _ hk=>heap_setBlock_other h.hb _ hk⟩⟩
 ·intro x hx
  rcases hwho x hx with ⟨hx1,hne⟩ | ⟨hk,hv⟩
  ·obtain⟨l2,s2,hl2,hk2,hv2,hf2⟩:=h.only x hx1
   refine⟨l2,s2,hl2,hk2,hv2,?_⟩
   rw [Pgs.put_other _ _ _ _ (fun e=>hne (by rw [hk2,e]))]
   exact hf2
  ·exact⟨l,s,hl,hk,hv,Pgs.put_same _ _ _⟩
 ·-- who was there is there,and the new one
  have hin:∀p,p∈putKey (Lit.int .i64 (l:Int)) (DataW.lit (.string (strB s).data.toList)) ((es.toList.map (rg Tryz.prog 3 contR)).foldr DataW.insert [])→∃x∈es'.toList,rg Tryz.prog 3 contR x=p:=by
   intro p hp
   rw [←hput] at hp
   obtain⟨x,hx,e⟩:=List.mem_map.1 ((sorted_perm _).mem_iff.1 hp)
   exact⟨x,hx,e⟩
  have key_of:∀x∈es'.toList,∀kl d,rg Tryz.prog 3 contR x=(kl,d)→keyOf Tryz.prog 3 x.key=some kl:=by
   intro x hx kl d e
   obtain⟨y,hy⟩:=F'.reads x hx
   have h1:=rd_key hy
   rw [rg_of hy] at e
   rw [e] at h1;exact h1
  intro l2 s2 hf2
  by_cases e:l2=l
  ·subst e
   obtain⟨x,hx,e⟩:=hin (Lit.int .i64 (l2:Int),DataW.lit (.string (strB s).data.toList)) (by unfold putKey;exact mem_insert_iff.2 (.inl rfl))
   exact⟨hl,x,hx,keyedI.inj (key_of x hx _ _ e) hkey⟩
  ·rw [Pgs.put_other _ _ _ _ e] at hf2
   obtain⟨h512,x0,hx0,hk0⟩:=h.all l2 s2 hf2
   have hkey2:=keyI (x:=(l2:Int)) (by omega) (by omega)
   obtain⟨y0,hy0⟩:=h.fit.reads x0 hx0
   have hk1:=rd_key hy0
   rw [hk0,hkey2] at hk1
   have hk2:y0.1=Lit.int .i64 (l2:Int):=(Option.some.inj hk1).symm
   obtain⟨x,hx,e3⟩:=hin y0 (by
    unfold putKey
    refine mem_insert_iff.2 (.inr (List.mem_filter.2 ⟨(sorted_perm _).mem_iff.2 (List.mem_map.2 ⟨x0,hx0,rg_of hy0⟩),?_⟩))
    refine(notKey_iff (keyedI.key hkey)).2 ?_
    rw [hk2]
    intro e4
    injection e4 with _ e5
    omega)
   refine⟨h512,x,hx,keyedI.inj (key_of x hx y0.1 y0.2 e3) ?_⟩
   rw [hk2];exact hkey2
end
theorem wpList_store_frs (w:World) {ops:Array Oper} {rest:List Oper} {o:Oper} {a:Act} {Q:Exit→Act→World→Prop}
  (hg:o.guard=none) (m x v:Operand) (hop:o.op=Op.mapUpdate 99 m x v) (b:Nat) (f:Pgs) (l:Nat) (s:List Nat)
  (hm:a.eval m = .map (some b)) (h:Frs w b f) (hl:l<512) (hx:a.eval x = .int .i64 (l:Int)) (hv:a.eval v = .agg #[.string (strB s)])
  (hK:∀w',Frs w' b (f.put l s)→Only b w w'→wpList Tryz.prog ops Q rest (a.put o.dst undef) w') :
  wpList Tryz.prog ops Q (o :: rest) a w:=by
 refine wpList_plain hg fun K' hK'=>?_
 obtain⟨w',hrun,r1,r2⟩:=h.store l s hl
 unfold Oper.wp
 simp [execOp,hop,hm,hx,hv,hrun,Result.andThen]
 exact hK' _ _ (hK w' r1 r2)
end
end Go.Proofs.YtmbecjlioogbhaaGreatDoor
