/- Texts QWrit to QSim of this seat, laid into one. -/
import Derived.Deep.RegionHeld3
import Derived.Test.YtmbecjlioogbhaaGreatDoorM19
set_option linter.unusedVariables false
set_option linter.unusedSimpArgs false
set_option linter.constructorNameAsVariable false
namespace Go.Proofs.YtmbecjlioogbhaaGreatDoor
section
set_option maxRecDepth 20000
open Go.RowKit
theorem range_take (l:List Nat) (n:Nat) (h:n≤l.length):(List.range n).map (fun j=>l.getD j 0)=l.take n:=by
 apply List.ext_getElem?
 intro i
 rw [List.getElem?_map,List.getElem?_take]
 by_cases hi:i<n
 ·rw [if_pos hi,List.getElem?_range hi,List.getElem?_eq_getElem (by omega)]
  show some (l.getD i 0)=_
  rw [List.getD_eq_getElem?_getD,List.getElem?_eq_getElem (by omega)];rfl
 ·rw [if_neg hi,List.getElem?_eq_none (by rw [List.length_range];omega)];rfl
section
variable {s:Sp} {pg:Nat}
theorem plW_pages (hN:needS s≤(freeL s).length) (r:Rt):(plW s r).map (·.1)=(freeL s).take (needS s):=by
 rw [←range_take _ _ hN]
 unfold needS plW kW mW
 rw [List.map_append,List.map_append,List.map_map,List.map_map,Nat.add_assoc,List.range_add,List.map_append,List.range_succ,List.map_append,List.map_append,List.map_map,List.append_assoc,plD_eq]
 congr 1
 congr 1
 apply List.map_congr_left
 intro j _
 show (plF s).getD j 0=_
 unfold plF
 rw [drop_getD];rfl
theorem plW_nodup (hN:needS s≤(freeL s).length) (r:Rt):((plW s r).map (·.1)).Nodup:=by
 rw [plW_pages hN r];exact(free_nodup s).sublist (List.take_sublist _ _)
theorem plW_len (s:Sp) (r:Rt):(plW s r).length=needS s:=by
 unfold plW needS
 rw [List.length_append,List.length_append,kW_len,mW_len];rfl
theorem plW_page (hN:needS s≤(freeL s).length) {r:Rt} {x:Nat × List Nat} (hx:x∈plW s r):x.1∈freeL s:=by
 have h1:x.1∈(plW s r).map (·.1):=List.mem_map.2 ⟨x,hx,rfl⟩
 rw [plW_pages hN r] at h1
 exact List.mem_of_mem_take h1
theorem plW_key (s:Sp) (r:Rt) {j:Nat} (hj:j<s.fr.keys.length):((freeL s).getD j 0,(s.fr (s.fr.keys.getD j 0)).getD [])∈plW s r:=by
 unfold plW kW
 exact List.mem_append.2 (.inl (List.mem_append.2 (.inl (List.mem_map.2 ⟨j,List.mem_range.2 hj,rfl⟩))))
theorem plW_leaf (s:Sp) (r:Rt) {t:Nat} (ht:t<(movL s).length):((freeL s).getD (s.fr.keys.length+t) 0,Tb.fours (Tb.leafF (plT s) ((movL s).getD t 0)) 128)∈plW s r:=by
 unfold plW mW
 refine List.mem_append.2 (.inl (List.mem_append.2 (.inr (List.mem_map.2 ⟨t,List.mem_range.2 ht,?_⟩))))
 unfold plF;rw [drop_getD]
theorem plW_dir (s:Sp) (r:Rt):(plD s,dirO (plL s) (plU s r))∈plW s r:=by unfold plW;simp
theorem dirO_eq (hB:Base s pg) (hN:needS s≤(freeL s).length) (f:Nat→Bool):dirO (plL s) f=dirF (plL s) f:=by
 unfold dirO;rw [if_pos (okL_of (plan_okl hB hN))];rfl
theorem dirF_len (lv:Nat→Nat) (f:Nat→Bool):(dirF lv f).length=512:=Tb.dirB_len _ _ _ _ _
theorem plW_ok (hB:Base s pg) (hN:needS s≤(freeL s).length) (r:Rt) {x:Nat × List Nat} (hx:x∈plW s r):x.2.length=512∧(∀b∈x.2,b<256)∧x.1<pg:=by
 refine⟨?_,?_,((free_mem hB).1 (plW_page hN hx)).1⟩
 all_goals
  unfold plW at hx
  rcases List.mem_append.1 hx with hx | hx
  ·rcases List.mem_append.1 hx with hx | hx
   ·unfold kW at hx
    obtain⟨j,hj,rfl⟩:=List.mem_map.1 hx
    obtain⟨b,hb⟩:=key_data (List.mem_range.1 hj)
    have h1:=hB.ex _ _ hb
    show ((s.fr (s.fr.keys.getD j 0)).getD []:List Nat) |> fun z=>_
    rw [hb]
    first | exact h1.2.2.1 | exact h1.2.2.2
   ·unfold mW at hx
    obtain⟨t,ht,rfl⟩:=List.mem_map.1 hx
    first | exact fours512 _ | exact Tb.fours_dig (fun j=>(plan_okt hB hN).lt _) 128
  ·rw [List.mem_singleton.1 hx]
   show (dirO (plL s) (plU s r)) |> fun z=>_
   rw [dirO_eq hB hN]
   first | exact dirF_len _ _ | exact Tb.dirB_dig (okL_of (plan_okl hB hN)) _
end
end
section
set_option maxRecDepth 20000
open Go.RowKit
structure PlanT (s:Sp) (r:Rt) (w w':World) (pt gu bu:Nat) (q:Option Addr) (c:Nat):Prop where
 hi:w.heap.size≤pt∧w.heap.size≤gu∧w.heap.size≤bu
 tab:Tb.Tab w' pt (plT s)
 us:Bi.Sat w' gu bu 512 (plU s r)
 row:w'.ownsRow w.heap.size 191 2 (.slice q (plW s r).length c) (plW s r).length (wrs (plW s r))
def commS (s:Sp) (r:Rt):Sp:={ g:=⟨planRt s r,plL s,plT s,some (plU s r)⟩,od:=s.g.us,kp:=plT s,fr:=fun _=>none,ch:=false }
def CommR (s:Sp) (r:Rt) (d g:Nat) (M:Dsk × Int) (F G:List Nat) (w w':World):Prop:=
 ∃F' G',Dk w' d F' M.1∧Chg (F++G) (F'++G') w w'∧((M.2≠0∧G'=[g]∧Gone w' g)∨(M.2=0∧Spc w' g G' d (commS s r)))
theorem size84:(Tryz.prog.info? 101).map (·.size)=some 15:=by kernel_rfl
theorem gone_one:goneA.all (·.oneCell')=true:=by simp [goneA,Value.oneCell']
theorem only_drew {g:Nat} {w w':World} (h:Only g w w'):Only g w w'.drew:=⟨h.os,h.tape,h.output,h.size,h.block⟩
theorem spc_only (w:World) (g:Nat) (v1 v2 v3 v4 v5 v6 v7 v8 v9 v10 v11:Value):Only g w (((((((((((w.setCell ⟨g,1,none⟩ v1).setCell ⟨g,2,none⟩ v2).setCell ⟨g,3,none⟩ v3).setCell ⟨g,4,none⟩ v4).setCell ⟨g,5,none⟩ v5).setCell ⟨g,6,none⟩ v6).setCell ⟨g,7,none⟩ v7).setCell ⟨g,8,none⟩ v8).setCell ⟨g,9,none⟩ v9).setCell ⟨g,10,none⟩ v10).setCell ⟨g,11,none⟩ v11):=
 ((((((((((Only.setCell g 1 v1 _).trans (Only.setCell g 2 v2 _)).trans (Only.setCell g 3 v3 _)).trans (Only.setCell g 4 v4 _)).trans (Only.setCell g 5 v5 _)).trans (Only.setCell g 6 v6 _)).trans (Only.setCell g 7 v7 _)).trans (Only.setCell g 8 v8 _)).trans (Only.setCell g 9 v9 _)).trans (Only.setCell g 10 v10 _)).trans (Only.setCell g 11 v11 _)
theorem spc_chain {w:World} {g:Nat} {a0 a1 a2 a3 a4 a5 a6 a7 a8 a9 a10 a11 a12 a13 a14:Value} (h:w.heap[g]?=some (.cells #[a0,a1,a2,a3,a4,a5,a6,a7,a8,a9,a10,a11,a12,a13,a14] 101 (0,0))) (v1 v2 v3 v4 v5 v6 v7 v8 v9 v10 v11:Value) :
  (((((((((((w.setCell ⟨g,1,none⟩ v1).setCell ⟨g,2,none⟩ v2).setCell ⟨g,3,none⟩ v3).setCell ⟨g,4,none⟩ v4).setCell ⟨g,5,none⟩ v5).setCell ⟨g,6,none⟩ v6).setCell ⟨g,7,none⟩ v7).setCell ⟨g,8,none⟩ v8).setCell ⟨g,9,none⟩ v9).setCell ⟨g,10,none⟩ v10).setCell ⟨g,11,none⟩ v11).heap[g]?=some (.cells #[a0,v1,v2,v3,v4,v5,v6,v7,v8,v9,v10,v11,a12,a13,a14] 101 (0,0)):=by
 have h1:(w.setCell ⟨g,1,none⟩ v1).heap[g]?=some (.cells #[a0,v1,a2,a3,a4,a5,a6,a7,a8,a9,a10,a11,a12,a13,a14] 101 (0,0)):=heap_setCell_same _ g 1 _ 101 v1 h
 have h2:((w.setCell ⟨g,1,none⟩ v1).setCell ⟨g,2,none⟩ v2).heap[g]?=some (.cells #[a0,v1,v2,a3,a4,a5,a6,a7,a8,a9,a10,a11,a12,a13,a14] 101 (0,0)):=heap_setCell_same _ g 2 _ 101 v2 h1
 have h3:(((w.setCell ⟨g,1,none⟩ v1).setCell ⟨g,2,none⟩ v2).setCell ⟨g,3,none⟩ v3).heap[g]?=some (.cells #[a0,v1,v2,v3,a4,a5,a6,a7,a8,a9,a10,a11,a12,a13,a14] 101 (0,0)):=heap_setCell_same _ g 3 _ 101 v3 h2
 have h4:((((w.setCell ⟨g,1,none⟩ v1).setCell ⟨g,2,none⟩ v2).setCell ⟨g,3,none⟩ v3).setCell ⟨g,4,none⟩ v4).heap[g]?=some (.cells #[a0,v1,v2,v3,v4,a5,a6,a7,a8,a9,a10,a11,a12,a13,a14] 101 (0,0)):=heap_setCell_same _ g 4 _ 101 v4 h3
 have h5:(((((w.setCell ⟨g,1,none⟩ v1).setCell ⟨g,2,none⟩ v2).setCell ⟨g,3,none⟩ v3).setCell ⟨g,4,none⟩ v4).setCell ⟨g,5,none⟩ v5).heap[g]?=some (.cells #[a0,v1,v2,v3,v4,v5,a6,a7,a8,a9,a10,a11,a12,a13,a14] 101 (0,0)):=heap_setCell_same _ g 5 _ 101 v5 h4
 have h6:((((((w.setCell ⟨g,1,none⟩ v1).setCell ⟨g,2,none⟩ v2).setCell ⟨g,3,none⟩ v3).setCell ⟨g,4,none⟩ v4).setCell ⟨g,5,none⟩ v5).setCell ⟨g,6,none⟩ v6).heap[g]?=some (.cells #[a0,v1,v2,v3,v4,v5,v6,a7,a8,a9,a10,a11,a12,a13,a14] 101 (0,0)):=heap_setCell_same _ g 6 _ 101 v6 h5
 have h7:(((((((w.setCell ⟨g,1,none⟩ v1).setCell ⟨g,2,none⟩ v2).setCell ⟨g,3,none⟩ v3).setCell ⟨g,4,none⟩ v4).setCell ⟨g,5,none⟩ v5).setCell ⟨g,6,none⟩ v6).setCell ⟨g,7,none⟩ v7).heap[g]?=some (.cells #[a0,v1,v2,v3,v4,v5,v6,v7,a8,a9,a10,a11,a12,a13,a14] 101 (0,0)):=heap_setCell_same _ g 7 _ 101 v7 h6
 have h8:((((((((w.setCell ⟨g,1,none⟩ v1).setCell ⟨g,2,none⟩ v2).setCell ⟨g,3,none⟩ v3).setCell ⟨g,4,none⟩ v4).setCell ⟨g,5,none⟩ v5).setCell ⟨g,6,none⟩ v6).setCell ⟨g,7,none⟩ v7).setCell ⟨g,8,none⟩ v8).heap[g]?=some (.cells #[a0,v1,v2,v3,v4,v5,v6,v7,v8,a9,a10,a11,a12,a13,a14] 101 (0,0)):=heap_setCell_same _ g 8 _ 101 v8 h7
 have h9:(((((((((w.setCell ⟨g,1,none⟩ v1).setCell ⟨g,2,none⟩ v2).setCell ⟨g,3,none⟩ v3).setCell ⟨g,4,none⟩ v4).setCell ⟨g,5,none⟩ v5).setCell ⟨g,6,none⟩ v6).setCell ⟨g,7,none⟩ v7).setCell ⟨g,8,none⟩ v8).setCell ⟨g,9,none⟩ v9).heap[g]?=some (.cells #[a0,v1,v2,v3,v4,v5,v6,v7,v8,v9,a10,a11,a12,a13,a14] 101 (0,0)):=heap_setCell_same _ g 9 _ 101 v9 h8
 have h10:((((((((((w.setCell ⟨g,1,none⟩ v1).setCell ⟨g,2,none⟩ v2).setCell ⟨g,3,none⟩ v3).setCell ⟨g,4,none⟩ v4).setCell ⟨g,5,none⟩ v5).setCell ⟨g,6,none⟩ v6).setCell ⟨g,7,none⟩ v7).setCell ⟨g,8,none⟩ v8).setCell ⟨g,9,none⟩ v9).setCell ⟨g,10,none⟩ v10).heap[g]?=some (.cells #[a0,v1,v2,v3,v4,v5,v6,v7,v8,v9,v10,a11,a12,a13,a14] 101 (0,0)):=heap_setCell_same _ g 10 _ 101 v10 h9
 have h11:(((((((((((w.setCell ⟨g,1,none⟩ v1).setCell ⟨g,2,none⟩ v2).setCell ⟨g,3,none⟩ v3).setCell ⟨g,4,none⟩ v4).setCell ⟨g,5,none⟩ v5).setCell ⟨g,6,none⟩ v6).setCell ⟨g,7,none⟩ v7).setCell ⟨g,8,none⟩ v8).setCell ⟨g,9,none⟩ v9).setCell ⟨g,10,none⟩ v10).setCell ⟨g,11,none⟩ v11).heap[g]?=some (.cells #[a0,v1,v2,v3,v4,v5,v6,v7,v8,v9,v10,v11,a12,a13,a14] 101 (0,0)):=heap_setCell_same _ g 11 _ 101 v11 h10
 exact h11
theorem drew_heap (u:World):u.drew.heap=u.heap:=rfl
theorem spc_both {w:World} {g:Nat} {a0 a1 a2 a3 a4 a5 a6 a7 a8 a9 a10 a11 a12 a13 a14:Value} (h:w.heap[g]?=some (.cells #[a0,a1,a2,a3,a4,a5,a6,a7,a8,a9,a10,a11,a12,a13,a14] 101 (0,0))) (v1 v2 v3 v4 v5 v6 v7 v8 v9 v10 v11:Value) :
  Hid ((((((((((((w.setCell ⟨g,1,none⟩ v1).setCell ⟨g,2,none⟩ v2).setCell ⟨g,3,none⟩ v3).setCell ⟨g,4,none⟩ v4).setCell ⟨g,5,none⟩ v5).setCell ⟨g,6,none⟩ v6).setCell ⟨g,7,none⟩ v7).setCell ⟨g,8,none⟩ v8).setCell ⟨g,9,none⟩ v9).setCell ⟨g,10,none⟩ v10).setCell ⟨g,11,none⟩ v11).drew.heap[g]?=some (.cells #[a0,v1,v2,v3,v4,v5,v6,v7,v8,v9,v10,v11,a12,a13,a14] 101 (0,0))∧Only g w (((((((((((w.setCell ⟨g,1,none⟩ v1).setCell ⟨g,2,none⟩ v2).setCell ⟨g,3,none⟩ v3).setCell ⟨g,4,none⟩ v4).setCell ⟨g,5,none⟩ v5).setCell ⟨g,6,none⟩ v6).setCell ⟨g,7,none⟩ v7).setCell ⟨g,8,none⟩ v8).setCell ⟨g,9,none⟩ v9).setCell ⟨g,10,none⟩ v10).setCell ⟨g,11,none⟩ v11).drew):=
 Lib.hid ⟨(congrArg (fun (x:Array Obj)=>x[g]?) (drew_heap _)).trans (spc_chain h v1 v2 v3 v4 v5 v6 v7 v8 v9 v10 v11),only_drew (spc_only w g v1 v2 v3 v4 v5 v6 v7 v8 v9 v10 v11)⟩
theorem only_row (w:World) (g:Nat) (cs:Array Value):Only g w (w.setRow g cs):=⟨rfl,rfl,rfl,by simp [World.setRow],fun k _ hk=>setRow_other w g k cs hk⟩
theorem commit_chg {w w9 w10:World} {F F9 G G':List Nat} {g:Nat} (hC:Chg F F9 w w9) (hO:Only g w9 w10) (hg:g∈G) (hG':∀k∈G',k∈G∨w.heap.size≤k):Chg (F++G) (F9++G') w w10:=by
 refine⟨hO.os.trans hC.os,hO.tape.trans hC.tape,hO.output.trans hC.output,Nat.le_trans hC.size hO.size,fun k hk hn=>?_,fun k hk=>?_⟩
 ·exact(hO.block k (Nat.lt_of_lt_of_le hk hC.size) (fun e=>hn (List.mem_append.2 (.inr (by rw [e];exact hg))))).trans (hC.block k hk (fun e=>hn (List.mem_append.2 (.inl e))))
 ·rcases List.mem_append.1 hk with h1 | h1
  ·exact(hC.fresh k h1).imp (fun e=>List.mem_append.2 (.inl e)) id
  ·exact(hG' k h1).imp (fun e=>List.mem_append.2 (.inr e)) id
theorem Dk.keepG {w w':World} {F:List Nat} {g d:Nat} {m:Dsk} {cs:Array Value} {fr:Nat × Nat} (h:Dk w d F m) (hb:w.heap[g]?=some (.cells cs 101 fr)) (hO:Only g w w'):Dk w' d F m:=by
 refine h.stay2 (Chg.of_only (G:=[g]) hO (by simp)) (fun k hk=>?_) (fun k hk hk2=>?_)
 ·obtain rfl:=List.mem_singleton.1 hk
  exact .inr ⟨_,_,_,hb,by simp⟩
 ·obtain rfl:=List.mem_singleton.1 hk2
  obtain⟨cs2,t2,fr2,h1,h2⟩:=h.typed k hk
  rw [hb] at h1
  cases h1
  revert h2;decide
section
variable {w:World} {g d pt pk mb:Nat} {pu po:Option Addr} {s:Sp} {F:List Nat} {m:Dsk}
theorem plan_at (h:Spc0 w g d pt pk mb pu po s) (pg:Nat) (hr:s.g.r.pg=(pg:Int)) (hpg:pg≤512) (r:Rt) (hN:needS s≤(freeL s).length) :
  Calls Tryz.prog 88 #[.pointer (some ⟨g,0,none⟩),.agg #[.int .i64 r.ep,.int .i64 r.pg,.int .i64 r.dr,.int .i64 r.wd]] w fun e w'=>(∃pt gu bu q c,e = .returned (.tuple #[.agg #[.int .i64 r.ep,.int .i64 r.pg,.int .i64 (plD s:Int),.int .i64 r.wd,.int .i64 (plL s 0:Nat),.int .i64 (plL s 1:Nat),.int .i64 (plL s 2:Nat),.int .i64 (plL s 3:Nat),.pointer (some ⟨pt,0,none⟩),.pointer (some ⟨gu,0,none⟩)],.slice q (plW s r).length c])∧PlanT s r w w' pt gu bu q c)∧Below w.heap.size w w':=by
 refine(plan_sp h pg hr hpg r hN).mono ?_
 rintro e w' ⟨⟨pt,gu,bu,vr,he,h1,h2,h3,h4,h5,h6⟩,hb⟩
 have h7:=h6
 rcases h6.2 with ⟨rfl,hx⟩ | ⟨g',cap,cur,rfl,_⟩
 ·exfalso
  unfold plW at hx
  simp at hx
 ·exact⟨⟨pt,gu,bu,_,_,he,⟨h1,h2,h3⟩,h4,h5,h7⟩,hb⟩
set_option maxHeartbeats 3200000 in
theorem commit_go (h:Spc0 w g d pt pk mb pu po s) (hD:Dk w d F m) (word:Int) (he:-9223372036854775808≤s.g.r.ep∧s.g.r.ep≤4611686018427387904) (hm:may (nextR s word)=true) (pg:Nat) (hr:s.g.r.pg=(pg:Int)) (hpg:pg≤512) (hf:needS s≤(freeL s).length)
  (hps:∀k,k<(plW s (nextR s word)).length→((plW s (nextR s word)).getD k (0,[])).2.length=512∧(∀x∈((plW s (nextR s word)).getD k (0,[])).2,x<256)∧((plW s (nextR s word)).getD k (0,[])).1≤512) (hpn:(plW s (nextR s word)).length≤1000)
  (hms:Mays (planRt s (nextR s word))) (hl:s.g.r.pg*4≤(m.out.length:Int)) (hdn:m.done≤4611686018427380000) (hrl:m.row.length≤1099511620000) :
  Calls Tryz.prog 43 #[.pointer (some ⟨g,0,none⟩),.int .i64 word] w fun e w'=>e = .returned (.int .i64 (layM m (plW s (nextR s word)) (planRt s (nextR s word))).2)∧CommR s (nextR s word) d g (layM m (plW s (nextR s word)) (planRt s (nextR s word))) F [g,pt,pk,mb] w w':=by
 have HX:=Lib.hid h
 have HDK:=Lib.hid hD
 have HRF:=Lib.hid (refusal_any h)
 have HMY:Hid (∀u,Calls Tryz.prog 87 #[.agg #[.int .i64 (s.g.r.ep+1),.int .i64 s.g.r.pg,.int .i64 2,.int .i64 word]] u fun x w'=>x = .returned (.bool true)∧Below u.heap.size u w'):=Lib.hid fun u=>by
  have:=may_any (nextR s word) u
  rw [hm] at this
  exact this
 have HND:Hid (∀u,Below w.heap.size w u→Calls Tryz.prog 82 #[.pointer (some ⟨g,0,none⟩)] u fun e w'=>e = .returned (.int .i64 (needS s:Int))∧Below u.heap.size u w'):=Lib.hid fun u hu=>need_any (h.below hu)
 have HFR:Hid (∀u,Below w.heap.size w u→Calls Tryz.prog 83 #[.pointer (some ⟨g,0,none⟩)] u fun e w'=>e = .returned (.int .i64 ((freeL s).length:Int))∧Below u.heap.size u w'):=Lib.hid fun u hu=>Free_any (h.below hu) pg hr hpg
 have HPL:Hid (∀u,Below w.heap.size w u→Calls Tryz.prog 88 #[.pointer (some ⟨g,0,none⟩),.agg #[.int .i64 (s.g.r.ep+1),.int .i64 s.g.r.pg,.int .i64 2,.int .i64 word]] u fun e w'=>(∃pt gu bu q c,e = .returned (.tuple #[.agg #[.int .i64 (s.g.r.ep+1),.int .i64 s.g.r.pg,.int .i64 (plD s:Int),.int .i64 word,.int .i64 (plL s 0:Nat),.int .i64 (plL s 1:Nat),.int .i64 (plL s 2:Nat),.int .i64 (plL s 3:Nat),.pointer (some ⟨pt,0,none⟩),.pointer (some ⟨gu,0,none⟩)],.slice q (plW s (nextR s word)).length c])∧PlanT s (nextR s word) u w' pt gu bu q c)∧Below u.heap.size u w'):=Lib.hid fun u hu=>plan_at (h.below hu) pg hr hpg (nextR s word) hf
 have HLA:Hid (∀u B q c,Below w.heap.size w u→u.ownsRow B 191 2 (.slice q (plW s (nextR s word)).length c) (plW s (nextR s word)).length (wrs (plW s (nextR s word)))→Calls Tryz.prog 89 #[.pointer (some ⟨g,0,none⟩),.slice q (plW s (nextR s word)).length c,.agg #[.int .i64 (s.g.r.ep+1),.int .i64 s.g.r.pg,.int .i64 (plD s:Int),.int .i64 word]] u fun e w'=>e = .returned (.int .i64 (layM m (plW s (nextR s word)) (planRt s (nextR s word))).2)∧Went F d (layM m (plW s (nextR s word)) (planRt s (nextR s word))).1 u w'):=Lib.hid fun u B q c hu ho=>
  lay_any (r:=planRt s (nextR s word)) (hD.below hu) ⟨_,_,(h.below hu).box,rfl⟩ ho rfl hpn hps hms hl hdn hrl
 have h1:=he.1
 have h2:=he.2
 have hd:decide (((freeL s).length:Int)<(needS s:Int))=false:=by simp;omega
 have hd2:decide ((freeL s).length<needS s)=false:=by simp;omega
 clear h hD hm he hr hps hpn hms hl hdn hrl hf
 generalize needS s=nd at *
 generalize (freeL s).length=fr at *
 generalize hW:plW s (nextR s word)=W at *
 obtain⟨M,hM⟩:∃M,layM m W (planRt s (nextR s word))=M:=⟨_,rfl⟩
 rw [hM] at HLA ⊢
 obtain⟨n,hn⟩:∃n,W.length=n:=⟨_,rfl⟩
 rw [hn] at HPL HLA
 have HN:=Lib.hid hn
 have HW:=Lib.hid hW
 clear hn hM hW
 go_enter Tryz.func43,Tryz.ntmps43
 go_upto_region 10 with (first
  | (go_at_call 47;refine HRF.out.mono ?_;rintro e w1 ⟨rfl,rfl⟩)
  | (go_at_call 85;refine(epoch_any HX.out).mono ?_;rintro e w2 ⟨rfl,hb2⟩;have HX2:=Lib.hid (HX.out.below hb2);have HB2:=Lib.hid hb2;clear hb2)
  | (go_at_call 86;refine(pages_any HX2.out).mono ?_;rintro e w3 ⟨rfl,hb3⟩;have HB3:=Lib.hid (HB2.out.trans (hb3.mono HB2.out.size));have HB3a:=Lib.hid (HB3.out.alloc HB3.out.size (.cells #[.int .i64 (s.g.r.ep+1),.int .i64 s.g.r.pg,.int .i64 2,.int .i64 word] 93));have HR3:=Lib.hid (RtAt.new w3 (nextR s word) 93);clear hb3)
  | (go_at_call 87;refine(HMY.out _).mono ?_;rintro e w4 ⟨rfl,hb4⟩;have HB4:=Lib.hid (HB3a.out.trans (hb4.mono HB3a.out.size));have HR4:=Lib.hid (HR3.out.below hb4);clear hb4)
  | (go_at_call 82;refine(HND.out _ HB4.out).mono ?_;rintro e w5 ⟨rfl,hb5⟩;have HB5:=Lib.hid (HB4.out.trans (hb5.mono HB4.out.size));have HR5:=Lib.hid (HR4.out.below hb5);clear hb5)
  | (go_at_call 83;refine(HFR.out _ HB5.out).mono ?_;rintro e w6 ⟨rfl,hb6⟩;have HB6:=Lib.hid (HB5.out.trans (hb6.mono HB5.out.size));have hr6:=HR5.out.below hb6;have r0:=hr6.c0;have r1:=hr6.c1;have r2:=hr6.c2;have r3:=hr6.c3;clear hb6 hr6)
  | (go_at_call 88;refine(HPL.out _ HB6.out).mono ?_;rintro e w7 ⟨⟨pt',gu,bu,q,c,rfl,hP7⟩,hb7⟩))
 have HP7:=Lib.hid hP7
 have HB7:=Lib.hid (HB6.out.trans (hb7.mono HB6.out.size))
 have HU6:=Lib.hid HB6.out.size
 clear hP7 hb7 r0 r1 r2 r3 HPL HND HFR HMY HRF
 have HB8:Hid (Below w.heap.size w (w7.alloc (.cells #[.int .i64 (s.g.r.ep+1),.int .i64 s.g.r.pg,.int .i64 (plD s:Int),.int .i64 word,.int .i64 (plL s 0:Nat),.int .i64 (plL s 1:Nat),.int .i64 (plL s 2:Nat),.int .i64 (plL s 3:Nat),.pointer (some ⟨pt',0,none⟩),.pointer (some ⟨gu,0,none⟩)] 98))):=Lib.hid (HB7.out.alloc HB7.out.size _)
 have HN8:Hid ((w7.alloc (.cells #[.int .i64 (s.g.r.ep+1),.int .i64 s.g.r.pg,.int .i64 (plD s:Int),.int .i64 word,.int .i64 (plL s 0:Nat),.int .i64 (plL s 1:Nat),.int .i64 (plL s 2:Nat),.int .i64 (plL s 3:Nat),.pointer (some ⟨pt',0,none⟩),.pointer (some ⟨gu,0,none⟩)] 98)).heap[w7.heap.size]?=some (.cells #[.int .i64 (s.g.r.ep+1),.int .i64 s.g.r.pg,.int .i64 (plD s:Int),.int .i64 word,.int .i64 (plL s 0:Nat),.int .i64 (plL s 1:Nat),.int .i64 (plL s 2:Nat),.int .i64 (plL s 3:Nat),.pointer (some ⟨pt',0,none⟩),.pointer (some ⟨gu,0,none⟩)] 98 (0,0))):=Lib.hid (heap_alloc_new w7 _)
 have HP8:Hid (PlanT s (nextR s word) w6 (w7.alloc (.cells #[.int .i64 (s.g.r.ep+1),.int .i64 s.g.r.pg,.int .i64 (plD s:Int),.int .i64 word,.int .i64 (plL s 0:Nat),.int .i64 (plL s 1:Nat),.int .i64 (plL s 2:Nat),.int .i64 (plL s 3:Nat),.pointer (some ⟨pt',0,none⟩),.pointer (some ⟨gu,0,none⟩)] 98)) pt' gu bu q c):=Lib.hid ⟨HP7.out.hi,HP7.out.tab.below (alloc_below _ _),HP7.out.us.below (alloc_below _ _),own_below (by rw [HW.out,HN.out];have:=HP7.out.row;rw [HW.out,HN.out] at this;exact this) (alloc_below _ _)⟩
 generalize w7.alloc (.cells #[.int .i64 (s.g.r.ep+1),.int .i64 s.g.r.pg,.int .i64 (plD s:Int),.int .i64 word,.int .i64 (plL s 0:Nat),.int .i64 (plL s 1:Nat),.int .i64 (plL s 2:Nat),.int .i64 (plL s 3:Nat),.pointer (some ⟨pt',0,none⟩),.pointer (some ⟨gu,0,none⟩)] 98)=w8 at *
 obtain⟨b7,hb7⟩:∃b7,w7.heap.size=b7:=⟨_,rfl⟩
 rw [hb7] at HN8 ⊢
 clear hb7 HP7 HB7
 have x0:w8.cell? ⟨b7,0,none⟩=some (.int .i64 (s.g.r.ep+1)):=by rw [cell_of_row _ _ _ _ _ _ HN8.out];rfl
 have x1:w8.cell? ⟨b7,1,none⟩=some (.int .i64 s.g.r.pg):=by rw [cell_of_row _ _ _ _ _ _ HN8.out];rfl
 have x2:w8.cell? ⟨b7,2,none⟩=some (.int .i64 (plD s:Int)):=by rw [cell_of_row _ _ _ _ _ _ HN8.out];rfl
 have x3:w8.cell? ⟨b7,3,none⟩=some (.int .i64 word):=by rw [cell_of_row _ _ _ _ _ _ HN8.out];rfl
 have hro:=HP8.out.row
 rw [HW.out,HN.out] at hro
 have HL8:=Lib.hid (HLA.out _ _ _ _ HB8.out hro)
 clear hro HLA
 go_upto_region 11 with (go_at_call 89;refine HL8.out.mono ?_;rintro e w9 ⟨rfl,hw9⟩;have HW9:=Lib.hid hw9;clear hw9)
 obtain⟨F9,hD9,hC9⟩:=HW9.out
 have HT8:=Lib.hid (HDK.out.below HB8.out).typed
 have HBX:Hid (w9.heap[g]?=some (.cells (spA d s.g.r s.g.lv (some ⟨pt,0,none⟩) pu po (some ⟨pk,0,none⟩) (some mb) s.ch) 101 (0,0))):=Lib.hid (hC9.keep HT8.out (HX.out.below HB8.out).box (by decide))
 have HD9:=Lib.hid hD9
 have HC9:Hid (Chg F F9 w w9):=Lib.hid ((Chg.of_below HB8.out).trans hC9)
 have HN9:=Lib.hid (hC9.keep HT8.out HN8.out (by decide))
 have HTB:Hid (Tb.Tab w9 pt' (plT s)∧Bi.Sat w9 gu bu 512 (plU s (nextR s word))∧Stp w9 pu s.g.us):=Lib.hid (by
  obtain⟨cur,hcur⟩:=own_head HP8.out.us.row rfl
  exact⟨HP8.out.tab.same ((hC9.keep HT8.out HP8.out.tab.row (by decide)).trans HP8.out.tab.row.symm),HP8.out.us.same ((hC9.keep HT8.out HP8.out.us.box (by decide)).trans HP8.out.us.box.symm) ((hC9.keep HT8.out hcur (by decide)).trans hcur.symm),(HX.out.below HB8.out).us.chg2 hC9 HT8.out.kin⟩)
 clear hD9 hC9 HW9 HL8 x0 x1 x2 x3 HN8
 obtain⟨E,HE⟩:∃E,Hid (M.2=E):=⟨_,Lib.hid rfl⟩
 rw [HE.out]
 by_cases hE:E=0
 ·subst hE
  have cg:=fun (i:Nat) (v:Value) (hv:(spA d s.g.r s.g.lv (some ⟨pt,0,none⟩) pu po (some ⟨pk,0,none⟩) (some mb) s.ch)[i]?=some v)=>(show w9.cell? ⟨g,i,none⟩=some v by rw [cell_of_row _ _ _ _ _ _ HBX.out];exact hv)
  have c1:=cg 1 _ rfl
  have c2:=cg 2 _ rfl
  have c3:=cg 3 _ rfl
  have c4:=cg 4 _ rfl
  have c5:=cg 5 _ rfl
  have c6:=cg 6 _ rfl
  have c7:=cg 7 _ rfl
  have c8:=cg 8 _ rfl
  have c9:=cg 9 _ rfl
  have c10:=cg 10 (.pointer pu) rfl
  have c11:=cg 11 (.pointer po) rfl
  have cf:∀i,w9.frozen? ⟨g,i,none⟩=false:=fun i=>frozen_of_row _ _ i _ _ HBX.out
  have ch:=fun (i:Nat) (v:Value) (hv:(#[.int .i64 (s.g.r.ep+1),.int .i64 s.g.r.pg,.int .i64 (plD s:Int),.int .i64 word,.int .i64 (plL s 0:Nat),.int .i64 (plL s 1:Nat),.int .i64 (plL s 2:Nat),.int .i64 (plL s 3:Nat),.pointer (some ⟨pt',0,none⟩),.pointer (some ⟨gu,0,none⟩)]:Array Value)[i]?=some v)=>(show w9.cell? ⟨b7,i,none⟩=some v by rw [cell_of_row _ _ _ _ _ _ HN9.out];exact hv)
  have x0:=ch 0 _ rfl
  have x1:=ch 1 _ rfl
  have x2:=ch 2 _ rfl
  have x3:=ch 3 _ rfl
  have x4:=ch 4 _ rfl
  have x5:=ch 5 _ rfl
  have x6:=ch 6 _ rfl
  have x7:=ch 7 _ rfl
  have x8:=ch 8 (.pointer (some ⟨pt',0,none⟩)) rfl
  have x9:=ch 9 (.pointer (some ⟨gu,0,none⟩)) rfl
  have hgb:b7≠g:=cells_ne HN9.out HBX.out (by decide)
  have hbg:g≠b7:=Ne.symm hgb
  clear cg ch
  go_upto_region 14 with fail
  go_region
  have hbx:w9.heap[g]?=some (.cells #[.pointer (some ⟨d,0,none⟩),.int .i64 s.g.r.ep,.int .i64 s.g.r.pg,.int .i64 s.g.r.dr,.int .i64 s.g.r.wd,.int .i64 (s.g.lv 0:Nat),.int .i64 (s.g.lv 1:Nat),.int .i64 (s.g.lv 2:Nat),.int .i64 (s.g.lv 3:Nat),.pointer (some ⟨pt,0,none⟩),.pointer pu,.pointer po,.pointer (some ⟨pk,0,none⟩),.map (some mb),.bool s.ch] 101 (0,0)):=HBX.out
  have HCO:=spc_both hbx (.int .i64 (s.g.r.ep+1)) (.int .i64 s.g.r.pg) (.int .i64 (plD s:Int)) (.int .i64 word) (.int .i64 (plL s 0:Nat)) (.int .i64 (plL s 1:Nat)) (.int .i64 (plL s 2:Nat)) (.int .i64 (plL s 3:Nat)) (.pointer (some ⟨pt',0,none⟩)) (.pointer (some ⟨gu,0,none⟩)) (.pointer pu)
  clear hbx
  clear c1 c2 c3 c4 c5 c6 c7 c8 c9 c10 c11 cf x0 x1 x2 x3 x4 x5 x6 x7 x8 x9
  generalize (((((((((((w9.setCell ⟨g,1,none⟩ (.int .i64 (s.g.r.ep+1))).setCell ⟨g,2,none⟩ (.int .i64 s.g.r.pg)).setCell ⟨g,3,none⟩ (.int .i64 (plD s:Int))).setCell ⟨g,4,none⟩ (.int .i64 word)).setCell ⟨g,5,none⟩ (.int .i64 (plL s 0:Nat))).setCell ⟨g,6,none⟩ (.int .i64 (plL s 1:Nat))).setCell ⟨g,7,none⟩ (.int .i64 (plL s 2:Nat))).setCell ⟨g,8,none⟩ (.int .i64 (plL s 3:Nat))).setCell ⟨g,9,none⟩ (.pointer (some ⟨pt',0,none⟩))).setCell ⟨g,10,none⟩ (.pointer (some ⟨gu,0,none⟩))).setCell ⟨g,11,none⟩ (.pointer pu)).drew=w10 at *
  have HO10:=Lib.hid HCO.out.2
  have HC10:Hid (w10.heap[g]?=some (.cells (spA d (planRt s (nextR s word)) (plL s) (some ⟨pt',0,none⟩) (some ⟨gu,0,none⟩) pu (some ⟨pk,0,none⟩) (some mb) s.ch) 101 (0,0))):=Lib.hid HCO.out.1
  have HT10:Hid (Tb.Tab w10 pt' (plT s)∧Stp w10 (some ⟨gu,0,none⟩) (some (plU s (nextR s word)))∧Stp w10 pu s.g.us):=Lib.hid (by
   obtain⟨q1,q2,q3⟩:=HTB.out
   obtain⟨cur,hcur⟩:=own_head q2.row rfl
   refine⟨q1.only HO10.out (cells_ne q1.row HBX.out (by decide)),⟨gu,bu,rfl,q2.only HO10.out (cells_ne q2.box HBX.out (by decide)) (cells_ne hcur HBX.out (by decide))⟩,q3.chg2 (Chg.of_only (G:=[g]) HO10.out (by simp)) (fun k hk=>?_)⟩
   obtain rfl:=List.mem_singleton.1 hk
   exact .inr ⟨_,_,_,HBX.out,by simp⟩)
  have HSE:=Lib.hid (settle_any (s:={ g:=⟨planRt s (nextR s word),plL s,plT s,some (plU s (nextR s word))⟩,od:=s.g.us,kp:=s.kp,fr:=s.fr,ch:=s.ch }) HC10.out HT10.out.1 HT10.out.2.1 HT10.out.2.2)
  go_wp2_with (go_at_call 76;refine HSE.out.mono ?_;rintro e w11 ⟨rfl,hx11,ho11⟩;have HX11:=Lib.hid hx11;have HO11:=Lib.hid ho11;clear hx11 ho11)
  go_ret
  obtain⟨pk',mb',k1,k2,k3⟩:=HX11.out
  have hO:=HO10.out.trans HO11.out
  have hsz:w.heap.size≤w10.heap.size:=Nat.le_trans HC9.out.size HO10.out.size
  have hpt:=HP8.out.hi.1
  have hu6:=HU6.out
  refine⟨by rw [HE.out];rfl,F9,[g,pt',pk',mb'],HD9.out.keepG HBX.out hO,commit_chg HC9.out hO (by simp) (fun k hk=>?_),.inr ⟨HE.out,pt',pk',mb',_,_,k3,rfl⟩⟩
  simp only [List.mem_cons,List.not_mem_nil,or_false] at hk
  rcases hk with rfl | rfl | rfl | rfl
  ·exact .inl (by simp)
  ·exact .inr (Nat.le_trans hu6 hpt)
  ·exact .inr (Nat.le_trans hsz k1)
  ·exact .inr (Nat.le_trans hsz k2)
 ·have HEN:=Lib.hid hE
  have hb:(E != 0)=true:=by simpa using hE
  clear hE
  go_wp2_with (refine wpList_store_row rfl 101 (.tmp 47) (.tmp 46) rfl g goneA rfl rfl 101 _ HBX.out size84 rfl gone_one ?_)
  go_ret
  exact⟨by rw [HE.out];rfl,F9,[g],HD9.out.keepG HBX.out (only_row _ _ _),commit_chg HC9.out (only_row _ _ _) (by simp) (fun k hk=>.inl (by obtain rfl:=List.mem_singleton.1 hk;simp)),.inl ⟨by rw [HE.out];exact HEN.out,rfl,setRow_heap _ _ _ _ _ _ HBX.out⟩⟩
end
end
section
set_option maxRecDepth 20000
open Go.RowKit
def OldLv (L:List (List Nat)) (s:Sp):Prop:=∀i,i<4→s.g.lv i≠0→pageB L (s.g.lv i)=Tb.fours (Tb.leafF s.g.tb i) 128
section
variable {s:Sp} {pg:Nat} {L:List (List Nat)}
theorem held_stay (hB:Base s pg) (hN:needS s≤(freeL s).length) (r:Rt) {p:Nat} (hp:heldS s p=true):pageB (wrP L (plW s r)) p=pageB L p:=
 wrP_other _ _ _ (fun x hx e=>by
  have h1:=((free_mem hB).1 (plW_page hN hx)).2.2
  rw [e,hp] at h1;cases h1)
theorem plan_lies (hB:Base s pg) (hN:needS s≤(freeL s).length) {r:Rt} (hr:r.pg=(pg:Int)) (hm:may r=true) (hn:4*pg≤L.length) (hO:OldLv L s) :
  LiesOn (wrP L (plW s r)) ⟨planRt s r,plL s,plT s,some (plU s r)⟩:=by
 have hat:∀x∈plW s r,pageB (wrP L (plW s r)) x.1=x.2:=fun x hx=>by
  have h1:=plW_ok hB hN r hx
  exact wrP_at L _ (plW_nodup hN r) x hx (by omega) h1.1
 refine⟨?_,?_,fun i hi h0=>?_⟩
 ·rw [wrP_len]
  show 4*r.pg≤_
  omega
 ·show pageB _ ((plD s:Int)).toNat=_
  rw [Int.toNat_natCast,hat _ (plW_dir s r),dirO_eq hB hN,plU_eq hB hN hr hm]
 ·show pageB _ (plL s i)=Tb.fours (Tb.leafF (plT s) i) 128
  cases h:movB s i
  ·have hb:Tb.bareB (plT s) i=false:=by
    cases e:Tb.bareB (plT s) i
    ·rfl
    ·exact absurd ((plan_bare hB hN i hi).2 e) h0
   have e:plL s i=s.g.lv i:=by rw [plL_not s hi h,if_neg (by rw [hb];simp)]
   have h1:s.g.lv i≠0:=by rw [←e];exact h0
   have h2:=hB.held (i+1) (by omega)
   rw [lab_lv _ _ _ _ hi] at h2
   rw [e,held_stay hB hN r (h2 h1),hO i hi h1]
   exact Tb.fours_congr fun k hk=>(leaf_same hB h hb k hk).symm
  ·obtain⟨t,ht,e⟩:=movL_at s hi h
   have h1:=plL_mov s ht
   have h2:=hat _ (plW_leaf s r ht)
   rw [e] at h1 h2
   rw [h1];exact h2
theorem plan_data (hB:Base s pg) (hN:needS s≤(freeL s).length) (r:Rt) (hn:4*pg≤L.length) (l:Nat) :
  (∀b,s.fr l=some b→plT s l≠0∧pageB (wrP L (plW s r)) (plT s l)=b)∧(s.fr l=none→plT s l=s.kp l∧(s.kp l≠0→pageB (wrP L (plW s r)) (s.kp l)=pageB L (s.kp l))):=by
 constructor
 ·intro b hb
  have hl:=(hB.ex l b hb).2.1
  have hk:l∈s.fr.keys:=Pgs.mem_keys.2 ⟨hl,by rw [hb];rfl⟩
  obtain⟨j,hj,e⟩:=mem_getD hk
  have h1:=plT_key s hj
  have h2:=plW_key s r hj
  rw [e] at h1 h2
  rw [hb] at h2
  have h3:=plW_ok hB hN r h2
  have h4:=wrP_at L _ (plW_nodup hN r) _ h2 (by have:=h3.2.2;omega) h3.1
  have h5:=free_two hB (j:=j) (by unfold needS at hN;omega)
  rw [h1]
  exact⟨by omega,h4⟩
 ·intro hb
  have hk:l∉s.fr.keys:=fun h=>by obtain⟨b,h⟩:=key_at h;rw [hb] at h;cases h
  refine⟨plT_not s hk,fun h0=>held_stay hB hN r ?_⟩
  have hl:l<512:=by
   rcases Nat.lt_or_ge l 512 with h | h
   ·exact h
   ·exact absurd (hB.hi l h) h0
  have h1:=hB.held (l+5) (by omega)
  rw [lab_tb] at h1
  exact h1 h0
end
structure SpGood (s:Sp) (L:List (List Nat)) (pg:Nat):Prop where
 g:StGood s.g
 pgE:s.g.r.pg=(pg:Int)
 lies:LiesOn L s.g
 kp:∀l,s.kp l=0∨s.kp l=s.g.tb l
 ex:∀l b,s.fr l=some b→s.kp l=0∧l<512∧b.length=512∧∀x∈b,x<256
section
variable {s:Sp} {pg:Nat} {L:List (List Nat)}
theorem SpGood.heldU (h:SpGood s L pg) {p:Nat} (hp:usF s.g.r s.g.lv s.g.tb p=true):heldS s p=true:=by
 unfold heldS orB
 rw [h.g.us]
 simp [hp]
theorem SpGood.labs (h:SpGood s L pg) (n:Nat) (h0:lab ⟨0,0,0,0⟩ s.g.lv s.kp n≠0):lab ⟨0,0,0,0⟩ s.g.lv s.kp n=lab s.g.r s.g.lv s.g.tb n:=by
 unfold lab at h0 ⊢
 by_cases h1:n=0
 ·rw [if_pos h1] at h0;exact absurd rfl h0
 ·rw [if_neg h1] at h0 ⊢
  rw [if_neg h1]
  by_cases h2:n<5
  ·rw [if_pos h2,if_pos h2]
  ·rw [if_neg h2] at h0 ⊢
   rw [if_neg h2]
   exact(h.kp (n - 5)).resolve_left h0
theorem SpGood.pgs (h:SpGood s L pg):4≤pg∧pg≤512∧4*pg≤L.length:=by
 have h1:=h.g.mays
 have h2:=h1.p0
 have h3:=h1.p1
 have h4:=h.pgE
 have h5:=h.lies.len
 omega
theorem SpGood.base (h:SpGood s L pg):Base s pg:=by
 have hp:=h.pgs
 refine⟨h.pgE,hp.1,hp.2.1,⟨fun n hn h0=>?_,fun n hn k hk h0 e=>?_⟩,fun n hn h0=>?_,fun l=>?_,h.g.okl,fun i hi hb h0=>?_,h.ex,fun l hl=>?_⟩
 ·have e:=h.labs n h0
  rw [e] at h0 ⊢
  rw [←h.pgE]
  exact h.g.ap.lt n hn h0
 ·have e2:=h.labs n h0
  have e3:=h.labs k (by rw [←e];exact h0)
  rw [e2] at h0
  rw [e2,e3] at e
  exact h.g.ap.inj n hn k hk h0 e
 ·have e:=h.labs n h0
  rw [e] at h0 ⊢
  exact h.heldU (usF_iff.2 ⟨h0,n,hn,rfl⟩)
 ·rcases h.kp l with e | e
  ·rw [e];rfl
  ·rw [e];exact h.g.okt l
 ·rw [(h.g.bare i hi).1 h0] at hb;cases hb
 ·rcases h.kp l with e | e
  ·exact e
  ·rw [e];exact h.g.hi l hl
theorem SpGood.comm (h:SpGood s L pg) (hN:needS s≤(freeL s).length) {r:Rt} (hr:r.pg=(pg:Int)) (hm:may r=true) {L':List (List Nat)} (hL:L'.length=L.length) (hs:∀p,2≤p→pageB L' p=pageB (wrP L (plW s r)) p):SpGood (commS s r) L' pg:=by
 have hB:=h.base
 have hg:=plan_good hB hN hr hm
 have hl:=plan_lies hB hN hr hm h.pgs.2.2 h.lies.leaf
 refine⟨hg,hr,hl.stay hg (by rw [hL,wrP_len]) (fun p hp=>hs p ?_),fun l=>.inr rfl,fun l b e=>by cases e⟩
 obtain⟨h0,n,hn,e⟩:=usF_iff.1 hp
 have e:lab (planRt s r) (plL s) (plT s) n=p:=e
 have h1:=lab_src hB r n hn
 rw [e] at h1
 rcases h1 with h1 | h1 | ⟨j,hj,h1⟩
 ·omega
 ·have h2:=hB.okl
  have h3:=hB.okk
  rw [h1] at h0 ⊢
  unfold lab at h0 ⊢
  by_cases e0:n=0
  ·rw [if_pos e0] at h0;exact absurd rfl h0
  ·rw [if_neg e0] at h0 ⊢
   by_cases e5:n<5
   ·rw [if_pos e5] at h0 ⊢
    have:=h2 (n - 1) (by omega)
    unfold Tb.pgN at this
    simp at this;omega
   ·rw [if_neg e5] at h0 ⊢
    have:=h3 (n - 5)
    unfold Tb.pgN at this
    simp at this;omega
 ·rw [h1];exact(free_two hB (idx_lt hN hj)).1
end
end
section
set_option maxRecDepth 20000
open Go.RowKit
structure RootIs (L:List (List Nat)) (r:Rt):Prop where
 mays:Mays r
 b0:(sec L 0).length=128
 b4:(sec L 4).length=128
 at_:sec L (if r.ep % 2=1 then 4 else 0)=block r
 oth:∀k,k=(if r.ep % 2=1 then 0 else 4)→plE (sec L k) (k:Int)≠0∨(plR (sec L k) (k:Int)).ep<r.ep
theorem pl_block {r:Rt} (h:Mays r) {k:Nat} (hk:k=(if r.ep % 2=1 then 4 else 0)):plE (block r) (k:Int)=0∧plR (block r) (k:Int)=r:=by
 have h1:=place_mays h
 have h2:place r.ep=(k:Int):=by
  rw [h1,hk];split <;> rfl
 unfold plE plR
 rw [decE_block h,decR_block h,h2]
 simp
theorem RootIs.next {L L':List (List Nat)} {r r':Rt} (h:RootIs L r) (hm:Mays r') (he:r'.ep=r.ep+1) (hn:8≤L'.length) (hs:∀j,j<8→sec L' j=sec L j) {pl:Nat} (hp:pl=(if r'.ep % 2=1 then 4 else 0)):RootIs (L'.set pl (block r')) r':=by
 have hpl:pl<L'.length:=by rw [hp];split <;> omega
 have h1:=block_len r'
 refine⟨hm,?_,?_,?_,fun k hk=>?_⟩
 ·rw [sec_set _ hpl]
  split
  ·exact h1
  ·rw [hs 0 (by omega)];exact h.b0
 ·rw [sec_set _ hpl]
  split
  ·exact h1
  ·rw [hs 4 (by omega)];exact h.b4
 ·rw [sec_set _ hpl,if_pos hp]
 ·have hne:pl≠k:=by rw [hp,hk];split <;> omega
  rw [sec_set _ hpl,if_neg hne,hs k (by rw [hk];split <;> omega)]
  have hko:k=(if r.ep % 2=1 then 4 else 0):=by
   rw [hk,he]
   by_cases ho:r.ep % 2=1
   ·rw [if_pos ho,if_neg (by omega)]
   ·rw [if_neg ho,if_pos (by omega)]
  have hb:=pl_block h.mays hko
  have ha:=h.at_
  rw [←hko] at ha
  rw [ha]
  exact .inr (by rw [hb.2];omega)
theorem place_nat {e:Int} (h0:1≤e) (h1:e≤4611686018427387904):place e=((if e % 2=1 then 4 else 0:Nat):Int):=by
 unfold place mayE
 rw [if_pos (by simp [h0,h1])]
 split <;> rfl
structure Inv (m:Dsk) (s:Sp) (pg:Nat):Prop where
 up:m.down=false
 row:m.row=[]
 fuse:m.fuse = -1
 len:m.out.length=4*pg
 ok:Ok m
 sp:SpGood s m.out pg
 rt:RootIs m.out s.g.r
theorem Inv.last {m:Dsk} {s:Sp} {pg:Nat} (h:Inv m s pg):m.last=m.out:=by unfold Dsk.last;rw [h.row];rfl
theorem pageB_set (L:List (List Nat)) {pl p:Nat} (x:List Nat) (h:pl / 4≠p):pageB (L.set pl x) p=pageB L p:=
 pageB_congr fun j hj=>by
  unfold sec
  rw [List.getD_eq_getElem?_getD,List.getD_eq_getElem?_getD,List.getElem?_set_ne (by omega)]
theorem psOk {s:Sp} {pg n:Nat} (hB:Base s pg) (hN:needS s≤(freeL s).length) (r:Rt) (hn:4*pg≤n):PsOk n (plW s r):=fun x hx=>by
 have h:=plW_ok hB hN r hx
 exact⟨by have:=h.2.2;omega,h.1⟩
theorem low_stay {s:Sp} {pg:Nat} {L:List (List Nat)} (hB:Base s pg) (hN:needS s≤(freeL s).length) (r:Rt) (j:Nat) (hj:j<8):sec (wrP L (plW s r)) j=sec L j:=
 wrP_sec _ _ _ (fun x hx e=>by
  have h1:=((free_mem hB).1 (plW_page hN hx)).2.1
  omega)
theorem Inv.comm {m:Dsk} {s:Sp} {pg:Nat} (h:Inv m s pg) (hN:needS s≤(freeL s).length) (word:Int) (hm:may (nextR s word)=true) (hok:Ok (layM m (plW s (nextR s word)) (planRt s (nextR s word))).1) :
  (layM m (plW s (nextR s word)) (planRt s (nextR s word))).2=0∧Inv (layM m (plW s (nextR s word)) (planRt s (nextR s word))).1 (commS s (nextR s word)) pg:=by
 have hB:=h.sp.base
 have hM:Mays (planRt s (nextR s word)):=plan_mays hB hN h.sp.pgE hm
 have hlen:=h.len
 have hp4:=hB.p4
 have hpl:place (planRt s (nextR s word)).ep=((if (s.g.r.ep+1) % 2=1 then 4 else 0:Nat):Int):=place_nat hM.e0 hM.e1
 have hlt:(if (s.g.r.ep+1) % 2=1 then 4 else 0:Nat)<m.out.length:=by split <;> omega
 have hL:=lay_laid h.up h.row (psOk hB hN (nextR s word) (by omega)) hpl hlt
 generalize layM m (plW s (nextR s word)) (planRt s (nextR s word))=M at *
 cases hL with
 | all e d r o f=>
  refine⟨e,d,r,f h.fuse,by rw [o,List.length_set,wrP_len];exact hlen,hok,?_,?_⟩
  ·rw [o]
   exact SpGood.comm (r:=nextR s word) h.sp hN h.sp.pgE hm (by rw [List.length_set,wrP_len]) (fun p hp=>pageB_set (wrP m.out (plW s (nextR s word))) (pl:=if (s.g.r.ep+1) % 2=1 then 4 else 0) (block (planRt s (nextR s word))) (by split <;> omega))
  ·rw [o]
   exact h.rt.next hM rfl (by rw [wrP_len];omega) (fun j hj=>low_stay hB hN _ j hj) rfl
 | cut _ _ f=>exact absurd h.fuse f
 | half _ _ f=>exact absurd h.fuse f
structure StLike (a b:St):Prop where
 r:a.r=b.r
 tb:a.tb=b.tb
 us:a.us=b.us
 lv:∀i,i<4→a.lv i=b.lv i
theorem StLike.lab {a b:St} (h:StLike a b):lab a.r a.lv a.tb=lab b.r b.lv b.tb:=by rw [h.r,h.tb];exact lab_congr h.lv
theorem StLike.usF {a b:St} (h:StLike a b):usF a.r a.lv a.tb=usF b.r b.lv b.tb:=by unfold Go.Proofs.YtmbecjlioogbhaaGreatDoor.usF;rw [h.lab]
theorem StLike.lies {a b:St} {L:List (List Nat)} (h:StLike a b) (g:LiesOn L b):LiesOn L a:=
 ⟨by rw [h.r];exact g.len,by
  rw [show a.r.dr=b.r.dr by rw [h.r],h.usF,g.dir]
  unfold dirF
  rw [h.lv 0 (by omega),h.lv 1 (by omega),h.lv 2 (by omega),h.lv 3 (by omega)],fun i hi h0=>by
  rw [h.lv i hi] at h0 ⊢
  rw [h.tb];exact g.leaf i hi h0⟩
theorem readS_up {m:Dsk} (hd:m.down=false) {i:Nat} (hi:i<m.out.length):readS m (i:Int)=sec m.last i:=by
 unfold readS
 rw [if_neg (by simp [hd]),if_neg (by rw [has_true (by omega) (by omega)];simp),Int.toNat_natCast]
theorem ld_nw {m:Dsk} {x0 x4:List Nat} (hd:m.down=false) (hn:16≤m.out.length) (e0:readS m 0=x0) (e4:readS m 4=x4):ldE m=nwE x0 x4∧ldA m=nwA x0 x4∧ldB m=nwB x0 x4:=by
 have h1:¬ m.out.length<16:=by omega
 have h2:¬ m.down=true:=by simp [hd]
 unfold ldE ldA ldB
 rw [e0,e4]
 exact⟨by rw [if_neg h1,if_neg h2],by rw [if_neg h1,if_neg h2],by rw [if_neg h1,if_neg h2]⟩
end
section
set_option maxRecDepth 20000
open Go.RowKit
structure Xv where
 com:Nat→List Nat
 now:Nat→List Nat
 dirty:Nat→Bool
 word:Int
 ep:Int
def comS (s:Sp) (L:List (List Nat)) (l:Nat):List Nat:=if s.g.tb l=0 then [] else pageB L (s.g.tb l)
def nowS (s:Sp) (L:List (List Nat)) (l:Nat):List Nat:=match s.fr l with | some b=>b | none=>if s.kp l=0 then [] else pageB L (s.kp l)
structure Sim (s:Sp) (L:List (List Nat)) (x:Xv):Prop where
 com:∀l,l<512→x.com l=comS s L l
 now:∀l,l<512→x.now l=nowS s L l
 dirty:∀l,l<512→x.dirty l=(s.fr l).isSome
 word:x.word=s.g.r.wd
 ep:x.ep=s.g.r.ep
theorem pageB_len {L:List (List Nat)} (hs:Secs128 L) {p:Nat} (hp:4*p+4≤L.length):(pageB L p).length=512∧∀x∈pageB L p,x<256:=by
 have h:∀j,j<4→(sec L (4*p+j)).length=128∧∀x∈sec L (4*p+j),x<256:=fun j hj=>hs _ (sec_mem (by omega))
 unfold pageB
 rw [cat_four]
 refine⟨by rw [List.length_append,List.length_append,List.length_append,(h 0 (by omega)).1,(h 1 (by omega)).1,(h 2 (by omega)).1,(h 3 (by omega)).1],fun x hx=>?_⟩
 rcases List.mem_append.1 hx with hx | hx
 ·rcases List.mem_append.1 hx with hx | hx
  ·rcases List.mem_append.1 hx with hx | hx
   ·exact(h 0 (by omega)).2 x hx
   ·exact(h 1 (by omega)).2 x hx
  ·exact(h 2 (by omega)).2 x hx
 ·exact(h 3 (by omega)).2 x hx
section
variable {s:Sp} {L:List (List Nat)} {pg:Nat} {x:Xv}
theorem SpGood.tbLt (h:SpGood s L pg) (l:Nat) (h0:s.g.tb l≠0):l<512∧4*s.g.tb l+4≤L.length:=by
 have hl:l<512:=by
  rcases Nat.lt_or_ge l 512 with h1 | h1
  ·exact h1
  ·exact absurd (h.g.hi l h1) h0
 have h1:=h.g.ap.lt (l+5) (List.mem_range.2 (by omega))
 rw [lab_tb] at h1
 have h2:=h1 h0
 have h3:=h.pgE
 have h4:=h.pgs.2.2
 exact⟨hl,by omega⟩
theorem SpGood.kpLt (h:SpGood s L pg) (l:Nat) (h0:s.kp l≠0):l<512∧4*s.kp l+4≤L.length:=by
 have e:=(h.kp l).resolve_left h0
 rw [e] at h0 ⊢
 exact h.tbLt l h0
def isN (s:Sp) (l:Nat):Bool:=(s.fr l).isSome || !(s.kp l == 0)
theorem now_len (h:SpGood s L pg) (hs:Secs128 L) (l:Nat):(isN s l=true→(nowS s L l).length=512∧∀x∈nowS s L l,x<256)∧(isN s l=false→nowS s L l=[]):=by
 unfold isN nowS
 cases e:s.fr l with
 | some b=>exact⟨fun _=>(h.ex l b e).2.2,fun h=>by simp at h⟩
 | none=>
  by_cases h0:s.kp l=0
  ·refine⟨fun h1=>?_,fun _=>?_⟩
   ·simp [h0] at h1
   ·show (if s.kp l=0 then [] else pageB L (s.kp l))=[];rw [if_pos h0]
  ·refine⟨fun _=>?_,fun h1=>?_⟩
   ·show (if s.kp l=0 then [] else pageB L (s.kp l)).length=512∧∀x∈(if s.kp l=0 then [] else pageB L (s.kp l)),x<256
    rw [if_neg h0];exact pageB_len hs (h.kpLt l h0).2
   ·simp [h0] at h1
theorem com_len (h:SpGood s L pg) (hs:Secs128 L) (l:Nat):(s.g.tb l≠0→(comS s L l).length=512∧∀x∈comS s L l,x<256)∧(s.g.tb l=0→comS s L l=[]):=by
 unfold comS
 constructor
 ·intro h0;rw [if_neg h0];exact pageB_len hs (h.tbLt l h0).2
 ·intro h0;rw [if_pos h0]
theorem now_nil (h:SpGood s L pg) (hs:Secs128 L) (l:Nat):(nowS s L l=[]↔isN s l=false):=by
 have h1:=now_len h hs l
 constructor
 ·intro e
  cases e2:isN s l
  ·rfl
  ·have:=(h1.1 e2).1;rw [e] at this;cases this
 ·exact h1.2
theorem com_nil (h:SpGood s L pg) (hs:Secs128 L) (l:Nat):(comS s L l=[]↔s.g.tb l=0):=by
 have h1:=com_len h hs l
 constructor
 ·intro e
  by_cases e2:s.g.tb l=0
  ·exact e2
  ·have:=(h1.1 e2).1;rw [e] at this;cases this
 ·exact h1.2
theorem hasS_isN (s:Sp) {l:Nat} (h:l<512):hasS s (l:Int)=isN s l:=by
 unfold hasS isN Pgs.at_
 rw [if_pos (by omega),Int.toNat_natCast,Tb.getI_nat _ h]
theorem hasS_out (s:Sp) {y:Int} (h:¬ (0≤y∧y<512)) (hf:∀l,(s.fr l).isSome=true→l<512):hasS s y=false:=by
 unfold hasS Pgs.at_
 rw [Tb.getI_out _ h]
 by_cases h0:0≤y
 ·rw [if_pos h0]
  cases e:(s.fr y.toNat).isSome
  ·rfl
  ·have:=hf _ e;omega
 ·rw [if_neg h0];rfl
theorem SpGood.frLt (h:SpGood s L pg) (l:Nat) (e:(s.fr l).isSome=true):l<512:=by
 obtain⟨b,hb⟩:=Option.isSome_iff_exists.1 e
 exact(h.ex l b hb).2.1
theorem dropT_at (f:Nat→Nat) {l:Nat} (hl:l<512) (k:Nat):Tb.dropT f (l:Int) k=if k=l then 0 else f k:=by
 unfold Tb.dropT
 rw [if_pos (by omega),Int.toNat_natCast]
 by_cases e:k=l
 ·subst e;rw [if_pos rfl,Tb.updN_same]
 ·rw [if_neg e,Tb.updN_other _ _ _ _ e]
theorem SpGood.put (h:SpGood s L pg) {l:Nat} (hl:l<512) {b:List Nat} (hb:b.length=512∧∀x∈b,x<256):SpGood (putS s l b) L pg:=by
 refine⟨h.g,h.pgE,h.lies,fun k=>?_,fun k c e=>?_⟩
 ·show Tb.dropT s.kp (l:Int) k=0∨Tb.dropT s.kp (l:Int) k=s.g.tb k
  rw [dropT_at _ hl]
  by_cases ek:k=l
  ·rw [if_pos ek];exact .inl rfl
  ·rw [if_neg ek];exact h.kp k
 ·show Tb.dropT s.kp (l:Int) k=0∧_
  rw [dropT_at _ hl]
  have e:s.fr.put l b k=some c:=e
  by_cases ek:k=l
  ·rw [if_pos ek]
   subst ek
   rw [Pgs.put_same] at e
   cases e
   exact⟨rfl,hl,hb⟩
  ·rw [Pgs.put_other _ _ _ _ ek] at e
   rw [if_neg ek]
   exact h.ex k c e
def Xv.put (x:Xv) (l:Nat) (b:List Nat):Xv:={ x with now:=fun k=>if k=l then b else x.now k,dirty:=fun k=>if k=l then true else x.dirty k }
theorem Sim.put (h:Sim s L x) {l:Nat} (hl:l<512) (b:List Nat):Sim (putS s l b) L (x.put l b):=by
 refine⟨h.com,fun k hk=>?_,fun k hk=>?_,h.word,h.ep⟩
 ·show (if k=l then b else x.now k)=nowS (putS s l b) L k
  unfold nowS
  show _=(match s.fr.put l b k with | some b=>b | none=>if Tb.dropT s.kp (l:Int) k=0 then [] else pageB L (Tb.dropT s.kp (l:Int) k))
  by_cases ek:k=l
  ·subst ek;rw [if_pos rfl,Pgs.put_same]
  ·rw [if_neg ek,Pgs.put_other _ _ _ _ ek,h.now k hk,dropT_at _ hl,if_neg ek];rfl
 ·show (if k=l then true else x.dirty k)=(s.fr.put l b k).isSome
  by_cases ek:k=l
  ·subst ek;rw [if_pos rfl,Pgs.put_same];rfl
  ·rw [if_neg ek,Pgs.put_other _ _ _ _ ek];exact h.dirty k hk
def Xv.commit (x:Xv) (word:Int):Xv:={ com:=x.now,now:=x.now,dirty:=fun _=>false,word:=word,ep:=x.ep+1 }
theorem Sim.comm (h:Sim s L x) (hG:SpGood s L pg) (hN:needS s≤(freeL s).length) (word:Int) {L':List (List Nat)} (hs:∀p,2≤p→pageB L' p=pageB (wrP L (plW s (nextR s word))) p):Sim (commS s (nextR s word)) L' (x.commit word):=by
 have hB:=hG.base
 have hkey:∀l,comS (commS s (nextR s word)) L' l=nowS s L l:=fun l=>by
  have hd:=plan_data hB hN (nextR s word) hG.pgs.2.2 l
  unfold comS nowS
  show (if plT s l=0 then [] else pageB L' (plT s l))=_
  cases e:s.fr l with
  | some b=>
   have h1:=hd.1 b e
   have h2:=plan_okt hB hN l
   rw [if_neg h1.1,hs _ (by unfold Tb.pgN at h2;simp at h2;omega)]
   exact h1.2
  | none=>
   have h1:=hd.2 e
   rw [h1.1]
   by_cases h0:s.kp l=0
   ·rw [if_pos h0];show _=(if s.kp l=0 then [] else pageB L (s.kp l));rw [if_pos h0]
   ·have h2:=hB.okk l
    rw [if_neg h0,hs _ (by unfold Tb.pgN at h2;simp at h2;omega),h1.2 h0]
    show _=(if s.kp l=0 then [] else pageB L (s.kp l));rw [if_neg h0]
 refine⟨fun l hl=>?_,fun l hl=>?_,fun _ _=>rfl,rfl,?_⟩
 ·show x.now l=_
  rw [h.now l hl,hkey l]
 ·show x.now l=_
  rw [h.now l hl,←hkey l];rfl
 ·show x.ep+1=s.g.r.ep+1
  rw [h.ep]
theorem rd_now (m:Dsk) (s:Sp) (hm:m.last=L) {l:Nat} (hl:l<512):rdV m s (l:Int)=if isN s l=true then some (nowS s L l) else none:=by
 unfold rdV isN nowS Pgs.at_
 rw [if_pos (by omega),Int.toNat_natCast,Tb.getI_nat _ hl,hm]
 cases e:s.fr l with
 | some b=>rfl
 | none=>
  by_cases h0:s.kp l=0
  ·simp [h0]
  ·simp [h0]
end
end
end Go.Proofs.YtmbecjlioogbhaaGreatDoor
