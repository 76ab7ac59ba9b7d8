/- Texts PClaim to YStm of this seat, laid into one. -/
import Derived.Laws.EntriesVeiled
import Derived.StillTailTactics
import Derived.Test.YtmbecjlioogbhaaGreatDoorM12
set_option linter.unusedVariables false
set_option linter.unusedSimpArgs false
set_option linter.constructorNameAsVariable false
namespace Go.Proofs.YtmbecjlioogbhaaGreatDoor
section
set_option maxRecDepth 20000
open Go.RowKit
def clm (pg:Int) (c:(Nat→Bool) × Bool) (x:Int):(Nat→Bool) × Bool:=
 if x<pg then (Bi.putI 512 c.1 x,c.2 && Bi.newI 512 c.1 x) else (c.1,false)
def claims (r:Rt) (lv tb:Nat→Nat):List Int:=
 r.dr :: ((((List.range 4).filter fun i=>!(lv i == 0)).map fun i=>((lv i:Nat):Int))++(Tb.mems (Tb.told tb) 512).map fun l=>((tb l:Nat):Int))
def pgsM (r:Rt) (lv tb:Nat→Nat):(Nat→Bool) × Bool:=(claims r lv tb).foldl (clm r.pg) (fun _=>false,true)
def stA (r:Rt) (lv:Nat→Nat) (pt pu:Option Addr):Array Value:=
 #[.int .i64 r.ep, .int .i64 r.pg, .int .i64 r.dr, .int .i64 r.wd, .int .i64 (lv 0 : Nat), .int .i64 (lv 1 : Nat), .int .i64 (lv 2 : Nat), .int .i64 (lv 3 : Nat), .pointer pt, .pointer pu]
structure Stt (w:World) (g pt:Nat) (pu:Option Addr) (r:Rt) (lv tb:Nat→Nat):Prop where
 box:w.heap[g]?=some (.cells (stA r lv (some ⟨pt,0,none⟩) pu) 98 (0,0))
 tab:Tb.Tab w pt tb
section
variable {w w':World} {g pt:Nat} {pu:Option Addr} {r:Rt} {lv tb:Nat→Nat}
theorem Stt.cell (h:Stt w g pt pu r lv tb) (i:Nat) (v:Value) (hv:(stA r lv (some ⟨pt,0,none⟩) pu)[i]?=some v):w.cell? ⟨g,i,none⟩=some v:=by
 rw [cell_of_row _ _ _ _ _ _ h.box];exact hv
theorem Stt.same (h:Stt w g pt pu r lv tb) (h1:w'.heap[g]?=w.heap[g]?) (h2:w'.heap[pt]?=w.heap[pt]?):Stt w' g pt pu r lv tb:=⟨h1.trans h.box,h.tab.same h2⟩
theorem Stt.lt (h:Stt w g pt pu r lv tb):g<w.heap.size:=lt_of_block h.box
theorem Stt.below (h:Stt w g pt pu r lv tb) (hb:Below w.heap.size w w'):Stt w' g pt pu r lv tb:=h.same (hb.block g h.lt) (hb.block pt h.tab.lt)
end
structure Clm (W:World) (B1 B2 B3 g pt gu bu:Nat) (pu:Option Addr) (r:Rt) (lv tb:Nat→Nat) (c:(Nat→Bool) × Bool):Prop where
 c1:W.cell? ⟨B1,0,none⟩=some (.pointer (some ⟨g,0,none⟩))
 c2:W.cell? ⟨B2,0,none⟩=some (.pointer (some ⟨gu,0,none⟩))
 c3:W.cell? ⟨B3,0,none⟩=some (.bool c.2)
 f3:W.frozen? ⟨B3,0,none⟩=false
 st:Stt W g pt pu r lv tb
 sat:Bi.Sat W gu bu 512 c.1
 n1:B1≠B3∧B2≠B3∧g≠B3∧pt≠B3∧gu≠B3∧bu≠B3
 n2:B1≠bu∧B2≠bu∧g≠bu∧pt≠bu∧B3≠bu
section
variable {W W':World} {B1 B2 B3 g pt gu bu:Nat} {pu:Option Addr} {r:Rt} {lv tb:Nat→Nat} {c:(Nat→Bool) × Bool}
theorem Clm.keep (h:Clm W B1 B2 B3 g pt gu bu pu r lv tb c) (hk:Keep [B1,B2,B3,g,pt,gu,bu] W W'):Clm W' B1 B2 B3 g pt gu bu pu r lv tb c:=
 ⟨(
  World.cell?_of_block (hk B1 (by simp))).trans h.c1,(World.cell?_of_block (hk B2 (by simp))).trans h.c2,(World.cell?_of_block (hk B3 (by simp))).trans h.c3,(World.frozen?_of_block (hk B3 (by simp))).trans h.f3,
  h.st.same (hk g (by simp)) (hk pt (by simp)),h.sat.same (hk gu (by simp)) (hk bu (by simp)),h.n1,h.n2⟩
theorem Clm.lt (h:Clm W B1 B2 B3 g pt gu bu pu r lv tb c):∀k∈[B1,B2,B3,g,pt,gu,bu],k<W.heap.size:=by
 intro k hk
 simp only [List.mem_cons,List.not_mem_nil,or_false] at hk
 rcases hk with rfl | rfl | rfl | rfl | rfl | rfl | rfl
 ·exact World.block_lt_of_cell? W _ h.c1
 ·exact World.block_lt_of_cell? W _ h.c2
 ·exact World.block_lt_of_cell? W _ h.c3
 ·exact h.st.lt
 ·exact h.st.tab.lt
 ·exact h.sat.glt
 ·exact h.sat.blt
theorem Clm.below (h:Clm W B1 B2 B3 g pt gu bu pu r lv tb c) (hb:Below W.heap.size W W'):Clm W' B1 B2 B3 g pt gu bu pu r lv tb c:=h.keep (Keep.of_below hb h.lt)
theorem Clm.setSat (h:Clm W B1 B2 B3 g pt gu bu pu r lv tb c) {f:Nat→Bool} (hs:Bi.Sat W' gu bu 512 f) (ho:Only bu W W'):Clm W' B1 B2 B3 g pt gu bu pu r lv tb (f,c.2):=
 ⟨(
  World.cell?_of_block (ho.block B1 (h.lt B1 (by simp)) h.n2.1)).trans h.c1,(World.cell?_of_block (ho.block B2 (h.lt B2 (by simp)) h.n2.2.1)).trans h.c2,(World.cell?_of_block (ho.block B3 (h.lt B3 (by simp)) h.n2.2.2.2.2)).trans h.c3,(World.frozen?_of_block (ho.block B3 (h.lt B3 (by simp)) h.n2.2.2.2.2)).trans h.f3,
  h.st.same (ho.block g h.st.lt h.n2.2.2.1) (ho.block pt h.st.tab.lt h.n2.2.2.2.1),hs,h.n1,h.n2⟩
theorem Clm.setOff (h:Clm W B1 B2 B3 g pt gu bu pu r lv tb c) (b:Bool):Clm (W.setCell ⟨B3,0,none⟩ (.bool b)) B1 B2 B3 g pt gu bu pu r lv tb (c.1,b):=by
 have ho:Only B3 W (W.setCell ⟨B3,0,none⟩ (.bool b)):=Only.setCell B3 0 _ W
 exact⟨(World.cell?_of_block (ho.block B1 (h.lt B1 (by simp)) h.n1.1)).trans h.c1,(World.cell?_of_block (ho.block B2 (h.lt B2 (by simp)) h.n1.2.1)).trans h.c2,World.cell?_setCell_same' _ _ _ (by rw [h.c3];rfl),by rw [World.frozen?_setCell];exact h.f3,
  h.st.same (ho.block g h.st.lt h.n1.2.2.1) (ho.block pt h.st.tab.lt h.n1.2.2.2.1),h.sat.same (ho.block gu h.sat.glt h.n1.2.2.2.2.1) (ho.block bu h.sat.blt h.n1.2.2.2.2.2),h.n1,h.n2⟩
set_option maxHeartbeats 1600000 in
theorem claim_any (h:Clm W B1 B2 B3 g pt gu bu pu r lv tb c) (x:Int) :
  Calls Tryz.prog 178 #[.int .i64 x,.pointer (some ⟨B1,0,none⟩),.pointer (some ⟨B2,0,none⟩),.pointer (some ⟨B3,0,none⟩)] W fun e W'=>e = .returned (.tuple #[])∧Clm W' B1 B2 B3 g pt gu bu pu r lv tb (clm r.pg c x)∧Chg [bu,B3] [bu,B3] W W':=by
 have c1:=h.c1
 have c2:=h.c2
 have c3:=h.c3
 have f3:=h.f3
 have p1:W.cell? ⟨g,1,none⟩=some (.int .i64 r.pg):=h.st.cell 1 _ rfl
 have HX:=Lib.hid h
 have HP:=Lib.hid (Bi.put_any h.sat x)
 have HC:Hid (clm r.pg c x=if x<r.pg then (Bi.putI 512 c.1 x,c.2 && Bi.newI 512 c.1 x) else (c.1,false)):=Lib.hid rfl
 rw [HC.out]
 clear h HC
 generalize r.pg=pg at *
 by_cases hx:x<pg
 ·have hd:decide (pg≤x)=false:=decide_eq_false (by omega)
  have hd2:decide (x ≥ pg)=false:=decide_eq_false (by omega)
  rw [if_pos hx]
  clear hx
  cases hn:Bi.newI 512 c.1 x with
  | true=>
   rw [hn] at HP
   rw [Bool.and_true]
   generalize Bi.putI 512 c.1 x=f2 at *
   clear hn
   go_enter Tryz.func178,Tryz.ntmps178
   go_wp2_with (go_at_call 179;refine HP.out.mono ?_;rintro e w7 ⟨rfl,hS,hO⟩)
   go_end0
   exact⟨rfl,HX.out.setSat hS hO,Chg.of_only hO (by simp)⟩
  | false=>
   rw [hn] at HP
   rw [Bool.and_false]
   generalize Bi.putI 512 c.1 x=f2 at *
   clear hn
   go_enter Tryz.func178,Tryz.ntmps178
   go_upto_region 1 with (go_at_call 179;refine HP.out.mono ?_;rintro e w7 ⟨rfl,hS,hO⟩)
   have HX7:=Lib.hid (HX.out.setSat hS hO)
   have HC7:Hid (Chg [bu,B3] [bu,B3] W w7):=Lib.hid (Chg.of_only hO (by simp))
   have d3:=HX7.out.c3
   have e3:=HX7.out.f3
   have HX8:=Lib.hid (HX7.out.setOff false)
   clear hS hO HX7 HX HP c1 c2 c3 f3 p1
   go_wp2_with fail
   go_end0
   exact⟨rfl,HX8.out,HC7.out.trans (Chg.setCell (by simp) _ _)⟩
 ·have hd:decide (pg≤x)=true:=decide_eq_true (by omega)
  have hd2:decide (x ≥ pg)=true:=decide_eq_true (by omega)
  rw [if_neg hx]
  have HX8:=Lib.hid (HX.out.setOff false)
  clear hx
  go_enter Tryz.func178,Tryz.ntmps178
  go_wp2_with fail
  go_end0
  exact⟨rfl,HX8.out,Chg.setCell (by simp) _ _⟩
end
end
section
set_option maxRecDepth 20000
open Go.RowKit Go.Shelf
attribute [local go_sem] Oper.semAt_some
def lvL (lv:Nat→Nat) (i:Nat):List Int:=((List.range i).filter fun i=>!(lv i == 0)).map fun i=>((lv i:Nat):Int)
theorem lvL_succ (lv:Nat→Nat) (i:Nat):lvL lv (i+1)=lvL lv i++(if lv i=0 then [] else [((lv i:Nat):Int)]):=by
 unfold lvL
 rw [List.range_succ,List.filter_append,List.map_append]
 congr 1
 by_cases h:lv i=0
 ·simp [h]
 ·simp [h]
structure Amid (w wr:World) (B1 B2 B3 B6 g pt gu bu:Nat) (pu:Option Addr) (r:Rt) (lv tb:Nat→Nat) (c:(Nat→Bool) × Bool):Prop where
 cl:Clm wr B1 B2 B3 g pt gu bu pu r lv tb c
 c6:wr.cell? ⟨B6,0,none⟩=some (.func (.func 178) #[] #[.pointer (some ⟨B1,0,none⟩),.pointer (some ⟨B2,0,none⟩),.pointer (some ⟨B3,0,none⟩)])
 bel:Below w.heap.size w wr
 n6:B6≠bu∧B6≠B3
 hi:w.heap.size≤bu∧w.heap.size≤B3
theorem Amid.below {w wr w':World} {B1 B2 B3 B6 g pt gu bu:Nat} {pu:Option Addr} {r:Rt} {lv tb:Nat→Nat} {c:(Nat→Bool) × Bool} (h:Amid w wr B1 B2 B3 B6 g pt gu bu pu r lv tb c) (hb:Below wr.heap.size wr w'):Amid w w' B1 B2 B3 B6 g pt gu bu pu r lv tb c:=
 ⟨h.cl.below hb,(hb.cell (p:=⟨B6,0,none⟩) (World.block_lt_of_cell? wr _ h.c6)).trans h.c6,Below.more h.bel hb h.bel.size,h.n6,h.hi⟩
theorem Amid.grown {w wr w':World} {B1 B2 B3 B6 g pt gu bu:Nat} {pu:Option Addr} {r:Rt} {lv tb:Nat→Nat} {c:(Nat→Bool) × Bool} (h:Amid w wr B1 B2 B3 B6 g pt gu bu pu r lv tb c) {row:Option Nat} (hg:wr.grownBy w' row)
  (hr:∀k∈[B1,B2,B3,g,pt,gu,bu,B6],some k≠row) (hw:∀j,row=some j→w.heap.size≤j):Amid w w' B1 B2 B3 B6 g pt gu bu pu r lv tb c:=
 ⟨h.cl.keep (fun k hk=>hg.block k (h.cl.lt k hk) (hr k ((List.mem_append (s:=[B1,B2,B3,g,pt,gu,bu]) (t:=[B6])).2 (.inl hk)))),(World.cell?_of_block (hg.block B6 (World.block_lt_of_cell? wr _ h.c6) (hr B6 (by simp)))).trans h.c6,h.bel.grown hg h.bel.size hw,h.n6,h.hi⟩
theorem Amid.lt {w wr:World} {B1 B2 B3 B6 g pt gu bu:Nat} {pu:Option Addr} {r:Rt} {lv tb:Nat→Nat} {c:(Nat→Bool) × Bool} (h:Amid w wr B1 B2 B3 B6 g pt gu bu pu r lv tb c):∀k∈[B1,B2,B3,g,pt,gu,bu,B6],k<wr.heap.size:=fun k hk=>by
 by_cases e:k=B6
 ·rw [e];exact World.block_lt_of_cell? wr _ h.c6
 ·exact h.cl.lt k (((List.mem_append (s:=[B1,B2,B3,g,pt,gu,bu]) (t:=[B6])).1 hk).elim id (fun h2=>absurd (by simpa using h2) e))
theorem Amid.claim {w wr w':World} {B1 B2 B3 B6 g pt gu bu:Nat} {pu:Option Addr} {r:Rt} {lv tb:Nat→Nat} {c c':(Nat→Bool) × Bool} (h:Amid w wr B1 B2 B3 B6 g pt gu bu pu r lv tb c)
  (hc:Clm w' B1 B2 B3 g pt gu bu pu r lv tb c') (hg:Chg [bu,B3] [bu,B3] wr w'):Amid w w' B1 B2 B3 B6 g pt gu bu pu r lv tb c':=
 ⟨hc,(World.cell?_of_block (hg.block B6 (World.block_lt_of_cell? wr _ h.c6) (by simp;exact h.n6))).trans h.c6,hg.below h.bel h.bel.size (by intro k hk;simp only [List.mem_cons,List.not_mem_nil,or_false] at hk;rcases hk with rfl | rfl;exact h.hi.1;exact h.hi.2),h.n6,h.hi⟩
section
variable {w:World} {g pt:Nat} {pu:Option Addr} {r:Rt} {lv tb:Nat→Nat}
set_option maxRecDepth 100000 in
set_option maxHeartbeats 3200000 in
theorem pagesS_any (h:Stt w g pt pu r lv tb) :
  Calls Tryz.prog 142 #[.pointer (some ⟨g,0,none⟩)] w fun e w'=>(∃gu bu,e = .returned (.tuple #[.pointer (some ⟨gu,0,none⟩),.bool (pgsM r lv tb).2])∧w.heap.size≤gu∧w.heap.size≤bu∧Bi.Sat w' gu bu 512 (pgsM r lv tb).1)∧Below w.heap.size w w':=by
 have HN:=Lib.hid (fun w=>noPages_any w)
 have HX:=Lib.hid h
 clear h
 refine(callsIn_wide (n:=5)).1 ?_
 refine callsIn_of_wp_marks Tryz.func142 rfl trivial ?_ rfl
 simp only [Tryz.ntmps142,List.size_toArray,List.length_cons,List.length_nil,Nat.reduceAdd,Nat.reduceSub,Array.replicate_succ,Array.replicate_zero,List.push_toArray,List.append_toArray,List.nil_append,List.cons_append]
 refine wpIn_wide.2 ?_
 go_upto_region 1 with fail
 have HA:=Lib.hid (alloc_below w (.cells #[.pointer (some ⟨g,0,none⟩)] 237))
 have HA1:Hid ((w.alloc (.cells #[.pointer (some ⟨g,0,none⟩)] 237)).cell? ⟨w.heap.size,0,none⟩=some (.pointer (some ⟨g,0,none⟩))):=Lib.hid (World.cell?_alloc_new w _ _ 0)
 have HA2:Hid ((w.alloc (.cells #[.pointer (some ⟨g,0,none⟩)] 237)).heap.size=w.heap.size+1):=Lib.hid (by simp)
 generalize w.alloc (.cells #[.pointer (some ⟨g,0,none⟩)] 237)=w1 at *
 have HE:Hid (∀u:World,((u.alloc (.cells #[.pointer none] 96)).alloc (.cells #[.bool false] 4)).cell? ⟨u.heap.size,0,none⟩=some (.pointer none)∧((u.alloc (.cells #[.pointer none] 96)).alloc (.cells #[.bool false] 4)).frozen? ⟨u.heap.size,0,none⟩=false ∧
   ((u.alloc (.cells #[.pointer none] 96)).alloc (.cells #[.bool false] 4)).cell? ⟨u.heap.size+1,0,none⟩=some (.bool false)∧((u.alloc (.cells #[.pointer none] 96)).alloc (.cells #[.bool false] 4)).frozen? ⟨u.heap.size+1,0,none⟩=false):=Lib.hid fun u=>by
  have a1:=heap_alloc2_old u (.cells #[.pointer none] 96) (.cells #[.bool false] 4)
  have a2:=heap_alloc2_new u (.cells #[.pointer none] 96) (.cells #[.bool false] 4)
  exact⟨by rw [cell_of_row _ _ _ _ _ _ a1];rfl,frozen_of_row _ _ _ _ _ a1,by rw [cell_of_row _ _ _ _ _ _ a2];rfl,frozen_of_row _ _ _ _ _ a2⟩
 go_upto_region 2 with (go_at_call 177;refine(HN.out _).mono ?_;rintro e w2 ⟨⟨gu,bu,rfl,ha,hb,hS⟩,hb2⟩;obtain⟨e1,e2,e3,e4⟩:=HE.out w2)
 have a1:=heap_alloc2_old w2 (.cells #[.pointer (some ⟨gu,0,none⟩)] 96) (.cells #[.bool true] 4)
 have a2:=heap_alloc2_new w2 (.cells #[.pointer (some ⟨gu,0,none⟩)] 96) (.cells #[.bool true] 4)
 have hb3:Below w2.heap.size w2 ((w2.alloc (.cells #[.pointer (some ⟨gu,0,none⟩)] 96)).alloc (.cells #[.bool true] 4)):=((Below.refl _ _).alloc (Nat.le_refl _) _).alloc (by simp) _
 have HS3:Hid (((w2.alloc (.cells #[.pointer (some ⟨gu,0,none⟩)] 96)).alloc (.cells #[.bool true] 4)).heap.size=w2.heap.size+2):=Lib.hid (by simp)
 have HSZ:Hid (w.heap.size<w2.heap.size∧w1.heap.size≤w2.heap.size):=Lib.hid (by have:=HA2.out;have:=hb2.size;omega)
 have HCL0:Hid (Clm ((w2.alloc (.cells #[.pointer (some ⟨gu,0,none⟩)] 96)).alloc (.cells #[.bool true] 4)) w.heap.size w2.heap.size (w2.heap.size+1) g pt gu bu pu r lv tb (fun _=>false,true)):=Lib.hid (by
  have hgl:=HX.out.lt
  have hptl:=HX.out.tab.lt
  have hgu:=hS.glt
  have hbu:=hS.blt
  have hs1:=HA2.out
  have hs2:=hb2.size
  refine⟨?_,by rw [cell_of_row _ _ _ _ _ _ a1];rfl,by rw [cell_of_row _ _ _ _ _ _ a2];rfl,frozen_of_row _ _ _ _ _ a2,((HX.out.below HA.out).below hb2).below hb3,hS.below hb3,⟨by omega,by omega,by omega,by omega,by omega,by omega⟩,⟨by omega,by omega,by omega,by omega,by omega⟩⟩
  rw [hb3.cell (p:=⟨w.heap.size,0,none⟩) (by show w.heap.size<_;omega),hb2.cell (p:=⟨w.heap.size,0,none⟩) (by show w.heap.size<_;omega)]
  exact HA1.out)
 have HB3:Hid (Below w.heap.size w ((w2.alloc (.cells #[.pointer (some ⟨gu,0,none⟩)] 96)).alloc (.cells #[.bool true] 4))):=Lib.hid (Below.more (Below.more HA.out hb2 HA.out.size) hb3 (Nat.le_of_lt HSZ.out.1))
 have HGU:Hid (w.heap.size≤gu∧w.heap.size≤bu):=Lib.hid (by have:=HA2.out;omega)
 clear HN HA HA1 HE e1 e2 e3 e4 a1 a2 hb3 hS hb2 ha hb
 obtain⟨B1,hB1⟩:∃B1,w.heap.size=B1:=⟨_,rfl⟩
 obtain⟨B2,hB2⟩:∃B2,w2.heap.size=B2:=⟨_,rfl⟩
 obtain⟨B3,hB3⟩:∃B3,w2.heap.size+1=B3:=⟨_,rfl⟩
 have HBS:Hid (w.heap.size=B1∧B1<B2∧B3=B2+1):=Lib.hid ⟨hB1,by have:=HSZ.out;omega,by omega⟩
 generalize ((w2.alloc (.cells #[.pointer (some ⟨gu,0,none⟩)] 96)).alloc (.cells #[.bool true] 4))=w3 at *
 rw [hB1,hB3,hB2] at HCL0
 rw [hB2] at HS3
 rw [hB1,hB3,hB2]
 have q1:(w3.alloc (.cells #[.nilFunc] 41)).cell? ⟨w3.heap.size,0,none⟩=some .nilFunc:=World.cell?_alloc_new w3 _ _ 0
 have q2:(w3.alloc (.cells #[.nilFunc] 41)).frozen? ⟨w3.heap.size,0,none⟩=false:=free_of_one (heap_alloc_new w3 _)
 clear hB1 hB2 hB3 HSZ HA2
 go_upto_region 3 with fail
 have hb4:=alloc_below w3 (.cells #[.func (.func 178) #[] #[.pointer (some ⟨B1,0,none⟩),.pointer (some ⟨B2,0,none⟩),.pointer (some ⟨B3,0,none⟩)]] 41)
 have HAM:Hid (Amid w (w3.alloc (.cells #[.func (.func 178) #[] #[.pointer (some ⟨B1,0,none⟩),.pointer (some ⟨B2,0,none⟩),.pointer (some ⟨B3,0,none⟩)]] 41)) B1 B2 B3 w3.heap.size g pt gu bu pu r lv tb (fun _=>false,true)):=Lib.hid
  ⟨HCL0.out.below hb4,World.cell?_alloc_new w3 _ _ 0,Below.more HB3.out hb4 HB3.out.size,⟨by have:=HCL0.out.sat.blt;omega,by have:=HS3.out;have:=HBS.out;omega⟩,⟨HGU.out.2,by have:=HBS.out;omega⟩⟩
 generalize w3.alloc (.cells #[.func (.func 178) #[] #[.pointer (some ⟨B1,0,none⟩),.pointer (some ⟨B2,0,none⟩),.pointer (some ⟨B3,0,none⟩)]] 41)=w4 at *
 generalize w3.heap.size=B6 at *
 have HGU2:=Lib.hid HGU.out.1
 clear q1 q2 hb4 HCL0 HB3 HS3 HX HBS HGU
 have k6:=HAM.out.c6
 have k1:=HAM.out.cl.c1
 have kd:w4.cell? ⟨g,2,none⟩=some (.int .i64 r.dr):=HAM.out.cl.st.cell 2 _ rfl
 have HAM2:=Lib.hid (HAM.out.below (Below.refl _ _).drew)
 have HCA:=Lib.hid (claim_any HAM2.out.cl r.dr)
 go_cut [] from 11 to 22 (fun wx=>Amid w wx B1 B2 B3 B6 g pt gu bu pu r lv tb (clm r.pg (fun _=>false,true) r.dr))
 case first=>
  go_still_tail 6,(by kernel_rfl)
  change wpList _ _ _ _ _ (World.drew _)
  go_wp2_with (go_at_call 178;refine HCA.out.mono ?_;rintro e w5 ⟨rfl,hC5,hG5⟩)
  have HF:=Lib.hid (HAM2.out.claim hC5 hG5)
  clear hC5 hG5
  go_meet
  exact HF.out
 case rest=>
  have HA5:=Lib.hid hcut
  clear hcut HAM HAM2 HCA k6 k1 kd
  have k1:=HA5.out.cl.c1
  have l0:wc.cell? ⟨g,4,none⟩=some (.int .i64 (lv 0:Nat)):=HA5.out.cl.st.cell 4 _ rfl
  have l1:wc.cell? ⟨g,5,none⟩=some (.int .i64 (lv 1:Nat)):=HA5.out.cl.st.cell 5 _ rfl
  have l2:wc.cell? ⟨g,6,none⟩=some (.int .i64 (lv 2:Nat)):=HA5.out.cl.st.cell 6 _ rfl
  have l3:wc.cell? ⟨g,7,none⟩=some (.int .i64 (lv 3:Nat)):=HA5.out.cl.st.cell 7 _ rfl
  go_wp2_with fail
  obtain⟨c0,hc0⟩:∃c0,clm r.pg (fun _=>false,true) r.dr=c0:=⟨_,rfl⟩
  rw [hc0] at HA5
  have HC0:=Lib.hid hc0
  clear hc0 k1 l0 l1 l2 l3
  have HLV:Hid (∀i:Nat,i<4→(#[Value.int .i64 (lv 0:Nat),.int .i64 (lv 1:Nat),.int .i64 (lv 2:Nat),.int .i64 (lv 3:Nat)]:Array Value)[i]?=some (.int .i64 (lv i:Nat))):=Lib.hid fun i hi=>by
   rcases (show i=0∨i=1∨i=2∨i=3 by omega) with rfl | rfl | rfl | rfl <;> rfl
  obtain⟨LA,hLA⟩:∃LA,(#[Value.int .i64 (lv 0:Nat),.int .i64 (lv 1:Nat),.int .i64 (lv 2:Nat),.int .i64 (lv 3:Nat)]:Array Value)=LA:=⟨_,rfl⟩
  rw [hLA] at HLV ⊢
  clear hLA
  go_loopw [24] (fun iv wr=>∃i:Nat,i≤4∧iv = .int .i64 (i:Int)∧Hid (Amid w wr B1 B2 B3 B6 g pt gu bu pu r lv tb ((lvL lv i).foldl (clm r.pg) c0))) (fun iv _=>4 - (RowKit.intOf iv).toNat)
  case atStart=>exact⟨0,by omega,by go_num,HA5⟩
  case round=>
   obtain⟨i,hi4,rfl,HA⟩:=hrel
   have hz4:(i:Int)≤4:=by omega
   by_cases hlt:i<4
   ·have hd:decide ((i:Int)<4)=true:=decide_eq_true (by omega)
    have hidx:∀w:World,(Instr.index 94 (.agg LA) (.int .i64 (i:Int))).run Tryz.prog w = .ok (.int .i64 (lv i:Nat)) w:=fun w=>Tb.run_index48 LA i _ w hlt (HLV.out i hlt)
    have HL:=Lib.hid hlt
    have k6:=HA.out.c6
    have HSU:=Lib.hid (lvL_succ lv i)
    by_cases hz:lv i=0
    ·have HS2:Hid ((lvL lv (i+1)).foldl (clm r.pg) c0=(lvL lv i).foldl (clm r.pg) c0):=Lib.hid (by rw [HSU.out,if_pos hz,List.append_nil])
     rw [hz] at hidx
     clear hlt hi4 hz HSU
     go_wp2_with fail
     go_roundw
     case rel=>exact⟨i+1,by have:=HL.out;omega,by go_num,by rw [HS2.out];exact HA⟩
     case measure=>have:=HL.out;simp [RowKit.intOf];omega
    ·have hnz:(((lv i:Nat):Int) == 0)=false:=by simpa using hz
     have hnz2:(((lv i:Nat):Int) != 0)=true:=by simpa using hz
     have HS2:Hid ((lvL lv (i+1)).foldl (clm r.pg) c0=clm r.pg ((lvL lv i).foldl (clm r.pg) c0) ((lv i:Nat):Int)):=Lib.hid (by rw [HSU.out,if_neg hz,List.foldl_append];rfl)
     have HCA:=Lib.hid (claim_any HA.out.cl ((lv i:Nat):Int))
     clear hlt hi4 hz HSU
     obtain⟨y,hy⟩:∃y,lv i=y:=⟨_,rfl⟩
     rw [hy] at hidx hnz hnz2 HCA HS2
     clear hy
     go_wp2_with (go_at_call 178;refine HCA.out.mono ?_;rintro e w5 ⟨rfl,hC5,hG5⟩)
     go_roundw
     case rel=>exact⟨i+1,by have:=HL.out;omega,by go_num,by rw [HS2.out];exact Lib.hid (HA.out.claim hC5 hG5)⟩
     case measure=>have:=HL.out;simp [RowKit.intOf];omega
   ·have hd:decide ((i:Int)<4)=false:=decide_eq_false (by omega)
    have hd2:decide (i<4)=false:=decide_eq_false (by omega)
    have HE:Hid (i=4):=Lib.hid (by omega)
    have k1:=HA.out.cl.c1
    have k8:wr.cell? ⟨g,8,none⟩=some (.pointer (some ⟨pt,0,none⟩)):=HA.out.cl.st.cell 8 _ rfl
    have HALL:=Lib.hid (Tb.all_any HA.out.cl.st.tab)
    clear hlt hi4
    go_wp2_with (go_at_call 93;refine HALL.out.mono ?_;rintro e w6 ⟨⟨Bs,g',rfl,hTo⟩,hb6⟩)
    have HA6:=Lib.hid (HA.out.below hb6)
    obtain⟨t1,t2,t3,t4,t5,t6⟩:=hTo
    have HSZ:Hid (wr.heap.size≤w6.heap.size):=Lib.hid hb6.size
    have HLT:Hid (∀k∈[B1,B2,B3,g,pt,gu,bu,B6],k<w6.heap.size∧k≠Bs∧k≠g'):=Lib.hid fun k hk=>by
     have h1:=HA.out.lt k hk
     exact⟨by omega,by omega,by omega⟩
    have HBW:Hid (w.heap.size≤w6.heap.size):=Lib.hid HA6.out.bel.size
    have HE2:Hid (lvL lv i=lvL lv 4):=Lib.hid (by rw [HE.out])
    obtain⟨c1,hc1⟩:∃c1,(lvL lv i).foldl (clm r.pg) c0=c1:=⟨_,rfl⟩
    rw [hc1] at HA HA6
    have HC1:=Lib.hid hc1
    have HTN:Hid (Bs≠g'):=Lib.hid t3
    clear HALL hb6 hc1 k1 k8 HA hd hd2
    refine(wpIn_wide (n:=5)).1 ?_
    refine wpIn_rangeFunc_ownG rfl (by omega) (gf:=151) (lb:=#[.pointer (some ⟨Bs,0,none⟩)]) rfl trivial (enters_of Tryz.func151 (by kernel_rfl) rfl)
     (Tb.all_stops 4 (by omega) Bs g' tb w6 t4 t5 t6) Tb.Two.trans (Tb.Two.put t4 t6.lt) (Below.refl _ _) (fun _=>rfl)
     (fun pre W=>Amid w W B1 B2 B3 B6 g pt gu bu pu r lv tb ((pre.map fun l=>((tb l:Nat):Int)).foldl (clm r.pg) c1)∧w6.heap.size≤W.heap.size)
     (fun _ _ _=>False)
     (fun pre W W' row hs hg hr=>⟨hs.1.grown hg (fun k hk e=>by have h1:=(hr k e.symm).1;have h2:=(HLT.out k hk).1;omega) (fun j e=>Nat.le_trans HBW.out (hr j e).1),Nat.le_trans hs.2 hg.size⟩)
     (fun c=>ownFrom_pure _ _)
     ⟨HA6.out,Nat.le_refl _⟩
     (fun x=>{ tmps:=#[.pointer (some ⟨g,0,none⟩),.pointer (some ⟨B1,0,none⟩),.pointer none,.bool false,.pointer (some ⟨B2,0,none⟩),.pointer (some ⟨B3,0,none⟩),.pointer (some ⟨B6,0,none⟩),undef,u8,undef,.int .i64 ((tb x:Nat):Int),u11,u12,u13,u14,u15,u16,u17,u18,u19,.pointer (some ⟨g,0,none⟩),.pointer (some ⟨g,0,none⟩),.pointer (some ⟨g,4,none⟩),.agg LA,.int .i64 (i:Int),.bool false,u26,u27,u28,u29,u30,u31,u32,.pointer (some ⟨g,0,none⟩),.pointer (some ⟨g,0,none⟩),.pointer (some ⟨g,8,none⟩),.pointer (some ⟨pt,0,none⟩),.func (.func 151) #[] #[.pointer (some ⟨Bs,0,none⟩)],.int .i64 (x:Int),.int .i64 ((tb x:Nat):Int),undef,undef,undef,undef,undef],defers:=[] }) ?assign ?body ?done ?stop
    case assign=>
     intro l x W K hK
     unfold Tb.tell
     gi_wp2
     first
      | exact hK
      | (simp;exact hK)
    case body=>
     rintro l pre x W ⟨hA,hWS⟩ hlen
     have HAW:=Lib.hid hA
     have k6:=hA.c6
     have HCA:=Lib.hid (claim_any hA.cl ((tb x:Nat):Int))
     have HFO:Hid (((pre++[x]).map fun l=>((tb l:Nat):Int)).foldl (clm r.pg) c1=clm r.pg ((pre.map fun l=>((tb l:Nat):Int)).foldl (clm r.pg) c1) ((tb x:Nat):Int)):=Lib.hid (by rw [List.map_append,List.foldl_append];rfl)
     clear hA hlen
     generalize tb x=y at *
     gi_wp2
     refine⟨trivial,(CallsIn.inRound l (callsIn_wide.2 HCA.out)).mono ?_⟩
     rintro e w7 ⟨rfl,hC7,hG7⟩
     have hsz:=hG7.size
     have h1:=(HLT.out bu (by simp)).1
     have h2:=(HLT.out B3 (by simp)).1
     have hoth:∀k,k≠bu→k≠B3→k<W.heap.size→w7.heap[k]?=W.heap[k]?:=fun k e1 e2 hk=>hG7.block k hk (by simp;exact⟨e1,e2⟩)
     have hKF:KeepsFrom w6.heap.size W w7:=⟨hsz,fun k o hB hk _=>(hoth k (by omega) (by omega) (Array.getElem?_eq_some_iff.1 hk).1).trans hk⟩
     have hFin:=HAW.out.claim hC7 hG7
     rw [←HFO.out] at hFin
     have hTw:Tb.Two Bs g' W w7:=⟨hoth Bs (fun e=>(HLT.out bu (by simp)).2.1 e.symm) (fun e=>(HLT.out B3 (by simp)).2.1 e.symm) (by omega),hoth g' (fun e=>(HLT.out bu (by simp)).2.2 e.symm) (fun e=>(HLT.out B3 (by simp)).2.2 e.symm) (by have:=t6.lt;omega)⟩
     gi_wp2
     exact⟨hKF,hTw,hFin,by omega⟩
    case done=>
     rintro D ys W hD rfl ⟨hA,hWS⟩ hK
     have HPG:Hid (pgsM r lv tb=((Tb.mems (Tb.told tb) 512).map fun l=>((tb l:Nat):Int)).foldl (clm r.pg) c1):=Lib.hid (by
      unfold pgsM claims
      rw [List.foldl_cons,List.foldl_append,HC0.out,←HC1.out,HE2.out];rfl)
     have k4:=hA.cl.c2
     have k5:=hA.cl.c3
     have HAW:=Lib.hid hA
     have HK:=Lib.hid hK
     have HBF:Hid (Below w6.heap.size W (W.putObj D (.deferred none))):=Lib.hid (belowK_b (w:=w6) (Nat.le_refl _) W D _ (.deferred none) hD hK rfl rfl)
     clear hA hK
     rw [←HPG.out] at k5 HAW
     obtain⟨PG,hPG⟩:∃PG,pgsM r lv tb=PG:=⟨_,rfl⟩
     rw [hPG] at k5 HAW
     have HPG2:=Lib.hid hPG
     clear hPG HPG
     go_wp2_with fail
     go_quiet (fail)
     have hbq:Below W.heap.size W (W.drewN nq):=below_drewN (Below.refl _ _) nq
     have hDl:D<W.heap.size:=(Array.getElem?_eq_some_iff.1 HK.out).1
     have HKq:Hid ((W.drewN nq).heap[D]?=some (.deferred (some []))):=Lib.hid ((hbq.block D hDl).trans HK.out)
     have HAq:=Lib.hid (HAW.out.below hbq)
     have HBq:Hid (Below w6.heap.size (W.drewN nq) ((W.drewN nq).putObj D (.deferred none))):=Lib.hid (belowK_b (w:=w6) (Nat.le_refl _) _ D _ (.deferred none) hD HKq.out rfl rfl)
     clear hbq HAW HBF
     generalize W.drewN nq=Wq at *
     go_wp2_with fail
     refine⟨by simp,.inl ⟨_,_,rfl,run_takeDeferred HKq.out,?_⟩⟩
     have hfin:Amid w (Wq.putObj D (.deferred none)) B1 B2 B3 B6 g pt gu bu pu r lv tb PG:=HAq.out.grown (grownBy_putObj' Wq D _) (fun k hk e=>by have h2:=(HLT.out k hk).1;injection e with e;omega) (fun j e=>by cases e;exact Nat.le_trans HBW.out hD)
     refine⟨.tuple #[.pointer (some ⟨gu,0,none⟩),.bool PG.2],?_,⟨gu,bu,by rw [HPG2.out],HGU2.out,hfin.hi.1,by rw [HPG2.out];exact hfin.cl.sat⟩,hfin.bel⟩
     simp [results,Tryz.f142,go_sem]
    case stop=>
     rintro D cd pre W hD _ hf hK
     exact hf.elim
end
end
section
set_option maxRecDepth 20000
open Go.RowKit
theorem conv_bytes (w:World) (b:List Nat) (hd:∀x∈b,x<256) (hn:b.length≤1099511627776) :
  ∃cap W',(convert 9 71 (.string (strB b))).run Tryz.prog w = .ok (.slice (some ⟨w.heap.size,0,none⟩) b.length cap) W'∧Below w.heap.size w W'∧Bys W' (some ⟨w.heap.size,0,none⟩) b.length b∧b.length≤cap∧cap≤9223372036854775807:=by
 have hrun:=run_bytes_of_string (P:=Tryz.prog) w 9 71 5 (strB b) Tryz.underlying9 Tryz.underlying71 Tryz.underlying5
 rw [strB_size] at hrun
 have hc1:=grownCap_ge w b.length 0 5
 have hc2:=grownCap_le_maxLen w b.length 0 5 (by unfold maxLen;omega)
 refine⟨_,_,hrun,(Below.refl _ _).drew.alloc (Nat.le_refl _) _,⟨rfl,hd,fun _=>⟨w.heap.size,0,rfl,fun i hi=>?_⟩⟩,hc1,by unfold maxLen at hc2;omega⟩
 rw [Nat.zero_add]
 show (w.drew.alloc _).cell? ⟨w.drew.heap.size,i,none⟩=_
 rw [cell_of_row _ _ _ _ _ _ (heap_alloc_new w.drew _)]
 unfold bytesRow
 have hsz:((strB b).data.map (fun c=>Value.int .u8 (c.toNat:Int))).size=b.length:=by
  rw [Array.size_map];exact strB_size b
 rw [Array.getElem?_append_left (by rw [hsz];exact hi),Array.getElem?_map,strB_get b i hi]
 have h3:b.getD i 0<256:=by
  rw [List.getD_eq_getElem?_getD,List.getElem?_eq_getElem hi]
  exact hd _ (List.getElem_mem _)
 simp only [Option.map_some]
 rw [UInt8.toNat_ofNat_of_lt' h3]
theorem pageB_ok {m:Dsk} (h:Ok m) (p:Nat) (hp:4*p+4≤m.out.length):(pageB m.last p).length=512∧∀x∈pageB m.last p,x<256:=by
 have hs:∀j,j<4→(sec m.last (4*p+j)).length=128∧∀d∈sec m.last (4*p+j),d<256:=fun j hj=>h.last _ (sec_mem (by rw [last_len];omega))
 have hL:∀i,i≤4→(cat (fun j=>sec m.last (4*p+j)) i).length=i*128∧∀x∈cat (fun j=>sec m.last (4*p+j)) i,x<256:=by
  intro i
  induction i with
  | zero=>exact fun _=>⟨rfl,fun x hx=>by cases hx⟩
  | succ i ih=>
   intro hi
   have h1:=ih (by omega)
   have h2:=hs i (by omega)
   refine⟨?_,fun x hx=>?_⟩
   ·show (cat _ i++sec m.last (4*p+i)).length=_
    rw [List.length_append,h1.1,h2.1];omega
   ·rcases List.mem_append.1 (show x∈cat (fun j=>sec m.last (4*p+j)) i++sec m.last (4*p+i) from hx) with hx | hx
    ·exact h1.2 x hx
    ·exact h2.2 x hx
 exact hL 4 (by omega)
def leafM (m:Dsk) (r:Rt) (lv tb:Nat→Nat) (i:Nat):Int × (Nat→Nat):=
 if lv i=0 then (0,tb) else if r.pg≤((lv i:Nat):Int) then (13,tb)
 else if Tb.loadE (i:Int) (pageB m.last (lv i))≠0 then (13,tb) else if Tb.bareB (Tb.loadF tb (i:Int) (pageB m.last (lv i))) i then (13,Tb.loadF tb (i:Int) (pageB m.last (lv i))) else (0,Tb.loadF tb (i:Int) (pageB m.last (lv i)))
section
variable {w:World} {g pt d:Nat} {pu:Option Addr} {r:Rt} {lv tb:Nat→Nat} {F:List Nat} {m:Dsk}
set_option maxHeartbeats 1600000 in
theorem loadLeaf_any (h:Stt w g pt pu r lv tb) (hD:Dk w d F m) (hd:m.down=false) (hl:m.out.length≤2048) (hpg:r.pg*4≤(m.out.length:Int)) (i:Nat) (hi:i<4) (hlv:lv i<512) :
  Calls Tryz.prog 149 #[.pointer (some ⟨g,0,none⟩),.pointer (some ⟨d,0,none⟩),.int .i64 (i:Int)] w fun e w'=>e = .returned (.int .i64 (leafM m r lv tb i).1)∧Tb.Tab w' pt (leafM m r lv tb i).2∧Only pt w w':=by
 have kl:w.cell? ⟨g,4+i,none⟩=some (.int .i64 (lv i:Nat)):=h.cell (4+i) _ (by rcases (show i=0∨i=1∨i=2∨i=3 by omega) with rfl | rfl | rfl | rfl <;> rfl)
 have k1:w.cell? ⟨g,1,none⟩=some (.int .i64 r.pg):=h.cell 1 _ rfl
 have k8:w.cell? ⟨g,8,none⟩=some (.pointer (some ⟨pt,0,none⟩)):=h.cell 8 _ rfl
 have HX:=Lib.hid h
 have HE:Hid (leafM m r lv tb i=if lv i=0 then (0,tb) else if r.pg≤((lv i:Nat):Int) then (13,tb)
  else if Tb.loadE (i:Int) (pageB m.last (lv i))≠0 then (13,tb) else if Tb.bareB (Tb.loadF tb (i:Int) (pageB m.last (lv i))) i then (13,Tb.loadF tb (i:Int) (pageB m.last (lv i))) else (0,Tb.loadF tb (i:Int) (pageB m.last (lv i)))):=Lib.hid rfl
 rw [HE.out]
 have HT:=Lib.hid h.tab
 have hli:=hlv
 have hi5:(i:Int)<4:=by omega
 have hi6:(0:Int)≤(i:Int):=by omega
 have HI:=Lib.hid hi
 clear h hlv HE
 by_cases hz:lv i=0
 ·rw [if_pos hz]
  rw [hz] at kl
  clear hz hD hd hl hpg hli
  go_enter Tryz.func149,Tryz.ntmps149
  go_wp2_with fail
  go_ret
  exact⟨rfl,HT.out,Only.refl _ _⟩
 ·rw [if_neg hz]
  have hnz:(((lv i:Nat):Int) == 0)=false:=by simpa using hz
  by_cases hp:r.pg≤((lv i:Nat):Int)
  ·rw [if_pos hp]
   have hd1:decide (r.pg≤((lv i:Nat):Int))=true:=decide_eq_true hp
   have hd2:decide (((lv i:Nat):Int) ≥ r.pg)=true:=decide_eq_true hp
   clear hz hD hd hl hpg hli
   generalize lv i=y at *
   generalize r.pg=pg at *
   go_enter Tryz.func149,Tryz.ntmps149
   go_wp2_with fail
   go_ret
   exact⟨rfl,HT.out,Only.refl _ _⟩
  ·rw [if_neg hp]
   have hd1:decide (r.pg≤((lv i:Nat):Int))=false:=decide_eq_false hp
   have hd2:decide (((lv i:Nat):Int) ≥ r.pg)=false:=decide_eq_false hp
   have HRP:=Lib.hid (readPage_up hD (lv i) hd (by omega) hl)
   obtain⟨hb1,hb2⟩:=pageB_ok hD.ok (lv i) (by omega)
   generalize pageB m.last (lv i)=bs at *
   obtain⟨cap,W1,hrun,hbW,hBy,hc1,hc2⟩:=conv_bytes w bs hb2 (by omega)
   rw [hb1] at hrun hBy hc1
   have HB1:=Lib.hid hbW
   have j8:=(hbW.cell (p:=⟨g,8,none⟩) HX.out.lt).trans k8
   have hTL:=Tb.load_any (HT.out.below hbW) (i:Int) (some ⟨w.heap.size,0,none⟩) 512 cap bs hBy hc1 hc2
   have HTL:=Lib.hid hTL
   have HKG:Hid (∀w2,Only pt W1 w2→w2.cell? ⟨g,8,none⟩=some (.pointer (some ⟨pt,0,none⟩))):=Lib.hid fun w2 ho=>by
    have hg1:g<W1.heap.size:=Nat.lt_of_lt_of_le HX.out.lt hbW.size
    have hne:g≠pt:=fun e=>by
     have h1:=HX.out.box
     have h2:=HT.out.row
     unfold Tb.IsT at h2
     rw [e,h2] at h1;simp at h1
    exact(World.cell?_of_block (ho.block g hg1 hne)).trans j8
   have hLF:Tb.loadE (i:Int) bs≠0→Tb.loadF tb (i:Int) bs=tb:=fun e=>by unfold Tb.loadF;rw [if_neg e]
   have HLF:=Lib.hid hLF
   clear hz hD hd hl hpg hp hb1 hb2 hbW hBy hc1 hc2 hTL hLF
   generalize Tb.loadF tb (i:Int) bs=t2 at *
   obtain⟨E,hE⟩:∃E,Tb.loadE (i:Int) bs=E:=⟨_,rfl⟩
   rw [hE] at HTL HLF ⊢
   clear hE
   obtain⟨S,hS⟩:∃S,strB bs=S:=⟨_,rfl⟩
   rw [hS] at HRP hrun
   clear hS
   generalize lv i=y at *
   generalize r.pg=pg at *
   by_cases h0:E=0
   ·subst h0
    rw [if_neg (by decide)]
    cases hba:Tb.bareB t2 i with
    | true=>
     have HBA:Hid (∀w2,Tb.Tab w2 pt t2→Calls Tryz.prog 140 #[.pointer (some ⟨pt,0,none⟩),.int .i64 (i:Int)] w2 fun e w'=>e = .returned (.bool true)∧w2=w'):=Lib.hid fun w2 hT=>by
      have h1:=Tb.bare_in hT i HI.out
      rwa [hba] at h1
     rw [if_pos rfl]
     clear hba HLF
     go_enter Tryz.func149,Tryz.ntmps149
     go_wp2_with (first
      | (go_at_call 78;refine HRP.out.mono ?_;rintro e w7 ⟨rfl,rfl⟩)
      | (go_at_call 192;refine HTL.out.mono ?_;rintro e w2 ⟨rfl,hT2,hO2⟩;have m8:=HKG.out w2 hO2)
      | (go_at_call 140;refine(HBA.out _ hT2).mono ?_;rintro e w7 ⟨rfl,rfl⟩))
     go_ret
     exact⟨rfl,hT2,(Only.of_below HB1.out).trans hO2⟩
    | false=>
     have HBA:Hid (∀w2,Tb.Tab w2 pt t2→Calls Tryz.prog 140 #[.pointer (some ⟨pt,0,none⟩),.int .i64 (i:Int)] w2 fun e w'=>e = .returned (.bool false)∧w2=w'):=Lib.hid fun w2 hT=>by
      have h1:=Tb.bare_in hT i HI.out
      rwa [hba] at h1
     rw [if_neg (by decide)]
     clear hba HLF
     go_enter Tryz.func149,Tryz.ntmps149
     go_wp2_with (first
      | (go_at_call 78;refine HRP.out.mono ?_;rintro e w7 ⟨rfl,rfl⟩)
      | (go_at_call 192;refine HTL.out.mono ?_;rintro e w2 ⟨rfl,hT2,hO2⟩;have m8:=HKG.out w2 hO2)
      | (go_at_call 140;refine(HBA.out _ hT2).mono ?_;rintro e w7 ⟨rfl,rfl⟩))
     go_ret
     exact⟨rfl,hT2,(Only.of_below HB1.out).trans hO2⟩
   ·rw [if_pos h0]
    have hb0:(E == 0)=false:=by simpa using h0
    have hb00:(E != 0)=true:=by simpa using h0
    have HTB:=Lib.hid (HLF.out h0)
    clear h0 HLF
    go_enter Tryz.func149,Tryz.ntmps149
    go_wp2_with (first
     | (go_at_call 78;refine HRP.out.mono ?_;rintro e w7 ⟨rfl,rfl⟩)
     | (go_at_call 192;refine HTL.out.mono ?_;rintro e w2 ⟨rfl,hT2,hO2⟩))
    go_ret
    exact⟨rfl,by rw [←HTB.out];exact hT2,(Only.of_below HB1.out).trans hO2⟩
end
end
section
set_option maxRecDepth 20000
open Go.RowKit
def txL (f:Nat→List Nat) (n:Nat):List Value:=(List.range n).map fun i=>Value.string (strB (f i))
theorem txL_snoc (f:Nat→List Nat) (n:Nat):txL f (n+1)=txL f n++[.string (strB (f n))]:=by unfold txL;rw [List.range_succ,List.map_append];rfl
theorem txL_get (f:Nat→List Nat) (n i:Nat) (h:i<n):(txL f n)[i]?=some (.string (strB (f i))):=by
 unfold txL;rw [List.getElem?_map,List.getElem?_range h];rfl
def OwnT (w:World) (B:Nat) (v:Value) (f:Nat→List Nat) (n:Nat):Prop:=∃p c,v = .slice p n c∧w.ownsRow B 9 1 (.slice p n c) n (txL f n)
theorem OwnT.below {w w':World} {B n:Nat} {v:Value} {f:Nat→List Nat} (h:OwnT w B v f n) (hb:Below w.heap.size w w'):OwnT w' B v f n:=by
 obtain⟨p,c,e,h⟩:=h
 exact⟨p,c,e,own_below h hb⟩
def chkB (ds:List Nat) (i:Nat):List Nat:=pageT ((ds.drop (512*i)).take 512)
def chkN (n:Nat):Nat:=if n=0 then 1 else (n+511) / 512
theorem chk_full {ds:List Nat} {i:Nat} (h:512*i+512≤ds.length):chkB ds i=(ds.drop (512*i)).take 512:=by
 unfold chkB pageT
 have hl:((ds.drop (512*i)).take 512).length=512:=by rw [List.length_take,List.length_drop];omega
 rw [hl,Nat.sub_self,List.replicate_zero,List.append_nil]
theorem chk_last {ds:List Nat} {i:Nat} (h:ds.length≤512*i+512):chkB ds i=pageT (ds.drop (512*i)):=by
 unfold chkB
 rw [List.take_of_length_le (by rw [List.length_drop];omega)]
theorem info9z:(Tryz.prog.info? 9).map (fun i=>(i.zero,i.size,i.bytes))=some (some (.string ⟨#[]⟩),1,16):=by kernel_rfl
set_option maxHeartbeats 3200000 in
theorem chunks_any (S:ByteArray) (ds:List Nat) (w:World) (hS:IsS S ds) (hl:ds.length≤100000) :
  Calls Tryz.prog 103 #[.string S] w fun e w'=>∃v,e = .returned v∧OwnT w' w.heap.size v (chkB ds) (chkN ds.length)∧Below w.heap.size w w':=by
 obtain⟨i0,hi,hz0,hz1,hz2⟩:=info_parts info9z
 have HI:=Lib.hid hi
 have HZ0:=Lib.hid hz0
 have HZ1:=Lib.hid hz1
 have HZ2:=Lib.hid hz2
 obtain⟨D,hD⟩:∃D,ds.length=D:=⟨_,rfl⟩
 have HD:=Lib.hid hD
 have HS:=Lib.hid hS
 rw [hD] at hl ⊢
 clear hi hz0 hz1 hz2 hS hD
 have hlI:(D:Int)≤100000:=by omega
 go_enter Tryz.func103,Tryz.ntmps103
 go_upto_region 2 with fail
 go_loopw [0,3] (fun sv bv wr=>∃i:Nat,Hid (512*i≤D∧(0<D→512*i<D))∧Hid (∃T,sv = .string T∧IsS T (ds.drop (512*i)))∧Hid (OwnT wr w.heap.size bv (chkB ds) i∧Below w.heap.size w wr)) (fun sv _ _=>match sv with | .string T=>T.size | _=>0)
 case atStart=>exact⟨0,Lib.hid ⟨by omega,fun h=>h⟩,Lib.hid ⟨S,rfl,by rw [Nat.mul_zero,List.drop_zero];exact HS.out⟩,Lib.hid ⟨⟨none,0,rfl,World.ownsRow_nil _ _ _ _⟩,Below.refl _ _⟩⟩
 case round=>
  obtain⟨i,hi,hsv,hr⟩:=hrel
  obtain⟨T,eT,hT⟩:=hsv.out
  subst eT
  have hTs:=hT.size
  rw [List.length_drop,HD.out] at hTs
  have HT:=Lib.hid hT
  clear hsv hT
  have hi2:=hi.out.1
  obtain⟨R,hR⟩:∃R,D - 512*i=R:=⟨_,rfl⟩
  rw [hR] at hTs
  have hRl:R≤100000:=by omega
  have hRI:(R:Int)≤100000:=by omega
  obtain⟨⟨p3,c3,e3,hrow⟩,hbel⟩:=hr.out
  subst e3
  have HROW:=Lib.hid hrow
  have HBEL:=Lib.hid hbel
  clear hr hrow hbel
  by_cases hlt:512<R
  ·have hd:decide ((512:Int)<(R:Int))=true:=decide_eq_true (by omega)
   have h512:(512:Int)≤(R:Int):=by omega
   have HPC:Hid (T.extract 0 512=strB (chkB ds i)):=Lib.hid (by
    have h:=(HT.out.ext 0 512).eq
    rw [h,List.drop_zero,Nat.sub_zero,chk_full (by rw [HD.out];omega)])
   have HRS:Hid (IsS (T.extract 512 R) (ds.drop (512*(i+1)))):=Lib.hid (by
    have h:=HT.out.ext 512 R
    rw [List.drop_drop,List.take_of_length_le (by rw [List.length_drop,HD.out];omega)] at h
    rw [Nat.mul_add,Nat.mul_one]
    exact h)
   have HRZ:Hid ((T.extract 512 R).size<T.size):=Lib.hid (by rw [ByteArray.size_extract];omega)
   have HNX:Hid (512*(i+1)≤D∧(0<D→512*(i+1)<D)):=Lib.hid ⟨by omega,fun _=>by omega⟩
   have HROW1:=Lib.hid (HROW.out.alloc (.cells #[.string (T.extract 0 512)] 9))
   have HBB:Hid (Below w.heap.size w (wr.alloc (.cells #[.string (T.extract 0 512)] 9))):=Lib.hid (HBEL.out.alloc HBEL.out.size _)
   have HBS:Hid (w.heap.size≤(wr.alloc (.cells #[.string (T.extract 0 512)] 9)).heap.size):=Lib.hid (Nat.le_trans HBEL.out.size (by simp))
   have HON:Hid (∀u∈[Value.string (T.extract 0 512)],u.oneCell'=true):=Lib.hid fun u hu=>by cases List.mem_singleton.1 hu;rfl
   have H63:Hid (i+1≤maxLen):=Lib.hid (by unfold maxLen;omega)
   have Hi16:Hid ((i+1)*16≤140737488355328):=Lib.hid (by omega)
   have HR1:=Lib.hid hR
   clear hR hi2
   go_upto_region 3 with fail
   go_upto_region 4 with (at_builtin;refine wpList_append_own _ rfl (.tmp 7) (.tmp 10) 163 rfl w.heap.size 9 i0 (.string ⟨#[]⟩) 1 16 Tryz.underlying163 HI.out HZ0.out HZ1.out HZ2.out rfl (by decide) (.slice p3 i c3) i _ (by rfl) HROW1.out ⟨wr.heap.size,0,none⟩ 1 1 [.string (T.extract 0 512)] (by rfl) rfl (World.news_of_block (heap_alloc_new _ _)) HON.out H63.out Hi16.out HBS.out ?_;intro v2 w2 hown2 hgrow2 _)
   have HR2:Hid (OwnT w2 w.heap.size v2 (chkB ds) (i+1)∧Below w.heap.size w w2):=Lib.hid (by
    obtain⟨p4,c4,e4⟩:=Sl.own_form hown2
    subst e4
    refine⟨⟨p4,c4,rfl,?_⟩,HBB.out.grown hgrow2 HBS.out (fun k e=>(HROW1.out.lt k e).1)⟩
    rw [txL_snoc,←HPC.out]
    exact hown2)
   clear hown2 hgrow2 HBB HROW1 HBS HON
   go_wp2_with fail
   go_roundw
   case rel=>exact⟨i+1,HNX,Lib.hid ⟨_,rfl,HRS.out⟩,HR2⟩
   case measure=>exact HRZ.out
  ·have hd:decide ((512:Int)<(R:Int))=false:=decide_eq_false (by omega)
   have HN:Hid (chkN D=i+1):=Lib.hid (by
    have h2:=hi.out.2
    unfold chkN
    by_cases h0:D=0
    ·rw [if_pos h0];omega
    ·rw [if_neg h0]
     have:=h2 (by omega)
     omega)
   have HLAST:Hid (chkB ds i=pageT (ds.drop (512*i))):=Lib.hid (chk_last (by rw [HD.out];omega))
   have hlen:(ds.drop (512*i)).length=R:=by rw [List.length_drop,HD.out,hR]
   obtain⟨cap,W4,hcv,hb4,hB4,hc1,hc2⟩:=conv_bytes wr (ds.drop (512*i)) HT.out.dig (by omega)
   rw [←HT.out.eq,hlen] at hcv
   rw [hlen] at hB4
   have HPT:=Lib.hid (pageText_any _ R cap (ds.drop (512*i)) W4 (by omega) hB4)
   have HB4:=Lib.hid hb4
   clear hb4 hB4 hc1 hc2 hi hi2 hR
   have Hi1:Hid (i≤1000):=Lib.hid (by have:=HN.out;unfold chkN at this;split at this <;> omega)
   go_upto_region 5 with fail
   have HW4:Hid (Below w.heap.size w W4):=Lib.hid (HBEL.out.trans (HB4.out.mono HBEL.out.size))
   have HK5:Hid (∀w5,Below W4.heap.size W4 w5→(w5.alloc (.cells #[.string (strB (chkB ds i))] 9)).ownsRow w.heap.size 9 1 (.slice p3 i c3) i (txL (chkB ds) i)∧Below w.heap.size w (w5.alloc (.cells #[.string (strB (chkB ds i))] 9))∧w.heap.size≤(w5.alloc (.cells #[.string (strB (chkB ds i))] 9)).heap.size):=Lib.hid fun w5 hb5=>by
    have h1:Below w.heap.size w w5:=HW4.out.trans (hb5.mono HW4.out.size)
    exact⟨(own_below (own_below HROW.out HB4.out) hb5).alloc _,h1.alloc h1.size _,Nat.le_trans h1.size (by simp)⟩
   have HON:Hid (∀u∈[Value.string (strB (chkB ds i))],u.oneCell'=true):=Lib.hid fun u hu=>by cases List.mem_singleton.1 hu;rfl
   have H63:Hid (i+1≤maxLen):=Lib.hid (by have:=Hi1.out;unfold maxLen;omega)
   have Hi16:Hid ((i+1)*16≤140737488355328):=Lib.hid (by have:=Hi1.out;omega)
   rw [←HLAST.out] at HPT
   obtain⟨X,hX⟩:∃X,strB (chkB ds i)=X:=⟨_,rfl⟩
   have HX:=Lib.hid hX
   rw [hX] at HPT HK5 HON
   clear hX
   go_wp2_with (first
    | (go_at_call 120;with_reducible refine HPT.out.mono ?_;rintro e w5 ⟨rfl,hb5⟩;obtain⟨r1,r2,r3⟩:=HK5.out w5 hb5;have HR1:=Lib.hid r1;have HR2:=Lib.hid r2;have HR3:=Lib.hid r3;clear r1 r2 r3 hb5)
    | (at_builtin;refine wpList_append_own _ rfl (.tmp 14) (.tmp 18) 163 rfl w.heap.size 9 i0 (.string ⟨#[]⟩) 1 16 Tryz.underlying163 HI.out HZ0.out HZ1.out HZ2.out rfl (by decide) (.slice p3 i c3) i _ (by rfl) HR1.out ⟨_,0,none⟩ 1 1 [.string X] (by rfl) rfl (World.news_of_block (heap_alloc_new _ _)) HON.out H63.out Hi16.out HR3.out ?_;intro v2 w2 hown2 hgrow2 _))
   go_ret
   refine⟨v2,rfl,?_,HR2.out.grown hgrow2 HR3.out (fun k e=>(HR1.out.lt k e).1)⟩
   obtain⟨p4,c4,e4⟩:=Sl.own_form hown2
   subst e4
   rw [HN.out]
   refine⟨p4,c4,rfl,?_⟩
   rw [txL_snoc,HX.out]
   exact hown2
end
section
set_option maxRecDepth 20000
open Go.RowKit
def OwnP (w:World) (B:Nat) (v:Value) (n:Nat) (F:Nat→Nat):Prop:=w.ownsRow B 82 129 v n (Tb.ints F 0 (n*129))
theorem OwnP.form {w:World} {B:Nat} {v:Value} {n:Nat} {F:Nat→Nat} (h:OwnP w B v n F):∃p c,v = .slice p n c∧(0<n→∃b,p=some ⟨b,0,none⟩∧b<w.heap.size∧(∀j,j<n*129→w.cell? ⟨b,j,none⟩=some (.int .i64 ((F j:Nat):Int)))):=by
 have h0:=h
 rcases h.2 with ⟨e,hn⟩ | ⟨g,cap,cur,e,hb,hh,h1,h2,h3,h4⟩
 ·subst hn
  exact⟨none,0,e,fun h=>absurd h (Nat.lt_irrefl 0)⟩
 ·refine⟨_,cap,e,fun hn=>⟨g,rfl,(World.ownsRow.lt h0 g (by rw [e];rfl)).2,fun j hj=>?_⟩⟩
  rw [cell_of_row _ _ _ _ _ _ hh]
  have h5:=Tb.ints_get F 0 (n*129) j hj
  rw [←h4,List.getElem?_take,if_pos (by omega),Nat.zero_add] at h5
  simpa using h5
structure Sth (w:World) (g sg mb:Nat) (v:Value) (n:Nat) (F:Nat→Nat) (shut:Bool):Prop where
 row:w.heap[g]?=some (.cells #[.pointer (some ⟨sg,0,none⟩),v,.map (some mb),.bool shut] 78 (0,0))
 own:OwnP w 0 v n F
 n64:n≤64
section
variable {w w':World} {g sg mb n:Nat} {v:Value} {F:Nat→Nat} {sh:Bool}
theorem Sth.lt (h:Sth w g sg mb v n F sh):g<w.heap.size:=lt_of_block h.row
theorem Sth.below (h:Sth w g sg mb v n F sh) (hb:Below w.heap.size w w'):Sth w' g sg mb v n F sh:=⟨(hb.block g h.lt).trans h.row,own_below h.own hb,h.n64⟩
theorem Sth.c0 (h:Sth w g sg mb v n F sh):w.cell? ⟨g,0,none⟩=some (.pointer (some ⟨sg,0,none⟩)):=by rw [cell_of_row w g 0 _ _ _ h.row];rfl
theorem Sth.c1 (h:Sth w g sg mb v n F sh):w.cell? ⟨g,1,none⟩=some v:=by rw [cell_of_row w g 1 _ _ _ h.row];rfl
theorem Sth.c2 (h:Sth w g sg mb v n F sh):w.cell? ⟨g,2,none⟩=some (.map (some mb)):=by rw [cell_of_row w g 2 _ _ _ h.row];rfl
theorem Sth.c3 (h:Sth w g sg mb v n F sh):w.cell? ⟨g,3,none⟩=some (.bool sh):=by rw [cell_of_row w g 3 _ _ _ h.row];rfl
theorem Sth.refusal (h:Sth w g sg mb v n F sh):Calls Tryz.prog 42 #[.pointer (some ⟨g,0,none⟩)] w fun e w'=>e = .returned (.int .i64 (if sh then 12 else 0))∧w=w':=by
 have c3:=h.c3
 clear h
 cases sh
 ·go_enter Tryz.func42,Tryz.ntmps42
  go_wp2_with fail
  go_ret
  exact⟨rfl,rfl⟩
 ·go_enter Tryz.func42,Tryz.ntmps42
  go_wp2_with fail
  go_ret
  exact⟨rfl,rfl⟩
theorem Sth.lacksPart (h:Sth w g sg mb v n F sh) (k:Int):Calls Tryz.prog 98 #[.pointer (some ⟨g,0,none⟩),.int .i64 k] w fun e w'=>e = .returned (.bool (decide ((n:Int)*128<k)))∧w=w':=by
 have c1:=h.c1
 obtain⟨p,c,rfl,-⟩:=h.own.form
 have h64:(n:Int)≤64:=by have:=h.n64;omega
 clear h
 go_enter Tryz.func98,Tryz.ntmps98
 go_wp2_with fail
 go_ret
 exact⟨rfl,rfl⟩
def spF (F:Nat→Nat) (k:Nat):Nat:=F (k / 128*129+1+k % 128)
def spotN (F:Nat→Nat) (n:Nat) (k:Int):Nat:=if 1≤k∧k≤(n:Int)*128 then spF F (k - 1).toNat else 0
set_option maxHeartbeats 800000 in
theorem Sth.spot (h:Sth w g sg mb v n F sh) (k:Int):Calls Tryz.prog 70 #[.pointer (some ⟨g,0,none⟩),.int .i64 k] w fun e w'=>e = .returned (.int .i64 ((spotN F n k:Nat):Int))∧w=w':=by
 have c1:=h.c1
 obtain⟨p,c,rfl,hp⟩:=h.own.form
 have h64:(n:Int)≤64:=by have:=h.n64;omega
 have HP:=Lib.hid hp
 clear h hp
 by_cases h1:k<1
 ·have hd:decide (k<1)=true:=decide_eq_true h1
  have HS:Hid (spotN F n k=0):=Lib.hid (if_neg (by omega))
  go_enter Tryz.func70,Tryz.ntmps70
  go_wp2_with fail
  go_ret
  exact⟨by rw [HS.out];rfl,rfl⟩
 ·have hd:decide (k<1)=false:=decide_eq_false h1
  by_cases h2:(n:Int)*128<k
  ·have hd2:decide ((n:Int)*128<k)=true:=decide_eq_true h2
   have HS:Hid (spotN F n k=0):=Lib.hid (if_neg (by omega))
   go_enter Tryz.func70,Tryz.ntmps70
   go_wp2_with fail
   go_ret
   exact⟨by rw [HS.out];rfl,rfl⟩
  ·have hd2:decide ((n:Int)*128<k)=false:=decide_eq_false h2
   obtain⟨m,hm⟩:∃m:Nat,k=(m:Int)+1:=⟨(k - 1).toNat,by omega⟩
   have hmn:m<n*128:=by omega
   obtain⟨b,rfl,hb,hcell⟩:=HP.out (by omega)
   have hq1:m / 128<n:=by omega
   have hq2:m % 128<128:=Nat.mod_lt _ (by decide)
   have hcl:=hcell (m / 128*129+1+m % 128) (by have:=Nat.mul_le_mul_right 129 (show m / 128+1≤n by omega);omega)
   have HS:Hid (spotN F n k=F (m / 128*129+1+m % 128)):=Lib.hid (by
    unfold spotN spF
    rw [if_pos (by omega),hm,show ((m:Int)+1 - 1).toNat=m by omega])
   have HPL:=Lib.hid (placeOf_any m w (by omega))
   rw [←hm] at HPL
   have hk1:k≤8192:=by omega
   have hk0:1≤k:=by omega
   have hi1:((m / 128:Nat):Int)<(n:Int):=by omega
   have hi2:((m % 128:Nat):Int)<128:=by omega
   rw [HS.out]
   generalize F (m / 128*129+1+m % 128)=x at *
   generalize m / 128=q at *
   generalize m % 128=r at *
   clear HP hcell hmn hm h1 h2 HS
   go_enter Tryz.func70,Tryz.ntmps70
   go_wp2_with (go_at_call 113;with_reducible refine HPL.out.mono ?_;rintro e w7 ⟨rfl,rfl⟩)
   go_ret
   exact⟨rfl,rfl⟩
end
end
end Go.Proofs.YtmbecjlioogbhaaGreatDoor
